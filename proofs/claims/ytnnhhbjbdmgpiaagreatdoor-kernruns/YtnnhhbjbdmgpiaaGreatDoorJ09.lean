/- Texts of the proofs: NewW. -/
import Derived.Test.YtnnhhbjbdmgpiaaGreatDoorJ06
set_option linter.unusedSimpArgs false
set_option linter.unusedVariables false
namespace Go.Proofs.YtnnhhbjbdmgpiaaGreatDoor
set_option maxRecDepth 100000
set_option maxHeartbeats 4000000
open Lib (hid)
section
open Go.RowKit
def iM{α:Type}(sz:Nat)(enc:α→List Value)(t:TypeId)(n:Nat)(x:α)(B:Nat)(v:Value)(w:World):Prop:=∃g,v = .slice (some ⟨g,0,none⟩) n n∧Bk sz enc w g t (List.replicate n x)∧B≤g
theorem iM.keep{α:Type}{sz:Nat}{enc:α→List Value}{t:TypeId}{n:Nat}{x:α}{B:Nat}{v:Value}{w w':World}(h:iM sz enc t n x B v w)(hb:Below w.heap.size w w'):iM sz enc t n x B v w':=by
 obtain⟨g,h1,h2,h3⟩:=h
 exact⟨g,h1,h2.below hb h2.lt,h3⟩
theorem iM.off_{α:Type}{sz:Nat}{enc:α→List Value}{t:TypeId}{n:Nat}{x:α}{B:Nat}{v:Value}{w:World}(h:iM sz enc t n x B v w){g:Nat}{cs:List Value}{t':TypeId}(hg:Wb w g t' cs)(hne:t≠t')(i:Nat)(u:Value):iM sz enc t n x B v (w.setCell ⟨g,i,none⟩ u):=by
 obtain⟨g',h1,h2,h3⟩:=h
 exact⟨g',h1,h2.off_ (p:=⟨g,i,none⟩) (h2.wb hg hne) u,h3⟩
def iV(B:Nat)(i:Nat)(u:Nat→Value)(w:World):Prop:=match i with
 | 0=>iM 1 encZ fD 1024 0 B (u 3) w
 | 1=>iM 4 dA bu 8 Cf.bM B (u 4) w
 | 2=>iM 1 iC lX 6 [] B (u 5) w
 | 3=>iM 2 bG jL 4 Fe B (u 6) w
 | 4=>u 7 = .agg #[.slice none 0 0,u 3,u 4,u 5,u 6]
 | 5=>∃g,u 1 = .pointer (some ⟨g,0,none⟩)∧(∃cs,cs.length=5∧Wb w g ae cs)∧B≤g
 | 6=>∃g,u 1 = .pointer (some ⟨g,0,none⟩)∧Wb w g ae [.slice none 0 0,u 3,u 4,u 5,u 6]∧B≤g
 | _=>True
theorem iV.keep{B i:Nat}{u:Nat→Value}{w w':World}(h:iV B i u w)(hb:Below w.heap.size w w'):iV B i u w':=by
 match i,h with
 | 0,h=>exact iM.keep h hb
 | 1,h=>exact iM.keep h hb
 | 2,h=>exact iM.keep h hb
 | 3,h=>exact iM.keep h hb
 | 4,h=>exact h
 | 5,⟨g,h1,⟨cs,h2,h3⟩,h4⟩=>exact⟨g,h1,⟨cs,h2,h3.below hb h3.lt⟩,h4⟩
 | 6,⟨g,h1,h3,h4⟩=>exact⟨g,h1,h3.below hb h3.lt,h4⟩
 | _+7,_=>exact trivial
def Bq:Nat→List Nat
 | 0=>[3] | 1=>[4] | 2=>[5] | 3=>[6] | 4=>[3,4,5,6,7] | 5=>[1] | 6=>[1,3,4,5,6] | _=>[]
theorem iV.upd_{B j d:Nat}{u:Nat→Value}{w:World}{v:Value}(h:iV B j u w)(hd:(Bq j).contains d=false):iV B j (upd u d v) w:=by
 have hu:∀k,(Bq j).contains k=true→upd u d v k=u k:=fun k hk=>by
  unfold upd
  rw[if_neg]
  rintro rfl
  rw[hk]at hd
  cases hd
 clear hd
 match j,h,hu with
 | 0,h,hu=>unfold iV;rw[hu 3 rfl];exact h
 | 1,h,hu=>unfold iV;rw[hu 4 rfl];exact h
 | 2,h,hu=>unfold iV;rw[hu 5 rfl];exact h
 | 3,h,hu=>unfold iV;rw[hu 6 rfl];exact h
 | 4,h,hu=>unfold iV;rw[hu 3 rfl,hu 4 rfl,hu 5 rfl,hu 6 rfl,hu 7 rfl];exact h
 | 5,h,hu=>unfold iV;rw[hu 1 rfl];exact h
 | 6,h,hu=>unfold iV;rw[hu 1 rfl,hu 3 rfl,hu 4 rfl,hu 5 rfl,hu 6 rfl];exact h
 | _+7,_,_=>exact trivial
def Na(B:Nat)(w0:World)(v:Value)(w:World):Prop:=
 ∃g s0 s1 s2 s3,v = .pointer (some ⟨g,0,none⟩)∧Wb w g ae [.slice none 0 0,s0,s1,s2,s3]∧B≤g∧iM 1 encZ fD 1024 0 B s0 w∧iM 4 dA bu 8 Cf.bM B s1 w∧iM 1 iC lX 6 [] B s2 w∧iM 2 bG jL 4 Fe B s3 w∧Below B w0 w
structure C9(B:Nat)(wb:World)(g g0 g1 g2 g3 k:Nat)(xs:List PV)(w:World):Prop where
 len:xs.length=4
 procs:Bk 2 bG w g3 jL xs
 done:∀(j:Nat) (x:PV),xs[j]?=some x→j<k→∃b,x=⟨false,some ⟨b,0,none⟩,6,6⟩∧Bk 3 bH w b fP (List.replicate 6 Cf.noEnd)∧B≤b
 todo:∀(j:Nat) (x:PV),xs[j]?=some x→k≤j→x=Fe
 box:Wb w g ae [.slice none 0 0,.slice (some ⟨g0,0,none⟩) 1024 1024,.slice (some ⟨g1,0,none⟩) 8 8,.slice (some ⟨g2,0,none⟩) 6 6,.slice (some ⟨g3,0,none⟩) 4 4]
 mem:Bk 1 encZ w g0 fD (List.replicate 1024 0)
 nodes:Bk 4 dA w g1 bu (List.replicate 8 Cf.bM)
 pipes:Bk 1 iC w g2 lX (List.replicate 6 [])
 lo:B≤g3
 los:B≤g0∧B≤g1∧B≤g2
 keep:Below B wb w
theorem C9.step{B:Nat}{wb:World}{g g0 g1 g2 g3 k:Nat}{xs:List PV}{w w2:World}(h:C9 B wb g g0 g1 g2 g3 k xs w)(hk:k<4)(hb:Below w.heap.size w w2)(hB:B≤w.heap.size){b:Nat}(hb0:w.heap.size≤b)(he:Bk 3 bH w2 b fP (List.replicate 6 Cf.noEnd)):
  C9 B wb g g0 g1 g2 g3 (k+1) (xs.set k ⟨false,some ⟨b,0,none⟩,6,6⟩) (w2.setCell ⟨g3,k*2+1,none⟩ (.slice (some ⟨b,0,none⟩) 6 6)):=by
 have hp:=h.procs.below hb h.procs.lt
 have hx:xs[k]?=some Fe:=by
  have:xs[k]?=some (xs[k]'(by rw[h.len];exact hk)):=List.getElem?_eq_getElem _
  rw[this,h.todo k _ this (Nat.le_refl _)]
 have hne:∀ {b':Nat},Bk 3 bH w2 b' fP (List.replicate 6 Cf.noEnd)→b'≠g3:=fun h'=>h'.other hp (by decide)
 refine⟨by rw[List.length_set];exact h.len,hp.put hx (by omega) rfl,?_,?_,?_,?_,?_,?_,h.lo,h.los,?_⟩
 ·intro j x hj hlt
  rw[List.getElem?_set]at hj
  split at hj
  ·split at hj
   ·simp at hj
    exact⟨b,hj.symm,he.off_ (p:=⟨g3,k*2+1,none⟩) (hne he) _,Nat.le_trans hB hb0⟩
   ·cases hj
  ·obtain⟨b',h1,h2,h3⟩:=h.done j x hj (by omega)
   have h2':=h2.below hb h2.lt
   exact⟨b',h1,h2'.off_ (p:=⟨g3,k*2+1,none⟩) (hne h2') _,h3⟩
 ·intro j x hj hle
  rw[List.getElem?_set,if_neg (by omega)]at hj
  exact h.todo j x hj (by omega)
 ·exact(h.box.below hb h.box.lt).off_ (p:=⟨g3,k*2+1,none⟩) (Ne.symm (hp.wb (h.box.below hb h.box.lt) (by decide))) _
 ·exact(h.mem.below hb h.mem.lt).off_ (p:=⟨g3,k*2+1,none⟩) ((h.mem.below hb h.mem.lt).other hp (by decide)) _
 ·exact(h.nodes.below hb h.nodes.lt).off_ (p:=⟨g3,k*2+1,none⟩) ((h.nodes.below hb h.nodes.lt).other hp (by decide)) _
 ·exact(h.pipes.below hb h.pipes.lt).off_ (p:=⟨g3,k*2+1,none⟩) ((h.pipes.below hb h.pipes.lt).other hp (by decide)) _
 ·exact(h.keep.trans (hb.mono hB)).setCell h.lo _
theorem C9.last{B:Nat}{wb:World}{g g0 g1 g2 g3:Nat}{xs:List PV}{w:World}(h:C9 B wb g g0 g1 g2 g3 4 xs w):
  kW B (w.setCell ⟨g3,0,none⟩ (.bool true)) ⟨none,0,some ⟨g0,0,none⟩,1024,some ⟨g1,0,none⟩,8,some ⟨g2,0,none⟩,6,some ⟨g3,0,none⟩,4⟩ Cf.ak:=by
 obtain⟨x0,hx0⟩:∃x0,xs[0]?=some x0:=⟨_,List.getElem?_eq_getElem (by rw[h.len];omega)⟩
 obtain⟨b0,rfl,hb0,hB0⟩:=h.done 0 x0 hx0 (by omega)
 have hp:=h.procs.put0 (x':=⟨true,some ⟨b0,0,none⟩,6,6⟩) (u:=.bool true) hx0 (by omega) rfl
 rw[Nat.zero_mul]at hp
 refine⟨⟨[],⟨.inl rfl,.inl rfl⟩,Each.nil⟩,⟨?_,.inr ⟨_,_,rfl,h.los.1⟩⟩,⟨?_,.inr ⟨_,_,rfl,h.los.2.1⟩⟩,⟨?_,.inr ⟨_,_,rfl,h.los.2.2⟩⟩,⟨xs.set 0 ⟨true,some ⟨b0,0,none⟩,6,6⟩,⟨hp.rd,.inr ⟨_,_,rfl,h.lo⟩⟩,?_⟩,Nat.le_refl _,by show(List.replicate 1024 (0:Int)).length≤1024;rw[List.length_replicate];omega⟩
 ·exact(h.mem.off_ (p:=⟨g3,0,none⟩) (h.mem.other h.procs (by decide)) _).rd
 ·exact(h.nodes.off_ (p:=⟨g3,0,none⟩) (h.nodes.other h.procs (by decide)) _).rd
 ·exact(h.pipes.off_ (p:=⟨g3,0,none⟩) (h.pipes.other h.procs (by decide)) _).rd
 ·refine⟨by rw[List.length_set,h.len];rfl,fun i x y hx hy=>?_⟩
  have hi:i<4:=by
   have:=(List.getElem?_eq_some_iff.1 hx).1
   rwa [List.length_set,h.len]at this
  rw[List.getElem?_set]at hx
  split at hx
  ·rename_i h0
   subst h0
   split at hx
   ·simp at hx
    subst hx
    obtain rfl:(⟨true,List.replicate 6 Cf.noEnd⟩:Cf.dR)=y:=Option.some.inj hy
    exact⟨⟨rfl,rfl,(hb0.off_ (p:=⟨g3,0,none⟩) (hb0.other h.procs (by decide)) _).rd⟩,.inr ⟨_,_,rfl,hB0⟩⟩
   ·cases hx
  ·rename_i h0
   obtain⟨b,rfl,hb,hB⟩:=h.done i x hx hi
   have hy':y=Cf.lD:=by
    match i,hi,h0,hy with
    | 1,_,_,hy=>exact(Option.some.inj hy).symm
    | 2,_,_,hy=>exact(Option.some.inj hy).symm
    | 3,_,_,hy=>exact(Option.some.inj hy).symm
   subst hy'
   exact⟨⟨rfl,rfl,(hb.off_ (p:=⟨g3,0,none⟩) (hb.other h.procs (by decide)) _).rd⟩,.inr ⟨_,_,rfl,hB⟩⟩
theorem uX(a:KA):af a Cf.ak=[.slice a.A 0 a.ca,.slice a.M 1024 a.cm,.slice a.N 8 a.cn,.slice a.S 6 a.cs,.slice a.Q 4 a.cq]:=by
 have h:Cf.ak.mem.length=1024:=List.length_replicate
 unfold af
 rw[h]
 rfl
theorem new_any(w:World):
  Calls Tryz.prog 47 #[] w (MO Cf.ak w):=by
 obtain⟨i0,hi0,hy0,hy1,hy2⟩:=info_parts vP
 have hmk:∀W:World,(Instr.makeSlice 67 (.int .i64 6) (.int .i64 6)).run Tryz.prog W = .ok (.slice (some ⟨W.heap.size,0,none⟩) 6 6) (W.alloc (.cells (madeCells #[.int .i64 0,.int .i64 0,.int .i64 0] 18) 72)):=fun W=>by
  have h:=run_make (P:=Tryz.prog) W 67 72 i0 _ Tryz.underlying67 hi0 hy0 .i64 .i64 6 6 (by omega) (by omega) (by rw[hy2];omega) (by omega)
  rw[hy1]at h
  exact h
 have hBk:∀W:World,Bk 3 bH (W.alloc (.cells (madeCells #[.int .i64 0,.int .i64 0,.int .i64 0] 18) 72)) W.heap.size fP (List.replicate 6 Cf.noEnd):=fun W=>Bk.made (z:=#[.int .i64 0,.int .i64 0,.int .i64 0]) jU rfl 6 W fP
 generalize madeCells #[.int .i64 0,.int .i64 0,.int .i64 0] 18=M at hmk hBk
 have HBk:=hid hBk
 clear hi0 hy0 hy1 hy2 hBk
 have hb0:Below (w.heap.size+1) (w.alloc (.cells #[.slice none 0 0,.slice none 0 0,.slice none 0 0,.slice none 0 0,.slice none 0 0] 28)) (w.alloc (.cells #[.slice none 0 0,.slice none 0 0,.slice none 0 0,.slice none 0 0,.slice none 0 0] 28)):=Below.refl _ _
 have hz0:(w.alloc (.cells #[.slice none 0 0,.slice none 0 0,.slice none 0 0,.slice none 0 0,.slice none 0 0] 28)).heap.size=w.heap.size+1:=by simp
 have hx0:=Wb.new w ae kz
 have hbw:Below w.heap.size w (w.alloc (.cells #[.slice none 0 0,.slice none 0 0,.slice none 0 0,.slice none 0 0,.slice none 0 0] 28)):=(Below.refl _ _).alloc (Nat.le_refl _) _
 simp only[kz]at hx0
 have HX0:=hid hx0
 have HBW:=hid hbw
 clear hx0 hbw
 go_enter Tryz.func47,Tryz.ntmps47
 go_upto_region 1 with fail
 generalize w.alloc (.cells #[.slice none 0 0,.slice none 0 0,.slice none 0 0,.slice none 0 0,.slice none 0 0] 28)=wb at *
 go_cut [1] from 3 to 7 (fun x wx=>Na (w.heap.size+1) wb x wx)
 case first=>
  refine nM (ds:=[1,3,4,5,6,7]) (fun W=>Below (w.heap.size+1) wb W) (iV (w.heap.size+1)) (by kernel_rfl) (by kernel_rfl) hb0.drew ?_ ?_
  ·intro i hi
   match i,hi with
   | 0,_=>
     intro o u w1 ho hJ aT K hK
     obtain rfl:=Option.some.inj ho
     refine mM (enc:=encZ) 23 3 1024 0 (.int .i64 0) 8 rfl Tryz.underlying23 DZ rfl dL rfl (by omega) (by omega) ?_
     intro w2 h2 hb2 _
     refine hK _ w2 ⟨_,rfl,h2,by rw[← hz0];exact hJ.size⟩ (hJ.trans (hb2 _ (by rw[← hz0];exact hJ.size))) fun j q hq hj hn hv=>?_
     refine iV.upd_ (hv.keep (hb2 _ (Nat.le_refl _))) ?_
     match j,hq with
     | 0,_=>exact absurd rfl hj
     | 1,_=>rfl
     | 2,_=>rfl
     | 3,_=>rfl
     | 4,hq=>obtain rfl:=Option.some.inj hq;exact absurd hn (by decide +kernel)
     | 5,_=>rfl
     | 6,hq=>obtain rfl:=Option.some.inj hq;exact absurd hn (by decide +kernel)
     | _+7,_=>rfl
   | 1,_=>
     intro o u w1 ho hJ aT K hK
     obtain rfl:=Option.some.inj ho
     refine mM (enc:=dA) 24 57 8 Cf.bM (.agg #[.string ⟨#[]⟩,.int .i64 0,.string ⟨#[]⟩,.int .i64 0]) 48 rfl Tryz.underlying24 DR rfl oK rfl (by omega) (by omega) ?_
     intro w2 h2 hb2 _
     refine hK _ w2 ⟨_,rfl,h2,by rw[← hz0];exact hJ.size⟩ (hJ.trans (hb2 _ (by rw[← hz0];exact hJ.size))) fun j q hq hj hn hv=>?_
     refine iV.upd_ (hv.keep (hb2 _ (Nat.le_refl _))) ?_
     match j,hq with
     | 0,_=>rfl
     | 1,_=>exact absurd rfl hj
     | 2,_=>rfl
     | 3,_=>rfl
     | 4,hq=>obtain rfl:=Option.some.inj hq;exact absurd hn (by decide +kernel)
     | 5,_=>rfl
     | 6,hq=>obtain rfl:=Option.some.inj hq;exact absurd hn (by decide +kernel)
     | _+7,_=>rfl
   | 2,_=>
     intro o u w1 ho hJ aT K hK
     obtain rfl:=Option.some.inj ho
     refine mM (enc:=iC) 25 9 6 [] (.string ⟨#[]⟩) 16 rfl Tryz.underlying25 Eg rfl oI rfl (by omega) (by omega) ?_
     intro w2 h2 hb2 _
     refine hK _ w2 ⟨_,rfl,h2,by rw[← hz0];exact hJ.size⟩ (hJ.trans (hb2 _ (by rw[← hz0];exact hJ.size))) fun j q hq hj hn hv=>?_
     refine iV.upd_ (hv.keep (hb2 _ (Nat.le_refl _))) ?_
     match j,hq with
     | 0,_=>rfl
     | 1,_=>rfl
     | 2,_=>exact absurd rfl hj
     | 3,_=>rfl
     | 4,hq=>obtain rfl:=Option.some.inj hq;exact absurd hn (by decide +kernel)
     | 5,_=>rfl
     | 6,hq=>obtain rfl:=Option.some.inj hq;exact absurd hn (by decide +kernel)
     | _+7,_=>rfl
   | 3,_=>
     intro o u w1 ho hJ aT K hK
     obtain rfl:=Option.some.inj ho
     refine mM (enc:=bG) 26 69 4 Fe (.agg #[.bool false,.slice none 0 0]) 32 rfl Tryz.underlying26 Ec rfl jw rfl (by omega) (by omega) ?_
     intro w2 h2 hb2 _
     refine hK _ w2 ⟨_,rfl,h2,by rw[← hz0];exact hJ.size⟩ (hJ.trans (hb2 _ (by rw[← hz0];exact hJ.size))) fun j q hq hj hn hv=>?_
     refine iV.upd_ (hv.keep (hb2 _ (Nat.le_refl _))) ?_
     match j,hq with
     | 0,_=>rfl
     | 1,_=>rfl
     | 2,_=>rfl
     | 3,_=>exact absurd rfl hj
     | 4,hq=>obtain rfl:=Option.some.inj hq;exact absurd hn (by decide +kernel)
     | 5,_=>rfl
     | 6,hq=>obtain rfl:=Option.some.inj hq;exact absurd hn (by decide +kernel)
     | _+7,_=>rfl
   | 4,_=>
     intro o u w1 ho hJ aT K hK
     obtain rfl:=Option.some.inj ho
     obtain⟨g3,e3,_⟩:=(aT 0 (by decide +kernel):iV _ 0 u w1)
     obtain⟨g4,e4,_⟩:=(aT 1 (by decide +kernel):iV _ 1 u w1)
     obtain⟨g5,e5,_⟩:=(aT 2 (by decide +kernel):iV _ 2 u w1)
     obtain⟨g6,e6,_⟩:=(aT 3 (by decide +kernel):iV _ 3 u w1)
     refine dD (v:=.agg #[.slice none 0 0,u 3,u 4,u 5,u 6]) (w':=w1) ?_ ?_
     ·rw[e3,e4,e5,e6]
      simp[execOp,Act.eval,bJ,e3,e4,e5,e6]
      go_simp
     ·refine hK _ w1 rfl hJ fun j q hq hj hn hv=>?_
      refine iV.upd_ hv ?_
      match j,hq with
      | 0,_=>rfl
      | 1,_=>rfl
      | 2,_=>rfl
      | 3,_=>rfl
      | 4,_=>exact absurd rfl hj
      | 5,_=>rfl
      | 6,hq=>obtain rfl:=Option.some.inj hq;exact absurd hn (by decide +kernel)
      | _+7,_=>rfl
   | 5,_=>
     intro o u w1 ho hJ aT K hK
     obtain rfl:=Option.some.inj ho
     have hb2:∀B,B≤w1.heap.size→Below B w1 (w1.alloc (.cells #[.slice none 0 0,.slice none 0 0,.slice none 0 0,.slice none 0 0,.slice none 0 0] 28)):=fun B hB=>(Below.refl _ _).alloc hB _
     refine dD (v:=.pointer (some ⟨w1.heap.size,0,none⟩)) (w':=w1.alloc (.cells #[.slice none 0 0,.slice none 0 0,.slice none 0 0,.slice none 0 0,.slice none 0 0] 28)) ?_ ?_
     ·simp[execOp]
      go_simp
     ·refine hK _ _ ⟨_,rfl,⟨_,rfl,Wb.new w1 ae kz⟩,by rw[← hz0];exact hJ.size⟩ (hJ.trans (hb2 _ (by rw[← hz0];exact hJ.size))) fun j q hq hj hn hv=>?_
      refine iV.upd_ (hv.keep (hb2 _ (Nat.le_refl _))) ?_
      match j,hq with
      | 0,_=>rfl
      | 1,_=>rfl
      | 2,_=>rfl
      | 3,_=>rfl
      | 4,_=>rfl
      | 5,_=>exact absurd rfl hj
      | 6,hq=>obtain rfl:=Option.some.inj hq;exact absurd hn (by decide +kernel)
      | _+7,_=>rfl
   | 6,_=>
     intro o u w1 ho hJ aT K hK
     obtain rfl:=Option.some.inj ho
     obtain⟨g,e1,⟨cs,hcl,hg⟩,hB⟩:=(aT 5 (by decide +kernel):iV _ 5 u w1)
     have e7:u 7=_:=(aT 4 (by decide +kernel):iV _ 4 u w1)
     have v3:=(aT 0 (by decide +kernel):iV _ 0 u w1)
     have v4:=(aT 1 (by decide +kernel):iV _ 1 u w1)
     have v5:=(aT 2 (by decide +kernel):iV _ 2 u w1)
     have v6:=(aT 3 (by decide +kernel):iV _ 3 u w1)
     obtain⟨c0,c1,c2,c3,c4,rfl⟩:=uo hcl
     obtain⟨q0,q1,q2,q3,q4, -, -⟩:=kY hg
     have f0:=hg.open_ 0
     have f1:=hg.open_ 1
     have f2:=hg.open_ 2
     have f3:=hg.open_ 3
     have f4:=hg.open_ 4
     obtain⟨W2,hW2⟩:∃W2,W2=((((w1.setCell ⟨g,0,none⟩ (.slice none 0 0)).setCell ⟨g,1,none⟩ (u 3)).setCell ⟨g,2,none⟩ (u 4)).setCell ⟨g,3,none⟩ (u 5)).setCell ⟨g,4,none⟩ (u 6):=⟨_,rfl⟩
     have hst:iV (w.heap.size+1) 6 u W2:=by
      refine⟨g,e1,?_,hB⟩
      rw[hW2]
      exact((((hg.put 0 _).put 1 _).put 2 _).put 3 _).put 4 _
     have hkeep:∀j,iV (w.heap.size+1) j u w1→iV (w.heap.size+1) j u W2:=by
      intro j hv
      have h0:=hg
      have h1:=h0.put 0 (.slice none 0 0)
      have h2:=h1.put 1 (u 3)
      have h3:=h2.put 2 (u 4)
      have h4:=h3.put 3 (u 5)
      rw[hW2]
      match j,hv with
      | 0,hv=>exact((((iM.off_ hv h0 (by decide) 0 _).off_ h1 (by decide) 1 _).off_ h2 (by decide) 2 _).off_ h3 (by decide) 3 _).off_ h4 (by decide) 4 _
      | 1,hv=>exact((((iM.off_ hv h0 (by decide) 0 _).off_ h1 (by decide) 1 _).off_ h2 (by decide) 2 _).off_ h3 (by decide) 3 _).off_ h4 (by decide) 4 _
      | 2,hv=>exact((((iM.off_ hv h0 (by decide) 0 _).off_ h1 (by decide) 1 _).off_ h2 (by decide) 2 _).off_ h3 (by decide) 3 _).off_ h4 (by decide) 4 _
      | 3,hv=>exact((((iM.off_ hv h0 (by decide) 0 _).off_ h1 (by decide) 1 _).off_ h2 (by decide) 2 _).off_ h3 (by decide) 3 _).off_ h4 (by decide) 4 _
      | 4,hv=>exact hv
      | 5,_=>exact⟨g,e1,⟨_,rfl,(h4.put 4 (u 6))⟩,hB⟩
      | 6,_=>rw[← hW2];exact hst
      | _+7,_=>exact trivial
     have hbb:Below (w.heap.size+1) w1 W2:=by
      rw[hW2]
      exact((((Below.refl _ _).setCell hB _).setCell hB _).setCell hB _).setCell hB _ |>.setCell hB _
     refine rE (w':=W2) ?_ (hK _ W2 hst (hJ.trans hbb) fun j q hq hj hn hv=>hkeep j hv)
     obtain⟨g3,e3,_⟩:=v3
     obtain⟨g4,e4,_⟩:=v4
     obtain⟨g5,e5,_⟩:=v5
     obtain⟨g6,e6,_⟩:=v6
     rw[e3,e4,e5,e6]at e7
     rw[hW2,e3,e4,e5,e6]
     simp[execOp,Act.eval,bJ,e1,e7]
     go_simp
  ·intro u w1 hJ hV
   obtain⟨g,e1,hg,hB⟩:=(hV 6 (by decide):iV _ 6 u w1)
   have hR:Na (w.heap.size+1) wb (u 1) w1:=⟨g,u 3,u 4,u 5,u 6,e1,hg,hB,hV 0 (by decide),hV 1 (by decide),hV 2 (by decide),hV 3 (by decide),hJ⟩
   simp only[bJ,List.contains_cons,List.contains_nil,Nat.reduceAdd,Nat.reduceBEq,Bool.or_false,Bool.or_true,cond_true,cond_false,Nat.zero_add]
   go_wp2_with fail
   go_meet
   exact hR
 case rest=>
  obtain⟨g,s0,s1,s2,s3,rfl,hg,hB,⟨g0,rfl,k0,hB0⟩,⟨g1,rfl,k1,hB1⟩,⟨g2,rfl,k2,hB2⟩,⟨g3,rfl,k3,hB3⟩,hbc⟩:=hcut
  have hL:C9 (w.heap.size+1) wb g g0 g1 g2 g3 0 (List.replicate 4 Fe) wc:=⟨rfl,k3,fun j x _ h=>by omega,fun j x hx _=>List.eq_of_mem_replicate (List.mem_of_getElem? hx),hg,k0,k1,k2,hB3,⟨hB0,hB1,hB2⟩,hbc⟩
  have q4:=hg.cell 4
  simp only[gq]at q4
  have HL:=hid hL
  clear hL k0 k1 k2 k3 hg hB hB0 hB1 hB2 hB3 hbc hb0
  go_wp2
  go_loopw [11] (fun i wr=>∃(k:Nat) (xs:List PV),k≤4∧i = .int .i64 k∧C9 (w.heap.size+1) wb g g0 g1 g2 g3 k xs wr) (fun i _=>4-(intOf i).toNat)
  case atStart=>exact⟨0,_,by omega,rfl,HL.out⟩
  case round=>
   obtain⟨k,xs,hk,rfl,hL⟩:=hrel
   have q4:=hL.box.cell 4
   simp only[gq]at q4
   have f3:=hL.procs.open_
   by_cases hlt:k<4
   ·obtain⟨x,hx⟩:∃x,xs[k]?=some x:=⟨_,List.getElem?_eq_getElem (by rw[hL.len];exact hlt)⟩
    obtain rfl:=hL.todo k x hx (Nat.le_refl _)
    have c1:wr.cell? ⟨g3,k*2+1,none⟩=some (.slice none 0 0):=hL.procs.cell hx rfl
    have hst:=hid (hL.step hlt (w2:=(wr.drew.alloc (.cells M 72))) (((Below.refl _ _).drew).alloc (Nat.le_refl _) _) (by rw[← hz0];exact hL.keep.size) (b:=wr.heap.size) (Nat.le_refl _) (HBk.out wr.drew))
    rw[FV (show g3<wr.drew.heap.size from hL.procs.lt)]at hst
    have OB:=hL.procs.lt
    have NY:=hL.box.lt
    have Hne:=hid (Ne.symm (hL.procs.wb hL.box (by decide)))
    clear hx hL
    have hne:g≠g3:=Hne.out
    have hne':g3≠g:=Ne.symm Hne.out
    have hnw:wr.heap.size≠g:=by omega
    have Oo:g≠wr.heap.size:=by omega
    have Om:wr.heap.size≠g3:=by omega
    have Ol:g3≠wr.heap.size:=by omega
    go_wp2_with fail
    go_region_held3 (fun W=>W.cell? ⟨g,4,none⟩=some (.slice (some ⟨g3,0,none⟩) 4 4))
     (first|go_keep|fail)
     (fail)
    go_wp2
    go_roundw
    case rel=>exact⟨k+1,_,by omega,by go_num,hst.out⟩
    case measure=>simp[intOf];omega
   ·obtain rfl:k=4:=by omega
    have HK:=hid hL.last
    have Gz:=hid hL.keep
    have hx:=HX0.out.below hL.keep (Nat.lt_succ_self _)
    obtain⟨x0,hx0⟩:∃x0,xs[0]?=some x0:=⟨_,List.getElem?_eq_getElem (by rw[hL.len];omega)⟩
    have c0:wr.cell? ⟨g3,0,none⟩=some (.bool x0.live):=by have:=hL.procs.cell (j:=0) hx0 rfl;simpa using this
    obtain⟨b0,b1,b2,b3, -, -, -⟩:=kY hL.box
    have z0:=hx.cell 0
    have z1:=hx.cell 1
    have z2:=hx.cell 2
    have z3:=hx.cell 3
    have z4:=hx.cell 4
    simp only[gq]at z0 z1 z2 z3 z4
    have zf:=hx.open_
    have hlo:=hL.lo
    have hne:g≠g3:=Ne.symm (hL.procs.wb hL.box (by decide))
    have hne':g3≠g:=Ne.symm hne
    have hn3:g3≠w.heap.size:=by omega
    have NQ:w.heap.size≠g3:=by omega
    have hsz:=hx.lt
    clear hx hx0 hL
    go_wp2
    refine bodyPost_ret (v:=.agg #[.slice none 0 0,.slice (some ⟨g0,0,none⟩) 1024 1024,.slice (some ⟨g1,0,none⟩) 8 8,.slice (some ⟨g2,0,none⟩) 6 6,.slice (some ⟨g3,0,none⟩) 4 4]) (by simp[results,Tryz.results47,go_sem,z0,z1,z2,z3,z4]) rfl ?_
    refine⟨_,by rw[uX],((((((HK.out.set (Nat.lt_succ_self _) _).set (Nat.lt_succ_self _) _).set (Nat.lt_succ_self _) _).set (Nat.lt_succ_self _) _).set (Nat.lt_succ_self _) _).mono (Nat.le_succ _)),?_⟩
    exact(((((HBW.out.trans (Gz.out.mono (Nat.le_succ _))).setCell (p:=⟨g3,0,none⟩) (Nat.le_of_succ_le hlo) _).setCell (Nat.le_refl _) _).setCell (Nat.le_refl _) _).setCell (Nat.le_refl _) _).setCell (Nat.le_refl _) _ |>.setCell (Nat.le_refl _) _
end
end Go.Proofs.YtnnhhbjbdmgpiaaGreatDoor
