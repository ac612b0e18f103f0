/- Texts of the proof of KernRuns: KOfW. -/
import Derived.Test.YtnnhhbjbdmgpiaaGreatDoorJ09
set_option linter.unusedSimpArgs false
set_option linter.unusedVariables false
namespace Go.Proofs.YtnnhhbjbdmgpiaaGreatDoor
set_option maxRecDepth 100000
set_option maxHeartbeats 4000000
open Lib (hid)
section
open Go.RowKit
def OfV(B:Nat)(i:Nat)(u:Nat→Value)(w:World):Prop:=match i with
 | 0=>iM 1 encZ fD 1024 0 B (u 3) w
 | 1=>iM 4 dA bu 8 Cf.bM B (u 4) w
 | 2=>iM 1 iC lX 6 [] B (u 5) w
 | 3=>u 6 = .agg #[.slice none 0 0,u 3,u 4,u 5,.slice none 0 0]
 | 4=>∃g,u 1 = .pointer (some ⟨g,0,none⟩)∧(∃cs,cs.length=5∧Wb w g ae cs)∧B≤g
 | 5=>∃g,u 1 = .pointer (some ⟨g,0,none⟩)∧Wb w g ae [.slice none 0 0,u 3,u 4,u 5,.slice none 0 0]∧B≤g
 | _=>True
theorem OfV.keep{B i:Nat}{u:Nat→Value}{w w':World}(h:OfV B i u w)(hb:Below w.heap.size w w'):OfV B i u w':=by
 match i,h with
 | 0,h=>exact iM.keep h hb
 | 1,h=>exact iM.keep h hb
 | 2,h=>exact iM.keep h hb
 | 3,h=>exact h
 | 4,⟨g,h1,⟨cs,h2,h3⟩,h4⟩=>exact⟨g,h1,⟨cs,h2,h3.below hb h3.lt⟩,h4⟩
 | 5,⟨g,h1,h3,h4⟩=>exact⟨g,h1,h3.below hb h3.lt,h4⟩
 | _+6,_=>exact trivial
def Eb:Nat→List Nat
 | 0=>[3] | 1=>[4] | 2=>[5] | 3=>[3,4,5,6] | 4=>[1] | 5=>[1,3,4,5] | _=>[]
theorem OfV.upd_{B j d:Nat}{u:Nat→Value}{w:World}{v:Value}(h:OfV B j u w)(hd:(Eb j).contains d=false):OfV B j (upd u d v) w:=by
 have hu:∀k,(Eb j).contains k=true→upd u d v k=u k:=fun k hk=>by
  unfold upd
  rw[if_neg]
  rintro rfl
  rw[hk]at hd
  cases hd
 clear hd
 match j,h,hu with
 | 0,h,hu=>unfold OfV;rw[hu 3 rfl];exact h
 | 1,h,hu=>unfold OfV;rw[hu 4 rfl];exact h
 | 2,h,hu=>unfold OfV;rw[hu 5 rfl];exact h
 | 3,h,hu=>unfold OfV;rw[hu 3 rfl,hu 4 rfl,hu 5 rfl,hu 6 rfl];exact h
 | 4,h,hu=>unfold OfV;rw[hu 1 rfl];exact h
 | 5,h,hu=>unfold OfV;rw[hu 1 rfl,hu 3 rfl,hu 4 rfl,hu 5 rfl];exact h
 | _+6,_,_=>exact trivial
def Ny(B:Nat)(w0:World)(v:Value)(w:World):Prop:=
 ∃g s0 s1 s2,v = .pointer (some ⟨g,0,none⟩)∧Wb w g ae [.slice none 0 0,s0,s1,s2,.slice none 0 0]∧B≤g∧iM 1 encZ fD 1024 0 B s0 w∧iM 4 dA bu 8 Cf.bM B s1 w∧iM 1 iC lX 6 [] B s2 w∧Below B w0 w
theorem Bk.grown_{α:Type}{sz:Nat}{enc:α→List Value}{w w':World}{g:Nat}{t:TypeId}{l:List α}{row:Option Nat}(h:Bk sz enc w g t l)(hb:w.grownBy w' row)(hg:row≠some g):Bk sz enc w' g t l:=⟨h.1,h.2.elim fun q h=>⟨q,h.grown hb hg⟩⟩
theorem Bk.offRow{α:Type}{sz:Nat}{enc:α→List Value}{w:World}{g:Nat}{t:TypeId}{l:List α}(h:Bk sz enc w g t l){base:Nat}{e:TypeId}{size n:Nat}{v:Value}{xs:List Value}(hr:w.ownsRow base e size v n xs)(hne:e≠t):v.ownBlock≠some g:=h.2.elim fun _ h=>ax hr h hne
theorem wB:∀x,∀u∈bG x,u.oneCell'=true:=by
 intro x u hu
 simp[bG]at hu
 rcases hu with rfl|rfl<;>rfl
theorem vk(w:World)(t:TypeId)(x:PV):RdS 2 bG (w.alloc (.cells #[.bool x.live,.slice x.A x.le x.ce] t)) (some ⟨w.heap.size,0,none⟩) [x]:=
 .inr ⟨w.heap.size,0,rfl,by simp,fun k y hy j u hu=>by
  cases k with
  | succ k=>simp at hy
  | zero=>
    simp at hy
    subst hy
    have h:=(Wb.new w t (bG x)).cell j
    rw[hu]at h
    simpa [bG] using h⟩
structure OfL(B:Nat)(wb:World)(g g0 g1 g2:Nat)(v:Value)(xs:List PV)(w:World):Prop where
 row:w.ownsRow B jL 2 v xs.length (xs.flatMap bG)
 each:∀(j:Nat) (x:PV),xs[j]?=some x→∃b,x=⟨decide (j=0),some ⟨b,0,none⟩,6,6⟩∧Bk 3 bH w b fP (List.replicate 6 Cf.noEnd)∧B≤b
 box:Wb w g ae [.slice none 0 0,.slice (some ⟨g0,0,none⟩) 1024 1024,.slice (some ⟨g1,0,none⟩) 8 8,.slice (some ⟨g2,0,none⟩) 6 6,v]
 mem:Bk 1 encZ w g0 fD (List.replicate 1024 0)
 nodes:Bk 4 dA w g1 bu (List.replicate 8 Cf.bM)
 pipes:Bk 1 iC w g2 lX (List.replicate 6 [])
 lo:B≤g
 los:B≤g0∧B≤g1∧B≤g2
 room:B≤w.heap.size
 keep:Below B wb w
theorem OfL.below{B:Nat}{wb:World}{g g0 g1 g2:Nat}{v:Value}{xs:List PV}{w w':World}(h:OfL B wb g g0 g1 g2 v xs w)(hb:Below w.heap.size w w'):OfL B wb g g0 g1 g2 v xs w':=
 ⟨own_below h.row hb,fun j x hx=>(h.each j x hx).elim fun b h=>⟨b,h.1,h.2.1.below hb h.2.1.lt,h.2.2⟩,h.box.below hb h.box.lt,h.mem.below hb h.mem.lt,h.nodes.below hb h.nodes.lt,h.pipes.below hb h.pipes.lt,h.lo,h.los,Nat.le_trans h.room hb.size,h.keep.trans (hb.mono h.room)⟩
theorem OfL.put{B:Nat}{wb:World}{g g0 g1 g2:Nat}{v v':Value}{xs:List PV}{w w':World}(h:OfL B wb g g0 g1 g2 v xs w){b:Nat}(he:Bk 3 bH w b fP (List.replicate 6 Cf.noEnd))(hB:B≤b)(hg:w.grownBy w' v.ownBlock)
  (hown:w'.ownsRow B jL 2 v' (xs.length+1) (xs.flatMap bG++[(⟨decide (xs.length=0),some ⟨b,0,none⟩,6,6⟩:PV)].flatMap bG)):OfL B wb g g0 g1 g2 v' (xs++[⟨decide (xs.length=0),some ⟨b,0,none⟩,6,6⟩]) (w'.setCell ⟨g,4,none⟩ v'):=by
 have hbox:=h.box.grown hg (ax h.row h.box (by decide))
 have hend:∀ {b':Nat},Bk 3 bH w b' fP (List.replicate 6 Cf.noEnd)→Bk 3 bH (w'.setCell ⟨g,4,none⟩ v') b' fP (List.replicate 6 Cf.noEnd):=fun h'=>by
  have h2:=h'.grown_ hg (h'.offRow h.row (by decide))
  exact h2.off_ (p:=⟨g,4,none⟩) (h2.wb hbox (by decide)) _
 have hm:=h.mem.grown_ hg (h.mem.offRow h.row (by decide))
 have hn:=h.nodes.grown_ hg (h.nodes.offRow h.row (by decide))
 have hp:=h.pipes.grown_ hg (h.pipes.offRow h.row (by decide))
 refine⟨?_,?_,hbox.put 4 v',hm.off_ (p:=⟨g,4,none⟩) (hm.wb hbox (by decide)) _,hn.off_ (p:=⟨g,4,none⟩) (hn.wb hbox (by decide)) _,hp.off_ (p:=⟨g,4,none⟩) (hp.wb hbox (by decide)) _,h.lo,h.los,?_,(h.keep.grown hg h.room (fun k hk=>bZ h.row k hk)).setCell h.lo _⟩
 ·rw[List.length_append,List.flatMap_append]
  exact aj hown (ax hown hbox (by decide)) _
 ·intro j x hx
  rw[List.getElem?_append]at hx
  split at hx
  ·obtain⟨b',h1,h2,h3⟩:=h.each j x hx
   exact⟨b',h1,hend h2,h3⟩
  ·rename_i hj
   have h0:j=xs.length:=by
    have:=(List.getElem?_eq_some_iff.1 hx).1
    simp at this
    omega
   subst h0
   simp at hx
   exact⟨b,hx.symm.trans (by simp),hend he,hB⟩
 ·have h1:=hg.size
  have h2:=h.room
  simp
  omega
theorem OfL.last{B:Nat}{wb:World}{g g0 g1 g2:Nat}{A:Option Addr}{cap:Nat}{xs:List PV}{w:World}(h:OfL B wb g g0 g1 g2 (.slice A xs.length cap) xs w)(hl:xs.length=4):
  kW B w ⟨none,0,some ⟨g0,0,none⟩,1024,some ⟨g1,0,none⟩,8,some ⟨g2,0,none⟩,6,A,cap⟩ Cf.ak:=by
 refine⟨⟨[],⟨.inl rfl,.inl rfl⟩,Each.nil⟩,⟨h.mem.rd,.inr ⟨_,_,rfl,h.los.1⟩⟩,⟨h.nodes.rd,.inr ⟨_,_,rfl,h.los.2.1⟩⟩,⟨h.pipes.rd,.inr ⟨_,_,rfl,h.los.2.2⟩⟩,⟨xs,⟨jm jw h.row,iQ h.row rfl⟩,hl,?_⟩,Nat.le_refl _,by show(List.replicate 1024 (0:Int)).length≤1024;rw[List.length_replicate];omega⟩
 intro i x y hx hy
 have hi:i<4:=by rw[← hl];exact(List.getElem?_eq_some_iff.1 hx).1
 obtain⟨b,rfl,h2,h3⟩:=h.each i x hx
 refine⟨?_,.inr ⟨_,_,rfl,h3⟩⟩
 match i,hi,hy with
 | 0,_,hy=>obtain rfl:(⟨true,List.replicate 6 Cf.noEnd⟩:Cf.dR)=y:=Option.some.inj hy;exact⟨rfl,rfl,h2.rd⟩
 | 1,_,hy=>obtain rfl:Cf.lD=y:=Option.some.inj hy;exact⟨rfl,rfl,h2.rd⟩
 | 2,_,hy=>obtain rfl:Cf.lD=y:=Option.some.inj hy;exact⟨rfl,rfl,h2.rd⟩
 | 3,_,hy=>obtain rfl:Cf.lD=y:=Option.some.inj hy;exact⟨rfl,rfl,h2.rd⟩
theorem yH(w:World):
  Calls Tryz.prog 49 #[] w (MO Cf.ak w):=by
 obtain⟨i0,hi0,hy0,hy1,hy2⟩:=info_parts vP
 obtain⟨j0,hj0,hq0,hq1,hq2⟩:=info_parts Ec
 have Hj:=hid hj0
 have Hq0:=hid hq0
 have Hq1:=hid hq1
 have Hq2:=hid hq2
 have hmk:∀W:World,(Instr.makeSlice 67 (.int .i64 6) (.int .i64 6)).run Tryz.prog W = .ok (.slice (some ⟨W.heap.size,0,none⟩) 6 6) (W.alloc (.cells (madeCells #[.int .i64 0,.int .i64 0,.int .i64 0] 18) 72)):=fun W=>by
  have h:=run_make (P:=Tryz.prog) W 67 72 i0 _ Tryz.underlying67 hi0 hy0 .i64 .i64 6 6 (by omega) (by omega) (by rw[hy2];omega) (by omega)
  rw[hy1]at h
  exact h
 have hBk:∀W:World,Bk 3 bH (W.alloc (.cells (madeCells #[.int .i64 0,.int .i64 0,.int .i64 0] 18) 72)) W.heap.size fP (List.replicate 6 Cf.noEnd):=fun W=>Bk.made (z:=#[.int .i64 0,.int .i64 0,.int .i64 0]) jU rfl 6 W fP
 generalize madeCells #[.int .i64 0,.int .i64 0,.int .i64 0] 18=M at hmk hBk
 have HBk:=hid hBk
 clear hi0 hy0 hy1 hy2 hBk hj0 hq0 hq1 hq2
 have hb0:Below (w.heap.size+1) (w.alloc (.cells #[.slice none 0 0,.slice none 0 0,.slice none 0 0,.slice none 0 0,.slice none 0 0] 28)) (w.alloc (.cells #[.slice none 0 0,.slice none 0 0,.slice none 0 0,.slice none 0 0,.slice none 0 0] 28)):=Below.refl _ _
 have hz0:(w.alloc (.cells #[.slice none 0 0,.slice none 0 0,.slice none 0 0,.slice none 0 0,.slice none 0 0] 28)).heap.size=w.heap.size+1:=by simp
 have hx0:=Wb.new w ae kz
 have hbw:Below w.heap.size w (w.alloc (.cells #[.slice none 0 0,.slice none 0 0,.slice none 0 0,.slice none 0 0,.slice none 0 0] 28)):=(Below.refl _ _).alloc (Nat.le_refl _) _
 simp only[kz]at hx0
 have HX0:=hid hx0
 have HBW:=hid hbw
 clear hx0 hbw
 go_enter Tryz.func49,Tryz.ntmps49
 go_upto_region 1 with fail
 generalize w.alloc (.cells #[.slice none 0 0,.slice none 0 0,.slice none 0 0,.slice none 0 0,.slice none 0 0] 28)=wb at *
 go_cut [1] from 3 to 6 (fun x wx=>Ny (w.heap.size+1) wb x wx)
 case first=>
  refine nM (ds:=[1,3,4,5,6]) (fun W=>Below (w.heap.size+1) wb W) (OfV (w.heap.size+1)) (by kernel_rfl) (by kernel_rfl) hb0.drew ?_ ?_
  ·intro i hi
   match i,hi with
   | 0,_=>
     intro o u w1 ho hJ aT K hK
     obtain rfl:=Option.some.inj ho
     refine mM (enc:=encZ) 23 3 1024 0 (.int .i64 0) 8 rfl Tryz.underlying23 DZ rfl dL rfl (by omega) (by omega) ?_
     intro w2 h2 hb2 _
     refine hK _ w2 ⟨_,rfl,h2,by rw[← hz0];exact hJ.size⟩ (hJ.trans (hb2 _ (by rw[← hz0];exact hJ.size))) fun j q hq hj hn hv=>?_
     refine OfV.upd_ (hv.keep (hb2 _ (Nat.le_refl _))) ?_
     match j,hq with
     | 0,_=>exact absurd rfl hj
     | 1,_=>rfl
     | 2,_=>rfl
     | 3,hq=>obtain rfl:=Option.some.inj hq;exact absurd hn (by decide +kernel)
     | 4,_=>rfl
     | 5,hq=>obtain rfl:=Option.some.inj hq;exact absurd hn (by decide +kernel)
     | _+6,_=>rfl
   | 1,_=>
     intro o u w1 ho hJ aT K hK
     obtain rfl:=Option.some.inj ho
     refine mM (enc:=dA) 24 57 8 Cf.bM (.agg #[.string ⟨#[]⟩,.int .i64 0,.string ⟨#[]⟩,.int .i64 0]) 48 rfl Tryz.underlying24 DR rfl oK rfl (by omega) (by omega) ?_
     intro w2 h2 hb2 _
     refine hK _ w2 ⟨_,rfl,h2,by rw[← hz0];exact hJ.size⟩ (hJ.trans (hb2 _ (by rw[← hz0];exact hJ.size))) fun j q hq hj hn hv=>?_
     refine OfV.upd_ (hv.keep (hb2 _ (Nat.le_refl _))) ?_
     match j,hq with
     | 0,_=>rfl
     | 1,_=>exact absurd rfl hj
     | 2,_=>rfl
     | 3,hq=>obtain rfl:=Option.some.inj hq;exact absurd hn (by decide +kernel)
     | 4,_=>rfl
     | 5,hq=>obtain rfl:=Option.some.inj hq;exact absurd hn (by decide +kernel)
     | _+6,_=>rfl
   | 2,_=>
     intro o u w1 ho hJ aT K hK
     obtain rfl:=Option.some.inj ho
     refine mM (enc:=iC) 25 9 6 [] (.string ⟨#[]⟩) 16 rfl Tryz.underlying25 Eg rfl oI rfl (by omega) (by omega) ?_
     intro w2 h2 hb2 _
     refine hK _ w2 ⟨_,rfl,h2,by rw[← hz0];exact hJ.size⟩ (hJ.trans (hb2 _ (by rw[← hz0];exact hJ.size))) fun j q hq hj hn hv=>?_
     refine OfV.upd_ (hv.keep (hb2 _ (Nat.le_refl _))) ?_
     match j,hq with
     | 0,_=>rfl
     | 1,_=>rfl
     | 2,_=>exact absurd rfl hj
     | 3,hq=>obtain rfl:=Option.some.inj hq;exact absurd hn (by decide +kernel)
     | 4,_=>rfl
     | 5,hq=>obtain rfl:=Option.some.inj hq;exact absurd hn (by decide +kernel)
     | _+6,_=>rfl
   | 3,_=>
     intro o u w1 ho hJ aT K hK
     obtain rfl:=Option.some.inj ho
     obtain⟨g3,e3,_⟩:=(aT 0 (by decide +kernel):OfV _ 0 u w1)
     obtain⟨g4,e4,_⟩:=(aT 1 (by decide +kernel):OfV _ 1 u w1)
     obtain⟨g5,e5,_⟩:=(aT 2 (by decide +kernel):OfV _ 2 u w1)
     refine dD (v:=.agg #[.slice none 0 0,u 3,u 4,u 5,.slice none 0 0]) (w':=w1) ?_ ?_
     ·rw[e3,e4,e5]
      simp[execOp,Act.eval,bJ,e3,e4,e5]
      go_simp
     ·refine hK _ w1 rfl hJ fun j q hq hj hn hv=>?_
      refine OfV.upd_ hv ?_
      match j,hq with
      | 0,_=>rfl
      | 1,_=>rfl
      | 2,_=>rfl
      | 3,_=>exact absurd rfl hj
      | 4,_=>rfl
      | 5,hq=>obtain rfl:=Option.some.inj hq;exact absurd hn (by decide +kernel)
      | _+6,_=>rfl
   | 4,_=>
     intro o u w1 ho hJ aT K hK
     obtain rfl:=Option.some.inj ho
     have hb2:∀B,B≤w1.heap.size→Below B w1 (w1.alloc (.cells #[.slice none 0 0,.slice none 0 0,.slice none 0 0,.slice none 0 0,.slice none 0 0] 28)):=fun B hB=>(Below.refl _ _).alloc hB _
     refine dD (v:=.pointer (some ⟨w1.heap.size,0,none⟩)) (w':=w1.alloc (.cells #[.slice none 0 0,.slice none 0 0,.slice none 0 0,.slice none 0 0,.slice none 0 0] 28)) ?_ ?_
     ·simp[execOp]
      go_simp
     ·refine hK _ _ ⟨_,rfl,⟨_,rfl,Wb.new w1 ae kz⟩,by rw[← hz0];exact hJ.size⟩ (hJ.trans (hb2 _ (by rw[← hz0];exact hJ.size))) fun j q hq hj hn hv=>?_
      refine OfV.upd_ (hv.keep (hb2 _ (Nat.le_refl _))) ?_
      match j,hq with
      | 0,_=>rfl
      | 1,_=>rfl
      | 2,_=>rfl
      | 3,_=>rfl
      | 4,_=>exact absurd rfl hj
      | 5,hq=>obtain rfl:=Option.some.inj hq;exact absurd hn (by decide +kernel)
      | _+6,_=>rfl
   | 5,_=>
     intro o u w1 ho hJ aT K hK
     obtain rfl:=Option.some.inj ho
     obtain⟨g,e1,⟨cs,hcl,hg⟩,hB⟩:=(aT 4 (by decide +kernel):OfV _ 4 u w1)
     have e6:u 6=_:=(aT 3 (by decide +kernel):OfV _ 3 u w1)
     have v3:=(aT 0 (by decide +kernel):OfV _ 0 u w1)
     have v4:=(aT 1 (by decide +kernel):OfV _ 1 u w1)
     have v5:=(aT 2 (by decide +kernel):OfV _ 2 u w1)
     obtain⟨c0,c1,c2,c3,c4,rfl⟩:=uo hcl
     obtain⟨q0,q1,q2,q3,q4, -, -⟩:=kY hg
     have f0:=hg.open_ 0
     have f1:=hg.open_ 1
     have f2:=hg.open_ 2
     have f3:=hg.open_ 3
     have f4:=hg.open_ 4
     obtain⟨W2,hW2⟩:∃W2,W2=((((w1.setCell ⟨g,0,none⟩ (.slice none 0 0)).setCell ⟨g,1,none⟩ (u 3)).setCell ⟨g,2,none⟩ (u 4)).setCell ⟨g,3,none⟩ (u 5)).setCell ⟨g,4,none⟩ (.slice none 0 0):=⟨_,rfl⟩
     have hst:OfV (w.heap.size+1) 5 u W2:=by
      refine⟨g,e1,?_,hB⟩
      rw[hW2]
      exact((((hg.put 0 _).put 1 _).put 2 _).put 3 _).put 4 _
     have hkeep:∀j,OfV (w.heap.size+1) j u w1→OfV (w.heap.size+1) j u W2:=by
      intro j hv
      have h0:=hg
      have h1:=h0.put 0 (.slice none 0 0)
      have h2:=h1.put 1 (u 3)
      have h3:=h2.put 2 (u 4)
      have h4:=h3.put 3 (u 5)
      rw[hW2]
      match j,hv with
      | 0,hv=>exact((((iM.off_ hv h0 (by decide) 0 _).off_ h1 (by decide) 1 _).off_ h2 (by decide) 2 _).off_ h3 (by decide) 3 _).off_ h4 (by decide) 4 _
      | 1,hv=>exact((((iM.off_ hv h0 (by decide) 0 _).off_ h1 (by decide) 1 _).off_ h2 (by decide) 2 _).off_ h3 (by decide) 3 _).off_ h4 (by decide) 4 _
      | 2,hv=>exact((((iM.off_ hv h0 (by decide) 0 _).off_ h1 (by decide) 1 _).off_ h2 (by decide) 2 _).off_ h3 (by decide) 3 _).off_ h4 (by decide) 4 _
      | 3,hv=>exact hv
      | 4,_=>exact⟨g,e1,⟨_,rfl,(h4.put 4 (.slice none 0 0))⟩,hB⟩
      | 5,_=>rw[← hW2];exact hst
      | _+6,_=>exact trivial
     have hbb:Below (w.heap.size+1) w1 W2:=by
      rw[hW2]
      exact((((Below.refl _ _).setCell hB _).setCell hB _).setCell hB _).setCell hB _ |>.setCell hB _
     refine rE (w':=W2) ?_ (hK _ W2 hst (hJ.trans hbb) fun j q hq hj hn hv=>hkeep j hv)
     obtain⟨g3,e3,_⟩:=v3
     obtain⟨g4,e4,_⟩:=v4
     obtain⟨g5,e5,_⟩:=v5
     rw[e3,e4,e5]at e6
     rw[hW2,e3,e4,e5]
     simp[execOp,Act.eval,bJ,e1,e6]
     go_simp
  ·intro u w1 hJ hV
   obtain⟨g,e1,hg,hB⟩:=(hV 5 (by decide):OfV _ 5 u w1)
   have hR:Ny (w.heap.size+1) wb (u 1) w1:=⟨g,u 3,u 4,u 5,e1,hg,hB,hV 0 (by decide),hV 1 (by decide),hV 2 (by decide),hJ⟩
   simp only[bJ,List.contains_cons,List.contains_nil,Nat.reduceAdd,Nat.reduceBEq,Bool.or_false,Bool.or_true,cond_true,cond_false,Nat.zero_add]
   go_wp2_with fail
   go_meet
   exact hR
 case rest=>
  obtain⟨g,s0,s1,s2,rfl,hg,hB,⟨g0,rfl,k0,hB0⟩,⟨g1,rfl,k1,hB1⟩,⟨g2,rfl,k2,hB2⟩,hbc⟩:=hcut
  have hL:OfL (w.heap.size+1) wb g g0 g1 g2 (.slice none 0 0) [] wc:=⟨World.ownsRow_nil _ _ _ _,fun j x hx=>by simp at hx,hg,k0,k1,k2,hB,⟨hB0,hB1,hB2⟩,by rw[← hz0];exact hbc.size,hbc⟩
  have HL:=hid hL
  clear hL k0 k1 k2 hg hB hB0 hB1 hB2 hbc hb0
  go_wp2
  go_loopw [2] (fun i wr=>∃(k:Nat) (A:Option Addr) (cap:Nat) (xs:List PV),k≤4∧i = .int .i64 k∧xs.length=k∧OfL (w.heap.size+1) wb g g0 g1 g2 (.slice A k cap) xs wr) (fun i _=>4-(intOf i).toNat)
  case atStart=>exact⟨0,none,0,[],by omega,rfl,rfl,HL.out⟩
  case round=>
   obtain⟨k,A,cap,xs,hk,rfl,hlen,hL⟩:=hrel
   have Hlen:=hid hlen
   have q4:=hL.box.cell 4
   simp only[gq]at q4
   have HLr:=hid hL
   clear HL hlen
   by_cases hlt:k<4
   ·have HD:=hid (show((k:Int) == 0)=decide (k=0) by rw[Bool.eq_iff_iff];simp)
    have HL2:=hid (fun o o'=>hL.below ((((Below.refl wr.heap.size wr).alloc (Nat.le_refl _) o).alloc (by simp) o').drew))
    have HLx:=hid (show OfL (w.heap.size+1) wb g g0 g1 g2 (.slice A k cap) xs ((wr.drew.alloc (.cells M 72)).alloc (.cells #[.bool (((k:Int) == 0)),.slice (some ⟨wr.heap.size,0,none⟩) 6 6] 69)) from HL2.out _ _)
    have HE:=hid (show Bk 3 bH ((wr.drew.alloc (.cells M 72)).alloc (.cells #[.bool (((k:Int) == 0)),.slice (some ⟨wr.heap.size,0,none⟩) 6 6] 69)) wr.heap.size fP (List.replicate 6 Cf.noEnd) from((HBk.out wr).alloc _).draw)
    have HR:=hid (vk (wr.alloc (.cells M 72)) 69 ⟨((k:Int) == 0),some ⟨wr.heap.size,0,none⟩,6,6⟩)
    have hroom:=hL.room
    have NY:=hL.box.lt
    have hfr:=hL.box.open_ 4
    clear hL HL2
    go_wp2_with fail
    go_region_law (first
     | (refine aU (by rfl) (.tmp 12) (.tmp 17) 26 (by rfl) (w.heap.size+1) 69 j0 (.agg #[.bool false,.slice none 0 0]) 2 32 Tryz.underlying26 Hj.out Hq0.out Hq1.out Hq2.out rfl (by decide) jw wB (.slice A k cap) k (xs.flatMap bG) (by rfl) (by have:=HLx.out.row;rw[Hlen.out]at this;exact this) (some ⟨wr.heap.size+1,0,none⟩) 1 [⟨((k:Int) == 0),some ⟨wr.heap.size,0,none⟩,6,6⟩] (by rfl) (by have:=RdS.below HR.out ((Below.refl _ _).drew);simpa using this) (by unfold maxLen;simp;omega) (by simp;omega) HLx.out.room ?_
        intro v2 w2 hown hgr hat
        obtain⟨A5,c5,rfl⟩:=aP hown
        have hbx:=HLx.out.box.grown hgr (ax HLx.out.row HLx.out.box (by decide))
        have k2:=hbx.cell 4
        have kf2:=hbx.open_ 4
        simp only[gq]at k2
        have HX2:=hid (HLx.out.put (v':=.slice A5 (k+1) c5) HE.out hroom hgr (by rw[Hlen.out,← HD.out];exact hown))
        clear hbx hown hgr hat)
     | fail)
    all_goals
     go_wp2
     go_roundw
     case rel=>exact⟨k+1,_,_,_,by omega,by go_num,by simp[Hlen.out],HX2.out⟩
     case measure=>simp[intOf];omega
   ·obtain rfl:k=4:=by omega
    obtain⟨v4,HV4⟩:∃v4:Value,v4 = .slice A 4 cap:=⟨_,rfl⟩
    have HK:=hid (OfL.last (by rw[Hlen.out];exact HLr.out) Hlen.out)
    have Gz:=hid HLr.out.keep
    have hx:=HX0.out.below HLr.out.keep (Nat.lt_succ_self _)
    obtain⟨b0,b1,b2,b3, -, -, -⟩:=kY hL.box
    have z0:=hx.cell 0
    have z1:=hx.cell 1
    have z2:=hx.cell 2
    have z3:=hx.cell 3
    have z4:=hx.cell 4
    simp only[gq]at z0 z1 z2 z3 z4
    have zf:=hx.open_
    have hlo:=hL.lo
    have hsz:=hx.lt
    clear hx hL HLr HV4
    go_wp2
    refine bodyPost_ret (v:=.agg #[.slice none 0 0,.slice (some ⟨g0,0,none⟩) 1024 1024,.slice (some ⟨g1,0,none⟩) 8 8,.slice (some ⟨g2,0,none⟩) 6 6,.slice A 4 cap]) (by simp[results,Tryz.results49,go_sem,z0,z1,z2,z3,z4]) rfl ?_
    refine⟨_,by rw[uX],(((((HK.out.set (Nat.lt_succ_self _) _).set (Nat.lt_succ_self _) _).set (Nat.lt_succ_self _) _).set (Nat.lt_succ_self _) _).set (Nat.lt_succ_self _) _).mono (Nat.le_succ _),?_⟩
    exact((((HBW.out.trans (Gz.out.mono (Nat.le_succ _))).setCell (Nat.le_refl _) _).setCell (Nat.le_refl _) _).setCell (Nat.le_refl _) _).setCell (Nat.le_refl _) _ |>.setCell (Nat.le_refl _) _
end
end Go.Proofs.YtnnhhbjbdmgpiaaGreatDoor
