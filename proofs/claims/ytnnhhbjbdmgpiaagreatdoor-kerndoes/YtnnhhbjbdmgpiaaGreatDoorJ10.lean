/- Texts of the proofs: RdrW, SumW, InsW, SumR. -/
import Derived.Test.YtnnhhbjbdmgpiaaGreatDoorJ08
set_option linter.unusedSimpArgs false
set_option linter.unusedVariables false
namespace Go.Proofs.YtnnhhbjbdmgpiaaGreatDoor
set_option maxRecDepth 100000
set_option maxHeartbeats 4000000
open Lib (hid)
section
open Go.RowKit
theorem gu(d:List UInt8)(i:Nat)(hi:i≤d.length):∀w,(Instr.slice 9 (.string ⟨d.toArray⟩) none (some (.int .i64 (i:Int))) none).run Tryz.prog w = .ok (.string ⟨(d.take i).toArray⟩) w:=by
 intro w
 have hs:(⟨d.toArray⟩:ByteArray).size=d.length:=by simp[ByteArray.size]
 rw[run_slice_string_h (P:=Tryz.prog) (w:=w) 9 ⟨d.toArray⟩ Tryz.underlying9 .i64 i (by omega) (by rw[hs];omega)]
 congr 2
 apply yI
 rw[Lib.extract_data]
 simp
theorem AX(s:List UInt8)(w:World):∃cap w',(convert 9 92 (.string ⟨s.toArray⟩)).run Tryz.prog w = .ok (.slice (some ⟨w.heap.size,0,none⟩) s.length cap) w'∧IB w' (some ⟨w.heap.size,0,none⟩) s∧Below w.heap.size w w':=by
 have hs:(⟨s.toArray⟩:ByteArray).size=s.length:=by simp[ByteArray.size]
 have h:=run_bytes_of_string (P:=Tryz.prog) w 9 92 5 ⟨s.toArray⟩ Tryz.underlying9 Tryz.underlying92 Tryz.underlying5
 rw[hs]at h
 refine⟨_,_,h,.inr ⟨w.heap.size,0,rfl,by simp,fun k b hb j u hu=>?_⟩,(Below.refl _ _).drew.alloc (Nat.le_refl _) _⟩
 cases j with
 | succ j=>simp[nH]at hu
 | zero=>
   simp[nH]at hu
   subst hu
   obtain⟨hk,rfl⟩:=List.getElem?_eq_some_iff.1 hb
   have h1:=World.cell?_alloc_mark w.drew (bytesRow ⟨s.toArray⟩ (grownCap w s.length 0 5)) 5 ((bytesRow ⟨s.toArray⟩ (grownCap w s.length 0 5)).size,(bytesRow ⟨s.toArray⟩ (grownCap w s.length 0 5)).size+1) k
   rw[bytesRow_at ⟨s.toArray⟩ _ k (by simpa using hk)]at h1
   simpa using h1
def RB(w:World)(g:Nat)(r:Cf.Rdr):Prop:=Wb w g 180 [.string ⟨r.rest.toArray⟩,.bool r.short]
theorem rO{w w':World}{b:Nat}(h:w.grownBy w' (some b))(i:Nat)(v:Value):w.grownBy (w'.setCell ⟨b,i,none⟩ v) (some b):=
 ⟨h.1,h.2,h.3,by rw[show(w'.setCell ⟨b,i,none⟩ v).heap.size=w'.heap.size by simp[World.setCell]];exact h.4,fun k hk hr=>(Below.heap_setCell w' ⟨b,i,none⟩ v k (fun e=>hr (by rw[e]))).trans (h.5 k hk hr)⟩
theorem grown_below{w w':World}{row:Option Nat}(h:Below w.heap.size w w'):w.grownBy w' row:=⟨h.1,h.2,h.3,h.4,fun k hk _=>h.5 k hk⟩
theorem lN{a b c:World}{row:Option Nat}(h:a.grownBy b row)(k:b.grownBy c row):a.grownBy c row:=
 ⟨k.1.trans h.1,k.2.trans h.2,k.3.trans h.3,Nat.le_trans h.4 k.4,fun i hi hr=>(k.5 i (Nat.lt_of_lt_of_le hi h.4) hr).trans (h.5 i hi hr)⟩
def uO(g n:Nat)(r:Cf.Rdr)(w:World)(e:Ending)(w':World):Prop:=
 e = .returned (.string ⟨(Cf.fF n r).got.toArray⟩)∧RB w' g (Cf.fF n r).rdr∧w.grownBy w' (some g)
theorem take_any(g n:Nat)(r:Cf.Rdr)(w:World)(hn:n≤1000000)(hr:RB w g r)(hl:r.rest.length≤maxLen):
  Calls Tryz.prog 155 #[.pointer (some ⟨g,0,none⟩),.int .i64 n] w (uO g n r w):=by
 obtain⟨rest,short⟩:=r
 unfold maxLen at hl
 dsimp only at hl
 have HR:=hid hr
 have c0:=hr.cell 0
 have f0:=hr.open_ 0
 have f1:=hr.open_ 1
 have c1:=hr.cell 1
 simp only[gq]at c0 c1
 clear hr
 have hn0:(0:Int)≤(n:Int):=by omega
 by_cases hlt:rest.length<n
 ·have HT:=hid (show Cf.fF n ⟨rest,short⟩=⟨[],⟨[],true⟩⟩ by unfold Cf.fF;rw[if_pos hlt])
  go_enter Tryz.func155,Tryz.ntmps155
  go_wp2
  go_ret
  unfold uO
  rw[HT.out]
  exact⟨rfl,(HR.out.put 0 (.string ⟨#[]⟩)).put 1 (.bool true),rO (rO (World.grownBy.refl _ _) 0 _) 1 _⟩
 ·have HT:=hid (show Cf.fF n ⟨rest,short⟩=⟨rest.take n,⟨rest.drop n,short⟩⟩ by unfold Cf.fF;rw[if_neg hlt])
  have s1:=gu rest n (by omega)
  have s2:=ku rest n (by omega)
  go_enter Tryz.func155,Tryz.ntmps155
  go_wp2
  go_ret
  unfold uO
  rw[HT.out]
  exact⟨rfl,HR.out.put 0 (.string ⟨(rest.drop n).toArray⟩),rO (World.grownBy.refl _ _) 0 _⟩
def Ei(g n:Nat)(r:Cf.Rdr)(w:World)(e:Ending)(w':World):Prop:=
 e = .returned (.int .i64 ((Cf.aC n r).got:Int))∧RB w' g (Cf.aC n r).rdr∧w.grownBy w' (some g)
theorem jg(g n:Nat)(r:Cf.Rdr)(w:World)(hn:n≤2)(hr:RB w g r)(hl:r.rest.length≤maxLen):
  Calls Tryz.prog 156 #[.pointer (some ⟨g,0,none⟩),.int .i64 n] w (Ei g n r w):=by
 have HT:=hid (take_any g n r w (by omega) hr hl)
 have hgl:=hr.lt
 have hll:=Cf.oJ n r
 clear hr hl
 go_enter Tryz.func156,Tryz.ntmps156
 go_wp2_with fail
 refine HT.out.mono ?_
 rintro e w1 ⟨rfl,hr1,hg1⟩
 obtain⟨cap,w2,hcv,hby,hb2⟩:=AX (Cf.fF n r).got w1
 have HN:=hid (show Cf.aC n r=⟨Cf.ny (Cf.fF n r).got,(Cf.fF n r).rdr⟩ from rfl)
 have HR:=hid (show RB w2 g (Cf.fF n r).rdr from hr1.below hb2 hr1.lt)
 have HG:=hid (lN hg1 (grown_below (row:=some g) hb2))
 generalize (Cf.fF n r).got=s at *
 clear hr1 hg1 hb2 HT
 have Hby:=hid hby
 clear hby
 go_wp2
 go_loop [5,13] (fun v i=>∃k:Nat,k≤s.length∧i = .int .i64 k∧v = .int .i64 (Cf.ny (s.take k):Nat)) (fun _ i=>s.length-(intOf i).toNat)
 case atStart=>exact⟨0,by omega,rfl,rfl⟩
 case round=>
  obtain⟨k,hk,rfl,rfl⟩:=hrel
  have hv:=Cf.IZ (s.take k) (by rw[List.length_take];omega)
  by_cases hlt:k<s.length
  ·obtain⟨c,hc⟩:∃c,s[k]?=some c:=⟨_,List.getElem?_eq_getElem hlt⟩
   have HV:=hid (show Cf.ny (s.take (k+1))=256*Cf.ny (s.take k)+c.toNat by rw[Cf.jv s k c hc,Cf.Ey])
   rcases Hby.out with h0|⟨b,off,hA,hbl,hcl⟩
   ·rw[h0]at hlt;simp at hlt
   ·obtain⟨rfl,rfl⟩:w1.heap.size=b∧0=off:=by simpa using hA
    have hcell:=hcl k c hc 0 _ rfl
    simp only[Nat.zero_add,Nat.mul_one,Nat.add_zero]at hcell
    have hc1:=c.toNat_lt
    clear hc hcl hA
    generalize Cf.ny (s.take k)=x at *
    go_wp2
    go_round
    case rel=>exact⟨k+1,by omega,by go_num,by rw[HV.out];go_num⟩
    case measure=>simp[intOf];omega
  ·have hT:s.take k=s:=List.take_of_length_le (by omega)
   rw[hT]
   clear hT
   go_wp2
   go_ret
   unfold Ei
   rw[HN.out]
   exact⟨rfl,HR.out,HG.out⟩
end
section
open Go.RowKit
theorem mO{w:World}{A:Option Addr}{l:List UInt8}(h:IB w A l)(hl:l≠[])(cap:Nat):(convert 92 9 (.slice A l.length cap)).run Tryz.prog w = .ok (.string ⟨l.toArray⟩) w:=by
 rcases h with h|⟨b,off,rfl,hb,hc⟩
 ·exact absurd h hl
 ·refine run_convert_bytes_back w 92 9 5 ⟨b,off,none⟩ cap l Tryz.underlying92 Tryz.underlying5 Tryz.underlying9 (fun j hj=>?_)
  have:=hc j l[j] (List.getElem?_eq_getElem hj) 0 _ rfl
  rw[Go.WideShapes.add_plain]
  simpa using this
theorem zU(s:List UInt8):Cf.vT ((Cf.jM 1 0 s:Nat):Int)++Cf.vT ((Cf.iZ 1 s:Nat):Int)=Cf.kG s:=rfl
theorem Ej{B:Nat}{w w1 w2:World}{v:Value}{l:List UInt8}(h:Below B w w1)(hr:qM w1 B v l)(hg:w1.grownBy w2 v.ownBlock)(hB:B≤w1.heap.size):Below B w w2:=
 h.grown hg hB (fun k hk=>bZ hr k hk)
theorem yz(s:List UInt8)(hs:s.length≤maxLen)(w:World):
  Calls Tryz.prog 105 #[.string ⟨s.toArray⟩] w fun e w'=>e = .returned (.string ⟨(Cf.kG s).toArray⟩)∧Below w.heap.size w w':=by
 unfold maxLen at hs
 go_enter Tryz.func105,Tryz.ntmps105
 go_wp2
 go_loop [3,4,8] (fun x y i=>∃k:Nat,k≤s.length∧i = .int .i64 k∧x = .int .i64 (Cf.iZ 1 (s.take k):Nat)∧y = .int .i64 (Cf.jM 1 0 (s.take k):Nat)) (fun _ _ i=>s.length-(intOf i).toNat)
 case atStart=>exact⟨0,by omega,rfl,rfl,rfl⟩
 case round=>
  obtain⟨k,hk,rfl,rfl,rfl⟩:=hrel
  have hx:=Cf.AY (s.take k)
  have hy:=Cf.vJ (s.take k) 1 0 (by omega)
  by_cases hlt:k<s.length
  ·obtain⟨c,hc⟩:∃c,s[k]?=some c:=⟨_,List.getElem?_eq_getElem hlt⟩
   have hix:=lY s k c hc
   have HX:=hid (show Cf.iZ 1 (s.take (k+1))=_ by rw[Cf.jv s k c hc,Cf.pX])
   have HY:=hid (show Cf.jM 1 0 (s.take (k+1))=_ by rw[Cf.jv s k c hc,Cf.pM])
   have hc1:=c.toNat_lt
   clear hc
   generalize Cf.iZ 1 (s.take k)=x at *
   generalize Cf.jM 1 0 (s.take k)=y at *
   go_wp2
   go_round
   case rel=>exact⟨k+1,by omega,by go_num,by rw[HX.out];go_num,by rw[HY.out];go_num⟩
   case measure=>simp[intOf];omega
  ·have hT:s.take k=s:=List.take_of_length_le (by omega)
   rw[hT]at hx hy ⊢
   clear hT
   have H1:=hid (nX (.slice none 0 0) [] (Cf.jM 1 0 s) (by omega) w w.heap.size (World.ownsRow_nil _ _ _ _) (Nat.le_refl _) (by simp))
   go_wp2_with fail
   refine H1.out.mono ?_
   rintro e w1 ⟨v1,rfl,hr1,hg1⟩
   have hb1:=(Below.refl w.heap.size w).grown hg1 (Nat.le_refl _) (fun k hk=>by simp[Value.ownBlock]at hk)
   have H2:=hid (nX v1 _ (Cf.iZ 1 s) (by omega) w1 w.heap.size hr1 hb1.size (by simp[Cf.vT]))
   have Hr1:=hid hr1
   clear hr1 hg1 H1
   go_wp2_with fail
   refine H2.out.mono ?_
   rintro e w2 ⟨v2,rfl,hr2,hg2⟩
   have hb2:=Ej hb1 Hr1.out hg2 hb1.size
   rw[List.nil_append,zU]at hr2
   obtain⟨A,cap,rfl⟩:=hr2.form
   have hcv:=mO hr2.byts (by simp[Cf.kG]) cap
   clear hr2 hg2 H2 Hr1
   go_wp2
   go_ret
   exact⟨rfl,hb2⟩
end
section
open Go.RowKit
def D7(g:Nat)(r:Cf.Rdr)(w:World)(e:Ending)(w':World):Prop:=
 e = .returned (.agg #[.int .i64 (Cf.iG r).got.op,.int .i64 (Cf.iG r).got.a,.int .i64 (Cf.iG r).got.b,.int .i64 (Cf.iG r).got.c])∧RB w' g (Cf.iG r).rdr∧w.grownBy w' (some g)
theorem iU(n:Nat)(r:Cf.Rdr):(Cf.aC n r).rdr.rest.length≤r.rest.length:=Cf.uK n r
theorem oQ{w w':World}{row:Option Nat}(h:w.grownBy w' row){b:Nat}(hb:w.heap.size≤b)(i:Nat)(v:Value):w.grownBy (w'.setCell ⟨b,i,none⟩ v) row:=
 ⟨h.1,h.2,h.3,by rw[show(w'.setCell ⟨b,i,none⟩ v).heap.size=w'.heap.size by simp[World.setCell]];exact h.4,fun k hk hr=>(Below.heap_setCell w' ⟨b,i,none⟩ v k (by show k≠b;omega)).trans (h.5 k hk hr)⟩
theorem EW(g:Nat)(r:Cf.Rdr)(w:World)(hr:RB w g r)(hl:r.rest.length≤maxLen):
  Calls Tryz.prog 157 #[.pointer (some ⟨g,0,none⟩)] w (D7 g r w):=by
 have hb0:Below w.heap.size w (w.alloc (.cells #[.int .i64 0,.int .i64 0,.int .i64 0,.int .i64 0] 121)):=(Below.refl _ _).alloc (Nat.le_refl _) _
 have hgl:=hr.lt
 have hr0:RB (w.alloc (.cells #[.int .i64 0,.int .i64 0,.int .i64 0,.int .i64 0] 121)) g r:=hr.below hb0 hr.lt
 have hx0:=Wb.new w 121 [.int .i64 0,.int .i64 0,.int .i64 0,.int .i64 0]
 have HX0:=hid hx0
 have H1:=hid (jg g 1 r _ (by omega) hr0 hl)
 have HG0:=hid (grown_below (row:=some g) hb0)
 have h1l:=iU 1 r
 have h2l:=iU 1 (Cf.aC 1 r).rdr
 have hv1:=Cf.cO r
 have hv2:=Cf.cO (Cf.aC 1 r).rdr
 have HI:=hid (show Cf.iG r=⟨⟨(Cf.aC 1 r).got,(Cf.aC 1 (Cf.aC 1 r).rdr).got / 16,(Cf.aC 1 (Cf.aC 1 r).rdr).got % 16,(Cf.aC 2 (Cf.aC 1 (Cf.aC 1 r).rdr).rdr).got⟩,(Cf.aC 2 (Cf.aC 1 (Cf.aC 1 r).rdr).rdr).rdr⟩ from rfl)
 clear hr hr0 hb0 hx0
 go_enter Tryz.func157,Tryz.ntmps157
 go_wp2_with fail
 refine H1.out.mono ?_
 rintro e w1 ⟨rfl,hr1,hg1⟩
 have hx1:=HX0.out.grown hg1 (by intro e;injection e with e;omega)
 have H2:=hid (jg g 1 _ w1 (by omega) hr1 (by omega))
 have HG1:=hid (lN HG0.out hg1)
 generalize Cf.aC 1 r=n1 at *
 clear hr1 hg1 H1 HX0 HG0
 go_wp2_with fail
 refine H2.out.mono ?_
 rintro e w2 ⟨rfl,hr2,hg2⟩
 have hx2:=hx1.grown hg2 (by intro e;injection e with e;omega)
 have H3:=hid (jg g 2 _ w2 (by omega) hr2 (by omega))
 have HG2:=hid (lN HG1.out hg2)
 generalize Cf.aC 1 n1.rdr=n2 at *
 clear hr2 hg2 H2 hx1 HG1
 go_wp2_with fail
 refine H3.out.mono ?_
 rintro e w3 ⟨rfl,hr3,hg3⟩
 have hx3:=hx2.grown hg3 (by intro e;injection e with e;omega)
 have HG3:=hid (lN HG2.out hg3)
 have HR3:=hid hr3
 generalize Cf.aC 2 n2.rdr=n3 at *
 clear hr3 hg3 H3 hx2 HG2
 obtain⟨q0,q1,q2,q3, -,hz3⟩:=yx hx3
 have f0:=hx3.open_ 0
 have f1:=hx3.open_ 1
 have f2:=hx3.open_ 2
 have f3:=hx3.open_ 3
 clear hx3
 go_wp2
 refine bodyPost_ret (v:=.agg #[.int .i64 (n1.got:Int),.int .i64 ((n2.got:Int) / 16),.int .i64 ((n2.got:Int) % 16),.int .i64 (n3.got:Int)]) (by simp[results,Tryz.results157,go_sem,q0,q1,q2,q3]) rfl ?_
 unfold D7
 rw[HI.out]
 refine⟨rfl,?_,?_⟩
 ·exact(((HR3.out.off_ (p:=⟨w.heap.size,0,none⟩) (by show g≠w.heap.size;omega) _).off_ (p:=⟨w.heap.size,1,none⟩) (by show g≠w.heap.size;omega) _).off_ (p:=⟨w.heap.size,2,none⟩) (by show g≠w.heap.size;omega) _).off_ (p:=⟨w.heap.size,3,none⟩) (by show g≠w.heap.size;omega) _
 ·exact oQ (oQ (oQ (oQ HG3.out (Nat.le_refl _) 0 _) (Nat.le_refl _) 1 _) (Nat.le_refl _) 2 _) (Nat.le_refl _) 3 _
end
section
open Go.RowKit
theorem Df(x y:Nat)(hx:x≤65535)(hy:y≤65535):[Value.int .u8 ((y:Int) / 256),Value.int .u8 ((y:Int) % 256),Value.int .u8 ((x:Int) / 256),Value.int .u8 ((x:Int) % 256)]=(Cf.vT (y:Int)++Cf.vT (x:Int)).flatMap nH:=by
 rw[List.flatMap_append,← pR y hy,← pR x hx]
 rfl
theorem BN(s:List UInt8)(hs:s.length≤maxLen)(w:World):
  Calls Tryz.prog 77 #[.string ⟨s.toArray⟩] w fun e w'=>e = .returned (.string ⟨(Cf.kG s).toArray⟩)∧Below w.heap.size w w':=by
 unfold maxLen at hs
 go_enter Tryz.func77,Tryz.ntmps77
 go_wp2
 go_loop [3,4,5] (fun x y i=>∃k:Nat,k≤s.length∧i = .int .i64 k∧x = .int .i64 (Cf.iZ 1 (s.take k):Nat)∧y = .int .i64 (Cf.jM 1 0 (s.take k):Nat)) (fun _ _ i=>s.length-(intOf i).toNat)
 case atStart=>exact⟨0,by omega,rfl,rfl,rfl⟩
 case round=>
  obtain⟨k,hk,rfl,rfl,rfl⟩:=hrel
  have hx:=Cf.AY (s.take k)
  have hy:=Cf.vJ (s.take k) 1 0 (by omega)
  by_cases hlt:k<s.length
  ·obtain⟨c,hc⟩:∃c,s[k]?=some c:=⟨_,List.getElem?_eq_getElem hlt⟩
   have hix:=lY s k c hc
   have HX:=hid (show Cf.iZ 1 (s.take (k+1))=_ by rw[Cf.jv s k c hc,Cf.pX])
   have HY:=hid (show Cf.jM 1 0 (s.take (k+1))=_ by rw[Cf.jv s k c hc,Cf.pM])
   have hc1:=c.toNat_lt
   clear hc
   generalize Cf.iZ 1 (s.take k)=x at *
   generalize Cf.jM 1 0 (s.take k)=y at *
   go_wp2
   go_round
   case rel=>exact⟨k+1,by omega,by go_num,by rw[HX.out];go_num,by rw[HY.out];go_num⟩
   case measure=>simp[intOf];omega
  ·have hT:s.take k=s:=List.take_of_length_le (by omega)
   rw[hT]at hx hy ⊢
   clear hT
   have hcv:=mO (uT w 5 _ _ (Df (Cf.iZ 1 s) (Cf.jM 1 0 s) (by omega) (by omega))) (by simp[Cf.vT]) 4
   rw[zU]at hcv
   change (convert 92 9 (.slice (some ⟨w.heap.size,0,none⟩) 4 4)).run Tryz.prog _=_ at hcv
   go_wp2
   go_ret
   exact⟨rfl,(Below.refl _ _).alloc (Nat.le_refl _) _⟩
end
end Go.Proofs.YtnnhhbjbdmgpiaaGreatDoor
