/- Texts of the proofs: FindX, RelW, ActW, RefT, ActX, DecW. -/
import Derived.Test.YtnnhhbjbdmgpiaaGreatDoorJ24
import Derived.Test.YtnnhhbjbdmgpiaaGreatDoorJ23
import Derived.Test.YtnnhhbjbdmgpiaaGreatDoorJ29
set_option linter.unusedSimpArgs false
set_option linter.unusedVariables false
namespace Go.Proofs.YtnnhhbjbdmgpiaaGreatDoor
set_option maxRecDepth 100000
set_option maxHeartbeats 4000000
open Lib (hid)
section
open Go.RowKit
def aF(x:Cf.Ans):List Value:=[.int .i64 x.code,.int .i64 x.n,.string ⟨x.data.toArray⟩]
theorem az(z:Int)(w:World):
  Calls Tryz.prog 48 #[.int .i64 z] w fun e w'=>e = .returned (.agg (aF ⟨z,0,[]⟩).toArray)∧Below w.heap.size w w':=by
 go_enter Tryz.func48,Tryz.ntmps48
 go_wp2
 exact bodyPost_ret (v:=.agg #[.int .i64 z,.int .i64 0,.string ⟨#[]⟩]) (by simp[results,Tryz.results48,go_sem]) rfl ⟨rfl,(Below.refl _ _).alloc (by simp) _⟩
theorem lI(s:List UInt8)(w:World)(hl:s.length≤281474976710656):
  Calls Tryz.prog 161 #[.string ⟨s.toArray⟩] w fun e w'=>e = .returned (.agg (aF ⟨0,s.length,s⟩).toArray)∧Below w.heap.size w w':=by
 have HC:=hid (fun W=>iy s W hl)
 have hb0:∀o:Obj,Below w.heap.size w (w.alloc o):=fun o=>(Below.refl _ _).alloc (Nat.le_refl _) _
 have hbx:=Wb.new w 34 [.int .i64 0,.int .i64 0,.string ⟨#[]⟩]
 have Hbx:=hid hbx
 clear hbx
 go_enter Tryz.func161,Tryz.ntmps161
 go_wp2_with fail
 refine(HC.out _).mono ?_
 rintro e w1 ⟨rfl,hb1⟩
 have qL:=Hbx.out.below hb1 Hbx.out.lt
 have hbw:=(hb0 (.cells #[.int .i64 0,.int .i64 0,.string ⟨#[]⟩] 34)).trans (hb1.mono (by simp))
 obtain⟨p0,p1,p2,f0,hl1⟩:=aS qL
 clear hb1 qL Hbx HC hb0
 go_wp2
 refine bodyPost_ret (v:=.agg #[.int .i64 0,.int .i64 s.length,.string ⟨s.toArray⟩]) (by simp[results,Tryz.results161,go_sem,p0,p1,p2]) rfl ⟨rfl,?_⟩
 exact((hbw.setCell (p:=⟨w.heap.size,0,none⟩) (Nat.le_refl _) _).setCell (p:=⟨w.heap.size,1,none⟩) (Nat.le_refl _) _).setCell (p:=⟨w.heap.size,2,none⟩) (Nat.le_refl _) _
theorem En(x:Cf.Node)(w:World):
  Calls Tryz.prog 136 #[.agg (dA x).toArray] w fun e w'=>e = .returned (.bool (Cf.aW x))∧Below w.heap.size w w':=by
 obtain⟨nm,kd,da,un⟩:=x
 simp only[dA]
 go_enter Tryz.func136,Tryz.ntmps136
 go_wp2
 go_ret
 exact⟨dX (Lu kd 0),(Below.refl _ _).alloc (Nat.le_refl _) _⟩
theorem Ez(x:Cf.End)(w:World):
  Calls Tryz.prog 159 #[.agg (bH x).toArray] w fun e w'=>e = .returned (.bool (Cf.aK x))∧Below w.heap.size w w':=by
 obtain⟨kd,nd,po⟩:=x
 simp only[bH]
 go_enter Tryz.func159,Tryz.ntmps159
 go_wp2
 go_ret
 exact⟨dX (Lu kd 0),(Below.refl _ _).alloc (Nat.le_refl _) _⟩
theorem FT(x:PV)(w:World):
  Calls Tryz.prog 160 #[.agg (bG x).toArray] w fun e w'=>e = .returned (.bool (!x.live))∧Below w.heap.size w w':=by
 obtain⟨lv,A1,le,ce⟩:=x
 simp only[bG]
 go_enter Tryz.func160,Tryz.ntmps160
 go_wp2
 go_ret
 exact⟨rfl,(Below.refl _ _).alloc (Nat.le_refl _) _⟩
theorem yB(k:Cf.ag)(a:KA)(g:Nat)(w:World)(hP:jc w g a k)(hm:k.nodes.length≤maxLen):
  Calls Tryz.prog 109 #[.pointer (some ⟨g,0,none⟩)] w fun e w'=>e = .returned (.int .i64 (Cf.aJ Cf.aW k.nodes))∧Below w.heap.size w w':=by
 have H:=hid (xI k.nodes a.N a.cn w hP.2.nodes hm k.nodes rfl Cf.aW 136 #[]
  (fun i x y w' hx hy hb=>by
    obtain rfl:=Option.some.inj (hx.symm.trans hy)
    exact En x w') (fun args w=>by simp[go_sem]))
 have hc:=hP.c2
 have hl:=hP.1.lt
 clear hP
 generalize Cf.aJ Cf.aW k.nodes=z at *
 go_enter Tryz.func109,Tryz.ntmps109
 go_wp2_with fail
 refine H.out.mono ?_
 rintro e w1 ⟨rfl,hb⟩
 clear H hc
 go_wp2
 go_ret
 exact⟨rfl,hb⟩
theorem kV(l:List Cf.End)(A:Option Addr)(cap:Nat)(w:World)(hR:Ends w A l)(hm:l.length≤maxLen):
  Calls Tryz.prog 137 #[.slice A l.length cap] w fun e w'=>e = .returned (.int .i64 (Cf.aJ Cf.aK l))∧Below w.heap.size w w':=by
 have H:=hid (yg l A cap w hR hm l rfl Cf.aK 159 #[]
  (fun i x y w' hx hy hb=>by
    obtain rfl:=Option.some.inj (hx.symm.trans hy)
    exact Ez x w') (fun args w=>by simp[go_sem]))
 clear hR
 generalize Cf.aJ Cf.aK l=z at *
 go_enter Tryz.func137,Tryz.ntmps137
 go_wp2_with fail
 refine H.out.mono ?_
 rintro e w1 ⟨rfl,hb⟩
 clear H
 go_wp2
 go_ret
 exact⟨rfl,hb⟩
theorem yX(k:Cf.ag)(a:KA)(g:Nat)(w:World)(hP:jc w g a k)(hm:k.procs.length≤maxLen):
  Calls Tryz.prog 139 #[.pointer (some ⟨g,0,none⟩)] w fun e w'=>e = .returned (.int .i64 (Cf.aJ Cf.jr k.procs))∧Below w.heap.size w w':=by
 obtain⟨ps,hps,hpp⟩:=hP.2.procs
 have H:=hid (wZ ps a.Q a.cq w hps (by rw[hpp.1];exact hm) k.procs hpp.1 Cf.jr 160 #[]
  (fun i x y w' hx hy hb=>by
    have h:=FT x w'
    rw[(hpp.2 i x y hx hy).1]at h
    exact h) (fun args w=>by simp[go_sem]))
 have hc:=hP.c4
 rw[← hpp.1]at hc
 have hl:=hP.1.lt
 clear hP hps hpp
 generalize Cf.aJ Cf.jr k.procs=z at *
 go_enter Tryz.func139,Tryz.ntmps139
 go_wp2_with fail
 refine H.out.mono ?_
 rintro e w1 ⟨rfl,hb⟩
 clear H hc
 go_wp2
 go_ret
 exact⟨rfl,hb⟩
theorem y8(k:Cf.ag)(a:KA)(g:Nat)(w:World)(hP:jc w g a k)(hm:k.pipes.length≤maxLen)(hp:k.procs.length≤maxLen)(he:∀p∈k.procs,p.ends.length≤maxLen):
  Calls Tryz.prog 138 #[.pointer (some ⟨g,0,none⟩)] w fun e w'=>e = .returned (.int .i64 (Cf.eX k))∧Below w.heap.size w w':=by
 unfold maxLen at hm
 have hc:=hP.c3
 have hl:=hP.1.lt
 have HH:=hid (fun W (hW:Below w.heap.size w W) kd nd=>jQ k a g kd nd W (hP.below hW) hp he)
 have HZ:=hid (show Cf.eX k=Cf.aJ (Cf.lU k.procs) (List.range k.pipes.length) from rfl)
 clear hP hp he
 go_enter Tryz.func138,Tryz.ntmps138
 go_wp2
 go_loopw [9] (fun i wr=>∃n:Nat,n≤k.pipes.length∧i = .int .i64 n∧((List.range k.pipes.length).take n).any (Cf.lU k.procs)=false∧Below w.heap.size w wr) (fun i _=>k.pipes.length-(intOf i).toNat)
 case atStart=>exact⟨0,by omega,rfl,rfl,Below.refl _ _⟩
 case round=>
  obtain⟨n,hn,rfl,hall,hbw⟩:=hrel
  have aX:=hid hall
  clear hall hc
  by_cases hlt:n<k.pipes.length
  ·have hx:(List.range k.pipes.length)[n]?=some n:=by rw[List.getElem?_range hlt]
   have HX:=hid hx
   have H2:=hid (HH.out wr hbw 2 n)
   have H3:=hid (fun W hW=>HH.out W hW 3 n)
   have HN:=hid (show Cf.lU k.procs n=(!Cf.hasB k.procs 2 n && !Cf.hasB k.procs 3 n) from rfl)
   clear hx
   generalize Cf.hasB k.procs 2 n=q2 at *
   generalize Cf.hasB k.procs 3 n=q3 at *
   go_wp2_with fail
   refine H2.out.mono ?_
   rintro e w1 ⟨rfl,hb1⟩
   have aO:=hbw.trans (hb1.mono hbw.size)
   clear hb1 H2
   cases q2
   ·go_wp2_with fail
    refine(H3.out _ aO).mono ?_
    rintro e w2 ⟨rfl,hb2⟩
    have hbw2:=aO.trans (hb2.mono aO.size)
    clear hb2 H3
    cases q3
    ·have HI:=hid (show Cf.eX k=n by rw[HZ.out];exact Cf.jI HX.out (by rw[HN.out];rfl) aX.out)
     go_wp2
     go_ret
     exact⟨by rw[HI.out];rfl,hbw2⟩
    ·have HA:=hid (Cf.fU HX.out aX.out (by rw[HN.out];rfl))
     go_wp2
     go_roundw
     case rel=>exact⟨n+1,by omega,by go_num,HA.out,hbw2⟩
     case measure=>simp[intOf];omega
   ·have HA:=hid (Cf.fU HX.out aX.out (by rw[HN.out];rfl))
    clear H3
    go_wp2
    go_roundw
    case rel=>exact⟨n+1,by omega,by go_num,HA.out,aO⟩
    case measure=>simp[intOf];omega
  ·have HI:=hid (show Cf.eX k = -1 by rw[HZ.out];exact Cf.fJ (by have:=aX.out;rwa [List.take_of_length_le (by simp;omega)]at this))
   go_wp2
   go_ret
   exact⟨by rw[HI.out];rfl,hbw⟩
end
section
open Go.RowKit
def iR(k:Cf.ag)(n:Nat):List Cf.Node:=k.nodes.mapIdx fun i x=>if i<n then Cf.gK k.procs i x else x
def lW(k:Cf.ag)(n:Nat):List (List UInt8):=k.pipes.mapIdx fun i x=>if i<n then Cf.ni k.procs i x else x
theorem xm{α:Type}(l:List α):l.mapIdx (fun _ x=>x)=l:=by
 apply List.ext_getElem?
 intro i
 rw[List.getElem?_mapIdx]
 simp
theorem yj(k:Cf.ag):iR k 0=k.nodes:=by
 unfold iR
 simp[xm]
theorem xR(k:Cf.ag):lW k 0=k.pipes:=by
 unfold lW
 simp[xm]
theorem qJ{k:Cf.ag}{n i:Nat}:(iR k n)[i]?=(k.nodes[i]?).map fun x=>if i<n then Cf.gK k.procs i x else x:=List.getElem?_mapIdx
theorem rq{k:Cf.ag}{n i:Nat}:(lW k n)[i]?=(k.pipes[i]?).map fun x=>if i<n then Cf.ni k.procs i x else x:=List.getElem?_mapIdx
theorem jY{k:Cf.ag}{n:Nat}:(iR k n).length=k.nodes.length:=List.length_mapIdx
theorem og{k:Cf.ag}{n:Nat}:(lW k n).length=k.pipes.length:=List.length_mapIdx
theorem xQ{k:Cf.ag}{n:Nat}{x:Cf.Node}(hx:k.nodes[n]?=some x):iR k (n+1)=(iR k n).set n (Cf.gK k.procs n x):=by
 apply List.ext_getElem?
 intro i
 rw[qJ,List.getElem?_set,jY]
 by_cases h:n=i
 ·subst h
  have:=(List.getElem?_eq_some_iff.1 hx).1
  rw[hx]
  simp[this]
 ·rw[if_neg h,qJ]
  cases k.nodes[i]? with
  | none=>rfl
  | some y=>
    simp only[Option.map_some]
    congr 1
    by_cases h2:i<n
    ·rw[if_pos h2,if_pos (by omega)]
    ·rw[if_neg h2,if_neg (by omega)]
theorem xN{k:Cf.ag}{n:Nat}{x:List UInt8}(hx:k.pipes[n]?=some x):lW k (n+1)=(lW k n).set n (Cf.ni k.procs n x):=by
 apply List.ext_getElem?
 intro i
 rw[rq,List.getElem?_set,og]
 by_cases h:n=i
 ·subst h
  have:=(List.getElem?_eq_some_iff.1 hx).1
  rw[hx]
  simp[this]
 ·rw[if_neg h,rq]
  cases k.pipes[i]? with
  | none=>rfl
  | some y=>
    simp only[Option.map_some]
    congr 1
    by_cases h2:i<n
    ·rw[if_pos h2,if_pos (by omega)]
    ·rw[if_neg h2,if_neg (by omega)]
theorem Bc(k:Cf.ag):iR k k.nodes.length=k.nodes.mapIdx (Cf.gK k.procs):=by
 apply List.ext_getElem?
 intro i
 rw[qJ,List.getElem?_mapIdx]
 cases hx:k.nodes[i]? with
 | none=>rfl
 | some y=>simp[(List.getElem?_eq_some_iff.1 hx).1]
theorem zG(k:Cf.ag):lW k k.pipes.length=k.pipes.mapIdx (Cf.ni k.procs):=by
 apply List.ext_getElem?
 intro i
 rw[rq,List.getElem?_mapIdx]
 cases hx:k.pipes[i]? with
 | none=>rfl
 | some y=>simp[(List.getElem?_eq_some_iff.1 hx).1]
section
variable {B:Nat} {wb:World} {g:Nat} {a:KA} {xs:List MV} {ps:List PV} {k:Cf.ag} {w:World}
theorem KSt.putNode(h:KSt B wb g a xs ps k w){gN:Nat}(ha:a.N=some ⟨gN,0,none⟩){i:Nat}{x:Cf.Node}(x':Cf.Node)(hx:k.nodes[i]?=some x):
  KSt B wb g a xs ps ⟨k.mods,k.mem,k.nodes.set i x',k.pipes,k.procs⟩ ((((w.setCell ⟨gN,i*4,none⟩ (.string ⟨x'.name.toArray⟩)).setCell ⟨gN,i*4+1,none⟩ (.int .i64 x'.kind)).setCell ⟨gN,i*4+2,none⟩ (.string ⟨x'.data.toArray⟩)).setCell ⟨gN,i*4+3,none⟩ (.int .i64 x'.unit)):=by
 have hi:=(List.getElem?_eq_some_iff.1 hx).1
 have at_:∀(l:List Cf.Node) (y:Cf.Node),l.length=k.nodes.length→(l.set i y)[i]?=some y:=fun l y hl=>by rw[List.getElem?_set,if_pos rfl,if_pos (by omega)]
 have h1:=h.putN ha (j:=0) (x':=⟨x'.name,x.kind,x.data,x.unit⟩) (u:=.string ⟨x'.name.toArray⟩) hx (by omega) rfl
 have h2:=h1.putN ha (j:=1) (x':=⟨x'.name,x'.kind,x.data,x.unit⟩) (u:=.int .i64 x'.kind) (at_ _ _ rfl) (by omega) rfl
 have h3:=h2.putN ha (j:=2) (x':=⟨x'.name,x'.kind,x'.data,x.unit⟩) (u:=.string ⟨x'.data.toArray⟩) (at_ _ _ (by simp)) (by omega) rfl
 have h4:=h3.putN ha (j:=3) (x':=⟨x'.name,x'.kind,x'.data,x'.unit⟩) (u:=.int .i64 x'.unit) (at_ _ _ (by simp)) (by omega) rfl
 simp only[List.set_set]at h4
 exact h4
end
def Kp(w w':World):Prop:=∀(b:Nat) (t:TypeId) (cs:List Value),t≠bu→t≠lX→Wb w b t cs→Wb w' b t cs
theorem Kp.refl(w:World):Kp w w:=fun _ _ _ _ _ h=>h
theorem Kp.below{w w' w2:World}(h:Kp w w')(hb:Below w'.heap.size w' w2):Kp w w2:=fun b t cs h1 h2 hw=>(h b t cs h1 h2 hw).below hb (h b t cs h1 h2 hw).lt
theorem Kp.setN{w w':World}(h:Kp w w'){gN:Nat}{ds:List Value}{t':TypeId}(hg:Wb w' gN t' ds)(ht:t'=bu∨t'=lX)(i:Nat)(u:Value):Kp w (w'.setCell ⟨gN,i,none⟩ u):=fun b t cs h1 h2 hw=>by
 have hb:=h b t cs h1 h2 hw
 refine hb.off_ (p:=⟨gN,i,none⟩) (hb.other hg ?_) u
 rcases ht with rfl|rfl
 ·exact h1
 ·exact h2
theorem Kp.set4{w w':World}(h:Kp w w'){gN:Nat}{ds:List Value}(hg:Wb w' gN bu ds)(i0 i1 i2 i3:Nat)(u0 u1 u2 u3:Value):Kp w ((((w'.setCell ⟨gN,i0,none⟩ u0).setCell ⟨gN,i1,none⟩ u1).setCell ⟨gN,i2,none⟩ u2).setCell ⟨gN,i3,none⟩ u3):=
 (((h.setN hg (.inl rfl) i0 u0).setN (hg.put i0 u0) (.inl rfl) i1 u1).setN ((hg.put i0 u0).put i1 u1) (.inl rfl) i2 u2).setN (((hg.put i0 u0).put i1 u1).put i2 u2) (.inl rfl) i3 u3
theorem nI{B:Nat}{wb:World}{g:Nat}{a:KA}{xs:List MV}{ps:List PV}(k:Cf.ag)(w:World)(h:KSt B wb g a xs ps k w)(h8:k.nodes.length=8)(h6:k.pipes.length=6)(hp:k.procs.length≤big)(he:∀p∈k.procs,p.ends.length≤big):
  Calls Tryz.prog 110 #[.pointer (some ⟨g,0,none⟩)] w fun e w'=>e = .returned (.tuple #[])∧KSt B wb g a xs ps (Cf.iY k) w'∧Kp w w':=by
 obtain⟨A,ca,M,cm,N,cn,S,cs,Q,cq⟩:=a
 obtain⟨gN,hgN,_⟩:=h.own.nodes.at_ (i:=0) (List.getElem?_eq_getElem (by omega))
 obtain⟨gS,hgS,_⟩:=h.own.pipes.at_ (i:=0) (List.getElem?_eq_getElem (by omega))
 simp only at hgN hgS
 subst hgN hgS
 have HH:=hid (fun(k':Cf.ag) (hk:k'.procs=k.procs) W (hW:KSt B wb g ⟨A,ca,M,cm,some ⟨gN,0,none⟩,cn,some ⟨gS,0,none⟩,cs,Q,cq⟩ xs ps k' W) kd nd=>show Calls Tryz.prog 94 #[.pointer (some ⟨g,0,none⟩),.int .i64 kd,.int .i64 nd] W fun e w'=>e = .returned (.bool (Cf.hasB k.procs kd nd))∧Below W.heap.size W w' by
  have:=jQ k' _ g kd nd W hW.ptr (by rw[hk];exact Nat.le_trans hp (by unfold big maxLen;omega)) (by rw[hk];exact fun p hp=>Nat.le_trans (he p hp) (by unfold big maxLen;omega))
  rw[hk]at this
  exact this)
 have H0:=hid (show KSt B wb g ⟨A,ca,M,cm,some ⟨gN,0,none⟩,cn,some ⟨gS,0,none⟩,cs,Q,cq⟩ xs ps ⟨k.mods,k.mem,iR k 0,k.pipes,k.procs⟩ w by rw[yj];exact h)
 have HZ:=hid (show Cf.iY k=⟨k.mods,k.mem,iR k 8,lW k 6,k.procs⟩ by unfold Cf.iY;rw[← h8,← h6,Bc,zG])
 have c2:=h.ptr.c2
 simp only[h8]at c2
 have hl:=h.box.lt
 have H8:=hid h8
 have H6:=hid h6
 clear h hp he h8 h6
 go_enter Tryz.func110,Tryz.ntmps110
 go_wp2
 clear c2 hl
 go_loopw [10] (fun i wr=>∃n:Nat,n≤8∧i = .int .i64 n∧KSt B wb g ⟨A,ca,M,cm,some ⟨gN,0,none⟩,cn,some ⟨gS,0,none⟩,cs,Q,cq⟩ xs ps ⟨k.mods,k.mem,iR k n,k.pipes,k.procs⟩ wr∧Kp w wr) (fun i _=>8-(intOf i).toNat)
 case atStart=>exact⟨0,by omega,rfl,H0.out,Kp.refl w⟩
 case round=>
  obtain⟨n,hnn,rfl,hK,hkp⟩:=hrel
  clear H0
  have HKp:=hid hkp
  clear hkp
  have HK:=hid hK
  have c2:=hK.ptr.c2
  have c3:=hK.ptr.c3
  simp only[jY,H8.out,H6.out]at c2 c3
  have hl:=hK.box.lt
  by_cases hlt:n<8
  ·obtain⟨nm,kd,da,un,hx⟩:∃nm kd da un,k.nodes[n]?=some ⟨nm,kd,da,un⟩:=⟨_,_,_,_,List.getElem?_eq_getElem (by rw[H8.out];exact hlt)⟩
   have hx':(iR k n)[n]?=some ⟨nm,kd,da,un⟩:=by rw[qJ,hx];simp
   obtain⟨gN',hgN,hBN,hNlt,hBk⟩:=hK.own.nodes.at_ hx'
   cases hgN
   have r0:wr.cell? ⟨gN,n*4,none⟩=some (.string ⟨nm.toArray⟩):=hBk.cell hx' (j:=0) rfl
   have r1:wr.cell? ⟨gN,n*4+1,none⟩=some (.int .i64 kd):=hBk.cell hx' (j:=1) rfl
   have r2:wr.cell? ⟨gN,n*4+2,none⟩=some (.string ⟨da.toArray⟩):=hBk.cell hx' (j:=2) rfl
   have r3:wr.cell? ⟨gN,n*4+3,none⟩=some (.int .i64 un):=hBk.cell hx' (j:=3) rfl
   have HK2:=hid (fun o=>hK.below ((Below.refl _ _).alloc (Nat.le_refl _) o))
   have HN:=hid (xQ hx)
   have HX:=hid hx'
   have HV:=hid (fun W hW=>HH.out ⟨k.mods,k.mem,iR k n,k.pipes,k.procs⟩ rfl W hW 1 n)
   clear hBk hx hx' hK
   by_cases hm:nm=[]
   ·subst hm
    have HT:=hid (show Cf.gK k.procs n ⟨[],kd,da,un⟩=if Cf.hasB k.procs 1 n=false then Cf.bM else⟨[],kd,da,un⟩ by unfold Cf.gK;simp)
    generalize Cf.hasB k.procs 1 n=q at *
    go_wp2_with fail
    refine(HV.out _ (HK2.out _)).mono ?_
    rintro e w1 ⟨rfl,hb1⟩
    have hK3:=(HK2.out (.cells #[.string ⟨#[]⟩,.int .i64 kd,.string ⟨da.toArray⟩,.int .i64 un] 57)).below hb1
    have HK3:=hid hK3
    have vX:=hid ((HKp.out.below ((Below.refl _ _).alloc (Nat.le_refl _) (.cells #[.string ⟨#[]⟩,.int .i64 kd,.string ⟨da.toArray⟩,.int .i64 un] 57))).below hb1)
    have d2:=hK3.ptr.c2
    simp only[jY,H8.out]at d2
    have dl:=hK3.box.lt
    obtain⟨gN',hgN,_,hNlt1,hBk1⟩:=hK3.own.nodes.at_ HX.out
    cases hgN
    have s0:w1.cell? ⟨gN,n*4,none⟩=_:=hBk1.cell HX.out (j:=0) rfl
    have s1:w1.cell? ⟨gN,n*4+1,none⟩=_:=hBk1.cell HX.out (j:=1) rfl
    have s2:w1.cell? ⟨gN,n*4+2,none⟩=_:=hBk1.cell HX.out (j:=2) rfl
    have s3:w1.cell? ⟨gN,n*4+3,none⟩=_:=hBk1.cell HX.out (j:=3) rfl
    have sf:=hBk1.open_
    obtain⟨dsN,HwN⟩:∃ds,Hid (Wb w1 gN bu ds):=hBk1.2.elim fun q hq=>⟨_,hid hq⟩
    clear hK3 hBk1 hb1 HV HK2 r0 r1 r2 r3
    cases q
    ·have HFin:=hid (HK3.out.putNode rfl Cf.bM HX.out)
     have HF2:=hid (show KSt B wb g ⟨A,ca,M,cm,some ⟨gN,0,none⟩,cn,some ⟨gS,0,none⟩,cs,Q,cq⟩ xs ps ⟨k.mods,k.mem,iR k (n+1),k.pipes,k.procs⟩ _ by rw[HN.out,HT.out];exact HFin.out)
     clear HFin
     simp only[Cf.bM]at HF2
     go_wp2
     go_roundw
     case rel=>exact⟨n+1,by omega,by go_num,HF2.out,vX.out.set4 HwN.out _ _ _ _ _ _ _ _⟩
     case measure=>simp[intOf];omega
    ·have HF2:=hid (show KSt B wb g ⟨A,ca,M,cm,some ⟨gN,0,none⟩,cn,some ⟨gS,0,none⟩,cs,Q,cq⟩ xs ps ⟨k.mods,k.mem,iR k (n+1),k.pipes,k.procs⟩ w1 by rw[HN.out,HT.out,jD (by simpa using HX.out)];exact HK3.out)
     go_wp2
     go_roundw
     case rel=>exact⟨n+1,by omega,by go_num,HF2.out,vX.out⟩
     case measure=>simp[intOf];omega
   ·have hs:¬nm.isEmpty=true:=by simpa using hm
    have HF2:=hid (show ∀o,KSt B wb g ⟨A,ca,M,cm,some ⟨gN,0,none⟩,cn,some ⟨gS,0,none⟩,cs,Q,cq⟩ xs ps ⟨k.mods,k.mem,iR k (n+1),k.pipes,k.procs⟩ (wr.alloc o) by
     intro o
     have ht:Cf.gK k.procs n ⟨nm,kd,da,un⟩=⟨nm,kd,da,un⟩:=by unfold Cf.gK;simp[hm]
     rw[HN.out,ht,jD HX.out]
     exact HK2.out o)
    clear hm HV HK2
    go_wp2
    go_roundw
    case rel=>exact⟨n+1,by omega,by go_num,HF2.out _,HKp.out.below ((Below.refl _ _).alloc (Nat.le_refl _) _)⟩
    case measure=>simp[intOf];omega
  ·obtain rfl:n=8:=by omega
   have H1:=hid (show KSt B wb g ⟨A,ca,M,cm,some ⟨gN,0,none⟩,cn,some ⟨gS,0,none⟩,cs,Q,cq⟩ xs ps ⟨k.mods,k.mem,iR k 8,lW k 0,k.procs⟩ wr by rw[xR];exact hK)
   clear hK HK hlt hnn c2
   rw[show((8:Nat):Int)=8 from rfl]
   go_wp2
   clear c3 hl
   go_loopw [37] (fun i wr=>∃n:Nat,n≤6∧i = .int .i64 n∧KSt B wb g ⟨A,ca,M,cm,some ⟨gN,0,none⟩,cn,some ⟨gS,0,none⟩,cs,Q,cq⟩ xs ps ⟨k.mods,k.mem,iR k 8,lW k n,k.procs⟩ wr∧Kp w wr) (fun i _=>6-(intOf i).toNat)
   case atStart=>exact⟨0,by omega,rfl,H1.out,HKp.out⟩
   case round=>
    obtain⟨n,hnn,rfl,hK,hkp⟩:=hrel
    clear H1 HKp
    have HKp:=hid hkp
    clear hkp
    have HK:=hid hK
    have hl:=hK.box.lt
    by_cases hlt:n<6
    ·obtain⟨str,hx⟩:∃str,k.pipes[n]?=some str:=⟨_,List.getElem?_eq_getElem (by rw[H6.out];exact hlt)⟩
     have hx':(lW k n)[n]?=some str:=by rw[rq,hx];simp
     have HN:=hid (xN hx)
     have HX:=hid hx'
     have HV:=hid (HH.out ⟨k.mods,k.mem,iR k 8,lW k n,k.procs⟩ rfl wr hK 2 n)
     have HT:=hid (show Cf.ni k.procs n str=if Cf.hasB k.procs 2 n=false then[] else str from rfl)
     clear hx hx' hK
     generalize Cf.hasB k.procs 2 n=q at *
     go_wp2_with fail
     refine HV.out.mono ?_
     rintro e w1 ⟨rfl,hb1⟩
     have hK3:=HK.out.below hb1
     have HK3:=hid hK3
     have vX:=hid (HKp.out.below hb1)
     have d3:=hK3.ptr.c3
     simp only[og,H6.out]at d3
     have dl:=hK3.box.lt
     obtain⟨gS',hgS,_,hSlt1,hBk1⟩:=hK3.own.pipes.at_ HX.out
     cases hgS
     have s0:w1.cell? ⟨gS,n,none⟩=some (.string ⟨str.toArray⟩):=by have:=hBk1.cell HX.out (j:=0) rfl;simpa using this
     have sf:=hBk1.open_
     obtain⟨dsS,HwS⟩:∃ds,Hid (Wb w1 gS lX ds):=hBk1.2.elim fun q hq=>⟨_,hid hq⟩
     clear hK3 hBk1 hb1 HV
     cases q
     ·have HF2:=hid (show KSt B wb g ⟨A,ca,M,cm,some ⟨gN,0,none⟩,cn,some ⟨gS,0,none⟩,cs,Q,cq⟩ xs ps ⟨k.mods,k.mem,iR k 8,lW k (n+1),k.procs⟩ (w1.setCell ⟨gS,n,none⟩ (.string ⟨#[]⟩)) by rw[HN.out,HT.out];exact HK3.out.putP rfl [] HX.out)
      go_wp2
      go_roundw
      case rel=>exact⟨n+1,by omega,by go_num,HF2.out,vX.out.setN HwS.out (.inr rfl) _ _⟩
      case measure=>simp[intOf];omega
     ·have HF2:=hid (show KSt B wb g ⟨A,ca,M,cm,some ⟨gN,0,none⟩,cn,some ⟨gS,0,none⟩,cs,Q,cq⟩ xs ps ⟨k.mods,k.mem,iR k 8,lW k (n+1),k.procs⟩ w1 by rw[HN.out,HT.out,if_neg (by decide),jD HX.out];exact HK3.out)
      go_wp2
      go_roundw
      case rel=>exact⟨n+1,by omega,by go_num,HF2.out,vX.out⟩
      case measure=>simp[intOf];omega
    ·obtain rfl:n=6:=by omega
     clear hK
     go_wp2
     go_end0
     exact⟨rfl,by rw[HZ.out];exact HK.out,HKp.out⟩
end
section
open Go.RowKit
abbrev au:TypeId:=34
def KpA(w w':World):Prop:=∀(b:Nat) (cs:List Value),Wb w b au cs→Wb w' b au cs
theorem KpA.refl(w:World):KpA w w:=fun _ _ h=>h
theorem KpA.alloc(w:World)(o:Obj):KpA w (w.alloc o):=fun _ _ h=>h.alloc o
theorem KpA.trans{w w1 w2:World}(h:KpA w w1)(h':KpA w1 w2):KpA w w2:=fun b cs hb=>h' b cs (h b cs hb)
theorem KpA.below{w w1 w2:World}(h:KpA w w1)(hb:Below w1.heap.size w1 w2):KpA w w2:=fun b cs hw=>(h b cs hw).below hb (h b cs hw).lt
theorem KpA.draw{w w1:World}(h:KpA w w1)(n:Nat):KpA w (w1.drewN n):=fun b cs hw=>(h b cs hw).draw n
theorem KpA.offX{w w1:World}{g:Nat}{t:TypeId}(h:KpA w w1)(hg:∃ds,Wb w1 g t ds)(hne:au≠t)(i:Nat)(u:Value):KpA w (w1.setCell ⟨g,i,none⟩ u):=fun b cs hw=>by
 obtain⟨ds,hg⟩:=hg
 exact(h b cs hw).off_ (p:=⟨g,i,none⟩) ((h b cs hw).other hg hne) u
theorem KpA.offX3{w w1:World}{g:Nat}{t:TypeId}(h:KpA w w1)(hg:∃ds,Wb w1 g t ds)(hne:au≠t)(i j l:Nat)(u v x:Value):KpA w (((w1.setCell ⟨g,i,none⟩ u).setCell ⟨g,j,none⟩ v).setCell ⟨g,l,none⟩ x):=by
 obtain⟨ds,hg⟩:=hg
 exact((h.offX ⟨ds,hg⟩ hne i u).offX ⟨_,hg.put i u⟩ hne j v).offX ⟨_,(hg.put i u).put j v⟩ hne l x
theorem KpA.offX4{w w1:World}{g:Nat}{t:TypeId}(h:KpA w w1)(hg:∃ds,Wb w1 g t ds)(hne:au≠t)(i j l m:Nat)(u v x y:Value):KpA w ((((w1.setCell ⟨g,i,none⟩ u).setCell ⟨g,j,none⟩ v).setCell ⟨g,l,none⟩ x).setCell ⟨g,m,none⟩ y):=by
 obtain⟨ds,hg⟩:=hg
 exact(h.offX3 ⟨ds,hg⟩ hne i j l u v x).offX ⟨_,((hg.put i u).put j v).put l x⟩ hne m y
def ah(B:Nat)(wb:World)(g:Nat)(w:World)(k:Cf.ag)(w':World):Prop:=(∃a xs ps,KSt B wb g a xs ps k w')∧KpA w w'
theorem ah.draw{B:Nat}{wb:World}{g:Nat}{w w':World}{k:Cf.ag}(h:ah B wb g w k w'):ah B wb g w k w'.drew:=by
 obtain⟨⟨a,xs,ps,h⟩,hk⟩:=h
 exact⟨⟨a,xs,ps,h.below (Below.refl _ _).drew⟩,hk.draw 1⟩
def dF(B:Nat)(wb:World)(g:Nat)(w:World)(d:Cf.Did)(e:Ending)(w':World):Prop:=e = .returned (.agg (aF d.ans).toArray)∧ah B wb g w d.kern w'
theorem iO{n:Nat}(h:n≤1024):n≤maxLen:=by unfold maxLen;omega
theorem eu{n:Nat}(h:n≤1024):n≤big:=by unfold big;omega
section
variable {B:Nat} {wb:World} {g:Nat} {a:KA} {xs:List MV} {ps:List PV} {k:Cf.ag} {w:World}
theorem KSt.offT(h:KSt B wb g a xs ps k w){b:Nat}{t:TypeId}{cs:List Value}(hb:Wb w b t cs)(hB:B≤b)(n1:ae≠t)(n2:jk≠t)(n3:ET≠t)(n4:fD≠t)(n5:bu≠t)(n6:lX≠t)(n7:jL≠t)(n8:fP≠t)(i:Nat)(u:Value):KSt B wb g a xs ps k (w.setCell ⟨b,i,none⟩ u):=
 ⟨h.box.off_ (p:=⟨b,i,none⟩) (h.box.other hb n1) u,⟨aj h.own.row (ax h.own.row hb n2) u,h.own.each.offM hb n3 n4 i u,h.own.mem.offW hb n4 i u,h.own.nodes.offW hb n5 i u,h.own.pipes.offW hb n6 i u,h.own.procs.offW hb n7 i u,h.own.ends.offE hb n8 i u,h.own.apart,h.own.dat,h.own.capM⟩,h.lo,h.keep.setCell hB u⟩
theorem KSt.ans(h:KSt B wb g a xs ps k w){b:Nat}{cs:List Value}(hb:Wb w b au cs)(hB:B≤b)(v0 v1 v2:Value):KSt B wb g a xs ps k (((w.setCell ⟨b,0,none⟩ v0).setCell ⟨b,1,none⟩ v1).setCell ⟨b,2,none⟩ v2):=
 ((h.offT hb hB (by decide) (by decide) (by decide) (by decide) (by decide) (by decide) (by decide) (by decide) 0 v0).offT (hb.put 0 v0) hB (by decide) (by decide) (by decide) (by decide) (by decide) (by decide) (by decide) (by decide) 1 v1).offT ((hb.put 0 v0).put 1 v1) hB (by decide) (by decide) (by decide) (by decide) (by decide) (by decide) (by decide) (by decide) 2 v2
end
theorem ay{B:Nat}{wb:World}{g:Nat}{a:KA}{xs:List MV}{ps:List PV}{k:Cf.ag}{w w0 W:World}{b:Nat}{cs:List Value}(h:KSt B wb g a xs ps k W)(hA:KpA w0 W)(hw:KpA w w0)(hb:Wb w0 b au cs)(hl:w.heap.size≤b)(hB:B≤b)(v0 v1 v2:Value):
  ah B wb g w k (((W.setCell ⟨b,0,none⟩ v0).setCell ⟨b,1,none⟩ v1).setCell ⟨b,2,none⟩ v2):=by
 refine⟨⟨a,xs,ps,h.ans (hA b cs hb) hB v0 v1 v2⟩,fun b' cs' hb'=>?_⟩
 have hne:b'≠b:=by have:=hb'.lt;omega
 exact(((hA b' cs' (hw b' cs' hb')).off_ (p:=⟨b,0,none⟩) hne v0).off_ (p:=⟨b,1,none⟩) hne v1).off_ (p:=⟨b,2,none⟩) hne v2
theorem BK{B:Nat}{wb:World}{g:Nat}{a:KA}{xs:List MV}{ps:List PV}(k:Cf.ag)(w:World)(name:List UInt8)(h:KSt B wb g a xs ps k w)(hG:Cf.Good k):
  Calls Tryz.prog 69 #[.pointer (some ⟨g,0,none⟩),.string ⟨name.toArray⟩] w (dF B wb g w (Cf.fV k name)):=by
 obtain⟨A,ca,M,cm,N,cn,S,cs,Q,cq⟩:=a
 obtain⟨gN,hgN,_⟩:=h.own.nodes.at_ (i:=0) (List.getElem?_eq_getElem (by rw[hG.nodesL];omega))
 simp only at hgN
 subst hgN
 have H:=hid h
 have HW0:=hid (show Below w.heap.size w (w.alloc (.cells #[.int .i64 0,.int .i64 0,.string ⟨#[]⟩] au)) from(Below.refl _ _).alloc (Nat.le_refl _) _)
 have HXB:=hid (Wb.new w au [.int .i64 0,.int .i64 0,.string ⟨#[]⟩])
 have HXw:=hid (KpA.alloc w (.cells #[.int .i64 0,.int .i64 0,.string ⟨#[]⟩] au))
 have HX0:=hid (KpA.refl (w.alloc (.cells #[.int .i64 0,.int .i64 0,.string ⟨#[]⟩] au)))
 have hroom:=h.room
 have hlow:w.heap.size≤w.heap.size:=Nat.le_refl _
 have HG:=hid hG
 have HE:=hid (show ∀p∈k.procs,p.ends.length≤big from fun p hp=>eu (by rw[hG.ends p hp];omega))
 have HF:=hid (fun W (hW:Below w.heap.size w W)=>kX k _ g name W (h.below hW).ptr (iO (by rw[hG.nodesL];omega)))
 clear h hG
 rcases Cf.bQ (Cf.aQ name) k.nodes with ⟨_,hz⟩|⟨i,x,hz,hx,hn,_⟩
 ·have HD:=hid (show Cf.fV k name=Cf.ai k 6 by unfold Cf.fV;rw[hz,if_pos (by omega)])
  rw[HD.out]
  rw[hz]at HF
  clear hz HD HG HE
  go_enter Tryz.func69,Tryz.ntmps69
  go_wp2_with fail
  refine(HF.out _ HW0.out).mono ?_
  rintro e w1 ⟨rfl,hb1⟩
  have HW1:=hid (HW0.out.trans (hb1.mono (HW0.out).size))
  have HX1:=hid (HX0.out.below hb1)
  clear hb1 HW0 HX0 HF
  go_wp2_with fail
  refine(az 6 _).mono ?_
  rintro e w2 ⟨rfl,hb2⟩
  have HW2:=hid (HW1.out.trans (hb2.mono (HW1.out).size))
  have HX2:=hid (HX1.out.below hb2)
  simp only[aF]
  clear hb2 HW1 HX1
  have HK2:=hid (H.out.below HW2.out)
  have hX9:=HX2.out _ _ HXB.out
  have HFin:=hid (ay HK2.out HX2.out HXw.out HXB.out hlow hroom)
  obtain⟨p0,p1,p2,f0,hl9⟩:=aS hX9
  clear hX9 HK2 HX2 HXw HXB   HW2
  go_wp2
  refine bodyPost_ret (v:=.agg #[.int .i64 6,.int .i64 0,.string ⟨#[]⟩]) (by simp[results,Tryz.results69,go_sem,p0,p1,p2]) rfl ?_
  exact⟨rfl,by(show ah _ _ _ _ k _);with_reducible exact HFin.out _ _ _⟩
 ·have hnd:Cf.nodeAt k i=x:=by rw[Cf.nodeAt,List.getD_eq_getElem?_getD,hx];rfl
  obtain⟨k2,hk2⟩:∃k2:Cf.ag,k2=⟨k.mods,k.mem,k.nodes.set i ⟨[],x.kind,x.data,x.unit⟩,k.pipes,k.procs⟩:=⟨_,rfl⟩
  have HD:=hid (show Cf.fV k name=⟨Cf.iY k2,Cf.kS⟩ by
   unfold Cf.fV
   rw[hz,if_neg (by omega),Int.toNat_natCast,hnd,hk2]
   rfl)
  rw[HD.out]
  rw[hz]at HF
  have hi8:i<8:=by rw[← HG.out.nodesL];exact(List.getElem?_eq_some_iff.1 hx).1
  have HX:=hid hx
  have HE2:=hid hk2
  clear hz HD hnd hx hn hk2
  go_enter Tryz.func69,Tryz.ntmps69
  go_wp2_with fail
  refine(HF.out _ HW0.out).mono ?_
  rintro e w1 ⟨rfl,hb1⟩
  have HW1:=hid (HW0.out.trans (hb1.mono (HW0.out).size))
  have HX1:=hid (HX0.out.below hb1)
  clear hb1 HW0 HX0 HF
  have HK1:=hid (H.out.below HW1.out)
  have c2:=HK1.out.ptr.c2
  simp only[HG.out.nodesL]at c2
  have hl:=HK1.out.box.lt
  obtain⟨gN',hgN,_,hNlt,hBk⟩:=HK1.out.own.nodes.at_ HX.out
  cases hgN
  have r0:w1.cell? ⟨gN,i*4,none⟩=_:=hBk.cell HX.out (j:=0) rfl
  have sf:=hBk.open_
  have HwN:=hid (hBk.2.elim fun q hq=>(⟨_,hq⟩:∃ds,Wb w1 gN bu ds))
  have hK2:=HK1.out.putN rfl (j:=0) (x':=⟨[],x.kind,x.data,x.unit⟩) (u:=.string ⟨#[]⟩) HX.out (by omega) rfl
  rw[← HE2.out]at hK2
  have HK2:=hid hK2
  have HX2:=hid (HX1.out.offX HwN.out (by decide) (i*4) (.string ⟨#[]⟩))
  have HR:=hid (nI _ _ HK2.out (by rw[HE2.out];simp[HG.out.nodesL]) (by rw[HE2.out];exact HG.out.pipesL) (eu (by rw[HE2.out];show k.procs.length≤1024;rw[HG.out.procsL];omega)) (by rw[HE2.out];exact HE.out))
  clear hBk HwN HX1 hK2 HK2 HE2 HK1
  go_wp2_with fail
  refine HR.out.mono ?_
  rintro e w3 ⟨rfl,hK3,hkp⟩
  have HK3:=hid hK3
  have HX3:=hid (HX2.out.trans fun b cs hb=>hkp b au cs (by decide) (by decide) hb)
  clear hK3 hkp HX2 HR c2 hl r0 sf
  have hX9:=HX3.out _ _ HXB.out
  have HFin:=hid (ay HK3.out HX3.out HXw.out HXB.out hlow hroom)
  obtain⟨p0,p1,p2,f0,hl9⟩:=aS hX9
  clear hX9 HK3 HX3 HXw HXB
  go_wp2
  refine bodyPost_ret (v:=.agg #[.int .i64 0,.int .i64 0,.string ⟨#[]⟩]) (by simp[results,Tryz.results69,go_sem,p0,p1,p2]) rfl ?_
  exact⟨rfl,by(show ah _ _ _ _ (Cf.iY k2) _);with_reducible exact HFin.out _ _ _⟩
end
section
open Go.RowKit
theorem vI{B:Nat}{wb:World}{g:Nat}{a:KA}{xs:List MV}{ps:List PV}(k:Cf.ag)(w:World)(h:KSt B wb g a xs ps k w)(h8:k.nodes.length=8)(h6:k.pipes.length=6)(hz:∀n∈k.nodes,n.kind=0→n=Cf.bM)(hp:k.procs.length≤big)(he:∀p∈k.procs,p.ends.length≤big):
  Calls Tryz.prog 43 #[.pointer (some ⟨g,0,none⟩)] w fun e w'=>e = .returned (.tuple #[])∧KSt B wb g a xs ps (Cf.iY k) w'∧Kp w w':=by
 obtain⟨A,ca,M,cm,N,cn,S,cs,Q,cq⟩:=a
 obtain⟨gN,hgN,_⟩:=h.own.nodes.at_ (i:=0) (List.getElem?_eq_getElem (by omega))
 obtain⟨gS,hgS,_⟩:=h.own.pipes.at_ (i:=0) (List.getElem?_eq_getElem (by omega))
 simp only at hgN hgS
 subst hgN hgS
 have HH:=hid (fun(k':Cf.ag) (hk:k'.procs=k.procs) W (hW:KSt B wb g ⟨A,ca,M,cm,some ⟨gN,0,none⟩,cn,some ⟨gS,0,none⟩,cs,Q,cq⟩ xs ps k' W) kd nd=>show Calls Tryz.prog 76 #[.agg (af ⟨A,ca,M,cm,some ⟨gN,0,none⟩,cn,some ⟨gS,0,none⟩,cs,Q,cq⟩ k').toArray,.int .i64 kd,.int .i64 nd] W fun e w'=>e = .returned (.bool (Cf.hasB k.procs kd nd))∧Below W.heap.size W w' by
  have:=nV k' _ kd nd W hW.ptr.2 (by rw[hk];exact hp) (by rw[hk];exact he)
  rw[hk]at this
  exact this)
 have Hz:=hid hz
 have H0:=hid (show KSt B wb g ⟨A,ca,M,cm,some ⟨gN,0,none⟩,cn,some ⟨gS,0,none⟩,cs,Q,cq⟩ xs ps ⟨k.mods,k.mem,iR k 0,k.pipes,k.procs⟩ w by rw[yj];exact h)
 have HZ:=hid (show Cf.iY k=⟨k.mods,k.mem,iR k 8,lW k 6,k.procs⟩ by unfold Cf.iY;rw[← h8,← h6,Bc,zG])
 have H8:=hid h8
 have H6:=hid h6
 clear h hp he h8 h6 hz
 go_enter Tryz.func43,Tryz.ntmps43
 go_wp2
 go_loopw [2] (fun i wr=>∃n:Nat,n≤8∧i = .int .i64 n∧KSt B wb g ⟨A,ca,M,cm,some ⟨gN,0,none⟩,cn,some ⟨gS,0,none⟩,cs,Q,cq⟩ xs ps ⟨k.mods,k.mem,iR k n,k.pipes,k.procs⟩ wr∧Kp w wr) (fun i _=>8-(intOf i).toNat)
 case atStart=>exact⟨0,by omega,rfl,H0.out,Kp.refl w⟩
 case round=>
  obtain⟨n,hnn,rfl,hK,hkp⟩:=hrel
  clear H0
  have HKp:=hid hkp
  clear hkp
  have HK:=hid hK
  have c0:=hK.ptr.c0
  have c1:=hK.ptr.c1
  have c2:=hK.ptr.c2
  have c3:=hK.ptr.c3
  have c4:=hK.ptr.c4
  simp only[jY,H8.out,H6.out]at c2 c3
  have hl:=hK.box.lt
  by_cases hlt:n<8
  ·obtain⟨nm,kd,da,un,hx⟩:∃nm kd da un,k.nodes[n]?=some ⟨nm,kd,da,un⟩:=⟨_,_,_,_,List.getElem?_eq_getElem (by rw[H8.out];exact hlt)⟩
   have hx':(iR k n)[n]?=some ⟨nm,kd,da,un⟩:=by rw[qJ,hx];simp
   obtain⟨gN',hgN,hBN,hNlt,hBk⟩:=hK.own.nodes.at_ hx'
   cases hgN
   have r0:wr.cell? ⟨gN,n*4,none⟩=some (.string ⟨nm.toArray⟩):=hBk.cell hx' (j:=0) rfl
   have r1:wr.cell? ⟨gN,n*4+1,none⟩=some (.int .i64 kd):=hBk.cell hx' (j:=1) rfl
   have r2:wr.cell? ⟨gN,n*4+2,none⟩=some (.string ⟨da.toArray⟩):=hBk.cell hx' (j:=2) rfl
   have r3:wr.cell? ⟨gN,n*4+3,none⟩=some (.int .i64 un):=hBk.cell hx' (j:=3) rfl
   have HN:=hid (xQ hx)
   have HX:=hid hx'
   have HZn:=hid (Hz.out _ (List.mem_of_getElem? hx))
   have hv:=HH.out ⟨k.mods,k.mem,iR k n,k.pipes,k.procs⟩ rfl wr hK 1 n
   simp only[af,jY,H8.out,H6.out]at hv
   have HV:=hid hv
   clear hBk hx hx' hK hv
   by_cases hkd:kd=0
   ·have HF2:=hid (show KSt B wb g ⟨A,ca,M,cm,some ⟨gN,0,none⟩,cn,some ⟨gS,0,none⟩,cs,Q,cq⟩ xs ps ⟨k.mods,k.mem,iR k (n+1),k.pipes,k.procs⟩ wr by
     have ht:Cf.gK k.procs n ⟨nm,kd,da,un⟩=⟨nm,kd,da,un⟩:=by rw[Cf.Cc HZn.out];simp[hkd]
     rw[HN.out,ht,jD HX.out]
     exact HK.out)
    subst hkd
    go_wp2
    go_roundw
    case rel=>exact⟨n+1,by omega,by go_num,HF2.out,HKp.out⟩
    case measure=>simp[intOf];omega
   have hkb:(kd == 0)=false:=by rw[beq_eq_false_iff_ne];exact hkd
   by_cases hm:nm=[]
   ·subst hm
    have HT:=hid (show Cf.gK k.procs n ⟨[],kd,da,un⟩=if Cf.hasB k.procs 1 n=false then Cf.bM else⟨[],kd,da,un⟩ by unfold Cf.gK;simp)
    generalize Cf.hasB k.procs 1 n=q at *
    go_wp2_with fail
    refine HV.out.mono ?_
    rintro e w1 ⟨rfl,hb1⟩
    have hK3:=HK.out.below hb1
    have HK3:=hid hK3
    have vX:=hid (HKp.out.below hb1)
    have d2:=hK3.ptr.c2
    simp only[jY,H8.out]at d2
    have dl:=hK3.box.lt
    obtain⟨gN',hgN,_,hNlt1,hBk1⟩:=hK3.own.nodes.at_ HX.out
    cases hgN
    have s0:w1.cell? ⟨gN,n*4,none⟩=_:=hBk1.cell HX.out (j:=0) rfl
    have s1:w1.cell? ⟨gN,n*4+1,none⟩=_:=hBk1.cell HX.out (j:=1) rfl
    have s2:w1.cell? ⟨gN,n*4+2,none⟩=_:=hBk1.cell HX.out (j:=2) rfl
    have s3:w1.cell? ⟨gN,n*4+3,none⟩=_:=hBk1.cell HX.out (j:=3) rfl
    have sf:=hBk1.open_
    obtain⟨dsN,HwN⟩:∃ds,Hid (Wb w1 gN bu ds):=hBk1.2.elim fun q hq=>⟨_,hid hq⟩
    clear hK3 hBk1 hb1 HV r0 r1 r2 r3 c0 c1 c2 c3 c4
    cases q
    ·have HFin:=hid (HK3.out.putNode rfl Cf.bM HX.out)
     have HF2:=hid (show KSt B wb g ⟨A,ca,M,cm,some ⟨gN,0,none⟩,cn,some ⟨gS,0,none⟩,cs,Q,cq⟩ xs ps ⟨k.mods,k.mem,iR k (n+1),k.pipes,k.procs⟩ _ by rw[HN.out,HT.out];exact HFin.out)
     clear HFin
     simp only[Cf.bM]at HF2
     go_wp2
     go_roundw
     case rel=>exact⟨n+1,by omega,by go_num,HF2.out,vX.out.set4 HwN.out _ _ _ _ _ _ _ _⟩
     case measure=>simp[intOf];omega
    ·have HF2:=hid (show KSt B wb g ⟨A,ca,M,cm,some ⟨gN,0,none⟩,cn,some ⟨gS,0,none⟩,cs,Q,cq⟩ xs ps ⟨k.mods,k.mem,iR k (n+1),k.pipes,k.procs⟩ w1 by rw[HN.out,HT.out,jD (by simpa using HX.out)];exact HK3.out)
     go_wp2
     go_roundw
     case rel=>exact⟨n+1,by omega,by go_num,HF2.out,vX.out⟩
     case measure=>simp[intOf];omega
   ·have hs:nm.isEmpty=false:=by simpa using hm
    have HF2:=hid (show KSt B wb g ⟨A,ca,M,cm,some ⟨gN,0,none⟩,cn,some ⟨gS,0,none⟩,cs,Q,cq⟩ xs ps ⟨k.mods,k.mem,iR k (n+1),k.pipes,k.procs⟩ wr by
     have ht:Cf.gK k.procs n ⟨nm,kd,da,un⟩=⟨nm,kd,da,un⟩:=by unfold Cf.gK;simp[hm]
     rw[HN.out,ht,jD HX.out]
     exact HK.out)
    clear hm HV
    go_wp2
    go_roundw
    case rel=>exact⟨n+1,by omega,by go_num,HF2.out,HKp.out⟩
    case measure=>simp[intOf];omega
  ·obtain rfl:n=8:=by omega
   have H1:=hid (show KSt B wb g ⟨A,ca,M,cm,some ⟨gN,0,none⟩,cn,some ⟨gS,0,none⟩,cs,Q,cq⟩ xs ps ⟨k.mods,k.mem,iR k 8,lW k 0,k.procs⟩ wr by rw[xR];exact hK)
   clear hK HK hlt hnn c0 c1 c2 c3 c4
   rw[show((8:Nat):Int)=8 from rfl]
   go_wp2
   clear hl
   go_loopw [3] (fun i wr=>∃n:Nat,n≤6∧i = .int .i64 n∧KSt B wb g ⟨A,ca,M,cm,some ⟨gN,0,none⟩,cn,some ⟨gS,0,none⟩,cs,Q,cq⟩ xs ps ⟨k.mods,k.mem,iR k 8,lW k n,k.procs⟩ wr∧Kp w wr) (fun i _=>6-(intOf i).toNat)
   case atStart=>exact⟨0,by omega,rfl,H1.out,HKp.out⟩
   case round=>
    obtain⟨n,hnn,rfl,hK,hkp⟩:=hrel
    clear H1 HKp
    have HKp:=hid hkp
    clear hkp
    have HK:=hid hK
    have c0:=hK.ptr.c0
    have c1:=hK.ptr.c1
    have c2:=hK.ptr.c2
    have c3:=hK.ptr.c3
    have c4:=hK.ptr.c4
    simp only[jY,og,H8.out,H6.out]at c2 c3
    have hl:=hK.box.lt
    by_cases hlt:n<6
    ·obtain⟨str,hx⟩:∃str,k.pipes[n]?=some str:=⟨_,List.getElem?_eq_getElem (by rw[H6.out];exact hlt)⟩
     have hx':(lW k n)[n]?=some str:=by rw[rq,hx];simp
     have HN:=hid (xN hx)
     have HX:=hid hx'
     have hv:=HH.out ⟨k.mods,k.mem,iR k 8,lW k n,k.procs⟩ rfl wr hK 2 n
     simp only[af,jY,og,H8.out,H6.out]at hv
     have HV:=hid hv
     clear hv
     have HT:=hid (show Cf.ni k.procs n str=if Cf.hasB k.procs 2 n=false then[] else str from rfl)
     clear hx hx' hK
     generalize Cf.hasB k.procs 2 n=q at *
     go_wp2_with fail
     refine HV.out.mono ?_
     rintro e w1 ⟨rfl,hb1⟩
     have hK3:=HK.out.below hb1
     have HK3:=hid hK3
     have vX:=hid (HKp.out.below hb1)
     have d3:=hK3.ptr.c3
     simp only[og,H6.out]at d3
     have dl:=hK3.box.lt
     obtain⟨gS',hgS,_,hSlt1,hBk1⟩:=hK3.own.pipes.at_ HX.out
     cases hgS
     have s0:w1.cell? ⟨gS,n,none⟩=some (.string ⟨str.toArray⟩):=by have:=hBk1.cell HX.out (j:=0) rfl;simpa using this
     have sf:=hBk1.open_
     obtain⟨dsS,HwS⟩:∃ds,Hid (Wb w1 gS lX ds):=hBk1.2.elim fun q hq=>⟨_,hid hq⟩
     clear hK3 hBk1 hb1 HV c0 c1 c2 c3 c4
     cases q
     ·have HF2:=hid (show KSt B wb g ⟨A,ca,M,cm,some ⟨gN,0,none⟩,cn,some ⟨gS,0,none⟩,cs,Q,cq⟩ xs ps ⟨k.mods,k.mem,iR k 8,lW k (n+1),k.procs⟩ (w1.setCell ⟨gS,n,none⟩ (.string ⟨#[]⟩)) by rw[HN.out,HT.out];exact HK3.out.putP rfl [] HX.out)
      go_wp2
      go_roundw
      case rel=>exact⟨n+1,by omega,by go_num,HF2.out,vX.out.setN HwS.out (.inr rfl) _ _⟩
      case measure=>simp[intOf];omega
     ·have HF2:=hid (show KSt B wb g ⟨A,ca,M,cm,some ⟨gN,0,none⟩,cn,some ⟨gS,0,none⟩,cs,Q,cq⟩ xs ps ⟨k.mods,k.mem,iR k 8,lW k (n+1),k.procs⟩ w1 by rw[HN.out,HT.out,if_neg (by decide),jD HX.out];exact HK3.out)
      go_wp2
      go_roundw
      case rel=>exact⟨n+1,by omega,by go_num,HF2.out,vX.out⟩
      case measure=>simp[intOf];omega
    ·obtain rfl:n=6:=by omega
     clear hK
     go_wp2
     go_end0
     exact⟨rfl,by rw[HZ.out];exact HK.out,HKp.out⟩
end
section
open Go.RowKit
section
variable {B:Nat} {wb:World} {g:Nat} {a:KA} {xs:List MV} {ps:List PV} {k:Cf.ag} {w:World}
theorem KSt.putEnd(h:KSt B wb g a xs ps k w){q i:Nat}{x:PV}{p:Cf.dR}(hx:ps[q]?=some x)(hp:k.procs[q]?=some p){gE:Nat}(ha:x.A=some ⟨gE,0,none⟩){e:Cf.End}(e':Cf.End)(he:p.ends[i]?=some e):
  KSt B wb g a xs ps ⟨k.mods,k.mem,k.nodes,k.pipes,k.procs.set q ⟨p.live,p.ends.set i e'⟩⟩ (((w.setCell ⟨gE,i*3,none⟩ (.int .i64 e'.kind)).setCell ⟨gE,i*3+1,none⟩ (.int .i64 e'.node)).setCell ⟨gE,i*3+2,none⟩ (.int .i64 e'.pos)):=by
 have hq:=(List.getElem?_eq_some_iff.1 hp).1
 have hi:=(List.getElem?_eq_some_iff.1 he).1
 have atP:∀(l:List Cf.dR) (y:Cf.dR),l.length=k.procs.length→(l.set q y)[q]?=some y:=fun l y hl=>by rw[List.getElem?_set,if_pos rfl,if_pos (by omega)]
 have atE:∀(l:List Cf.End) (y:Cf.End),l.length=p.ends.length→(l.set i y)[i]?=some y:=fun l y hl=>by rw[List.getElem?_set,if_pos rfl,if_pos (by omega)]
 have h1:=h.putE hx hp ha (j:=0) (e':=⟨e'.kind,e.node,e.pos⟩) (u:=.int .i64 e'.kind) he (by omega) rfl
 have h2:=h1.putE hx (atP _ _ rfl) ha (j:=1) (e':=⟨e'.kind,e'.node,e.pos⟩) (u:=.int .i64 e'.node) (atE _ _ rfl) (by omega) rfl
 have h3:=h2.putE hx (atP _ _ (by simp)) ha (j:=2) (e':=⟨e'.kind,e'.node,e'.pos⟩) (u:=.int .i64 e'.pos) (atE _ _ (by simp)) (by omega) rfl
 simp only[List.set_set]at h3
 exact h3
structure PAt(a:KA)(ps:List PV)(k:Cf.ag)(q gQ gE ce:Nat)(lv:Bool)(es:List Cf.End):Prop where
 Q:a.Q=some ⟨gQ,0,none⟩
 pv:ps[q]?=some ⟨lv,some ⟨gE,0,none⟩,6,ce⟩
 proc:k.procs[q]?=some ⟨lv,es⟩
 len:es.length=6
 is_:Cf.aN k q=⟨lv,es⟩
 cap:6≤ce
theorem KSt.pat(h:KSt B wb g a xs ps k w)(hG:Cf.Pre k){q gQ:Nat}(hq:q<4)(hQ:a.Q=some ⟨gQ,0,none⟩):∃gE ce lv es,PAt a ps k q gQ gE ce lv es:=by
 have hl:q<ps.length:=by rw[h.own.ends.1,hG.procsL];exact hq
 have hx:ps[q]?=some ps[q]:=List.getElem?_eq_getElem hl
 obtain⟨e1,e2,e3,e4⟩:=h.own.ends.2 q _ _ hx (hG.at_ hq)
 have h6:=hG.ends _ (hG.mem_ hq)
 obtain⟨gE,hE,_,_,_⟩:=e3.at_ (i:=0) (List.getElem?_eq_getElem (by rw[h6];omega))
 rw[h6]at e2
 refine⟨gE,ps[q].ce,(Cf.aN k q).live,(Cf.aN k q).ends,hQ,?_,hG.at_ hq,h6,rfl,by rw[e2]at e4;exact e4⟩
 rw[hx,← e1,← hE,← e2]
theorem KSt.Bp(h:KSt B wb g a xs ps k w){q gQ gE ce:Nat}{lv:Bool}{es:List Cf.End}(hP:PAt a ps k q gQ gE ce lv es):Bk 2 bG w gQ jL ps:=by
 obtain⟨g',h1,_,_,h2⟩:=h.own.procs.at_ hP.pv
 rw[hP.Q]at h1
 cases h1
 exact h2
theorem KSt.Be(h:KSt B wb g a xs ps k w){q gQ gE ce:Nat}{lv:Bool}{es:List Cf.End}(hP:PAt a ps k q gQ gE ce lv es):Bk 3 bH w gE fP es:=by
 obtain⟨_,_,e3,_⟩:=h.own.ends.2 q _ _ hP.pv hP.proc
 obtain⟨g',h1,_,_,h2⟩:=e3.at_ (i:=0) (List.getElem?_eq_getElem (by show 0<es.length;rw[hP.len];omega))
 cases h1
 exact h2
theorem KSt.p1(h:KSt B wb g a xs ps k w){q gQ gE ce:Nat}{lv:Bool}{es:List Cf.End}(hP:PAt a ps k q gQ gE ce lv es):w.cell? ⟨gQ,q*2+1,none⟩=some (.slice (some ⟨gE,0,none⟩) 6 ce):=(h.Bp hP).cell hP.pv rfl
theorem KSt.box2(h:KSt B wb g a xs ps k w){q gQ gE ce:Nat}{lv:Bool}{es:List Cf.End}(hP:PAt a ps k q gQ gE ce lv es):∃ds,Wb w gE fP ds:=(h.Be hP).2.elim fun q hq=>⟨_,hq⟩
theorem KSt.Bn(h:KSt B wb g a xs ps k w){gN i:Nat}{x:Cf.Node}(hN:a.N=some ⟨gN,0,none⟩)(hx:k.nodes[i]?=some x):Bk 4 dA w gN bu k.nodes:=by
 obtain⟨g',h1,_,_,h2⟩:=h.own.nodes.at_ hx
 rw[hN]at h1
 cases h1
 exact h2
theorem KSt.Bs(h:KSt B wb g a xs ps k w){gS i:Nat}{x:List UInt8}(hS:a.S=some ⟨gS,0,none⟩)(hx:k.pipes[i]?=some x):Bk 1 iC w gS lX k.pipes:=by
 obtain⟨g',h1,_,_,h2⟩:=h.own.pipes.at_ hx
 rw[hS]at h1
 cases h1
 exact h2
theorem Bk.box{α:Type}{sz:Nat}{enc:α→List Value}{w:World}{g:Nat}{t:TypeId}{l:List α}(h:Bk sz enc w g t l):∃ds,Wb w g t ds:=h.2.elim fun q hq=>⟨_,hq⟩
end
theorem yJ{B:Nat}{wb:World}{g:Nat}{a:KA}{xs:List MV}{ps:List PV}(k:Cf.ag)(q gQ:Nat)(w:World)(name:List UInt8)(h:KSt B wb g a xs ps k w)(hG:Cf.Good k)(hq:q<4)(hQ:a.Q=some ⟨gQ,0,none⟩)(hnl:name.length≤maxLen):
  Calls Tryz.prog 111 #[.pointer (some ⟨g,0,none⟩),.pointer (some ⟨gQ,q*2,none⟩),.string ⟨name.toArray⟩] w (dF B wb g w (Cf.qj k q name)):=by
 obtain⟨A,ca,M,cm,N,cn,S,cs,Q,cq⟩:=a
 simp only at hQ
 subst hQ
 obtain⟨gE,ce,lv,es,hP⟩:=h.pat hG.toPre hq rfl
 have hb0:∀o:Obj,Below w.heap.size w (w.alloc o):=fun o=>(Below.refl _ _).alloc (Nat.le_refl _) _
 have HXB:=hid (Wb.new w au [.int .i64 0,.int .i64 0,.string ⟨#[]⟩])
 have HXw:=hid (KpA.alloc w (.cells #[.int .i64 0,.int .i64 0,.string ⟨#[]⟩] au))
 have HX0:=hid (KpA.refl (w.alloc (.cells #[.int .i64 0,.int .i64 0,.string ⟨#[]⟩] au)))
 have HK0:=hid (h.below (hb0 (.cells #[.int .i64 0,.int .i64 0,.string ⟨#[]⟩] au)))
 have hroom:=h.room
 have hlow:w.heap.size≤w.heap.size:=Nat.le_refl _
 have HG:=hid hG
 have HP:=hid hP
 have HNm:=hid (fun W=>oG name hnl W)
 have HFf:=hid (fun W (hW:KSt B wb g ⟨A,ca,M,cm,N,cn,S,cs,some ⟨gQ,0,none⟩,cq⟩ xs ps k W)=>kX k _ g name W hW.ptr (iO (by rw[hG.nodesL];omega)))
 have HFr:=hid (fun W (hW:KSt B wb g ⟨A,ca,M,cm,N,cn,S,cs,some ⟨gQ,0,none⟩,cq⟩ xs ps k W)=>show Calls Tryz.prog 137 #[.slice (some ⟨gE,0,none⟩) 6 ce] W (fun e w'=>e = .returned (.int .i64 (Cf.aJ Cf.aK es))∧Below W.heap.size W w') by
  have:=kV es (some ⟨gE,0,none⟩) ce W (hW.Be hP).rd (by rw[hP.len];unfold maxLen;omega)
  rw[hP.len]at this
  exact this)
 have HT:=hid (show Cf.qj k q name=if Cf.nameB name=false then Cf.ai k 4 else if Cf.aJ (Cf.aQ name) k.nodes<0 then Cf.ai k 6 else if Cf.aJ Cf.aK es<0 then Cf.ai k 8
  else⟨⟨k.mods,k.mem,k.nodes,k.pipes,k.procs.set q ⟨lv,es.set (Cf.aJ Cf.aK es).toNat ⟨1,Cf.aJ (Cf.aQ name) k.nodes,0⟩⟩⟩,⟨0,Cf.aJ Cf.aK es,[]⟩⟩ by
  unfold Cf.qj Cf.setEnd Cf.setProc
  rw[hP.is_])
 have HI:=hid (Cf.bQ Cf.aK es)
 clear h hG hP hb0 hnl
 generalize Cf.nameB name=b at *
 generalize Cf.aJ (Cf.aQ name) k.nodes=z1 at *
 generalize Cf.aJ Cf.aK es=z2 at *
 cases b
 ·rw[HT.out,if_pos rfl]
  clear HT HFf HFr HI HG HP
  go_enter Tryz.func111,Tryz.ntmps111
  go_wp2_with fail
  refine(HNm.out _).mono ?_
  rintro e w1 ⟨rfl,hb1⟩
  have HK1:=hid (HK0.out.below hb1)
  have HX1:=hid (HX0.out.below hb1)
  clear hb1 HK0 HX0 HNm
  go_wp2_with fail
  refine(az 4 _).mono ?_
  rintro e w2 ⟨rfl,hb2⟩
  have HK2:=hid (HK1.out.below hb2)
  have HX2:=hid (HX1.out.below hb2)
  simp only[aF]
  clear hb2 HK1 HX1
  have hX9:=HX2.out _ _ HXB.out
  have HFin:=hid (ay HK2.out HX2.out HXw.out HXB.out hlow hroom)
  obtain⟨p0,p1,p2,f0,hl9⟩:=aS hX9
  clear hX9 HK2 HX2 HXw HXB
  go_wp2
  refine bodyPost_ret (v:=.agg #[.int .i64 4,.int .i64 0,.string ⟨#[]⟩]) (by simp[results,Tryz.results111,go_sem,p0,p1,p2]) rfl ?_
  exact⟨rfl,by(show ah _ _ _ _ k _);with_reducible exact HFin.out _ _ _⟩
 ·rw[HT.out,if_neg (by decide)]
  by_cases hz1:z1<0
  ·rw[if_pos hz1]
   clear HT HFr HI HG HP
   go_enter Tryz.func111,Tryz.ntmps111
   go_wp2_with fail
   refine(HNm.out _).mono ?_
   rintro e w1 ⟨rfl,hb1⟩
   have HK1:=hid (HK0.out.below hb1)
   have HX1:=hid (HX0.out.below hb1)
   clear hb1 HK0 HX0 HNm
   go_wp2_with fail
   refine(HFf.out _ HK1.out).mono ?_
   rintro e w2 ⟨rfl,hb2⟩
   have HK2:=hid (HK1.out.below hb2)
   have HX2:=hid (HX1.out.below hb2)
   clear hb2 HK1 HX1 HFf
   go_wp2_with fail
   refine(az 6 _).mono ?_
   rintro e w3 ⟨rfl,hb3⟩
   have HK3:=hid (HK2.out.below hb3)
   have HX3:=hid (HX2.out.below hb3)
   simp only[aF]
   clear hb3 HK2 HX2
   have hX9:=HX3.out _ _ HXB.out
   have HFin:=hid (ay HK3.out HX3.out HXw.out HXB.out hlow hroom)
   obtain⟨p0,p1,p2,f0,hl9⟩:=aS hX9
   clear hX9 HK3 HX3 HXw HXB
   go_wp2
   refine bodyPost_ret (v:=.agg #[.int .i64 6,.int .i64 0,.string ⟨#[]⟩]) (by simp[results,Tryz.results111,go_sem,p0,p1,p2]) rfl ?_
   exact⟨rfl,by(show ah _ _ _ _ k _);with_reducible exact HFin.out _ _ _⟩
  ·rw[if_neg hz1]
   by_cases hz2:z2<0
   ·rw[if_pos hz2]
    clear HT HI HG
    go_enter Tryz.func111,Tryz.ntmps111
    go_wp2_with fail
    refine(HNm.out _).mono ?_
    rintro e w1 ⟨rfl,hb1⟩
    have HK1:=hid (HK0.out.below hb1)
    have HX1:=hid (HX0.out.below hb1)
    clear hb1 HK0 HX0 HNm
    go_wp2_with fail
    refine(HFf.out _ HK1.out).mono ?_
    rintro e w2 ⟨rfl,hb2⟩
    have HK2:=hid (HK1.out.below hb2)
    have HX2:=hid (HX1.out.below hb2)
    clear hb2 HK1 HX1 HFf
    have q1:=HK2.out.p1 HP.out
    have ql:=(HK2.out.Bp HP.out).lt
    go_wp2_with fail
    refine(HFr.out _ HK2.out).mono ?_
    rintro e w3 ⟨rfl,hb3⟩
    have HK3:=hid (HK2.out.below hb3)
    have HX3:=hid (HX2.out.below hb3)
    clear hb3 HK2 HX2 HFr q1 ql
    go_wp2_with fail
    refine(az 8 _).mono ?_
    rintro e w4 ⟨rfl,hb4⟩
    have HK4:=hid (HK3.out.below hb4)
    have HX4:=hid (HX3.out.below hb4)
    simp only[aF]
    clear hb4 HK3 HX3 HP
    have hX9:=HX4.out _ _ HXB.out
    have HFin:=hid (ay HK4.out HX4.out HXw.out HXB.out hlow hroom)
    obtain⟨p0,p1,p2,f0,hl9⟩:=aS hX9
    clear hX9 HK4 HX4 HXw HXB
    go_wp2
    refine bodyPost_ret (v:=.agg #[.int .i64 8,.int .i64 0,.string ⟨#[]⟩]) (by simp[results,Tryz.results111,go_sem,p0,p1,p2]) rfl ?_
    exact⟨rfl,by(show ah _ _ _ _ k _);with_reducible exact HFin.out _ _ _⟩
   ·rw[if_neg hz2]
    obtain⟨_,hzz⟩|⟨i,x,hzi,hxi,hfr,_⟩:=HI.out
    ·omega
    have hi6:i<6:=by rw[← HP.out.len];exact(List.getElem?_eq_some_iff.1 hxi).1
    have HXi:=hid hxi
    subst hzi
    rw[Int.toNat_natCast]
    clear HT HI HG hxi hfr hz2
    go_enter Tryz.func111,Tryz.ntmps111
    go_wp2_with fail
    refine(HNm.out _).mono ?_
    rintro e w1 ⟨rfl,hb1⟩
    have HK1:=hid (HK0.out.below hb1)
    have HX1:=hid (HX0.out.below hb1)
    clear hb1 HK0 HX0 HNm
    go_wp2_with fail
    refine(HFf.out _ HK1.out).mono ?_
    rintro e w2 ⟨rfl,hb2⟩
    have HK2:=hid (HK1.out.below hb2)
    have HX2:=hid (HX1.out.below hb2)
    clear hb2 HK1 HX1 HFf
    have q1:=HK2.out.p1 HP.out
    have ql:=(HK2.out.Bp HP.out).lt
    go_wp2_with fail
    refine(HFr.out _ HK2.out).mono ?_
    rintro e w3 ⟨rfl,hb3⟩
    have HK3:=hid (HK2.out.below hb3)
    have HX3:=hid (HX2.out.below hb3)
    clear hb3 HK2 HX2 HFr q1 ql
    have q1:=HK3.out.p1 HP.out
    have ql:=(HK3.out.Bp HP.out).lt
    have hBe:=HK3.out.Be HP.out
    have r0:w3.cell? ⟨gE,i*3,none⟩=_:=hBe.cell HXi.out (j:=0) rfl
    have r1:w3.cell? ⟨gE,i*3+1,none⟩=_:=hBe.cell HXi.out (j:=1) rfl
    have r2:w3.cell? ⟨gE,i*3+2,none⟩=_:=hBe.cell HXi.out (j:=2) rfl
    have rf:=hBe.open_
    have rl:=hBe.lt
    have HK4:=hid (HK3.out.putEnd HP.out.pv HP.out.proc rfl ⟨1,z1,0⟩ HXi.out)
    have HX4:=hid (HX3.out.offX3 hBe.box (by decide) (i*3) (i*3+1) (i*3+2) (.int .i64 1) (.int .i64 z1) (.int .i64 0))
    have pW:=HX3.out _ _ HXB.out
    have s0:=pW.cell 0
    have s1:=pW.cell 1
    have s2:=pW.cell 2
    simp only[gq]at s0 s1 s2
    have sf:=pW.open_
    have sl:=pW.lt
    have hne:gE≠w.heap.size:=Ne.symm (hBe.box.elim fun ds hd=>pW.other hd (by decide))
    clear hBe pW HK3 HX3
    have hX9:=HX4.out _ _ HXB.out
    have HFin:=hid (ay HK4.out HX4.out HXw.out HXB.out hlow hroom)
    obtain⟨p0,p1,p2,f0,hl9⟩:=aS hX9
    clear hX9 HK4 HX4 HXw HXB
    go_wp2
    refine bodyPost_ret (v:=.agg #[.int .i64 0,.int .i64 i,.string ⟨#[]⟩]) (by simp[results,Tryz.results111,go_sem,p0,p1,p2]) rfl ?_
    exact⟨rfl,by(show ah _ _ _ _ ⟨_,_,_,_,_⟩ _);with_reducible exact HFin.out _ _ _⟩
end
section
open Go.RowKit
theorem FO(body:List UInt8):(Cf.eH body).mod.name.length≤255∧(Cf.eH body).mod.code.length≤255∧(Cf.eH body).mod.data.length≤255:=by
 have h1:=Cf.oJ (Cf.aC 1 ⟨body,false⟩).got (Cf.aC 1 ⟨body,false⟩).rdr
 have h2:=Cf.cO ⟨body,false⟩
 have h3:(Cf.jb body).got.length≤255:=by unfold Cf.jb;rw[Cf.sN];exact Cf.cO _
 have h4:(Cf.je body).got.length≤255:=by unfold Cf.je;rw[Cf.rQ];exact Cf.cO _
 have h5:(Cf.iw body).got.length≤255:=by unfold Cf.iw;omega
 unfold Cf.eH
 generalize (Cf.je body).rdr.short=b
 generalize (Cf.je body).rdr.rest=t
 generalize Cf.iw body=x at *
 generalize Cf.jb body=y at *
 generalize Cf.je body=z at *
 cases b
 ·rw[if_neg (by simp)]
  by_cases ht:t=[]
  ·rw[if_pos ht]
   exact⟨h5,h3,h4⟩
  ·rw[if_neg ht]
   exact⟨Nat.zero_le _,Nat.zero_le _,Nat.zero_le _⟩
 ·rw[if_pos rfl]
  exact⟨Nat.zero_le _,Nat.zero_le _,Nat.zero_le _⟩
theorem decode_any(s:List UInt8)(w:World)(hL:jW w)(hF:kL w)(hs:s.length≤maxLen):
  Calls Tryz.prog 106 #[.string ⟨s.toArray⟩] w (zk (Cf.fC s).mod (Cf.fC s).err w):=by
 have HS:=hid hs
 unfold maxLen at hs
 have HT:=hid (Cf.BI s)
 have HL:=hid hL
 have HF:=hid hF
 have hb0:Below w.heap.size w (w.alloc (.cells #[.string ⟨#[]⟩,.slice none 0 0,.slice none 0 0] 79)):=(Below.refl _ _).alloc (Nat.le_refl _) _
 have hx0:=Wb.new w 79 [.string ⟨#[]⟩,.slice none 0 0,.slice none 0 0]
 clear hL hF
 by_cases h1:4000<s.length
 ·rw[if_pos h1]at HT
  go_enter Tryz.func106,Tryz.ntmps106
  go_wp2
  refine bodyPost_ret (v:=.tuple #[.agg #[.string ⟨#[]⟩,.slice none 0 0,.slice none 0 0],.int .i64 1]) (by simp[results,Tryz.results106,go_sem]) rfl ?_
  rw[HT.out]
  exact⟨none,none,0,0,rfl,.inl rfl,.inl rfl,hb0,.inl rfl,.inl rfl⟩
 ·rw[if_neg h1]at HT
  by_cases h2:s.length<4
  ·rw[if_pos h2]at HT
   go_enter Tryz.func106,Tryz.ntmps106
   go_wp2
   refine bodyPost_ret (v:=.tuple #[.agg #[.string ⟨#[]⟩,.slice none 0 0,.slice none 0 0],.int .i64 5]) (by simp[results,Tryz.results106,go_sem]) rfl ?_
   rw[HT.out]
   exact⟨none,none,0,0,rfl,.inl rfl,.inl rfl,hb0,.inl rfl,.inl rfl⟩
  ·rw[if_neg h2]at HT
   have s1:∀w,(Instr.slice 9 (.string ⟨s.toArray⟩) (some (.int .i64 4)) none none).run Tryz.prog w = .ok (.string ⟨(s.drop 4).toArray⟩) w:=ku s 4 (by omega)
   have s2:∀w,(Instr.slice 9 (.string ⟨s.toArray⟩) none (some (.int .i64 4)) none).run Tryz.prog w = .ok (.string ⟨(s.take 4).toArray⟩) w:=gu s 4 (by omega)
   have hdl:(s.drop 4).length=s.length-4:=by simp
   have HCk:=hid (fun W=>yz (s.drop 4) (by unfold maxLen;omega) W)
   have hpl:=FO (s.drop 4)
   have HPr:=hid (fun W=>parse_any (s.drop 4) W (by unfold maxLen;omega))
   have hbl:(s.drop 4).length≤4000:=by omega
   clear hdl
   generalize s.drop 4=bd at *
   generalize s.take 4=tk at *
   go_enter Tryz.func106,Tryz.ntmps106
   go_wp2_with fail
   go_region_with (go_at_call 105;(with_reducible refine(HCk.out _).mono ?_);rintro e w1 ⟨rfl,hb1⟩)
   have aO:Below w.heap.size w w1:=hb0.drew.trans (hb1.mono (by simp))
   have hx1:=Wb.below (w:=(w.alloc (.cells #[.string ⟨#[]⟩,.slice none 0 0,.slice none 0 0] 79)).drew) (show Wb _ _ _ _ from hx0) hb1 (by simp)
   obtain⟨z0,z1,z2, -, -⟩:=aS hx1
   have f0:=hx1.open_ 0
   have f1:=hx1.open_ 1
   have f2:=hx1.open_ 2
   have Hx1:=hid hx1
   have MF:=hx1.lt
   clear hb0 hx0 hb1 hx1 HCk s1 s2
   by_cases hq:Cf.kG bd=tk
   ·rw[if_neg (fun h=>h hq)]at HT
    have hq':(!(tk == Cf.kG bd))=false:=by simp[hq]
    clear hq
    rw[hq']
    clear hq'
    generalize Cf.kG bd=sl at *
    go_wp2_with fail
    refine(HPr.out _).mono ?_
    rintro e w2 ⟨A,B,ca,cb,rfl,hA,hB,hb2,hfA,hfB⟩
    have hbw2:=aO.trans (hb2.mono aO.size)
    have hx2:=Hx1.out.below hb2 Hx1.out.lt
    obtain⟨z0,z1,z2, -,hz2⟩:=aS hx2
    have f0:=hx2.open_ 0
    have f1:=hx2.open_ 1
    have f2:=hx2.open_ 2
    have Hx2:=hid hx2
    clear HPr Hx1 hx2
    generalize Cf.eH bd=g at *
    obtain⟨⟨n,l,d⟩,er⟩:=g
    dsimp only at hA hB hpl HT hfA hfB ⊢
    obtain⟨hn',hl',hd'⟩:=hpl
    have HA:=hid hA
    have HB:=hid hB
    have HfA:=hid hfA
    have HfB:=hid hfB
    have hlt1:=hid MF
    clear hfA hfB MF
    by_cases he:er=0
    ·subst he
     rw[if_pos rfl]at HT
     have hb3:Below w2.heap.size w2 (w2.alloc (.cells #[.string ⟨n.toArray⟩,.slice A l.length ca,.slice B d.length cb] 79)):=(Below.refl _ _).alloc (Nat.le_refl _) _
     have hbw3:=hbw2.trans (hb3.mono hbw2.size)
     have hm3:=Wb.new w2 79 [.string ⟨n.toArray⟩,.slice A l.length ca,.slice B d.length cb]
     have HV:=hid (rF n l d A B ca cb _ (HA.out.below hb3) (HB.out.below hb3) (HL.out.below hbw3) (HF.out.below hbw3) (by unfold maxLen;omega) (by unfold maxLen;omega) (by unfold maxLen;omega))
     have Hm3:=hid hm3
     have Hx3:=hid (Hx2.out.below hb3 Hx2.out.lt)
     have HB3:=hid hb3
     have Ld:=hid hbw3
     clear hA hB hb3 hbw3 hm3
     go_wp2_with fail
     refine HV.out.mono ?_
     rintro e w4 ⟨rfl,hb4⟩
     have lw:=Ld.out.trans (hb4.mono Ld.out.size)
     have hx4:=Hx3.out.below hb4 Hx3.out.lt
     have hm4:=Hm3.out.below hb4 Hm3.out.lt
     have HA4:=hid ((HA.out.below HB3.out).below hb4)
     have HB4:=hid ((HB.out.below HB3.out).below hb4)
     clear HV Hm3 Hx3 HB3 Ld hb4 HA HB z0 z1 z2 f0 f1 f2 hz2 hbw2 hb2 Hx2
     obtain⟨z0,z1,z2, -, -⟩:=aS hx4
     have f0:=hx4.open_ 0
     have f1:=hx4.open_ 1
     have f2:=hx4.open_ 2
     have y0:=hm4.cell 0
     have y1:=hm4.cell 1
     have y2:=hm4.cell 2
     simp only[gq]at y0 y1 y2
     clear hx4 hm4
     by_cases hm:Cf.cZ ⟨n,l,d⟩=0
     ·rw[if_pos hm]at HT
      rw[hm]
      go_wp2
      refine bodyPost_ret (v:=.tuple #[.agg #[.string ⟨n.toArray⟩,.slice A l.length ca,.slice B d.length cb],.int .i64 0]) (by simp[results,Tryz.results106,go_sem,z0,z1,z2]) rfl ?_
      rw[HT.out]
      exact⟨A,B,ca,cb,rfl,bF (bF (bF HA4.out HfA.out (p:=⟨w.heap.size,0,none⟩) hlt1.out _) HfA.out (p:=⟨w.heap.size,1,none⟩) hlt1.out _) HfA.out (p:=⟨w.heap.size,2,none⟩) hlt1.out _,
       bF (bF (bF HB4.out HfB.out (p:=⟨w.heap.size,0,none⟩) hlt1.out _) HfB.out (p:=⟨w.heap.size,1,none⟩) hlt1.out _) HfB.out (p:=⟨w.heap.size,2,none⟩) hlt1.out _,
       ((lw.setCell (Nat.le_refl _) _).setCell (Nat.le_refl _) _).setCell (Nat.le_refl _) _,HfA.out.mono aO.size,HfB.out.mono aO.size⟩
     ·rw[if_neg hm]at HT
      have hm':(Cf.cZ ⟨n,l,d⟩ != 0)=true:=by simp[hm]
      clear hm
      generalize Cf.cZ ⟨n,l,d⟩=em at *
      go_wp2
      refine bodyPost_ret (v:=.tuple #[.agg #[.string ⟨#[]⟩,.slice none 0 0,.slice none 0 0],.int .i64 em]) (by simp[results,Tryz.results106,go_sem,z0,z1,z2]) rfl ?_
      rw[HT.out]
      exact⟨none,none,0,0,rfl,.inl rfl,.inl rfl,((lw.setCell (Nat.le_refl _) _).setCell (Nat.le_refl _) _).setCell (Nat.le_refl _) _,.inl rfl,.inl rfl⟩
    ·rw[if_neg he]at HT
     have he':(er == 0)=false:=by simp[he]
     have he2:(er != 0)=true:=by simp[he]
     clear he hA hB HA HB Hx2
     have hbw3:=((hbw2.setCell (p:=⟨w.heap.size,0,none⟩) (Nat.le_refl _) (.string ⟨#[]⟩)).setCell (p:=⟨w.heap.size,1,none⟩) (Nat.le_refl _) (.slice none 0 0)).setCell (p:=⟨w.heap.size,2,none⟩) (Nat.le_refl _) (.slice none 0 0)
     go_wp2
     refine bodyPost_ret (v:=.tuple #[.agg #[.string ⟨#[]⟩,.slice none 0 0,.slice none 0 0],.int .i64 er]) (by simp[results,Tryz.results106,go_sem,z0,z1,z2,hz2]) rfl ?_
     rw[HT.out]
     exact⟨none,none,0,0,rfl,.inl rfl,.inl rfl,hbw3.alloc hbw3.size _,.inl rfl,.inl rfl⟩
   ·rw[if_pos hq]at HT
    have hq':(!(tk == Cf.kG bd))=true:=by simp[Ne.symm hq]
    clear hq
    rw[hq']
    clear hq'
    generalize Cf.kG bd=sl at *
    go_wp2
    refine bodyPost_ret (v:=.tuple #[.agg #[.string ⟨#[]⟩,.slice none 0 0,.slice none 0 0],.int .i64 11]) (by simp[results,Tryz.results106,go_sem,z0,z1,z2]) rfl ?_
    rw[HT.out]
    exact⟨none,none,0,0,rfl,.inl rfl,.inl rfl,((aO.setCell (Nat.le_refl _) _).setCell (Nat.le_refl _) _).setCell (Nat.le_refl _) _,.inl rfl,.inl rfl⟩
end
end Go.Proofs.YtnnhhbjbdmgpiaaGreatDoor
