/- Texts of the proofs: FindW. -/
import Derived.Laws.EntriesVeiled
import Derived.Test.YtnnhhbjbdmgpiaaGreatDoorJ02
import Derived.Test.YtnnhhbjbdmgpiaaGreatDoorJ11
set_option linter.unusedSimpArgs false
set_option linter.unusedVariables false
namespace Go.Proofs.YtnnhhbjbdmgpiaaGreatDoor
set_option maxRecDepth 100000
set_option maxHeartbeats 4000000
open Lib (hid)
section
open Go.RowKit
theorem Oa(a b:List UInt8):(a == b)=decide (a=b):=by
 rw[Bool.eq_iff_iff]
 simp
theorem Lu(a b:Int):(a == b)=decide (a=b):=by
 rw[Bool.eq_iff_iff]
 simp
theorem dX{a b:Bool}(h:a=b):Ending.returned (.bool a)=Ending.returned (.bool b):=by rw[h]
theorem iJ(v:Int)(n:Nat)(w:World):
  Calls Tryz.prog 70 #[.int .i64 v,.int .i64 n] w fun e w'=>e = .returned (.bool (Cf.aI v n))∧w=w':=by
 by_cases h:0≤v
 ·go_enter Tryz.func70,Tryz.ntmps70
  go_wp2
  go_ret
  exact⟨by simp[Cf.aI,h],rfl⟩
 ·go_enter Tryz.func70,Tryz.ntmps70
  go_wp2
  go_ret
  exact⟨by simp[Cf.aI];omega,rfl⟩
theorem uf(x:MV)(name:List UInt8)(gb:Nat)(w:World)(hc:w.cell? ⟨gb,0,none⟩=some (.string ⟨name.toArray⟩)):
  Calls Tryz.prog 123 #[.agg (eG x).toArray,.pointer (some ⟨gb,0,none⟩)] w fun e w'=>e = .returned (.bool (decide (x.name=name)))∧Below w.heap.size w w':=by
 have hl:=lt_of_cell hc
 obtain⟨nm,A1,lc,ca,B1,ld,cb⟩:=x
 simp only[eG]
 go_enter Tryz.func123,Tryz.ntmps123
 go_wp2
 go_ret
 exact⟨dX (Oa nm name),(Below.refl _ _).alloc (Nat.le_refl _) _⟩
theorem nJ(xs:List MV)(l:List Cf.Mod)(A:Option Addr)(cap:Nat)(name:List UInt8)(w:World)(hR:RdS 3 eG w A xs)(hE:Each (IsM w) xs l)(hm:l.length≤maxLen):
  Calls Tryz.prog 85 #[.slice A l.length cap,.string ⟨name.toArray⟩] w fun e w'=>e = .returned (.int .i64 (Cf.aJ (Cf.eF name) l))∧Below w.heap.size w w':=by
 have hb0:Below w.heap.size w (w.alloc (.cells #[.string ⟨name.toArray⟩] 9)):=(Below.refl _ _).alloc (Nat.le_refl _) _
 have H:=hid (ES xs A cap (w.alloc (.cells #[.string ⟨name.toArray⟩] 9)) (hR.below hb0) (by rw[hE.1];exact hm) l hE.1 (Cf.eF name) 123 #[.pointer (some ⟨w.heap.size,0,none⟩)]
  (fun i x y w' hx hy hb=>by
    have h:=uf x name w.heap.size w' ((hb.cell (p:=⟨w.heap.size,0,none⟩) (by simp)).trans (by simp[go_sem]))
    rw[(hE.2 i x y hx hy).1]at h
    exact h) (fun args w=>by simp[go_sem]))
 rw[hE.1]at H
 clear hR hE
 generalize Cf.aJ (Cf.eF name) l=z at *
 go_enter Tryz.func85,Tryz.ntmps85
 go_wp2_with fail
 refine H.out.mono ?_
 rintro e w1 ⟨rfl,hb⟩
 have hb2:=hb0.trans (hb.mono (by simp))
 clear hb hb0 H
 go_wp2
 go_ret
 exact⟨rfl,hb2⟩
theorem wV(x:Cf.Node)(name:List UInt8)(gb:Nat)(w:World)(hc:w.cell? ⟨gb,0,none⟩=some (.string ⟨name.toArray⟩)):
  Calls Tryz.prog 134 #[.agg (dA x).toArray,.pointer (some ⟨gb,0,none⟩)] w fun e w'=>e = .returned (.bool (Cf.aQ name x))∧Below w.heap.size w w':=by
 have hl:=lt_of_cell hc
 obtain⟨nm,kd,da,un⟩:=x
 simp only[dA]
 by_cases h1:nm=name
 ·subst h1
  go_enter Tryz.func134,Tryz.ntmps134
  go_wp2
  go_ret
  exact⟨dX (by cases nm<;>simp[Cf.aQ]),(Below.refl _ _).alloc (Nat.le_refl _) _⟩
 ·have h2:¬(⟨nm.toArray⟩:ByteArray)=⟨name.toArray⟩:=fun h=>h1 (by simpa using h)
  go_enter Tryz.func134,Tryz.ntmps134
  go_wp2
  go_ret
  exact⟨dX (by simp[Cf.aQ,h1]),(Below.refl _ _).alloc (Nat.le_refl _) _⟩
theorem kX(k:Cf.ag)(a:KA)(g:Nat)(name:List UInt8)(w:World)(hP:jc w g a k)(hm:k.nodes.length≤maxLen):
  Calls Tryz.prog 108 #[.pointer (some ⟨g,0,none⟩),.string ⟨name.toArray⟩] w fun e w'=>e = .returned (.int .i64 (Cf.aJ (Cf.aQ name) k.nodes))∧Below w.heap.size w w':=by
 have hb0:Below w.heap.size w (w.alloc (.cells #[.string ⟨name.toArray⟩] 9)):=(Below.refl _ _).alloc (Nat.le_refl _) _
 have H:=hid (xI k.nodes a.N a.cn (w.alloc (.cells #[.string ⟨name.toArray⟩] 9)) (RdS.below hP.2.nodes hb0) hm k.nodes rfl (Cf.aQ name) 134 #[.pointer (some ⟨w.heap.size,0,none⟩)]
  (fun i x y w' hx hy hb=>by
    obtain rfl:=Option.some.inj (hx.symm.trans hy)
    exact wV x name w.heap.size w' ((hb.cell (p:=⟨w.heap.size,0,none⟩) (by simp)).trans (by simp[go_sem]))) (fun args w=>by simp[go_sem]))
 have hc:=hP.c2
 have hl:=hP.1.lt
 have hmf:(Tryz.prog.funcs[134]?).isSome=true:=by kernel_rfl
 clear hP
 generalize Cf.aJ (Cf.aQ name) k.nodes=z at *
 go_enter Tryz.func108,Tryz.ntmps108
 go_wp2_with fail
 refine H.out.mono ?_
 rintro e w1 ⟨rfl,hb⟩
 have hb2:=hb0.trans (hb.mono (by simp))
 clear hb hb0 H hc
 go_wp2
 go_ret
 exact⟨rfl,hb2⟩
theorem zQ(x:Cf.End)(kind node:Int)(g1 g2:Nat)(w:World)(h1:w.cell? ⟨g1,0,none⟩=some (.int .i64 kind))(h2:w.cell? ⟨g2,0,none⟩=some (.int .i64 node)):
  Calls Tryz.prog 126 #[.agg (bH x).toArray,.pointer (some ⟨g1,0,none⟩),.pointer (some ⟨g2,0,none⟩)] w fun e w'=>e = .returned (.bool (Cf.endOf kind node x))∧Below w.heap.size w w':=by
 have l1:=lt_of_cell h1
 have l2:=lt_of_cell h2
 obtain⟨kd,nd,po⟩:=x
 simp only[bH]
 by_cases hk:kd=kind
 ·subst hk
  go_enter Tryz.func126,Tryz.ntmps126
  go_wp2
  go_ret
  exact⟨dX (by simp[Cf.endOf,Lu]),(Below.refl _ _).alloc (Nat.le_refl _) _⟩
 ·go_enter Tryz.func126,Tryz.ntmps126
  go_wp2
  go_ret
  exact⟨dX (by simp[Cf.endOf,hk]),(Below.refl _ _).alloc (Nat.le_refl _) _⟩
theorem Bh(l:List Cf.End)(lv:Bool)(A:Option Addr)(cap:Nat)(kind node:Int)(g1 g2 g3:Nat)(w:World)(hR:Ends w A l)(hm:l.length≤maxLen)(h1:w.cell? ⟨g1,0,none⟩=some (.int .i64 kind))(h2:w.cell? ⟨g2,0,none⟩=some (.int .i64 node))
  (h3:w.cell? ⟨g3,0,none⟩=some (.func (.func 126) #[] #[.pointer (some ⟨g1,0,none⟩),.pointer (some ⟨g2,0,none⟩)])):
  Calls Tryz.prog 127 #[.agg #[.bool lv,.slice A l.length cap],.pointer (some ⟨g3,0,none⟩)] w fun e w'=>e = .returned (.bool (l.any (Cf.endOf kind node)))∧Below w.heap.size w w':=by
 have l1:g1<w.heap.size:=lt_of_cell h1
 have l2:g2<w.heap.size:=lt_of_cell h2
 have l3:=lt_of_cell h3
 have hb0:Below w.heap.size w (w.alloc (.cells #[.bool lv,.slice A l.length cap] 69)):=(Below.refl _ _).alloc (Nat.le_refl _) _
 have H:=hid (xJ l A cap (w.alloc (.cells #[.bool lv,.slice A l.length cap] 69)) (RdS.below hR hb0) hm l rfl (Cf.endOf kind node) 126 #[.pointer (some ⟨g1,0,none⟩),.pointer (some ⟨g2,0,none⟩)]
  (fun i x y w' hx hy hb=>by
    obtain rfl:=Option.some.inj (hx.symm.trans hy)
    exact zQ x kind node g1 g2 w' ((hb.cell (p:=⟨g1,0,none⟩) (by show g1<_;simp;omega)).trans ((hb0.cell (p:=⟨g1,0,none⟩) l1).trans h1)) ((hb.cell (p:=⟨g2,0,none⟩) (by show g2<_;simp;omega)).trans ((hb0.cell (p:=⟨g2,0,none⟩) l2).trans h2))) (fun args w=>by simp[go_sem]))
 clear hR h1 h2
 generalize l.any (Cf.endOf kind node)=z at *
 go_enter Tryz.func127,Tryz.ntmps127
 go_wp2_with fail
 refine H.out.mono ?_
 rintro e w1 ⟨rfl,hb⟩
 have hb2:=hb0.trans (hb.mono (by simp))
 clear hb hb0 H
 go_wp2
 go_ret
 exact⟨rfl,hb2⟩
theorem jQ(k:Cf.ag)(a:KA)(g:Nat)(kind node:Int)(w:World)(hP:jc w g a k)(hm:k.procs.length≤maxLen)(he:∀p∈k.procs,p.ends.length≤maxLen):
  Calls Tryz.prog 94 #[.pointer (some ⟨g,0,none⟩),.int .i64 kind,.int .i64 node] w fun e w'=>e = .returned (.bool (Cf.hasB k.procs kind node))∧Below w.heap.size w w':=by
 obtain⟨ps,hps,hpp⟩:=hP.2.procs
 have hc:=hP.c4
 rw[← hpp.1]at hc
 have hl:=hP.1.lt
 clear hP
 have hbx:∀(o1 o2 o3:Obj),Below w.heap.size w (((w.alloc o1).alloc o2).alloc o3):=fun o1 o2 o3=>(((Below.refl _ _).alloc (Nat.le_refl _) o1).alloc (by simp) o2).alloc (by simp;omega) o3
 have hc3:∀(o1 o2 o3:Obj),(((w.alloc o1).alloc o2).alloc o3).cell? ⟨g,4,none⟩=some (.slice a.Q ps.length a.cq):=fun o1 o2 o3=>((hbx o1 o2 o3).cell (p:=⟨g,4,none⟩) hl).trans hc
 obtain⟨wx,hwx⟩:∃wx,wx=(((w.alloc (.cells #[.int .i64 kind] 3)).alloc (.cells #[.int .i64 node] 3)).alloc (.cells #[.func (.func 126) #[] #[.pointer (some ⟨w.heap.size,0,none⟩),.pointer (some ⟨w.heap.size+1,0,none⟩)]] 132)):=⟨_,rfl⟩
 have hb0:Below w.heap.size w wx:=by rw[hwx];exact hbx _ _ _
 have c1:wx.cell? ⟨w.heap.size,0,none⟩=some (.int .i64 kind):=by rw[hwx];exact((Wb.new w 3 [.int .i64 kind]).alloc _ |>.alloc _).cell 0
 have c2:wx.cell? ⟨w.heap.size+1,0,none⟩=some (.int .i64 node):=by
  rw[hwx]
  have:=((Wb.new (w.alloc (.cells #[.int .i64 kind] 3)) 3 [.int .i64 node]).alloc (.cells #[.func (.func 126) #[] #[.pointer (some ⟨w.heap.size,0,none⟩),.pointer (some ⟨w.heap.size+1,0,none⟩)]] 132)).cell 0
  simpa using this
 have c3:wx.cell? ⟨w.heap.size+2,0,none⟩=some (.func (.func 126) #[] #[.pointer (some ⟨w.heap.size,0,none⟩),.pointer (some ⟨w.heap.size+1,0,none⟩)]):=by
  rw[hwx]
  have:=(Wb.new ((w.alloc (.cells #[.int .i64 kind] 3)).alloc (.cells #[.int .i64 node] 3)) 132 [.func (.func 126) #[] #[.pointer (some ⟨w.heap.size,0,none⟩),.pointer (some ⟨w.heap.size+1,0,none⟩)]]).cell 0
  simpa using this
 have hsz:wx.heap.size=w.heap.size+3:=by rw[hwx];simp
 have H:=hid (xO ps a.Q a.cq wx (RdS.below hps hb0) (by rw[hpp.1];exact hm) k.procs hpp.1 (Cf.holdsB kind node) 127 #[.pointer (some ⟨w.heap.size+2,0,none⟩)]
  (fun i x y w' hx hy hb=>by
    obtain⟨h1,h2,h3⟩:=hpp.2 i x y hx hy
    obtain⟨lv,A1,le,ce⟩:=x
    simp only at h1 h2 h3
    subst h2
    exact Bh y.ends lv A1 ce kind node w.heap.size (w.heap.size+1) (w.heap.size+2) w' (RdS.below (RdS.below h3 hb0) hb) (he y (List.mem_of_getElem? hy)) ((hb.cell (p:=⟨w.heap.size,0,none⟩) (by show w.heap.size<_;omega)).trans c1) ((hb.cell (p:=⟨w.heap.size+1,0,none⟩) (by show w.heap.size+1<_;omega)).trans c2) ((hb.cell (p:=⟨w.heap.size+2,0,none⟩) (by show w.heap.size+2<_;omega)).trans c3)) (fun args w=>by simp[go_sem]))
 have HZ:=hid (show k.procs.any (Cf.holdsB kind node)=Cf.hasB k.procs kind node from rfl)
 rw[HZ.out]at H
 have HW:=hid hwx
 clear hps hpp c1 c2 c3 hwx hbx he hm HZ
 generalize Cf.hasB k.procs kind node=z at *
 go_enter Tryz.func94,Tryz.ntmps94
 go_wp2_with fail
 rw[← HW.out]
 refine H.out.mono ?_
 rintro e w1 ⟨rfl,hb⟩
 have hb2:=hb0.trans (hb.mono hb0.size)
 clear hb hb0 H hc hc3
 go_wp2
 go_ret
 exact⟨rfl,hb2⟩
end
end Go.Proofs.YtnnhhbjbdmgpiaaGreatDoor
