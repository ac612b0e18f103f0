/- Texts of the proofs: FindW, LayW, MakeW. -/
import Derived.Laws.EntriesVeiled
import Derived.Test.YtnnhhbjbdmgpiaaGreatDoorJ05
import Derived.Test.YtnnhhbjbdmgpiaaGreatDoorJ13
import Derived.Test.YtnnhhbjbdmgpiaaGreatDoorJ18
set_option linter.unusedSimpArgs false
set_option linter.unusedVariables false
/- Walks of chapter 5: what the program finds in a kernel. -/
namespace Go.Proofs.YtnnhhbjbdmgpiaaGreatDoor
set_option maxRecDepth 100000
open Go.RowKit
theorem beqD (a b : List UInt8) : (a == b) = decide (a = b) := by
 rw [Bool.eq_iff_iff]
 simp
theorem beqI (a b : Int) : (a == b) = decide (a = b) := by
 rw [Bool.eq_iff_iff]
 simp
theorem retB {a b : Bool} (h : a = b) : Ending.returned (.bool a) = Ending.returned (.bool b) := by rw [h]
theorem within_any (v : Int) (n : Nat) (w : World) :
  Calls Tryz.prog 70 #[.int .i64 v, .int .i64 n] w fun e w' => e = .returned (.bool (Cf.withinB v n)) ∧ w = w' := by
 by_cases h : 0 ≤ v
 ·go_enter Tryz.func70, Tryz.ntmps70
  go_wp2
  go_ret
  exact ⟨by simp [Cf.withinB, h], rfl⟩
 ·go_enter Tryz.func70, Tryz.ntmps70
  go_wp2
  go_ret
  exact ⟨by simp [Cf.withinB]; omega, rfl⟩
theorem findModule1_any (x : MV) (name : List UInt8) (gb : Nat) (w : World) (hc : w.cell? ⟨gb, 0, none⟩ = some (.string ⟨name.toArray⟩)) :
  Calls Tryz.prog 123 #[.agg (encMv x).toArray, .pointer (some ⟨gb, 0, none⟩)] w fun e w' => e = .returned (.bool (decide (x.name = name))) ∧ Below w.heap.size w w' := by
 have hl := lt_of_cell hc
 obtain ⟨nm, A1, lc, ca, B1, ld, cb⟩ := x
 simp only [encMv]
 go_enter Tryz.func123, Tryz.ntmps123
 go_wp2
 go_ret
 exact ⟨retB (beqD nm name), (Below.refl _ _).alloc (Nat.le_refl _) _⟩
theorem findModule_any (xs : List MV) (l : List Cf.Mod) (A : Option Addr) (cap : Nat) (name : List UInt8) (w : World) (hR : RdS 3 encMv w A xs) (hE : Each (IsM w) xs l) (hm : l.length ≤ maxLen) :
  Calls Tryz.prog 85 #[.slice A l.length cap, .string ⟨name.toArray⟩] w fun e w' => e = .returned (.int .i64 (Cf.idxT (Cf.modIs name) l)) ∧ Below w.heap.size w w' := by
 have hb0 : Below w.heap.size w (w.alloc (.cells #[.string ⟨name.toArray⟩] 9)) := (Below.refl _ _).alloc (Nat.le_refl _) _
 have H := Lib.hid (mvIdx_any xs A cap (w.alloc (.cells #[.string ⟨name.toArray⟩] 9)) (hR.below hb0) (by rw [hE.1]; exact hm) l hE.1 (Cf.modIs name) 123 #[.pointer (some ⟨w.heap.size, 0, none⟩)]
  (fun i x y w' hx hy hb => by
    have h := findModule1_any x name w.heap.size w' ((hb.cell (p := ⟨w.heap.size, 0, none⟩) (by simp)).trans (by simp [go_sem]))
    rw [(hE.2 i x y hx hy).1] at h
    exact h) (fun args w => by simp [go_sem]))
 rw [hE.1] at H
 clear hR hE
 generalize Cf.idxT (Cf.modIs name) l = z at *
 go_enter Tryz.func85, Tryz.ntmps85
 go_wp2_with fail
 refine H.out.mono ?_
 rintro e w1 ⟨rfl, hb⟩
 have hb2 := hb0.trans (hb.mono (by simp))
 clear hb hb0 H
 go_wp2
 go_ret
 exact ⟨rfl, hb2⟩
theorem findFile1_any (x : Cf.Node) (name : List UInt8) (gb : Nat) (w : World) (hc : w.cell? ⟨gb, 0, none⟩ = some (.string ⟨name.toArray⟩)) :
  Calls Tryz.prog 134 #[.agg (encNd x).toArray, .pointer (some ⟨gb, 0, none⟩)] w fun e w' => e = .returned (.bool (Cf.namedB name x)) ∧ Below w.heap.size w w' := by
 have hl := lt_of_cell hc
 obtain ⟨nm, kd, da, un⟩ := x
 simp only [encNd]
 by_cases h1 : nm = name
 ·subst h1
  go_enter Tryz.func134, Tryz.ntmps134
  go_wp2
  go_ret
  exact ⟨retB (by cases nm <;> simp [Cf.namedB]), (Below.refl _ _).alloc (Nat.le_refl _) _⟩
 ·have h2 : ¬ (⟨nm.toArray⟩ : ByteArray) = ⟨name.toArray⟩ := fun h => h1 (by simpa using h)
  go_enter Tryz.func134, Tryz.ntmps134
  go_wp2
  go_ret
  exact ⟨retB (by simp [Cf.namedB, h1]), (Below.refl _ _).alloc (Nat.le_refl _) _⟩
theorem findFile_any (k : Cf.Kern) (a : KA) (g : Nat) (name : List UInt8) (w : World) (hP : KPtr w g a k) (hm : k.nodes.length ≤ maxLen) :
  Calls Tryz.prog 108 #[.pointer (some ⟨g, 0, none⟩), .string ⟨name.toArray⟩] w fun e w' => e = .returned (.int .i64 (Cf.idxT (Cf.namedB name) k.nodes)) ∧ Below w.heap.size w w' := by
 have hb0 : Below w.heap.size w (w.alloc (.cells #[.string ⟨name.toArray⟩] 9)) := (Below.refl _ _).alloc (Nat.le_refl _) _
 have H := Lib.hid (ndIdx_any k.nodes a.N a.cn (w.alloc (.cells #[.string ⟨name.toArray⟩] 9)) (RdS.below hP.2.nodes hb0) hm k.nodes rfl (Cf.namedB name) 134 #[.pointer (some ⟨w.heap.size, 0, none⟩)]
  (fun i x y w' hx hy hb => by
    obtain rfl := Option.some.inj (hx.symm.trans hy)
    exact findFile1_any x name w.heap.size w' ((hb.cell (p := ⟨w.heap.size, 0, none⟩) (by simp)).trans (by simp [go_sem]))) (fun args w => by simp [go_sem]))
 have hc := hP.c2
 have hl := hP.1.lt
 have hmf : (Tryz.prog.funcs[134]?).isSome = true := by kernel_rfl
 clear hP
 generalize Cf.idxT (Cf.namedB name) k.nodes = z at *
 go_enter Tryz.func108, Tryz.ntmps108
 go_wp2_with fail
 refine H.out.mono ?_
 rintro e w1 ⟨rfl, hb⟩
 have hb2 := hb0.trans (hb.mono (by simp))
 clear hb hb0 H hc
 go_wp2
 go_ret
 exact ⟨rfl, hb2⟩
theorem hasEnd1_any (x : Cf.End) (kind node : Int) (g1 g2 : Nat) (w : World) (h1 : w.cell? ⟨g1, 0, none⟩ = some (.int .i64 kind)) (h2 : w.cell? ⟨g2, 0, none⟩ = some (.int .i64 node)) :
  Calls Tryz.prog 126 #[.agg (encEn x).toArray, .pointer (some ⟨g1, 0, none⟩), .pointer (some ⟨g2, 0, none⟩)] w fun e w' => e = .returned (.bool (Cf.endOf kind node x)) ∧ Below w.heap.size w w' := by
 have l1 := lt_of_cell h1
 have l2 := lt_of_cell h2
 obtain ⟨kd, nd, po⟩ := x
 simp only [encEn]
 by_cases hk : kd = kind
 ·subst hk
  go_enter Tryz.func126, Tryz.ntmps126
  go_wp2
  go_ret
  exact ⟨retB (by simp [Cf.endOf, beqI]), (Below.refl _ _).alloc (Nat.le_refl _) _⟩
 ·go_enter Tryz.func126, Tryz.ntmps126
  go_wp2
  go_ret
  exact ⟨retB (by simp [Cf.endOf, hk]), (Below.refl _ _).alloc (Nat.le_refl _) _⟩
theorem hasEnd2_any (l : List Cf.End) (lv : Bool) (A : Option Addr) (cap : Nat) (kind node : Int) (g1 g2 g3 : Nat) (w : World) (hR : Ends w A l) (hm : l.length ≤ maxLen) (h1 : w.cell? ⟨g1, 0, none⟩ = some (.int .i64 kind)) (h2 : w.cell? ⟨g2, 0, none⟩ = some (.int .i64 node))
  (h3 : w.cell? ⟨g3, 0, none⟩ = some (.func (.func 126) #[] #[.pointer (some ⟨g1, 0, none⟩), .pointer (some ⟨g2, 0, none⟩)])) :
  Calls Tryz.prog 127 #[.agg #[.bool lv, .slice A l.length cap], .pointer (some ⟨g3, 0, none⟩)] w fun e w' => e = .returned (.bool (l.any (Cf.endOf kind node))) ∧ Below w.heap.size w w' := by
 have l1 : g1 < w.heap.size := lt_of_cell h1
 have l2 : g2 < w.heap.size := lt_of_cell h2
 have l3 := lt_of_cell h3
 have hb0 : Below w.heap.size w (w.alloc (.cells #[.bool lv, .slice A l.length cap] 69)) := (Below.refl _ _).alloc (Nat.le_refl _) _
 have H := Lib.hid (enHas_any l A cap (w.alloc (.cells #[.bool lv, .slice A l.length cap] 69)) (RdS.below hR hb0) hm l rfl (Cf.endOf kind node) 126 #[.pointer (some ⟨g1, 0, none⟩), .pointer (some ⟨g2, 0, none⟩)]
  (fun i x y w' hx hy hb => by
    obtain rfl := Option.some.inj (hx.symm.trans hy)
    exact hasEnd1_any x kind node g1 g2 w' ((hb.cell (p := ⟨g1, 0, none⟩) (by show g1 < _; simp; omega)).trans ((hb0.cell (p := ⟨g1, 0, none⟩) l1).trans h1)) ((hb.cell (p := ⟨g2, 0, none⟩) (by show g2 < _; simp; omega)).trans ((hb0.cell (p := ⟨g2, 0, none⟩) l2).trans h2))) (fun args w => by simp [go_sem]))
 clear hR h1 h2
 generalize l.any (Cf.endOf kind node) = z at *
 go_enter Tryz.func127, Tryz.ntmps127
 go_wp2_with fail
 refine H.out.mono ?_
 rintro e w1 ⟨rfl, hb⟩
 have hb2 := hb0.trans (hb.mono (by simp))
 clear hb hb0 H
 go_wp2
 go_ret
 exact ⟨rfl, hb2⟩
theorem hasEnd_any (k : Cf.Kern) (a : KA) (g : Nat) (kind node : Int) (w : World) (hP : KPtr w g a k) (hm : k.procs.length ≤ maxLen) (he : ∀ p ∈ k.procs, p.ends.length ≤ maxLen) :
  Calls Tryz.prog 94 #[.pointer (some ⟨g, 0, none⟩), .int .i64 kind, .int .i64 node] w fun e w' => e = .returned (.bool (Cf.hasB k.procs kind node)) ∧ Below w.heap.size w w' := by
 obtain ⟨ps, hps, hpp⟩ := hP.2.procs
 have hc := hP.c4
 rw [← hpp.1] at hc
 have hl := hP.1.lt
 clear hP
 have hbx : ∀ (o1 o2 o3 : Obj), Below w.heap.size w (((w.alloc o1).alloc o2).alloc o3) := fun o1 o2 o3 => (((Below.refl _ _).alloc (Nat.le_refl _) o1).alloc (by simp) o2).alloc (by simp; omega) o3
 have hc3 : ∀ (o1 o2 o3 : Obj), (((w.alloc o1).alloc o2).alloc o3).cell? ⟨g, 4, none⟩ = some (.slice a.Q ps.length a.cq) := fun o1 o2 o3 => ((hbx o1 o2 o3).cell (p := ⟨g, 4, none⟩) hl).trans hc
 obtain ⟨wx, hwx⟩ : ∃ wx, wx = (((w.alloc (.cells #[.int .i64 kind] 3)).alloc (.cells #[.int .i64 node] 3)).alloc (.cells #[.func (.func 126) #[] #[.pointer (some ⟨w.heap.size, 0, none⟩), .pointer (some ⟨w.heap.size + 1, 0, none⟩)]] 132)) := ⟨_, rfl⟩
 have hb0 : Below w.heap.size w wx := by rw [hwx]; exact hbx _ _ _
 have c1 : wx.cell? ⟨w.heap.size, 0, none⟩ = some (.int .i64 kind) := by rw [hwx]; exact ((Wb.new w 3 [.int .i64 kind]).alloc _ |>.alloc _).cell 0
 have c2 : wx.cell? ⟨w.heap.size + 1, 0, none⟩ = some (.int .i64 node) := by
  rw [hwx]
  have := ((Wb.new (w.alloc (.cells #[.int .i64 kind] 3)) 3 [.int .i64 node]).alloc (.cells #[.func (.func 126) #[] #[.pointer (some ⟨w.heap.size, 0, none⟩), .pointer (some ⟨w.heap.size + 1, 0, none⟩)]] 132)).cell 0
  simpa using this
 have c3 : wx.cell? ⟨w.heap.size + 2, 0, none⟩ = some (.func (.func 126) #[] #[.pointer (some ⟨w.heap.size, 0, none⟩), .pointer (some ⟨w.heap.size + 1, 0, none⟩)]) := by
  rw [hwx]
  have := (Wb.new ((w.alloc (.cells #[.int .i64 kind] 3)).alloc (.cells #[.int .i64 node] 3)) 132 [.func (.func 126) #[] #[.pointer (some ⟨w.heap.size, 0, none⟩), .pointer (some ⟨w.heap.size + 1, 0, none⟩)]]).cell 0
  simpa using this
 have hsz : wx.heap.size = w.heap.size + 3 := by rw [hwx]; simp
 have H := Lib.hid (pvHas_any ps a.Q a.cq wx (RdS.below hps hb0) (by rw [hpp.1]; exact hm) k.procs hpp.1 (Cf.holdsB kind node) 127 #[.pointer (some ⟨w.heap.size + 2, 0, none⟩)]
  (fun i x y w' hx hy hb => by
    obtain ⟨h1, h2, h3⟩ := hpp.2 i x y hx hy
    obtain ⟨lv, A1, le, ce⟩ := x
    simp only at h1 h2 h3
    subst h2
    exact hasEnd2_any y.ends lv A1 ce kind node w.heap.size (w.heap.size + 1) (w.heap.size + 2) w' (RdS.below (RdS.below h3 hb0) hb) (he y (List.mem_of_getElem? hy)) ((hb.cell (p := ⟨w.heap.size, 0, none⟩) (by show w.heap.size < _; omega)).trans c1) ((hb.cell (p := ⟨w.heap.size + 1, 0, none⟩) (by show w.heap.size + 1 < _; omega)).trans c2) ((hb.cell (p := ⟨w.heap.size + 2, 0, none⟩) (by show w.heap.size + 2 < _; omega)).trans c3)) (fun args w => by simp [go_sem]))
 have HZ := Lib.hid (show k.procs.any (Cf.holdsB kind node) = Cf.hasB k.procs kind node from rfl)
 rw [HZ.out] at H
 have HW := Lib.hid hwx
 clear hps hpp c1 c2 c3 hwx hbx he hm HZ
 generalize Cf.hasB k.procs kind node = z at *
 go_enter Tryz.func94, Tryz.ntmps94
 go_wp2_with fail
 rw [← HW.out]
 refine H.out.mono ?_
 rintro e w1 ⟨rfl, hb⟩
 have hb2 := hb0.trans (hb.mono hb0.size)
 clear hb hb0 H hc hc3
 go_wp2
 go_ret
 exact ⟨rfl, hb2⟩
end Go.Proofs.YtnnhhbjbdmgpiaaGreatDoor
/- Walks of chapter 3: where each instruction comes to lie (the program's layout). -/
namespace Go.Proofs.YtnnhhbjbdmgpiaaGreatDoor
set_option maxRecDepth 100000
open Go.RowKit
theorem infoI : (Tryz.prog.info? 3).map (fun i => (i.zero, i.size, i.bytes)) = some (some (.int .i64 0), 1, 8) := by kernel_rfl
theorem Cf.place_le (l : List Cf.Ins) : ∀ k, Cf.place l k ≤ 3 * k := by
 intro k
 induction k with
 | zero => simp [Cf.place]
 | succ k ih =>
   cases hx : l[k]? with
   | none =>
     have h1 : l.length ≤ k := by simpa using hx
     have : Cf.place l (k + 1) = Cf.place l k := by
      unfold Cf.place
      rw [List.take_of_length_le (by omega), List.take_of_length_le h1]
     omega
   | some i =>
     rw [Cf.place_next hx]
     have : Cf.wid i ≤ 3 := by unfold Cf.wid; split <;> omega
     omega
def startsL (l : List Cf.Ins) (k : Nat) : List Int := (List.range k).map fun i => (Cf.place l i : Int)
theorem startsL_len (l : List Cf.Ins) (k : Nat) : (startsL l k).length = k := by simp [startsL]
theorem startsL_succ (l : List Cf.Ins) (k : Nat) : startsL l (k + 1) = startsL l k ++ [(Cf.place l k : Int)] := by simp [startsL, List.range_succ]
theorem startsL_at (l : List Cf.Ins) {i k : Nat} (h : i < k) : (startsL l k)[i]? = some (Cf.place l i : Int) := by simp [startsL, h]
def LayRel (l : List Cf.Ins) (w : World) (sv zv iv : Value) (wr : World) : Prop :=
 ∃ (k cap : Nat) (A : Option Addr), k ≤ l.length ∧ iv = .int .i64 k ∧ zv = .int .i64 (Cf.place l k : Nat) ∧ sv = .slice A k cap ∧ Row wr w.heap.size (.slice A k cap) (startsL l k) ∧ Below w.heap.size w wr
def LayPost (l : List Cf.Ins) (w : World) (e : Ending) (w' : World) : Prop :=
 ∃ (A : Option Addr) (cap : Nat), e = .returned (.tuple #[.slice A l.length cap, .int .i64 (Cf.place l l.length : Nat)]) ∧ Row w' w.heap.size (.slice A l.length cap) (startsL l l.length) ∧ Below w.heap.size w w'
set_option maxRecDepth 100000 in
set_option maxHeartbeats 4000000 in
theorem layout_any (l : List Cf.Ins) (A0 : Option Addr) (c0 : Nat) (w : World) (hR : Codes w A0 l) (hm : l.length ≤ 200) :
  Calls Tryz.prog 99 #[.slice A0 l.length c0] w (LayPost l w) := by
 obtain ⟨i0, hi, hz0, hz1, hz2⟩ := info_parts infoI
 have Hi := Lib.hid hi
 have Hz0 := Lib.hid hz0
 have Hz1 := Lib.hid hz1
 have Hz2 := Lib.hid hz2
 have HR := Lib.hid hR
 clear hi hz0 hz1 hz2 hR
 go_enter Tryz.func99, Tryz.ntmps99
 go_wp2
 go_loopw [4, 5, 10] (fun sv zv iv wr => LayRel l w sv zv iv wr) (fun _ _ iv _ => l.length - (intOf iv).toNat)
 case atStart => exact ⟨0, 0, none, by omega, rfl, rfl, rfl, World.ownsRow_nil _ _ _ _, Below.refl _ _⟩
 case round =>
  obtain ⟨k, cap, A, hk, rfl, rfl, rfl, hrow, hbw⟩ := hrel
  have Hrow := Lib.hid hrow
  have hwz := hbw.size
  have hpk := Cf.place_le l k
  clear hrow
  by_cases hlt : k < l.length
  ·obtain ⟨op, a, b, c, hx⟩ : ∃ op a b' c', l[k]? = some ⟨op, a, b', c'⟩ := ⟨_, _, _, _, List.getElem?_eq_getElem hlt⟩
   obtain ⟨g, off, rfl, hgl, hc⟩ := HR.out.at_ (by intro e; rw [e] at hlt; simp at hlt)
   obtain ⟨p0, p1, p2, p3⟩ := hc k op a b c hx
   have r0 := (hbw.cell hgl).trans p0
   have r1 := (hbw.cell hgl).trans p1
   have r2 := (hbw.cell hgl).trans p2
   have r3 := (hbw.cell hgl).trans p3
   have HP := Lib.hid (Cf.place_next hx)
   have HSU := Lib.hid (startsL_succ l k)
   have HSL := Lib.hid (startsL_len l k)
   clear hc hx p0 p1 p2 p3
   generalize hpp : Cf.place l k = pk at *
   clear hpp
   have wbI := Wb.new wr 121 [.int .i64 op, .int .i64 a, .int .i64 b, .int .i64 c]
   have HW := Lib.hid wbI
   clear wbI
   go_wp2_with (at_builtin; refine wpList_append_own _ rfl _ _ 23 rfl w.heap.size 3 i0 (.int .i64 0) 1 8 Tryz.underlying23 Hi.out Hz0.out Hz1.out Hz2.out rfl (by decide) _ k _ rfl (show World.ownsRow _ _ _ _ _ _ ((startsL l k).map (Value.int .i64)) by have h := (Hrow.out.alloc (.cells #[.int .i64 op, .int .i64 a, .int .i64 b, .int .i64 c] 121)).alloc (.cells #[.int .i64 (pk : Int)] 3); unfold Row at h; rw [HSL.out] at h; exact h) ⟨wr.heap.size + 1, 0, none⟩ 1 1 [.int .i64 (pk : Int)] rfl rfl ?c1 ?c2 ?c3 ?c4 ?c5 ?_)
   case c1 =>
    intro j u hj
    match j, hj with
    | 0, hj => simp at hj; subst hj; simp [Addr.add]
    | (j + 1), hj => simp at hj
   case c2 => intro u hu; simp at hu; subst hu; rfl
   case c3 => unfold maxLen; omega
   case c4 => omega
   case c5 => simp; omega
   intro v' w3 hown3 hg3 _
   obtain ⟨A', cap', rfl⟩ := own_form hown3
   have hrow5 := (Hrow.out.alloc (.cells #[.int .i64 op, .int .i64 a, .int .i64 b, .int .i64 c] 121)).alloc (.cells #[.int .i64 (pk : Int)] 3)
   have hwb3 := (HW.out.alloc (.cells #[.int .i64 (pk : Int)] 3)).grown hg3 (own_off hrow5 (HW.out.alloc _) (by decide))
   have hbw3 : Below w.heap.size w w3 := ((hbw.alloc hbw.size _).alloc (by simp; omega) _).grown hg3 (by simp; omega) (fun k hk => own_blocks hrow5 k hk)
   have Hrow3 := Lib.hid (show Row w3 w.heap.size (.slice A' (k + 1) cap') (startsL l (k + 1)) by
    unfold Row
    rw [startsL_len, HSU.out, List.map_append]
    exact hown3)
   have q0 := hwb3.cell 0
   have q1 := hwb3.cell 1
   have q2 := hwb3.cell 2
   have q3 := hwb3.cell 3
   simp at q0 q1 q2 q3
   clear hown3 hg3 hrow5 hwb3 hbw Hrow HW r0 r1 r2 r3 HSU HSL
   go_wp2_with fail
   refine (paccesses_any op a b c _).mono ?_
   rintro e w4 ⟨rfl, hb4⟩
   have hbw4 := hbw3.trans (hb4.mono hbw3.size)
   have Hrow4 := Lib.hid (Hrow3.out.below hb4)
   clear hb4 hbw3 Hrow3 q0 q1 q2 q3
   cases hl : Cf.ldst ⟨op, a, b, c⟩
   ·have HP' := Lib.hid (show Cf.place l (k + 1) = pk + 1 by rw [HP.out]; simp [Cf.wid, hl])
    clear hl HP
    go_wp2
    go_roundw
    case rel => exact ⟨k + 1, cap', A', by omega, by go_num, by rw [HP'.out]; rfl, rfl, Hrow4.out, hbw4⟩
    case measure => simp [intOf]; omega
   ·have HP' := Lib.hid (show Cf.place l (k + 1) = pk + 3 by rw [HP.out]; simp [Cf.wid, hl])
    clear hl HP
    go_wp2
    go_roundw
    case rel => exact ⟨k + 1, cap', A', by omega, by go_num, by rw [HP'.out]; rfl, rfl, Hrow4.out, hbw4⟩
    case measure => simp [intOf]; omega
  ·obtain rfl : k = l.length := by omega
   go_wp2
   go_ret2
   exact ⟨A, cap, rfl, Hrow.out, hbw⟩
end Go.Proofs.YtnnhhbjbdmgpiaaGreatDoor
/- Walks of chapter 3: the program's Make. -/
namespace Go.Proofs.YtnnhhbjbdmgpiaaGreatDoor
set_option maxRecDepth 100000
open Go.RowKit
theorem own_types {w : World} {b1 b2 : Nat} {e1 e2 : TypeId} {s1 s2 n1 n2 : Nat} {v1 v2 : Value} {x1 x2 : List Value} (h1 : w.ownsRow b1 e1 s1 v1 n1 x1) (h2 : w.ownsRow b2 e2 s2 v2 n2 x2) (hne : e1 ≠ e2) : ∀ k, v1.ownBlock = some k → v2.ownBlock ≠ some k := by
 intro k hk hk2
 rcases h1.2 with ⟨rfl, _⟩ | ⟨g, cap, cur, rfl, _, hh, _⟩
 ·cases hk
 ·simp [Value.ownBlock] at hk
  subst hk
  rcases h2.2 with ⟨rfl, _⟩ | ⟨g', cap', cur', rfl, _, hh', _⟩
  ·cases hk2
  ·simp [Value.ownBlock] at hk2
   subst hk2
   have h3 := Option.some.inj (Eq.trans (Eq.symm hh) hh')
   injection h3 with _ ht
   exact hne ht
def madeK (l : List Cf.Ins) (k : Nat) : List Cf.Ins := (l.take k).flatMap (Cf.tri l)
theorem madeK_len (l : List Cf.Ins) (k : Nat) : (madeK l k).length = Cf.place l k := Cf.place_len l k
theorem madeK_next {l : List Cf.Ins} {k : Nat} {i : Cf.Ins} (h : l[k]? = some i) : madeK l (k + 1) = madeK l k ++ Cf.tri l i := by
 unfold madeK
 rw [List.take_add_one, h]
 simp
theorem madeK_all (l : List Cf.Ins) : madeK l l.length = Cf.madeL l := by unfold madeK; rw [List.take_length]; rfl
def MRow (w : World) (base : Nat) (v : Value) (l : List Cf.Ins) : Prop := w.ownsRow base 121 4 v l.length (l.flatMap encI)
def MkRel (l : List Cf.Ins) (S : Option Addr) (cs : Nat) (w : World) (mv iv : Value) (wr : World) : Prop :=
 ∃ (k cap : Nat) (A : Option Addr), k ≤ l.length ∧ iv = .int .i64 k ∧ mv = .slice A (Cf.place l k) cap ∧ MRow wr w.heap.size (.slice A (Cf.place l k) cap) (madeK l k) ∧ Row wr w.heap.size (.slice S l.length cs) (startsL l l.length) ∧ Below w.heap.size w wr
def MakePost (m : Cf.Made) (w : World) (e : Ending) (w' : World) : Prop :=
 ∃ (A : Option Addr) (cap : Nat), e = .returned (.tuple #[.slice A m.code.length cap, .int .i64 m.err]) ∧ Codes w' A m.code ∧ Below w.heap.size w w'
theorem makePost_bad {m : Cf.Made} {er : Int} {w w' : World} (hm : m = ⟨[], er⟩) (hb : Below w.heap.size w w') : MakePost m w (.returned (.tuple #[.slice none 0 0, .int .i64 er])) w' := by
 subst hm
 exact ⟨none, 0, rfl, .inl rfl, hb⟩
theorem mk_grow {w W w3 : World} {base p cap : Nat} {A A' : Option Addr} {cap' n : Nat} {xs ys : List Cf.Ins} {st : Value} {sl : List Int} (hp : xs.length = p) (ho : MRow W base (.slice A p cap) xs) (hs : Row W base st sl) (hb : Below base w W) (hB : base ≤ W.heap.size)
  (h3 : w3.ownsRow base 121 4 (.slice A' (p + n) cap') (p + n) (xs.flatMap encI ++ ys.flatMap encI)) (hg : W.grownBy w3 (Value.slice A p cap).ownBlock) (hn : ys.length = n) :
  MRow w3 base (.slice A' (p + n) cap') (xs ++ ys) ∧ Row w3 base st sl ∧ Below base w w3 := by
 refine ⟨?_, ?_, ?_⟩
 ·unfold MRow
  rw [List.length_append, hp, hn, List.flatMap_append]
  exact h3
 ·exact hs.kept hg (fun k hk => by
   have := own_types hs ho (by decide) k hk
   exact this)
 ·exact hb.grown hg hB (fun k hk => own_blocks ho k hk)
theorem new_cells (W : World) (t : TypeId) (cs : List Value) {n : Nat} (hn : n = W.heap.size) : ∀ j u, cs[j]? = some u → (W.alloc (.cells cs.toArray t)).cell? (Addr.add ⟨n, 0, none⟩ j) = some u := by
 subst hn
 intro j u h
 rw [Go.WideShapes.add_plain, Nat.zero_add]
 exact ((Wb.new W t cs).cell j).trans h
theorem own_base {w : World} {base b' : Nat} {e : TypeId} {size : Nat} {v : Value} {n : Nat} {xs : List Value} (h : w.ownsRow base e size v n xs) (hb : b' ≤ base) : w.ownsRow b' e size v n xs := by
 refine ⟨h.1, ?_⟩
 rcases h.2 with h2 | ⟨g, cap, cur, hv, hg, r⟩
 ·exact .inl h2
 ·exact .inr ⟨g, cap, cur, hv, Nat.le_trans hb hg, r⟩
theorem starts_cell {w : World} {base gs n cs i : Nat} {l : List Cf.Ins} (h : Row w base (.slice (some ⟨gs, 0, none⟩) n cs) (startsL l n)) (hi : i < n) : w.cell? ⟨gs, i, none⟩ = some (.int .i64 (Cf.place l i : Nat)) := by
 have hne : startsL l n ≠ [] := by
  intro e
  have := startsL_len l n
  rw [e] at this
  simp at this
  omega
 obtain ⟨g, hA, _, _, _, hc⟩ := Row.cells h hne
 injection hA with hA
 injection hA with hA
 subst hA
 exact hc i _ (startsL_at l hi)
structure MkSt (w : World) (base : Nat) (st : Value) (sl : List Int) (br : Nat) (fs : List Value) (v : Value) (xs : List Cf.Ins) (W : World) : Prop where
 row : MRow W base v xs
 st : Row W base st sl
 blk : Wb W br 121 fs
 off : v.ownBlock ≠ some br
 bel : Below base w W
section
variable {w W W' : World} {base br : Nat} {st v : Value} {sl : List Int} {fs : List Value} {xs : List Cf.Ins}
theorem MkSt.below (h : MkSt w base st sl br fs v xs W) (hb : Below W.heap.size W W') (hB : base ≤ W.heap.size) : MkSt w base st sl br fs v xs W' :=
 ⟨own_below h.row hb, h.st.below hb, h.blk.below hb h.blk.lt, h.off, h.bel.trans (hb.mono hB)⟩
theorem MkSt.alloc (h : MkSt w base st sl br fs v xs W) (o : Obj) (hB : base ≤ W.heap.size) : MkSt w base st sl br fs v xs (W.alloc o) :=
 ⟨h.row.alloc o, h.st.alloc o, h.blk.alloc o, h.off, h.bel.alloc hB o⟩
theorem MkSt.put (h : MkSt w base st sl br fs v xs W) (hbr : base ≤ br) (j : Nat) (u : Value) : MkSt w base st sl br (fs.set j u) v xs (W.setCell ⟨br, j, none⟩ u) :=
 ⟨own_setCell h.row h.off u, h.st.setCell (own_off h.st h.blk (by decide)) u, h.blk.put j u, h.off, h.bel.setCell hbr u⟩
theorem MkSt.grow {p cap n cap' : Nat} {A A' : Option Addr} {ys : List Cf.Ins} (h : MkSt w base st sl br fs (.slice A p cap) xs W) (hp : xs.length = p) (hB : base ≤ W.heap.size)
  (h3 : W'.ownsRow base 121 4 (.slice A' (p + n) cap') (p + n) (xs.flatMap encI ++ ys.flatMap encI)) (hg : W.grownBy W' (Value.slice A p cap).ownBlock) (hn : ys.length = n)
  {sz : Nat} (hat : (Value.slice A' (p + n) cap').ownBlock = (Value.slice A p cap).ownBlock ∨ (Value.slice A' (p + n) cap').ownBlock = some sz) (hsz : W.heap.size = sz) : MkSt w base st sl br fs (.slice A' (p + n) cap') (xs ++ ys) W' := by
 obtain ⟨r1, r2, r3⟩ := mk_grow hp h.row h.st h.bel hB h3 hg hn
 subst hsz
 refine ⟨r1, r2, h.blk.grown hg h.off, ?_, r3⟩
 rcases hat with e | e
 ·rw [e]; exact h.off
 ·rw [e]
  have := h.blk.lt
  intro e2
  injection e2 with e2
  omega
theorem MkSt.cells {op a b c : Int} (h : MkSt w base st sl br [.int .i64 op, .int .i64 a, .int .i64 b, .int .i64 c] v xs W) :
  W.cell? ⟨br, 0, none⟩ = some (.int .i64 op) ∧ W.cell? ⟨br, 1, none⟩ = some (.int .i64 a) ∧ W.cell? ⟨br, 2, none⟩ = some (.int .i64 b) ∧ W.cell? ⟨br, 3, none⟩ = some (.int .i64 c) :=
 ⟨h.blk.cell 0, h.blk.cell 1, h.blk.cell 2, h.blk.cell 3⟩
end
set_option maxRecDepth 100000 in
set_option maxHeartbeats 8000000 in
theorem make_any (l : List Cf.Ins) (A0 : Option Addr) (c0 : Nat) (w : World) (hR : Codes w A0 l) (hL : TabL w) (hF : TabF w) (hm : l.length ≤ maxLen) :
  Calls Tryz.prog 61 #[.slice A0 l.length c0] w (MakePost (Cf.madeT l) w) := by
 have hb0 : Below w.heap.size w (w.alloc (.cells #[.slice A0 l.length c0] 77)) := (Below.refl _ _).alloc (Nat.le_refl _) _
 have hbox := Wb.new w 77 [.slice A0 l.length c0]
 have HV := Lib.hid (checkP_any l A0 c0 c0 w.heap.size _ (hR.below hb0) (hL.below hb0) (hF.below hb0) hm (by simp))
 rw [Cf.chkT_plain] at HV
 have hmf : ∀ (fn : Fn) (first cap : Array Value) (w : World), (Instr.makeFunc fn first cap).run Tryz.prog w = .ok (.func fn first cap) w := fun _ _ _ _ => rfl
 clear hL hF
 by_cases hf : Cf.fault l = 0
 ·rw [if_pos hf] at HV
  by_cases hp : Cf.plainB l = true
  ·rw [if_pos hp] at HV
   have h200 := Cf.fault_len l hf
   obtain ⟨i0, hi, hz0, hz1, hz2⟩ := info_parts infoIns
   have Hi := Lib.hid hi
   have Hz0 := Lib.hid hz0
   have Hz1 := Lib.hid hz1
   have Hz2 := Lib.hid hz2
   have Hf := Lib.hid hf
   have Hp := Lib.hid hp
   have HR := Lib.hid hR
   have HB := Lib.hid hbox
   clear hi hz0 hz1 hz2 hf hp hR hbox hm
   have hpl := Cf.place_le l l.length
   have HLE := Lib.hid (show (Cf.madeL l).length = Cf.place l l.length by rw [← madeK_all, madeK_len])
   go_enter Tryz.func61, Tryz.ntmps61
   go_wp2_with fail
   refine HV.out.mono ?_
   rintro e w1 ⟨rfl, hb1⟩
   have hbw1 : Below w.heap.size w w1 := hb0.trans (hb1.mono (by simp))
   have HB1 := Lib.hid (HB.out.below hb1 HB.out.lt)
   have b1 := HB1.out.cell 0
   simp at b1
   have hbl := HB1.out.lt
   clear hb1 hb0 HV HB
   go_wp2_with fail
   refine (layout_any l A0 c0 _ (HR.out.below hbw1) h200).mono ?_
   rintro e w2 ⟨S, cs, rfl, hrow, hb2⟩
   have hbw2 := hbw1.trans (hb2.mono hbw1.size)
   have HB2 := Lib.hid (HB1.out.below hb2 hbl)
   have hrow' := own_base hrow hbw1.size
   have Hrow := Lib.hid (show Row w2 w.heap.size (.slice S l.length cs) (startsL l l.length) from hrow')
   clear b1 hb2 hrow hrow' hbw1 hbl HB1
   have b2 := HB2.out.cell 0
   simp at b2
   generalize hpp : Cf.place l l.length = pl at *
   have HPP := Lib.hid hpp
   clear hpp
   by_cases hbig : 200 < pl
   ·have HM := Lib.hid (show Cf.madeT l = ⟨[], 1⟩ by unfold Cf.madeT; rw [if_pos Hf.out, if_pos Hp.out, if_neg (by rw [HLE.out]; omega)])
    go_wp2
    go_ret2
    exact makePost_bad HM.out hbw2
   ·have HM := Lib.hid (show Cf.madeT l = ⟨Cf.madeL l, 0⟩ by unfold Cf.madeT; rw [if_pos Hf.out, if_pos Hp.out, if_pos (by rw [HLE.out]; omega)])
    have hwz2 := hbw2.size
    go_wp2_with (at_make; refine wpList_make_own _ rfl _ _ 77 rfl w.heap.size 121 i0 (.agg #[.int .i64 0, .int .i64 0, .int .i64 0, .int .i64 0]) 4 Tryz.underlying77 Hi.out Hz0.out Hz1.out _ _ _ pl rfl rfl rfl (by rw [Hz2.out]; omega) (by unfold maxLen; omega) hwz2 ?_)
    intro w3 hown3 hg3
    have hbw3 : Below w.heap.size w w3 := hbw2.grown hg3 hwz2 (fun k h => by cases h)
    have Hrow3 := Lib.hid (Hrow.out.kept hg3 (fun k _ => by simp))
    have HB3 := Lib.hid (HB2.out.grown hg3 (by simp))
    have b3 := HB3.out.cell 0
    simp at b3
    have Hown3 := Lib.hid hown3
    clear hown3 hg3 Hrow HB2 b2 hbw2
    have hne : l ≠ [] := by
     intro e
     have := Hp.out
     rw [e] at this
     cases this
    obtain ⟨gs, hS, _⟩ := Row.cells Hrow3.out (by
     intro e
     have := startsL_len l l.length
     rw [e] at this
     exact hne (List.eq_nil_of_length_eq_zero this.symm))
    subst hS
    obtain ⟨g, off, rfl, hgl, hc⟩ := HR.out.at_ hne
    have Hc := Lib.hid hc
    clear hc hne
    go_wp2
    go_loopw [8, 29] (fun mv iv wr => MkRel l (some ⟨gs, 0, none⟩) cs w mv iv wr) (fun _ iv _ => l.length - (intOf iv).toNat)
    case atStart => exact ⟨0, pl, _, by omega, rfl, rfl, Hown3.out, Hrow3.out, hbw3⟩
    case round =>
     obtain ⟨k, cap, A, hk, rfl, rfl, hrowM, hrowS, hbw⟩ := hrel
     have hwz := hbw.size
     have hpk := Cf.place_le l k
     have HML := Lib.hid (madeK_len l k)
     by_cases hlt : k < l.length
     ·obtain ⟨op, a, b, c, hx⟩ : ∃ op a b' c', l[k]? = some ⟨op, a, b', c'⟩ := ⟨_, _, _, _, List.getElem?_eq_getElem hlt⟩
      obtain ⟨p0, p1, p2, p3⟩ := Hc.out k op a b c hx
      have r0 := (hbw.cell hgl).trans p0
      have r1 := (hbw.cell hgl).trans p1
      have r2 := (hbw.cell hgl).trans p2
      have r3 := (hbw.cell hgl).trans p3
      have HN := Lib.hid (madeK_next hx)
      have HPN := Lib.hid (Cf.place_next hx)
      have HX := Lib.hid hx
      have Hst := Lib.hid (show MkSt w w.heap.size (.slice (some ⟨gs, 0, none⟩) l.length cs) (startsL l l.length) wr.heap.size [.int .i64 op, .int .i64 a, .int .i64 b, .int .i64 c] (.slice A (Cf.place l k) cap) (madeK l k) (wr.alloc (.cells #[.int .i64 op, .int .i64 a, .int .i64 b, .int .i64 c] 121)) from
       ⟨hrowM.alloc _, hrowS.alloc _, Wb.new wr _ [_, _, _, _], fun e => by have := (hrowM.lt _ e).2; omega, hbw.alloc hwz _⟩)
      clear hx p0 p1 p2 p3 hrowM hrowS hbw
      generalize hpp : Cf.place l k = pk at *
      clear hpp
      generalize hmm : madeK l k = mk at *
      clear hmm
      go_wp2_with fail
      refine (paccesses_any op a b c _).mono ?_
      rintro e w4 ⟨rfl, hb4⟩
      have Hst4 := Lib.hid (Hst.out.below hb4 (by simp; omega))
      have hz4 : wr.heap.size < w4.heap.size := Hst4.out.blk.lt
      obtain ⟨q0, q1, q2, q3⟩ := Hst4.out.cells
      clear hb4 Hst r0 r1 r2 r3
      cases hl : Cf.ldst ⟨op, a, b, c⟩
      ·have HW1 := Lib.hid (show Cf.wid ⟨op, a, b, c⟩ = 1 by unfold Cf.wid; rw [hl]; rfl)
       have HL0 := Lib.hid hl
       clear hl
       go_wp2_with fail
       refine (pjumps_any op a b c _).mono ?_
       rintro e w5 ⟨rfl, hb5⟩
       have Hst5 := Lib.hid (Hst4.out.below hb5 (by omega))
       have hz5 : wr.heap.size < w5.heap.size := Hst5.out.blk.lt
       clear hb5 Hst4 q0 q1 q2 q3
       cases hj : Cf.jumpsB ⟨op, a, b, c⟩
       ·have HT := Lib.hid (show Cf.tri l ⟨op, a, b, c⟩ = [⟨op, a, b, c⟩] by unfold Cf.tri; rw [HL0.out, hj]; rfl)
        clear hj
        obtain ⟨q0, q1, q2, q3⟩ := Hst5.out.cells
        have Hst6 := Lib.hid (Hst5.out.alloc (.cells #[.int .i64 op, .int .i64 a, .int .i64 b, .int .i64 c] 121) (by omega))
        clear Hst5
        go_wp2_with (at_builtin; refine wpList_append_own_at _ rfl _ _ 77 rfl w.heap.size 121 i0 (.agg #[.int .i64 0, .int .i64 0, .int .i64 0, .int .i64 0]) 4 32 Tryz.underlying77 Hi.out Hz0.out Hz1.out Hz2.out rfl (by decide) _ pk _ rfl (show World.ownsRow _ _ _ _ _ _ ((mk).flatMap encI) by have h := Hst6.out.row; unfold MRow at h; rw [HML.out] at h; exact h) ⟨w5.heap.size, 0, none⟩ 1 1 [.int .i64 op, .int .i64 a, .int .i64 b, .int .i64 c] rfl rfl ?c11 ?c21 ?c31 ?c41 ?c51 ?_)
        case c11 => exact new_cells _ _ [.int .i64 op, .int .i64 a, .int .i64 b, .int .i64 c] (by simp)
        case c21 => intro u hu; simp at hu; rcases hu with rfl | rfl | rfl | rfl <;> rfl
        case c31 => unfold maxLen; omega
        case c41 => omega
        case c51 => simp; omega
        intro v9 w7 hown7 hg7 _ hat7
        obtain ⟨A9, cap9, rfl⟩ := own_form hown7
        have Hst7 := Lib.hid (Hst6.out.grow HML.out (by simp; omega) (ys := [⟨op, a, b, c⟩]) hown7 hg7 rfl hat7 (by simp))
        clear hown7 hg7 hat7 Hst6
        go_wp2
        go_roundw
        case rel =>
         refine ⟨k + 1, cap9, A9, by omega, by go_num, by (rw [HPN.out, HW1.out]; try rfl), ?_, Hst7.out.st, Hst7.out.bel⟩
         have h := Hst7.out.row
         rw [HN.out, HT.out, HPN.out, HW1.out]
         exact h
        case measure => simp [intOf]; omega
       ·obtain ⟨cn, hcn, hcl⟩ : ∃ cn : Nat, c = cn ∧ cn < l.length := by
         have h1 := ((Cf.plain_parts Hp.out).2 _ (List.mem_of_getElem? HX.out)).2.2.2 hj
         have h2 := (Cf.chk_parts _ (Cf.faultIn_mem l (Cf.fault_two Hf.out).1 k _ HX.out)).2.2.2.1
         dsimp only at h1 h2
         exact ⟨c.toNat, by omega, by omega⟩
        subst hcn
        have HT := Lib.hid (show Cf.tri l ⟨op, a, b, cn⟩ = [⟨op, a, b, Cf.place l cn⟩] by unfold Cf.tri; rw [HL0.out, hj]; rfl)
        clear hj
        obtain ⟨q0, q1, q2, q3⟩ := Hst5.out.cells
        have qs := starts_cell Hst5.out.st hcl
        have fz := Hst5.out.blk.open_ 3
        have Hst5b := Lib.hid (Hst5.out.put hwz 3 (.int .i64 (Cf.place l cn : Nat)))
        have Hst6 := Lib.hid (show MkSt w w.heap.size (.slice (some ⟨gs, 0, none⟩) l.length cs) (startsL l l.length) wr.heap.size [.int .i64 op, .int .i64 a, .int .i64 b, .int .i64 (Cf.place l cn : Nat)] (.slice A pk cap) mk _ from Hst5b.out.alloc (.cells #[.int .i64 op, .int .i64 a, .int .i64 b, .int .i64 (Cf.place l cn : Nat)] 121) (by simp; omega))
        clear Hst5 Hst5b
        generalize Cf.place l cn = pc at *
        go_wp2_with (at_builtin; refine wpList_append_own_at _ rfl _ _ 77 rfl w.heap.size 121 i0 (.agg #[.int .i64 0, .int .i64 0, .int .i64 0, .int .i64 0]) 4 32 Tryz.underlying77 Hi.out Hz0.out Hz1.out Hz2.out rfl (by decide) _ pk _ rfl (show World.ownsRow _ _ _ _ _ _ ((mk).flatMap encI) by have h := Hst6.out.row; unfold MRow at h; rw [HML.out] at h; exact h) ⟨w5.heap.size, 0, none⟩ 1 1 [.int .i64 op, .int .i64 a, .int .i64 b, .int .i64 (pc : Nat)] rfl rfl ?c12 ?c22 ?c32 ?c42 ?c52 ?_)
        case c12 => exact new_cells _ _ [.int .i64 op, .int .i64 a, .int .i64 b, .int .i64 (pc : Nat)] (by simp)
        case c22 => intro u hu; simp at hu; rcases hu with rfl | rfl | rfl | rfl <;> rfl
        case c32 => unfold maxLen; omega
        case c42 => omega
        case c52 => simp; omega
        intro v9 w7 hown7 hg7 _ hat7
        obtain ⟨A9, cap9, rfl⟩ := own_form hown7
        have Hst7 := Lib.hid (Hst6.out.grow HML.out (by simp; omega) (ys := [⟨op, a, b, (pc : Nat)⟩]) hown7 hg7 rfl hat7 (by simp))
        clear hown7 hg7 hat7 Hst6
        go_wp2
        go_roundw
        case rel =>
         refine ⟨k + 1, cap9, A9, by omega, by go_num, by (rw [HPN.out, HW1.out]; try rfl), ?_, Hst7.out.st, Hst7.out.bel⟩
         have h := Hst7.out.row
         rw [HN.out, HT.out, HPN.out, HW1.out]
         exact h
        case measure => simp [intOf]; omega
      ·have HW3 := Lib.hid (show Cf.wid ⟨op, a, b, c⟩ = 3 by unfold Cf.wid; rw [hl]; rfl)
       have HT := Lib.hid (show Cf.tri l ⟨op, a, b, c⟩ = [⟨4, 4, b, 6⟩, ⟨5, 4, 4, 5⟩] ++ [⟨op, a, 4, c⟩] by unfold Cf.tri; rw [hl]; rfl)
       have HJ := Lib.hid (show Cf.jumpsB ⟨op, a, 4, c⟩ = false by
        have h89 : op = 8 ∨ op = 9 := by simpa [Cf.ldst] using hl
        rcases h89 with h | h <;> simp [Cf.jumpsB, h])
       clear hl
       go_wp2_with fail
       refine (pmask_any b _).mono ?_
       rintro e w5 ⟨rfl, hb5⟩
       have Hst5 := Lib.hid (Hst4.out.below hb5 (by omega))
       have hz5 : wr.heap.size < w5.heap.size := Hst5.out.blk.lt
       clear hb5 Hst4 q0 q1 q2 q3
       go_wp2_with fail
       refine (prebase_any _).mono ?_
       rintro e w6 ⟨rfl, hb6⟩
       have Hst6 := Lib.hid ((Hst5.out.below hb6 (by omega)).alloc (.cells #[.int .i64 4, .int .i64 4, .int .i64 b, .int .i64 6, .int .i64 5, .int .i64 4, .int .i64 4, .int .i64 5] 121) (by have := hb6.size; omega))
       have hz6 : w5.heap.size ≤ w6.heap.size := hb6.size
       clear hb6 Hst5
       go_wp2_with (at_builtin; refine wpList_append_own_at _ rfl _ _ 77 rfl w.heap.size 121 i0 (.agg #[.int .i64 0, .int .i64 0, .int .i64 0, .int .i64 0]) 4 32 Tryz.underlying77 Hi.out Hz0.out Hz1.out Hz2.out rfl (by decide) _ pk _ rfl (show World.ownsRow _ _ _ _ _ _ ((mk).flatMap encI) by have h := Hst6.out.row; unfold MRow at h; rw [HML.out] at h; exact h) ⟨w6.heap.size, 0, none⟩ 2 2 [.int .i64 4, .int .i64 4, .int .i64 b, .int .i64 6, .int .i64 5, .int .i64 4, .int .i64 4, .int .i64 5] rfl rfl ?c13 ?c23 ?c33 ?c43 ?c53 ?_)
       case c13 => exact new_cells _ _ [.int .i64 4, .int .i64 4, .int .i64 b, .int .i64 6, .int .i64 5, .int .i64 4, .int .i64 4, .int .i64 5] (by simp)
       case c23 => intro u hu; simp at hu; rcases hu with rfl | rfl | rfl | rfl | rfl | rfl | rfl | rfl <;> rfl
       case c33 => unfold maxLen; omega
       case c43 => omega
       case c53 => simp; omega
       intro v7 w7 hown7 hg7 _ hat7
       obtain ⟨A', cap', rfl⟩ := own_form hown7
       have Hst7 := Lib.hid (Hst6.out.grow HML.out (by simp; omega) (ys := [⟨4, 4, b, 6⟩, ⟨5, 4, 4, 5⟩]) hown7 hg7 rfl hat7 (by simp))
       have hz7 : wr.heap.size < w7.heap.size := Hst7.out.blk.lt
       obtain ⟨q0, q1, q2, q3⟩ := Hst7.out.cells
       have fz := Hst7.out.blk.open_ 2
       have Hst8 := Lib.hid (show MkSt w w.heap.size (.slice (some ⟨gs, 0, none⟩) l.length cs) (startsL l l.length) wr.heap.size [.int .i64 op, .int .i64 a, .int .i64 4, .int .i64 c] (.slice A' (pk + 2) cap') (mk ++ [⟨4, 4, b, 6⟩, ⟨5, 4, 4, 5⟩]) (w7.setCell ⟨wr.heap.size, 2, none⟩ (.int .i64 4)) from Hst7.out.put hwz 2 (.int .i64 4))
       have HJ8 := Lib.hid (pjumps_any op a 4 c (w7.setCell ⟨wr.heap.size, 2, none⟩ (.int .i64 4)))
       rw [HJ.out] at HJ8
       clear hown7 hg7 hat7 Hst6 Hst7 hz6 hz5 HJ
       go_wp2_with fail
       refine HJ8.out.mono ?_
       rintro e w9 ⟨rfl, hb9⟩
       have Hst9 := Lib.hid (Hst8.out.below hb9 (by simp; omega))
       have hz9 : wr.heap.size < w9.heap.size := Hst9.out.blk.lt
       clear hb9 Hst8 HJ8 q0 q1 q2 q3 fz hz7
       obtain ⟨q0, q1, q2, q3⟩ := Hst9.out.cells
       have Hst6 := Lib.hid (Hst9.out.alloc (.cells #[.int .i64 op, .int .i64 a, .int .i64 4, .int .i64 c] 121) (by omega))
       have HML2 := Lib.hid (show (mk ++ [(⟨4, 4, b, 6⟩ : Cf.Ins), ⟨5, 4, 4, 5⟩]).length = pk + 2 by simp [HML.out])
       clear Hst9
       generalize hm2 : mk ++ [(⟨4, 4, b, 6⟩ : Cf.Ins), ⟨5, 4, 4, 5⟩] = mk2 at *
       have HM2 := Lib.hid hm2
       clear hm2
       go_wp2_with (at_builtin; refine wpList_append_own_at _ rfl _ _ 77 rfl w.heap.size 121 i0 (.agg #[.int .i64 0, .int .i64 0, .int .i64 0, .int .i64 0]) 4 32 Tryz.underlying77 Hi.out Hz0.out Hz1.out Hz2.out rfl (by decide) _ (pk + 2) _ rfl (show World.ownsRow _ _ _ _ _ _ ((mk2).flatMap encI) by have h := Hst6.out.row; unfold MRow at h; rw [HML2.out] at h; exact h) ⟨w9.heap.size, 0, none⟩ 1 1 [.int .i64 op, .int .i64 a, .int .i64 4, .int .i64 c] rfl rfl ?c14 ?c24 ?c34 ?c44 ?c54 ?_)
       case c14 => exact new_cells _ _ [.int .i64 op, .int .i64 a, .int .i64 4, .int .i64 c] (by simp)
       case c24 => intro u hu; simp at hu; rcases hu with rfl | rfl | rfl | rfl <;> rfl
       case c34 => unfold maxLen; omega
       case c44 => omega
       case c54 => simp; omega
       intro v9 w7 hown7 hg7 _ hat7
       obtain ⟨A9, cap9, rfl⟩ := own_form hown7
       have Hst7 := Lib.hid (Hst6.out.grow HML2.out (by simp; omega) (ys := [⟨op, a, 4, c⟩]) hown7 hg7 rfl hat7 (by simp))
       clear hown7 hg7 hat7 Hst6
       go_wp2
       go_roundw
       case rel =>
        refine ⟨k + 1, cap9, A9, by omega, by go_num, by (rw [HPN.out, HW3.out]; try rfl), ?_, Hst7.out.st, Hst7.out.bel⟩
        have h := Hst7.out.row
        rw [HN.out, HT.out, HPN.out, HW3.out, ← List.append_assoc, HM2.out]
        exact h
       case measure => simp [intOf]; omega
     ·obtain rfl : k = l.length := by omega
      have Hcodes := Lib.hid (show Codes wr A (Cf.madeL l) by
       rw [← madeK_all]
       refine own_rd encI_len (base := w.heap.size) (e := 121) (cap := cap) ?_
       rw [madeK_len]
       have h := hrowM
       unfold MRow at h
       rw [madeK_len] at h
       exact h)
      clear hrowM hrowS
      go_wp2
      go_ret2
      refine ⟨A, cap, ?_, ?_, hbw⟩
      ·rw [HM.out]
       show _ = Ending.returned (.tuple #[.slice A (Cf.madeL l).length cap, .int .i64 0])
       rw [HLE.out, HPP.out]
       rfl
      ·rw [HM.out]
       exact Hcodes.out
  ·have hp' : Cf.plainB l = false := by simpa using hp
   rw [hp'] at HV
   have HM := Lib.hid (show Cf.madeT l = ⟨[], 10⟩ by unfold Cf.madeT; rw [if_pos hf, hp']; rfl)
   have HV' := Lib.hid (show _ from HV.out)
   clear hf hp hp' hR hbox HV
   go_enter Tryz.func61, Tryz.ntmps61
   go_wp2_with fail
   refine HV'.out.mono ?_
   rintro e w1 ⟨rfl, hb1⟩
   have hbw1 : Below w.heap.size w w1 := hb0.trans (hb1.mono (by simp))
   go_wp2
   go_ret2
   exact makePost_bad HM.out hbw1
 ·rw [if_neg hf] at HV
  have hf' : (Cf.fault l != 0) = true := by simp [hf]
  have HM := Lib.hid (show Cf.madeT l = ⟨[], Cf.fault l⟩ by unfold Cf.madeT; rw [if_neg hf])
  clear hf hR hbox
  go_enter Tryz.func61, Tryz.ntmps61
  go_wp2_with fail
  refine HV.out.mono ?_
  rintro e w1 ⟨rfl, hb1⟩
  have hbw1 : Below w.heap.size w w1 := hb0.trans (hb1.mono (by simp))
  go_wp2
  go_ret2
  exact makePost_bad HM.out hbw1
end Go.Proofs.YtnnhhbjbdmgpiaaGreatDoor
