/- Texts of the proofs: MemK. -/
import Derived.Test.YtnnhhbjbdmgpiaaGreatDoorJ22
import Derived.Test.YtnnhhbjbdmgpiaaGreatDoorJ05
set_option linter.unusedSimpArgs false
set_option linter.unusedVariables false
/- Walks of the laws' own helpers: words of raw things. -/
namespace Go.Proofs.YtnnhhbjbdmgpiaaGreatDoor
set_option maxRecDepth 100000
open Go.RowKit
theorem infoI2 : (Tryz.prog.info? 3).map (fun i => (i.zero, i.size, i.bytes)) = some (some (.int .i64 0), 1, 8) := by kernel_rfl
theorem wrap_fits (z : Int) : Fit (wrap64 z) := by
 unfold Fit wrap64
 omega
def Words (m : List Int) : Prop := ∀ v ∈ m, 0 ≤ v ∧ v ≤ 65535
theorem Words.set {m : List Int} (h : Words m) (k : Nat) {z : Int} (hz : 0 ≤ z ∧ z ≤ 65535) : Words (m.set k z) := by
 intro v hv
 rcases List.mem_or_eq_of_mem_set hv with h1 | h1
 ·exact h v h1
 ·rw [h1]; exact hz
def MemPost (many : Nat) (w : World) (e : Ending) (w' : World) : Prop :=
 ∃ (A : Option Addr) (cap : Nat) (m : List Int), e = .returned (.slice A many cap) ∧ m.length = many ∧ Words m ∧ Row w' w.heap.size (.slice A many cap) m ∧ Below w.heap.size w w'
def MemRel (many g : Nat) (w : World) (ra rb rc kr : Int) (nv iv : Value) (wr : World) : Prop :=
 ∃ (k : Nat) (n : Int) (m : List Int), k ≤ many ∧ iv = .int .i64 k ∧ nv = .int .i64 n ∧ 0 ≤ n ∧ n ≤ 65535 ∧ m.length = many ∧ Words m ∧ Row wr w.heap.size (.slice (some ⟨g, 0, none⟩) many many) m ∧
   Wb wr w.heap.size 45 [.int .i64 kr, .int .i64 ra, .int .i64 rb, .int .i64 rc] ∧ g ≠ w.heap.size ∧ Below w.heap.size w wr
theorem row_at {w : World} {base g n cap : Nat} {m : List Int} (h : Row w base (.slice (some ⟨g, 0, none⟩) n cap) m) (i : Nat) (hi : i < m.length) : (∃ z, w.cell? ⟨g, i, none⟩ = some (.int .i64 z)) ∧ w.frozen? ⟨g, i, none⟩ = false ∧ base ≤ g := by
 obtain ⟨g', hA, hb, _, hfz, hc⟩ := Row.cells h (by intro e; rw [e] at hi; simp at hi)
 injection hA with hA
 injection hA with hA
 subst hA
 have h1 := hc i _ (List.getElem?_eq_getElem hi)
 refine ⟨⟨_, h1⟩, ?_, hb⟩
 rcases hfz i with h2 | h2
 ·rw [h1] at h2; cases h2
 ·exact h2
set_option maxRecDepth 100000 in
set_option maxHeartbeats 1000000 in
theorem mem_all (kr ra rb rc : Int) (many : Nat) (w : World) (f1 : Fit ra) (f2 : Fit rb) (hm2 : many ≤ 1024) :
  Calls Tryz.prog 64 #[.agg #[.int .i64 kr, .int .i64 ra, .int .i64 rb, .int .i64 rc], .int .i64 many] w (MemPost many w) := by
 obtain ⟨i0, hi, hz0, hz1, hz2⟩ := info_parts infoI2
 have Hi := Lib.hid hi
 have Hz0 := Lib.hid hz0
 have Hz1 := Lib.hid hz1
 have Hz2 := Lib.hid hz2
 have hbox := Wb.new w 45 [.int .i64 kr, .int .i64 ra, .int .i64 rb, .int .i64 rc]
 have Hbox := Lib.hid hbox
 clear hi hz0 hz1 hz2 hbox
 obtain ⟨n1, n2⟩ := Cf.pick_range ra 65536 (by omega)
 go_enter Tryz.func64, Tryz.ntmps64
 go_wp2_with (at_make; refine wpList_make_full _ rfl _ _ 23 rfl w.heap.size 3 i0 (.int .i64 0) 1 Tryz.underlying23 Hi.out Hz0.out Hz1.out _ _ _ _ many rfl rfl rfl rfl (by rw [Hz2.out]; omega) (by unfold maxLen; omega) (by simp) ?_)
 intro w1 hown1 hg1
 have hwz1 : (w.alloc (.cells #[.int .i64 kr, .int .i64 ra, .int .i64 rb, .int .i64 rc] 45)).heap.size = w.heap.size + 1 := by simp
 have hbw1 : Below w.heap.size w w1 := ((Below.refl _ _).alloc (Nat.le_refl _) _).grown hg1 (by simp) (fun k h => by cases h)
 have Hbox1 := Lib.hid (Hbox.out.grown hg1 (by simp))
 have Hrow1 := Lib.hid (show Row w1 w.heap.size (.slice (some ⟨w.heap.size + 1, 0, none⟩) many many) (List.replicate many 0) by
  unfold Row
  rw [List.length_replicate, List.map_replicate]
  have h := hown1
  rw [toList_madeCells_one] at h
  exact h)
 have q1 := Hbox1.out.cell 1
 simp at q1
 clear hown1 hg1 Hbox
 go_wp2_with fail
 refine (picked_any ra 65536 _ f1 (by omega) (by omega)).mono ?_
 rintro e w' ⟨rfl, rfl⟩
 generalize Cf.pick ra 65536 = n0 at n1 n2 ⊢
 clear q1
 go_wp2
 go_loopw [6, 15] (fun nv iv wr => MemRel many (w.heap.size + 1) w ra rb rc kr nv iv wr) (fun _ iv _ => many - (intOf iv).toNat)
 case atStart => exact ⟨0, n0, List.replicate many 0, by omega, rfl, rfl, n1, by omega, by simp, (fun v hv => by rw [List.eq_of_mem_replicate hv]; omega), Hrow1.out, Hbox1.out, by omega, hbw1⟩
 case round =>
  obtain ⟨k, n, m, hk, rfl, rfl, hn1, hn2, hml, hmw, hrow, hbox, hne, hbw⟩ := hrel
  have Hml := Lib.hid hml
  have Hmw := Lib.hid hmw
  have Hrow := Lib.hid hrow
  have Hbx := Lib.hid hbox
  have hwz := hbw.size
  clear hml hmw hrow hbox n1 n2
  by_cases hlt : k < many
  ·obtain ⟨⟨z, hc⟩, hfz, hgb⟩ := row_at Hrow.out k (by rw [Hml.out]; exact hlt)
   have Hrow2 := Lib.hid (Hrow.out.set (i := k) n)
   have Hbx2 := Lib.hid (Hbx.out.off_ (p := ⟨w.heap.size + 1, k, none⟩) (by simp) (.int .i64 n))
   have hbw2 := hbw.setCell (p := ⟨w.heap.size + 1, k, none⟩) (by simp) (.int .i64 n)
   have q2 := Hbx2.out.cell 2
   have q3 := Hbx2.out.cell 3
   simp at q2 q3
   obtain ⟨p1, p2⟩ := Cf.pick_range rb 1000 (by omega)
   go_wp2_with fail
   refine (picked_any rb 1000 _ f2 (by omega) (by omega)).mono ?_
   rintro e w' ⟨rfl, rfl⟩
   generalize Cf.pick rb 1000 = pb at p1 p2 ⊢
   generalize wr.setCell ⟨w.heap.size + 1, k, none⟩ (.int .i64 n) = w2 at *
   clear hc hfz Hrow Hbx hbw
   obtain ⟨⟨z2, hc⟩, hfz, _⟩ := row_at Hrow2.out k (by rw [List.length_set, Hml.out]; exact hlt)
   have hwz2 := hbw2.size
   go_wp2_with fail
   have hfy := wrap_fits (rc + (k : Int))
   generalize wrap64 (rc + (k : Int)) = y at hfy ⊢
   refine (picked_any y 3 _ hfy (by omega) (by omega)).mono ?_
   rintro e w' ⟨rfl, rfl⟩
   have hn3 : 0 ≤ (n * 31 + pb + 7) % 65536 := by omega
   have hn4 : (n * 31 + pb + 7) % 65536 ≤ 65535 := by omega
   generalize (n * 31 + pb + 7) % 65536 = nn at hn3 hn4 ⊢
   by_cases h0 : Cf.pick y 3 = 0
   ·rw [h0]
    clear h0
    have Hrow3 := Lib.hid (Hrow2.out.set (i := k) (nn % 70))
    have Hbx3 := Lib.hid (Hbx2.out.off_ (p := ⟨w.heap.size + 1, k, none⟩) (by simp) (.int .i64 (nn % 70)))
    have hbw3 := hbw2.setCell (p := ⟨w.heap.size + 1, k, none⟩) (by simp) (.int .i64 (nn % 70))
    go_wp2
    go_roundw
    case rel => exact ⟨k + 1, nn, (m.set k n).set k (nn % 70), by omega, by go_num, rfl, hn3, hn4, by simp [Hml.out], (Hmw.out.set k ⟨hn1, hn2⟩).set k (by omega), Hrow3.out, Hbx3.out, hne, hbw3⟩
    case measure => simp [intOf]; omega
   ·have e0 : (Cf.pick y 3 == 0) = false := by rw [beq_eq_false_iff_ne]; exact h0
    clear h0
    go_wp2
    go_roundw
    case rel => exact ⟨k + 1, nn, m.set k n, by omega, by go_num, rfl, hn3, hn4, by simp [Hml.out], Hmw.out.set k ⟨hn1, hn2⟩, Hrow2.out, Hbx2.out, hne, hbw2⟩
    case measure => simp [intOf]; omega
  ·go_wp2
   go_ret
   exact ⟨_, _, m, rfl, Hml.out, Hmw.out, Hrow.out, hbw⟩
end Go.Proofs.YtnnhhbjbdmgpiaaGreatDoor
