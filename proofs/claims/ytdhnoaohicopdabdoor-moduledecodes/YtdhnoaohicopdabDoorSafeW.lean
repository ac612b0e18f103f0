/- Walks of chapter 3: the program's small tests of an instruction, and the instructions that it makes. -/
import Derived.Test.YtdhnoaohicopdabDoorCodeW
import Derived.Test.YtdhnoaohicopdabDoorSafeE
import Derived.WalkSmall
namespace Go.Proofs.YtdhnoaohicopdabDoor
open Go.RowKit

theorem pleaves_any (op a b c : Int) (w : World) :
    Calls Tryd.prog 48 #[.agg #[.int .i64 op, .int .i64 a, .int .i64 b, .int .i64 c]] w fun e w' => e = .returned (.bool (Cf.stopsB ⟨op, a, b, c⟩)) ∧ Below w.heap.size w w' := by
  by_cases h1 : op = 10
  · have e1 := eqb h1
    go_enter Tryd.func48, Tryd.ntmps48
    go_wp2
    go_ret
    exact ⟨by simp [Cf.stopsB, h1], (Below.refl _ _).alloc (Nat.le_refl _) _⟩
  · have e1 := neb h1
    by_cases h2 : op = 13
    · have e2 := eqb h2
      go_enter Tryd.func48, Tryd.ntmps48
      go_wp2
      go_ret
      exact ⟨by simp [Cf.stopsB, h2], (Below.refl _ _).alloc (Nat.le_refl _) _⟩
    · have e2 := neb h2
      by_cases h3 : op = 15
      · have e3 := eqb h3
        go_enter Tryd.func48, Tryd.ntmps48
        go_wp2
        go_ret
        exact ⟨by simp [Cf.stopsB, h3], (Below.refl _ _).alloc (Nat.le_refl _) _⟩
      · have e3 := neb h3
        go_enter Tryd.func48, Tryd.ntmps48
        go_wp2
        go_ret
        exact ⟨by simp [Cf.stopsB, h1, h2, h3], (Below.refl _ _).alloc (Nat.le_refl _) _⟩
theorem pjumps_any (op a b c : Int) (w : World) :
    Calls Tryd.prog 30 #[.agg #[.int .i64 op, .int .i64 a, .int .i64 b, .int .i64 c]] w fun e w' => e = .returned (.bool (Cf.jumpsB ⟨op, a, b, c⟩)) ∧ Below w.heap.size w w' := by
  by_cases h1 : op = 10
  · have e1 := eqb h1
    go_enter Tryd.func30, Tryd.ntmps30
    go_wp2
    go_ret
    exact ⟨by simp [Cf.jumpsB, h1], (Below.refl _ _).alloc (Nat.le_refl _) _⟩
  · have e1 := neb h1
    by_cases h2 : op = 11
    · have e2 := eqb h2
      go_enter Tryd.func30, Tryd.ntmps30
      go_wp2
      go_ret
      exact ⟨by simp [Cf.jumpsB, h2], (Below.refl _ _).alloc (Nat.le_refl _) _⟩
    · have e2 := neb h2
      by_cases h3 : op = 12
      · have e3 := eqb h3
        go_enter Tryd.func30, Tryd.ntmps30
        go_wp2
        go_ret
        exact ⟨by simp [Cf.jumpsB, h3], (Below.refl _ _).alloc (Nat.le_refl _) _⟩
      · have e3 := neb h3
        go_enter Tryd.func30, Tryd.ntmps30
        go_wp2
        go_ret
        exact ⟨by simp [Cf.jumpsB, h1, h2, h3], (Below.refl _ _).alloc (Nat.le_refl _) _⟩
theorem paccesses_any (op a b c : Int) (w : World) :
    Calls Tryd.prog 27 #[.agg #[.int .i64 op, .int .i64 a, .int .i64 b, .int .i64 c]] w fun e w' => e = .returned (.bool (Cf.ldst ⟨op, a, b, c⟩)) ∧ Below w.heap.size w w' := by
  by_cases h1 : op = 8
  · have e1 := eqb h1
    go_enter Tryd.func27, Tryd.ntmps27
    go_wp2
    go_ret
    exact ⟨by simp [Cf.ldst, h1], (Below.refl _ _).alloc (Nat.le_refl _) _⟩
  · have e1 := neb h1
    by_cases h2 : op = 9
    · have e2 := eqb h2
      go_enter Tryd.func27, Tryd.ntmps27
      go_wp2
      go_ret
      exact ⟨by simp [Cf.ldst, h2], (Below.refl _ _).alloc (Nat.le_refl _) _⟩
    · have e2 := neb h2
      go_enter Tryd.func27, Tryd.ntmps27
      go_wp2
      go_ret
      exact ⟨by simp [Cf.ldst, h1, h2], (Below.refl _ _).alloc (Nat.le_refl _) _⟩
theorem psets_any (op a b c : Int) (w : World) :
    Calls Tryd.prog 32 #[.agg #[.int .i64 op, .int .i64 a, .int .i64 b, .int .i64 c]] w fun e w' => e = .returned (.bool (Cf.inB op 1 8)) ∧ Below w.heap.size w w' := by
  by_cases h1 : 1 ≤ op
  · by_cases h2 : op ≤ 8
    all_goals
      go_enter Tryd.func32, Tryd.ntmps32
      go_wp2
      go_ret
      exact ⟨by simp [Cf.inB, h1, h2], (Below.refl _ _).alloc (Nat.le_refl _) _⟩
  · have HI := Lib.hid (show Cf.inB op 1 8 = false by simp [Cf.inB, h1])
    go_enter Tryd.func32, Tryd.ntmps32
    go_wp2
    go_ret
    exact ⟨by rw [HI.out]; rfl, (Below.refl _ _).alloc (Nat.le_refl _) _⟩
theorem preserved_any (r : Int) (w : World) :
    Calls Tryd.prog 33 #[.int .i64 r] w fun e w' => e = .returned (.bool (Cf.inB r 4 6)) ∧ w = w' := by
  by_cases h1 : r = 4
  · have e1 := eqb h1
    go_enter Tryd.func33, Tryd.ntmps33
    go_wp2
    go_ret
    exact ⟨by simp [Cf.inB, h1], rfl⟩
  · have e1 := neb h1
    by_cases h2 : r = 5
    · have e2 := eqb h2
      go_enter Tryd.func33, Tryd.ntmps33
      go_wp2
      go_ret
      exact ⟨by simp [Cf.inB, h2], rfl⟩
    · have e2 := neb h2
      by_cases h3 : r = 6
      · have e3 := eqb h3
        go_enter Tryd.func33, Tryd.ntmps33
        go_wp2
        go_ret
        exact ⟨by simp [Cf.inB, h3], rfl⟩
      · have e3 := neb h3
        have HI := Lib.hid (show Cf.inB r 4 6 = false by simp [Cf.inB]; omega)
        go_enter Tryd.func33, Tryd.ntmps33
        go_wp2
        go_ret
        exact ⟨by rw [HI.out]; rfl, rfl⟩
theorem pmask_any (b : Int) (w : World) :
    Calls Tryd.prog 28 #[.int .i64 b] w fun e w' => e = .returned (.agg #[.int .i64 4, .int .i64 4, .int .i64 b, .int .i64 6]) ∧ Below w.heap.size w w' := by
  go_enter Tryd.func28, Tryd.ntmps28
  go_wp2
  exact bodyPost_ret (v := .agg #[.int .i64 4, .int .i64 4, .int .i64 b, .int .i64 6]) (by simp [results, Tryd.results28, go_sem]) rfl ⟨rfl, (Below.refl _ _).alloc (by simp) _⟩
theorem prebase_any (w : World) :
    Calls Tryd.prog 29 #[] w fun e w' => e = .returned (.agg #[.int .i64 5, .int .i64 4, .int .i64 4, .int .i64 5]) ∧ Below w.heap.size w w' := by
  go_enter Tryd.func29, Tryd.ntmps29
  go_wp2
  exact bodyPost_ret (v := .agg #[.int .i64 5, .int .i64 4, .int .i64 4, .int .i64 5]) (by simp [results, Tryd.results29, go_sem]) rfl ⟨rfl, (Below.refl _ _).alloc (by simp) _⟩
theorem puses_any (op a b c : Int) (w : World) :
    Calls Tryd.prog 24 #[.agg #[.int .i64 op, .int .i64 a, .int .i64 b, .int .i64 c]] w fun e w' => e = .returned (.bool (Cf.useB ⟨op, a, b, c⟩)) ∧ Below w.heap.size w w' := by
  have hb0 : Below w.heap.size w (w.alloc (Obj.cells #[.int .i64 op, .int .i64 a, .int .i64 b, .int .i64 c] 30)) := (Below.refl _ _).alloc (Nat.le_refl _) _
  have HU := Lib.hid (show Cf.useB ⟨op, a, b, c⟩ = (Cf.inB a 4 6 || (Cf.inB b 4 6 || (Cf.inB op 2 7 && Cf.inB c 4 6))) from rfl)
  by_cases h1 : 2 ≤ op
  · by_cases h2 : op ≤ 7
    · have HO := Lib.hid (show Cf.inB op 2 7 = true by simp [Cf.inB, h1, h2])
      go_enter Tryd.func24, Tryd.ntmps24
      go_wp2_with fail
      refine (preserved_any a _).mono ?_
      rintro e w' ⟨rfl, rfl⟩
      cases ha : Cf.inB a 4 6
      · have Ha := Lib.hid ha
        clear ha
        go_wp2_with fail
        refine (preserved_any b _).mono ?_
        rintro e w' ⟨rfl, rfl⟩
        cases hb : Cf.inB b 4 6
        · have Hb := Lib.hid hb
          clear hb
          go_wp2_with fail
          refine (preserved_any c _).mono ?_
          rintro e w' ⟨rfl, rfl⟩
          go_wp2
          go_ret
          exact ⟨by rw [HU.out, Ha.out, Hb.out, HO.out]; rfl, hb0⟩
        · have Hb := Lib.hid hb
          clear hb
          go_wp2
          go_ret
          exact ⟨by rw [HU.out, Ha.out, Hb.out]; rfl, hb0⟩
      · have Ha := Lib.hid ha
        clear ha
        go_wp2
        go_ret
        exact ⟨by rw [HU.out, Ha.out]; rfl, hb0⟩
    · have HO := Lib.hid (show Cf.inB op 2 7 = false by simp [Cf.inB, h2])
      go_enter Tryd.func24, Tryd.ntmps24
      go_wp2_with fail
      refine (preserved_any a _).mono ?_
      rintro e w' ⟨rfl, rfl⟩
      cases ha : Cf.inB a 4 6
      · have Ha := Lib.hid ha
        clear ha
        go_wp2_with fail
        refine (preserved_any b _).mono ?_
        rintro e w' ⟨rfl, rfl⟩
        have HB := Lib.hid (show Cf.useB ⟨op, a, b, c⟩ = Cf.inB b 4 6 by rw [HU.out, Ha.out, HO.out]; simp)
        cases hb : Cf.inB b 4 6
        · have Hb := Lib.hid hb
          clear hb
          go_wp2
          go_ret
          exact ⟨by rw [HB.out, Hb.out]; rfl, hb0⟩
        · have Hb := Lib.hid hb
          clear hb
          go_wp2
          go_ret
          exact ⟨by rw [HB.out, Hb.out]; rfl, hb0⟩
      · have Ha := Lib.hid ha
        clear ha
        go_wp2
        go_ret
        exact ⟨by rw [HU.out, Ha.out]; rfl, hb0⟩
  · have HO := Lib.hid (show Cf.inB op 2 7 = false by simp [Cf.inB, h1])
    go_enter Tryd.func24, Tryd.ntmps24
    go_wp2_with fail
    refine (preserved_any a _).mono ?_
    rintro e w' ⟨rfl, rfl⟩
    cases ha : Cf.inB a 4 6
    · have Ha := Lib.hid ha
      clear ha
      go_wp2_with fail
      refine (preserved_any b _).mono ?_
      rintro e w' ⟨rfl, rfl⟩
      have HB := Lib.hid (show Cf.useB ⟨op, a, b, c⟩ = Cf.inB b 4 6 by rw [HU.out, Ha.out, HO.out]; simp)
      cases hb : Cf.inB b 4 6
      · have Hb := Lib.hid hb
        clear hb
        go_wp2
        go_ret
        exact ⟨by rw [HB.out, Hb.out]; rfl, hb0⟩
      · have Hb := Lib.hid hb
        clear hb
        go_wp2
        go_ret
        exact ⟨by rw [HB.out, Hb.out]; rfl, hb0⟩
    · have Ha := Lib.hid ha
      clear ha
      go_wp2
      go_ret
      exact ⟨by rw [HU.out, Ha.out]; rfl, hb0⟩
end Go.Proofs.YtdhnoaohicopdabDoor
