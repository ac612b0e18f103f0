/- Walks of chapter 3: the program's small tests of an instruction, and the instructions that it makes. -/
import Derived.Test.YtnnhhbjbdmgpiaaDoorCodeW
import Derived.Test.YtnnhhbjbdmgpiaaDoorSafeE
import Derived.WalkSmall
namespace Go.Proofs.YtnnhhbjbdmgpiaaDoor
set_option maxRecDepth 100000
open Go.RowKit

theorem pleaves_any (op a b c : Int) (w : World) :
    Calls Tryd.prog 63 #[.agg #[.int .i64 op, .int .i64 a, .int .i64 b, .int .i64 c]] w fun e w' => e = .returned (.bool (Cf.stopsB ⟨op, a, b, c⟩)) ∧ Below w.heap.size w w' := by
  by_cases h1 : op = 10
  · have e1 := eqb h1
    go_enter Tryd.func63, Tryd.ntmps63
    go_wp2
    go_ret
    exact ⟨by simp [Cf.stopsB, h1], (Below.refl _ _).alloc (Nat.le_refl _) _⟩
  · have e1 := neb h1
    by_cases h2 : op = 13
    · have e2 := eqb h2
      go_enter Tryd.func63, Tryd.ntmps63
      go_wp2
      go_ret
      exact ⟨by simp [Cf.stopsB, h2], (Below.refl _ _).alloc (Nat.le_refl _) _⟩
    · have e2 := neb h2
      by_cases h3 : op = 15
      · have e3 := eqb h3
        go_enter Tryd.func63, Tryd.ntmps63
        go_wp2
        go_ret
        exact ⟨by simp [Cf.stopsB, h3], (Below.refl _ _).alloc (Nat.le_refl _) _⟩
      · have e3 := neb h3
        go_enter Tryd.func63, Tryd.ntmps63
        go_wp2
        go_ret
        exact ⟨by simp [Cf.stopsB, h1, h2, h3], (Below.refl _ _).alloc (Nat.le_refl _) _⟩
theorem pjumps_any (op a b c : Int) (w : World) :
    Calls Tryd.prog 64 #[.agg #[.int .i64 op, .int .i64 a, .int .i64 b, .int .i64 c]] w fun e w' => e = .returned (.bool (Cf.jumpsB ⟨op, a, b, c⟩)) ∧ Below w.heap.size w w' := by
  by_cases h1 : op = 10
  · have e1 := eqb h1
    go_enter Tryd.func64, Tryd.ntmps64
    go_wp2
    go_ret
    exact ⟨by simp [Cf.jumpsB, h1], (Below.refl _ _).alloc (Nat.le_refl _) _⟩
  · have e1 := neb h1
    by_cases h2 : op = 11
    · have e2 := eqb h2
      go_enter Tryd.func64, Tryd.ntmps64
      go_wp2
      go_ret
      exact ⟨by simp [Cf.jumpsB, h2], (Below.refl _ _).alloc (Nat.le_refl _) _⟩
    · have e2 := neb h2
      by_cases h3 : op = 12
      · have e3 := eqb h3
        go_enter Tryd.func64, Tryd.ntmps64
        go_wp2
        go_ret
        exact ⟨by simp [Cf.jumpsB, h3], (Below.refl _ _).alloc (Nat.le_refl _) _⟩
      · have e3 := neb h3
        go_enter Tryd.func64, Tryd.ntmps64
        go_wp2
        go_ret
        exact ⟨by simp [Cf.jumpsB, h1, h2, h3], (Below.refl _ _).alloc (Nat.le_refl _) _⟩
theorem paccesses_any (op a b c : Int) (w : World) :
    Calls Tryd.prog 51 #[.agg #[.int .i64 op, .int .i64 a, .int .i64 b, .int .i64 c]] w fun e w' => e = .returned (.bool (Cf.ldst ⟨op, a, b, c⟩)) ∧ Below w.heap.size w w' := by
  by_cases h1 : op = 8
  · have e1 := eqb h1
    go_enter Tryd.func51, Tryd.ntmps51
    go_wp2
    go_ret
    exact ⟨by simp [Cf.ldst, h1], (Below.refl _ _).alloc (Nat.le_refl _) _⟩
  · have e1 := neb h1
    by_cases h2 : op = 9
    · have e2 := eqb h2
      go_enter Tryd.func51, Tryd.ntmps51
      go_wp2
      go_ret
      exact ⟨by simp [Cf.ldst, h2], (Below.refl _ _).alloc (Nat.le_refl _) _⟩
    · have e2 := neb h2
      go_enter Tryd.func51, Tryd.ntmps51
      go_wp2
      go_ret
      exact ⟨by simp [Cf.ldst, h1, h2], (Below.refl _ _).alloc (Nat.le_refl _) _⟩
theorem psets_any (op a b c : Int) (w : World) :
    Calls Tryd.prog 52 #[.agg #[.int .i64 op, .int .i64 a, .int .i64 b, .int .i64 c]] w fun e w' => e = .returned (.bool (Cf.inB op 1 8)) ∧ Below w.heap.size w w' := by
  by_cases h1 : 1 ≤ op
  · by_cases h2 : op ≤ 8
    all_goals
      go_enter Tryd.func52, Tryd.ntmps52
      go_wp2
      go_ret
      exact ⟨by simp [Cf.inB, h1, h2], (Below.refl _ _).alloc (Nat.le_refl _) _⟩
  · have HI := Lib.hid (show Cf.inB op 1 8 = false by simp [Cf.inB, h1])
    go_enter Tryd.func52, Tryd.ntmps52
    go_wp2
    go_ret
    exact ⟨by rw [HI.out]; rfl, (Below.refl _ _).alloc (Nat.le_refl _) _⟩
theorem preserved_any (r : Int) (w : World) :
    Calls Tryd.prog 53 #[.int .i64 r] w fun e w' => e = .returned (.bool (Cf.inB r 4 6)) ∧ w = w' := by
  by_cases h1 : r = 4
  · have e1 := eqb h1
    go_enter Tryd.func53, Tryd.ntmps53
    go_wp2
    go_ret
    exact ⟨by simp [Cf.inB, h1], rfl⟩
  · have e1 := neb h1
    by_cases h2 : r = 5
    · have e2 := eqb h2
      go_enter Tryd.func53, Tryd.ntmps53
      go_wp2
      go_ret
      exact ⟨by simp [Cf.inB, h2], rfl⟩
    · have e2 := neb h2
      by_cases h3 : r = 6
      · have e3 := eqb h3
        go_enter Tryd.func53, Tryd.ntmps53
        go_wp2
        go_ret
        exact ⟨by simp [Cf.inB, h3], rfl⟩
      · have e3 := neb h3
        have HI := Lib.hid (show Cf.inB r 4 6 = false by simp [Cf.inB]; omega)
        go_enter Tryd.func53, Tryd.ntmps53
        go_wp2
        go_ret
        exact ⟨by rw [HI.out]; rfl, rfl⟩
theorem pmask_any (b : Int) (w : World) :
    Calls Tryd.prog 55 #[.int .i64 b] w fun e w' => e = .returned (.agg #[.int .i64 4, .int .i64 4, .int .i64 b, .int .i64 6]) ∧ Below w.heap.size w w' := by
  go_enter Tryd.func55, Tryd.ntmps55
  go_wp2
  exact bodyPost_ret (v := .agg #[.int .i64 4, .int .i64 4, .int .i64 b, .int .i64 6]) (by simp [results, Tryd.results55, go_sem]) rfl ⟨rfl, (Below.refl _ _).alloc (by simp) _⟩
theorem prebase_any (w : World) :
    Calls Tryd.prog 54 #[] w fun e w' => e = .returned (.agg #[.int .i64 5, .int .i64 4, .int .i64 4, .int .i64 5]) ∧ Below w.heap.size w w' := by
  go_enter Tryd.func54, Tryd.ntmps54
  go_wp2
  exact bodyPost_ret (v := .agg #[.int .i64 5, .int .i64 4, .int .i64 4, .int .i64 5]) (by simp [results, Tryd.results54, go_sem]) rfl ⟨rfl, (Below.refl _ _).alloc (by simp) _⟩
end Go.Proofs.YtnnhhbjbdmgpiaaDoor
