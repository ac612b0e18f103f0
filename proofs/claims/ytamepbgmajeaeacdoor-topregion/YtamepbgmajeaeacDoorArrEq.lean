/- Two arrays of eight numbers that are the same compare as the same. -/
import Derived.Test.YtamepbgmajeaeacDoorCpuA
import Derived.ChangeKeysEq
namespace Go.Proofs.YtamepbgmajeaeacDoor
open Go.RowKit

theorem part_int (w : World) (xs : Array Value) (i : Nat) (z : Int) (h : xs[i]? = some (.int .i64 z)) : (part 3 xs i).run Tryd.prog w = .ok (.int .i64 z) w := by
  simp [part, isAgg, run_underlying Tryd.underlying3, h]
theorem same_items (w : World) (xs : Array Value) : ∀ (is : List Nat), (∀ i ∈ is, ∃ z, xs[i]? = some (.int .i64 z)) → (Op.eqItems 9999 3 1 xs xs is).run Tryd.prog w = .ok true w := by
  intro is
  induction is with
  | nil => intro _; simp [Op.eqItems]
  | cons i is ih =>
    intro h
    obtain ⟨z, hz⟩ := h i (List.mem_cons_self ..)
    have h1 := part_int w xs i z hz
    have h2 := run_equalIn_int (P := Tryd.prog) w 9998 3 .i64 .i64 z z Tryd.underlying3
    simp only [Op.eqItems, Sem.run_bind, Nat.mul_one, h1, Result.andThen_ok]
    rw [h2]
    simp only [Result.andThen_ok, beq_self_eq_true, Bool.not_true]
    simp
    exact ih fun j hj => h j (List.mem_cons_of_mem _ hj)
theorem same8 (w : World) (a0 a1 a2 a3 a4 a5 a6 a7 : Int) :
    (Op.equalIn 10000 29 (.agg #[.int .i64 a0, .int .i64 a1, .int .i64 a2, .int .i64 a3, .int .i64 a4, .int .i64 a5, .int .i64 a6, .int .i64 a7]) (.agg #[.int .i64 a0, .int .i64 a1, .int .i64 a2, .int .i64 a3, .int .i64 a4, .int .i64 a5, .int .i64 a6, .int .i64 a7])).run Tryd.prog w = .ok true w := by
  obtain ⟨i0, hi, _⟩ := info_parts infoInt
  rw [run_equalIn_array w 9999 _ _ Tryd.underlying29 hi, show Tryd.prog.cellsOf 3 = 1 by kernel_rfl]
  refine same_items w _ (List.range 8) fun i hi => ?_
  have hi8 : i < 8 := by simpa using hi
  have h8 : i = 0 ∨ i = 1 ∨ i = 2 ∨ i = 3 ∨ i = 4 ∨ i = 5 ∨ i = 6 ∨ i = 7 := by omega
  rcases h8 with rfl | rfl | rfl | rfl | rfl | rfl | rfl | rfl
  · exact ⟨a0, rfl⟩
  · exact ⟨a1, rfl⟩
  · exact ⟨a2, rfl⟩
  · exact ⟨a3, rfl⟩
  · exact ⟨a4, rfl⟩
  · exact ⟨a5, rfl⟩
  · exact ⟨a6, rfl⟩
  · exact ⟨a7, rfl⟩
end Go.Proofs.YtamepbgmajeaeacDoor
