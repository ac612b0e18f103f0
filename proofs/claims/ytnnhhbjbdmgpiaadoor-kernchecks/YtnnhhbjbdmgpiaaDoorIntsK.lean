/- Slices of numbers: opened; words among them. Of any program. -/
import Derived.Test.YtnnhhbjbdmgpiaaDoorMachW
namespace Go.Proofs.YtnnhhbjbdmgpiaaDoor
set_option maxRecDepth 100000
open Go.RowKit

theorem Ints.at_ {w : World} {A : Option Addr} {l : List Int} (h : Ints w A l) (hl : l ≠ []) : ∃ b off, A = some ⟨b, off, none⟩ ∧ b < w.heap.size ∧ ∀ (k : Nat) (z : Int), l[k]? = some z → w.cell? ⟨b, off + k, none⟩ = some (.int .i64 z) := by
  rcases h with h | ⟨b, off, hA, hb, hc⟩
  · exact absurd h hl
  · exact ⟨b, off, hA, hb, fun k z hz => by simpa using hc k z hz 0 _ rfl⟩
theorem all_on (l : List Int) (k : Nat) (z : Int) (hz : l[k]? = some z) (h : (l.take k).all Cf.wordB = true) (hw : Cf.wordB z = true) : (l.take (k + 1)).all Cf.wordB = true := by
  rw [List.take_add_one, hz, List.all_append, h]; simp [hw]
theorem all_bad (l : List Int) (k : Nat) (z : Int) (hz : l[k]? = some z) (hw : Cf.wordB z = false) : l.all Cf.wordB = false := by
  rw [List.all_eq_false]
  exact ⟨z, List.mem_of_getElem? hz, by simp [hw]⟩
end Go.Proofs.YtnnhhbjbdmgpiaaDoor
