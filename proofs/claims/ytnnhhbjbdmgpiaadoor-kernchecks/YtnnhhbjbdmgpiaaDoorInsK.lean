/- Slices of instructions: opened, and what the program says of their type. -/
import Derived.Test.YtnnhhbjbdmgpiaaDoorOwnK
import Derived.OwnWalk
namespace Go.Proofs.YtnnhhbjbdmgpiaaDoor
set_option maxRecDepth 100000
open Go.RowKit

theorem infoIns : (Tryd.prog.info? 73).map (fun i => (i.zero, i.size, i.bytes)) = some (some (.agg #[.int .i64 0, .int .i64 0, .int .i64 0, .int .i64 0]), 4, 32) := by kernel_rfl
theorem Codes.at_ {w : World} {A : Option Addr} {l : List Cf.Ins} (h : Codes w A l) (hl : l ≠ []) : ∃ b off, A = some ⟨b, off, none⟩ ∧ b < w.heap.size ∧ ∀ (k : Nat) (op a b' c : Int), l[k]? = some ⟨op, a, b', c⟩ →
    w.cell? ⟨b, off + k * 4, none⟩ = some (.int .i64 op) ∧ w.cell? ⟨b, off + k * 4 + 1, none⟩ = some (.int .i64 a) ∧ w.cell? ⟨b, off + k * 4 + 2, none⟩ = some (.int .i64 b') ∧ w.cell? ⟨b, off + k * 4 + 3, none⟩ = some (.int .i64 c) := by
  rcases h with h | ⟨b, off, hA, hb, hc⟩
  · exact absurd h hl
  · exact ⟨b, off, hA, hb, fun k op a b' c hx => ⟨hc k _ hx 0 _ rfl, hc k _ hx 1 _ rfl, hc k _ hx 2 _ rfl, hc k _ hx 3 _ rfl⟩⟩
end Go.Proofs.YtnnhhbjbdmgpiaaDoor
