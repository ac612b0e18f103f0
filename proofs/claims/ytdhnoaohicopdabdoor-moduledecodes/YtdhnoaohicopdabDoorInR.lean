/- Walks of chapter 1: the reference's In. -/
import Derived.Test.YtdhnoaohicopdabDoorRdK
namespace Go.Proofs.YtdhnoaohicopdabDoor
open Go.RowKit

theorem in_any (n lo hi : Int) (w : World) :
    Calls Tryd.prog 52 #[.int .i64 n, .int .i64 lo, .int .i64 hi] w fun e w' => e = .returned (.bool (Cf.inB n lo hi)) ∧ w = w' := by
  by_cases h1 : lo ≤ n <;> by_cases h2 : n ≤ hi
  all_goals
    go_enter Tryd.func52, Tryd.ntmps52
    go_wp2
    go_ret
    exact ⟨by simp [Cf.inB, h1, h2], rfl⟩
end Go.Proofs.YtdhnoaohicopdabDoor
