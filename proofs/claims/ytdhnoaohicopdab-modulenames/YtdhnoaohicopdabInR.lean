/- Walks of chapter 1: the reference's In. -/
import Derived.Test.YtdhnoaohicopdabRdK
namespace Go.Proofs.Ytdhnoaohicopdab
open Go.RowKit

theorem in_any (n lo hi : Int) (w : World) :
    Calls Try.prog 11 #[.int .i64 n, .int .i64 lo, .int .i64 hi] w fun e w' => e = .returned (.bool (Cf.inB n lo hi)) ∧ w = w' := by
  by_cases h1 : lo ≤ n <;> by_cases h2 : n ≤ hi
  all_goals
    go_enter Try.func11, Try.ntmps11
    go_wp2
    go_ret
    exact ⟨by simp [Cf.inB, h1, h2], rfl⟩
end Go.Proofs.Ytdhnoaohicopdab
