/- Walks of chapter 1: the reference's small functions. -/
import Derived.Test.YtdhnoaohicopdabDoorCodeW
import Derived.Test.YtdhnoaohicopdabDoorInR
namespace Go.Proofs.YtdhnoaohicopdabDoor
open Go.RowKit

theorem shape_any (op : Int) (w : World) :
    Calls Tryd.prog 64 #[.int .i64 op] w fun e w' => e = .returned (.string (Cf.shape op)) ∧ w = w' := by
  go_enter Tryd.func64, Tryd.ntmps64
  go_wp2
  all_goals (go_ret; refine ⟨?_, rfl⟩; simp_all [Cf.shape, Cf.shapeL])
theorem most_any (c : Int) (w : World) :
    Calls Tryd.prog 65 #[.int .u8 c] w fun e w' => e = .returned (.int .i64 (Cf.most c)) ∧ w = w' := by
  go_enter Tryd.func65, Tryd.ntmps65
  go_wp2
  all_goals (go_ret; refine ⟨?_, rfl⟩; simp_all [Cf.most])
end Go.Proofs.YtdhnoaohicopdabDoor
