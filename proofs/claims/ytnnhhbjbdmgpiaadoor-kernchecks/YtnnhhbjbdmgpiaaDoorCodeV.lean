/- Walks of chapter 1: the reference's small functions. -/
import Derived.Test.YtnnhhbjbdmgpiaaDoorCodeW
import Derived.Test.YtnnhhbjbdmgpiaaDoorInR
namespace Go.Proofs.YtnnhhbjbdmgpiaaDoor
set_option maxRecDepth 100000
open Go.RowKit

theorem shape_any (op : Int) (w : World) :
    Calls Tryd.prog 59 #[.int .i64 op] w fun e w' => e = .returned (.string (Cf.shape op)) ∧ w = w' := by
  go_enter Tryd.func59, Tryd.ntmps59
  go_wp2
  all_goals (go_ret; refine ⟨?_, rfl⟩; simp_all [Cf.shape, Cf.shapeL])
theorem most_any (c : Int) (w : World) :
    Calls Tryd.prog 60 #[.int .u8 c] w fun e w' => e = .returned (.int .i64 (Cf.most c)) ∧ w = w' := by
  go_enter Tryd.func60, Tryd.ntmps60
  go_wp2
  all_goals (go_ret; refine ⟨?_, rfl⟩; simp_all [Cf.most])
end Go.Proofs.YtnnhhbjbdmgpiaaDoor
