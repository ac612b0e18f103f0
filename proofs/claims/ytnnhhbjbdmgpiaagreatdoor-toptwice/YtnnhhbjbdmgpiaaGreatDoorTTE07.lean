/- Texts of the proof of TopTwice: EqI. -/
import Derived.Test.YtnnhhbjbdmgpiaaGreatDoorJ17
import Derived.Test.YtnnhhbjbdmgpiaaGreatDoorJ16
import Derived.Test.YtnnhhbjbdmgpiaaGreatDoorTTE01
set_option linter.unusedSimpArgs false
set_option linter.unusedVariables false
/- Walks of the laws' own helpers: slices.Equal of two slices of numbers that read as one list; a number picked; the registers of a region. -/
namespace Go.Proofs.YtnnhhbjbdmgpiaaGreatDoor
set_option maxRecDepth 100000
open Go.RowKit
theorem Picked_any (n m : Int) (w : World) (hn : Fit n) (h0 : 0 < m) (h1 : m ≤ 1000000) :
  Calls Tryz.prog 34 #[.int .i64 n, .int .i64 m] w fun e w' => e = .returned (.int .i64 (Cf.pick n m)) ∧ w = w' := by
 go_enter Tryz.func34, Tryz.ntmps34
 go_wp2_with fail
 refine (picked_any n m _ hn h0 h1).mono ?_
 rintro e w' ⟨rfl, rfl⟩
 go_wp2
 go_ret
 exact ⟨rfl, rfl⟩
end Go.Proofs.YtnnhhbjbdmgpiaaGreatDoor
