/- Texts of the proofs: PickC. -/
import Derived.Deep.RegionHeld3
import Derived.Test.YtnnhhbjbdmgpiaaGreatDoorJ03
import Derived.Test.YtnnhhbjbdmgpiaaGreatDoorJ13
set_option linter.unusedSimpArgs false
set_option linter.unusedVariables false
/- Walks of the laws' own helpers: a number picked, code of raw things. -/
namespace Go.Proofs.YtnnhhbjbdmgpiaaGreatDoor
set_option maxRecDepth 100000
open Go.RowKit
def Cf.pick (n m : Int) : Int := (if n < 0 then -(n + 1) else n).tmod m
theorem Cf.pick_range (n m : Int) (h : 0 < m) : 0 ≤ Cf.pick n m ∧ Cf.pick n m < m := by
 unfold Cf.pick
 split
 ·exact ⟨Int.tmod_nonneg _ (by omega), Int.tmod_lt_of_pos _ h⟩
 ·exact ⟨Int.tmod_nonneg _ (by omega), Int.tmod_lt_of_pos _ h⟩
def Fit (z : Int) : Prop := -9223372036854775808 ≤ z ∧ z ≤ 9223372036854775807
theorem picked_any (n m : Int) (w : World) (hn : Fit n) (h0 : 0 < m) (h1 : m ≤ 1000000) :
  Calls Tryz.prog 18 #[.int .i64 n, .int .i64 m] w fun e w' => e = .returned (.int .i64 (Cf.pick n m)) ∧ w = w' := by
 obtain ⟨hn1, hn2⟩ := hn
 obtain ⟨hr1, hr2⟩ := Cf.pick_range n m h0
 by_cases h : n < 0
 ·have HP := Lib.hid (show Cf.pick n m = (-(n + 1)).tmod m by unfold Cf.pick; rw [if_pos h])
  rw [HP.out] at hr1 hr2
  go_enter Tryz.func18, Tryz.ntmps18
  go_wp2
  go_ret
  exact ⟨by rw [HP.out, Int.neg_tmod]; rfl, rfl⟩
 ·have HP := Lib.hid (show Cf.pick n m = n.tmod m by unfold Cf.pick; rw [if_neg h])
  rw [HP.out] at hr1 hr2
  go_enter Tryz.func18, Tryz.ntmps18
  go_wp2
  go_ret
  exact ⟨by rw [HP.out, Int.tmod_eq_emod_of_nonneg h]; rfl, rfl⟩
end Go.Proofs.YtnnhhbjbdmgpiaaGreatDoor
