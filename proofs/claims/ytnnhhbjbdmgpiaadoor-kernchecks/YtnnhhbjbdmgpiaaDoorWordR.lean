/- Walks of chapter 2: the reference's words. -/
import Derived.Test.YtnnhhbjbdmgpiaaDoorIntsK
import Derived.Test.YtnnhhbjbdmgpiaaDoorInR
namespace Go.Proofs.YtnnhhbjbdmgpiaaDoor
set_option maxRecDepth 100000
open Go.RowKit

theorem isWord_any (v : Int) (w : World) :
    Calls Tryd.prog 31 #[.int .i64 v] w fun e w' => e = .returned (.bool (Cf.wordB v)) ∧ w = w' := by
  go_enter Tryd.func31, Tryd.ntmps31
  go_wp2_with fail
  refine (in_any v 0 65535 _).mono ?_
  rintro e w1 ⟨rfl, rfl⟩
  go_wp2
  go_ret
  exact ⟨rfl, rfl⟩
set_option maxHeartbeats 1000000 in
theorem allWords_any (l : List Int) (A : Option Addr) (cap : Nat) (w : World) (hI : Ints w A l) (hm : l.length ≤ maxLen) :
    Calls Tryd.prog 14 #[.slice A l.length cap] w fun e w' => e = .returned (.bool (l.all Cf.wordB)) ∧ w = w' := by
  unfold maxLen at hm
  by_cases hl : l = []
  · subst hl
    go_enter Tryd.func14, Tryd.ntmps14
    go_wp2
    refine wp_loop_rounds 1 ?_
    rw [rounds_succ]
    go_wp2
    go_ret
    exact ⟨rfl, rfl⟩
  · obtain ⟨b, off, rfl, hb, hc⟩ := hI.at_ hl
    have Hc := Lib.hid hc
    clear hc
    go_enter Tryd.func14, Tryd.ntmps14
    go_wp2
    go_loop [3] (fun i => ∃ k : Nat, k ≤ l.length ∧ i = .int .i64 k ∧ (l.take k).all Cf.wordB = true) (fun i => l.length - (intOf i).toNat)
    case atStart => exact ⟨0, by omega, rfl, rfl⟩
    case round =>
      obtain ⟨k, hk, rfl, hall⟩ := hrel
      have Hall := Lib.hid hall
      clear hall
      by_cases hlt : k < l.length
      · obtain ⟨z, hz⟩ : ∃ z, l[k]? = some z := ⟨_, List.getElem?_eq_getElem hlt⟩
        have c := Hc.out k z hz
        have Hz := Lib.hid hz
        clear hz
        cases hw : Cf.wordB z
        · have HB := Lib.hid (all_bad l k z Hz.out hw)
          go_wp2_with fail
          refine (isWord_any z _).mono ?_
          rintro e w1 ⟨rfl, rfl⟩
          rw [hw]
          go_wp2
          go_ret
          exact ⟨by rw [HB.out]; rfl, rfl⟩
        · have HA := Lib.hid (all_on l k z Hz.out Hall.out hw)
          go_wp2_with fail
          refine (isWord_any z _).mono ?_
          rintro e w1 ⟨rfl, rfl⟩
          rw [hw]
          go_wp2
          go_round
          case rel => exact ⟨k + 1, by omega, by go_num, HA.out⟩
          case measure => simp [intOf]; omega
      · have HA := Lib.hid (show l.all Cf.wordB = true by have := Hall.out; rwa [List.take_of_length_le (by omega)] at this)
        go_wp2
        go_ret
        exact ⟨by rw [HA.out]; rfl, rfl⟩
end Go.Proofs.YtnnhhbjbdmgpiaaDoor
