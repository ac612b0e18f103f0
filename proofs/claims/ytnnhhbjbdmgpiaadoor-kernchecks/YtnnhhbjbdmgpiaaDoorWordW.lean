/- Walks of chapter 4: the program's check of a module's words. -/
import Derived.Test.YtnnhhbjbdmgpiaaDoorIntsK
namespace Go.Proofs.YtnnhhbjbdmgpiaaDoor
set_option maxRecDepth 100000
open Go.RowKit

theorem mNoWord_any (v : Int) (w : World) :
    Calls Tryd.prog 34 #[.int .i64 v] w fun e w' => e = .returned (.bool (!Cf.wordB v)) ∧ w = w' := by
  by_cases h1 : v < 0
  · go_enter Tryd.func34, Tryd.ntmps34
    go_wp2
    go_ret
    exact ⟨by simp [Cf.wordB, Cf.inB, h1], rfl⟩
  · by_cases h2 : 65535 < v
    · go_enter Tryd.func34, Tryd.ntmps34
      go_wp2
      go_ret
      exact ⟨by simp [Cf.wordB, Cf.inB, h2], rfl⟩
    · go_enter Tryd.func34, Tryd.ntmps34
      go_wp2
      go_ret
      exact ⟨by simp [Cf.wordB, Cf.inB, h1, h2], rfl⟩
def MIdxPost (l : List Int) (w : World) (e : Ending) (w' : World) : Prop := ∃ z : Int, e = .returned (.int .i64 z) ∧ decide (0 ≤ z) = !l.all Cf.wordB ∧ w = w'
set_option maxHeartbeats 1000000 in
theorem mIndexFunc_any (l : List Int) (A : Option Addr) (cap : Nat) (w : World) (hI : Ints w A l) (hm : l.length ≤ maxLen) :
    Calls Tryd.prog 20 #[.slice A l.length cap, .func (.func 34) #[] #[]] w (MIdxPost l w) := by
  unfold maxLen at hm
  by_cases hl : l = []
  · subst hl
    go_enter Tryd.func20, Tryd.ntmps20
    go_wp2
    refine wp_loop_rounds 1 ?_
    rw [rounds_succ]
    go_wp2
    go_ret
    exact ⟨-1, rfl, rfl, rfl⟩
  · obtain ⟨b, off, rfl, hb, hc⟩ := hI.at_ hl
    have Hc := Lib.hid hc
    clear hc
    go_enter Tryd.func20, Tryd.ntmps20
    go_wp2
    go_loop [8] (fun i => ∃ k : Nat, k ≤ l.length ∧ i = .int .i64 k ∧ (l.take k).all Cf.wordB = true) (fun i => l.length - (intOf i).toNat)
    case atStart => exact ⟨0, by omega, rfl, rfl⟩
    case round =>
      obtain ⟨k, hk, rfl, hall⟩ := hrel
      have Hall := Lib.hid hall
      clear hall
      by_cases hlt : k < l.length
      · obtain ⟨z, hz⟩ : ∃ z, l[k]? = some z := ⟨_, List.getElem?_eq_getElem hlt⟩
        have c := Hc.out k z hz
        have Hz := Lib.hid hz
        clear hz
        cases hw : Cf.wordB z
        · have HB := Lib.hid (all_bad l k z Hz.out hw)
          go_wp2_with fail
          refine (mNoWord_any z _).mono ?_
          rintro e w1 ⟨rfl, rfl⟩
          rw [hw]
          go_wp2
          go_ret
          exact ⟨k, rfl, by rw [HB.out]; simp, rfl⟩
        · have HA := Lib.hid (all_on l k z Hz.out Hall.out hw)
          go_wp2_with fail
          refine (mNoWord_any z _).mono ?_
          rintro e w1 ⟨rfl, rfl⟩
          rw [hw]
          go_wp2
          go_round
          case rel => exact ⟨k + 1, by omega, by go_num, HA.out⟩
          case measure => simp [intOf]; omega
      · have HA := Lib.hid (show l.all Cf.wordB = true by have := Hall.out; rwa [List.take_of_length_le (by omega)] at this)
        go_wp2
        go_ret
        exact ⟨-1, rfl, by rw [HA.out]; rfl, rfl⟩
theorem mContainsFunc_any (l : List Int) (A : Option Addr) (cap : Nat) (w : World) (hI : Ints w A l) (hm : l.length ≤ maxLen) :
    Calls Tryd.prog 9 #[.slice A l.length cap, .func (.func 34) #[] #[]] w fun e w' => e = .returned (.bool (!l.all Cf.wordB)) ∧ w = w' := by
  have H := Lib.hid (mIndexFunc_any l A cap w hI hm)
  go_enter Tryd.func9, Tryd.ntmps9
  go_wp2_with fail
  refine H.out.mono ?_
  rintro e w1 ⟨z, rfl, hz, rfl⟩
  have HZ := Lib.hid hz
  clear hz
  go_wp2
  go_ret
  exact ⟨by rw [← HZ.out]; rfl, rfl⟩
end Go.Proofs.YtnnhhbjbdmgpiaaDoor
