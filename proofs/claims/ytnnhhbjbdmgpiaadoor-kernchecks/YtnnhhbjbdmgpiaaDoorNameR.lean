/- Walks of chapter 4: the reference's NameMay. -/
import Derived.Test.YtnnhhbjbdmgpiaaDoorModP
import Derived.Test.YtnnhhbjbdmgpiaaDoorInR
import Derived.Test.YtnnhhbjbdmgpiaaDoorStrK
namespace Go.Proofs.YtnnhhbjbdmgpiaaDoor
set_option maxRecDepth 100000
open Go.RowKit

theorem letters_on (s : List UInt8) (k : Nat) (c : UInt8) (hc : s[k]? = some c) (h : (s.take k).all Cf.letterB = true) (hl : Cf.letterB c = true) : (s.take (k + 1)).all Cf.letterB = true := by
  rw [List.take_add_one, hc, List.all_append, h]; simp [hl]
theorem letters_bad (s : List UInt8) (k : Nat) (c : UInt8) (hc : s[k]? = some c) (hl : Cf.letterB c = false) : s.all Cf.letterB = false := by
  rw [List.all_eq_false]
  exact ⟨c, List.mem_of_getElem? hc, by simp [hl]⟩
set_option maxHeartbeats 1000000 in
theorem nameMay_any (s : List UInt8) (hs : s.length ≤ maxLen) (w : World) :
    Calls Tryd.prog 29 #[.string ⟨s.toArray⟩] w fun e w' => e = .returned (.bool (Cf.nameB s)) ∧ w = w' := by
  unfold maxLen at hs
  go_enter Tryd.func29, Tryd.ntmps29
  go_wp2
  go_loop [3] (fun i => ∃ k : Nat, k ≤ s.length ∧ i = .int .i64 k ∧ (s.take k).all Cf.letterB = true) (fun i => s.length - (intOf i).toNat)
  case atStart => exact ⟨0, by omega, rfl, rfl⟩
  case round =>
    obtain ⟨k, hk, rfl, hall⟩ := hrel
    have Hall := Lib.hid hall
    clear hall
    by_cases hlt : k < s.length
    · obtain ⟨c, hc⟩ : ∃ c, s[k]? = some c := ⟨_, List.getElem?_eq_getElem hlt⟩
      have hix := str_index s k c hc
      have Hc := Lib.hid hc
      have hc1 := c.toNat_lt
      clear hc
      cases hl : Cf.letterB c
      · have HB := Lib.hid (show Cf.nameB s = false by rw [Cf.nameB, letters_bad s k c Hc.out hl]; rfl)
        have hin : Cf.inB (c.toNat : Int) 97 122 = false := hl
        clear hl
        go_wp2_with fail
        refine (in_any _ 97 122 _).mono ?_
        rintro e w1 ⟨rfl, rfl⟩
        rw [hin]
        go_wp2
        go_ret
        exact ⟨by rw [HB.out]; rfl, rfl⟩
      · have HA := Lib.hid (letters_on s k c Hc.out Hall.out hl)
        have hin : Cf.inB (c.toNat : Int) 97 122 = true := hl
        clear hl
        go_wp2_with fail
        refine (in_any _ 97 122 _).mono ?_
        rintro e w1 ⟨rfl, rfl⟩
        rw [hin]
        go_wp2
        go_round
        case rel => exact ⟨k + 1, by omega, by go_num, HA.out⟩
        case measure => simp [intOf]; omega
    · have HA := Lib.hid (show Cf.nameB s = Cf.inB s.length 1 6 by have := Hall.out; rw [List.take_of_length_le (by omega)] at this; rw [Cf.nameB, this]; rfl)
      go_wp2_with fail
      refine (in_any _ 1 6 _).mono ?_
      rintro e w1 ⟨rfl, rfl⟩
      go_wp2
      go_ret
      exact ⟨by rw [HA.out]; rfl, rfl⟩
end Go.Proofs.YtnnhhbjbdmgpiaaDoor
