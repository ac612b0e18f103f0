/- Texts of the proofs: NameW. -/
import Derived.Lib.OthersKept
import Derived.Lib.DecodeN
import Derived.Deep.LoopGhost
import Derived.Test.YtnnhhbjbdmgpiaaGreatDoorJ00
import Derived.Test.YtnnhhbjbdmgpiaaGreatDoorJ03
set_option linter.unusedSimpArgs false
set_option linter.unusedVariables false
/- Walks of chapter 4: the program's Name. -/
namespace Go.Proofs.YtnnhhbjbdmgpiaaGreatDoor.Cf
set_option maxRecDepth 100000
theorem get_byte (s : List UInt8) (k : Nat) (c : UInt8) (h : s[k]? = some c) : (⟨s.toArray⟩ : ByteArray).get! k = c := by
 simp [ByteArray.get!, h]
theorem dec_yes (s : List UInt8) (k : Nat) (c : UInt8) (h : s[k]? = some c) (hc : letterB c = true) : Utf8.decode ⟨s.toArray⟩ k = (c.toNat, 1) := by
 simp only [letterB, inB, Bool.and_eq_true, decide_eq_true_eq] at hc
 rw [Lib.decode_at, get_byte s k c h]
 unfold Lib.decodeN
 rw [if_pos (by omega)]
theorem dec_no (s : List UInt8) (k : Nat) (c : UInt8) (h : s[k]? = some c) (hc : letterB c = false) : inB ((Utf8.decode ⟨s.toArray⟩ k).1 : Nat) 97 122 = false := by
 have hc' : ¬ (97 ≤ c.toNat ∧ c.toNat ≤ 122) := by
  intro ⟨h1, h2⟩
  have : letterB c = true := by
   simp only [letterB, inB, Bool.and_eq_true, decide_eq_true_eq]
   omega
  rw [this] at hc
  cases hc
 rw [Lib.decode_at, get_byte s k c h]
 have hlt := c.toNat_lt
 generalize c.toNat = b0 at *
 generalize (ByteArray.get! _ (k + 1)).toNat = b1
 generalize (ByteArray.get! _ (k + 2)).toNat = b2
 generalize (ByteArray.get! _ (k + 3)).toNat = b3
 have : ∀ r : Nat, ¬ (97 ≤ r ∧ r ≤ 122) → inB (r : Int) 97 122 = false := by
  intro r hr
  simp only [inB, Bool.and_eq_false_iff, decide_eq_false_iff_not]
  omega
 apply this
 unfold Lib.decodeN
 repeat' split
 all_goals (dsimp only; omega)
theorem all_letter_on (s : List UInt8) (k : Nat) (c : UInt8) (hc : s[k]? = some c) (h : (s.take k).all letterB = true) (hl : letterB c = true) : (s.take (k + 1)).all letterB = true := by
 rw [List.take_add_one, hc, List.all_append, h]; simp [hl]
theorem all_letter_bad (s : List UInt8) (k : Nat) (c : UInt8) (hc : s[k]? = some c) (hl : letterB c = false) : s.all letterB = false := by
 rw [List.all_eq_false]
 exact ⟨c, List.mem_of_getElem? hc, by simp [hl]⟩
end Go.Proofs.YtnnhhbjbdmgpiaaGreatDoor.Cf
namespace Go.Proofs.YtnnhhbjbdmgpiaaGreatDoor
open Go.RowKit
theorem noLetter_any (r : Int) (w : World) :
  Calls Tryz.prog 132 #[.int .i32 r] w fun e w' => e = .returned (.bool (!Cf.inB r 97 122)) ∧ w = w' := by
 by_cases h1 : r < 97
 ·go_enter Tryz.func132, Tryz.ntmps132
  go_wp2
  go_ret
  exact ⟨by simp [Cf.inB, h1], rfl⟩
 ·by_cases h2 : 122 < r
  ·go_enter Tryz.func132, Tryz.ntmps132
   go_wp2
   go_ret
   exact ⟨by simp [Cf.inB, h2], rfl⟩
  ·go_enter Tryz.func132, Tryz.ntmps132
   go_wp2
   go_ret
   exact ⟨by simp [Cf.inB, h1, h2], rfl⟩
def SIdxPost (s : List UInt8) (w : World) (e : Ending) (w' : World) : Prop := ∃ z : Int, e = .returned (.int .i64 z) ∧ decide (0 ≤ z) = !s.all Cf.letterB ∧ Below w.heap.size w w'
set_option maxHeartbeats 1000000 in
theorem sIndexFunc_any (s : List UInt8) (w : World) :
  Calls Tryz.prog 167 #[.string ⟨s.toArray⟩, .func (.func 132) #[] #[], .bool true] w (SIdxPost s w) := by
 have HSZ := Lib.hid (show (⟨s.toArray⟩ : ByteArray).size = s.length by simp [ByteArray.size])
 go_enter Tryz.func167, Tryz.ntmps167
 go_wp2
 go_loopg [] s.length (fun gf wx => ∃ k : Nat, k ≤ s.length ∧ s.length ≤ k + gf ∧ wx.heap[w.heap.size]? = some (.stringIter ⟨s.toArray⟩ k) ∧ Below w.heap.size w wx ∧ (s.take k).all Cf.letterB = true)
 case atStart => exact ⟨0, by omega, by omega, World.iter_heap w _ 0, (Below.refl _ w).alloc (Nat.le_refl _) _, rfl⟩
 case round =>
  obtain ⟨k, hk, hg, hit, hbw, hall⟩ := hrel
  have Hall := Lib.hid hall
  clear hall
  by_cases hlt : k < s.length
  ·obtain ⟨g', rfl⟩ : ∃ g', gk = g' + 1 := ⟨gk - 1, by omega⟩
   obtain ⟨c, hc⟩ : ∃ c, s[k]? = some c := ⟨_, List.getElem?_eq_getElem hlt⟩
   have hnx : ∀ ty, (Instr.next (.pointer (some ⟨w.heap.size, 0, none⟩)) true ty).run Tryz.prog wr = _ := fun ty => Lib.run_next_any_at wr w.heap.size ⟨s.toArray⟩ k ty hit (by rw [HSZ.out]; exact hlt)
   cases hl : Cf.letterB c
   ·have HB := Lib.hid (Cf.all_letter_bad s k c hc hl)
    have hno := Cf.dec_no s k c hc hl
    obtain ⟨R, hR⟩ : ∃ R, (Utf8.decode ⟨s.toArray⟩ k).1 = R := ⟨_, rfl⟩
    obtain ⟨K, hK⟩ : ∃ K, (Utf8.decode ⟨s.toArray⟩ k).2 = K := ⟨_, rfl⟩
    rw [hR] at hno
    rw [hR, hK] at hnx
    have hbw2 := Lib.below_iterAt hbw (k := w.heap.size) (Nat.le_refl _) ⟨s.toArray⟩ (k + K)
    clear hR hK hc hl hit
    go_wp2_with fail
    refine (noLetter_any _ _).mono ?_
    rintro e w1 ⟨rfl, rfl⟩
    rw [hno]
    go_wp2
    go_ret
    exact ⟨k, rfl, by rw [HB.out]; simp, hbw2⟩
   ·have HA := Lib.hid (Cf.all_letter_on s k c hc Hall.out hl)
    rw [Cf.dec_yes s k c hc hl] at hnx
    have hit2 := Lib.iterAt_heap wr w.heap.size ⟨s.toArray⟩ k (k + 1) hit
    have hbw2 := Lib.below_iterAt hbw (k := w.heap.size) (Nat.le_refl _) ⟨s.toArray⟩ (k + 1)
    have hin : Cf.inB (c.toNat : Int) 97 122 = true := hl
    clear hc hl hit
    go_wp2_with fail
    refine (noLetter_any _ _).mono ?_
    rintro e w1 ⟨rfl, rfl⟩
    rw [hin]
    go_wp2
    go_roundg g'
    case measure => omega
    case rel => exact ⟨k + 1, by omega, by omega, hit2, hbw2, HA.out⟩
  ·have hnx : ∀ ty, (Instr.next (.pointer (some ⟨w.heap.size, 0, none⟩)) true ty).run Tryz.prog wr = _ := fun ty => Lib.run_next_end_at wr w.heap.size ⟨s.toArray⟩ k ty hit (by rw [HSZ.out]; exact hlt)
   have HA := Lib.hid (show s.all Cf.letterB = true by have := Hall.out; rwa [List.take_of_length_le (by omega)] at this)
   go_wp2
   go_ret
   exact ⟨-1, rfl, by rw [HA.out]; rfl, hbw⟩
theorem sIndex_any (s : List UInt8) (w : World) :
  Calls Tryz.prog 158 #[.string ⟨s.toArray⟩, .func (.func 132) #[] #[]] w (SIdxPost s w) := by
 go_enter Tryz.func158, Tryz.ntmps158
 go_wp2_with fail
 refine (sIndexFunc_any s _).mono ?_
 rintro e w1 ⟨z, rfl, hz, hb⟩
 have HZ := Lib.hid hz
 clear hz
 go_wp2
 go_ret
 exact ⟨z, rfl, HZ.out, hb⟩
theorem sContains_any (s : List UInt8) (w : World) :
  Calls Tryz.prog 133 #[.string ⟨s.toArray⟩, .func (.func 132) #[] #[]] w fun e w' => e = .returned (.bool (!s.all Cf.letterB)) ∧ Below w.heap.size w w' := by
 go_enter Tryz.func133, Tryz.ntmps133
 go_wp2_with fail
 refine (sIndex_any s _).mono ?_
 rintro e w1 ⟨z, rfl, hz, hb⟩
 have HZ := Lib.hid hz
 clear hz
 go_wp2
 go_ret
 exact ⟨by rw [← HZ.out]; rfl, hb⟩
theorem name_len (s : List UInt8) : Cf.nameB s = (s.all Cf.letterB && decide (1 ≤ s.length ∧ s.length ≤ 6)) := by
 simp only [Cf.nameB, Cf.inB]
 congr 1
 rw [Bool.eq_iff_iff]
 simp only [Bool.and_eq_true, decide_eq_true_eq]
 omega
set_option maxHeartbeats 1000000 in
theorem pname_any (s : List UInt8) (hs : s.length ≤ maxLen) (w : World) :
  Calls Tryz.prog 107 #[.string ⟨s.toArray⟩] w fun e w' => e = .returned (.bool (Cf.nameB s)) ∧ Below w.heap.size w w' := by
 have hmf : ∀ (fn : Fn) (first cap : Array Value) (w : World), (Instr.makeFunc fn first cap).run Tryz.prog w = .ok (.func fn first cap) w := fun _ _ _ _ => rfl
 have HN := Lib.hid (name_len s)
 have HC := Lib.hid (fun w => sContains_any s w)
 unfold maxLen at hs
 have hsz : (⟨s.toArray⟩ : ByteArray).size = s.length := by simp [ByteArray.size]
 by_cases h0 : s = []
 ·subst h0
  clear hsz
  go_enter Tryz.func107, Tryz.ntmps107
  go_wp2
  go_ret
  exact ⟨rfl, Below.refl _ _⟩
 ·have hpos := List.length_pos_iff.2 h0
  by_cases h6 : s.length ≤ 6
  ·have HS := Lib.hid (show Cf.nameB s = s.all Cf.letterB by rw [HN.out, decide_eq_true (by omega : 1 ≤ s.length ∧ s.length ≤ 6), Bool.and_true])
   go_enter Tryz.func107, Tryz.ntmps107
   go_wp2_with fail
   refine (HC.out _).mono ?_
   rintro e w1 ⟨rfl, hb⟩
   go_wp2
   go_ret
   exact ⟨by rw [HS.out]; simp [h0], hb⟩
  ·have HS := Lib.hid (show Cf.nameB s = false by rw [HN.out, decide_eq_false (by omega), Bool.and_false])
   go_enter Tryz.func107, Tryz.ntmps107
   go_wp2
   go_ret
   exact ⟨by rw [HS.out]; rfl, Below.refl _ _⟩
end Go.Proofs.YtnnhhbjbdmgpiaaGreatDoor
