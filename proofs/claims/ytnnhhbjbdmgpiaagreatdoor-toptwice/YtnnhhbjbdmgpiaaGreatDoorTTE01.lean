/- Texts of the proof of TopTwice: SafeU, EqJ. -/
import Derived.Test.YtnnhhbjbdmgpiaaGreatDoorJ03
import Derived.Test.YtnnhhbjbdmgpiaaGreatDoorJ05
set_option linter.unusedSimpArgs false
set_option linter.unusedVariables false
/- Walks of chapter 3: does an instruction use a reserved register. -/
namespace Go.Proofs.YtnnhhbjbdmgpiaaGreatDoor
set_option maxRecDepth 100000
open Go.RowKit
theorem puses_any (op a b c : Int) (w : World) :
  Calls Tryz.prog 97 #[.agg #[.int .i64 op, .int .i64 a, .int .i64 b, .int .i64 c]] w fun e w' => e = .returned (.bool (Cf.useB ⟨op, a, b, c⟩)) ∧ Below w.heap.size w w' := by
 have hb0 : Below w.heap.size w (w.alloc (Obj.cells #[.int .i64 op, .int .i64 a, .int .i64 b, .int .i64 c] 121)) := (Below.refl _ _).alloc (Nat.le_refl _) _
 have HU := Lib.hid (show Cf.useB ⟨op, a, b, c⟩ = (Cf.inB a 4 6 || (Cf.inB b 4 6 || (Cf.inB op 2 7 && Cf.inB c 4 6))) from rfl)
 by_cases h1 : 2 ≤ op
 ·by_cases h2 : op ≤ 7
  ·have HO := Lib.hid (show Cf.inB op 2 7 = true by simp [Cf.inB, h1, h2])
   go_enter Tryz.func97, Tryz.ntmps97
   go_wp2_with fail
   refine (preserved_any a _).mono ?_
   rintro e w' ⟨rfl, rfl⟩
   cases ha : Cf.inB a 4 6
   ·have Ha := Lib.hid ha
    clear ha
    go_wp2_with fail
    refine (preserved_any b _).mono ?_
    rintro e w' ⟨rfl, rfl⟩
    cases hb : Cf.inB b 4 6
    ·have Hb := Lib.hid hb
     clear hb
     go_wp2_with fail
     refine (preserved_any c _).mono ?_
     rintro e w' ⟨rfl, rfl⟩
     go_wp2
     go_ret
     exact ⟨by rw [HU.out, Ha.out, Hb.out, HO.out]; rfl, hb0⟩
    ·have Hb := Lib.hid hb
     clear hb
     go_wp2
     go_ret
     exact ⟨by rw [HU.out, Ha.out, Hb.out]; rfl, hb0⟩
   ·have Ha := Lib.hid ha
    clear ha
    go_wp2
    go_ret
    exact ⟨by rw [HU.out, Ha.out]; rfl, hb0⟩
  ·have HO := Lib.hid (show Cf.inB op 2 7 = false by simp [Cf.inB, h2])
   go_enter Tryz.func97, Tryz.ntmps97
   go_wp2_with fail
   refine (preserved_any a _).mono ?_
   rintro e w' ⟨rfl, rfl⟩
   cases ha : Cf.inB a 4 6
   ·have Ha := Lib.hid ha
    clear ha
    go_wp2_with fail
    refine (preserved_any b _).mono ?_
    rintro e w' ⟨rfl, rfl⟩
    have HB := Lib.hid (show Cf.useB ⟨op, a, b, c⟩ = Cf.inB b 4 6 by rw [HU.out, Ha.out, HO.out]; simp)
    cases hb : Cf.inB b 4 6
    ·have Hb := Lib.hid hb
     clear hb
     go_wp2
     go_ret
     exact ⟨by rw [HB.out, Hb.out]; rfl, hb0⟩
    ·have Hb := Lib.hid hb
     clear hb
     go_wp2
     go_ret
     exact ⟨by rw [HB.out, Hb.out]; rfl, hb0⟩
   ·have Ha := Lib.hid ha
    clear ha
    go_wp2
    go_ret
    exact ⟨by rw [HU.out, Ha.out]; rfl, hb0⟩
 ·have HO := Lib.hid (show Cf.inB op 2 7 = false by simp [Cf.inB, h1])
  go_enter Tryz.func97, Tryz.ntmps97
  go_wp2_with fail
  refine (preserved_any a _).mono ?_
  rintro e w' ⟨rfl, rfl⟩
  cases ha : Cf.inB a 4 6
  ·have Ha := Lib.hid ha
   clear ha
   go_wp2_with fail
   refine (preserved_any b _).mono ?_
   rintro e w' ⟨rfl, rfl⟩
   have HB := Lib.hid (show Cf.useB ⟨op, a, b, c⟩ = Cf.inB b 4 6 by rw [HU.out, Ha.out, HO.out]; simp)
   cases hb : Cf.inB b 4 6
   ·have Hb := Lib.hid hb
    clear hb
    go_wp2
    go_ret
    exact ⟨by rw [HB.out, Hb.out]; rfl, hb0⟩
   ·have Hb := Lib.hid hb
    clear hb
    go_wp2
    go_ret
    exact ⟨by rw [HB.out, Hb.out]; rfl, hb0⟩
  ·have Ha := Lib.hid ha
   clear ha
   go_wp2
   go_ret
   exact ⟨by rw [HU.out, Ha.out]; rfl, hb0⟩
end Go.Proofs.YtnnhhbjbdmgpiaaGreatDoor
/- Walks of the laws' own helpers: slices.Equal of two slices of numbers that read as one list. -/
namespace Go.Proofs.YtnnhhbjbdmgpiaaGreatDoor
set_option maxRecDepth 100000
open Go.RowKit
set_option maxHeartbeats 1000000 in
theorem equalI_same (l : List Int) (A B : Option Addr) (ca cb : Nat) (w : World) (hA : Ints w A l) (hB : Ints w B l) (hm : l.length ≤ maxLen) :
  Calls Tryz.prog 25 #[.slice A l.length ca, .slice B l.length cb] w fun e w' => e = .returned (.bool true) ∧ ∃ k, w' = w.drewN k := by
 unfold maxLen at hm
 by_cases hl : l = []
 ·subst hl
  go_enter Tryz.func25, Tryz.ntmps25
  go_wp2
  refine wp_loop_rounds 1 ?_
  rw [rounds_succ]
  go_wp2
  go_ret
  exact ⟨rfl, 0, rfl⟩
 ·obtain ⟨b1, o1, rfl, hb1, hc1⟩ := hA.at_ hl
  obtain ⟨b2, o2, rfl, hb2, hc2⟩ := hB.at_ hl
  have H1 := Lib.hid hc1
  have H2 := Lib.hid hc2
  clear hc1 hc2
  go_enter Tryz.func25, Tryz.ntmps25
  go_wp2
  go_loopw [13] (fun i wr => ∃ k m : Nat, k ≤ l.length ∧ i = .int .i64 k ∧ wr = w.drewN m) (fun i _ => l.length - (intOf i).toNat)
  case atStart => exact ⟨0, 0, by omega, rfl, rfl⟩
  case round =>
   obtain ⟨k, m, hk, rfl, rfl⟩ := hrel
   by_cases hlt : k < l.length
   ·obtain ⟨z, hx⟩ : ∃ z, l[k]? = some z := ⟨_, List.getElem?_eq_getElem hlt⟩
    have p0 := H1.out k z hx
    have q0 := H2.out k z hx
    clear hx
    go_wp2_with fail
    go_quiet (fail)
    go_wp2
    go_roundw
    case rel => exact ⟨k + 1, _, by omega, by go_num, rfl⟩
    case measure => simp [intOf]; omega
   ·go_wp2
    go_ret
    exact ⟨rfl, m, rfl⟩
end Go.Proofs.YtnnhhbjbdmgpiaaGreatDoor
