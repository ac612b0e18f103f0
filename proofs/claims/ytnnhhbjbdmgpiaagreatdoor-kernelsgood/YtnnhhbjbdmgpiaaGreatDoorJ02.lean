/- Texts of the proofs: BitsP. -/
import Derived.Laws.BitsLemmas
import Derived.WalkKit
import Derived.Test.YtnnhhbjbdmgpiaaGreatDoorJ00
set_option linter.unusedSimpArgs false
set_option linter.unusedVariables false
/- Bits of words, in the walk's words. Of any program. -/
namespace Go.Proofs.YtnnhhbjbdmgpiaaGreatDoor
set_option maxRecDepth 100000
theorem wrap_small (n : Int) (h0 : 0 ≤ n) (h1 : n < 2 ^ 63) : IntKind.i64.wrap n = n := by
 have : (2 : Int) ^ 63 = 9223372036854775808 := by decide
 rw [this] at h1
 rw [IntKind.wrap_i64]
 omega
theorem bits_and (x y : Int) (hx : 0 ≤ x ∧ x ≤ 65535) (hy : 0 ≤ y ∧ y ≤ 65535) : bits .and .i64 x y = Cf.andI x y := by
 obtain ⟨a, rfl⟩ := Int.eq_ofNat_of_zero_le hx.1
 obtain ⟨b, rfl⟩ := Int.eq_ofNat_of_zero_le hy.1
 rw [(bits_nat .i64 63 (by decide) wrap_small a b (by omega) (by omega)).1]
 simp [Cf.andI]
theorem bits_or (x y : Int) (hx : 0 ≤ x ∧ x ≤ 65535) (hy : 0 ≤ y ∧ y ≤ 65535) : bits .or .i64 x y = Cf.orI x y := by
 obtain ⟨a, rfl⟩ := Int.eq_ofNat_of_zero_le hx.1
 obtain ⟨b, rfl⟩ := Int.eq_ofNat_of_zero_le hy.1
 rw [(bits_nat .i64 63 (by decide) wrap_small a b (by omega) (by omega)).2]
 simp [Cf.orI]
theorem bits_xor (x y : Int) (hx : 0 ≤ x ∧ x ≤ 65535) (hy : 0 ≤ y ∧ y ≤ 65535) : bits .xor .i64 x y = Cf.xorI x y := by
 obtain ⟨a, rfl⟩ := Int.eq_ofNat_of_zero_le hx.1
 obtain ⟨b, rfl⟩ := Int.eq_ofNat_of_zero_le hy.1
 have ha : a < 2 ^ 16 := by omega
 have hb : b < 2 ^ 16 := by omega
 have hr := Nat.xor_lt_two_pow ha hb
 have h2 : IntKind.i64.bits = 64 := rfl
 simp only [bits, h2, BitVec.ofInt_natCast, BitVec.toNat_xor, BitVec.toNat_ofNat]
 rw [Nat.mod_eq_of_lt (show a < 2 ^ 64 by omega), Nat.mod_eq_of_lt (show b < 2 ^ 64 by omega), wrap_small _ (by omega) (by omega)]
 simp [Cf.xorI]
theorem bits_low (x : Int) : bits .and .i64 x 65535 = x % 65536 := by
 have h2 : IntKind.i64.bits = 64 := rfl
 have hm : ((2 ^ 64 : Nat) : Int) = 18446744073709551616 := by decide
 have h3 : ((65535 : Int) % 18446744073709551616).toNat = 2 ^ 16 - 1 := by decide
 simp only [bits, h2, BitVec.toNat_and, BitVec.toNat_ofInt, hm]
 rw [h3, Nat.and_two_pow_sub_one_eq_mod]
 have hlt : ((x % 18446744073709551616).toNat % 2 ^ 16 : Nat) < 65536 := by omega
 rw [wrap_small _ (by omega) (by omega)]
 omega
end Go.Proofs.YtnnhhbjbdmgpiaaGreatDoor
