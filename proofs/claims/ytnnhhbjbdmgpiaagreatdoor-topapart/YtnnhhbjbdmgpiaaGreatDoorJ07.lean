/- Texts of the proof of TopApart: StrK. -/
import Derived.Lib.Strings
import Derived.Test.YtnnhhbjbdmgpiaaGreatDoorJ03
/- Strings as lists of bytes: an index, a slice, a sum. -/
namespace Go.Proofs.YtnnhhbjbdmgpiaaGreatDoor
set_option maxRecDepth 100000
open Go.RowKit

theorem ext_of {a b : ByteArray} (h : a.data.toList = b.data.toList) : a = b := by
  apply ByteArray.ext
  exact Array.toList_inj.1 h
theorem str_index (d : List UInt8) (k : Nat) (c : UInt8) (h : d[k]? = some c) : ∀ w, (Instr.index 9 (.string ⟨d.toArray⟩) (.int .i64 (k : Int))).run Tryz.prog w = .ok (.int .u8 (c.toNat : Int)) w := by
  intro w
  have hk : k < d.length := (List.getElem?_eq_some_iff.1 h).1
  have hc : (⟨d.toArray⟩ : ByteArray)[k]? = some c := by
    have hs : (⟨d.toArray⟩ : ByteArray).size = d.length := by simp [ByteArray.size]
    rw [getElem?_pos _ k (by omega)]
    have := (List.getElem?_eq_some_iff.1 h).2
    congr 1
  simp [Instr.index, run_underlying Tryz.underlying9, asIntOf, hc, go_sem]
theorem str_slice (d : List UInt8) (f i : Nat) (hf : f ≤ i) (hi : i ≤ d.length) : ∀ w, (Instr.slice 9 (.string ⟨d.toArray⟩) (some (.int .i64 (f : Int))) (some (.int .i64 (i : Int))) none).run Tryz.prog w = .ok (.string ⟨((d.drop f).take (i - f)).toArray⟩) w := by
  intro w
  have hs : (⟨d.toArray⟩ : ByteArray).size = d.length := by simp [ByteArray.size]
  rw [run_slice_string_if (P := Tryz.prog) (w := w) 9 ⟨d.toArray⟩ .i64 .i64 f i Tryz.underlying9, hs, if_pos (by omega), if_pos (by omega)]
  congr 2
  apply ext_of
  rw [Lib.extract_data]
  simp
theorem str_from (d : List UInt8) (f : Nat) (hf : f ≤ d.length) : ∀ w, (Instr.slice 9 (.string ⟨d.toArray⟩) (some (.int .i64 (f : Int))) none none).run Tryz.prog w = .ok (.string ⟨(d.drop f).toArray⟩) w := by
  intro w
  have hs : (⟨d.toArray⟩ : ByteArray).size = d.length := by simp [ByteArray.size]
  rw [run_slice_string_l (P := Tryz.prog) (w := w) 9 ⟨d.toArray⟩ Tryz.underlying9 .i64 f (by omega) (by rw [hs]; omega), hs]
  congr 2
  apply ext_of
  rw [Lib.extract_data]
  simp only [Int.toNat_natCast]
  exact List.take_of_length_le (by simp)
theorem str_append (a b : List UInt8) : (⟨a.toArray⟩ : ByteArray) ++ ⟨b.toArray⟩ = ⟨(a ++ b).toArray⟩ := by
  apply ByteArray.ext
  simp [ByteArray.data_append]
end Go.Proofs.YtnnhhbjbdmgpiaaGreatDoor
