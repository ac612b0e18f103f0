/- Walks of chapter 4: the reference's SealOf. -/
import Derived.Test.YtdhnoaohicopdabDoorSumW
namespace Go.Proofs.YtdhnoaohicopdabDoor
open Go.RowKit

theorem seal_cells (x y : Nat) (hx : x ≤ 65535) (hy : y ≤ 65535) : [Value.int .u8 ((y : Int) / 256), Value.int .u8 ((y : Int) % 256), Value.int .u8 ((x : Int) / 256), Value.int .u8 ((x : Int) % 256)] = (Cf.encW (y : Int) ++ Cf.encW (x : Int)).flatMap encB := by
  rw [List.flatMap_append, ← word_cells y hy, ← word_cells x hx]
  rfl
set_option maxHeartbeats 1000000 in
theorem sealOf_any (s : List UInt8) (hs : s.length ≤ maxLen) (w : World) :
    Calls Tryd.prog 42 #[.string ⟨s.toArray⟩] w fun e w' => e = .returned (.string ⟨(Cf.sealL s).toArray⟩) ∧ Below w.heap.size w w' := by
  unfold maxLen at hs
  go_enter Tryd.func42, Tryd.ntmps42
  go_wp2
  go_loop [3, 4, 5] (fun x y i => ∃ k : Nat, k ≤ s.length ∧ i = .int .i64 k ∧ x = .int .i64 (Cf.sealX 1 (s.take k) : Nat) ∧ y = .int .i64 (Cf.sealY 1 0 (s.take k) : Nat)) (fun _ _ i => s.length - (intOf i).toNat)
  case atStart => exact ⟨0, by omega, rfl, rfl, rfl⟩
  case round =>
    obtain ⟨k, hk, rfl, rfl, rfl⟩ := hrel
    have hx := Cf.sealX_lt (s.take k)
    have hy := Cf.sealY_lt (s.take k) 1 0 (by omega)
    by_cases hlt : k < s.length
    · obtain ⟨c, hc⟩ : ∃ c, s[k]? = some c := ⟨_, List.getElem?_eq_getElem hlt⟩
      have hix := str_index s k c hc
      have HX := Lib.hid (show Cf.sealX 1 (s.take (k + 1)) = _ by rw [Cf.take_next s k c hc, Cf.sealX_snoc])
      have HY := Lib.hid (show Cf.sealY 1 0 (s.take (k + 1)) = _ by rw [Cf.take_next s k c hc, Cf.sealY_snoc])
      have hc1 := c.toNat_lt
      clear hc
      generalize Cf.sealX 1 (s.take k) = x at *
      generalize Cf.sealY 1 0 (s.take k) = y at *
      go_wp2
      go_round
      case rel => exact ⟨k + 1, by omega, by go_num, by rw [HX.out]; go_num, by rw [HY.out]; go_num⟩
      case measure => simp [intOf]; omega
    · have hT : s.take k = s := List.take_of_length_le (by omega)
      rw [hT] at hx hy ⊢
      clear hT
      have hcv := bytes_back (byts_new w 5 _ _ (seal_cells (Cf.sealX 1 s) (Cf.sealY 1 0 s) (by omega) (by omega))) (by simp [Cf.encW]) 4
      rw [seal_two] at hcv
      change (convert 49 9 (.slice (some ⟨w.heap.size, 0, none⟩) 4 4)).run Tryd.prog _ = _ at hcv
      go_wp2
      go_ret
      exact ⟨rfl, (Below.refl _ _).alloc (Nat.le_refl _) _⟩
end Go.Proofs.YtdhnoaohicopdabDoor
