/- Walks of chapter 4: the program's checksum. -/
import Derived.Test.YtdhnoaohicopdabDoorBytW
import Derived.Test.YtdhnoaohicopdabDoorStrK
namespace Go.Proofs.YtdhnoaohicopdabDoor
open Go.RowKit

theorem bytes_back {w : World} {A : Option Addr} {l : List UInt8} (h : Byts w A l) (hl : l ≠ []) (cap : Nat) : (convert 49 9 (.slice A l.length cap)).run Tryd.prog w = .ok (.string ⟨l.toArray⟩) w := by
  rcases h with h | ⟨b, off, rfl, hb, hc⟩
  · exact absurd h hl
  · refine run_convert_bytes_back w 49 9 5 ⟨b, off, none⟩ cap l Tryd.underlying49 Tryd.underlying5 Tryd.underlying9 (fun j hj => ?_)
    have := hc j l[j] (List.getElem?_eq_getElem hj) 0 _ rfl
    rw [Go.WideShapes.add_plain]
    simpa using this
theorem seal_two (s : List UInt8) : Cf.encW ((Cf.sealY 1 0 s : Nat) : Int) ++ Cf.encW ((Cf.sealX 1 s : Nat) : Int) = Cf.sealL s := rfl
theorem below_own {B : Nat} {w w1 w2 : World} {v : Value} {l : List UInt8} (h : Below B w w1) (hr : BRow w1 B v l) (hg : w1.grownBy w2 v.ownBlock) (hB : B ≤ w1.heap.size) : Below B w w2 :=
  h.grown hg hB (fun k hk => own_blocks hr k hk)
set_option maxHeartbeats 1000000 in
theorem checksum_any (s : List UInt8) (hs : s.length ≤ maxLen) (w : World) :
    Calls Tryd.prog 41 #[.string ⟨s.toArray⟩] w fun e w' => e = .returned (.string ⟨(Cf.sealL s).toArray⟩) ∧ Below w.heap.size w w' := by
  unfold maxLen at hs
  go_enter Tryd.func41, Tryd.ntmps41
  go_wp2
  go_loop [3, 4, 8] (fun x y i => ∃ k : Nat, k ≤ s.length ∧ i = .int .i64 k ∧ x = .int .i64 (Cf.sealX 1 (s.take k) : Nat) ∧ y = .int .i64 (Cf.sealY 1 0 (s.take k) : Nat)) (fun _ _ i => s.length - (intOf i).toNat)
  case atStart => exact ⟨0, by omega, rfl, rfl, rfl⟩
  case round =>
    obtain ⟨k, hk, rfl, rfl, rfl⟩ := hrel
    have hx := Cf.sealX_lt (s.take k)
    have hy := Cf.sealY_lt (s.take k) 1 0 (by omega)
    by_cases hlt : k < s.length
    · obtain ⟨c, hc⟩ : ∃ c, s[k]? = some c := ⟨_, List.getElem?_eq_getElem hlt⟩
      have hix := str_index s k c hc
      have HX := Lib.hid (show Cf.sealX 1 (s.take (k + 1)) = _ by rw [Cf.take_next s k c hc, Cf.sealX_snoc])
      have HY := Lib.hid (show Cf.sealY 1 0 (s.take (k + 1)) = _ by rw [Cf.take_next s k c hc, Cf.sealY_snoc])
      have hc1 := c.toNat_lt
      clear hc
      generalize Cf.sealX 1 (s.take k) = x at *
      generalize Cf.sealY 1 0 (s.take k) = y at *
      go_wp2
      go_round
      case rel => exact ⟨k + 1, by omega, by go_num, by rw [HX.out]; go_num, by rw [HY.out]; go_num⟩
      case measure => simp [intOf]; omega
    · have hT : s.take k = s := List.take_of_length_le (by omega)
      rw [hT] at hx hy ⊢
      clear hT
      have H1 := Lib.hid (appendWord_any (.slice none 0 0) [] (Cf.sealY 1 0 s) (by omega) w w.heap.size (World.ownsRow_nil _ _ _ _) (Nat.le_refl _) (by simp))
      go_wp2_with fail
      refine H1.out.mono ?_
      rintro e w1 ⟨v1, rfl, hr1, hg1⟩
      have hb1 := (Below.refl w.heap.size w).grown hg1 (Nat.le_refl _) (fun k hk => by simp [Value.ownBlock] at hk)
      have H2 := Lib.hid (appendWord_any v1 _ (Cf.sealX 1 s) (by omega) w1 w.heap.size hr1 hb1.size (by simp [Cf.encW]))
      have Hr1 := Lib.hid hr1
      clear hr1 hg1 H1
      go_wp2_with fail
      refine H2.out.mono ?_
      rintro e w2 ⟨v2, rfl, hr2, hg2⟩
      have hb2 := below_own hb1 Hr1.out hg2 hb1.size
      rw [List.nil_append, seal_two] at hr2
      obtain ⟨A, cap, rfl⟩ := hr2.form
      have hcv := bytes_back hr2.byts (by simp [Cf.sealL]) cap
      clear hr2 hg2 H2 Hr1
      go_wp2
      go_ret
      exact ⟨rfl, hb2⟩
end Go.Proofs.YtdhnoaohicopdabDoor
