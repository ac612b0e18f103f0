/- Walks of chapter 1: the reference's text of code. -/
import Derived.Test.YtjmojbnjhcfdkaaDoorCodeR
import Derived.Test.YtjmojbnjhcfdkaaDoorShowP
import Derived.Laws.IdiomStrings
namespace Go.Proofs.YtjmojbnjhcfdkaaDoor
open Go.RowKit

theorem str_append (a b : List UInt8) : (⟨a.toArray⟩ : ByteArray) ++ ⟨b.toArray⟩ = ⟨(a ++ b).toArray⟩ := by
  apply ByteArray.ext
  simp [ByteArray.data_append]
theorem dec_any : ∀ (m : Nat) (n : Int) (w : World), n.toNat < m → 0 ≤ n → n ≤ 100000 →
    Calls Tryd.prog 36 #[.int .i64 n] w fun e w' => e = .returned (.string ⟨(Cf.decL n).toArray⟩) ∧ Below w.heap.size w w' := by
  intro m
  induction m with
  | zero =>
    intro n w h1
    omega
  | succ m ih =>
    intro n w h1 h2 h3
    have IH := Lib.hid ih
    clear ih
    by_cases h10 : n < 10
    · have Hd := Lib.hid (Cf.dec_small n h2 h10)
      have hw8 : IntKind.u8.wrap (48 + n) = 48 + n := by simp [IntKind.wrap, IntKind.signed, IntKind.bits]; omega
      have hcv : ∀ w : World, (convert 57 9 (.slice (some ⟨w.heap.size, 0, none⟩) 1 1)).run Tryd.prog (w.alloc (.cells #[.int .u8 (48 + n)] 5)) = .ok (.string ⟨(Cf.decL n).toArray⟩) (w.alloc (.cells #[.int .u8 (48 + n)] 5)) := fun w => by
        rw [Hd.out]
        have h := run_convert_bytes_back (P := Tryd.prog) (w.alloc (.cells #[.int .u8 (48 + n)] 5)) 57 9 5 ⟨w.heap.size, 0, none⟩ 1 [UInt8.ofNat (48 + n.toNat)] Tryd.underlying57 Tryd.underlying5 Tryd.underlying9 (fun j hj => by
          have : j = 0 := by simp at hj; omega
          subst this
          simp [Addr.add]
          omega)
        exact h
      clear h1 h3 IH
      go_enter Tryd.func36, Tryd.ntmps36
      go_wp2
      go_ret
      exact ⟨rfl, (Below.refl _ _).alloc (Nat.le_refl _) _⟩
    · have Hd := Lib.hid (Cf.dec_big n (by omega))
      have hl1 := Cf.dec_len (n / 10) (by omega)
      have hl2 := Cf.dec_len (n % 10) (by omega)
      go_enter Tryd.func36, Tryd.ntmps36
      go_wp2_with fail
      refine (IH.out (n / 10) _ (by omega) (by omega) (by omega)).mono ?_
      rintro e w1 ⟨rfl, hb1⟩
      go_wp2_with fail
      refine (IH.out (n % 10) _ (by omega) (by omega) (by omega)).mono ?_
      rintro e w2 ⟨rfl, hb2⟩
      have hb := hb1.trans (hb2.mono hb1.size)
      clear hb1 hb2
      go_wp2
      go_ret
      exact ⟨by rw [Hd.out, ← str_append]; rfl, hb⟩
set_option maxHeartbeats 2000000 in
theorem name_any (op : Int) (h1 : 1 ≤ op) (h2 : op ≤ 15) (w : World) :
    Calls Tryd.prog 35 #[.int .i64 op] w fun e w' => e = .returned (.string ⟨(Cf.nameL op).toArray⟩) ∧ Below w.heap.size w w' := by
  have : op = 1 ∨ op = 2 ∨ op = 3 ∨ op = 4 ∨ op = 5 ∨ op = 6 ∨ op = 7 ∨ op = 8 ∨ op = 9 ∨ op = 10 ∨ op = 11 ∨ op = 12 ∨ op = 13 ∨ op = 14 ∨ op = 15 := by omega
  rcases this with rfl | rfl | rfl | rfl | rfl | rfl | rfl | rfl | rfl | rfl | rfl | rfl | rfl | rfl | rfl
  all_goals
    go_enter Tryd.func35, Tryd.ntmps35
    go_wp2
    go_ret
    exact ⟨rfl, (Below.refl _ _).alloc (Nat.le_refl _) _⟩
end Go.Proofs.YtjmojbnjhcfdkaaDoor
