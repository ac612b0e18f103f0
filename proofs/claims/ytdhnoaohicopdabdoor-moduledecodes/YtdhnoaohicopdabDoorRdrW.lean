/- Walks of chapter 4: the program's reader of bytes. -/
import Derived.Test.YtdhnoaohicopdabDoorBytW
import Derived.Test.YtdhnoaohicopdabDoorStrK
namespace Go.Proofs.YtdhnoaohicopdabDoor
open Go.RowKit

theorem str_upto (d : List UInt8) (i : Nat) (hi : i ≤ d.length) : ∀ w, (Instr.slice 9 (.string ⟨d.toArray⟩) none (some (.int .i64 (i : Int))) none).run Tryd.prog w = .ok (.string ⟨(d.take i).toArray⟩) w := by
  intro w
  have hs : (⟨d.toArray⟩ : ByteArray).size = d.length := by simp [ByteArray.size]
  rw [run_slice_string_h (P := Tryd.prog) (w := w) 9 ⟨d.toArray⟩ Tryd.underlying9 .i64 i (by omega) (by rw [hs]; omega)]
  congr 2
  apply ext_of
  rw [Lib.extract_data]
  simp
theorem bytes_of (s : List UInt8) (w : World) : ∃ cap w', (convert 9 49 (.string ⟨s.toArray⟩)).run Tryd.prog w = .ok (.slice (some ⟨w.heap.size, 0, none⟩) s.length cap) w' ∧ Byts w' (some ⟨w.heap.size, 0, none⟩) s ∧ Below w.heap.size w w' := by
  have hs : (⟨s.toArray⟩ : ByteArray).size = s.length := by simp [ByteArray.size]
  have h := run_bytes_of_string (P := Tryd.prog) w 9 49 5 ⟨s.toArray⟩ Tryd.underlying9 Tryd.underlying49 Tryd.underlying5
  rw [hs] at h
  refine ⟨_, _, h, .inr ⟨w.heap.size, 0, rfl, by simp, fun k b hb j u hu => ?_⟩, (Below.refl _ _).drew.alloc (Nat.le_refl _) _⟩
  cases j with
  | succ j => simp [encB] at hu
  | zero =>
    simp [encB] at hu
    subst hu
    obtain ⟨hk, rfl⟩ := List.getElem?_eq_some_iff.1 hb
    have h1 := World.cell?_alloc_mark w.drew (bytesRow ⟨s.toArray⟩ (grownCap w s.length 0 5)) 5 ((bytesRow ⟨s.toArray⟩ (grownCap w s.length 0 5)).size, (bytesRow ⟨s.toArray⟩ (grownCap w s.length 0 5)).size + 1) k
    rw [bytesRow_at ⟨s.toArray⟩ _ k (by simpa using hk)] at h1
    simpa using h1
/-- A reader as it lies in memory. -/
def RB (w : World) (g : Nat) (r : Cf.Rdr) : Prop := Wb w g 71 [.string ⟨r.rest.toArray⟩, .bool r.short]
theorem grown_set {w w' : World} {b : Nat} (h : w.grownBy w' (some b)) (i : Nat) (v : Value) : w.grownBy (w'.setCell ⟨b, i, none⟩ v) (some b) :=
  ⟨h.1, h.2, h.3, by rw [show (w'.setCell ⟨b, i, none⟩ v).heap.size = w'.heap.size by simp [World.setCell]]; exact h.4, fun k hk hr => (Below.heap_setCell w' ⟨b, i, none⟩ v k (fun e => hr (by rw [e]))).trans (h.5 k hk hr)⟩
theorem grown_below {w w' : World} {row : Option Nat} (h : Below w.heap.size w w') : w.grownBy w' row := ⟨h.1, h.2, h.3, h.4, fun k hk _ => h.5 k hk⟩
theorem grown_trans {a b c : World} {row : Option Nat} (h : a.grownBy b row) (k : b.grownBy c row) : a.grownBy c row :=
  ⟨k.1.trans h.1, k.2.trans h.2, k.3.trans h.3, Nat.le_trans h.4 k.4, fun i hi hr => (k.5 i (Nat.lt_of_lt_of_le hi h.4) hr).trans (h.5 i hi hr)⟩
def TakePost (g n : Nat) (r : Cf.Rdr) (w : World) (e : Ending) (w' : World) : Prop :=
  e = .returned (.string ⟨(Cf.takeR n r).got.toArray⟩) ∧ RB w' g (Cf.takeR n r).rdr ∧ w.grownBy w' (some g)
set_option maxHeartbeats 1000000 in
theorem take_any (g n : Nat) (r : Cf.Rdr) (w : World) (hn : n ≤ 1000000) (hr : RB w g r) (hl : r.rest.length ≤ maxLen) :
    Calls Tryd.prog 59 #[.pointer (some ⟨g, 0, none⟩), .int .i64 n] w (TakePost g n r w) := by
  obtain ⟨rest, short⟩ := r
  unfold maxLen at hl
  dsimp only at hl
  have HR := Lib.hid hr
  have c0 := hr.cell 0
  have f0 := hr.open_ 0
  have f1 := hr.open_ 1
  have c1 := hr.cell 1
  simp only [List.getElem?_cons_zero, List.getElem?_cons_succ] at c0 c1
  clear hr
  have hn0 : (0 : Int) ≤ (n : Int) := by omega
  by_cases hlt : rest.length < n
  · have HT := Lib.hid (show Cf.takeR n ⟨rest, short⟩ = ⟨[], ⟨[], true⟩⟩ by unfold Cf.takeR; rw [if_pos hlt])
    go_enter Tryd.func59, Tryd.ntmps59
    go_wp2
    go_ret
    unfold TakePost
    rw [HT.out]
    exact ⟨rfl, (HR.out.put 0 (.string ⟨#[]⟩)).put 1 (.bool true), grown_set (grown_set (World.grownBy.refl _ _) 0 _) 1 _⟩
  · have HT := Lib.hid (show Cf.takeR n ⟨rest, short⟩ = ⟨rest.take n, ⟨rest.drop n, short⟩⟩ by unfold Cf.takeR; rw [if_neg hlt])
    have s1 := str_upto rest n (by omega)
    have s2 := str_from rest n (by omega)
    go_enter Tryd.func59, Tryd.ntmps59
    go_wp2
    go_ret
    unfold TakePost
    rw [HT.out]
    exact ⟨rfl, HR.out.put 0 (.string ⟨(rest.drop n).toArray⟩), grown_set (World.grownBy.refl _ _) 0 _⟩
def NumPost (g n : Nat) (r : Cf.Rdr) (w : World) (e : Ending) (w' : World) : Prop :=
  e = .returned (.int .i64 ((Cf.numR n r).got : Int)) ∧ RB w' g (Cf.numR n r).rdr ∧ w.grownBy w' (some g)
set_option maxHeartbeats 1000000 in
theorem number_any (g n : Nat) (r : Cf.Rdr) (w : World) (hn : n ≤ 2) (hr : RB w g r) (hl : r.rest.length ≤ maxLen) :
    Calls Tryd.prog 60 #[.pointer (some ⟨g, 0, none⟩), .int .i64 n] w (NumPost g n r w) := by
  have HT := Lib.hid (take_any g n r w (by omega) hr hl)
  have hgl := hr.lt
  have hll := Cf.takeR_len n r
  clear hr hl
  go_enter Tryd.func60, Tryd.ntmps60
  go_wp2_with fail
  refine HT.out.mono ?_
  rintro e w1 ⟨rfl, hr1, hg1⟩
  obtain ⟨cap, w2, hcv, hby, hb2⟩ := bytes_of (Cf.takeR n r).got w1
  have HN := Lib.hid (show Cf.numR n r = ⟨Cf.valB (Cf.takeR n r).got, (Cf.takeR n r).rdr⟩ from rfl)
  have HR := Lib.hid (show RB w2 g (Cf.takeR n r).rdr from hr1.below hb2 hr1.lt)
  have HG := Lib.hid (grown_trans hg1 (grown_below (row := some g) hb2))
  generalize (Cf.takeR n r).got = s at *
  clear hr1 hg1 hb2 HT
  have Hby := Lib.hid hby
  clear hby
  go_wp2
  go_loop [5, 13] (fun v i => ∃ k : Nat, k ≤ s.length ∧ i = .int .i64 k ∧ v = .int .i64 (Cf.valB (s.take k) : Nat)) (fun _ i => s.length - (intOf i).toNat)
  case atStart => exact ⟨0, by omega, rfl, rfl⟩
  case round =>
    obtain ⟨k, hk, rfl, rfl⟩ := hrel
    have hv := Cf.valB_le2 (s.take k) (by rw [List.length_take]; omega)
    by_cases hlt : k < s.length
    · obtain ⟨c, hc⟩ : ∃ c, s[k]? = some c := ⟨_, List.getElem?_eq_getElem hlt⟩
      have HV := Lib.hid (show Cf.valB (s.take (k + 1)) = 256 * Cf.valB (s.take k) + c.toNat by rw [Cf.take_next s k c hc, Cf.valB_snoc])
      rcases Hby.out with h0 | ⟨b, off, hA, hbl, hcl⟩
      · rw [h0] at hlt; simp at hlt
      · obtain ⟨rfl, rfl⟩ : w1.heap.size = b ∧ 0 = off := by simpa using hA
        have hcell := hcl k c hc 0 _ rfl
        simp only [Nat.zero_add, Nat.mul_one, Nat.add_zero] at hcell
        have hc1 := c.toNat_lt
        clear hc hcl hA
        generalize Cf.valB (s.take k) = x at *
        go_wp2
        go_round
        case rel => exact ⟨k + 1, by omega, by go_num, by rw [HV.out]; go_num⟩
        case measure => simp [intOf]; omega
    · have hT : s.take k = s := List.take_of_length_le (by omega)
      rw [hT]
      clear hT
      go_wp2
      go_ret
      unfold NumPost
      rw [HN.out]
      exact ⟨rfl, HR.out, HG.out⟩
end Go.Proofs.YtdhnoaohicopdabDoor
