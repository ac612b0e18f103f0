/- Walks of chapter 1: the program's Show. -/
import Derived.Test.YtjmojbnjhcfdkaaDoorTextR
import Derived.Test.YtjmojbnjhcfdkaaDoorShelf
import Derived.Test.YtjmojbnjhcfdkaaDoorBLay
namespace Go.Proofs.YtjmojbnjhcfdkaaDoor
open Go.RowKit

theorem below_grow (w : World) (k : Nat) (os : Array Obj) : Below w.heap.size w (Sort.grow (w.drewN k) os) :=
  ⟨rfl, rfl, rfl, by simp [Sort.grow, World.drewN], fun i hi => by
    show (w.heap ++ os)[i]? = _
    exact Array.getElem?_append_left hi⟩
def TabP (w : World) : Prop := Lib.TabIs Tryd.prog w "internal/strconv.uint64pow10" .u64 Lib.pow10Tab ∧ 6 < w.heap.size
theorem gP : Tryd.prog.globalNamed "internal/strconv.uint64pow10" = some 6 := by kernel_rfl
theorem TabP.below {w w' : World} (h : TabP w) (hb : Below w.heap.size w w') : TabP w' := ⟨var?_below hb gP h.2 h.1, Nat.lt_of_lt_of_le h.2 hb.size⟩
def TabN (w : World) : Prop := Tab 1 (Cf.nameTab.map fun l => Value.string ⟨l.toArray⟩) w
theorem TabN.below {w w' : World} (h : TabN w) (hb : Below w.heap.size w w') : TabN w' := Tab.below h hb
theorem TabN.at_ {w : World} (h : TabN w) (p : Nat) (hp : p < 16) : w.cell? ⟨1, p, none⟩ = some (.string ⟨(Cf.nameL p).toArray⟩) := by
  refine h.2 p _ ?_
  have hl : p < Cf.nameTab.length := hp
  rw [List.getElem?_map, List.getElem?_eq_getElem hl]
  simp [Cf.nameL, List.getElem?_eq_getElem hl]

theorem cat3' (a b c : List UInt8) : (⟨a.toArray⟩ : ByteArray) ++ ((⟨b.toArray⟩ : ByteArray) ++ ⟨c.toArray⟩) = ⟨(a ++ (b ++ c)).toArray⟩ := by
  rw [str_append, str_append]
theorem itoa_any (n : Int) (h0 : 0 ≤ n) (h1 : n ≤ 65535) (w : World) (ht : TabP w) :
    Calls Tryd.prog 66 #[.int .i64 n] w fun e w' => e = .returned (.string ⟨(Cf.decL n).toArray⟩) ∧ Below w.heap.size w w' := by
  refine (Any.strconv_Itoa laysM171 n (by omega) (by omega) w ht.1).mono ?_
  rintro e w' ⟨rfl, k, os, rfl⟩
  refine ⟨?_, below_grow w k os⟩
  rw [Lib.itoa, if_neg (by omega)]
  rfl
theorem showField_any (k v : Int) (h0 : 0 ≤ v) (h1 : v ≤ 65535) (w : World) (ht : TabP w) :
    Calls Tryd.prog 50 #[.int .i64 k, .int .i64 v] w fun e w' => e = .returned (.string ⟨(Cf.showF k v).toArray⟩) ∧ Below w.heap.size w w' := by
  have hl := Cf.dec_len v (by omega)
  by_cases hk : k = 1
  · subst hk
    have Hs := Lib.hid (show Cf.showF 1 v = [114] ++ Cf.decL v from rfl)
    go_enter Tryd.func50, Tryd.ntmps50
    go_wp2_with (go_at_call 66; refine (itoa_any v h0 h1 _ ht).mono ?_; rintro e w1 ⟨rfl, hb1⟩)
    go_ret
    exact ⟨by rw [Hs.out, ← str_append]; rfl, ‹_›⟩
  · have Hs := Lib.hid (show Cf.showF k v = Cf.decL v by simp [Cf.showF, hk])
    have hk' : (k == 1) = false := by simpa using hk
    clear hk
    go_enter Tryd.func50, Tryd.ntmps50
    go_wp2_with (go_at_call 66; refine (itoa_any v h0 h1 _ ht).mono ?_; rintro e w1 ⟨rfl, hb1⟩)
    go_ret
    exact ⟨by rw [Hs.out]; rfl, ‹_›⟩
theorem index3 (p a b c : Int) (k : Nat) (hk : k < 3) : ∀ w, (Instr.index 83 (.agg #[.int .i64 a, .int .i64 b, .int .i64 c]) (.int .i64 (k : Int))).run Tryd.prog w = .ok (.int .i64 (Cf.fld ⟨p, a, b, c⟩ k)) w := by
  have : k = 0 ∨ k = 1 ∨ k = 2 := by omega
  have i0 : ∀ w, (Instr.index 83 (.agg #[.int .i64 a, .int .i64 b, .int .i64 c]) (.int .i64 0)).run Tryd.prog w = .ok (.int .i64 a) w := fun _ => by kernel_rfl
  have i1 : ∀ w, (Instr.index 83 (.agg #[.int .i64 a, .int .i64 b, .int .i64 c]) (.int .i64 1)).run Tryd.prog w = .ok (.int .i64 b) w := fun _ => by kernel_rfl
  have i2 : ∀ w, (Instr.index 83 (.agg #[.int .i64 a, .int .i64 b, .int .i64 c]) (.int .i64 2)).run Tryd.prog w = .ok (.int .i64 c) w := fun _ => by kernel_rfl
  rcases this with rfl | rfl | rfl
  · exact i0
  · exact i1
  · exact i2
set_option maxHeartbeats 1000000 in
theorem showInstr_any (op a b c : Int) (h1 : 1 ≤ op) (h2 : op ≤ 15) (hfb : ∀ j, j < 3 → Cf.fldB ⟨op, a, b, c⟩ j = true) (w : World) (hN : TabN w) (hF : TabF w) (hP : TabP w) :
    Calls Tryd.prog 32 #[.agg #[.int .i64 op, .int .i64 a, .int .i64 b, .int .i64 c]] w fun e w' => e = .returned (.string ⟨(Cf.showIns ⟨op, a, b, c⟩).toArray⟩) ∧ Below w.heap.size w w' := by
  obtain ⟨p, rfl⟩ := Int.eq_ofNat_of_zero_le (show 0 ≤ op by omega)
  have Hfb := Lib.hid hfb
  clear hfb
  have hn0 := hN.at_ p (by omega)
  have hNb : (w.alloc (.cells #[.int .i64 p, .int .i64 a, .int .i64 b, .int .i64 c] 35)).cell? ⟨1, p, none⟩ = some (.string ⟨(Cf.nameL p).toArray⟩) :=
    (World.cell?_alloc_lt w _ ⟨1, p, none⟩ hN.1).trans hn0
  clear hn0
  go_enter Tryd.func32, Tryd.ntmps32
  go_wp2_with fail
  refine (fields_any _ _ _ _ _).mono ?_
  rintro e w1 ⟨rfl, hb⟩
  have hb0 : Below w.heap.size w w1 := ((Below.refl _ _).alloc (by simp) _).trans (hb.mono (by simp))
  have hc0 := hb.cell (p := ⟨w.heap.size, 0, none⟩) (by simp)
  simp at hc0
  have hz0 : w.heap.size < w1.heap.size := Nat.lt_of_lt_of_le (by simp) hb.size
  clear hb hNb
  go_wp2
  go_loopw [3, 13] (fun o i wr => ∃ k : Nat, k ≤ 3 ∧ i = .int .i64 k ∧ o = .string ⟨(Cf.showUpTo ⟨p, a, b, c⟩ k).toArray⟩ ∧ Below w.heap.size w wr ∧ wr.cell? ⟨w.heap.size, 0, none⟩ = some (.int .i64 p) ∧ w.heap.size < wr.heap.size) (fun _ i _ => 3 - (intOf i).toNat)
  case atStart => exact ⟨0, by omega, rfl, by rw [Cf.showUpTo], hb0, hc0, hz0⟩
  case round =>
    obtain ⟨k, hk, rfl, rfl, hbw, hcb, hzb⟩ := hrel
    clear hb0 hc0 hz0
    by_cases hlt : k < 3
    · have hcf : wr.cell? ⟨0, p * 3 + k, none⟩ = some (.int .i64 (Cf.fmt p k)) := (hF.below hbw).at_ p k (by omega) hlt
      have hix : ∀ w, (Instr.index 83 (.agg #[.int .i64 a, .int .i64 b, .int .i64 c]) (.int .i64 (k : Int))).run Tryd.prog w = .ok (.int .i64 (Cf.fld ⟨p, a, b, c⟩ k)) w := index3 p a b c k hlt
      obtain ⟨hv0, hv1⟩ := Cf.fld_range _ k (Hfb.out k hlt)
      have hlu := Cf.upTo_len ⟨p, a, b, c⟩ k Hfb.out (by omega)
      have Hup := Lib.hid (show Cf.showUpTo ⟨p, a, b, c⟩ (k + 1) = Cf.showUpTo ⟨p, a, b, c⟩ k ++ Cf.showPart (Cf.fmt p k) (Cf.fld ⟨p, a, b, c⟩ k) from rfl)
      by_cases hf : Cf.fmt p k = 0
      · have hp := Lib.hid (show Cf.showPart (Cf.fmt p k) (Cf.fld ⟨p, a, b, c⟩ k) = [] by rw [hf]; rfl)
        have hf' : (Cf.fmt p k != 0) = false := by simp [hf]
        clear hf
        go_wp2
        go_roundw
        case rel => exact ⟨k + 1, by omega, by go_num, by rw [Hup.out, hp.out, List.append_nil], hbw, hcb, hzb⟩
        case measure => simp [intOf]; omega
      · have hp := Lib.hid (show Cf.showPart (Cf.fmt p k) (Cf.fld ⟨p, a, b, c⟩ k) = [32] ++ Cf.showF (Cf.fmt p k) (Cf.fld ⟨p, a, b, c⟩ k) by simp [Cf.showPart, hf])
        have hf' : (Cf.fmt p k != 0) = true := by simp [hf]
        have hlF : (Cf.showF (Cf.fmt p k) (Cf.fld ⟨p, a, b, c⟩ k)).length ≤ 7 := by
          have := Cf.dec_len (Cf.fld ⟨p, a, b, c⟩ k) (by omega)
          unfold Cf.showF; split <;> simp <;> omega
        clear hf
        go_wp2_with fail
        refine (showField_any _ _ hv0 hv1 _ (hP.below hbw)).mono ?_
        rintro e w4 ⟨rfl, hb4⟩
        have hbw4 := hbw.trans (hb4.mono hbw.size)
        have hcb4 := (hb4.cell (p := ⟨w.heap.size, 0, none⟩) hzb).trans hcb
        have hzb4 := Nat.lt_of_lt_of_le hzb hb4.size
        clear hb4 hcf hix hcb
        go_wp2
        go_roundw
        case rel => exact ⟨k + 1, by omega, by go_num, congrArg Value.string ((cat3' _ [32] _).trans (by rw [Hup.out, hp.out])), hbw4, hcb4, hzb4⟩
        case measure => simp [intOf]; omega
    · obtain rfl : k = 3 := by omega
      go_wp2
      go_ret
      exact ⟨rfl, hbw⟩
end Go.Proofs.YtjmojbnjhcfdkaaDoor
