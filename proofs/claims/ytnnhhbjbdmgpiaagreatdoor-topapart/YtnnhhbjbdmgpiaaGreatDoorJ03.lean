/- Texts of the proof of TopApart: RdK, QuietK, CodeW. -/
import Derived.WalkKit
import Derived.WalkSpells
import Derived.WalkLawsBesides
import Derived.Outline
import Derived.Deep.RegionHeld3
import Derived.Deep.QuietTactic
import Derived.BigQuiet
import Derived.RowKit3
import Derived.Lib.Hide
import Derived.Test.YtnnhhbjbdmgpiaaGreatDoorRows
import Derived.Test.YtnnhhbjbdmgpiaaGreatDoorJ00
/- Slices that read as lists; tables. Of any program. -/
namespace Go.Proofs.YtnnhhbjbdmgpiaaGreatDoor
set_option maxRecDepth 100000
open Go.RowKit

/-- A package-level table: block g holds these values. -/
def Tab (g : Nat) (vs : List Value) (w : World) : Prop := g < w.heap.size ∧ ∀ (j : Nat) (v : Value), vs[j]? = some v → w.cell? ⟨g, j, none⟩ = some v
theorem Tab.below {g : Nat} {vs : List Value} {w w' : World} (h : Tab g vs w) (hb : Below w.heap.size w w') : Tab g vs w' :=
  ⟨Nat.lt_of_lt_of_le h.1 hb.size, fun j v hv => (hb.cell (p := ⟨g, j, none⟩) h.1).trans (h.2 j v hv)⟩
def insV (x : Cf.Ins) : Value := .agg #[.int .i64 x.op, .int .i64 x.a, .int .i64 x.b, .int .i64 x.c]
theorem bcell {W w1 : World} (hb : Below W.heap.size W w1) : (∀ b o, b < W.heap.size → w1.cell? ⟨b, o, none⟩ = W.cell? ⟨b, o, none⟩) ∧ (∀ b o, b < W.heap.size → w1.frozen? ⟨b, o, none⟩ = W.frozen? ⟨b, o, none⟩) :=
  ⟨fun b o h => hb.cell (p := ⟨b, o, none⟩) h, fun b o h => hb.frozen (p := ⟨b, o, none⟩) h⟩
/-- A slice that reads as a list: each element is so many cells. -/
def RdS {α : Type} (sz : Nat) (enc : α → List Value) (w : World) (A : Option Addr) (l : List α) : Prop :=
  l = [] ∨ ∃ b off, A = some ⟨b, off, none⟩ ∧ b < w.heap.size ∧ ∀ (k : Nat) (x : α), l[k]? = some x → ∀ (j : Nat) (v : Value), (enc x)[j]? = some v → w.cell? ⟨b, off + k * sz + j, none⟩ = some v
theorem RdS.below {α : Type} {sz : Nat} {enc : α → List Value} {w w' : World} {A : Option Addr} {l : List α} (h : RdS sz enc w A l) (hb : Below w.heap.size w w') : RdS sz enc w' A l := by
  rcases h with h | ⟨b, off, hA, hlt, hc⟩
  · exact .inl h
  · exact .inr ⟨b, off, hA, Nat.lt_of_lt_of_le hlt hb.size, fun k x hx j v hv => (hb.cell (p := ⟨b, off + k * sz + j, none⟩) hlt).trans (hc k x hx j v hv)⟩
def encI (x : Cf.Ins) : List Value := [.int .i64 x.op, .int .i64 x.a, .int .i64 x.b, .int .i64 x.c]
def Codes (w : World) (A : Option Addr) (l : List Cf.Ins) : Prop := RdS 4 encI w A l
theorem Codes.below {w w' : World} {A : Option Addr} {l : List Cf.Ins} (h : Codes w A l) (hb : Below w.heap.size w w') : Codes w' A l := RdS.below h hb
end Go.Proofs.YtnnhhbjbdmgpiaaGreatDoor
/- Quiet calls. Of any program. -/
namespace Go.Proofs.YtnnhhbjbdmgpiaaGreatDoor
set_option maxRecDepth 100000
open Go.RowKit

theorem quietE {P : Program} {f : FuncId} {args : Array Value} {w : World} {n : Nat} {v : Value} (h : Calls P f args (w.drewN n) fun e w' => e = .returned v ∧ w.drewN n = w') : Calls P f args (w.drewN n) fun e w' => e = .returned v ∧ ∃ m, w' = w.drewN m :=
  h.mono fun _ _ ⟨h1, h2⟩ => ⟨h1, n, h2.symm⟩
end Go.Proofs.YtnnhhbjbdmgpiaaGreatDoor
/- Walks of chapter 1: Check. -/
namespace Go.Proofs.YtnnhhbjbdmgpiaaGreatDoor
set_option maxRecDepth 100000
open Go.RowKit

def TabL (w : World) : Prop := Tab 1 (Cf.larTab.map (Value.int .i64)) w
def TabF (w : World) : Prop := Tab 0 (Cf.fmtTab.flatten.map (Value.int .i64)) w
theorem TabL.below {w w' : World} (h : TabL w) (hb : Below w.heap.size w w') : TabL w' := Tab.below h hb
theorem TabF.below {w w' : World} (h : TabF w) (hb : Below w.heap.size w w') : TabF w' := Tab.below h hb
theorem TabL.at_ {w : World} (h : TabL w) (j : Nat) (hj : j < 4) : w.cell? ⟨1, j, none⟩ = some (.int .i64 (Cf.lar j)) := by
  refine h.2 j _ ?_
  have : j = 0 ∨ j = 1 ∨ j = 2 ∨ j = 3 := by omega
  rcases this with rfl | rfl | rfl | rfl <;> rfl
theorem TabF.at_ {w : World} (h : TabF w) (p i : Nat) (hp : p < 16) (hi : i < 3) : w.cell? ⟨0, p * 3 + i, none⟩ = some (.int .i64 (Cf.fmt p i)) := by
  refine h.2 _ _ ?_
  have : p = 0 ∨ p = 1 ∨ p = 2 ∨ p = 3 ∨ p = 4 ∨ p = 5 ∨ p = 6 ∨ p = 7 ∨ p = 8 ∨ p = 9 ∨ p = 10 ∨ p = 11 ∨ p = 12 ∨ p = 13 ∨ p = 14 ∨ p = 15 := by omega
  have hi' : i = 0 ∨ i = 1 ∨ i = 2 := by omega
  rcases this with rfl | rfl | rfl | rfl | rfl | rfl | rfl | rfl | rfl | rfl | rfl | rfl | rfl | rfl | rfl | rfl <;> rcases hi' with rfl | rfl | rfl <;> rfl
theorem fmt_range (p i : Nat) : 0 ≤ Cf.fmt p i ∧ Cf.fmt p i < 4 := by
  by_cases hp : p < 16
  · by_cases hi : i < 3
    · have : p = 0 ∨ p = 1 ∨ p = 2 ∨ p = 3 ∨ p = 4 ∨ p = 5 ∨ p = 6 ∨ p = 7 ∨ p = 8 ∨ p = 9 ∨ p = 10 ∨ p = 11 ∨ p = 12 ∨ p = 13 ∨ p = 14 ∨ p = 15 := by omega
      have hi' : i = 0 ∨ i = 1 ∨ i = 2 := by omega
      rcases this with rfl | rfl | rfl | rfl | rfl | rfl | rfl | rfl | rfl | rfl | rfl | rfl | rfl | rfl | rfl | rfl <;> rcases hi' with rfl | rfl | rfl <;> decide
    · have : ∀ l ∈ Cf.fmtTab, l.length = 3 := by decide
      have h0 : Cf.fmt p i = 0 := by
        unfold Cf.fmt
        have hl : p < Cf.fmtTab.length := hp
        rw [List.getD_eq_getElem?_getD (l := Cf.fmtTab), List.getElem?_eq_getElem hl, Option.getD_some, List.getD_eq_getElem?_getD, List.getElem?_eq_none (by rw [this _ (List.getElem_mem hl)]; omega)]
        rfl
      omega
  · have h0 : Cf.fmt p i = 0 := by
      unfold Cf.fmt
      rw [List.getD_eq_getElem?_getD (l := Cf.fmtTab), List.getElem?_eq_none (by show 16 ≤ p; omega)]
      rfl
    omega

theorem fits_any (k v : Int) (w : World) (hk : 0 ≤ k) (hk' : k < 4) (ht : TabL w) :
    Calls Tryz.prog 166 #[.int .i64 k, .int .i64 v] w fun e w' => e = .returned (.bool (Cf.fitB k v)) ∧ w = w' := by
  obtain ⟨j, rfl⟩ := Int.eq_ofNat_of_zero_le hk
  have hc := ht.at_ j (by omega)
  clear ht
  by_cases h1 : 0 ≤ v <;> by_cases h2 : v ≤ Cf.lar j
  all_goals
    go_enter Tryz.func166, Tryz.ntmps166
    go_wp2
    go_ret
    exact ⟨by simp [Cf.fitB, h1, h2], rfl⟩
theorem fields_any (op a b c : Int) (w : World) :
    Calls Tryz.prog 165 #[.agg #[.int .i64 op, .int .i64 a, .int .i64 b, .int .i64 c]] w fun e w' => e = .returned (.agg #[.int .i64 a, .int .i64 b, .int .i64 c]) ∧ Below w.heap.size w w' := by
  go_enter Tryz.func165, Tryz.ntmps165
  go_wp2
  exact bodyPost_ret (v := .agg #[.int .i64 a, .int .i64 b, .int .i64 c]) (by simp [results, Tryz.results165, go_sem]) rfl ⟨rfl, ((Below.refl _ _).alloc (by simp) _).alloc (by simp) _⟩
theorem chk_any (op a b c : Int) (w : World) (hL : TabL w) (hF : TabF w) :
    Calls Tryz.prog 154 #[.agg #[.int .i64 op, .int .i64 a, .int .i64 b, .int .i64 c]] w fun e w' => e = .returned (.int .i64 (Cf.chk ⟨op, a, b, c⟩)) ∧ Below w.heap.size w w' := by
  by_cases h1 : 1 ≤ op
  · by_cases h2 : op ≤ 15
    · obtain ⟨p, rfl⟩ := Int.eq_ofNat_of_zero_le (show 0 ≤ op by omega)
      go_enter Tryz.func154, Tryz.ntmps154
      go_wp2_with fail
      refine (fields_any _ _ _ _ _).mono ?_
      rintro e w1 ⟨rfl, hb⟩
      have hb0 : Below w.heap.size w w1 := ((Below.refl _ _).alloc (by simp) _).trans (hb.mono (by simp))
      have hL1 := hL.below hb0
      have hF1 := hF.below hb0
      have hc0 := hb.cell (p := ⟨w.heap.size, 0, none⟩) (by simp)
      simp at hc0
      clear hL hF hb
      go_wp2
      go_loop [15] (fun i => ∃ k : Nat, k ≤ 3 ∧ i = .int .i64 k ∧ ∀ j, j < k → Cf.fldB ⟨p, a, b, c⟩ j = true) (fun i => 3 - (intOf i).toNat)
      case atStart => exact ⟨0, by omega, rfl, by intro j hj; omega⟩
      case round =>
        obtain ⟨k, hk, rfl, hall⟩ := hrel
        have Hall := Lib.hid hall
        clear hall
        have h30 : k = 0 ∨ k = 1 ∨ k = 2 ∨ k = 3 := by omega
        rcases h30 with rfl | rfl | rfl | rfl
        · have hcf : w1.cell? ⟨0, p * 3, none⟩ = some (.int .i64 (Cf.fmt p 0)) := hF1.at_ p 0 (by omega) (by omega)
          have hix : ∀ w, (Instr.index 186 (.agg #[.int .i64 a, .int .i64 b, .int .i64 c]) (.int .i64 0)).run Tryz.prog w = .ok (.int .i64 a) w := fun _ => by kernel_rfl
          by_cases hf : Cf.fitB (Cf.fmt p 0) a = true
          · go_wp2_with (go_at_call 166; refine (fits_any _ _ _ (fmt_range _ _).1 (fmt_range _ _).2 hL1).mono ?_; rintro e w' ⟨rfl, rfl⟩)
            go_round
            case rel => exact ⟨0 + 1, by omega, by go_num, fun j hj => by
              rcases Nat.lt_succ_iff_lt_or_eq.1 hj with h | h
              · exact Hall.out j h
              · subst h; exact hf⟩
            case measure => simp [intOf]
          · have hf' : Cf.fitB (Cf.fmt p 0) a = false := by simpa using hf
            clear hf
            have H2 := Lib.hid (show Cf.chk ⟨p, a, b, c⟩ = 2 from Cf.chk_two ⟨p, a, b, c⟩ 0 (by omega) h1 h2 hf')
            go_wp2_with (go_at_call 166; refine (fits_any _ _ _ (fmt_range _ _).1 (fmt_range _ _).2 hL1).mono ?_; rintro e w' ⟨rfl, rfl⟩)
            go_ret
            exact ⟨by rw [H2.out]; rfl, hb0⟩
        · have hcf : w1.cell? ⟨0, p * 3 + 1, none⟩ = some (.int .i64 (Cf.fmt p 1)) := hF1.at_ p 1 (by omega) (by omega)
          have hix : ∀ w, (Instr.index 186 (.agg #[.int .i64 a, .int .i64 b, .int .i64 c]) (.int .i64 1)).run Tryz.prog w = .ok (.int .i64 b) w := fun _ => by kernel_rfl
          by_cases hf : Cf.fitB (Cf.fmt p 1) b = true
          · go_wp2_with (go_at_call 166; refine (fits_any _ _ _ (fmt_range _ _).1 (fmt_range _ _).2 hL1).mono ?_; rintro e w' ⟨rfl, rfl⟩)
            go_round
            case rel => exact ⟨1 + 1, by omega, by go_num, fun j hj => by
              rcases Nat.lt_succ_iff_lt_or_eq.1 hj with h | h
              · exact Hall.out j h
              · subst h; exact hf⟩
            case measure => simp [intOf]
          · have hf' : Cf.fitB (Cf.fmt p 1) b = false := by simpa using hf
            clear hf
            have H2 := Lib.hid (show Cf.chk ⟨p, a, b, c⟩ = 2 from Cf.chk_two ⟨p, a, b, c⟩ 1 (by omega) h1 h2 hf')
            go_wp2_with (go_at_call 166; refine (fits_any _ _ _ (fmt_range _ _).1 (fmt_range _ _).2 hL1).mono ?_; rintro e w' ⟨rfl, rfl⟩)
            go_ret
            exact ⟨by rw [H2.out]; rfl, hb0⟩
        · have hcf : w1.cell? ⟨0, p * 3 + 2, none⟩ = some (.int .i64 (Cf.fmt p 2)) := hF1.at_ p 2 (by omega) (by omega)
          have hix : ∀ w, (Instr.index 186 (.agg #[.int .i64 a, .int .i64 b, .int .i64 c]) (.int .i64 2)).run Tryz.prog w = .ok (.int .i64 c) w := fun _ => by kernel_rfl
          by_cases hf : Cf.fitB (Cf.fmt p 2) c = true
          · go_wp2_with (go_at_call 166; refine (fits_any _ _ _ (fmt_range _ _).1 (fmt_range _ _).2 hL1).mono ?_; rintro e w' ⟨rfl, rfl⟩)
            go_round
            case rel => exact ⟨2 + 1, by omega, by go_num, fun j hj => by
              rcases Nat.lt_succ_iff_lt_or_eq.1 hj with h | h
              · exact Hall.out j h
              · subst h; exact hf⟩
            case measure => simp [intOf]
          · have hf' : Cf.fitB (Cf.fmt p 2) c = false := by simpa using hf
            clear hf
            have H2 := Lib.hid (show Cf.chk ⟨p, a, b, c⟩ = 2 from Cf.chk_two ⟨p, a, b, c⟩ 2 (by omega) h1 h2 hf')
            go_wp2_with (go_at_call 166; refine (fits_any _ _ _ (fmt_range _ _).1 (fmt_range _ _).2 hL1).mono ?_; rintro e w' ⟨rfl, rfl⟩)
            go_ret
            exact ⟨by rw [H2.out]; rfl, hb0⟩
        · have H0 := Lib.hid (show Cf.chk ⟨p, a, b, c⟩ = 0 from Cf.chk_zero ⟨p, a, b, c⟩ h1 h2 Hall.out)
          go_wp2_with fail
          go_ret
          exact ⟨by rw [H0.out]; rfl, hb0⟩
    · have H3 := Lib.hid (show Cf.chk ⟨op, a, b, c⟩ = 3 by simp [Cf.chk, Cf.opB]; omega)
      go_enter Tryz.func154, Tryz.ntmps154
      go_wp2_with fail
      go_ret
      exact ⟨by rw [H3.out]; rfl, (Below.refl _ _).alloc (by simp) _⟩
  · have H3 := Lib.hid (show Cf.chk ⟨op, a, b, c⟩ = 3 by simp [Cf.chk, Cf.opB]; omega)
    go_enter Tryz.func154, Tryz.ntmps154
    go_wp2_with fail
    go_ret
    exact ⟨by rw [H3.out]; rfl, (Below.refl _ _).alloc (by simp) _⟩
set_option maxHeartbeats 400000 in
theorem check_any (l : List Cf.Ins) (A : Option Addr) (cap : Nat) (w : World) (hR : Codes w A l) (hL : TabL w) (hF : TabF w) (hm : l.length ≤ maxLen) :
    Calls Tryz.prog 129 #[.slice A l.length cap] w fun e w' => e = .returned (.int .i64 (Cf.fault l)) ∧ Below w.heap.size w w' := by
  unfold maxLen at hm
  by_cases hlen : 200 < l.length
  · have H1 := Lib.hid (show Cf.fault l = 1 by simp [Cf.fault, hlen])
    go_enter Tryz.func129, Tryz.ntmps129
    go_wp2
    go_ret
    exact ⟨by rw [H1.out]; rfl, Below.refl _ _⟩
  · rcases hR with rfl | ⟨b, off, rfl, hb, hc⟩
    · go_enter Tryz.func129, Tryz.ntmps129
      go_wp2
      refine wp_loop_rounds 1 ?_
      rw [rounds_succ]
      go_wp2
      go_ret
      exact ⟨rfl, Below.refl _ _⟩
    · have Hc := Lib.hid hc
      clear hc
      go_enter Tryz.func129, Tryz.ntmps129
      go_wp2
      go_loopw [11] (fun i wr => ∃ k : Nat, k ≤ l.length ∧ i = .int .i64 k ∧ Cf.faultIn (l.take k) = 0 ∧ Below w.heap.size w wr) (fun i _ => l.length - (intOf i).toNat)
      case atStart => exact ⟨0, by omega, rfl, rfl, Below.refl _ _⟩
      case round =>
        obtain ⟨k, hk, rfl, hz, hbw⟩ := hrel
        have Hz := Lib.hid hz
        clear hz
        by_cases hlt : k < l.length
        · obtain ⟨op, a, b', c', hx⟩ : ∃ op a b' c', l[k]? = some ⟨op, a, b', c'⟩ := ⟨_, _, _, _, List.getElem?_eq_getElem hlt⟩
          have hc0 : wr.cell? ⟨b, off + k * 4, none⟩ = some (.int .i64 op) := (hbw.cell hb).trans (Hc.out k _ hx 0 _ rfl)
          have hc1 : wr.cell? ⟨b, off + k * 4 + 1, none⟩ = some (.int .i64 a) := (hbw.cell hb).trans (Hc.out k _ hx 1 _ rfl)
          have hc2 : wr.cell? ⟨b, off + k * 4 + 2, none⟩ = some (.int .i64 b') := (hbw.cell hb).trans (Hc.out k _ hx 2 _ rfl)
          have hc3 : wr.cell? ⟨b, off + k * 4 + 3, none⟩ = some (.int .i64 c') := (hbw.cell hb).trans (Hc.out k _ hx 3 _ rfl)
          have Hx := Lib.hid hx
          clear hx
          by_cases hq : Cf.chk ⟨op, a, b', c'⟩ = 0
          · have HZ := Lib.hid (show Cf.faultIn (l.take (k + 1)) = 0 by
              rw [List.take_add_one, Hx.out, Cf.faultIn_append, Hz.out]; simp [Cf.faultIn, hq])
            have hq' : (Cf.chk ⟨op, a, b', c'⟩ != 0) = false := by simp [hq]
            clear hq
            go_wp2_with fail
            refine (chk_any op a b' c' _ (hL.below (hbw.alloc hbw.size _)) (hF.below (hbw.alloc hbw.size _))).mono ?_
            rintro e w1 ⟨rfl, hb1⟩
            have hbw1 : Below w.heap.size w w1 := (hbw.alloc hbw.size _).trans (hb1.mono (by have := hbw.size; simp; omega))
            clear hc0 hc1 hc2 hc3 hb1
            go_wp2
            go_roundw
            case rel => exact ⟨k + 1, by omega, by go_num, HZ.out, hbw1⟩
            case measure => simp [intOf]; omega
          · have HZ := Lib.hid (show Cf.fault l = Cf.chk ⟨op, a, b', c'⟩ by
              have hl : l = l.take k ++ ⟨op, a, b', c'⟩ :: l.drop (k + 1) := by
                have hd := List.drop_eq_getElem_cons hlt
                rw [List.getElem?_eq_getElem hlt] at Hx
                have := Option.some.inj Hx.out
                rw [this] at hd
                rw [← hd, List.take_append_drop]
              unfold Cf.fault
              rw [if_neg hlen, hl, Cf.faultIn_append, Hz.out, if_pos rfl, Cf.faultIn, if_neg hq])
            have hq' : (Cf.chk ⟨op, a, b', c'⟩ != 0) = true := by simp [hq]
            clear hq
            go_wp2_with fail
            refine (chk_any op a b' c' _ (hL.below (hbw.alloc hbw.size _)) (hF.below (hbw.alloc hbw.size _))).mono ?_
            rintro e w1 ⟨rfl, hb1⟩
            have hbw1 : Below w.heap.size w w1 := (hbw.alloc hbw.size _).trans (hb1.mono (by have := hbw.size; simp; omega))
            clear hc0 hc1 hc2 hc3 hb1
            go_wp2
            go_ret
            exact ⟨by rw [HZ.out]; rfl, hbw1⟩
        · have HZ := Lib.hid (show Cf.fault l = 0 by
            have : l.take k = l := List.take_of_length_le (by omega)
            unfold Cf.fault
            rw [if_neg hlen, ← this, Hz.out])
          go_wp2
          go_ret
          exact ⟨by rw [HZ.out]; rfl, hbw⟩
end Go.Proofs.YtnnhhbjbdmgpiaaGreatDoor
