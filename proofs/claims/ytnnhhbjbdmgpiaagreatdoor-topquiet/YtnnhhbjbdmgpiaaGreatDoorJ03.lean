/- Texts of the proofs: RdK, QuietK, CodeW, FreeK, OwnK, FreshK, SafeW, SafeU. -/
import Derived.WalkKit
import Derived.WalkSpells
import Derived.WalkLawsBesides
import Derived.Outline
import Derived.Deep.RegionHeld3
import Derived.Deep.QuietTactic
import Derived.BigQuiet
import Derived.RowKit3
import Derived.Lib.Hide
import Derived.Test.YtnnhhbjbdmgpiaaGreatDoorRows
import Derived.Test.YtnnhhbjbdmgpiaaGreatDoorJ00
import Derived.Orders
import Derived.WalkSmall
import Derived.Test.YtnnhhbjbdmgpiaaGreatDoorJ02
set_option linter.unusedSimpArgs false
set_option linter.unusedVariables false
/- Slices that read as lists; tables. Of any program. -/
namespace Go.Proofs.YtnnhhbjbdmgpiaaGreatDoor
set_option maxRecDepth 100000
open Go.RowKit
def Tab (g : Nat) (vs : List Value) (w : World) : Prop := g < w.heap.size ∧ ∀ (j : Nat) (v : Value), vs[j]? = some v → w.cell? ⟨g, j, none⟩ = some v
theorem Tab.below {g : Nat} {vs : List Value} {w w' : World} (h : Tab g vs w) (hb : Below w.heap.size w w') : Tab g vs w' :=
 ⟨Nat.lt_of_lt_of_le h.1 hb.size, fun j v hv => (hb.cell (p := ⟨g, j, none⟩) h.1).trans (h.2 j v hv)⟩
def RdS {α : Type} (sz : Nat) (enc : α → List Value) (w : World) (A : Option Addr) (l : List α) : Prop :=
 l = [] ∨ ∃ b off, A = some ⟨b, off, none⟩ ∧ b < w.heap.size ∧ ∀ (k : Nat) (x : α), l[k]? = some x → ∀ (j : Nat) (v : Value), (enc x)[j]? = some v → w.cell? ⟨b, off + k * sz + j, none⟩ = some v
theorem RdS.below {α : Type} {sz : Nat} {enc : α → List Value} {w w' : World} {A : Option Addr} {l : List α} (h : RdS sz enc w A l) (hb : Below w.heap.size w w') : RdS sz enc w' A l := by
 rcases h with h | ⟨b, off, hA, hlt, hc⟩
 ·exact .inl h
 ·exact .inr ⟨b, off, hA, Nat.lt_of_lt_of_le hlt hb.size, fun k x hx j v hv => (hb.cell (p := ⟨b, off + k * sz + j, none⟩) hlt).trans (hc k x hx j v hv)⟩
def encI (x : Cf.Ins) : List Value := [.int .i64 x.op, .int .i64 x.a, .int .i64 x.b, .int .i64 x.c]
def Codes (w : World) (A : Option Addr) (l : List Cf.Ins) : Prop := RdS 4 encI w A l
theorem Codes.below {w w' : World} {A : Option Addr} {l : List Cf.Ins} (h : Codes w A l) (hb : Below w.heap.size w w') : Codes w' A l := RdS.below h hb
end Go.Proofs.YtnnhhbjbdmgpiaaGreatDoor
/- Quiet calls. Of any program. -/
namespace Go.Proofs.YtnnhhbjbdmgpiaaGreatDoor
set_option maxRecDepth 100000
open Go.RowKit
theorem quietE {P : Program} {f : FuncId} {args : Array Value} {w : World} {n : Nat} {v : Value} (h : Calls P f args (w.drewN n) fun e w' => e = .returned v ∧ w.drewN n = w') : Calls P f args (w.drewN n) fun e w' => e = .returned v ∧ ∃ m, w' = w.drewN m :=
 h.mono fun _ _ ⟨h1, h2⟩ => ⟨h1, n, h2.symm⟩
end Go.Proofs.YtnnhhbjbdmgpiaaGreatDoor
/- Walks of chapter 1: Check. -/
namespace Go.Proofs.YtnnhhbjbdmgpiaaGreatDoor
set_option maxRecDepth 100000
open Go.RowKit
def TabL (w : World) : Prop := Tab 1 (Cf.larTab.map (Value.int .i64)) w
def TabF (w : World) : Prop := Tab 0 (Cf.fmtTab.flatten.map (Value.int .i64)) w
theorem TabL.below {w w' : World} (h : TabL w) (hb : Below w.heap.size w w') : TabL w' := Tab.below h hb
theorem TabF.below {w w' : World} (h : TabF w) (hb : Below w.heap.size w w') : TabF w' := Tab.below h hb
theorem TabL.at_ {w : World} (h : TabL w) (j : Nat) (hj : j < 4) : w.cell? ⟨1, j, none⟩ = some (.int .i64 (Cf.lar j)) := by
 refine h.2 j _ ?_
 have : j = 0 ∨ j = 1 ∨ j = 2 ∨ j = 3 := by omega
 rcases this with rfl | rfl | rfl | rfl <;> rfl
theorem TabF.at_ {w : World} (h : TabF w) (p i : Nat) (hp : p < 16) (hi : i < 3) : w.cell? ⟨0, p * 3 + i, none⟩ = some (.int .i64 (Cf.fmt p i)) := by
 refine h.2 _ _ ?_
 have : p = 0 ∨ p = 1 ∨ p = 2 ∨ p = 3 ∨ p = 4 ∨ p = 5 ∨ p = 6 ∨ p = 7 ∨ p = 8 ∨ p = 9 ∨ p = 10 ∨ p = 11 ∨ p = 12 ∨ p = 13 ∨ p = 14 ∨ p = 15 := by omega
 have hi' : i = 0 ∨ i = 1 ∨ i = 2 := by omega
 rcases this with rfl | rfl | rfl | rfl | rfl | rfl | rfl | rfl | rfl | rfl | rfl | rfl | rfl | rfl | rfl | rfl <;> rcases hi' with rfl | rfl | rfl <;> rfl
theorem fmt_range (p i : Nat) : 0 ≤ Cf.fmt p i ∧ Cf.fmt p i < 4 := by
 by_cases hp : p < 16
 ·by_cases hi : i < 3
  ·have : p = 0 ∨ p = 1 ∨ p = 2 ∨ p = 3 ∨ p = 4 ∨ p = 5 ∨ p = 6 ∨ p = 7 ∨ p = 8 ∨ p = 9 ∨ p = 10 ∨ p = 11 ∨ p = 12 ∨ p = 13 ∨ p = 14 ∨ p = 15 := by omega
   have hi' : i = 0 ∨ i = 1 ∨ i = 2 := by omega
   rcases this with rfl | rfl | rfl | rfl | rfl | rfl | rfl | rfl | rfl | rfl | rfl | rfl | rfl | rfl | rfl | rfl <;> rcases hi' with rfl | rfl | rfl <;> decide
  ·have : ∀ l ∈ Cf.fmtTab, l.length = 3 := by decide
   have h0 : Cf.fmt p i = 0 := by
    unfold Cf.fmt
    have hl : p < Cf.fmtTab.length := hp
    rw [List.getD_eq_getElem?_getD (l := Cf.fmtTab), List.getElem?_eq_getElem hl, Option.getD_some, List.getD_eq_getElem?_getD, List.getElem?_eq_none (by rw [this _ (List.getElem_mem hl)]; omega)]
    rfl
   omega
 ·have h0 : Cf.fmt p i = 0 := by
   unfold Cf.fmt
   rw [List.getD_eq_getElem?_getD (l := Cf.fmtTab), List.getElem?_eq_none (by show 16 ≤ p; omega)]
   rfl
  omega
theorem fits_any (k v : Int) (w : World) (hk : 0 ≤ k) (hk' : k < 4) (ht : TabL w) :
  Calls Tryz.prog 166 #[.int .i64 k, .int .i64 v] w fun e w' => e = .returned (.bool (Cf.fitB k v)) ∧ w = w' := by
 obtain ⟨j, rfl⟩ := Int.eq_ofNat_of_zero_le hk
 have hc := ht.at_ j (by omega)
 clear ht
 by_cases h1 : 0 ≤ v <;> by_cases h2 : v ≤ Cf.lar j
 all_goals
  go_enter Tryz.func166, Tryz.ntmps166
  go_wp2
  go_ret
  exact ⟨by simp [Cf.fitB, h1, h2], rfl⟩
theorem fields_any (op a b c : Int) (w : World) :
  Calls Tryz.prog 165 #[.agg #[.int .i64 op, .int .i64 a, .int .i64 b, .int .i64 c]] w fun e w' => e = .returned (.agg #[.int .i64 a, .int .i64 b, .int .i64 c]) ∧ Below w.heap.size w w' := by
 go_enter Tryz.func165, Tryz.ntmps165
 go_wp2
 exact bodyPost_ret (v := .agg #[.int .i64 a, .int .i64 b, .int .i64 c]) (by simp [results, Tryz.results165, go_sem]) rfl ⟨rfl, ((Below.refl _ _).alloc (by simp) _).alloc (by simp) _⟩
theorem chk_any (op a b c : Int) (w : World) (hL : TabL w) (hF : TabF w) :
  Calls Tryz.prog 154 #[.agg #[.int .i64 op, .int .i64 a, .int .i64 b, .int .i64 c]] w fun e w' => e = .returned (.int .i64 (Cf.chk ⟨op, a, b, c⟩)) ∧ Below w.heap.size w w' := by
 by_cases h1 : 1 ≤ op
 ·by_cases h2 : op ≤ 15
  ·obtain ⟨p, rfl⟩ := Int.eq_ofNat_of_zero_le (show 0 ≤ op by omega)
   go_enter Tryz.func154, Tryz.ntmps154
   go_wp2_with fail
   refine (fields_any _ _ _ _ _).mono ?_
   rintro e w1 ⟨rfl, hb⟩
   have hb0 : Below w.heap.size w w1 := ((Below.refl _ _).alloc (by simp) _).trans (hb.mono (by simp))
   have hL1 := hL.below hb0
   have hF1 := hF.below hb0
   have hc0 := hb.cell (p := ⟨w.heap.size, 0, none⟩) (by simp)
   simp at hc0
   clear hL hF hb
   go_wp2
   go_loop [15] (fun i => ∃ k : Nat, k ≤ 3 ∧ i = .int .i64 k ∧ ∀ j, j < k → Cf.fldB ⟨p, a, b, c⟩ j = true) (fun i => 3 - (intOf i).toNat)
   case atStart => exact ⟨0, by omega, rfl, by intro j hj; omega⟩
   case round =>
    obtain ⟨k, hk, rfl, hall⟩ := hrel
    have Hall := Lib.hid hall
    clear hall
    have h30 : k = 0 ∨ k = 1 ∨ k = 2 ∨ k = 3 := by omega
    rcases h30 with rfl | rfl | rfl | rfl
    ·have hcf : w1.cell? ⟨0, p * 3, none⟩ = some (.int .i64 (Cf.fmt p 0)) := hF1.at_ p 0 (by omega) (by omega)
     have hix : ∀ w, (Instr.index 186 (.agg #[.int .i64 a, .int .i64 b, .int .i64 c]) (.int .i64 0)).run Tryz.prog w = .ok (.int .i64 a) w := fun _ => by kernel_rfl
     by_cases hf : Cf.fitB (Cf.fmt p 0) a = true
     ·go_wp2_with (go_at_call 166; refine (fits_any _ _ _ (fmt_range _ _).1 (fmt_range _ _).2 hL1).mono ?_; rintro e w' ⟨rfl, rfl⟩)
      go_round
      case rel => exact ⟨0 + 1, by omega, by go_num, fun j hj => by
       rcases Nat.lt_succ_iff_lt_or_eq.1 hj with h | h
       ·exact Hall.out j h
       ·subst h; exact hf⟩
      case measure => simp [intOf]
     ·have hf' : Cf.fitB (Cf.fmt p 0) a = false := by simpa using hf
      clear hf
      have H2 := Lib.hid (show Cf.chk ⟨p, a, b, c⟩ = 2 from Cf.chk_two ⟨p, a, b, c⟩ 0 (by omega) h1 h2 hf')
      go_wp2_with (go_at_call 166; refine (fits_any _ _ _ (fmt_range _ _).1 (fmt_range _ _).2 hL1).mono ?_; rintro e w' ⟨rfl, rfl⟩)
      go_ret
      exact ⟨by rw [H2.out]; rfl, hb0⟩
    ·have hcf : w1.cell? ⟨0, p * 3 + 1, none⟩ = some (.int .i64 (Cf.fmt p 1)) := hF1.at_ p 1 (by omega) (by omega)
     have hix : ∀ w, (Instr.index 186 (.agg #[.int .i64 a, .int .i64 b, .int .i64 c]) (.int .i64 1)).run Tryz.prog w = .ok (.int .i64 b) w := fun _ => by kernel_rfl
     by_cases hf : Cf.fitB (Cf.fmt p 1) b = true
     ·go_wp2_with (go_at_call 166; refine (fits_any _ _ _ (fmt_range _ _).1 (fmt_range _ _).2 hL1).mono ?_; rintro e w' ⟨rfl, rfl⟩)
      go_round
      case rel => exact ⟨1 + 1, by omega, by go_num, fun j hj => by
       rcases Nat.lt_succ_iff_lt_or_eq.1 hj with h | h
       ·exact Hall.out j h
       ·subst h; exact hf⟩
      case measure => simp [intOf]
     ·have hf' : Cf.fitB (Cf.fmt p 1) b = false := by simpa using hf
      clear hf
      have H2 := Lib.hid (show Cf.chk ⟨p, a, b, c⟩ = 2 from Cf.chk_two ⟨p, a, b, c⟩ 1 (by omega) h1 h2 hf')
      go_wp2_with (go_at_call 166; refine (fits_any _ _ _ (fmt_range _ _).1 (fmt_range _ _).2 hL1).mono ?_; rintro e w' ⟨rfl, rfl⟩)
      go_ret
      exact ⟨by rw [H2.out]; rfl, hb0⟩
    ·have hcf : w1.cell? ⟨0, p * 3 + 2, none⟩ = some (.int .i64 (Cf.fmt p 2)) := hF1.at_ p 2 (by omega) (by omega)
     have hix : ∀ w, (Instr.index 186 (.agg #[.int .i64 a, .int .i64 b, .int .i64 c]) (.int .i64 2)).run Tryz.prog w = .ok (.int .i64 c) w := fun _ => by kernel_rfl
     by_cases hf : Cf.fitB (Cf.fmt p 2) c = true
     ·go_wp2_with (go_at_call 166; refine (fits_any _ _ _ (fmt_range _ _).1 (fmt_range _ _).2 hL1).mono ?_; rintro e w' ⟨rfl, rfl⟩)
      go_round
      case rel => exact ⟨2 + 1, by omega, by go_num, fun j hj => by
       rcases Nat.lt_succ_iff_lt_or_eq.1 hj with h | h
       ·exact Hall.out j h
       ·subst h; exact hf⟩
      case measure => simp [intOf]
     ·have hf' : Cf.fitB (Cf.fmt p 2) c = false := by simpa using hf
      clear hf
      have H2 := Lib.hid (show Cf.chk ⟨p, a, b, c⟩ = 2 from Cf.chk_two ⟨p, a, b, c⟩ 2 (by omega) h1 h2 hf')
      go_wp2_with (go_at_call 166; refine (fits_any _ _ _ (fmt_range _ _).1 (fmt_range _ _).2 hL1).mono ?_; rintro e w' ⟨rfl, rfl⟩)
      go_ret
      exact ⟨by rw [H2.out]; rfl, hb0⟩
    ·have H0 := Lib.hid (show Cf.chk ⟨p, a, b, c⟩ = 0 from Cf.chk_zero ⟨p, a, b, c⟩ h1 h2 Hall.out)
     go_wp2_with fail
     go_ret
     exact ⟨by rw [H0.out]; rfl, hb0⟩
  ·have H3 := Lib.hid (show Cf.chk ⟨op, a, b, c⟩ = 3 by simp [Cf.chk, Cf.opB]; omega)
   go_enter Tryz.func154, Tryz.ntmps154
   go_wp2_with fail
   go_ret
   exact ⟨by rw [H3.out]; rfl, (Below.refl _ _).alloc (by simp) _⟩
 ·have H3 := Lib.hid (show Cf.chk ⟨op, a, b, c⟩ = 3 by simp [Cf.chk, Cf.opB]; omega)
  go_enter Tryz.func154, Tryz.ntmps154
  go_wp2_with fail
  go_ret
  exact ⟨by rw [H3.out]; rfl, (Below.refl _ _).alloc (by simp) _⟩
set_option maxHeartbeats 400000 in
theorem check_any (l : List Cf.Ins) (A : Option Addr) (cap : Nat) (w : World) (hR : Codes w A l) (hL : TabL w) (hF : TabF w) (hm : l.length ≤ maxLen) :
  Calls Tryz.prog 129 #[.slice A l.length cap] w fun e w' => e = .returned (.int .i64 (Cf.fault l)) ∧ Below w.heap.size w w' := by
 unfold maxLen at hm
 by_cases hlen : 200 < l.length
 ·have H1 := Lib.hid (show Cf.fault l = 1 by simp [Cf.fault, hlen])
  go_enter Tryz.func129, Tryz.ntmps129
  go_wp2
  go_ret
  exact ⟨by rw [H1.out]; rfl, Below.refl _ _⟩
 ·rcases hR with rfl | ⟨b, off, rfl, hb, hc⟩
  ·go_enter Tryz.func129, Tryz.ntmps129
   go_wp2
   refine wp_loop_rounds 1 ?_
   rw [rounds_succ]
   go_wp2
   go_ret
   exact ⟨rfl, Below.refl _ _⟩
  ·have Hc := Lib.hid hc
   clear hc
   go_enter Tryz.func129, Tryz.ntmps129
   go_wp2
   go_loopw [11] (fun i wr => ∃ k : Nat, k ≤ l.length ∧ i = .int .i64 k ∧ Cf.faultIn (l.take k) = 0 ∧ Below w.heap.size w wr) (fun i _ => l.length - (intOf i).toNat)
   case atStart => exact ⟨0, by omega, rfl, rfl, Below.refl _ _⟩
   case round =>
    obtain ⟨k, hk, rfl, hz, hbw⟩ := hrel
    have Hz := Lib.hid hz
    clear hz
    by_cases hlt : k < l.length
    ·obtain ⟨op, a, b', c', hx⟩ : ∃ op a b' c', l[k]? = some ⟨op, a, b', c'⟩ := ⟨_, _, _, _, List.getElem?_eq_getElem hlt⟩
     have hc0 : wr.cell? ⟨b, off + k * 4, none⟩ = some (.int .i64 op) := (hbw.cell hb).trans (Hc.out k _ hx 0 _ rfl)
     have hc1 : wr.cell? ⟨b, off + k * 4 + 1, none⟩ = some (.int .i64 a) := (hbw.cell hb).trans (Hc.out k _ hx 1 _ rfl)
     have hc2 : wr.cell? ⟨b, off + k * 4 + 2, none⟩ = some (.int .i64 b') := (hbw.cell hb).trans (Hc.out k _ hx 2 _ rfl)
     have hc3 : wr.cell? ⟨b, off + k * 4 + 3, none⟩ = some (.int .i64 c') := (hbw.cell hb).trans (Hc.out k _ hx 3 _ rfl)
     have Hx := Lib.hid hx
     clear hx
     by_cases hq : Cf.chk ⟨op, a, b', c'⟩ = 0
     ·have HZ := Lib.hid (show Cf.faultIn (l.take (k + 1)) = 0 by
       rw [List.take_add_one, Hx.out, Cf.faultIn_append, Hz.out]; simp [Cf.faultIn, hq])
      have hq' : (Cf.chk ⟨op, a, b', c'⟩ != 0) = false := by simp [hq]
      clear hq
      go_wp2_with fail
      refine (chk_any op a b' c' _ (hL.below (hbw.alloc hbw.size _)) (hF.below (hbw.alloc hbw.size _))).mono ?_
      rintro e w1 ⟨rfl, hb1⟩
      have hbw1 : Below w.heap.size w w1 := (hbw.alloc hbw.size _).trans (hb1.mono (by have := hbw.size; simp; omega))
      clear hc0 hc1 hc2 hc3 hb1
      go_wp2
      go_roundw
      case rel => exact ⟨k + 1, by omega, by go_num, HZ.out, hbw1⟩
      case measure => simp [intOf]; omega
     ·have HZ := Lib.hid (show Cf.fault l = Cf.chk ⟨op, a, b', c'⟩ by
       have hl : l = l.take k ++ ⟨op, a, b', c'⟩ :: l.drop (k + 1) := by
        have hd := List.drop_eq_getElem_cons hlt
        rw [List.getElem?_eq_getElem hlt] at Hx
        have := Option.some.inj Hx.out
        rw [this] at hd
        rw [← hd, List.take_append_drop]
       unfold Cf.fault
       rw [if_neg hlen, hl, Cf.faultIn_append, Hz.out, if_pos rfl, Cf.faultIn, if_neg hq])
      have hq' : (Cf.chk ⟨op, a, b', c'⟩ != 0) = true := by simp [hq]
      clear hq
      go_wp2_with fail
      refine (chk_any op a b' c' _ (hL.below (hbw.alloc hbw.size _)) (hF.below (hbw.alloc hbw.size _))).mono ?_
      rintro e w1 ⟨rfl, hb1⟩
      have hbw1 : Below w.heap.size w w1 := (hbw.alloc hbw.size _).trans (hb1.mono (by have := hbw.size; simp; omega))
      clear hc0 hc1 hc2 hc3 hb1
      go_wp2
      go_ret
      exact ⟨by rw [HZ.out]; rfl, hbw1⟩
    ·have HZ := Lib.hid (show Cf.fault l = 0 by
      have : l.take k = l := List.take_of_length_le (by omega)
      unfold Cf.fault
      rw [if_neg hlen, ← this, Hz.out])
     go_wp2
     go_ret
     exact ⟨by rw [HZ.out]; rfl, hbw⟩
end Go.Proofs.YtnnhhbjbdmgpiaaGreatDoor
/- A region that draws its order, walked once whatever the order: each operation says what it leaves and keeps what the others left. Of any program. -/
namespace Go.Proofs.YtnnhhbjbdmgpiaaGreatDoor
set_option maxRecDepth 100000
open Go.RowKit
def fillL (ds : List Nat) (u : Nat → Value) : Nat → List Value → List Value
 | _, [] => []
 | k, x :: r => (bif ds.contains k then u k else x) :: fillL ds u (k + 1) r
def upd (u : Nat → Value) (d : Nat) (v : Value) : Nat → Value := fun k => if k = d then v else u k
def updO (u : Nat → Value) (o : Oper) (v : Value) : Nat → Value := match o.dst with
 | some d => upd u d v
 | none => u
theorem fill_same (ds : List Nat) (l0 : List Value) : ∀ (l : List Value) (k : Nat), (∀ j x, l[j]? = some x → l0[k + j]? = some x) → fillL ds (fun d => (l0[d]?).getD undef) k l = l
 | [], _, _ => rfl
 | x :: r, k, h => by
   have h0 := h 0 x rfl
   rw [Nat.add_zero] at h0
   rw [fillL, fill_same ds l0 r (k + 1) (fun j y hy => by have := h (j + 1) y (by simpa using hy); rwa [show k + (j + 1) = k + 1 + j by omega] at this)]
   simp only [h0, Option.getD_some]
   cases ds.contains k <;> rfl
theorem fill_high (ds : List Nat) (u : Nat → Value) (d : Nat) (v : Value) : ∀ (l : List Value) (k : Nat), d < k → fillL ds (upd u d v) k l = fillL ds u k l
 | [], _, _ => rfl
 | x :: r, k, h => by
   rw [fillL, fillL, fill_high ds u d v r (k + 1) (by omega)]
   simp only [upd, show k ≠ d by omega, if_false]
theorem fill_put (ds : List Nat) (u : Nat → Value) (d : Nat) (v : Value) : ∀ (l : List Value) (k : Nat), ds.contains (k + d) = true → (fillL ds u k l).set d v = fillL ds (upd u (k + d) v) k l
 | [], _, _ => rfl
 | x :: r, k, h => by
   cases d with
   | zero =>
     rw [Nat.add_zero] at h ⊢
     rw [fillL, fillL, List.set_cons_zero, fill_high ds u k v r (k + 1) (by omega), h]
     simp [upd]
   | succ d =>
     rw [fillL, fillL, List.set_cons_succ, fill_put ds u d v r (k + 1) (by rwa [show k + 1 + d = k + (d + 1) by omega])]
     rw [show k + 1 + d = k + (d + 1) by omega]
     simp only [upd, show k ≠ k + (d + 1) by omega, if_false]
def dstApart (x y : Option Nat) : Bool := match x, y with
 | some a, some b => a != b
 | _, _ => true
def freeOk (ops : Array Oper) (ds : List Nat) : Bool :=
 (List.range ops.size).all fun i => match ops[i]? with
   | none => true
   | some o => o.guard.isNone && (o.after.all (fun e => decide (e.on < i)) && ((match o.dst with | some d => ds.contains d | none => true) &&
     (List.range ops.size).all fun j => match ops[j]? with
       | none => true
       | some q => i == j || dstApart o.dst q.dst))
theorem freeOk_at {ops : Array Oper} {ds : List Nat} (h : freeOk ops ds = true) {i : Nat} {o : Oper} (hi : ops[i]? = some o) :
  o.guard = none ∧ (∀ e ∈ o.after, e.on < i) ∧ (∀ d, o.dst = some d → ds.contains d = true) ∧ ∀ (j : Nat) (q : Oper) (d : Nat), ops[j]? = some q → i ≠ j → o.dst = some d → q.dst ≠ some d := by
 have hlt : i < ops.size := (Array.getElem?_eq_some_iff.1 hi).1
 have h1 := List.all_eq_true.1 h i (List.mem_range.2 hlt)
 rw [hi] at h1
 simp only [Bool.and_eq_true, Array.all_eq_true_iff_forall_mem, decide_eq_true_eq] at h1
 obtain ⟨h1, h2, h3, h4⟩ := h1
 refine ⟨by simpa using h1, h2, fun d hd => by rw [hd] at h3; exact h3, fun j q d hq hij hd hqd => ?_⟩
 have h5 := List.all_eq_true.1 h4 j (List.mem_range.2 (Array.getElem?_eq_some_iff.1 hq).1)
 rw [hq] at h5
 simp only [hd, hqd] at h5
 simp [dstApart, hij] at h5
section
variable {P : Program} {ops : Array Oper} {Q : Exit → Act → World → Prop} {ds : List Nat} {l0 : List Value} {df : List Deferred} {J : World → Prop} {V : Nat → (Nat → Value) → World → Prop}
def needs (o : Oper) (j : Nat) : Bool := o.after.any fun e => e.on == j && Region.binds .any e
def FreeStep (P : Program) (ops : Array Oper) (Q : Exit → Act → World → Prop) (ds : List Nat) (l0 : List Value) (df : List Deferred) (J : World → Prop) (V : Nat → (Nat → Value) → World → Prop) (i : Nat) : Prop :=
 ∀ (o : Oper) (u : Nat → Value) (w : World), ops[i]? = some o → J w → (∀ (j : Nat), needs o j = true → V j u w) →
   ∀ K : Act → World → Prop, (∀ (v : Value) (w' : World), V i (updO u o v) w' → J w' → (∀ (j : Nat) (q : Oper), ops[j]? = some q → j ≠ i → needs q i = false → V j u w → V j (updO u o v) w') → K (Act.put ⟨(fillL ds u 0 l0).toArray, df⟩ o.dst v) w') → Oper.wp P o ⟨(fillL ds u 0 l0).toArray, df⟩ w K Q
theorem free_any (hok : freeOk ops ds = true) (hstep : ∀ i, i < ops.size → FreeStep P ops Q ds l0 df J V i)
  (hend : ∀ (u : Nat → Value) (w : World), J w → (∀ i, i < ops.size → V i u w) → Q .normal ⟨(fillL ds u 0 l0).toArray, df⟩ w) :
  ∀ (fuel : Nat) (R : List Nat) (listed : Array Bool) (u : Nat → Value) (w : World), listed.size = ops.size → R.length ≤ fuel → (∀ i, i < ops.size → listed.getD i false = false → i ∈ R) → J w →
    (∀ (i : Nat) (o : Oper), ops[i]? = some o → listed.getD i false = true → V i u w ∧ ∀ j, needs o j = true → listed.getD j false = true) → wpAny P .any ops Q fuel listed ⟨(fillL ds u 0 l0).toArray, df⟩ w := by
 have hall : ∀ (listed : Array Bool), listed.size = ops.size → Region.ready .any ops listed = [] → ∀ i, i < ops.size → listed.getD i false = true := by
  intro listed hs hr i
  induction i using Nat.strongRecOn with
  | ind i ih =>
    intro hi
    cases hg : listed.getD i false with
    | true => rfl
    | false =>
      exfalso
      have ho : ops[i]? = some ops[i] := Array.getElem?_eq_getElem hi
      obtain ⟨_, hb, _⟩ := freeOk_at hok ho
      have : i ∈ Region.ready .any ops listed := by
       rw [mem_ready]
       refine ⟨?_, ops[i], ho, fun e he _ => ih e.on (hb e he) (by have := hb e he; omega)⟩
       have hl : i < listed.size := by omega
       simpa [hl] using hg
      rw [hr] at this
      cases this
 intro fuel
 induction fuel with
 | zero =>
   intro R listed u w hs hR hun hJ hV
   obtain rfl : R = [] := List.eq_nil_of_length_eq_zero (by omega)
   have hl : ∀ i, i < ops.size → listed.getD i false = true := fun i hi => by
    cases hg : listed.getD i false with
    | true => rfl
    | false => exact absurd (hun i hi hg) (by simp)
   refine ⟨?_, hend u w hJ fun i hi => (hV i ops[i] (Array.getElem?_eq_getElem hi) (hl i hi)).1⟩
   apply List.eq_nil_iff_forall_not_mem.2
   intro i hi
   obtain ⟨h0, o, ho, _⟩ := mem_ready.1 hi
   have hlt := (Array.getElem?_eq_some_iff.1 ho).1
   have h1 := hl i hlt
   have h2 : i < listed.size := by omega
   simp [h2] at h0 h1
   rw [h0] at h1
   cases h1
 | succ fuel ih =>
   intro R listed u w hs hR hun hJ hV
   refine ⟨fun hr => hend u w hJ fun i hi => (hV i ops[i] (Array.getElem?_eq_getElem hi) (hall listed hs hr i hi)).1, fun i hi => ?_⟩
   obtain ⟨h0, o, ho, hdep⟩ := mem_ready.1 hi
   have hlt := (Array.getElem?_eq_some_iff.1 ho).1
   have hl : i < listed.size := by omega
   obtain ⟨hgd, hbk, hds, hap⟩ := freeOk_at hok ho
   have hdep' : ∀ j, needs o j = true → listed.getD j false = true := by
    intro j hdj
    unfold needs at hdj
    rw [← Array.any_toList, List.any_eq_true] at hdj
    obtain ⟨e, he, hej⟩ := hdj
    rw [Array.mem_toList_iff] at he
    simp only [Bool.and_eq_true, beq_iff_eq] at hej
    rw [← hej.1]
    exact hdep e he hej.2
   have hun0 : listed.getD i false = false := by
    simp [hl] at h0
    simp [hl, h0]
   unfold wpOp
   rw [ho]
   simp only
   rw [if_pos (by simp [Region.wanted, hgd])]
   refine .inl (hstep i hlt o u w ho hJ (fun j hdj => ?_) _ fun v w' hv hJ' hkeep => ?_)
   ·have hlj := hdep' j hdj
    have hjs : j < ops.size := by
     rcases Nat.lt_or_ge j ops.size with h | h
     ·exact h
     ·simp [Array.getElem?_eq_none (show listed.size ≤ j by omega)] at hlj
    exact (hV j ops[j] (Array.getElem?_eq_getElem hjs) hlj).1
   ·have hinR : i ∈ R := hun i hlt hun0
    have hRl : (R.erase i).length ≤ fuel := by
     rw [List.length_erase_of_mem hinR]
     omega
    have hun' : ∀ j, j < ops.size → (listed.setIfInBounds i true).getD j false = false → j ∈ R.erase i := by
     intro j hj hg
     have hji : i ≠ j := by
      intro he
      subst he
      simp [hl] at hg
     rw [getD_set_ne false hji] at hg
     exact (List.mem_erase_of_ne (Ne.symm hji)).2 (hun j hj hg)
    have hput : Act.put ⟨(fillL ds u 0 l0).toArray, df⟩ o.dst v = ⟨(fillL ds (updO u o v) 0 l0).toArray, df⟩ := by
     unfold updO
     cases hd : o.dst with
     | none => rfl
     | some d =>
       have := fill_put ds u d v l0 0 (by rw [Nat.zero_add]; exact hds d hd)
       rw [Nat.zero_add] at this
       simp only [Act.put, List.setIfInBounds_toArray, this]
    rw [hput]
    refine ih (R.erase i) (listed.setIfInBounds i true) (updO u o v) w' (by simp [hs]) hRl hun' hJ' fun j q hq hg => ?_
    by_cases hji : i = j
    ·subst hji
     obtain rfl := Option.some.inj (ho.symm.trans hq)
     exact ⟨hv, fun k hk => getD_set_true (hdep' k hk)⟩
    ·rw [getD_set_ne false hji] at hg
     obtain ⟨h1, h2⟩ := hV j q hq hg
     refine ⟨hkeep j q hq (Ne.symm hji) ?_ h1, fun k hk => getD_set_true (h2 k hk)⟩
     cases hn : needs q i with
     | false => rfl
     | true =>
       have := h2 i hn
       rw [hun0] at this
       cases this
theorem free_region {id : Nat} {w : World} (ds : List Nat) (J : World → Prop) (V : Nat → (Nat → Value) → World → Prop) (hok : freeOk ops ds = true) (hm : P.follows .mixedOrders = true) (hJ : J w.drew)
  (hstep : ∀ i, i < ops.size → FreeStep P ops Q ds l0 df J V i)
  (hend : ∀ (u : Nat → Value) (w : World), J w → (∀ i, i < ops.size → V i u w) → Q .normal ⟨(fillL ds u 0 l0).toArray, df⟩ w) :
  (Code.region id ops true).wp P Q ⟨l0.toArray, df⟩ w := by
 refine wp_region_any hm ?_
 have h := free_any hok hstep hend ops.size (List.range ops.size) (Array.replicate ops.size false) (fun d => (l0[d]?).getD undef) w.drew (by simp) (by simp) (fun i hi _ => List.mem_range.2 hi) hJ
  (fun i o ho hg => by
    have hlt := (Array.getElem?_eq_some_iff.1 ho).1
    simp [hlt] at hg)
 rw [fill_same ds l0 l0 0 (fun j x hx => by rwa [Nat.zero_add])] at h
 exact h
end
end Go.Proofs.YtnnhhbjbdmgpiaaGreatDoor
/- Rows that a call makes and appends to, read as lists. Of any program. -/
namespace Go.Proofs.YtnnhhbjbdmgpiaaGreatDoor
set_option maxRecDepth 100000
open Go.RowKit
theorem own_form {w : World} {base : Nat} {e : TypeId} {size : Nat} {v : Value} {n : Nat} {xs : List Value} (h : w.ownsRow base e size v n xs) : ∃ A cap, v = .slice A n cap := by
 rcases h.2 with ⟨rfl, rfl⟩ | ⟨g, cap, cur, rfl, _⟩
 ·exact ⟨_, _, rfl⟩
 ·exact ⟨_, _, rfl⟩
theorem own_below {w w' : World} {base : Nat} {e : TypeId} {size : Nat} {v : Value} {n : Nat} {xs : List Value} (h : w.ownsRow base e size v n xs) (hb : Below w.heap.size w w') : w'.ownsRow base e size v n xs := by
 refine ⟨h.1, ?_⟩
 rcases h.2 with h2 | ⟨g, cap, cur, hv, hg, hh, r⟩
 ·exact .inl h2
 ·have hlt : g < w.heap.size := (Array.getElem?_eq_some_iff.1 hh).1
  exact .inr ⟨g, cap, cur, hv, hg, (hb.block g hlt).trans hh, r⟩
theorem own_blocks {w : World} {base : Nat} {e : TypeId} {size : Nat} {v : Value} {n : Nat} {xs : List Value} (h : w.ownsRow base e size v n xs) : ∀ k, v.ownBlock = some k → base ≤ k := by
 intro k hk
 rcases h.2 with ⟨rfl, _⟩ | ⟨g, cap, cur, rfl, hg, _⟩
 ·cases hk
 ·simp [Value.ownBlock] at hk; omega
theorem flat_at {α : Type} (sz : Nat) (enc : α → List Value) (hsz : ∀ x, (enc x).length = sz) : ∀ (l : List α) (k : Nat) (x : α) (j : Nat) (v : Value), l[k]? = some x → (enc x)[j]? = some v → (l.flatMap enc)[k * sz + j]? = some v := by
 intro l
 induction l with
 | nil => intro k x j v h; simp at h
 | cons y l ih =>
   intro k x j v h hv
   have hj : j < sz := by rw [← hsz x]; exact (List.getElem?_eq_some_iff.1 hv).1
   rw [List.flatMap_cons]
   cases k with
   | zero =>
     simp at h
     subst h
     rw [List.getElem?_append_left (by rw [hsz]; omega), Nat.zero_mul, Nat.zero_add]
     exact hv
   | succ k =>
     rw [List.getElem?_append_right (by rw [hsz, Nat.add_mul]; omega), hsz, show (k + 1) * sz + j - sz = k * sz + j by rw [Nat.add_mul]; omega]
     exact ih k x j v (by simpa using h) hv
theorem own_rd {α : Type} {sz : Nat} {enc : α → List Value} (hsz : ∀ x, (enc x).length = sz) {w : World} {base : Nat} {e : TypeId} {A : Option Addr} {cap : Nat} {l : List α} (h : w.ownsRow base e sz (.slice A l.length cap) l.length (l.flatMap enc)) : RdS sz enc w A l := by
 rcases h.2 with ⟨hv, hn⟩ | ⟨g, cap', cur, hv, hg, hh, hnc, hcm, hcs, ht⟩
 ·exact .inl (List.eq_nil_of_length_eq_zero hn)
 ·injection hv with hA _ _
  refine .inr ⟨g, 0, hA, (Array.getElem?_eq_some_iff.1 hh).1, fun k x hx j v hj => ?_⟩
  have h1 := flat_at sz enc hsz l k x j v hx hj
  rw [← ht, List.getElem?_take] at h1
  split at h1
  ·rw [show 0 + k * sz + j = k * sz + j by omega, World.cell?]
   simp only [hh]
   rw [← Array.getElem?_toList]
   exact h1
  ·cases h1
theorem encI_len (x : Cf.Ins) : (encI x).length = 4 := rfl
end Go.Proofs.YtnnhhbjbdmgpiaaGreatDoor
/- Slices in new memory. Of any program. -/
namespace Go.Proofs.YtnnhhbjbdmgpiaaGreatDoor
set_option maxRecDepth 100000
open Go.RowKit
def Fresh {α : Type} (B : Nat) (A : Option Addr) (l : List α) : Prop := l = [] ∨ ∃ b off, A = some ⟨b, off, none⟩ ∧ B ≤ b
theorem rd_set {α : Type} {sz : Nat} {enc : α → List Value} {w : World} {A : Option Addr} {l : List α} {B : Nat} (h : RdS sz enc w A l) (hf : Fresh B A l) {p : Addr} (hp : p.block < B) (u : Value) : RdS sz enc (w.setCell p u) A l := by
 rcases h with h | ⟨b, off, rfl, hb, hc⟩
 ·exact .inl h
 ·rcases hf with hf | ⟨b', off', he, hle⟩
  ·exact .inl hf
  ·cases he
   refine .inr ⟨b, off, rfl, by rw [show (w.setCell p u).heap.size = w.heap.size by simp [World.setCell]]; exact hb, fun k x hx j v hv => ?_⟩
   rw [World.cell?_of_block (w := w) (Below.heap_setCell w p u b (by omega))]
   exact hc k x hx j v hv
theorem Fresh.mono {α : Type} {B B' : Nat} {A : Option Addr} {l : List α} (h : Fresh B A l) (hB : B' ≤ B) : Fresh B' A l := by
 rcases h with h | ⟨b, off, he, hle⟩
 ·exact .inl h
 ·exact .inr ⟨b, off, he, Nat.le_trans hB hle⟩
theorem own_fresh {α : Type} {w : World} {base n size : Nat} {e : TypeId} {A : Option Addr} {cap : Nat} {xs : List Value} {l : List α} (h : w.ownsRow base e size (.slice A n cap) n xs) (hl : l.length = n) : Fresh base A l := by
 rcases h.2 with ⟨_, h0⟩ | ⟨g, cap', cur, hv, hb, _⟩
 ·exact .inl (List.eq_nil_of_length_eq_zero (hl.trans h0))
 ·injection hv with hA _ _
  exact .inr ⟨g, 0, hA, hb⟩
end Go.Proofs.YtnnhhbjbdmgpiaaGreatDoor
/- Walks of chapter 3: the program's small tests of an instruction, and the instructions that it makes. -/
namespace Go.Proofs.YtnnhhbjbdmgpiaaGreatDoor
set_option maxRecDepth 100000
open Go.RowKit
theorem pleaves_any (op a b c : Int) (w : World) :
  Calls Tryz.prog 130 #[.agg #[.int .i64 op, .int .i64 a, .int .i64 b, .int .i64 c]] w fun e w' => e = .returned (.bool (Cf.stopsB ⟨op, a, b, c⟩)) ∧ Below w.heap.size w w' := by
 by_cases h1 : op = 10
 ·have e1 := eqb h1
  go_enter Tryz.func130, Tryz.ntmps130
  go_wp2
  go_ret
  exact ⟨by simp [Cf.stopsB, h1], (Below.refl _ _).alloc (Nat.le_refl _) _⟩
 ·have e1 := neb h1
  by_cases h2 : op = 13
  ·have e2 := eqb h2
   go_enter Tryz.func130, Tryz.ntmps130
   go_wp2
   go_ret
   exact ⟨by simp [Cf.stopsB, h2], (Below.refl _ _).alloc (Nat.le_refl _) _⟩
  ·have e2 := neb h2
   by_cases h3 : op = 15
   ·have e3 := eqb h3
    go_enter Tryz.func130, Tryz.ntmps130
    go_wp2
    go_ret
    exact ⟨by simp [Cf.stopsB, h3], (Below.refl _ _).alloc (Nat.le_refl _) _⟩
   ·have e3 := neb h3
    go_enter Tryz.func130, Tryz.ntmps130
    go_wp2
    go_ret
    exact ⟨by simp [Cf.stopsB, h1, h2, h3], (Below.refl _ _).alloc (Nat.le_refl _) _⟩
theorem pjumps_any (op a b c : Int) (w : World) :
  Calls Tryz.prog 103 #[.agg #[.int .i64 op, .int .i64 a, .int .i64 b, .int .i64 c]] w fun e w' => e = .returned (.bool (Cf.jumpsB ⟨op, a, b, c⟩)) ∧ Below w.heap.size w w' := by
 by_cases h1 : op = 10
 ·have e1 := eqb h1
  go_enter Tryz.func103, Tryz.ntmps103
  go_wp2
  go_ret
  exact ⟨by simp [Cf.jumpsB, h1], (Below.refl _ _).alloc (Nat.le_refl _) _⟩
 ·have e1 := neb h1
  by_cases h2 : op = 11
  ·have e2 := eqb h2
   go_enter Tryz.func103, Tryz.ntmps103
   go_wp2
   go_ret
   exact ⟨by simp [Cf.jumpsB, h2], (Below.refl _ _).alloc (Nat.le_refl _) _⟩
  ·have e2 := neb h2
   by_cases h3 : op = 12
   ·have e3 := eqb h3
    go_enter Tryz.func103, Tryz.ntmps103
    go_wp2
    go_ret
    exact ⟨by simp [Cf.jumpsB, h3], (Below.refl _ _).alloc (Nat.le_refl _) _⟩
   ·have e3 := neb h3
    go_enter Tryz.func103, Tryz.ntmps103
    go_wp2
    go_ret
    exact ⟨by simp [Cf.jumpsB, h1, h2, h3], (Below.refl _ _).alloc (Nat.le_refl _) _⟩
theorem paccesses_any (op a b c : Int) (w : World) :
  Calls Tryz.prog 100 #[.agg #[.int .i64 op, .int .i64 a, .int .i64 b, .int .i64 c]] w fun e w' => e = .returned (.bool (Cf.ldst ⟨op, a, b, c⟩)) ∧ Below w.heap.size w w' := by
 by_cases h1 : op = 8
 ·have e1 := eqb h1
  go_enter Tryz.func100, Tryz.ntmps100
  go_wp2
  go_ret
  exact ⟨by simp [Cf.ldst, h1], (Below.refl _ _).alloc (Nat.le_refl _) _⟩
 ·have e1 := neb h1
  by_cases h2 : op = 9
  ·have e2 := eqb h2
   go_enter Tryz.func100, Tryz.ntmps100
   go_wp2
   go_ret
   exact ⟨by simp [Cf.ldst, h2], (Below.refl _ _).alloc (Nat.le_refl _) _⟩
  ·have e2 := neb h2
   go_enter Tryz.func100, Tryz.ntmps100
   go_wp2
   go_ret
   exact ⟨by simp [Cf.ldst, h1, h2], (Below.refl _ _).alloc (Nat.le_refl _) _⟩
theorem psets_any (op a b c : Int) (w : World) :
  Calls Tryz.prog 153 #[.agg #[.int .i64 op, .int .i64 a, .int .i64 b, .int .i64 c]] w fun e w' => e = .returned (.bool (Cf.inB op 1 8)) ∧ Below w.heap.size w w' := by
 by_cases h1 : 1 ≤ op
 ·by_cases h2 : op ≤ 8
  all_goals
   go_enter Tryz.func153, Tryz.ntmps153
   go_wp2
   go_ret
   exact ⟨by simp [Cf.inB, h1, h2], (Below.refl _ _).alloc (Nat.le_refl _) _⟩
 ·have HI := Lib.hid (show Cf.inB op 1 8 = false by simp [Cf.inB, h1])
  go_enter Tryz.func153, Tryz.ntmps153
  go_wp2
  go_ret
  exact ⟨by rw [HI.out]; rfl, (Below.refl _ _).alloc (Nat.le_refl _) _⟩
theorem preserved_any (r : Int) (w : World) :
  Calls Tryz.prog 128 #[.int .i64 r] w fun e w' => e = .returned (.bool (Cf.inB r 4 6)) ∧ w = w' := by
 by_cases h1 : r = 4
 ·have e1 := eqb h1
  go_enter Tryz.func128, Tryz.ntmps128
  go_wp2
  go_ret
  exact ⟨by simp [Cf.inB, h1], rfl⟩
 ·have e1 := neb h1
  by_cases h2 : r = 5
  ·have e2 := eqb h2
   go_enter Tryz.func128, Tryz.ntmps128
   go_wp2
   go_ret
   exact ⟨by simp [Cf.inB, h2], rfl⟩
  ·have e2 := neb h2
   by_cases h3 : r = 6
   ·have e3 := eqb h3
    go_enter Tryz.func128, Tryz.ntmps128
    go_wp2
    go_ret
    exact ⟨by simp [Cf.inB, h3], rfl⟩
   ·have e3 := neb h3
    have HI := Lib.hid (show Cf.inB r 4 6 = false by simp [Cf.inB]; omega)
    go_enter Tryz.func128, Tryz.ntmps128
    go_wp2
    go_ret
    exact ⟨by rw [HI.out]; rfl, rfl⟩
theorem pmask_any (b : Int) (w : World) :
  Calls Tryz.prog 101 #[.int .i64 b] w fun e w' => e = .returned (.agg #[.int .i64 4, .int .i64 4, .int .i64 b, .int .i64 6]) ∧ Below w.heap.size w w' := by
 go_enter Tryz.func101, Tryz.ntmps101
 go_wp2
 exact bodyPost_ret (v := .agg #[.int .i64 4, .int .i64 4, .int .i64 b, .int .i64 6]) (by simp [results, Tryz.results101, go_sem]) rfl ⟨rfl, (Below.refl _ _).alloc (by simp) _⟩
theorem prebase_any (w : World) :
  Calls Tryz.prog 102 #[] w fun e w' => e = .returned (.agg #[.int .i64 5, .int .i64 4, .int .i64 4, .int .i64 5]) ∧ Below w.heap.size w w' := by
 go_enter Tryz.func102, Tryz.ntmps102
 go_wp2
 exact bodyPost_ret (v := .agg #[.int .i64 5, .int .i64 4, .int .i64 4, .int .i64 5]) (by simp [results, Tryz.results102, go_sem]) rfl ⟨rfl, (Below.refl _ _).alloc (by simp) _⟩
end Go.Proofs.YtnnhhbjbdmgpiaaGreatDoor
/- Walks of chapter 3: does an instruction use a reserved register. -/
namespace Go.Proofs.YtnnhhbjbdmgpiaaGreatDoor
set_option maxRecDepth 100000
open Go.RowKit
theorem puses_any (op a b c : Int) (w : World) :
  Calls Tryz.prog 97 #[.agg #[.int .i64 op, .int .i64 a, .int .i64 b, .int .i64 c]] w fun e w' => e = .returned (.bool (Cf.useB ⟨op, a, b, c⟩)) ∧ Below w.heap.size w w' := by
 have hb0 : Below w.heap.size w (w.alloc (Obj.cells #[.int .i64 op, .int .i64 a, .int .i64 b, .int .i64 c] 121)) := (Below.refl _ _).alloc (Nat.le_refl _) _
 have HU := Lib.hid (show Cf.useB ⟨op, a, b, c⟩ = (Cf.inB a 4 6 || (Cf.inB b 4 6 || (Cf.inB op 2 7 && Cf.inB c 4 6))) from rfl)
 by_cases h1 : 2 ≤ op
 ·by_cases h2 : op ≤ 7
  ·have HO := Lib.hid (show Cf.inB op 2 7 = true by simp [Cf.inB, h1, h2])
   go_enter Tryz.func97, Tryz.ntmps97
   go_wp2_with fail
   refine (preserved_any a _).mono ?_
   rintro e w' ⟨rfl, rfl⟩
   cases ha : Cf.inB a 4 6
   ·have Ha := Lib.hid ha
    clear ha
    go_wp2_with fail
    refine (preserved_any b _).mono ?_
    rintro e w' ⟨rfl, rfl⟩
    cases hb : Cf.inB b 4 6
    ·have Hb := Lib.hid hb
     clear hb
     go_wp2_with fail
     refine (preserved_any c _).mono ?_
     rintro e w' ⟨rfl, rfl⟩
     go_wp2
     go_ret
     exact ⟨by rw [HU.out, Ha.out, Hb.out, HO.out]; rfl, hb0⟩
    ·have Hb := Lib.hid hb
     clear hb
     go_wp2
     go_ret
     exact ⟨by rw [HU.out, Ha.out, Hb.out]; rfl, hb0⟩
   ·have Ha := Lib.hid ha
    clear ha
    go_wp2
    go_ret
    exact ⟨by rw [HU.out, Ha.out]; rfl, hb0⟩
  ·have HO := Lib.hid (show Cf.inB op 2 7 = false by simp [Cf.inB, h2])
   go_enter Tryz.func97, Tryz.ntmps97
   go_wp2_with fail
   refine (preserved_any a _).mono ?_
   rintro e w' ⟨rfl, rfl⟩
   cases ha : Cf.inB a 4 6
   ·have Ha := Lib.hid ha
    clear ha
    go_wp2_with fail
    refine (preserved_any b _).mono ?_
    rintro e w' ⟨rfl, rfl⟩
    have HB := Lib.hid (show Cf.useB ⟨op, a, b, c⟩ = Cf.inB b 4 6 by rw [HU.out, Ha.out, HO.out]; simp)
    cases hb : Cf.inB b 4 6
    ·have Hb := Lib.hid hb
     clear hb
     go_wp2
     go_ret
     exact ⟨by rw [HB.out, Hb.out]; rfl, hb0⟩
    ·have Hb := Lib.hid hb
     clear hb
     go_wp2
     go_ret
     exact ⟨by rw [HB.out, Hb.out]; rfl, hb0⟩
   ·have Ha := Lib.hid ha
    clear ha
    go_wp2
    go_ret
    exact ⟨by rw [HU.out, Ha.out]; rfl, hb0⟩
 ·have HO := Lib.hid (show Cf.inB op 2 7 = false by simp [Cf.inB, h1])
  go_enter Tryz.func97, Tryz.ntmps97
  go_wp2_with fail
  refine (preserved_any a _).mono ?_
  rintro e w' ⟨rfl, rfl⟩
  cases ha : Cf.inB a 4 6
  ·have Ha := Lib.hid ha
   clear ha
   go_wp2_with fail
   refine (preserved_any b _).mono ?_
   rintro e w' ⟨rfl, rfl⟩
   have HB := Lib.hid (show Cf.useB ⟨op, a, b, c⟩ = Cf.inB b 4 6 by rw [HU.out, Ha.out, HO.out]; simp)
   cases hb : Cf.inB b 4 6
   ·have Hb := Lib.hid hb
    clear hb
    go_wp2
    go_ret
    exact ⟨by rw [HB.out, Hb.out]; rfl, hb0⟩
   ·have Hb := Lib.hid hb
    clear hb
    go_wp2
    go_ret
    exact ⟨by rw [HB.out, Hb.out]; rfl, hb0⟩
  ·have Ha := Lib.hid ha
   clear ha
   go_wp2
   go_ret
   exact ⟨by rw [HU.out, Ha.out]; rfl, hb0⟩
end Go.Proofs.YtnnhhbjbdmgpiaaGreatDoor
