/- Texts of the proofs: KeepH, PlainK, RawO, OpenR. -/
import Derived.Deep.CutRange
import Derived.Deep.CutBlock
import Derived.StillTailTactics
import Derived.Test.YtnnhhbjbdmgpiaaGreatDoorJ15
import Derived.Test.YtnnhhbjbdmgpiaaGreatDoorJ05
import Derived.Test.YtnnhhbjbdmgpiaaGreatDoorJ01
set_option linter.unusedSimpArgs false
set_option linter.unusedVariables false
/- Walks of the laws' own helpers: what the makers of code share. -/
namespace Go.Proofs.YtnnhhbjbdmgpiaaGreatDoor
set_option maxRecDepth 100000
open Go.RowKit
theorem new4 (w : World) (a b c d : Value) (t : TypeId) : (w.alloc (Obj.cells #[a, b, c, d] t)).cell? ⟨w.heap.size, 0, none⟩ = some a ∧ (w.alloc (Obj.cells #[a, b, c, d] t)).cell? ⟨w.heap.size, 1, none⟩ = some b ∧
  (w.alloc (Obj.cells #[a, b, c, d] t)).cell? ⟨w.heap.size, 2, none⟩ = some c ∧ (w.alloc (Obj.cells #[a, b, c, d] t)).cell? ⟨w.heap.size, 3, none⟩ = some d := by
 refine ⟨?_, ?_, ?_, ?_⟩ <;> simp
theorem wrap_fit (z : Int) (h1 : -9223372036854775808 ≤ z) (h2 : z ≤ 9223372036854775807) : IntKind.i64.wrap z = z := by
 rw [IntKind.wrap_i64]
 omega
def FitI (x : Cf.Ins) : Prop := Fit x.op ∧ Fit x.a ∧ Fit x.b ∧ Fit x.c
theorem inb {v hi : Int} (h1 : 0 ≤ v) (h2 : v ≤ hi) : Cf.inB v 0 hi = true := by simp [Cf.inB, h1, h2]
theorem chk_reg (op a b c : Int) (h2 : 2 ≤ op) (h7 : op ≤ 7) (a1 : 0 ≤ a) (a2 : a < 8) (b1 : 0 ≤ b) (b2 : b < 8) (c1 : 0 ≤ c) (c2 : c < 8) : Cf.chk ⟨op, a, b, c⟩ = 0 := by
 have hs : Cf.shapeL op = [114, 114, 114] := by
  unfold Cf.shapeL
  rw [if_neg (by omega), if_neg (by omega), if_neg (by omega), if_neg (by omega), if_neg (by omega), if_neg (by omega)]
 exact Cf.chk_zero' _ (by simp [Cf.inB]; omega) hs (inb a1 (by show a ≤ 7; omega)) (inb b1 (by show b ≤ 7; omega)) (inb c1 (by show c ≤ 7; omega))
end Go.Proofs.YtnnhhbjbdmgpiaaGreatDoor
/- Walks of the laws' own helpers: plain code of raw things. -/
namespace Go.Proofs.YtnnhhbjbdmgpiaaGreatDoor
set_option maxRecDepth 100000
open Go.RowKit
structure OkP (n : Nat) (x : Cf.Ins) : Prop where
 chk : Cf.chk x = 0
 a : x.a < 4
 b : x.b < 4
 c : 2 ≤ x.op ∧ x.op ≤ 7 → x.c < 4
 j : Cf.jumpsB x = true → x.c ≤ n
def PkRel (n : Nat) (w : World) (ov iv : Value) (wr : World) : Prop :=
 ∃ (k cap : Nat) (A : Option Addr) (acc : List Cf.Ins), k ≤ n ∧ iv = .int .i64 k ∧ ov = .slice A k cap ∧ acc.length = k ∧ (∀ x ∈ acc, OkP n x) ∧
   wr.ownsRow w.heap.size 121 4 (.slice A k cap) k (acc.flatMap encI) ∧ Below w.heap.size w wr
def PwRel (n : Nat) (w : World) (A : Option Addr) (k cap : Nat) (acc : List Cf.Ins) (bx : Nat) (wx : World) : Prop :=
 ∃ op a b c : Int, OkP n ⟨op, a, b, c⟩ ∧ wx.cell? ⟨bx, 0, none⟩ = some (.int .i64 op) ∧ wx.cell? ⟨bx, 1, none⟩ = some (.int .i64 a) ∧ wx.cell? ⟨bx, 2, none⟩ = some (.int .i64 b) ∧ wx.cell? ⟨bx, 3, none⟩ = some (.int .i64 c) ∧
   wx.ownsRow w.heap.size 121 4 (.slice A k cap) k (acc.flatMap encI) ∧ Below w.heap.size w wx
def PlainPost (w : World) (e : Ending) (w' : World) : Prop :=
 ∃ (A : Option Addr) (cap : Nat) (p : List Cf.Ins), e = .returned (.slice A p.length cap) ∧ p.length ≤ 31 ∧ Cf.fault p = 0 ∧ Cf.plainB p = true ∧ Codes w' A p ∧ Below w.heap.size w w'
theorem pw_of {n : Nat} {w wd : World} {A : Option Addr} {k cap br : Nat} {acc : List Cf.Ins} {op a b c : Int} {t : TypeId} (h : OkP n ⟨op, a, b, c⟩) (hs : wd.heap.size = br + 1)
  (ho : wd.ownsRow w.heap.size 121 4 (.slice A k cap) k (acc.flatMap encI)) (hb : Below w.heap.size w wd) :
  PwRel n w A k cap acc (br + 1) (wd.alloc (Obj.cells #[.int .i64 op, .int .i64 a, .int .i64 b, .int .i64 c] t)) := by
 obtain ⟨q0, q1, q2, q3⟩ := new4 wd (.int .i64 op) (.int .i64 a) (.int .i64 b) (.int .i64 c) t
 rw [hs] at q0 q1 q2 q3
 exact ⟨op, a, b, c, h, q0, q1, q2, q3, ho.alloc _, hb.alloc hb.size _⟩
theorem PwRel.drew {n : Nat} {w wx : World} {A : Option Addr} {k cap bx : Nat} {acc : List Cf.Ins} (h : PwRel n w A k cap acc bx wx) : PwRel n w A k cap acc bx wx.drew := by
 obtain ⟨op, a, b, c, hc, q0, q1, q2, q3, ho, hb⟩ := h
 exact ⟨op, a, b, c, hc, q0, q1, q2, q3, ho.drew, hb.drew⟩
theorem plainPost_end {w w3 : World} {A' : Option Addr} {cap' n : Nat} {acc : List Cf.Ins} (ha : acc.length = n) (hn : n ≤ 30) (hf : ∀ x ∈ acc, OkP n x)
  (ho : w3.ownsRow w.heap.size 121 4 (.slice A' (n + 1) cap') (n + 1) (acc.flatMap encI ++ [.int .i64 13, .int .i64 0, .int .i64 0, .int .i64 0])) (hb : Below w.heap.size w w3) :
  PlainPost w (.returned (.slice A' (n + 1) cap')) w3 := by
 have hl : (acc ++ [(⟨13, 0, 0, 0⟩ : Cf.Ins)]).length = n + 1 := by simp [ha]
 have hall : ∀ x ∈ acc ++ [(⟨13, 0, 0, 0⟩ : Cf.Ins)], OkP n x := by
  intro x hx
  rcases List.mem_append.1 hx with h | h
  ·exact hf x h
  ·simp at h
   subst h
   exact ⟨rfl, by decide, by decide, fun _ => by decide, fun h => by cases h⟩
 refine ⟨A', cap', acc ++ [⟨13, 0, 0, 0⟩], by rw [hl], by omega, ?_, ?_, ?_, hb⟩
 ·rw [Cf.fault, if_neg (by omega)]
  exact Cf.faultIn_all _ fun x hx => (hall x hx).chk
 ·unfold Cf.plainB
  have h1 : Cf.lastB (acc ++ [(⟨13, 0, 0, 0⟩ : Cf.Ins)]) = true := by
   unfold Cf.lastB
   rw [List.getLast?_append]
   rfl
  rw [h1, Bool.true_and]
  refine List.all_eq_true.2 fun x hx => ?_
  have h := hall x hx
  unfold Cf.plainI
  rw [if_neg]
  rintro (h1 | h1 | ⟨h1, h2⟩ | ⟨h1, h2⟩)
  ·have := h.a
   simp [Cf.inB] at h1
   omega
  ·have := h.b
   simp [Cf.inB] at h1
   omega
  ·simp [Cf.inB] at h1 h2
   have := h.c h1
   omega
  ·have := h.j h1
   rw [hl] at h2
   omega
 ·refine own_rd encI_len (base := w.heap.size) (e := 121) (cap := cap') ?_
  rw [hl, List.flatMap_append]
  exact ho
theorem new_one {wd : World} {br : Nat} {rc a b c d : Value} {t : TypeId} (h : wd.cell? ⟨br, 3, none⟩ = some rc) (hs : wd.heap.size = br + 1) :
  (wd.alloc (Obj.cells #[a, b, c, d] t)).drew.cell? ⟨br, 3, none⟩ = some rc ∧ (wd.alloc (Obj.cells #[a, b, c, d] t)).drew.cell? ⟨br + 1, 1, none⟩ = some b := by
 refine ⟨(World.cell?_alloc_some wd ⟨br, 3, none⟩ (Obj.cells #[a, b, c, d] t) (by rw [h]; rfl)).trans h, ?_⟩
 have := (new4 wd a b c d t).2.1
 rw [hs] at this
 exact this
theorem sumw {z : Int} (h1 : -9223372036854775808 ≤ z) (h2 : z ≤ 9223372036854775807) : IntKind.i64.wrap z = z := wrap_fit z h1 h2
theorem okP_jz {n : Nat} {a c : Int} (a1 : 0 ≤ a) (a2 : a < 4) (c1 : 0 ≤ c) (c2 : c ≤ n) (hn : n ≤ 30) : OkP n ⟨11, a, 0, c⟩ :=
 ⟨Cf.chk_zero' _ rfl (p := 114) (q := 45) (r := 112) rfl (inb a1 (by show a ≤ 7; omega)) rfl (inb c1 (by show c ≤ 199; omega)), a2, by show (0 : Int) < 4; omega, fun h => by dsimp only at h; omega, fun _ => c2⟩
theorem okP_call {n : Nat} {c : Int} (c1 : 0 ≤ c) (c2 : c ≤ n) (hn : n ≤ 30) : OkP n ⟨12, 0, 0, c⟩ :=
 ⟨Cf.chk_zero' _ rfl (p := 45) (q := 45) (r := 112) rfl rfl rfl (inb c1 (by show c ≤ 199; omega)), by show (0 : Int) < 4; omega, by show (0 : Int) < 4; omega, fun h => by dsimp only at h; omega, fun _ => c2⟩
set_option maxRecDepth 100000 in
set_option maxHeartbeats 4000000 in
theorem keepPlain_any (l : List Cf.Ins) (hf : ∀ x ∈ l, FitI x) (A0 : Option Addr) (c0 : Nat) (w : World) (hR : Codes w A0 l) (hm : l.length ≤ maxLen) :
  Calls Tryz.prog 62 #[.slice A0 l.length c0] w (PlainPost w) := by
 unfold maxLen at hm
 obtain ⟨i0, hi, hz0, hz1, hz2⟩ := info_parts infoIns
 have Hi := Lib.hid hi
 have Hz0 := Lib.hid hz0
 have Hz1 := Lib.hid hz1
 have Hz2 := Lib.hid hz2
 have Hf := Lib.hid hf
 have HR := Lib.hid hR
 clear hi hz0 hz1 hz2 hf hR
 go_enter Tryz.func62, Tryz.ntmps62
 go_upto_region 1 with fail
 go_cut [3] from 8 to 10 (fun x wx => ∃ n : Nat, x = .int .i64 n ∧ n ≤ 30 ∧ n ≤ l.length ∧ w = wx)
 case first =>
  by_cases h30 : 30 < l.length
  ·go_wp2_with fail
   go_meet
   exact ⟨30, rfl, by omega, by omega, rfl⟩
  ·go_wp2_with fail
   go_meet
   exact ⟨l.length, rfl, by omega, by omega, rfl⟩
 case rest =>
  obtain ⟨n, rfl, hn30, hnl, rfl⟩ := hcut
  go_wp2
  go_loopw [4, 12] (fun ov iv wr => PkRel n w ov iv wr) (fun _ iv _ => n - (intOf iv).toNat)
  case atStart => exact ⟨0, 0, none, [], by omega, rfl, rfl, rfl, (fun x hx => by cases hx), World.ownsRow_nil _ _ _ _, Below.refl _ _⟩
  case round =>
   obtain ⟨k, cap, A, acc, hk, rfl, rfl, hacc, hfa, hown, hbw⟩ := hrel
   have Hacc := Lib.hid hacc
   have Hown := Lib.hid hown
   have Hfa := Lib.hid hfa
   have hwz := hbw.size
   clear hacc hown hfa
   by_cases hlt : k < n
   ·obtain ⟨kr, ra, rb, rc, hx⟩ : ∃ op a b' c', l[k]? = some ⟨op, a, b', c'⟩ := ⟨_, _, _, _, List.getElem?_eq_getElem (by omega)⟩
    obtain ⟨f0, f1, f2, f3⟩ := Hf.out _ (List.mem_of_getElem? hx)
    change Fit kr at f0
    change Fit ra at f1
    change Fit rb at f2
    change Fit rc at f3
    obtain ⟨b, off, rfl, hb, hc⟩ := HR.out.at_ (by intro e; rw [e] at hx; simp at hx)
    obtain ⟨p0, p1, p2, p3⟩ := hc k kr ra rb rc hx
    have q0 := (hbw.cell hb).trans p0
    have q1 := (hbw.cell hb).trans p1
    have q2 := (hbw.cell hb).trans p2
    have q3 := (hbw.cell hb).trans p3
    clear hc hx p0 p1 p2 p3
    obtain ⟨o1, o2⟩ := Cf.pick_range kr 14 (by omega)
    obtain ⟨a1, a2⟩ := Cf.pick_range ra 4 (by omega)
    obtain ⟨b1, b2⟩ := Cf.pick_range rb 4 (by omega)
    obtain ⟨d1, d2⟩ := Cf.pick_range rc 4 (by omega)
    go_upto_region 7 with fail
    clear q0 q1 q2 q3
    have hbw5 := hbw.alloc hbw.size (Obj.cells #[.int .i64 kr, .int .i64 ra, .int .i64 rb, .int .i64 rc] 45)
    have hs5 : (wr.alloc (Obj.cells #[.int .i64 kr, .int .i64 ra, .int .i64 rb, .int .i64 rc] 45)).heap.size = wr.heap.size + 1 := by simp
    obtain ⟨g0, g1, g2, g3⟩ := new4 wr (.int .i64 kr) (.int .i64 ra) (.int .i64 rb) (.int .i64 rc) 45
    have Hown5 := Lib.hid (Hown.out.alloc (Obj.cells #[.int .i64 kr, .int .i64 ra, .int .i64 rb, .int .i64 rc] 45))
    generalize wr.alloc _ = w5 at hbw5 hs5 g0 g1 g2 g3 Hown5 ⊢
    generalize wr.heap.size = br at hs5 g0 g1 g2 g3 hwz ⊢
    clear hbw Hown
    go_cut [7] from 19 to 32 (fun x wx => x = .pointer (some ⟨br + 1, 0, none⟩) ∧ wx = w5.drew.alloc (Obj.cells #[.int .i64 (IntKind.i64.wrap (1 + Cf.pick kr 14)), .int .i64 (Cf.pick ra 4), .int .i64 (Cf.pick rb 4), .int .i64 (Cf.pick rc 4)] 121))
    case first =>
     go_region_held3 (fun W => W.cell? ⟨br, 0, none⟩ = some (.int .i64 kr) ∧ W.cell? ⟨br, 1, none⟩ = some (.int .i64 ra) ∧ W.cell? ⟨br, 2, none⟩ = some (.int .i64 rb) ∧ W.cell? ⟨br, 3, none⟩ = some (.int .i64 rc)) (first | go_keep | assumption) (first | (go_at_call 18; refine (picked_any _ _ _ (by assumption) (by omega) (by omega)).mono ?_; rintro e w' ⟨rfl, rfl⟩))
     all_goals (go_wp2_with fail; go_meet; exact ⟨rfl, rfl⟩)
    case rest =>
     obtain ⟨rfl, rfl⟩ := hcut
     rw [wrap_fit _ (by omega) (by omega)]
     generalize Cf.pick kr 14 = po at o1 o2 ⊢
     generalize Cf.pick ra 4 = pa at a1 a2 ⊢
     generalize Cf.pick rb 4 = pb at b1 b2 ⊢
     generalize Cf.pick rc 4 = pc at d1 d2 ⊢
     clear f0 f1 g0 g1
     obtain ⟨op, hop⟩ : ∃ op, op = 1 + po := ⟨_, rfl⟩
     rw [← hop]
     have hw5d : Below w.heap.size w w5.drew := hbw5.drew
     have HownD := Lib.hid (show w5.drew.ownsRow w.heap.size 121 4 (.slice A k cap) k (acc.flatMap encI) from Hown5.out.drew)
     have e2 : w5.drew.cell? ⟨br, 2, none⟩ = some (.int .i64 rb) := g2
     have e3 : w5.drew.cell? ⟨br, 3, none⟩ = some (.int .i64 rc) := g3
     have hsD : w5.drew.heap.size = br + 1 := hs5
     generalize w5.drew = wd at hw5d HownD e2 e3 hsD ⊢
     clear hbw5 Hown5 g2 g3 hs5
     have ho1 : 1 ≤ op := by omega
     have ho2 : op ≤ 14 := by omega
     clear hop o1 o2
     obtain ⟨t1, t2⟩ := Cf.pick_range rc ((n : Int) + 1 - k) (by omega)
     obtain ⟨t3, t4⟩ := Cf.pick_range rc ((n : Int) + 1) (by omega)
     obtain ⟨t5, t6⟩ := Cf.pick_range rc 80 (by omega)
     go_upto_block 2 with fail
     go_cut [] from 35 to 109 (fun wx => PwRel n w A k cap acc (br + 1) wx)
     case first =>
      have hgrp : op = 1 ∨ (op = 8 ∨ op = 9) ∨ (op = 10 ∨ op = 12) ∨ op = 11 ∨ op = 13 ∨ op = 14 ∨ (2 ≤ op ∧ op ≤ 7) := by omega
      rcases hgrp with rfl | (rfl | rfl) | (rfl | rfl) | rfl | rfl | rfl | hgrp
      ·go_wp2_with fail
       refine (picked_any rc 80 _ f3 (by omega) (by omega)).mono ?_
       rintro e w' ⟨rfl, rfl⟩
       generalize Cf.pick rc 80 = z at t5 t6 ⊢
       go_wp2
       go_meet
       exact pw_of ⟨Cf.chk_zero' _ rfl (p := 114) (q := 45) (r := 119) rfl (inb a1 (by show pa ≤ 7; omega)) rfl (inb t5 (by show z ≤ (65535 : Int); omega)), a2, by show (0 : Int) < 4; omega, fun h => by dsimp only at h; omega, fun h => by cases h⟩ hsD HownD.out hw5d
      ·go_wp2
       go_meet
       exact pw_of ⟨Cf.chk_zero' _ rfl (p := 114) (q := 114) (r := 45) rfl (inb a1 (by show pa ≤ 7; omega)) (inb b1 (by show pb ≤ 7; omega)) rfl, a2, b2, fun h => by dsimp only at h; omega, fun h => by cases h⟩ hsD HownD.out hw5d
      ·go_wp2
       go_meet
       exact pw_of ⟨Cf.chk_zero' _ rfl (p := 114) (q := 114) (r := 45) rfl (inb a1 (by show pa ≤ 7; omega)) (inb b1 (by show pb ≤ 7; omega)) rfl, a2, b2, fun h => by dsimp only at h; omega, fun h => by cases h⟩ hsD HownD.out hw5d
      ·go_upto_region 16 with fail
       have s1 := sumw (z := (n : Int) + 1) (by omega) (by omega)
       have s2 := sumw (z := (n : Int) + 1 - k) (by omega) (by omega)
       have s3 := sumw (z := (k : Int) + Cf.pick rc ((n : Int) + 1 - k)) (by omega) (by omega)
       go_region_held3 (fun W => W.cell? ⟨br, 3, none⟩ = some (.int .i64 rc) ∧ W.cell? ⟨br + 1, 1, none⟩ = some (.int .i64 pa)) (first | exact new_one e3 hsD | assumption | go_keep) (first | (go_at_call 18; refine (picked_any _ _ _ (by assumption) (by omega) (by omega)).mono ?_; rintro e w' ⟨rfl, rfl⟩))
       clear s1 s2 s3
       have HP := Lib.hid (fun w => picked_any rc ((n : Int) + 1 - k) w f3 (by omega) (by omega))
       generalize Cf.pick rc ((n : Int) + 1 - k) = z at t1 t2 HP ⊢
       go_wp2_with fail
       refine (picked_any rb 9 _ f2 (by omega) (by omega)).mono ?_
       rintro e w' ⟨rfl, rfl⟩
       by_cases h9 : Cf.pick rb 9 = 0
       ·rw [h9]
        clear h9
        go_wp2_with fail
        refine (HP.out _).mono ?_
        rintro e w' ⟨rfl, rfl⟩
        go_wp2
        go_meet
        exact (pw_of (okP_call (by omega) (by omega) hn30) hsD HownD.out hw5d).drew
       ·have n9 : (Cf.pick rb 9 == 0) = false := by rw [beq_eq_false_iff_ne]; exact h9
        clear h9
        go_wp2
        go_meet
        exact (pw_of (okP_jz a1 a2 (by omega) (by omega) hn30) hsD HownD.out hw5d).drew
      ·go_upto_region 16 with fail
       have s1 := sumw (z := (n : Int) + 1) (by omega) (by omega)
       have s2 := sumw (z := (n : Int) + 1 - k) (by omega) (by omega)
       have s3 := sumw (z := (k : Int) + Cf.pick rc ((n : Int) + 1 - k)) (by omega) (by omega)
       go_region_held3 (fun W => W.cell? ⟨br, 3, none⟩ = some (.int .i64 rc) ∧ W.cell? ⟨br + 1, 1, none⟩ = some (.int .i64 pa)) (first | exact new_one e3 hsD | assumption | go_keep) (first | (go_at_call 18; refine (picked_any _ _ _ (by assumption) (by omega) (by omega)).mono ?_; rintro e w' ⟨rfl, rfl⟩))
       clear s1 s2 s3
       have HP := Lib.hid (fun w => picked_any rc ((n : Int) + 1 - k) w f3 (by omega) (by omega))
       generalize Cf.pick rc ((n : Int) + 1 - k) = z at t1 t2 HP ⊢
       go_wp2_with fail
       refine (picked_any rb 9 _ f2 (by omega) (by omega)).mono ?_
       rintro e w' ⟨rfl, rfl⟩
       by_cases h9 : Cf.pick rb 9 = 0
       ·rw [h9]
        clear h9
        go_wp2_with fail
        refine (HP.out _).mono ?_
        rintro e w' ⟨rfl, rfl⟩
        go_wp2
        go_meet
        exact (pw_of (okP_call (by omega) (by omega) hn30) hsD HownD.out hw5d).drew
       ·have n9 : (Cf.pick rb 9 == 0) = false := by rw [beq_eq_false_iff_ne]; exact h9
        clear h9
        go_wp2
        go_meet
        exact (pw_of (okP_jz a1 a2 (by omega) (by omega) hn30) hsD HownD.out hw5d).drew
      ·have HP := Lib.hid (fun w => picked_any rc ((n : Int) + 1 - k) w f3 (by omega) (by omega))
       have HQ := Lib.hid (fun w => picked_any rc ((n : Int) + 1) w f3 (by omega) (by omega))
       go_wp2_with fail
       refine (HP.out _).mono ?_
       rintro e w' ⟨rfl, rfl⟩
       generalize Cf.pick rc ((n : Int) + 1 - k) = z at t1 t2 HP ⊢
       go_wp2_with fail
       refine (picked_any rb 12 _ f2 (by omega) (by omega)).mono ?_
       rintro e w' ⟨rfl, rfl⟩
       by_cases h9 : Cf.pick rb 12 = 0
       ·rw [h9]
        clear h9
        go_wp2_with fail
        refine (HQ.out _).mono ?_
        rintro e w' ⟨rfl, rfl⟩
        generalize Cf.pick rc ((n : Int) + 1) = y at t3 t4 ⊢
        go_wp2
        go_meet
        exact pw_of (okP_jz a1 a2 (by omega) (by omega) hn30) hsD HownD.out hw5d
       ·have n9 : (Cf.pick rb 12 == 0) = false := by rw [beq_eq_false_iff_ne]; exact h9
        clear h9
        go_wp2
        go_meet
        exact pw_of (okP_jz a1 a2 (by omega) (by omega) hn30) hsD HownD.out hw5d
      ·go_wp2_with fail
       refine (picked_any rc 3 _ f3 (by omega) (by omega)).mono ?_
       rintro e w' ⟨rfl, rfl⟩
       by_cases h9 : 0 < Cf.pick rc 3
       ·go_wp2
        go_meet
        exact pw_of ⟨rfl, by show (1 : Int) < 4; omega, by show (2 : Int) < 4; omega, fun _ => by show (3 : Int) < 4; omega, fun h => by cases h⟩ hsD HownD.out hw5d
       ·go_wp2
        go_meet
        exact pw_of ⟨rfl, by show (0 : Int) < 4; omega, by show (0 : Int) < 4; omega, fun h => by dsimp only at h; omega, fun h => by cases h⟩ hsD HownD.out hw5d
      ·go_wp2
       go_meet
       exact pw_of ⟨Cf.chk_zero' _ rfl (p := 114) (q := 45) (r := 45) rfl (inb a1 (by show pa ≤ 7; omega)) rfl rfl, a2, by show (0 : Int) < 4; omega, fun h => by dsimp only at h; omega, fun h => by cases h⟩ hsD HownD.out hw5d
      ·obtain ⟨h2, h7⟩ := hgrp
       have HS := Lib.hid (chk_reg op pa pb pc h2 h7 a1 (by omega) b1 (by omega) d1 (by omega))
       have n1 : (op == 1) = false := by rw [beq_eq_false_iff_ne]; omega
       have n8 : (op == 8) = false := by rw [beq_eq_false_iff_ne]; omega
       have n9 : (op == 9) = false := by rw [beq_eq_false_iff_ne]; omega
       have n10 : (op == 10) = false := by rw [beq_eq_false_iff_ne]; omega
       have n11 : (op == 11) = false := by rw [beq_eq_false_iff_ne]; omega
       have n12 : (op == 12) = false := by rw [beq_eq_false_iff_ne]; omega
       have n13 : (op == 13) = false := by rw [beq_eq_false_iff_ne]; omega
       have n14 : (op == 14) = false := by rw [beq_eq_false_iff_ne]; omega
       have HJ := Lib.hid (show Cf.jumpsB ⟨op, pa, pb, pc⟩ = false by simp [Cf.jumpsB]; omega)
       go_wp2
       go_meet
       exact pw_of ⟨HS.out, a2, b2, fun _ => d2, fun h => by rw [HJ.out] at h; cases h⟩ hsD HownD.out hw5d
     case rest =>
      obtain ⟨xo, xa, xb, xc, hok, c0', c1', c2', c3', hown, hbx⟩ := hcut
      have Hok := Lib.hid hok
      have Hown := Lib.hid hown
      have hwcz := hbx.size
      clear hok hown HownD hw5d e2 e3 hsD t1 t2 t3 t4 t5 t6
      go_wp2_with (at_builtin; refine wpList_append_own _ rfl _ _ 77 rfl w.heap.size 121 i0 (.agg #[.int .i64 0, .int .i64 0, .int .i64 0, .int .i64 0]) 4 32 Tryz.underlying77 Hi.out Hz0.out Hz1.out Hz2.out rfl (by decide) _ k _ rfl (Hown.out.alloc _) ⟨wc.heap.size, 0, none⟩ 1 1 [.int .i64 xo, .int .i64 xa, .int .i64 xb, .int .i64 xc] rfl rfl ?c1 ?c2 ?c3 ?c4 ?c5 ?_)
      case c1 =>
       intro j u hj
       match j, hj with
       | 0, hj => simp at hj; subst hj; simp [Addr.add]
       | 1, hj => simp at hj; subst hj; simp [Addr.add]
       | 2, hj => simp at hj; subst hj; simp [Addr.add]
       | 3, hj => simp at hj; subst hj; simp [Addr.add]
       | (j + 4), hj => simp at hj
      case c2 => intro u hu; simp at hu; rcases hu with rfl | rfl | rfl | rfl <;> rfl
      case c3 => unfold maxLen; omega
      case c4 => omega
      case c5 => simp; omega
      intro v' w3 hown3 hg3 _
      obtain ⟨A', cap', rfl⟩ := own_form hown3
      have hbw3 : Below w.heap.size w w3 := (hbx.alloc hbx.size _).grown hg3 (by simp; omega) (fun k hk => own_blocks Hown.out k hk)
      have Hown3 := Lib.hid hown3
      clear hown3 hg3 Hown
      go_wp2
      go_roundw
      case rel => exact ⟨k + 1, cap', A', acc ++ [⟨xo, xa, xb, xc⟩], by omega, by go_num, rfl, by simp [Hacc.out], fun x hx => by
       rcases List.mem_append.1 hx with h | h
       ·exact Hfa.out x h
       ·simp at h
        subst h
        exact Hok.out, by rw [List.flatMap_append]; exact Hown3.out, hbw3⟩
      case measure => simp [intOf]; omega
   ·obtain rfl : k = n := by omega
    go_wp2_with (at_builtin; refine wpList_append_own _ rfl _ _ 77 rfl w.heap.size 121 i0 (.agg #[.int .i64 0, .int .i64 0, .int .i64 0, .int .i64 0]) 4 32 Tryz.underlying77 Hi.out Hz0.out Hz1.out Hz2.out rfl (by decide) _ _ _ rfl (Hown.out.alloc _) ⟨wr.heap.size, 0, none⟩ 1 1 [.int .i64 13, .int .i64 0, .int .i64 0, .int .i64 0] rfl rfl ?c1 ?c2 ?c3 ?c4 ?c5 ?_)
    case c1 =>
     intro j u hj
     match j, hj with
     | 0, hj => simp at hj; subst hj; simp [Addr.add]
     | 1, hj => simp at hj; subst hj; simp [Addr.add]
     | 2, hj => simp at hj; subst hj; simp [Addr.add]
     | 3, hj => simp at hj; subst hj; simp [Addr.add]
     | (j + 4), hj => simp at hj
    case c2 => intro u hu; simp at hu; rcases hu with rfl | rfl | rfl | rfl <;> rfl
    case c3 => unfold maxLen; omega
    case c4 => omega
    case c5 => simp; omega
    intro v' w3 hown3 hg3 _
    obtain ⟨A', cap', rfl⟩ := own_form hown3
    have hbw3 : Below w.heap.size w w3 := (hbw.alloc hbw.size _).grown hg3 (by simp; omega) (fun k hk => own_blocks Hown.out k hk)
    have Hown3 := Lib.hid hown3
    clear hown3 hg3 Hown
    go_wp2
    go_ret
    exact plainPost_end Hacc.out hn30 Hfa.out Hown3.out hbw3
end Go.Proofs.YtnnhhbjbdmgpiaaGreatDoor
/- The laws' own: a list of raw things opened. -/
namespace Go.Proofs.YtnnhhbjbdmgpiaaGreatDoor
set_option maxRecDepth 100000
open Go.ChangeShapes Go.WideShapes Go.ChangeAt Go.RowKit Go.Deep
theorem fit_wf {z : Int} (h : (Lit.int .i64 z).wf = true) : Fit z := by
 simp [Lit.wf, IntKind.min, IntKind.max, IntKind.bits, IntKind.signed] at h
 exact ⟨by omega, by omega⟩
theorem open_fit {H : Type} {enc : TypeId × Value → H} {P : Program} {w : World} {r : Reach} {b0 : Nat} {t e : TypeId} {v : Value} {d : DataW H} {ps : List MemPlace}
  (ht : P.underlying t = some (.slice e)) (h4 : fourInts P e = true)
  (hv : Value.okWide P w r b0 t v) (h : DataW.Trod enc P w 0 (fun _ => true) true t v d ps) :
  ∃ (A : Option Addr) (cap : Nat) (l : List Cf.Ins), v = .slice A l.length cap ∧ Codes w A l ∧ l.length ≤ maxLen ∧ ∀ x ∈ l, FitI x := by
 obtain ⟨fs, he, hn, hC, hf⟩ := fourInts_of h4
 obtain ⟨A, len, cap, rfl⟩ := okWide_slice ht hv
 obtain ⟨fuel, h⟩ := h
 rcases open_slice ht h with ⟨hcs, _⟩ | ⟨a, len', cap', m, n, D, Pl, hcs, _, hle, hmax, hm, _, hi⟩
 ·simp [Value.cells] at hcs
  obtain ⟨rfl, rfl, rfl⟩ := hcs
  exact ⟨none, 0, [], rfl, .inl rfl, by simp, fun x hx => by cases hx⟩
 ·simp [Value.cells] at hcs
  obtain ⟨rfl, rfl, rfl⟩ := hcs
  simp at hm
  subst hm
  have hel : ∀ i, i < len → ∃ x : Cf.Ins, FitI x ∧ ∀ j u, (encI x)[j]? = some u → w.cell? (a.add (i * 4 + j)) = some u := by
   intro i hil
   obtain ⟨cs', hc, ht'⟩ := hi i (by omega)
   rw [hC] at hc
   obtain ⟨ys, n', _, _, hlen, hyl, hg⟩ := DataW.trod_struct he ht'
   obtain ⟨_, hcl, hat⟩ := World.cells?_some hc
   have one : ∀ j, j < 4 → ∃ z : Int, Fit z ∧ w.cell? (a.add (i * 4 + j)) = some (.int .i64 z) := by
    intro j hj
    have hj' := hf j hj
    rw [Option.map_eq_some_iff] at hj'
    obtain ⟨f, hfj, hfe⟩ := hj'
    simp only [Prod.mk.injEq] at hfe
    obtain ⟨ho, hu, hk⟩ := hfe
    have h1 := hg j f hfj
    rw [ho, hk] at h1
    have hys : ys[j]? = some (ys[j]'(by omega)) := List.getElem?_eq_getElem (by omega)
    obtain ⟨z, hz, _, hwf⟩ := DataW.trod_int hu (h1.trans hys)
    refine ⟨z, fit_wf hwf, ?_⟩
    have h0 := congrArg (·[0]?) hz
    simp [List.getElem?_drop] at h0
    rw [← Go.Deep.add_add, hat j (by omega)]
    exact h0
   obtain ⟨z0, t0, e0⟩ := one 0 (by omega)
   obtain ⟨z1, t1, e1⟩ := one 1 (by omega)
   obtain ⟨z2, t2, e2⟩ := one 2 (by omega)
   obtain ⟨z3, t3, e3⟩ := one 3 (by omega)
   refine ⟨⟨z0, z1, z2, z3⟩, ⟨t0, t1, t2, t3⟩, fun j u hu => ?_⟩
   match j, hu with
   | 0, hu => simp [encI] at hu; subst hu; exact e0
   | 1, hu => simp [encI] at hu; subst hu; exact e1
   | 2, hu => simp [encI] at hu; subst hu; exact e2
   | 3, hu => simp [encI] at hu; subst hu; exact e3
   | (j + 4), hu => simp [encI] at hu
  have hex : ∃ l : List Cf.Ins, l.length = len ∧ (∀ x ∈ l, FitI x) ∧ ∀ i x, l[i]? = some x → ∀ j u, (encI x)[j]? = some u → w.cell? (a.add (i * 4 + j)) = some u := by
   have : ∀ k, k ≤ len → ∃ l : List Cf.Ins, l.length = k ∧ (∀ x ∈ l, FitI x) ∧ ∀ i x, l[i]? = some x → ∀ j u, (encI x)[j]? = some u → w.cell? (a.add (i * 4 + j)) = some u := by
    intro k
    induction k with
    | zero => intro _; exact ⟨[], rfl, (fun x hx => by cases hx), fun i x hx => by simp at hx⟩
    | succ k ih =>
      intro hk
      obtain ⟨l, hl, hfit, hall⟩ := ih (by omega)
      obtain ⟨x, hxf, hx⟩ := hel k (by omega)
      refine ⟨l ++ [x], by simp [hl], (fun y hy => by rcases List.mem_append.1 hy with h | h; exact hfit y h; simp at h; rw [h]; exact hxf), fun i y hy => ?_⟩
      rw [List.getElem?_append] at hy
      split at hy
      ·exact hall i y hy
      ·have : i - l.length = 0 := by
        rcases Nat.eq_zero_or_pos (i - l.length) with h | h
        ·exact h
        ·rw [List.getElem?_eq_none (by simp; omega)] at hy; cases hy
       rw [this] at hy
       simp at hy
       subst hy
       have : i = k := by omega
       subst this
       exact hx
   exact this len (Nat.le_refl _)
  obtain ⟨l, rfl, hfit, hall⟩ := hex
  refine ⟨some a, _, l, rfl, ?_, by omega, hfit⟩
  cases l with
  | nil => exact .inl rfl
  | cons x l =>
    have h0 := hall 0 x rfl 0 _ rfl
    obtain ⟨b, off, spot⟩ := a
    have hspot : spot = none := by simpa [Addr.add] using World.cell?_spot h0
    subst hspot
    refine .inr ⟨b, off, rfl, ?_, fun i y hy j u hu => ?_⟩
    ·have := lt_of_cell h0
     simpa [Addr.add] using this
    ·have := hall i y hy j u hu
     rw [Go.WideShapes.add_plain] at this
     rwa [Nat.add_assoc]
theorem rawFields : fourInts Tryz.prog 45 = true := by kernel_rfl
end Go.Proofs.YtnnhhbjbdmgpiaaGreatDoor
/- Arguments opened: a struct of four numbers by value, a truth value. Of any program. -/
namespace Go.Proofs.YtnnhhbjbdmgpiaaGreatDoor
set_option maxRecDepth 100000
open Go.ChangeShapes Go.WideShapes Go.ChangeAt Go.RowKit Go.Deep
theorem open_raw {H : Type} {enc : TypeId × Value → H} {P : Program} {w : World} {r : Reach} {b0 : Nat} {t : TypeId} {v : Value} {d : DataW H} {ps : List MemPlace}
  (h4 : fourInts P t = true) (hv : Value.okWide P w r b0 t v) (h : DataW.Trod enc P w 0 (fun _ => true) true t v d ps) :
  ∃ k a b c : Int, v = .agg #[.int .i64 k, .int .i64 a, .int .i64 b, .int .i64 c] ∧ Fit k ∧ Fit a ∧ Fit b ∧ Fit c := by
 obtain ⟨fs, he, hn, hC, hf⟩ := fourInts_of h4
 simp only [Value.okWide, he] at hv
 obtain ⟨cs, rfl, hsz, _⟩ := hv
 obtain ⟨fuel, h⟩ := h
 obtain ⟨ys, n', _, _, hlen, hyl, hg⟩ := DataW.trod_struct he h
 have hc : (Value.agg cs).cells.toList = cs.toList := rfl
 rw [hc] at hg
 have one : ∀ j, j < 4 → ∃ z : Int, Fit z ∧ cs.toList[j]? = some (.int .i64 z) := by
  intro j hj
  have hj' := hf j hj
  rw [Option.map_eq_some_iff] at hj'
  obtain ⟨f, hfj, hfe⟩ := hj'
  simp only [Prod.mk.injEq] at hfe
  obtain ⟨ho, hu, hk⟩ := hfe
  have h1 := hg j f hfj
  rw [ho, hk] at h1
  have hys : ys[j]? = some (ys[j]'(by omega)) := List.getElem?_eq_getElem (by omega)
  obtain ⟨z, hz, _, hwf⟩ := DataW.trod_int hu (h1.trans hys)
  refine ⟨z, fit_wf hwf, ?_⟩
  have h0 := congrArg (·[0]?) hz
  simpa [List.getElem?_drop] using h0
 have hl : cs.toList.length = 4 := by rw [Array.length_toList, hsz, hC]
 obtain ⟨l⟩ := cs
 simp only at one hl
 match l, hl with
 | [c0, c1, c2, c3], _ =>
   obtain ⟨r0, f0, e0⟩ := one 0 (by omega)
   obtain ⟨r1, f1, e1⟩ := one 1 (by omega)
   obtain ⟨r2, f2, e2⟩ := one 2 (by omega)
   obtain ⟨r3, f3, e3⟩ := one 3 (by omega)
   simp at e0 e1 e2 e3
   exact ⟨r0, r1, r2, r3, by rw [e0, e1, e2, e3], f0, f1, f2, f3⟩
end Go.Proofs.YtnnhhbjbdmgpiaaGreatDoor
