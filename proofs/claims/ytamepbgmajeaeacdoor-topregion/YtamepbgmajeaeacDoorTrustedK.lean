/- Walks of the laws' own helpers: trusted code of raw things. -/
import Derived.Test.YtamepbgmajeaeacDoorCodeK
import Derived.Test.YtamepbgmajeaeacDoorPlainK
import Derived.Test.YtamepbgmajeaeacDoorMakeW
namespace Go.Proofs.YtamepbgmajeaeacDoor
open Go.RowKit

def TdRel (m : Nat) (w : World) (ov iv : Value) (wr : World) : Prop :=
  ∃ (k n cap : Nat) (A : Option Addr) (acc : List Cf.Ins), k ≤ m ∧ n ≤ 2 * k ∧ iv = .int .i64 k ∧ ov = .slice A n cap ∧ acc.length = n ∧ MRow wr w.heap.size (.slice A n cap) acc ∧ Below w.heap.size w wr
def TrustedPost (made : Bool) (w : World) (e : Ending) (w' : World) : Prop :=
  ∃ (A : Option Addr) (cap : Nat) (c : List Cf.Ins) (ok : Bool), e = .returned (.tuple #[.slice A c.length cap, .bool ok]) ∧ (ok = true → Cf.safeT c = 0) ∧ (made = true → ok = true) ∧ c.length ≤ 200 ∧ Codes w' A c ∧ Below w.heap.size w w'
theorem place_small {l : List Cf.Ins} (h : l.length ≤ 31) : (Cf.madeL l).length ≤ 93 := by
  rw [← madeK_all, madeK_len]
  have := Cf.place_le l l.length
  omega
set_option maxRecDepth 100000 in
set_option maxHeartbeats 4000000 in
theorem trusted_made (l : List Cf.Ins) (hf : ∀ x ∈ l, FitI x) (A0 : Option Addr) (c0 : Nat) (w : World) (hR : Codes w A0 l) (hm : l.length ≤ maxLen) (hL : TabL w) (hF : TabF w) :
    Calls Tryd.prog 6 #[.slice A0 l.length c0, .bool true] w (TrustedPost true w) := by
  have HP := Lib.hid (keepPlain_any l hf A0 c0 w hR hm)
  have HL := Lib.hid hL
  have HF := Lib.hid hF
  clear hL hF hR
  go_enter Tryd.func6, Tryd.ntmps6
  go_wp2_with fail
  refine HP.out.mono ?_
  rintro e w1 ⟨A, cp, pl, rfl, hpl, hpf, hpp, hpc, hb1⟩
  have hps := place_small hpl
  have HMT := Lib.hid (show Cf.madeT pl = ⟨Cf.madeL pl, 0⟩ by unfold Cf.madeT; rw [if_pos hpf, if_pos hpp, if_pos (by omega)])
  have HMS := Lib.hid (Cf.made_safe hpf hpp (by omega))
  have HMk := Lib.hid (make_any pl A cp w1 hpc (HL.out.below hb1) (HF.out.below hb1) (by unfold maxLen; omega))
  rw [HMT.out] at HMk
  clear hpf hpp hpc HMT HP
  go_wp2_with fail
  refine HMk.out.mono ?_
  rintro e w2 ⟨X, cx, rfl, hX, hb2⟩
  dsimp only at hX ⊢
  have hbw2 := hb1.trans (hb2.mono hb1.size)
  have HX := Lib.hid hX
  clear hb1 hb2 HMk hX
  go_wp2
  go_ret2
  exact ⟨X, cx, Cf.madeL pl, true, rfl, fun _ => HMS.out, fun _ => rfl, by omega, HX.out, hbw2⟩
set_option maxRecDepth 100000 in
set_option maxHeartbeats 4000000 in
theorem trusted_any (l : List Cf.Ins) (hf : ∀ x ∈ l, FitI x) (A0 : Option Addr) (c0 : Nat) (w : World) (hR : Codes w A0 l) (hm : l.length ≤ maxLen) (hL : TabL w) (hF : TabF w) :
    Calls Tryd.prog 6 #[.slice A0 l.length c0, .bool false] w (TrustedPost false w) := by
  obtain ⟨i0, hi, hz0, hz1, hz2⟩ := info_parts infoIns
  have Hi := Lib.hid hi
  have Hz0 := Lib.hid hz0
  have Hz1 := Lib.hid hz1
  have Hz2 := Lib.hid hz2
  have HP := Lib.hid (code_any l hf A0 c0 w hR hm)
  have HL := Lib.hid hL
  have HF := Lib.hid hF
  clear hL hF hR hi hz0 hz1 hz2 hm
  go_enter Tryd.func6, Tryd.ntmps6
  go_wp2_with fail
  refine HP.out.mono ?_
  rintro e w1 ⟨A1, cp, pl, rfl, hpl, _, hpc, hb1⟩
  have HPC := Lib.hid hpc
  have hz1' := hb1.size
  clear hpc HP
  go_wp2
  go_loopw [8, 24] (fun ov iv wr => TdRel pl.length w1 ov iv wr) (fun _ iv _ => pl.length - (intOf iv).toNat)
  case atStart => exact ⟨0, 0, 0, none, [], by omega, by omega, rfl, rfl, rfl, World.ownsRow_nil _ _ _ _, Below.refl _ _⟩
  case round =>
    obtain ⟨k, n, cap, A, acc, hk, hn, rfl, rfl, hacc, hrow, hbw⟩ := hrel
    have Hacc := Lib.hid hacc
    have hwz := hbw.size
    clear hacc
    by_cases hlt : k < pl.length
    · obtain ⟨op, a, b, c, hx⟩ : ∃ op a b' c', pl[k]? = some ⟨op, a, b', c'⟩ := ⟨_, _, _, _, List.getElem?_eq_getElem hlt⟩
      obtain ⟨g, off, rfl, hgl, hc⟩ := HPC.out.at_ (by intro e; rw [e] at hlt; simp at hlt)
      obtain ⟨p0, p1, p2, p3⟩ := hc k op a b c hx
      have r0 := (hbw.cell hgl).trans p0
      have r1 := (hbw.cell hgl).trans p1
      have r2 := (hbw.cell hgl).trans p2
      have r3 := (hbw.cell hgl).trans p3
      have HSt := Lib.hid (fun (x0 x1 x2 x3 : Int) => (⟨hrow.alloc _, World.ownsRow_nil _ _ _ _, Wb.new wr _ [.int .i64 x0, .int .i64 x1, .int .i64 x2, .int .i64 x3], fun e => by have := (hrow.lt _ e).2; omega, hbw.alloc hwz _⟩ : MkSt w1 w1.heap.size (.slice none 0 0) [] wr.heap.size [.int .i64 x0, .int .i64 x1, .int .i64 x2, .int .i64 x3] (.slice A n cap) acc (wr.alloc (.cells #[.int .i64 x0, .int .i64 x1, .int .i64 x2, .int .i64 x3] 47))))
      clear hc hx p0 p1 p2 p3 hrow hbw
      by_cases h8 : op = 8
      · have e8 := eqb h8
        clear h8
        have Hst6 := Lib.hid ((HSt.out op a 4 c).alloc (.cells #[.int .i64 op, .int .i64 a, .int .i64 4, .int .i64 c] 47) (by simp; omega))
        go_wp2_with (at_builtin; refine wpList_append_own_at _ rfl _ _ 25 rfl w1.heap.size 47 i0 (.agg #[.int .i64 0, .int .i64 0, .int .i64 0, .int .i64 0]) 4 32 Tryd.underlying25 Hi.out Hz0.out Hz1.out Hz2.out rfl (by decide) _ n _ rfl (show World.ownsRow _ _ _ _ _ _ ((acc).flatMap encI) by have h := Hst6.out.row; unfold MRow at h; rw [Hacc.out] at h; exact h) ⟨wr.heap.size + 1, 0, none⟩ 1 1 [.int .i64 op, .int .i64 a, .int .i64 4, .int .i64 c] rfl rfl (new_cells _ _ [.int .i64 op, .int .i64 a, .int .i64 4, .int .i64 c] (by simp)) (by intro u hu; simp at hu; rcases hu with rfl | rfl | rfl | rfl <;> rfl) (by unfold maxLen; omega) (by omega) (by simp; omega) ?_)
        intro v9 w7 hown7 hg7 _ hat7
        obtain ⟨A9, cap9, rfl⟩ := own_form hown7
        have Hst7 := Lib.hid (Hst6.out.grow Hacc.out (by simp; omega) (ys := [⟨op, a, 4, c⟩]) hown7 hg7 rfl hat7 (by simp))
        clear hown7 hg7 hat7 Hst6
        go_wp2
        go_roundw
        case rel => exact ⟨k + 1, n + 1, cap9, A9, acc ++ [⟨op, a, 4, c⟩], by omega, by omega, by go_num, rfl, by simp [Hacc.out], Hst7.out.row, Hst7.out.bel⟩
        case measure => simp [intOf]; omega
      · have e8 := neb h8
        by_cases h9 : op = 9
        · have e9 := eqb h9
          clear h8 h9
          have Hst6 := Lib.hid ((HSt.out op a 4 c).alloc (.cells #[.int .i64 op, .int .i64 a, .int .i64 4, .int .i64 c] 47) (by simp; omega))
          go_wp2_with (at_builtin; refine wpList_append_own_at _ rfl _ _ 25 rfl w1.heap.size 47 i0 (.agg #[.int .i64 0, .int .i64 0, .int .i64 0, .int .i64 0]) 4 32 Tryd.underlying25 Hi.out Hz0.out Hz1.out Hz2.out rfl (by decide) _ n _ rfl (show World.ownsRow _ _ _ _ _ _ ((acc).flatMap encI) by have h := Hst6.out.row; unfold MRow at h; rw [Hacc.out] at h; exact h) ⟨wr.heap.size + 1, 0, none⟩ 1 1 [.int .i64 op, .int .i64 a, .int .i64 4, .int .i64 c] rfl rfl (new_cells _ _ [.int .i64 op, .int .i64 a, .int .i64 4, .int .i64 c] (by simp)) (by intro u hu; simp at hu; rcases hu with rfl | rfl | rfl | rfl <;> rfl) (by unfold maxLen; omega) (by omega) (by simp; omega) ?_)
          intro v9 w7 hown7 hg7 _ hat7
          obtain ⟨A9, cap9, rfl⟩ := own_form hown7
          have Hst7 := Lib.hid (Hst6.out.grow Hacc.out (by simp; omega) (ys := [⟨op, a, 4, c⟩]) hown7 hg7 rfl hat7 (by simp))
          clear hown7 hg7 hat7 Hst6
          go_wp2
          go_roundw
          case rel => exact ⟨k + 1, n + 1, cap9, A9, acc ++ [⟨op, a, 4, c⟩], by omega, by omega, by go_num, rfl, by simp [Hacc.out], Hst7.out.row, Hst7.out.bel⟩
          case measure => simp [intOf]; omega
        · have e9 := neb h9
          clear h8 h9
          by_cases h4 : op = 4
          · have e4 := eqb h4
            clear h4
            by_cases ha : a = 4
            · have ea := eqb ha
              clear ha
              have Hst6 := Lib.hid ((HSt.out op a b 6).alloc (.cells #[.int .i64 op, .int .i64 a, .int .i64 b, .int .i64 6] 47) (by simp; omega))
              go_wp2_with (at_builtin; refine wpList_append_own_at _ rfl _ _ 25 rfl w1.heap.size 47 i0 (.agg #[.int .i64 0, .int .i64 0, .int .i64 0, .int .i64 0]) 4 32 Tryd.underlying25 Hi.out Hz0.out Hz1.out Hz2.out rfl (by decide) _ n _ rfl (show World.ownsRow _ _ _ _ _ _ ((acc).flatMap encI) by have h := Hst6.out.row; unfold MRow at h; rw [Hacc.out] at h; exact h) ⟨wr.heap.size + 1, 0, none⟩ 1 1 [.int .i64 op, .int .i64 a, .int .i64 b, .int .i64 6] rfl rfl (new_cells _ _ [.int .i64 op, .int .i64 a, .int .i64 b, .int .i64 6] (by simp)) (by intro u hu; simp at hu; rcases hu with rfl | rfl | rfl | rfl <;> rfl) (by unfold maxLen; omega) (by omega) (by simp; omega) ?_)
              intro v7 w7 hown7 hg7 _ hat7
              obtain ⟨A', cap', rfl⟩ := own_form hown7
              have Hst7 := Lib.hid (Hst6.out.grow Hacc.out (by simp; omega) (ys := [⟨op, a, b, 6⟩]) hown7 hg7 rfl hat7 (by simp))
              have hz7 : wr.heap.size < w7.heap.size := Hst7.out.blk.lt
              obtain ⟨q0, q1, q2, q3⟩ := Hst7.out.cells
              have z0 := Hst7.out.blk.open_ 0
              have z1 := Hst7.out.blk.open_ 1
              have z2 := Hst7.out.blk.open_ 2
              have z3 := Hst7.out.blk.open_ 3
              have Hst8 := Lib.hid ((((Hst7.out.put hwz 0 (.int .i64 5)).put hwz 1 (.int .i64 4)).put hwz 2 (.int .i64 4)).put hwz 3 (.int .i64 5))
              have Hst9 := Lib.hid (show MkSt w1 w1.heap.size (.slice none 0 0) [] wr.heap.size [.int .i64 5, .int .i64 4, .int .i64 4, .int .i64 5] (.slice A' (n + 1) cap') (acc ++ [⟨op, a, b, 6⟩]) _ from Hst8.out.alloc (.cells #[.int .i64 5, .int .i64 4, .int .i64 4, .int .i64 5] 47) (by simp; omega))
              have Hac2 := Lib.hid (show (acc ++ [(⟨op, a, b, 6⟩ : Cf.Ins)]).length = n + 1 by simp [Hacc.out])
              clear hown7 hg7 hat7 Hst6 Hst7 Hst8 HSt
              generalize acc ++ [(⟨op, a, b, 6⟩ : Cf.Ins)] = acc2 at *
              go_wp2_with (at_builtin; refine wpList_append_own_at _ rfl _ _ 25 rfl w1.heap.size 47 i0 (.agg #[.int .i64 0, .int .i64 0, .int .i64 0, .int .i64 0]) 4 32 Tryd.underlying25 Hi.out Hz0.out Hz1.out Hz2.out rfl (by decide) _ (n + 1) _ rfl (show World.ownsRow _ _ _ _ _ _ ((acc2).flatMap encI) by have h := Hst9.out.row; unfold MRow at h; rw [Hac2.out] at h; exact h) ⟨w7.heap.size, 0, none⟩ 1 1 [.int .i64 5, .int .i64 4, .int .i64 4, .int .i64 5] rfl rfl (new_cells _ _ [.int .i64 5, .int .i64 4, .int .i64 4, .int .i64 5] (by simp)) (by intro u hu; simp at hu; rcases hu with rfl | rfl | rfl | rfl <;> rfl) (by unfold maxLen; omega) (by omega) (by simp; omega) ?_)
              intro v9 w10 hown7 hg7 _ hat7
              obtain ⟨A9, cap9, rfl⟩ := own_form hown7
              have Hst10 := Lib.hid (Hst9.out.grow Hac2.out (by simp; omega) (ys := [⟨5, 4, 4, 5⟩]) hown7 hg7 rfl hat7 (by simp))
              clear hown7 hg7 hat7 Hst9
              go_wp2
              go_roundw
              case rel => exact ⟨k + 1, n + 1 + 1, cap9, A9, acc2 ++ [⟨5, 4, 4, 5⟩], by omega, by omega, by go_num, rfl, by simp [Hac2.out], Hst10.out.row, Hst10.out.bel⟩
              case measure => simp [intOf]; omega
            · have ea := neb ha
              clear ha
              have Hst6 := Lib.hid ((HSt.out op a b c).alloc (.cells #[.int .i64 op, .int .i64 a, .int .i64 b, .int .i64 c] 47) (by simp; omega))
              go_wp2_with (at_builtin; refine wpList_append_own_at _ rfl _ _ 25 rfl w1.heap.size 47 i0 (.agg #[.int .i64 0, .int .i64 0, .int .i64 0, .int .i64 0]) 4 32 Tryd.underlying25 Hi.out Hz0.out Hz1.out Hz2.out rfl (by decide) _ n _ rfl (show World.ownsRow _ _ _ _ _ _ ((acc).flatMap encI) by have h := Hst6.out.row; unfold MRow at h; rw [Hacc.out] at h; exact h) ⟨wr.heap.size + 1, 0, none⟩ 1 1 [.int .i64 op, .int .i64 a, .int .i64 b, .int .i64 c] rfl rfl (new_cells _ _ [.int .i64 op, .int .i64 a, .int .i64 b, .int .i64 c] (by simp)) (by intro u hu; simp at hu; rcases hu with rfl | rfl | rfl | rfl <;> rfl) (by unfold maxLen; omega) (by omega) (by simp; omega) ?_)
              intro v9 w7 hown7 hg7 _ hat7
              obtain ⟨A9, cap9, rfl⟩ := own_form hown7
              have Hst7 := Lib.hid (Hst6.out.grow Hacc.out (by simp; omega) (ys := [⟨op, a, b, c⟩]) hown7 hg7 rfl hat7 (by simp))
              clear hown7 hg7 hat7 Hst6
              go_wp2
              go_roundw
              case rel => exact ⟨k + 1, n + 1, cap9, A9, acc ++ [⟨op, a, b, c⟩], by omega, by omega, by go_num, rfl, by simp [Hacc.out], Hst7.out.row, Hst7.out.bel⟩
              case measure => simp [intOf]; omega
          · have e4 := neb h4
            clear h4
            have Hst6 := Lib.hid ((HSt.out op a b c).alloc (.cells #[.int .i64 op, .int .i64 a, .int .i64 b, .int .i64 c] 47) (by simp; omega))
            go_wp2_with (at_builtin; refine wpList_append_own_at _ rfl _ _ 25 rfl w1.heap.size 47 i0 (.agg #[.int .i64 0, .int .i64 0, .int .i64 0, .int .i64 0]) 4 32 Tryd.underlying25 Hi.out Hz0.out Hz1.out Hz2.out rfl (by decide) _ n _ rfl (show World.ownsRow _ _ _ _ _ _ ((acc).flatMap encI) by have h := Hst6.out.row; unfold MRow at h; rw [Hacc.out] at h; exact h) ⟨wr.heap.size + 1, 0, none⟩ 1 1 [.int .i64 op, .int .i64 a, .int .i64 b, .int .i64 c] rfl rfl (new_cells _ _ [.int .i64 op, .int .i64 a, .int .i64 b, .int .i64 c] (by simp)) (by intro u hu; simp at hu; rcases hu with rfl | rfl | rfl | rfl <;> rfl) (by unfold maxLen; omega) (by omega) (by simp; omega) ?_)
            intro v9 w7 hown7 hg7 _ hat7
            obtain ⟨A9, cap9, rfl⟩ := own_form hown7
            have Hst7 := Lib.hid (Hst6.out.grow Hacc.out (by simp; omega) (ys := [⟨op, a, b, c⟩]) hown7 hg7 rfl hat7 (by simp))
            clear hown7 hg7 hat7 Hst6
            go_wp2
            go_roundw
            case rel => exact ⟨k + 1, n + 1, cap9, A9, acc ++ [⟨op, a, b, c⟩], by omega, by omega, by go_num, rfl, by simp [Hacc.out], Hst7.out.row, Hst7.out.bel⟩
            case measure => simp [intOf]; omega
    · obtain rfl : k = pl.length := by omega
      have hbw' := hb1.trans (hbw.mono hb1.size)
      have Hcodes := Lib.hid (show Codes wr A acc by
        refine own_rd encI_len (base := w1.heap.size) (e := 47) (cap := cap) ?_
        have h := hrow
        unfold MRow at h
        rw [Hacc.out] at h ⊢
        exact h)
      have HV := Lib.hid (verify_any acc A cap wr Hcodes.out (HL.out.below hbw') (HF.out.below hbw') (by unfold maxLen; rw [Hacc.out]; omega))
      rw [Hacc.out] at HV
      clear hrow
      go_wp2_with fail
      refine HV.out.mono ?_
      rintro e w2 ⟨rfl, hb2⟩
      have hbw2 := hbw'.trans (hb2.mono hbw'.size)
      have HC2 := Lib.hid (Hcodes.out.below hb2)
      clear hb2 HV Hcodes
      generalize hsv : Cf.safeT acc = sv
      have Hsv := Lib.hid hsv
      clear hsv
      by_cases hs0 : sv = 0
      · have e0 := eqb hs0
        have HS0 := Lib.hid hs0
        clear hs0
        go_wp2
        go_ret2
        exact ⟨A, cap, acc, true, by rw [Hacc.out]; rfl, fun _ => Hsv.out.trans HS0.out, fun _ => rfl, by rw [Hacc.out]; omega, HC2.out, hbw2⟩
      · have e0 := neb hs0
        clear hs0
        go_wp2
        go_ret2
        exact ⟨A, cap, acc, false, by rw [Hacc.out]; rfl, fun h => (by cases h), fun h => h, by rw [Hacc.out]; omega, HC2.out, hbw2⟩
end Go.Proofs.YtamepbgmajeaeacDoor
