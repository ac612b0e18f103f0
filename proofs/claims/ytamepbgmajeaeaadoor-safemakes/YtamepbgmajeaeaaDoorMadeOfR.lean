/- Walks of chapter 3: the reference's MadeOf. -/
import Derived.Test.YtamepbgmajeaeaaDoorPlainR
import Derived.Test.YtamepbgmajeaeaaDoorMakeW
namespace Go.Proofs.YtamepbgmajeaeaaDoor
open Go.RowKit

def MoRel (l : List Cf.Ins) (w : World) (mv iv : Value) (wr : World) : Prop :=
  ∃ (k cap : Nat) (A : Option Addr), k ≤ l.length ∧ iv = .int .i64 k ∧ mv = .slice A (Cf.place l k) cap ∧ MRow wr w.heap.size (.slice A (Cf.place l k) cap) (madeK l k) ∧ Below w.heap.size w wr
theorem place_ge (l : List Cf.Ins) : ∀ k, k ≤ l.length → k ≤ Cf.place l k := by
  intro k
  induction k with
  | zero => intro _; omega
  | succ k ih =>
    intro hk
    obtain ⟨i, hx⟩ : ∃ i, l[k]? = some i := ⟨_, List.getElem?_eq_getElem (by omega)⟩
    rw [Cf.place_next hx]
    have := Cf.wid_pos i
    have := ih (by omega)
    omega
set_option maxRecDepth 100000 in
set_option maxHeartbeats 8000000 in
theorem madeOf_any (l : List Cf.Ins) (A0 : Option Addr) (c0 : Nat) (w : World) (hR : Codes w A0 l) (hm : l.length ≤ maxLen) :
    Calls Tryd.prog 32 #[.slice A0 l.length c0] w (MakePost (Cf.madeT l) w) := by
  have HV := Lib.hid (codeFault_any l A0 c0 w hR hm)
  by_cases hf : Cf.fault l = 0
  · rw [hf] at HV
    cases hp : Cf.plainB l
    · have HM := Lib.hid (show Cf.madeT l = ⟨[], 10⟩ by unfold Cf.madeT; rw [if_pos hf, hp]; rfl)
      have HP := Lib.hid (fun w' hb => plainMay_any l A0 c0 w' (hR.below (w' := w') hb) hm)
      rw [hp] at HP
      clear hf hp hR
      go_enter Tryd.func32, Tryd.ntmps32
      go_wp2_with fail
      refine HV.out.mono ?_
      rintro e w1 ⟨rfl, hb1⟩
      go_wp2_with fail
      refine (HP.out w1 hb1).mono ?_
      rintro e w2 ⟨rfl, hb2⟩
      have hbw2 := hb1.trans (hb2.mono hb1.size)
      clear hb1 hb2 HP HV
      go_wp2
      go_ret2
      exact makePost_bad HM.out hbw2
    · have HP := Lib.hid (fun w' hb => plainMay_any l A0 c0 w' (hR.below (w' := w') hb) hm)
      rw [hp] at HP
      have h200 := Cf.fault_len l hf
      obtain ⟨i0, hi, hz0, hz1, hz2⟩ := info_parts infoIns
      have Hi := Lib.hid hi
      have Hz0 := Lib.hid hz0
      have Hz1 := Lib.hid hz1
      have Hz2 := Lib.hid hz2
      have Hf := Lib.hid hf
      have Hp := Lib.hid hp
      have HR := Lib.hid hR
      have HLE := Lib.hid (show (Cf.madeL l).length = Cf.place l l.length by rw [← madeK_all, madeK_len])
      have hne : l ≠ [] := by
        intro e
        rw [e] at hp
        cases hp
      obtain ⟨g, off, rfl, hgl, hc⟩ := hR.at_ hne
      have Hc := Lib.hid hc
      clear hi hz0 hz1 hz2 hf hp hR hm hc hne
      go_enter Tryd.func32, Tryd.ntmps32
      go_wp2_with fail
      refine HV.out.mono ?_
      rintro e w1 ⟨rfl, hb1⟩
      go_wp2_with fail
      refine (HP.out w1 hb1).mono ?_
      rintro e w2 ⟨rfl, hb2⟩
      have hbw2 := hb1.trans (hb2.mono hb1.size)
      clear hb1 hb2 HP HV
      go_wp2
      go_loopw [5, 6] (fun mv iv wr => MoRel l w mv iv wr) (fun _ iv _ => l.length - (intOf iv).toNat)
      case atStart => exact ⟨0, 0, none, by omega, rfl, rfl, World.ownsRow_nil _ _ _ _, hbw2⟩
      case round =>
        obtain ⟨k, cap, A, hk, rfl, rfl, hrowM, hbw⟩ := hrel
        have hwz := hbw.size
        have hpk := Cf.place_le l k
        have HML := Lib.hid (madeK_len l k)
        by_cases hlt : k < l.length
        · obtain ⟨op, a, b, c, hx⟩ : ∃ op a b' c', l[k]? = some ⟨op, a, b', c'⟩ := ⟨_, _, _, _, List.getElem?_eq_getElem hlt⟩
          obtain ⟨p0, p1, p2, p3⟩ := Hc.out k op a b c hx
          have r0 := (hbw.cell hgl).trans p0
          have r1 := (hbw.cell hgl).trans p1
          have r2 := (hbw.cell hgl).trans p2
          have r3 := (hbw.cell hgl).trans p3
          have HN := Lib.hid (madeK_next hx)
          have HPN := Lib.hid (Cf.place_next hx)
          have HX := Lib.hid hx
          have Hst := Lib.hid (show MkSt w w.heap.size (.slice none 0 0) [] wr.heap.size [.int .i64 op, .int .i64 a, .int .i64 b, .int .i64 c] (.slice A (Cf.place l k) cap) (madeK l k) (wr.alloc (.cells #[.int .i64 op, .int .i64 a, .int .i64 b, .int .i64 c] 35)) from
            ⟨hrowM.alloc _, World.ownsRow_nil _ _ _ _, Wb.new wr _ [_, _, _, _], fun e => by have := (hrowM.lt _ e).2; omega, hbw.alloc hwz _⟩)
          have HbwL := Lib.hid hbw
          clear hx p0 p1 p2 p3 hrowM hbw
          generalize hpp : Cf.place l k = pk at *
          clear hpp
          generalize hmm : madeK l k = mk at *
          clear hmm
          cases hl : Cf.ldst ⟨op, a, b, c⟩
          · have HW1 := Lib.hid (show Cf.wid ⟨op, a, b, c⟩ = 1 by unfold Cf.wid; rw [hl]; rfl)
            have HL0 := Lib.hid hl
            have h89 : ¬ op = 8 ∧ ¬ op = 9 := by simpa [Cf.ldst] using hl
            have e8 := neb h89.1
            have e9 := neb h89.2
            clear hl h89
            go_wp2_with fail
            refine (jumps_any op a b c _).mono ?_
            rintro e w5 ⟨rfl, hb5⟩
            have Hst5 := Lib.hid (Hst.out.below hb5 (by simp; omega))
            have hz5 : wr.heap.size < w5.heap.size := Hst5.out.blk.lt
            clear hb5 Hst r0 r1 r2 r3
            cases hj : Cf.jumpsB ⟨op, a, b, c⟩
            · have HT := Lib.hid (show Cf.tri l ⟨op, a, b, c⟩ = [⟨op, a, b, c⟩] by unfold Cf.tri; rw [HL0.out, hj]; rfl)
              clear hj
              obtain ⟨q0, q1, q2, q3⟩ := Hst5.out.cells
              have Hst6 := Lib.hid (Hst5.out.alloc (.cells #[.int .i64 op, .int .i64 a, .int .i64 b, .int .i64 c] 35) (by omega))
              clear Hst5
              go_wp2_with (at_builtin; refine wpList_append_own_at _ rfl _ _ 22 rfl w.heap.size 35 i0 (.agg #[.int .i64 0, .int .i64 0, .int .i64 0, .int .i64 0]) 4 32 Tryd.underlying22 Hi.out Hz0.out Hz1.out Hz2.out rfl (by decide) _ pk _ rfl (show World.ownsRow _ _ _ _ _ _ ((mk).flatMap encI) by have h := Hst6.out.row; unfold MRow at h; rw [HML.out] at h; exact h) ⟨w5.heap.size, 0, none⟩ 1 1 [.int .i64 op, .int .i64 a, .int .i64 b, .int .i64 c] rfl rfl (new_cells _ _ [.int .i64 op, .int .i64 a, .int .i64 b, .int .i64 c] (by simp)) (by intro u hu; simp at hu; rcases hu with rfl | rfl | rfl | rfl <;> rfl) (by unfold maxLen; omega) (by omega) (by simp; omega) ?_)
              intro v9 w7 hown7 hg7 _ hat7
              obtain ⟨A9, cap9, rfl⟩ := own_form hown7
              have Hst7 := Lib.hid (Hst6.out.grow HML.out (by simp; omega) (ys := [⟨op, a, b, c⟩]) hown7 hg7 rfl hat7 (by simp))
              clear hown7 hg7 hat7 Hst6
              go_wp2
              go_roundw
              case rel =>
                refine ⟨k + 1, cap9, A9, by omega, by go_num, by (rw [HPN.out, HW1.out]; try rfl), ?_, Hst7.out.bel⟩
                have h := Hst7.out.row
                rw [HN.out, HT.out, HPN.out, HW1.out]
                exact h
              case measure => simp [intOf]; omega
            · obtain ⟨cn, hcn, hcl⟩ : ∃ cn : Nat, c = cn ∧ cn < l.length := by
                have h1 := ((Cf.plain_parts Hp.out).2 _ (List.mem_of_getElem? HX.out)).2.2.2 hj
                have h2 := (Cf.chk_parts _ (Cf.faultIn_mem l (Cf.fault_two Hf.out).1 k _ HX.out)).2.2.2.1
                dsimp only at h1 h2
                exact ⟨c.toNat, by omega, by omega⟩
              subst hcn
              have HT0 := Lib.hid (show Cf.tri l ⟨op, a, b, cn⟩ = [⟨op, a, b, Cf.place l cn⟩] by unfold Cf.tri; rw [HL0.out, hj]; rfl)
              clear hj
              obtain ⟨q0, q1, q2, q3⟩ := Hst5.out.cells
              have fz := Hst5.out.blk.open_ 3
              have Hbel := Lib.hid Hst5.out.bel
              go_wp2
              go_loop [8, 9] (fun mv jv => ∃ (j : Nat) (m : Int), j ≤ cn ∧ jv = .int .i64 j ∧ mv = .int .i64 m ∧ m = (Cf.place l j : Int) - j) (fun _ jv => cn - (intOf jv).toNat)
              case atStart => exact ⟨0, 0, by omega, rfl, rfl, rfl⟩
              case round =>
                obtain ⟨j, m, hj, rfl, rfl, hmj⟩ := hrel
                have hlj := Cf.place_le l j
                have hgj := place_ge l j (by omega)
                have hm0 : 0 ≤ m := by omega
                have hm1 : m ≤ 600 := by omega
                have Hmj := Lib.hid hmj
                clear hmj
                by_cases hjc : j < cn
                · obtain ⟨op2, a2, b2, c2, hx2⟩ : ∃ op a b' c', l[j]? = some ⟨op, a, b', c'⟩ := ⟨_, _, _, _, List.getElem?_eq_getElem (by omega)⟩
                  obtain ⟨s0, _⟩ := Hc.out j op2 a2 b2 c2 hx2
                  have t0 := (Hbel.out.cell hgl).trans s0
                  have HP2 := Lib.hid (Cf.place_next hx2)
                  clear s0 hx2
                  by_cases h8 : op2 = 8
                  · have e8' := eqb h8
                    have HW := Lib.hid (show Cf.wid ⟨op2, a2, b2, c2⟩ = 3 by simp [Cf.wid, Cf.ldst, h8])
                    clear h8
                    go_wp2
                    go_round
                    case rel => exact ⟨j + 1, m + 2, by omega, by go_num, by go_num, by have h1 := Hmj.out; have h2 := HP2.out; rw [HW.out] at h2; omega⟩
                    case measure => simp [intOf]; omega
                  · have e8' := neb h8
                    by_cases h9 : op2 = 9
                    · have e9' := eqb h9
                      have HW := Lib.hid (show Cf.wid ⟨op2, a2, b2, c2⟩ = 3 by simp [Cf.wid, Cf.ldst, h9])
                      clear h8 h9
                      go_wp2
                      go_round
                      case rel => exact ⟨j + 1, m + 2, by omega, by go_num, by go_num, by have h1 := Hmj.out; have h2 := HP2.out; rw [HW.out] at h2; omega⟩
                      case measure => simp [intOf]; omega
                    · have e9' := neb h9
                      have HW := Lib.hid (show Cf.wid ⟨op2, a2, b2, c2⟩ = 1 by simp [Cf.wid, Cf.ldst, h8, h9])
                      clear h8 h9
                      go_wp2
                      go_round
                      case rel => exact ⟨j + 1, m + 0, by omega, by go_num, by go_num, by have h1 := Hmj.out; have h2 := HP2.out; rw [HW.out] at h2; omega⟩
                      case measure => simp [intOf]; omega
                · obtain rfl : j = cn := by omega
                  have HT := Lib.hid (show Cf.tri l ⟨op, a, b, j⟩ = [⟨op, a, b, (j : Int) + m⟩] by rw [HT0.out, show (Cf.place l j : Int) = j + m by have := Hmj.out; omega])
                  have Hst5b := Lib.hid (Hst5.out.put hwz 3 (.int .i64 ((j : Int) + m)))
                  have Hst6 := Lib.hid (show MkSt w w.heap.size (.slice none 0 0) [] wr.heap.size [.int .i64 op, .int .i64 a, .int .i64 b, .int .i64 ((j : Int) + m)] (.slice A pk cap) mk _ from Hst5b.out.alloc (.cells #[.int .i64 op, .int .i64 a, .int .i64 b, .int .i64 ((j : Int) + m)] 35) (by simp; omega))
                  clear Hst5 Hst5b
                  go_wp2_with (at_builtin; refine wpList_append_own_at _ rfl _ _ 22 rfl w.heap.size 35 i0 (.agg #[.int .i64 0, .int .i64 0, .int .i64 0, .int .i64 0]) 4 32 Tryd.underlying22 Hi.out Hz0.out Hz1.out Hz2.out rfl (by decide) _ pk _ rfl (show World.ownsRow _ _ _ _ _ _ ((mk).flatMap encI) by have h := Hst6.out.row; unfold MRow at h; rw [HML.out] at h; exact h) ⟨w5.heap.size, 0, none⟩ 1 1 [.int .i64 op, .int .i64 a, .int .i64 b, .int .i64 ((j : Int) + m)] rfl rfl (new_cells _ _ [.int .i64 op, .int .i64 a, .int .i64 b, .int .i64 ((j : Int) + m)] (by simp)) (by intro u hu; simp at hu; rcases hu with rfl | rfl | rfl | rfl <;> rfl) (by unfold maxLen; omega) (by omega) (by simp; omega) ?_)
                  intro v9 w7 hown7 hg7 _ hat7
                  obtain ⟨A9, cap9, rfl⟩ := own_form hown7
                  have Hst7 := Lib.hid (Hst6.out.grow HML.out (by simp; omega) (ys := [⟨op, a, b, (j : Int) + m⟩]) hown7 hg7 rfl hat7 (by simp))
                  clear hown7 hg7 hat7 Hst6
                  go_wp2
                  go_roundw
                  case rel =>
                    refine ⟨k + 1, cap9, A9, by omega, by go_num, by (rw [HPN.out, HW1.out]; try rfl), ?_, Hst7.out.bel⟩
                    have h := Hst7.out.row
                    rw [HN.out, HT.out, HPN.out, HW1.out]
                    exact h
                  case measure => simp [intOf]; omega
          · have HW3 := Lib.hid (show Cf.wid ⟨op, a, b, c⟩ = 3 by unfold Cf.wid; rw [hl]; rfl)
            have HT := Lib.hid (show Cf.tri l ⟨op, a, b, c⟩ = [⟨4, 4, b, 6⟩, ⟨5, 4, 4, 5⟩] ++ [⟨op, a, 4, c⟩] by unfold Cf.tri; rw [hl]; rfl)
            have h89 : op = 8 ∨ op = 9 := by simpa [Cf.ldst] using hl
            have HJ := Lib.hid (show Cf.jumpsB ⟨op, a, 4, c⟩ = false by
              rcases h89 with h | h <;> simp [Cf.jumpsB, h])
            have Hst6 := Lib.hid (Hst.out.alloc (.cells #[.int .i64 4, .int .i64 4, .int .i64 b, .int .i64 6, .int .i64 5, .int .i64 4, .int .i64 4, .int .i64 5] 35) (by simp; omega))
            clear hl Hst
            by_cases h8 : op = 8
            · have e8 := eqb h8
              clear h8 h89
              go_wp2_with (at_builtin; refine wpList_append_own_at _ rfl _ _ 22 rfl w.heap.size 35 i0 (.agg #[.int .i64 0, .int .i64 0, .int .i64 0, .int .i64 0]) 4 32 Tryd.underlying22 Hi.out Hz0.out Hz1.out Hz2.out rfl (by decide) _ pk _ rfl (show World.ownsRow _ _ _ _ _ _ ((mk).flatMap encI) by have h := Hst6.out.row; unfold MRow at h; rw [HML.out] at h; exact h) ⟨(wr.heap.size + 1), 0, none⟩ 2 2 [.int .i64 4, .int .i64 4, .int .i64 b, .int .i64 6, .int .i64 5, .int .i64 4, .int .i64 4, .int .i64 5] rfl rfl (new_cells _ _ [.int .i64 4, .int .i64 4, .int .i64 b, .int .i64 6, .int .i64 5, .int .i64 4, .int .i64 4, .int .i64 5] (by simp)) (by intro u hu; simp at hu; rcases hu with rfl | rfl | rfl | rfl | rfl | rfl | rfl | rfl <;> rfl) (by unfold maxLen; omega) (by omega) (by simp; omega) ?_)
              intro v7 w7 hown7 hg7 _ hat7
              obtain ⟨A', cap', rfl⟩ := own_form hown7
              have Hst7 := Lib.hid (Hst6.out.grow HML.out (by simp; omega) (ys := [⟨4, 4, b, 6⟩, ⟨5, 4, 4, 5⟩]) hown7 hg7 rfl hat7 (by simp))
              have hz7 : wr.heap.size < w7.heap.size := Hst7.out.blk.lt
              obtain ⟨q0, q1, q2, q3⟩ := Hst7.out.cells
              have fz := Hst7.out.blk.open_ 2
              have Hst8 := Lib.hid (show MkSt w w.heap.size (.slice none 0 0) [] wr.heap.size [.int .i64 op, .int .i64 a, .int .i64 4, .int .i64 c] (.slice A' (pk + 2) cap') (mk ++ [⟨4, 4, b, 6⟩, ⟨5, 4, 4, 5⟩]) (w7.setCell ⟨wr.heap.size, 2, none⟩ (.int .i64 4)) from Hst7.out.put hwz 2 (.int .i64 4))
              have HJ8 := Lib.hid (jumps_any op a 4 c (w7.setCell ⟨wr.heap.size, 2, none⟩ (.int .i64 4)))
              rw [HJ.out] at HJ8
              clear hown7 hg7 hat7 Hst6 Hst7 HJ
              go_wp2_with fail
              refine HJ8.out.mono ?_
              rintro e w9 ⟨rfl, hb9⟩
              have Hst9 := Lib.hid (Hst8.out.below hb9 (by simp; omega))
              have hz9 : wr.heap.size < w9.heap.size := Hst9.out.blk.lt
              clear hb9 Hst8 HJ8 q0 q1 q2 q3 fz hz7 r0 r1 r2 r3
              obtain ⟨q0, q1, q2, q3⟩ := Hst9.out.cells
              have Hst6 := Lib.hid (Hst9.out.alloc (.cells #[.int .i64 op, .int .i64 a, .int .i64 4, .int .i64 c] 35) (by omega))
              have HML2 := Lib.hid (show (mk ++ [(⟨4, 4, b, 6⟩ : Cf.Ins), ⟨5, 4, 4, 5⟩]).length = pk + 2 by simp [HML.out])
              clear Hst9
              generalize hm2 : mk ++ [(⟨4, 4, b, 6⟩ : Cf.Ins), ⟨5, 4, 4, 5⟩] = mk2 at *
              have HM2 := Lib.hid hm2
              clear hm2
              go_wp2_with (at_builtin; refine wpList_append_own_at _ rfl _ _ 22 rfl w.heap.size 35 i0 (.agg #[.int .i64 0, .int .i64 0, .int .i64 0, .int .i64 0]) 4 32 Tryd.underlying22 Hi.out Hz0.out Hz1.out Hz2.out rfl (by decide) _ (pk + 2) _ rfl (show World.ownsRow _ _ _ _ _ _ ((mk2).flatMap encI) by have h := Hst6.out.row; unfold MRow at h; rw [HML2.out] at h; exact h) ⟨w9.heap.size, 0, none⟩ 1 1 [.int .i64 op, .int .i64 a, .int .i64 4, .int .i64 c] rfl rfl (new_cells _ _ [.int .i64 op, .int .i64 a, .int .i64 4, .int .i64 c] (by simp)) (by intro u hu; simp at hu; rcases hu with rfl | rfl | rfl | rfl <;> rfl) (by unfold maxLen; omega) (by omega) (by simp; omega) ?_)
              intro v9 w7 hown7 hg7 _ hat7
              obtain ⟨A9, cap9, rfl⟩ := own_form hown7
              have Hst7 := Lib.hid (Hst6.out.grow HML2.out (by simp; omega) (ys := [⟨op, a, 4, c⟩]) hown7 hg7 rfl hat7 (by simp))
              clear hown7 hg7 hat7 Hst6
              go_wp2
              go_roundw
              case rel =>
                refine ⟨k + 1, cap9, A9, by omega, by go_num, by (rw [HPN.out, HW3.out]; try rfl), ?_, Hst7.out.bel⟩
                have h := Hst7.out.row
                rw [HN.out, HT.out, HPN.out, HW3.out, ← List.append_assoc, HM2.out]
                exact h
              case measure => simp [intOf]; omega
            · have e8 := neb h8
              have e9 := eqb (show op = 9 by omega)
              clear h8 h89
              go_wp2_with (at_builtin; refine wpList_append_own_at _ rfl _ _ 22 rfl w.heap.size 35 i0 (.agg #[.int .i64 0, .int .i64 0, .int .i64 0, .int .i64 0]) 4 32 Tryd.underlying22 Hi.out Hz0.out Hz1.out Hz2.out rfl (by decide) _ pk _ rfl (show World.ownsRow _ _ _ _ _ _ ((mk).flatMap encI) by have h := Hst6.out.row; unfold MRow at h; rw [HML.out] at h; exact h) ⟨(wr.heap.size + 1), 0, none⟩ 2 2 [.int .i64 4, .int .i64 4, .int .i64 b, .int .i64 6, .int .i64 5, .int .i64 4, .int .i64 4, .int .i64 5] rfl rfl (new_cells _ _ [.int .i64 4, .int .i64 4, .int .i64 b, .int .i64 6, .int .i64 5, .int .i64 4, .int .i64 4, .int .i64 5] (by simp)) (by intro u hu; simp at hu; rcases hu with rfl | rfl | rfl | rfl | rfl | rfl | rfl | rfl <;> rfl) (by unfold maxLen; omega) (by omega) (by simp; omega) ?_)
              intro v7 w7 hown7 hg7 _ hat7
              obtain ⟨A', cap', rfl⟩ := own_form hown7
              have Hst7 := Lib.hid (Hst6.out.grow HML.out (by simp; omega) (ys := [⟨4, 4, b, 6⟩, ⟨5, 4, 4, 5⟩]) hown7 hg7 rfl hat7 (by simp))
              have hz7 : wr.heap.size < w7.heap.size := Hst7.out.blk.lt
              obtain ⟨q0, q1, q2, q3⟩ := Hst7.out.cells
              have fz := Hst7.out.blk.open_ 2
              have Hst8 := Lib.hid (show MkSt w w.heap.size (.slice none 0 0) [] wr.heap.size [.int .i64 op, .int .i64 a, .int .i64 4, .int .i64 c] (.slice A' (pk + 2) cap') (mk ++ [⟨4, 4, b, 6⟩, ⟨5, 4, 4, 5⟩]) (w7.setCell ⟨wr.heap.size, 2, none⟩ (.int .i64 4)) from Hst7.out.put hwz 2 (.int .i64 4))
              have HJ8 := Lib.hid (jumps_any op a 4 c (w7.setCell ⟨wr.heap.size, 2, none⟩ (.int .i64 4)))
              rw [HJ.out] at HJ8
              clear hown7 hg7 hat7 Hst6 Hst7 HJ
              go_wp2_with fail
              refine HJ8.out.mono ?_
              rintro e w9 ⟨rfl, hb9⟩
              have Hst9 := Lib.hid (Hst8.out.below hb9 (by simp; omega))
              have hz9 : wr.heap.size < w9.heap.size := Hst9.out.blk.lt
              clear hb9 Hst8 HJ8 q0 q1 q2 q3 fz hz7 r0 r1 r2 r3
              obtain ⟨q0, q1, q2, q3⟩ := Hst9.out.cells
              have Hst6 := Lib.hid (Hst9.out.alloc (.cells #[.int .i64 op, .int .i64 a, .int .i64 4, .int .i64 c] 35) (by omega))
              have HML2 := Lib.hid (show (mk ++ [(⟨4, 4, b, 6⟩ : Cf.Ins), ⟨5, 4, 4, 5⟩]).length = pk + 2 by simp [HML.out])
              clear Hst9
              generalize hm2 : mk ++ [(⟨4, 4, b, 6⟩ : Cf.Ins), ⟨5, 4, 4, 5⟩] = mk2 at *
              have HM2 := Lib.hid hm2
              clear hm2
              go_wp2_with (at_builtin; refine wpList_append_own_at _ rfl _ _ 22 rfl w.heap.size 35 i0 (.agg #[.int .i64 0, .int .i64 0, .int .i64 0, .int .i64 0]) 4 32 Tryd.underlying22 Hi.out Hz0.out Hz1.out Hz2.out rfl (by decide) _ (pk + 2) _ rfl (show World.ownsRow _ _ _ _ _ _ ((mk2).flatMap encI) by have h := Hst6.out.row; unfold MRow at h; rw [HML2.out] at h; exact h) ⟨w9.heap.size, 0, none⟩ 1 1 [.int .i64 op, .int .i64 a, .int .i64 4, .int .i64 c] rfl rfl (new_cells _ _ [.int .i64 op, .int .i64 a, .int .i64 4, .int .i64 c] (by simp)) (by intro u hu; simp at hu; rcases hu with rfl | rfl | rfl | rfl <;> rfl) (by unfold maxLen; omega) (by omega) (by simp; omega) ?_)
              intro v9 w7 hown7 hg7 _ hat7
              obtain ⟨A9, cap9, rfl⟩ := own_form hown7
              have Hst7 := Lib.hid (Hst6.out.grow HML2.out (by simp; omega) (ys := [⟨op, a, 4, c⟩]) hown7 hg7 rfl hat7 (by simp))
              clear hown7 hg7 hat7 Hst6
              go_wp2
              go_roundw
              case rel =>
                refine ⟨k + 1, cap9, A9, by omega, by go_num, by (rw [HPN.out, HW3.out]; try rfl), ?_, Hst7.out.bel⟩
                have h := Hst7.out.row
                rw [HN.out, HT.out, HPN.out, HW3.out, ← List.append_assoc, HM2.out]
                exact h
              case measure => simp [intOf]; omega
        · obtain rfl : k = l.length := by omega
          have Hcodes := Lib.hid (show Codes wr A (Cf.madeL l) by
            rw [← madeK_all]
            refine own_rd encI_len (base := w.heap.size) (e := 35) (cap := cap) ?_
            rw [madeK_len]
            have h := hrowM
            unfold MRow at h
            rw [madeK_len] at h
            exact h)
          clear hrowM
          generalize hpp : Cf.place l l.length = pl at *
          have HPP := Lib.hid hpp
          clear hpp
          by_cases hbig : 200 < pl
          · have HM := Lib.hid (show Cf.madeT l = ⟨[], 1⟩ by unfold Cf.madeT; rw [if_pos Hf.out, if_pos Hp.out, if_neg (by rw [HLE.out]; omega)])
            go_wp2
            go_ret2
            exact makePost_bad HM.out hbw
          · have HM := Lib.hid (show Cf.madeT l = ⟨Cf.madeL l, 0⟩ by unfold Cf.madeT; rw [if_pos Hf.out, if_pos Hp.out, if_pos (by rw [HLE.out]; omega)])
            go_wp2
            go_ret2
            refine ⟨A, cap, ?_, ?_, hbw⟩
            · rw [HM.out]
              show _ = Ending.returned (.tuple #[.slice A (Cf.madeL l).length cap, .int .i64 0])
              rw [HLE.out]
              rfl
            · rw [HM.out]
              exact Hcodes.out
  · have hf' : (Cf.fault l != 0) = true := by simp [hf]
    have hf2 : (Cf.fault l == 0) = false := by simp [hf]
    have HM := Lib.hid (show Cf.madeT l = ⟨[], Cf.fault l⟩ by unfold Cf.madeT; rw [if_neg hf])
    clear hf hR
    go_enter Tryd.func32, Tryd.ntmps32
    go_wp2_with fail
    refine HV.out.mono ?_
    rintro e w1 ⟨rfl, hb1⟩
    go_wp2
    go_ret2
    exact makePost_bad HM.out hb1
end Go.Proofs.YtamepbgmajeaeaaDoor
