/- Walks of chapter 3: the reference's SafeFault. -/
import Derived.Test.YtnnhhbjbdmgpiaaDoorCodeR
import Derived.Test.YtnnhhbjbdmgpiaaDoorOwnK
import Derived.Test.YtnnhhbjbdmgpiaaDoorSafeE
import Derived.Deep.CutRange
namespace Go.Proofs.YtnnhhbjbdmgpiaaDoor
set_option maxRecDepth 100000
open Go.RowKit

theorem stops_any (op a b c : Int) (w : World) :
    Calls Tryd.prog 45 #[.agg #[.int .i64 op, .int .i64 a, .int .i64 b, .int .i64 c]] w fun e w' => e = .returned (.bool (Cf.stopsB ⟨op, a, b, c⟩)) ∧ Below w.heap.size w w' := by
  by_cases h1 : op = 10
  · have e1 := eqb h1
    go_enter Tryd.func45, Tryd.ntmps45
    go_wp2
    go_ret
    exact ⟨by simp [Cf.stopsB, h1], (Below.refl _ _).alloc (Nat.le_refl _) _⟩
  · have e1 := neb h1
    by_cases h2 : op = 13
    · have e2 := eqb h2
      go_enter Tryd.func45, Tryd.ntmps45
      go_wp2
      go_ret
      exact ⟨by simp [Cf.stopsB, h2], (Below.refl _ _).alloc (Nat.le_refl _) _⟩
    · have e2 := neb h2
      by_cases h3 : op = 15
      · have e3 := eqb h3
        go_enter Tryd.func45, Tryd.ntmps45
        go_wp2
        go_ret
        exact ⟨by simp [Cf.stopsB, h3], (Below.refl _ _).alloc (Nat.le_refl _) _⟩
      · have e3 := neb h3
        go_enter Tryd.func45, Tryd.ntmps45
        go_wp2
        go_ret
        exact ⟨by simp [Cf.stopsB, h1, h2, h3], (Below.refl _ _).alloc (Nat.le_refl _) _⟩
theorem jumps_any (op a b c : Int) (w : World) :
    Calls Tryd.prog 47 #[.agg #[.int .i64 op, .int .i64 a, .int .i64 b, .int .i64 c]] w fun e w' => e = .returned (.bool (Cf.jumpsB ⟨op, a, b, c⟩)) ∧ Below w.heap.size w w' := by
  by_cases h1 : op = 10
  · have e1 := eqb h1
    go_enter Tryd.func47, Tryd.ntmps47
    go_wp2
    go_ret
    exact ⟨by simp [Cf.jumpsB, h1], (Below.refl _ _).alloc (Nat.le_refl _) _⟩
  · have e1 := neb h1
    by_cases h2 : op = 11
    · have e2 := eqb h2
      go_enter Tryd.func47, Tryd.ntmps47
      go_wp2
      go_ret
      exact ⟨by simp [Cf.jumpsB, h2], (Below.refl _ _).alloc (Nat.le_refl _) _⟩
    · have e2 := neb h2
      by_cases h3 : op = 12
      · have e3 := eqb h3
        go_enter Tryd.func47, Tryd.ntmps47
        go_wp2
        go_ret
        exact ⟨by simp [Cf.jumpsB, h3], (Below.refl _ _).alloc (Nat.le_refl _) _⟩
      · have e3 := neb h3
        go_enter Tryd.func47, Tryd.ntmps47
        go_wp2
        go_ret
        exact ⟨by simp [Cf.jumpsB, h1, h2, h3], (Below.refl _ _).alloc (Nat.le_refl _) _⟩
theorem orBase_any (op a b c : Int) (w : World) :
    Calls Tryd.prog 46 #[.agg #[.int .i64 op, .int .i64 a, .int .i64 b, .int .i64 c]] w fun e w' => e = .returned (.bool (Cf.orBaseB ⟨op, a, b, c⟩)) ∧ Below w.heap.size w w' := by
  by_cases h1 : op = 5
  · have e1 := eqb h1
    by_cases h2 : a = 4
    · have e2 := eqb h2
      by_cases h3 : b = 4
      · have e3 := eqb h3
        by_cases h4 : c = 5
        · have e4 := eqb h4
          go_enter Tryd.func46, Tryd.ntmps46
          go_wp2
          go_ret
          exact ⟨by simp [Cf.orBaseB, h1, h2, h3, h4], (Below.refl _ _).alloc (Nat.le_refl _) _⟩
        · have e4 := neb h4
          go_enter Tryd.func46, Tryd.ntmps46
          go_wp2
          go_ret
          exact ⟨by simp [Cf.orBaseB, h4], (Below.refl _ _).alloc (Nat.le_refl _) _⟩
      · have e3 := neb h3
        go_enter Tryd.func46, Tryd.ntmps46
        go_wp2
        go_ret
        exact ⟨by simp [Cf.orBaseB, h3], (Below.refl _ _).alloc (Nat.le_refl _) _⟩
    · have e2 := neb h2
      go_enter Tryd.func46, Tryd.ntmps46
      go_wp2
      go_ret
      exact ⟨by simp [Cf.orBaseB, h2], (Below.refl _ _).alloc (Nat.le_refl _) _⟩
  · have e1 := neb h1
    go_enter Tryd.func46, Tryd.ntmps46
    go_wp2
    go_ret
    exact ⟨by simp [Cf.orBaseB, h1], (Below.refl _ _).alloc (Nat.le_refl _) _⟩
theorem safe_on (l : List Cf.Ins) (k : Nat) (i : Cf.Ins) (hi : l[k]? = some i) (h : ∀ j, j < k → Cf.okAt l j = true) (ho : Cf.okI l k i = true) : ∀ j, j < k + 1 → Cf.okAt l j = true := by
  intro j hj
  rcases Nat.lt_succ_iff_lt_or_eq.1 hj with h1 | h1
  · exact h j h1
  · subst h1
    rw [Cf.okAt, hi]
    exact ho
theorem safe_bad (l : List Cf.Ins) (k : Nat) (i : Cf.Ins) (hf : Cf.fault l = 0) (hi : l[k]? = some i) (ho : Cf.okI l k i = false) : Cf.safeT l = 10 := by
  unfold Cf.safeT
  rw [if_pos hf, if_neg]
  intro hb
  simp only [Bool.and_eq_true] at hb
  have hk : k < l.length := (List.getElem?_eq_some_iff.1 hi).1
  have := List.all_eq_true.1 hb.2 k (List.mem_range.2 hk)
  rw [Cf.okAt, hi] at this
  simp only at this
  rw [ho] at this
  cases this
theorem safe_end (l : List Cf.Ins) (hf : Cf.fault l = 0) (hl : Cf.lastB l = true) (h : ∀ j, j < l.length → Cf.okAt l j = true) : Cf.safeT l = 0 := by
  unfold Cf.safeT
  rw [if_pos hf, if_pos]
  simp only [Bool.and_eq_true]
  exact ⟨hl, List.all_eq_true.2 fun j hj => h j (List.mem_range.1 hj)⟩
theorem dest_four {l : List Cf.Ins} {k : Nat} {op a b c : Int} (hq : Cf.inB op 1 8 = true) (h4 : a = 4) (ho : Cf.orBaseB ⟨op, a, b, c⟩ = false) : Cf.destB l k ⟨op, a, b, c⟩ = (decide (op = 4) && (decide (c = 6) && Cf.nextB l k)) := by
  unfold Cf.destB
  rw [if_pos hq, if_neg (by dsimp only; omega), if_pos ⟨h4, ho⟩]
theorem dest_or {l : List Cf.Ins} {k : Nat} {op a b c : Int} (h4 : a = 4) (ho : Cf.orBaseB ⟨op, a, b, c⟩ = true) : Cf.destB l k ⟨op, a, b, c⟩ = true := by
  unfold Cf.destB
  split
  · rw [if_neg (by dsimp only; omega), if_neg (by rw [ho]; simp)]
  · rfl
theorem dest_no {l : List Cf.Ins} {k : Nat} {i : Cf.Ins} (h : Cf.destB l k i = false) : Cf.okI l k i = false := by simp [Cf.okI, h]
/-- Where the two ways of SafeFault's first test meet again. -/
def SafeRel (l : List Cf.Ins) (k : Nat) (op a b c : Int) (w : World) (br : Nat) (wx : World) : Prop :=
  Cf.destB l k ⟨op, a, b, c⟩ = true ∧ Below w.heap.size w wx ∧ w.heap.size ≤ br ∧ br < wx.heap.size ∧ wx.cell? ⟨br, 0, none⟩ = some (.int .i64 op) ∧ wx.cell? ⟨br, 1, none⟩ = some (.int .i64 a) ∧ wx.cell? ⟨br, 2, none⟩ = some (.int .i64 b) ∧ wx.cell? ⟨br, 3, none⟩ = some (.int .i64 c)
set_option maxRecDepth 100000 in
set_option maxHeartbeats 8000000 in
theorem safeFault_any (l : List Cf.Ins) (A : Option Addr) (cap : Nat) (w : World) (hR : Codes w A l) (hm : l.length ≤ maxLen) :
    Calls Tryd.prog 30 #[.slice A l.length cap] w fun e w' => e = .returned (.int .i64 (Cf.safeT l)) ∧ Below w.heap.size w w' := by
  have HC := Lib.hid (codeFault_any l A cap w hR hm)
  unfold maxLen at hm
  by_cases hf : Cf.fault l = 0
  · rw [hf] at HC
    by_cases hn : l = []
    · subst hn
      have HS := Lib.hid (show Cf.safeT [] = 10 by decide)
      go_enter Tryd.func30, Tryd.ntmps30
      go_wp2_with fail
      refine HC.out.mono ?_
      rintro e w1 ⟨rfl, hb1⟩
      go_wp2
      go_ret
      exact ⟨by rw [HS.out]; rfl, hb1⟩
    · obtain ⟨n, hnl⟩ : ∃ n, l.length = n + 1 := ⟨l.length - 1, by have := List.length_pos_iff.2 hn; omega⟩
      obtain ⟨lop, la, lb, lc, hlast⟩ : ∃ op a b c, l[n]? = some ⟨op, a, b, c⟩ := ⟨_, _, _, _, List.getElem?_eq_getElem (by omega)⟩
      have hlB : Cf.lastB l = Cf.stopsB ⟨lop, la, lb, lc⟩ := by
        unfold Cf.lastB
        rw [List.getLast?_eq_getElem?, hnl, show n + 1 - 1 = n by omega, hlast]
      rcases hR with h0 | ⟨b, off, rfl, hb, hc⟩
      · exact absurd h0 hn
      have Hc := Lib.hid hc
      have Hlast := Lib.hid hlast
      have Hf := Lib.hid hf
      have Hnl := Lib.hid hnl
      have HlB := Lib.hid hlB
      have hnm : n + 1 ≤ 2 ^ 63 - 1 := by omega
      clear hc hlast hf hn hnl hlB
      go_enter Tryd.func30, Tryd.ntmps30
      go_wp2_with fail
      refine HC.out.mono ?_
      rintro e w1 ⟨rfl, hb1⟩
      have d0 : w1.cell? ⟨b, off + n * 4, none⟩ = some (.int .i64 lop) := (hb1.cell hb).trans (Hc.out n _ Hlast.out 0 _ rfl)
      have d1 : w1.cell? ⟨b, off + n * 4 + 1, none⟩ = some (.int .i64 la) := (hb1.cell hb).trans (Hc.out n _ Hlast.out 1 _ rfl)
      have d2 : w1.cell? ⟨b, off + n * 4 + 2, none⟩ = some (.int .i64 lb) := (hb1.cell hb).trans (Hc.out n _ Hlast.out 2 _ rfl)
      have d3 : w1.cell? ⟨b, off + n * 4 + 3, none⟩ = some (.int .i64 lc) := (hb1.cell hb).trans (Hc.out n _ Hlast.out 3 _ rfl)
      rw [Hnl.out]
      clear HC hm
      go_wp2_with fail
      refine (stops_any lop la lb lc _).mono ?_
      rintro e w2 ⟨rfl, hb2⟩
      have hbw2 := hb1.trans (hb2.mono hb1.size)
      clear d0 d1 d2 d3 hb1 hb2
      cases hst : Cf.stopsB ⟨lop, la, lb, lc⟩
      · have HS := Lib.hid (show Cf.safeT l = 10 by unfold Cf.safeT; rw [if_pos Hf.out, HlB.out, hst]; rfl)
        go_wp2
        go_ret
        exact ⟨by rw [HS.out]; rfl, hbw2⟩
      · have HL := Lib.hid (HlB.out.trans hst)
        clear HlB hst
        go_wp2
        go_loopw [4] (fun i wr => ∃ k : Nat, k ≤ n + 1 ∧ i = .int .i64 k ∧ (∀ j, j < k → Cf.okAt l j = true) ∧ Below w.heap.size w wr) (fun i _ => n + 1 - (intOf i).toNat)
        case atStart => exact ⟨0, by omega, rfl, fun j hj => by omega, hbw2⟩
        case round =>
          obtain ⟨k, hk, rfl, hz, hbw⟩ := hrel
          have Hz := Lib.hid hz
          clear hz hbw2
          by_cases hlt : k < n + 1
          · obtain ⟨op, a, b', c', hx⟩ : ∃ op a b' c', l[k]? = some ⟨op, a, b', c'⟩ := ⟨_, _, _, _, List.getElem?_eq_getElem (by rw [Hnl.out]; omega)⟩
            have hc0 : wr.cell? ⟨b, off + k * 4, none⟩ = some (.int .i64 op) := (hbw.cell hb).trans (Hc.out k _ hx 0 _ rfl)
            have hc1 : wr.cell? ⟨b, off + k * 4 + 1, none⟩ = some (.int .i64 a) := (hbw.cell hb).trans (Hc.out k _ hx 1 _ rfl)
            have hc2 : wr.cell? ⟨b, off + k * 4 + 2, none⟩ = some (.int .i64 b') := (hbw.cell hb).trans (Hc.out k _ hx 2 _ rfl)
            have hc3 : wr.cell? ⟨b, off + k * 4 + 3, none⟩ = some (.int .i64 c') := (hbw.cell hb).trans (Hc.out k _ hx 3 _ rfl)
            have Hx := Lib.hid hx
            clear hx
            go_wp2_with fail
            refine (in_any op 1 8 _).mono ?_
            rintro e w' ⟨rfl, rfl⟩
            go_upto_if 36 with fail
            have hb1 : Below w.heap.size w (wr.alloc (.cells #[.int .i64 op, .int .i64 a, .int .i64 b', .int .i64 c'] 73)) := hbw.alloc hbw.size _
            have hbr : w.heap.size ≤ wr.heap.size := hbw.size
            have hbr2 : wr.heap.size < (wr.alloc (.cells #[.int .i64 op, .int .i64 a, .int .i64 b', .int .i64 c'] 73)).heap.size := by simp
            have p0 : (wr.alloc (.cells #[.int .i64 op, .int .i64 a, .int .i64 b', .int .i64 c'] 73)).cell? ⟨wr.heap.size, 0, none⟩ = some (.int .i64 op) := by simp
            have p1 : (wr.alloc (.cells #[.int .i64 op, .int .i64 a, .int .i64 b', .int .i64 c'] 73)).cell? ⟨wr.heap.size, 1, none⟩ = some (.int .i64 a) := by simp
            have p2 : (wr.alloc (.cells #[.int .i64 op, .int .i64 a, .int .i64 b', .int .i64 c'] 73)).cell? ⟨wr.heap.size, 2, none⟩ = some (.int .i64 b') := by simp
            have p3 : (wr.alloc (.cells #[.int .i64 op, .int .i64 a, .int .i64 b', .int .i64 c'] 73)).cell? ⟨wr.heap.size, 3, none⟩ = some (.int .i64 c') := by simp
            generalize (wr.alloc (.cells #[.int .i64 op, .int .i64 a, .int .i64 b', .int .i64 c'] 73)) = w3 at *
            go_cut [] from 24 to 93 (fun wx => SafeRel l k op a b' c' w wr.heap.size wx)
            case first =>
              cases hq : Cf.inB op 1 8
              · have HD := Lib.hid (show Cf.destB l k ⟨op, a, b', c'⟩ = true by simp [Cf.destB, hq])
                clear hq
                go_wp2_with fail
                go_meet
                exact ⟨HD.out, hb1, hbr, hbr2, p0, p1, p2, p3⟩
              · have hop : 1 ≤ op ∧ op ≤ 8 := by simpa [Cf.inB] using hq
                by_cases h5 : a = 5
                · have HS := Lib.hid (safe_bad l k _ Hf.out Hx.out (dest_no (by simp [Cf.destB, hq, h5])))
                  have e5 := eqb h5
                  clear hq h5
                  go_wp2
                  go_ret
                  exact ⟨by rw [HS.out]; rfl, hb1⟩
                · have e5 := neb h5
                  by_cases h6 : a = 6
                  · have HS := Lib.hid (safe_bad l k _ Hf.out Hx.out (dest_no (by simp [Cf.destB, hq, h6])))
                    have e6 := eqb h6
                    clear hq h6 h5
                    go_wp2
                    go_ret
                    exact ⟨by rw [HS.out]; rfl, hb1⟩
                  · have e6 := neb h6
                    by_cases h4 : a = 4
                    · have e4 := eqb h4
                      have H4 := Lib.hid h4
                      clear h4
                      go_wp2_with fail
                      refine (orBase_any op a b' c' _).mono ?_
                      rintro e w4 ⟨rfl, hb4⟩
                      have hbw4 := hb1.trans (hb4.mono hb1.size)
                      have r0 := (hb4.cell (p := ⟨wr.heap.size, 0, none⟩) hbr2).trans p0
                      have r1 := (hb4.cell (p := ⟨wr.heap.size, 1, none⟩) hbr2).trans p1
                      have r2 := (hb4.cell (p := ⟨wr.heap.size, 2, none⟩) hbr2).trans p2
                      have r3 := (hb4.cell (p := ⟨wr.heap.size, 3, none⟩) hbr2).trans p3
                      have hbr4 : wr.heap.size < w4.heap.size := Nat.lt_of_lt_of_le hbr2 hb4.size
                      clear hb4 hb1 hbr2 p0 p1 p2 p3
                      cases ho : Cf.orBaseB ⟨op, a, b', c'⟩
                      · by_cases h44 : op = 4
                        · have e44 := eqn h44
                          by_cases hc6 : c' = 6
                          · have ec6 := eqn hc6
                            have hkn : k + 1 < n + 1 := by
                              rcases Nat.lt_or_ge (k + 1) (n + 1) with h | h
                              · exact h
                              · exfalso
                                have hkk : k = n := by omega
                                have hl2 := HL.out
                                unfold Cf.lastB at hl2
                                rw [List.getLast?_eq_getElem?, Hnl.out, show n + 1 - 1 = k by omega, Hx.out] at hl2
                                simp [Cf.stopsB, h44] at hl2
                            obtain ⟨op2, a2, b2, c2, hx2⟩ : ∃ op a b' c', l[k + 1]? = some ⟨op, a, b', c'⟩ := ⟨_, _, _, _, List.getElem?_eq_getElem (by rw [Hnl.out]; omega)⟩
                            have t0 : w4.cell? ⟨b, off + (k + 1) * 4, none⟩ = some (.int .i64 op2) := (hbw4.cell hb).trans (Hc.out (k + 1) _ hx2 0 _ rfl)
                            have t1 : w4.cell? ⟨b, off + (k + 1) * 4 + 1, none⟩ = some (.int .i64 a2) := (hbw4.cell hb).trans (Hc.out (k + 1) _ hx2 1 _ rfl)
                            have t2 : w4.cell? ⟨b, off + (k + 1) * 4 + 2, none⟩ = some (.int .i64 b2) := (hbw4.cell hb).trans (Hc.out (k + 1) _ hx2 2 _ rfl)
                            have t3 : w4.cell? ⟨b, off + (k + 1) * 4 + 3, none⟩ = some (.int .i64 c2) := (hbw4.cell hb).trans (Hc.out (k + 1) _ hx2 3 _ rfl)
                            have HN := Lib.hid (show Cf.nextB l k = Cf.orBaseB ⟨op2, a2, b2, c2⟩ by unfold Cf.nextB; rw [hx2])
                            have HD := Lib.hid (show Cf.destB l k ⟨op, a, b', c'⟩ = Cf.orBaseB ⟨op2, a2, b2, c2⟩ by rw [← HN.out, dest_four hq H4.out ho]; simp [h44, hc6])
                            clear hx2 ho h44 hc6 hq h5 h6
                            go_wp2_with fail
                            refine (orBase_any op2 a2 b2 c2 _).mono ?_
                            rintro e w5 ⟨rfl, hb5⟩
                            have hbw5 := hbw4.trans (hb5.mono hbw4.size)
                            have q0 := (hb5.cell (p := ⟨wr.heap.size, 0, none⟩) hbr4).trans r0
                            have q1 := (hb5.cell (p := ⟨wr.heap.size, 1, none⟩) hbr4).trans r1
                            have q2 := (hb5.cell (p := ⟨wr.heap.size, 2, none⟩) hbr4).trans r2
                            have q3 := (hb5.cell (p := ⟨wr.heap.size, 3, none⟩) hbr4).trans r3
                            have hbr5 : wr.heap.size < w5.heap.size := Nat.lt_of_lt_of_le hbr4 hb5.size
                            clear hb5 hbw4 hbr4 r0 r1 r2 r3 t0 t1 t2 t3
                            cases ho2 : Cf.orBaseB ⟨op2, a2, b2, c2⟩
                            · have HS := Lib.hid (safe_bad l k _ Hf.out Hx.out (dest_no (HD.out.trans ho2)))
                              clear ho2
                              go_wp2
                              go_ret
                              exact ⟨by rw [HS.out]; rfl, hbw5⟩
                            · have HD2 := Lib.hid (HD.out.trans ho2)
                              clear ho2
                              go_wp2_with fail
                              go_meet
                              exact ⟨HD2.out, hbw5, hbr, hbr5, q0, q1, q2, q3⟩
                          · have ec6 := nen hc6
                            have HS := Lib.hid (safe_bad l k _ Hf.out Hx.out (dest_no (by rw [dest_four hq H4.out ho]; simp [hc6])))
                            clear hq ho h44 hc6 h5 h6
                            go_wp2
                            go_ret
                            exact ⟨by rw [HS.out]; rfl, hbw4⟩
                        · have e44 := nen h44
                          have HS := Lib.hid (safe_bad l k _ Hf.out Hx.out (dest_no (by rw [dest_four hq H4.out ho]; simp [h44])))
                          clear hq ho h44 h5 h6
                          go_wp2
                          go_ret
                          exact ⟨by rw [HS.out]; rfl, hbw4⟩
                      · have HD := Lib.hid (show Cf.destB l k ⟨op, a, b', c'⟩ = true from dest_or H4.out ho)
                        clear hq ho h5 h6
                        go_wp2_with fail
                        go_meet
                        exact ⟨HD.out, hbw4, hbr, hbr4, r0, r1, r2, r3⟩
                    · have e4 := neb h4
                      have HD := Lib.hid (show Cf.destB l k ⟨op, a, b', c'⟩ = true by simp [Cf.destB, h4, h5, h6])
                      clear hq h4 h5 h6
                      go_wp2_with fail
                      go_meet
                      exact ⟨HD.out, hb1, hbr, hbr2, p0, p1, p2, p3⟩
            case rest =>
              obtain ⟨hd, hbx, _, hbr3, s0, s1, s2, s3⟩ := hcut
              have Hd := Lib.hid hd
              clear hd hb1 hbr2 p0 p1 p2 p3 hc0 hc1 hc2 hc3
              by_cases h89 : op = 8 ∨ op = 9
              · by_cases hb4 : b' = 4
                · have HO := Lib.hid (show Cf.okI l k ⟨op, a, b', c'⟩ = true by
                    have hj : Cf.jumpsB ⟨op, a, b', c'⟩ = false := by rcases h89 with h | h <;> simp [Cf.jumpsB, h]
                    unfold Cf.okI
                    rw [if_pos Hd.out, if_neg]
                    rintro (⟨_, h⟩ | ⟨h, _⟩)
                    · exact h hb4
                    · rw [hj] at h
                      cases h)
                  have hj : Cf.jumpsB ⟨op, a, b', c'⟩ = false := by rcases h89 with h | h <;> simp [Cf.jumpsB, h]
                  have eb := eqn hb4
                  clear hb4
                  rcases h89 with h8 | h8
                  · have e8 := eqb h8
                    clear h8
                    go_wp2_with fail
                    refine (jumps_any op a b' c' _).mono ?_
                    rintro e w6 ⟨rfl, hb6⟩
                    rw [hj]
                    have hbw6 := hbx.trans (hb6.mono hbx.size)
                    clear hb6 hbx hj s0 s1 s2 s3
                    go_wp2
                    go_roundw
                    case rel => (repeat apply Exists.intro); exact ⟨⟨k + 1, by omega, by go_num, safe_on l k _ Hx.out Hz.out HO.out, hbw6⟩, rfl⟩
                    case measure => simp [intOf]; omega
                  · have e9 := eqb h8
                    have e8 := neb (show ¬ op = 8 by omega)
                    clear h8
                    go_wp2_with fail
                    refine (jumps_any op a b' c' _).mono ?_
                    rintro e w6 ⟨rfl, hb6⟩
                    rw [hj]
                    have hbw6 := hbx.trans (hb6.mono hbx.size)
                    clear hb6 hbx hj s0 s1 s2 s3
                    go_wp2
                    go_roundw
                    case rel => (repeat apply Exists.intro); exact ⟨⟨k + 1, by omega, by go_num, safe_on l k _ Hx.out Hz.out HO.out, hbw6⟩, rfl⟩
                    case measure => simp [intOf]; omega
                · have HS := Lib.hid (safe_bad l k _ Hf.out Hx.out (show Cf.okI l k ⟨op, a, b', c'⟩ = false by unfold Cf.okI; rw [if_pos Hd.out, if_pos (.inl ⟨h89, hb4⟩)]))
                  have eb := nen hb4
                  clear hb4
                  rcases h89 with h8 | h8
                  · have e8 := eqb h8
                    clear h8
                    go_wp2
                    go_ret
                    exact ⟨by rw [HS.out]; rfl, hbx⟩
                  · have e9 := eqb h8
                    have e8 := neb (show ¬ op = 8 by omega)
                    clear h8
                    go_wp2
                    go_ret
                    exact ⟨by rw [HS.out]; rfl, hbx⟩
              · have e8 := neb (show ¬ op = 8 by omega)
                have e9 := neb (show ¬ op = 9 by omega)
                go_wp2_with fail
                refine (jumps_any op a b' c' _).mono ?_
                rintro e w6 ⟨rfl, hb6⟩
                have hbw6 := hbx.trans (hb6.mono hbx.size)
                have s36 := (hb6.cell (p := ⟨wr.heap.size, 3, none⟩) hbr3).trans s3
                clear hb6 hbx s0 s1 s2 s3
                cases hj : Cf.jumpsB ⟨op, a, b', c'⟩
                · have HO := Lib.hid (show Cf.okI l k ⟨op, a, b', c'⟩ = true by
                    unfold Cf.okI
                    rw [if_pos Hd.out, if_neg]
                    simp [hj, h89])
                  clear hj h89
                  go_wp2
                  go_roundw
                  case rel => (repeat apply Exists.intro); exact ⟨⟨k + 1, by omega, by go_num, safe_on l k _ Hx.out Hz.out HO.out, hbw6⟩, rfl⟩
                  case measure => simp [intOf]; omega
                · by_cases hcl : (n : Int) + 1 ≤ c'
                  · have HS := Lib.hid (safe_bad l k _ Hf.out Hx.out (show Cf.okI l k ⟨op, a, b', c'⟩ = false by unfold Cf.okI; rw [if_pos Hd.out, if_pos (.inr ⟨hj, by rw [Hnl.out]; simp; omega⟩)]))
                    clear hj h89
                    go_wp2
                    go_ret
                    exact ⟨by rw [HS.out]; rfl, hbw6⟩
                  · have HO := Lib.hid (show Cf.okI l k ⟨op, a, b', c'⟩ = true by
                      unfold Cf.okI
                      rw [if_pos Hd.out, if_neg]
                      rw [Hnl.out]
                      simp [h89]
                      intro _
                      omega)
                    clear hj h89
                    go_wp2
                    go_roundw
                    case rel => (repeat apply Exists.intro); exact ⟨⟨k + 1, by omega, by go_num, safe_on l k _ Hx.out Hz.out HO.out, hbw6⟩, rfl⟩
                    case measure => simp [intOf]; omega
          · have HS := Lib.hid (safe_end l Hf.out HL.out (fun j hj => Hz.out j (by rw [Hnl.out] at hj; omega)))
            go_wp2
            go_ret
            exact ⟨by rw [HS.out]; rfl, hbw⟩
  · have HS := Lib.hid (show Cf.safeT l = Cf.fault l by unfold Cf.safeT; rw [if_neg hf])
    have hq : (Cf.fault l != 0) = true := by rw [bne_iff_ne]; exact hf
    clear hf
    go_enter Tryd.func30, Tryd.ntmps30
    go_wp2_with fail
    refine HC.out.mono ?_
    rintro e w1 ⟨rfl, hb1⟩
    go_wp2
    go_ret
    exact ⟨by rw [HS.out]; rfl, hb1⟩
end Go.Proofs.YtnnhhbjbdmgpiaaDoor
