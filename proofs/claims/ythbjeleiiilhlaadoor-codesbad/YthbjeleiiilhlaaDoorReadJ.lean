/- Walks of chapter 1: the program's readInstr, whole. -/
import Derived.Test.YthbjeleiiilhlaaDoorReadI
namespace Go.Proofs.YthbjeleiiilhlaaDoor
open Go.RowKit

theorem fmt3 (p : Nat) (hp : p < 16) (w : World) (hF : TabF w) : w.cell? ⟨0, p * 3, none⟩ = some (.int .i64 (Cf.fmt p 0)) ∧ w.cell? ⟨0, p * 3 + 1, none⟩ = some (.int .i64 (Cf.fmt p 1)) ∧ w.cell? ⟨0, p * 3 + 2, none⟩ = some (.int .i64 (Cf.fmt p 2)) :=
  ⟨hF.at_ p 0 hp (by omega), hF.at_ p 1 hp (by omega), hF.at_ p 2 hp (by omega)⟩
theorem index3f (p : Nat) (k : Nat) (hk : k < 3) : ∀ w, (Instr.index 69 (.agg #[.int .i64 (Cf.fmt p 0), .int .i64 (Cf.fmt p 1), .int .i64 (Cf.fmt p 2)]) (.int .i64 (k : Int))).run Tryd.prog w = .ok (.int .i64 (Cf.fmt p k)) w := by
  have h := index3 0 (Cf.fmt p 0) (Cf.fmt p 1) (Cf.fmt p 2) k hk
  have : k = 0 ∨ k = 1 ∨ k = 2 := by omega
  rcases this with rfl | rfl | rfl <;> exact h

/-- Four stores into a block of four cells. -/
theorem store4 (w : World) (g : Nat) (a b c d u0 u1 u2 u3 : Value) (h0 : w.cell? ⟨g, 0, none⟩ = some u0) (h1 : w.cell? ⟨g, 1, none⟩ = some u1) (h2 : w.cell? ⟨g, 2, none⟩ = some u2) (h3 : w.cell? ⟨g, 3, none⟩ = some u3) :
    ((((w.setCell ⟨g, 0, none⟩ a).setCell ⟨g, 1, none⟩ b).setCell ⟨g, 2, none⟩ c).setCell ⟨g, 3, none⟩ d).cell? ⟨g, 0, none⟩ = some a ∧
    ((((w.setCell ⟨g, 0, none⟩ a).setCell ⟨g, 1, none⟩ b).setCell ⟨g, 2, none⟩ c).setCell ⟨g, 3, none⟩ d).cell? ⟨g, 1, none⟩ = some b ∧
    ((((w.setCell ⟨g, 0, none⟩ a).setCell ⟨g, 1, none⟩ b).setCell ⟨g, 2, none⟩ c).setCell ⟨g, 3, none⟩ d).cell? ⟨g, 2, none⟩ = some c ∧
    ((((w.setCell ⟨g, 0, none⟩ a).setCell ⟨g, 1, none⟩ b).setCell ⟨g, 2, none⟩ c).setCell ⟨g, 3, none⟩ d).cell? ⟨g, 3, none⟩ = some d := by
  have o : ∀ (W : World) (i j : Nat) (v : Value), i ≠ j → (W.setCell ⟨g, i, none⟩ v).cell? ⟨g, j, none⟩ = W.cell? ⟨g, j, none⟩ := fun W i j v hij => World.cell?_setCell_other W ⟨g, i, none⟩ ⟨g, j, none⟩ v (fun e => hij (congrArg Addr.off e))
  have s : ∀ (W : World) (i : Nat) (v u : Value), W.cell? ⟨g, i, none⟩ = some u → (W.setCell ⟨g, i, none⟩ v).cell? ⟨g, i, none⟩ = some v := fun W i v u h => World.cell?_setCell_same W ⟨g, i, none⟩ v h
  refine ⟨?_, ?_, ?_, ?_⟩
  · rw [o _ 3 0 _ (by omega), o _ 2 0 _ (by omega), o _ 1 0 _ (by omega), s _ 0 _ _ h0]
  · rw [o _ 3 1 _ (by omega), o _ 2 1 _ (by omega), s _ 1 _ u1 (by rw [o _ 0 1 _ (by omega), h1])]
  · rw [o _ 3 2 _ (by omega), s _ 2 _ u2 (by rw [o _ 1 2 _ (by omega), o _ 0 2 _ (by omega), h2])]
  · rw [s _ 3 _ u3 (by rw [o _ 2 3 _ (by omega), o _ 1 3 _ (by omega), o _ 0 3 _ (by omega), h3])]
theorem below_store4 {B g : Nat} {w0 w : World} (h : Below B w0 w) (hg : B ≤ g) (a b c d : Value) : Below B w0 ((((w.setCell ⟨g, 0, none⟩ a).setCell ⟨g, 1, none⟩ b).setCell ⟨g, 2, none⟩ c).setCell ⟨g, 3, none⟩ d) :=
  (((h.setCell (p := ⟨g, 0, none⟩) hg a).setCell (p := ⟨g, 1, none⟩) hg b).setCell (p := ⟨g, 2, none⟩) hg c).setCell (p := ⟨g, 3, none⟩) hg d
def RI (p : Nat) (ps : List (List UInt8)) (wS : World) (pv i : Value) (wr : World) : Prop :=
  ∃ (k n cap : Nat) (A : Option Addr) (vs : List Int) (q : List (List UInt8)), k ≤ 3 ∧ i = .int .i64 k ∧ pv = .slice A n cap ∧ q.length = n ∧ n ≤ cap ∧ cap ≤ 4001 ∧ Cf.pst p k ps = some (vs, q) ∧ Words wS A q ∧ Below wS.heap.size wS wr ∧ Vals wS.heap.size vs wr
theorem vals_new (wS : World) : Vals wS.heap.size [] (wS.alloc (.cells #[.int .i64 0, .int .i64 0, .int .i64 0] 69)) :=
  ⟨by simp, fun j hj => by
    have : j = 0 ∨ j = 1 ∨ j = 2 := by omega
    rcases this with rfl | rfl | rfl <;> simp⟩
set_option maxRecDepth 100000 in
set_option maxHeartbeats 4000000 in
theorem readInstr_any (line : List UInt8) (hs : line.length ≤ 4000) (w : World) (hm : MaxL w) (hL : TabL w) (hF : TabF w) (hN : TabN w) (hP : TabP w) (hS : SentS w) (hR : SentR w) :
    Calls Tryd.prog 30 #[.string ⟨line.toArray⟩] w (InsPost (Cf.parseL line) w) := by
  obtain ⟨nm, ps, hsp⟩ : ∃ nm ps, Cf.splitL 32 line = nm :: ps := by
    cases h : Cf.splitL 32 line with
    | nil => exact absurd h (Cf.split_ne 32 line)
    | cons a b => exact ⟨a, b, rfl⟩
  have hpl : ps.length ≤ 4000 ∧ (∀ t ∈ nm :: ps, t.length ≤ 4000) := by
    have := Cf.split_size 32 line
    rw [hsp] at this
    exact ⟨by have := this.1; simp at this; omega, fun t ht => by have := this.2 t ht; omega⟩
  obtain ⟨hpl, hlen⟩ := hpl
  have Hlen := Lib.hid hlen
  have Hpl : Hid (Cf.parseL line = Cf.parseW (nm :: ps)) := by show Cf.parseW _ = _; rw [hsp]
  have Hsp := Lib.hid hsp
  clear hsp hlen
  go_enter Tryd.func30, Tryd.ntmps30
  go_wp2_with fail
  refine (split_words line nm ps Hsp.out hs _ (hm.below ((Below.refl _ _).alloc (Nat.le_refl _) _))).mono ?_
  rintro e w1 ⟨rfl, hw1, hb1⟩
  rw [World.size_alloc] at hw1
  have hb0 : Below w.heap.size w w1 := ((Below.refl _ _).alloc (Nat.le_refl _) _).trans (hb1.mono (by simp))
  obtain ⟨bb, oo, hA, hlt, hc0⟩ := hw1.at0
  injection hA with hA
  injection hA with hA1 hA2 _
  subst hA1 hA2
  have hr0 : ∀ j, j < 4 → w1.cell? ⟨w.heap.size, j, none⟩ = some (.int .i64 0) ∧ w1.frozen? ⟨w.heap.size, j, none⟩ = false := by
    intro j hj
    refine ⟨(hb1.cell (p := ⟨w.heap.size, j, none⟩) (by simp)).trans ?_, (hb1.frozen (p := ⟨w.heap.size, j, none⟩) (by simp)).trans ?_⟩
    · have : j = 0 ∨ j = 1 ∨ j = 2 ∨ j = 3 := by omega
      rcases this with rfl | rfl | rfl | rfl <;> simp
    · simp
  have Hr := Lib.hid hr0
  have hz1 : w.heap.size + 1 < w1.heap.size := hlt
  have hw1' := Lib.hid hw1
  clear hb1 hr0 hw1 hlt
  go_wp2_with fail
  refine (findName_any nm _ (hN.below hb0)).mono ?_
  rintro e w2 ⟨rfl, rfl⟩
  have hq0 := Hr.out 0 (by omega)
  have hq1 := Hr.out 1 (by omega)
  have hq2 := Hr.out 2 (by omega)
  have hq3 := Hr.out 3 (by omega)
  cases hfo : Cf.findK nm with
  | none =>
    have Hn := Lib.hid (Hpl.out.trans (Cf.parseW_none nm ps hfo))
    clear hfo hc0
    obtain ⟨q0a, q0b⟩ := hq0
    obtain ⟨q1a, q1b⟩ := hq1
    obtain ⟨q2a, q2b⟩ := hq2
    obtain ⟨q3a, q3b⟩ := hq3
    simp only [Option.getD_none, Option.isSome_none]
    go_wp2
    obtain ⟨c0, c1, c2, c3⟩ := store4 w1 w.heap.size (.int .i64 0) (.int .i64 0) (.int .i64 0) (.int .i64 0) _ _ _ _ q0a q1a q2a q3a
    have hbX := below_store4 hb0 (Nat.le_refl _) (.int .i64 0) (.int .i64 0) (.int .i64 0) (.int .i64 0)
    generalize (((w1.setCell _ _).setCell _ _).setCell _ _).setCell _ _ = wX at c0 c1 c2 c3 hbX ⊢
    refine bodyPost_ret (v := .tuple #[.agg #[.int .i64 0, .int .i64 0, .int .i64 0, .int .i64 0], .bool false]) (by simp [results, Tryd.results30, go_sem, c0, c1, c2, c3]) rfl ⟨⟨0, 0, 0, 0⟩, ?_, ?_, hbX⟩
    · rw [Hn.out]; rfl
    · intro y hy; rw [Hn.out] at hy; cases hy
  | some p =>
    obtain ⟨hp1, hp2, _⟩ := Cf.findK_range nm p hfo
    have Hfo := Lib.hid hfo
    clear hfo hc0
    have Hrq := Lib.hid (fun (W : World) (hW : Below w1.heap.size w1 W) =>
      (⟨⟨(hW.cell (p := ⟨w.heap.size, 0, none⟩) (by show w.heap.size < _; omega)).trans hq0.1, (hW.frozen (p := ⟨w.heap.size, 0, none⟩) (by show w.heap.size < _; omega)).trans hq0.2⟩,
        ⟨(hW.cell (p := ⟨w.heap.size, 1, none⟩) (by show w.heap.size < _; omega)).trans hq1.1, (hW.frozen (p := ⟨w.heap.size, 1, none⟩) (by show w.heap.size < _; omega)).trans hq1.2⟩,
        ⟨(hW.cell (p := ⟨w.heap.size, 2, none⟩) (by show w.heap.size < _; omega)).trans hq2.1, (hW.frozen (p := ⟨w.heap.size, 2, none⟩) (by show w.heap.size < _; omega)).trans hq2.2⟩,
        ⟨(hW.cell (p := ⟨w.heap.size, 3, none⟩) (by show w.heap.size < _; omega)).trans hq3.1, (hW.frozen (p := ⟨w.heap.size, 3, none⟩) (by show w.heap.size < _; omega)).trans hq3.2⟩⟩ :
        (W.cell? ⟨w.heap.size, 0, none⟩ = some (.int .i64 0) ∧ W.frozen? ⟨w.heap.size, 0, none⟩ = false) ∧ (W.cell? ⟨w.heap.size, 1, none⟩ = some (.int .i64 0) ∧ W.frozen? ⟨w.heap.size, 1, none⟩ = false) ∧
        (W.cell? ⟨w.heap.size, 2, none⟩ = some (.int .i64 0) ∧ W.frozen? ⟨w.heap.size, 2, none⟩ = false) ∧ (W.cell? ⟨w.heap.size, 3, none⟩ = some (.int .i64 0) ∧ W.frozen? ⟨w.heap.size, 3, none⟩ = false)))
    clear hq0 hq1 hq2 hq3 Hr
    obtain ⟨A1, hsl, hcut⟩ := cut1 (some ⟨w.heap.size + 1, 0, none⟩) ps.length (ps.length + 1)
    have hw2 := Lib.hid (hcut w1 nm ps hw1'.out (Nat.le_refl _))
    clear hcut hw1'
    obtain ⟨f0, f1, f2⟩ := fmt3 p (by omega) w1 (hF.below hb0)
    have hgF : 0 < w1.heap.size := (hF.below hb0).1
    simp only [Option.getD_some, Option.isSome_some]
    go_wp2_with fail
    go_loopw [4, 27] (fun pv i wr => RI p ps w1 pv i wr) (fun _ i _ => 3 - (intOf i).toNat)
    case atStart => exact ⟨0, ps.length, ps.length, A1, [], ps, by omega, rfl, rfl, rfl, Nat.le_refl _, by omega, rfl, hw2.out, (Below.refl _ _).alloc (Nat.le_refl _) _, vals_new w1⟩
    case round =>
      obtain ⟨k, n, cap, A, vs, q, hk, rfl, rfl, hqn, hnc, hcap, hpst, hwd, hbw, hv⟩ := hrel
      have Hpst := Lib.hid hpst
      have Hqn := Lib.hid hqn
      have Hwd := Lib.hid hwd
      have Hv := Lib.hid hv
      have hbw0 : Below w.heap.size w wr := hb0.trans (hbw.mono hb0.size)
      clear hpst hqn hwd hv hsl f0 f1 f2 hw2
      by_cases hlt : k < 3
      · have hix := index3f p k hlt
        obtain ⟨hfr0, hfr1⟩ := fmt_range p k
        by_cases hf : Cf.fmt p k = 0
        · have Hp := Lib.hid (Cf.pst_zero p k ps vs q Hpst.out hf)
          have hf' : (Cf.fmt p k == 0) = true := by simp [hf]
          clear hf
          go_wp2
          go_roundw
          case rel => exact ⟨k + 1, n, cap, A, vs ++ [0], q, by omega, by go_num, rfl, Hqn.out, hnc, hcap, Hp.out, Hwd.out, hbw, Hv.out.zero⟩
          case measure => simp [intOf]; omega
        · have hf' : (Cf.fmt p k == 0) = false := by simp [hf]
          cases q with
          | nil =>
            have Hn := Lib.hid (Hpl.out.trans (Cf.parseW_pst nm ps p (k + 1) Hfo.out (by omega) (Cf.pst_nil p k ps vs Hpst.out hf)))
            obtain rfl : n = 0 := by have := Hqn.out; simp at this; omega
            clear hf
            obtain ⟨⟨q0a, q0b⟩, ⟨q1a, q1b⟩, ⟨q2a, q2b⟩, ⟨q3a, q3b⟩⟩ := Hrq.out wr hbw
            go_wp2
            obtain ⟨c0, c1, c2, c3⟩ := store4 wr w.heap.size (.int .i64 0) (.int .i64 0) (.int .i64 0) (.int .i64 0) _ _ _ _ q0a q1a q2a q3a
            have hbX := below_store4 (hb0.trans (hbw.mono hb0.size)) (Nat.le_refl _) (.int .i64 0) (.int .i64 0) (.int .i64 0) (.int .i64 0)
            generalize (((wr.setCell _ _).setCell _ _).setCell _ _).setCell _ _ = wX at c0 c1 c2 c3 hbX ⊢
            refine bodyPost_ret (v := .tuple #[.agg #[.int .i64 0, .int .i64 0, .int .i64 0, .int .i64 0], .bool false]) (by simp [results, Tryd.results30, go_sem, c0, c1, c2, c3]) rfl ⟨⟨0, 0, 0, 0⟩, ?_, ?_, hbX⟩
            · rw [Hn.out]; rfl
            · intro y hy; rw [Hn.out] at hy; cases hy
          | cons t r =>
            obtain ⟨m, rfl⟩ : ∃ m, n = m + 1 := ⟨r.length, by have := Hqn.out; simp at this; omega⟩
            obtain ⟨b', off', rfl, hblt, hcell⟩ := Words.at0 Hwd.out
            obtain ⟨A', hsl, hcut⟩ := cut1 (some ⟨b', off', none⟩) m cap
            have hrm : r.length = m := by have := Hqn.out; simp at this; omega
            have Hw' := Lib.hid (hcut w1 t r Hwd.out (by omega))
            have hcell' : wr.cell? ⟨b', off', none⟩ = some (.string ⟨t.toArray⟩) := (hbw.cell hblt).trans hcell
            have htl : t.length ≤ 4000 := Hlen.out t (List.mem_cons_of_mem _ (Cf.pst_mem p k ps vs _ Hpst.out t (by simp)))
            have Hrm := Lib.hid hrm
            have Hf := Lib.hid hf
            clear hcut hcell hf hrm
            go_wp2_with fail
            refine (readField_any _ t hfr0 hfr1 htl _ (hL.below hbw0) (hP.below hbw0) (hS.below hbw0) (hR.below hbw0)).mono ?_
            rintro e w3 ⟨v, rfl, hvv, hb3⟩
            have hbw3 : Below w1.heap.size w1 w3 := hbw.trans (hb3.mono hbw.size)
            have hv3 := Hv.out.below hb3
            obtain ⟨hvc, hvf⟩ := hv3.2 k hlt
            cases hfo : Cf.fieldOf (Cf.fmt p k) t with
            | none =>
              have Hn := Lib.hid (Hpl.out.trans (Cf.parseW_pst nm ps p (k + 1) Hfo.out (by omega) (Cf.pst_bad p k ps vs t r Hpst.out Hf.out hfo)))
              clear hfo hvv hb3
              have hbw4 : Below w1.heap.size w1 (w3.setCell ⟨w1.heap.size, k, none⟩ (.int .i64 v)) := hbw3.setCell (p := ⟨w1.heap.size, k, none⟩) (Nat.le_refl _) _
              simp only [Option.isSome_none]
              obtain ⟨⟨q0a, q0b⟩, ⟨q1a, q1b⟩, ⟨q2a, q2b⟩, ⟨q3a, q3b⟩⟩ := Hrq.out (w3.setCell ⟨w1.heap.size, k, none⟩ (.int .i64 v)) hbw4
              go_wp2
              obtain ⟨c0, c1, c2, c3⟩ := store4 (w3.setCell ⟨w1.heap.size, k, none⟩ (.int .i64 v)) w.heap.size (.int .i64 0) (.int .i64 0) (.int .i64 0) (.int .i64 0) _ _ _ _ q0a q1a q2a q3a
              have hbX := below_store4 (hb0.trans (hbw4.mono hb0.size)) (Nat.le_refl _) (.int .i64 0) (.int .i64 0) (.int .i64 0) (.int .i64 0)
              generalize ((((w3.setCell ⟨w1.heap.size, k, none⟩ (.int .i64 v)).setCell _ _).setCell _ _).setCell _ _).setCell _ _ = wX at c0 c1 c2 c3 hbX ⊢
              refine bodyPost_ret (v := .tuple #[.agg #[.int .i64 0, .int .i64 0, .int .i64 0, .int .i64 0], .bool false]) (by simp [results, Tryd.results30, go_sem, c0, c1, c2, c3]) rfl ⟨⟨0, 0, 0, 0⟩, ?_, ?_, hbX⟩
              · rw [Hn.out]; rfl
              · intro y hy; rw [Hn.out] at hy; cases hy
            | some u =>
              obtain rfl := hvv u hfo
              have Hp := Lib.hid (Cf.pst_good p k ps vs t r v Hpst.out Hf.out hfo)
              have Hv4 := Lib.hid (hv3.set (Cf.pst_len p k ps vs _ Hpst.out) v)
              have hbw4 : Below w1.heap.size w1 (w3.setCell ⟨w1.heap.size, k, none⟩ (.int .i64 v)) := hbw3.setCell (p := ⟨w1.heap.size, k, none⟩) (Nat.le_refl _) _
              clear hfo hvv hb3 hv3
              simp only [Option.isSome_some]
              go_wp2
              go_roundw
              case rel => exact ⟨k + 1, m, cap - 1, A', vs ++ [v], r, by omega, by go_num, rfl, Hrm.out, by omega, by omega, Hp.out, Hw'.out, hbw4, Hv4.out⟩
              case measure => simp [intOf]; omega
      · obtain rfl : k = 3 := by omega
        cases q with
        | cons t r =>
          have Hn := Lib.hid (Hpl.out.trans (Cf.parseW_more nm ps p vs (t :: r) Hfo.out Hpst.out (by simp)))
          have hn0 : 0 < n := by have := Hqn.out; simp at this; omega
          obtain ⟨⟨q0a, q0b⟩, ⟨q1a, q1b⟩, ⟨q2a, q2b⟩, ⟨q3a, q3b⟩⟩ := Hrq.out wr hbw
          go_wp2
          obtain ⟨c0, c1, c2, c3⟩ := store4 wr w.heap.size (.int .i64 0) (.int .i64 0) (.int .i64 0) (.int .i64 0) _ _ _ _ q0a q1a q2a q3a
          have hbX := below_store4 (hb0.trans (hbw.mono hb0.size)) (Nat.le_refl _) (.int .i64 0) (.int .i64 0) (.int .i64 0) (.int .i64 0)
          generalize (((wr.setCell _ _).setCell _ _).setCell _ _).setCell _ _ = wX at c0 c1 c2 c3 hbX ⊢
          refine bodyPost_ret (v := .tuple #[.agg #[.int .i64 0, .int .i64 0, .int .i64 0, .int .i64 0], .bool false]) (by simp [results, Tryd.results30, go_sem, c0, c1, c2, c3]) rfl ⟨⟨0, 0, 0, 0⟩, ?_, ?_, hbX⟩
          · rw [Hn.out]; rfl
          · intro y hy; rw [Hn.out] at hy; cases hy
        | nil =>
          obtain rfl : n = 0 := by have := Hqn.out; simp at this; omega
          obtain ⟨a, b, c, rfl⟩ : ∃ a b c, vs = [a, b, c] := by
            have hl := Cf.pst_len p 3 ps vs _ Hpst.out
            match vs, hl with
            | [a, b, c], _ => exact ⟨a, b, c, rfl⟩
          have Hn := Lib.hid (Hpl.out.trans (Cf.parseW_some nm ps p a b c Hfo.out Hpst.out))
          have v0 : wr.cell? ⟨w1.heap.size, 0, none⟩ = some (.int .i64 a) := (Hv.out.2 0 (by omega)).1
          have v1 : wr.cell? ⟨w1.heap.size, 1, none⟩ = some (.int .i64 b) := (Hv.out.2 1 (by omega)).1
          have v2 : wr.cell? ⟨w1.heap.size, 2, none⟩ = some (.int .i64 c) := (Hv.out.2 2 (by omega)).1
          obtain ⟨⟨q0a, q0b⟩, ⟨q1a, q1b⟩, ⟨q2a, q2b⟩, ⟨q3a, q3b⟩⟩ := Hrq.out wr hbw
          go_wp2
          obtain ⟨c0, c1, c2, c3⟩ := store4 wr w.heap.size (.int .i64 p) (.int .i64 a) (.int .i64 b) (.int .i64 c) _ _ _ _ q0a q1a q2a q3a
          have hbX := below_store4 (hb0.trans (hbw.mono hb0.size)) (Nat.le_refl _) (.int .i64 p) (.int .i64 a) (.int .i64 b) (.int .i64 c)
          generalize (((wr.setCell _ _).setCell _ _).setCell _ _).setCell _ _ = wX at c0 c1 c2 c3 hbX ⊢
          refine bodyPost_ret (v := .tuple #[.agg #[.int .i64 p, .int .i64 a, .int .i64 b, .int .i64 c], .bool true]) (by simp [results, Tryd.results30, go_sem, c0, c1, c2, c3]) rfl ⟨⟨p, a, b, c⟩, ?_, ?_, hbX⟩
          · rw [Hn.out]; rfl
          · intro y hy; rw [Hn.out] at hy; cases hy; rfl
end Go.Proofs.YthbjeleiiilhlaaDoor
