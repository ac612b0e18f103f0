/- Walks of chapter 1: the reference's lineOf. -/
import Derived.Test.YthbjeleiiilhlaaDoorReadJ
import Derived.Test.YthbjeleiiilhlaaDoorLineR
namespace Go.Proofs.YthbjeleiiilhlaaDoor
open Go.RowKit

theorem Words.at_ {w : World} {b off : Nat} {q : List (List UInt8)} (h : Words w (some ⟨b, off, none⟩) q) {k : Nat} {t : List UInt8} (hk : q[k]? = some t) : w.cell? ⟨b, off + k, none⟩ = some (.string ⟨t.toArray⟩) := by
  rcases h with h | ⟨b', off', hA, _, hc⟩
  · rw [h] at hk; simp at hk
  · injection hA with hA
    injection hA with h1 h2 _
    subst h1 h2
    have := hc k t hk 0 _ rfl
    simpa using this
/-- At the outer loop's head: no name before has been it. -/
def LiRel (nm : List UInt8) (wS : World) (iv : Value) (wr : World) : Prop :=
  ∃ (k : Nat) (o : Int), k ≤ 15 ∧ iv = .int .i64 o ∧ o = k + 1 ∧ Cf.findOp nm k = none ∧ Below wS.heap.size wS wr
/-- At the inner loop's head. -/
def LjRel (p : Nat) (nm : List UInt8) (ps : List (List UInt8)) (wS wV : World) (av jv : Value) (wr : World) : Prop :=
  ∃ (j M : Nat) (vs : List Int) (q : List (List UInt8)), j ≤ 3 ∧ jv = .int .i64 j ∧ av = .int .i64 (M : Int) ∧ 1 ≤ M ∧ M ≤ ps.length + 1 ∧ (nm :: ps).drop M = q ∧ Cf.pst p j ps = some (vs, q) ∧ Below wS.heap.size wS wr ∧ Vals wV.heap.size vs wr
set_option maxRecDepth 100000 in
set_option maxHeartbeats 8000000 in
theorem lineOf_any (line : List UInt8) (hs : line.length ≤ 4000) (w : World) :
    Calls Tryd.prog 31 #[.string ⟨line.toArray⟩] w (InsPost (Cf.parseL line) w) := by
  obtain ⟨nm, ps, hsp⟩ : ∃ nm ps, Cf.splitL 32 line = nm :: ps := by
    cases h : Cf.splitL 32 line with
    | nil => exact absurd h (Cf.split_ne 32 line)
    | cons a b => exact ⟨a, b, rfl⟩
  have hpl : ps.length ≤ 4000 ∧ (∀ t ∈ nm :: ps, t.length ≤ 4000) := by
    have := Cf.split_size 32 line
    rw [hsp] at this
    exact ⟨by have := this.1; simp at this; omega, fun t ht => by have := this.2 t ht; omega⟩
  obtain ⟨hpl, hlen⟩ := hpl
  have Hlen := Lib.hid hlen
  have Hpl : Hid (Cf.parseL line = Cf.parseW (nm :: ps)) := by show Cf.parseW _ = _; rw [hsp]
  have Hsp := Lib.hid hsp
  clear hsp hlen
  go_enter Tryd.func31, Tryd.ntmps31
  go_wp2_with fail
  refine (wordsOf_any line hs _).mono ?_
  rintro e w1 ⟨A, cap, rfl, hw1, hb1⟩
  rw [Hsp.out] at hw1
  rw [Hsp.out, List.length_cons]
  have hb0 : Below w.heap.size w w1 := ((Below.refl _ _).alloc (Nat.le_refl _) _).trans (hb1.mono (by simp))
  obtain ⟨b, off, rfl, hlt, hc0⟩ := hw1.at0
  have hr0 : ∀ j, j < 4 → w1.cell? ⟨w.heap.size, j, none⟩ = some (.int .i64 0) ∧ w1.frozen? ⟨w.heap.size, j, none⟩ = false := by
    intro j hj
    refine ⟨(hb1.cell (p := ⟨w.heap.size, j, none⟩) (by simp)).trans ?_, (hb1.frozen (p := ⟨w.heap.size, j, none⟩) (by simp)).trans ?_⟩
    · have : j = 0 ∨ j = 1 ∨ j = 2 ∨ j = 3 := by omega
      rcases this with rfl | rfl | rfl | rfl <;> simp
    · simp
  have hz1 : w.heap.size < w1.heap.size := Nat.lt_of_lt_of_le (by simp) hb1.size
  have hq0 := hr0 0 (by omega)
  have hq1 := hr0 1 (by omega)
  have hq2 := hr0 2 (by omega)
  have hq3 := hr0 3 (by omega)
  have Hrq := Lib.hid (fun (W : World) (hW : Below w1.heap.size w1 W) =>
      (⟨⟨(hW.cell (p := ⟨w.heap.size, 0, none⟩) hz1).trans hq0.1, (hW.frozen (p := ⟨w.heap.size, 0, none⟩) hz1).trans hq0.2⟩,
        ⟨(hW.cell (p := ⟨w.heap.size, 1, none⟩) hz1).trans hq1.1, (hW.frozen (p := ⟨w.heap.size, 1, none⟩) hz1).trans hq1.2⟩,
        ⟨(hW.cell (p := ⟨w.heap.size, 2, none⟩) hz1).trans hq2.1, (hW.frozen (p := ⟨w.heap.size, 2, none⟩) hz1).trans hq2.2⟩,
        ⟨(hW.cell (p := ⟨w.heap.size, 3, none⟩) hz1).trans hq3.1, (hW.frozen (p := ⟨w.heap.size, 3, none⟩) hz1).trans hq3.2⟩⟩ :
        (W.cell? ⟨w.heap.size, 0, none⟩ = some (.int .i64 0) ∧ W.frozen? ⟨w.heap.size, 0, none⟩ = false) ∧ (W.cell? ⟨w.heap.size, 1, none⟩ = some (.int .i64 0) ∧ W.frozen? ⟨w.heap.size, 1, none⟩ = false) ∧
        (W.cell? ⟨w.heap.size, 2, none⟩ = some (.int .i64 0) ∧ W.frozen? ⟨w.heap.size, 2, none⟩ = false) ∧ (W.cell? ⟨w.heap.size, 3, none⟩ = some (.int .i64 0) ∧ W.frozen? ⟨w.heap.size, 3, none⟩ = false)))
  have Hw1 := Lib.hid hw1
  clear hb1 hr0 hw1 hq0 hq1 hq2 hq3
  go_wp2_with fail
  go_loopw [5] (fun iv wr => LiRel nm w1 iv wr) (fun iv _ => 16 - (intOf iv).toNat)
  case atStart => exact ⟨0, 1, by omega, rfl, rfl, rfl, Below.refl _ _⟩
  case round =>
    obtain ⟨k, o, hk, rfl, ho, hno, hbw⟩ := hrel
    have Hno := Lib.hid hno
    have ho1 : 1 ≤ o := by omega
    have ho2 : o ≤ 16 := by omega
    have Ho := Lib.hid ho
    clear hno ho
    by_cases hle : o ≤ 15
    · have hcr : wr.cell? ⟨b, off, none⟩ = some (.string ⟨nm.toArray⟩) := (hbw.cell hlt).trans hc0
      have hblt : b < wr.heap.size := Nat.lt_of_lt_of_le hlt hbw.size
      by_cases heq : nm = Cf.nameL o
      · have hne : (nm == Cf.nameL o) = true := by simpa using heq
        obtain ⟨p, hp⟩ : ∃ p : Nat, o = p := ⟨k + 1, by have := Ho.out; omega⟩
        have hpk : p = k + 1 := by have := Ho.out; omega
        have Hfo : Hid (Cf.findK nm = some p) := Cf.findOp_mono nm p p (by
          rw [hpk]
          simp only [Cf.findOp, Hno.out]
          rw [if_pos]
          rw [heq, hp, hpk]; rfl) 15 (by omega)
        have Hp := Lib.hid hp
        clear heq hpk hp
        go_wp2_with fail
        go_region_held3 (fun W => W.cell? ⟨b, off, none⟩ = some (.string ⟨nm.toArray⟩)) (first | go_keep | (rw [hb'.cell (by exact hblt)]; assumption)) (first | (go_at_call 27; refine (name_any o ho1 hle _).mono ?_; rintro e w' ⟨rfl, hb'⟩))
        have hbw2 : Below w1.heap.size w1 w' := hbw.drew.trans (hb'.mono hbw.size)
        clear hb' hcr hblt
        go_wp2_with fail
        refine (shape_any o _).mono ?_
        rintro e w3 ⟨rfl, rfl⟩
        obtain ⟨x, y, z, hsh⟩ := Cf.shape_three o
        rw [show Cf.shape o = ⟨#[x, y, z]⟩ by rw [Cf.shape, hsh]]
        have Hsh := Lib.hid hsh
        clear hsh hbw
        go_wp2_with fail
        go_loopw [8, 9] (fun av jv wr => LjRel p nm ps w1 w' av jv wr) (fun _ jv _ => 3 - (intOf jv).toNat)
        case atStart => exact ⟨0, 1, [], ps, by omega, rfl, rfl, by omega, by omega, rfl, rfl, hbw2.alloc hbw2.size _, vals_new w'⟩
        case round =>
          obtain ⟨j, M, vs, q, hj, rfl, rfl, hM1, hM2, hq, hpst, hbq, hv⟩ := hrel
          have Hq := Lib.hid hq
          have Hpst := Lib.hid hpst
          have Hv := Lib.hid hv
          have hgv : w1.heap.size ≤ w'.heap.size := hbw2.size
          clear hq hpst hv
          by_cases hj3 : j < 3
          · obtain ⟨cb, hcb⟩ : ∃ cb : UInt8, cb = (Cf.shapeL o).getD j 0 := ⟨_, rfl⟩
            have hix : ∀ w, (Instr.index 9 (.string ⟨#[x, y, z]⟩) (.int .i64 (j : Int))).run Tryd.prog w = .ok (.int .u8 (cb.toNat : Int)) w := by
              refine str_index [x, y, z] j cb ?_
              rw [hcb, Hsh.out]
              have : j = 0 ∨ j = 1 ∨ j = 2 := by omega
              rcases this with rfl | rfl | rfl <;> rfl
            have hmost : Cf.most (cb.toNat : Int) = Cf.lar (Cf.fmt p j).toNat := by
              rw [hcb, Cf.most_fmt o ho1 hle j hj3, Hp.out, Int.toNat_natCast]
            have hshf := Cf.shape_fmt o ho1 hle j hj3
            rw [← hcb, Hp.out, Int.toNat_natCast] at hshf
            have Hmost := Lib.hid hmost
            clear hmost
            rcases hshf with ⟨hs1, hs2⟩ | hs12
            · have Hpn := Lib.hid (Cf.pst_zero p j ps vs q Hpst.out hs2)
              have h45 : ((cb.toNat : Int) == 45) = true := by rw [hs1]; rfl
              clear hs1 hs2 hcb
              go_wp2
              go_roundw
              case rel => exact ⟨j + 1, M, vs ++ [0], q, by omega, by go_num, rfl, hM1, hM2, Hq.out, Hpn.out, hbq, Hv.out.zero⟩
              case measure => simp [intOf]; omega
            · have hf0 : Cf.fmt p j ≠ 0 := by
                rcases hs12 with ⟨_, h⟩ | ⟨_, h, _⟩
                · rw [h]; decide
                · exact h
              have h45 : ((cb.toNat : Int) == 45) = false := by
                rcases hs12 with ⟨h, _⟩ | ⟨h | h, _⟩ <;> rw [h] <;> rfl
              cases q with
              | nil =>
                have Hn := Lib.hid (Hpl.out.trans (Cf.parseW_pst nm ps p (j + 1) Hfo.out (by omega) (Cf.pst_nil p j ps vs Hpst.out hf0)))
                have hml : ps.length + 1 ≤ M := by
                  have := congrArg List.length Hq.out
                  simp at this
                  omega
                clear hs12 hcb hf0
                obtain ⟨⟨q0a, q0b⟩, ⟨q1a, q1b⟩, ⟨q2a, q2b⟩, ⟨q3a, q3b⟩⟩ := Hrq.out wr hbq
                go_wp2
                obtain ⟨c0, c1, c2, c3⟩ := store4 wr w.heap.size (.int .i64 0) (.int .i64 0) (.int .i64 0) (.int .i64 0) _ _ _ _ q0a q1a q2a q3a
                have hbX := below_store4 (hb0.trans (hbq.mono hb0.size)) (Nat.le_refl _) (.int .i64 0) (.int .i64 0) (.int .i64 0) (.int .i64 0)
                generalize (((wr.setCell _ _).setCell _ _).setCell _ _).setCell _ _ = wX at c0 c1 c2 c3 hbX ⊢
                refine bodyPost_ret (v := .tuple #[.agg #[.int .i64 0, .int .i64 0, .int .i64 0, .int .i64 0], .bool false]) (by simp [results, Tryd.results31, go_sem, c0, c1, c2, c3]) rfl ⟨⟨0, 0, 0, 0⟩, ?_, ?_, hbX⟩
                · rw [Hn.out]; rfl
                · intro y hy; rw [Hn.out] at hy; cases hy
              | cons t r =>
                have Hf0 := Lib.hid hf0
                have hMt : (nm :: ps)[M]? = some t := by
                  have := congrArg (·[0]?) Hq.out
                  simpa using this
                have hMlt : M < ps.length + 1 := by
                  have := (List.getElem?_eq_some_iff.1 hMt).1
                  simpa using this
                have hcw : wr.cell? ⟨b, off + M, none⟩ = some (.string ⟨t.toArray⟩) := (hbq.cell hlt).trans (Hw1.out.at_ hMt)
                have Hr1 : Hid ((nm :: ps).drop (M + 1) = r) := by
                  have h1 := congrArg List.tail Hq.out
                  rw [List.tail_drop] at h1
                  exact h1
                have htl : t.length ≤ 4000 := Hlen.out t (List.mem_of_getElem? hMt)
                clear hf0 hMt
                rcases hs12 with ⟨hs1, hs2⟩ | ⟨hs1, _, hs2⟩
                · have h114 : ((cb.toNat : Int) == 114) = true := by rw [hs1]; rfl
                  clear hs1 hcb
                  cases t with
                  | nil =>
                    have Hn := Lib.hid (Hpl.out.trans (Cf.parseW_pst nm ps p (j + 1) Hfo.out (by omega) (Cf.pst_bad p j ps vs [] r Hpst.out Hf0.out (by unfold Cf.fieldOf; rw [if_pos hs2]))))
                    clear hs2
                    obtain ⟨⟨q0a, q0b⟩, ⟨q1a, q1b⟩, ⟨q2a, q2b⟩, ⟨q3a, q3b⟩⟩ := Hrq.out wr hbq
                    go_wp2
                    obtain ⟨c0, c1, c2, c3⟩ := store4 wr w.heap.size (.int .i64 0) (.int .i64 0) (.int .i64 0) (.int .i64 0) _ _ _ _ q0a q1a q2a q3a
                    have hbX := below_store4 (hb0.trans (hbq.mono hb0.size)) (Nat.le_refl _) (.int .i64 0) (.int .i64 0) (.int .i64 0) (.int .i64 0)
                    generalize (((wr.setCell _ _).setCell _ _).setCell _ _).setCell _ _ = wX at c0 c1 c2 c3 hbX ⊢
                    refine bodyPost_ret (v := .tuple #[.agg #[.int .i64 0, .int .i64 0, .int .i64 0, .int .i64 0], .bool false]) (by simp [results, Tryd.results31, go_sem, c0, c1, c2, c3]) rfl ⟨⟨0, 0, 0, 0⟩, ?_, ?_, hbX⟩
                    · rw [Hn.out]; rfl
                    · intro y hy; rw [Hn.out] at hy; cases hy
                  | cons c d =>
                    have hi0 : ∀ w, (Instr.index 9 (.string ⟨(c :: d).toArray⟩) (.int .i64 0)).run Tryd.prog w = .ok (.int .u8 (c.toNat : Int)) w := str_index (c :: d) 0 c rfl
                    by_cases hc114 : c = 114
                    · have hcc : ((c.toNat : Int) != 114) = false := by rw [hc114]; rfl
                      have HfO : Hid (Cf.fieldOf (Cf.fmt p j) (c :: d) = Cf.numField (Cf.fmt p j) d) := by
                        unfold Hid Cf.fieldOf; rw [if_pos hs2]; simp only; rw [if_pos hc114]
                      have hfr : ∀ w, (Instr.slice 9 (.string ⟨(c :: d).toArray⟩) (some (.int .i64 1)) none none).run Tryd.prog w = .ok (.string ⟨d.toArray⟩) w := str_from (c :: d) 1 (by simp)
                      have hDl : d.length ≤ 4000 := by simp at htl; omega
                      clear hc114 hs2
                      obtain ⟨hvc, hvf⟩ := Hv.out.2 j hj3
                      have hni := Cf.numI_le d
                      obtain ⟨nv, hnv⟩ : ∃ nv, nv = Cf.numI d := ⟨_, rfl⟩
                      have HnO := Lib.hid (numberOf_any d hDl)
                      rw [← hnv] at hni
                      have Hnv := Lib.hid hnv
                      clear hnv
                      have hvs := World.cell?_setCell_same wr ⟨w'.heap.size, j, none⟩ (.int .i64 nv) hvc
                      have hbq4 : Below w1.heap.size w1 (wr.setCell ⟨w'.heap.size, j, none⟩ (.int .i64 nv)) := hbq.setCell (p := ⟨w'.heap.size, j, none⟩) hgv _
                      have Hv4 := Lib.hid (Hv.out.set (Cf.pst_len p j ps vs _ Hpst.out) nv)
                      cases hin : Cf.inB nv 0 (Cf.most (cb.toNat : Int))
                      · have Hn := Lib.hid (Hpl.out.trans (Cf.parseW_pst nm ps p (j + 1) Hfo.out (by omega) (Cf.pst_bad p j ps vs (c :: d) r Hpst.out Hf0.out (HfO.out.trans (by unfold Cf.numField; rw [← Hnv.out, ← Hmost.out, hin]; rfl)))))
                        go_wp2_with (go_at_call 45; refine (HnO.out _).mono ?_; rw [← Hnv.out]; rintro e w4 ⟨rfl, rfl⟩)
                        go_quiet ((first | (go_at_call 22; exact quiet_eq (most_any _ _)) | (go_at_call 20; exact quiet_eq (in_any _ _ _ _))))
                        have hbq5 : Below w1.heap.size w1 ((wr.setCell ⟨w'.heap.size, j, none⟩ (.int .i64 nv)).drewN nq) := below_drewN hbq4 nq
                        generalize ((wr.setCell ⟨w'.heap.size, j, none⟩ (.int .i64 nv)).drewN nq) = w5 at hbq5 ⊢
                        obtain ⟨⟨q0a, q0b⟩, ⟨q1a, q1b⟩, ⟨q2a, q2b⟩, ⟨q3a, q3b⟩⟩ := Hrq.out w5 hbq5
                        go_wp2
                        obtain ⟨c0, c1, c2, c3⟩ := store4 w5 w.heap.size (.int .i64 0) (.int .i64 0) (.int .i64 0) (.int .i64 0) _ _ _ _ q0a q1a q2a q3a
                        have hbX := below_store4 (hb0.trans (hbq5.mono hb0.size)) (Nat.le_refl _) (.int .i64 0) (.int .i64 0) (.int .i64 0) (.int .i64 0)
                        generalize (((w5.setCell _ _).setCell _ _).setCell _ _).setCell _ _ = wX at c0 c1 c2 c3 hbX ⊢
                        refine bodyPost_ret (v := .tuple #[.agg #[.int .i64 0, .int .i64 0, .int .i64 0, .int .i64 0], .bool false]) (by simp [results, Tryd.results31, go_sem, c0, c1, c2, c3]) rfl ⟨⟨0, 0, 0, 0⟩, ?_, ?_, hbX⟩
                        · rw [Hn.out]; rfl
                        · intro y hy; rw [Hn.out] at hy; cases hy
                      · have Hpn := Lib.hid (Cf.pst_good p j ps vs (c :: d) r nv Hpst.out Hf0.out (HfO.out.trans (by unfold Cf.numField; rw [← Hnv.out, ← Hmost.out, hin]; rfl)))
                        go_wp2_with (go_at_call 45; refine (HnO.out _).mono ?_; rw [← Hnv.out]; rintro e w4 ⟨rfl, rfl⟩)
                        go_quiet ((first | (go_at_call 22; exact quiet_eq (most_any _ _)) | (go_at_call 20; exact quiet_eq (in_any _ _ _ _))))
                        go_wp2
                        go_roundw
                        case rel => exact ⟨j + 1, M + 1, vs ++ [nv], r, by omega, by go_num, by go_num, by omega, by omega, Hr1.out, Hpn.out, below_drewN hbq4 _, Hv4.out⟩
                        case measure => simp [intOf]; omega
                    · have hcc : ((c.toNat : Int) != 114) = true := by
                        rw [bne_iff_ne]
                        intro e
                        exact hc114 (UInt8.toNat_inj.1 (show c.toNat = 114 by omega))
                      have Hn := Lib.hid (Hpl.out.trans (Cf.parseW_pst nm ps p (j + 1) Hfo.out (by omega) (Cf.pst_bad p j ps vs (c :: d) r Hpst.out Hf0.out (by unfold Cf.fieldOf; rw [if_pos hs2]; simp only; rw [if_neg hc114]))))
                      clear hc114 hs2
                      obtain ⟨⟨q0a, q0b⟩, ⟨q1a, q1b⟩, ⟨q2a, q2b⟩, ⟨q3a, q3b⟩⟩ := Hrq.out wr hbq
                      go_wp2
                      obtain ⟨c0, c1, c2, c3⟩ := store4 wr w.heap.size (.int .i64 0) (.int .i64 0) (.int .i64 0) (.int .i64 0) _ _ _ _ q0a q1a q2a q3a
                      have hbX := below_store4 (hb0.trans (hbq.mono hb0.size)) (Nat.le_refl _) (.int .i64 0) (.int .i64 0) (.int .i64 0) (.int .i64 0)
                      generalize (((wr.setCell _ _).setCell _ _).setCell _ _).setCell _ _ = wX at c0 c1 c2 c3 hbX ⊢
                      refine bodyPost_ret (v := .tuple #[.agg #[.int .i64 0, .int .i64 0, .int .i64 0, .int .i64 0], .bool false]) (by simp [results, Tryd.results31, go_sem, c0, c1, c2, c3]) rfl ⟨⟨0, 0, 0, 0⟩, ?_, ?_, hbX⟩
                      · rw [Hn.out]; rfl
                      · intro y hy; rw [Hn.out] at hy; cases hy
                · have h114 : ((cb.toNat : Int) == 114) = false := by rcases hs1 with h | h <;> rw [h] <;> rfl
                  have HfO : Hid (Cf.fieldOf (Cf.fmt p j) t = Cf.numField (Cf.fmt p j) t) := by
                    unfold Hid Cf.fieldOf; rw [if_neg hs2]
                  have hDl := htl
                  clear hs1 hs2 hcb
                  obtain ⟨hvc, hvf⟩ := Hv.out.2 j hj3
                  have hni := Cf.numI_le t
                  obtain ⟨nv, hnv⟩ : ∃ nv, nv = Cf.numI t := ⟨_, rfl⟩
                  have HnO := Lib.hid (numberOf_any t hDl)
                  rw [← hnv] at hni
                  have Hnv := Lib.hid hnv
                  clear hnv
                  have hvs := World.cell?_setCell_same wr ⟨w'.heap.size, j, none⟩ (.int .i64 nv) hvc
                  have hbq4 : Below w1.heap.size w1 (wr.setCell ⟨w'.heap.size, j, none⟩ (.int .i64 nv)) := hbq.setCell (p := ⟨w'.heap.size, j, none⟩) hgv _
                  have Hv4 := Lib.hid (Hv.out.set (Cf.pst_len p j ps vs _ Hpst.out) nv)
                  cases hin : Cf.inB nv 0 (Cf.most (cb.toNat : Int))
                  · have Hn := Lib.hid (Hpl.out.trans (Cf.parseW_pst nm ps p (j + 1) Hfo.out (by omega) (Cf.pst_bad p j ps vs t r Hpst.out Hf0.out (HfO.out.trans (by unfold Cf.numField; rw [← Hnv.out, ← Hmost.out, hin]; rfl)))))
                    go_wp2_with (go_at_call 45; refine (HnO.out _).mono ?_; rw [← Hnv.out]; rintro e w4 ⟨rfl, rfl⟩)
                    go_quiet ((first | (go_at_call 22; exact quiet_eq (most_any _ _)) | (go_at_call 20; exact quiet_eq (in_any _ _ _ _))))
                    have hbq5 : Below w1.heap.size w1 ((wr.setCell ⟨w'.heap.size, j, none⟩ (.int .i64 nv)).drewN nq) := below_drewN hbq4 nq
                    generalize ((wr.setCell ⟨w'.heap.size, j, none⟩ (.int .i64 nv)).drewN nq) = w5 at hbq5 ⊢
                    obtain ⟨⟨q0a, q0b⟩, ⟨q1a, q1b⟩, ⟨q2a, q2b⟩, ⟨q3a, q3b⟩⟩ := Hrq.out w5 hbq5
                    go_wp2
                    obtain ⟨c0, c1, c2, c3⟩ := store4 w5 w.heap.size (.int .i64 0) (.int .i64 0) (.int .i64 0) (.int .i64 0) _ _ _ _ q0a q1a q2a q3a
                    have hbX := below_store4 (hb0.trans (hbq5.mono hb0.size)) (Nat.le_refl _) (.int .i64 0) (.int .i64 0) (.int .i64 0) (.int .i64 0)
                    generalize (((w5.setCell _ _).setCell _ _).setCell _ _).setCell _ _ = wX at c0 c1 c2 c3 hbX ⊢
                    refine bodyPost_ret (v := .tuple #[.agg #[.int .i64 0, .int .i64 0, .int .i64 0, .int .i64 0], .bool false]) (by simp [results, Tryd.results31, go_sem, c0, c1, c2, c3]) rfl ⟨⟨0, 0, 0, 0⟩, ?_, ?_, hbX⟩
                    · rw [Hn.out]; rfl
                    · intro y hy; rw [Hn.out] at hy; cases hy
                  · have Hpn := Lib.hid (Cf.pst_good p j ps vs t r nv Hpst.out Hf0.out (HfO.out.trans (by unfold Cf.numField; rw [← Hnv.out, ← Hmost.out, hin]; rfl)))
                    go_wp2_with (go_at_call 45; refine (HnO.out _).mono ?_; rw [← Hnv.out]; rintro e w4 ⟨rfl, rfl⟩)
                    go_quiet ((first | (go_at_call 22; exact quiet_eq (most_any _ _)) | (go_at_call 20; exact quiet_eq (in_any _ _ _ _))))
                    go_wp2
                    go_roundw
                    case rel => exact ⟨j + 1, M + 1, vs ++ [nv], r, by omega, by go_num, by go_num, by omega, by omega, Hr1.out, Hpn.out, below_drewN hbq4 _, Hv4.out⟩
                    case measure => simp [intOf]; omega
          · obtain rfl : j = 3 := by omega
            obtain ⟨va, vb, vc, rfl⟩ : ∃ a b c, vs = [a, b, c] := by
              have hl := Cf.pst_len p 3 ps vs _ Hpst.out
              match vs, hl with
              | [a, b, c], _ => exact ⟨a, b, c, rfl⟩
            have v0 : wr.cell? ⟨w'.heap.size, 0, none⟩ = some (.int .i64 va) := (Hv.out.2 0 (by omega)).1
            have v1 : wr.cell? ⟨w'.heap.size, 1, none⟩ = some (.int .i64 vb) := (Hv.out.2 1 (by omega)).1
            have v2 : wr.cell? ⟨w'.heap.size, 2, none⟩ = some (.int .i64 vc) := (Hv.out.2 2 (by omega)).1
            obtain ⟨⟨q0a, q0b⟩, ⟨q1a, q1b⟩, ⟨q2a, q2b⟩, ⟨q3a, q3b⟩⟩ := Hrq.out wr hbq
            obtain ⟨c0, c1, c2, c3⟩ := store4 wr w.heap.size (.int .i64 o) (.int .i64 va) (.int .i64 vb) (.int .i64 vc) _ _ _ _ q0a q1a q2a q3a
            have hbX := below_store4 (hb0.trans (hbq.mono hb0.size)) (Nat.le_refl _) (.int .i64 o) (.int .i64 va) (.int .i64 vb) (.int .i64 vc)
            have Hc := Lib.hid (And.intro c0 (And.intro c1 (And.intro c2 c3)))
            clear c0 c1 c2 c3
            cases q with
            | nil =>
              have Hn := Lib.hid (Hpl.out.trans (Cf.parseW_some nm ps p va vb vc Hfo.out Hpst.out))
              have hMe : ((M : Int) == (ps.length : Int) + 1) = true := by
                rw [beq_iff_eq]
                have := congrArg List.length Hq.out
                simp at this
                omega
              go_wp2
              obtain ⟨c0, c1, c2, c3⟩ := Hc.out
              generalize (((wr.setCell _ _).setCell _ _).setCell _ _).setCell _ _ = wX at c0 c1 c2 c3 hbX ⊢
              refine bodyPost_ret (v := .tuple #[.agg #[.int .i64 o, .int .i64 va, .int .i64 vb, .int .i64 vc], .bool true]) (by simp [results, Tryd.results31, go_sem, c0, c1, c2, c3]) rfl ⟨⟨o, va, vb, vc⟩, ?_, ?_, hbX⟩
              · rw [Hn.out]; rfl
              · intro y hy; rw [Hn.out] at hy; cases hy; rw [Hp.out]
            | cons t r =>
              have Hn := Lib.hid (Hpl.out.trans (Cf.parseW_more nm ps p [va, vb, vc] (t :: r) Hfo.out Hpst.out (by simp)))
              have hMe : ((M : Int) == (ps.length : Int) + 1) = false := by
                rw [beq_eq_false_iff_ne]
                have := congrArg List.length Hq.out
                simp at this
                omega
              go_wp2
              obtain ⟨c0, c1, c2, c3⟩ := Hc.out
              generalize (((wr.setCell _ _).setCell _ _).setCell _ _).setCell _ _ = wX at c0 c1 c2 c3 hbX ⊢
              refine bodyPost_ret (v := .tuple #[.agg #[.int .i64 o, .int .i64 va, .int .i64 vb, .int .i64 vc], .bool false]) (by simp [results, Tryd.results31, go_sem, c0, c1, c2, c3]) rfl ⟨⟨o, va, vb, vc⟩, ?_, ?_, hbX⟩
              · rw [Hn.out]; rfl
              · intro y hy; rw [Hn.out] at hy; cases hy
      · have hne : (nm == Cf.nameL o) = false := by simpa using heq
        have Hno' : Hid (Cf.findOp nm (k + 1) = none) := by
          unfold Hid
          simp only [Cf.findOp, Hno.out]
          rw [if_neg]
          intro e
          apply heq
          rw [← e, show o = ((k + 1 : Nat) : Int) by have := Ho.out; omega]
          rfl
        clear heq
        go_wp2_with fail
        go_region_held3 (fun W => W.cell? ⟨b, off, none⟩ = some (.string ⟨nm.toArray⟩)) (first | go_keep | (rw [hb'.cell (by exact hblt)]; assumption)) (first | (go_at_call 27; refine (name_any o ho1 hle _).mono ?_; rintro e w' ⟨rfl, hb'⟩))
        have hbw2 : Below w1.heap.size w1 w' := hbw.drew.trans (hb'.mono hbw.size)
        clear hb' hcr hblt
        go_wp2
        go_roundw
        case rel => exact ⟨k + 1, o + 1, by have := Ho.out; omega, rfl, by have := Ho.out; omega, Hno'.out, hbw2⟩
        case measure => simp [intOf]; omega
    · obtain rfl : k = 15 := by have := Ho.out; omega
      have Hn := Lib.hid (Hpl.out.trans (Cf.parseW_none nm ps Hno.out))
      obtain ⟨⟨q0a, q0b⟩, ⟨q1a, q1b⟩, ⟨q2a, q2b⟩, ⟨q3a, q3b⟩⟩ := Hrq.out wr hbw
      go_wp2
      obtain ⟨c0, c1, c2, c3⟩ := store4 wr w.heap.size (.int .i64 0) (.int .i64 0) (.int .i64 0) (.int .i64 0) _ _ _ _ q0a q1a q2a q3a
      have hbX := below_store4 (hb0.trans (hbw.mono hb0.size)) (Nat.le_refl _) (.int .i64 0) (.int .i64 0) (.int .i64 0) (.int .i64 0)
      generalize (((wr.setCell _ _).setCell _ _).setCell _ _).setCell _ _ = wX at c0 c1 c2 c3 hbX ⊢
      refine bodyPost_ret (v := .tuple #[.agg #[.int .i64 0, .int .i64 0, .int .i64 0, .int .i64 0], .bool false]) (by simp [results, Tryd.results31, go_sem, c0, c1, c2, c3]) rfl ⟨⟨0, 0, 0, 0⟩, ?_, ?_, hbX⟩
      · rw [Hn.out]; rfl
      · intro y hy; rw [Hn.out] at hy; cases hy
end Go.Proofs.YthbjeleiiilhlaaDoor
