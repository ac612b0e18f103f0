/- Plain mathematics of the whole: what the runs of trusted and of made code answer. No Go in it. -/
import Derived.Test.YtamepbgmajeaeacDoorMadeR
import Derived.Test.YtamepbgmajeaeacDoorSafeT
import Derived.Test.YtamepbgmajeaeacDoorCpuQ
namespace Go.Proofs.YtamepbgmajeaeacDoor

theorem Cf.step_pos (l : List Cf.Ins) (m m' : Cf.Mach) (e : Int) (h : Cf.step l m = .fin e m') : e ≠ 0 := by
  unfold Cf.step at h
  split at h
  · injection h with h1; omega
  · unfold Cf.exec at h
    repeat' split at h
    all_goals first | (injection h with h1; omega) | (cases h)
theorem Cf.run_pos (l : List Cf.Ins) : ∀ (n : Nat) (m : Cf.Mach), (Cf.runM l n m).1 ≠ 0
  | 0, m => (show (2 : Int) ≠ 0 by decide)
  | n + 1, m => by
    rw [Cf.runM]
    cases hs : Cf.step l m with
    | on m' => exact Cf.run_pos l n m'
    | fin e m' => exact Cf.step_pos l m m' e hs
theorem Cf.runT_ok {l : List Cf.Ins} (hf : Cf.fault l = 0) {regs mem : List Int} (hm : mem.length ≤ 1024) (hr : ∀ v ∈ regs, 0 ≤ v ∧ v ≤ 65535) (hw : ∀ v ∈ mem, 0 ≤ v ∧ v ≤ 65535) {fuel : Nat} (hfu : fuel ≤ 20000) :
    Cf.runT l regs mem fuel = ⟨(Cf.runM l fuel ⟨regs, mem, [], [], 0⟩).1, (Cf.runM l fuel ⟨regs, mem, [], [], 0⟩).2.regs, (Cf.runM l fuel ⟨regs, mem, [], [], 0⟩).2.told, (Cf.runM l fuel ⟨regs, mem, [], [], 0⟩).2.mem, 0⟩ := by
  unfold Cf.runT
  rw [if_pos hf, if_pos hm, if_pos, Int.toNat_natCast]
  simp only [Bool.and_eq_true]
  refine ⟨by simp [Cf.inB]; omega, List.all_eq_true.2 fun v hv => ?_, List.all_eq_true.2 fun v hv => ?_⟩
  · have := hr v hv
    simp [Cf.wordB, Cf.inB]; omega
  · have := hw v hv
    simp [Cf.wordB, Cf.inB]; omega
/-- A run of made code, beside the run of the plain code. -/
theorem Cf.top_made {p : List Cf.Ins} (hf : Cf.fault p = 0) (hp : Cf.plainB p = true) (hl : (Cf.madeL p).length ≤ 200) (n : Int) (hn : 0 ≤ n ∧ n ≤ 65535) (x : List Int) (hx : x.length = 64) (hw : ∀ v ∈ x, 0 ≤ v ∧ v ≤ 65535) :
    ∃ z s0 s1 s2 s3 s4 s5 s6 s7 t mm z' s0' s1' s2' s3' s4' s5' s6' s7' t' mm', Cf.runT p [n, 0, 0, 0, 0, 0, 0, 0] x 1000 = ⟨z, [s0, s1, s2, s3, s4, s5, s6, s7], t, mm, 0⟩ ∧
      Cf.runT (Cf.madeL p) [n, 0, 0, 0, 0, 0, 63, 0] x 3000 = ⟨z', [s0', s1', s2', s3', s4', s5', s6', s7'], t', mm', 0⟩ ∧ z ≠ 0 ∧ t.length ≤ 100 ∧ mm.length ≤ 64 ∧
      (z ≠ 3 → z ≠ 2 → z' = z ∧ s0' = s0 ∧ s1' = s1 ∧ s2' = s2 ∧ s3' = s3 ∧ t' = t ∧ mm' = mm) := by
  have hr1 : ∀ v ∈ [n, 0, 0, 0, 0, 0, 0, 0], 0 ≤ v ∧ v ≤ 65535 := by
    intro v hv
    simp at hv
    omega
  have hr2 : ∀ v ∈ [n, 0, 0, 0, 0, 0, 63, 0], 0 ≤ v ∧ v ≤ 65535 := by
    intro v hv
    simp at hv
    omega
  have h1 := Cf.runT_ok hf (regs := [n, 0, 0, 0, 0, 0, 0, 0]) (mem := x) (by omega) hr1 hw (fuel := 1000) (by omega)
  have h2 := Cf.runT_ok (Cf.made_fault hf hp hl) (regs := [n, 0, 0, 0, 0, 0, 63, 0]) (mem := x) (by omega) hr2 hw (fuel := 3000) (by omega)
  obtain ⟨z, s0, s1, s2, s3, s4, s5, s6, s7, t, mm, er, e1, ht, hmm⟩ := runT_8 p n 0 0 0 0 0 0 0 x 1000
  obtain ⟨z', s0', s1', s2', s3', s4', s5', s6', s7', t', mm', er', e2, _, _⟩ := runT_8 (Cf.madeL p) n 0 0 0 0 0 63 0 x 3000
  have h1' := h1.symm.trans e1
  have h2' := h2.symm.trans e2
  simp only [Cf.Out.mk.injEq] at h1' h2'
  obtain ⟨a1, a2, a3, a4, rfl⟩ := h1'
  obtain ⟨b1, b2, b3, b4, rfl⟩ := h2'
  refine ⟨z, s0, s1, s2, s3, s4, s5, s6, s7, t, mm, z', s0', s1', s2', s3', s4', s5', s6', s7', t', mm', e1, e2, a1 ▸ Cf.run_pos _ _ _, ht, by omega, fun h3 h2 => ?_⟩
  have hs : Cf.Sim p ⟨[n, 0, 0, 0, 0, 0, 0, 0], x, [], [], 0⟩ ⟨[n, 0, 0, 0, 0, 0, 63, 0], x, [], [], 0⟩ := by
    refine ⟨rfl, fun j hj => ?_, rfl, rfl, rfl, rfl, rfl, rfl, ⟨rfl, hr1, hw, by simp, by simp, by simp, by simp, by simp⟩, hx⟩
    match j, hj with
    | 0, _ => rfl
    | 1, _ => rfl
    | 2, _ => rfl
    | 3, _ => rfl
    | 4, h => omega
    | 5, h => omega
    | 6, h => omega
    | 7, _ => rfl
    | (j + 8), _ => simp
  obtain ⟨c1, c2⟩ := Cf.run_sim hf hp 1000 _ _ hs (by rw [a1]; exact h2) (by rw [a1]; exact h3) 3000 (by omega)
  have hg := c2.regs
  rw [a2, b2] at hg
  refine ⟨by rw [← b1, c1, a1], ?_, ?_, ?_, ?_, by rw [← b3, c2.told, a3], by rw [← b4, c2.mem, a4]⟩
  · exact hg 0 (by omega)
  · exact hg 1 (by omega)
  · exact hg 2 (by omega)
  · exact hg 3 (by omega)
end Go.Proofs.YtamepbgmajeaeacDoor
