/- Plain mathematics of the whole: a run of trusted code, entered in a region. No Go in it. -/
import Derived.Test.YtamepbgmajeaeacDoorTopP
namespace Go.Proofs.YtamepbgmajeaeacDoor

/-- The registers with which code is entered in the region r. -/
def Cf.inRegs (r : Nat) (x : Int) : List Int := [x, 0, 0, 0, 64 * (r : Int), 64 * (r : Int), 63, 0]
theorem Cf.inRegs_words (r : Nat) (x : Int) (hr : r ≤ 15) (hx : 0 ≤ x ∧ x ≤ 65535) : ∀ v ∈ Cf.inRegs r x, 0 ≤ v ∧ v ≤ 65535 := by
  intro v hv
  simp [Cf.inRegs] at hv
  omega
theorem Cf.start_inv {c : List Cf.Ins} (hs : Cf.safeT c = 0) (r : Nat) (x : Int) (hr : r ≤ 15) (hx : 0 ≤ x ∧ x ≤ 65535) (m : List Int) (hm : m.length = 1024) : Cf.SInv c r ⟨Cf.inRegs r x, m, [], [], 0⟩ := by
  have hl := (Cf.safe_both hs).1
  have hne : 0 < c.length := by
    cases c with
    | nil => cases hl
    | cons _ _ => simp
  exact ⟨rfl, rfl, rfl, Cf.inRegs_words r x hr hx, hne, by simp, hm, .inl (by show 64 * (r : Int) ≤ 64 * (r : Int) ∧ 64 * (r : Int) < 64 * r + 64; omega)⟩
theorem Cf.start_ok (r : Nat) (x : Int) (hr : r ≤ 15) (hx : 0 ≤ x ∧ x ≤ 65535) (m : List Int) (hw : ∀ v ∈ m, 0 ≤ v ∧ v ≤ 65535) : Cf.MOk ⟨Cf.inRegs r x, m, [], [], 0⟩ :=
  ⟨rfl, Cf.inRegs_words r x hr hx, hw, by simp, by simp, by simp, by simp, by simp⟩
/-- A run of trusted code, entered in a region. -/
theorem Cf.top_run {c : List Cf.Ins} (hs : Cf.safeT c = 0) (r : Nat) (x : Int) (hr : r ≤ 15) (hx : 0 ≤ x ∧ x ≤ 65535) (m : List Int) (hm : m.length = 1024) (hw : ∀ v ∈ m, 0 ≤ v ∧ v ≤ 65535) :
    ∃ z s0 s1 s2 s3 s4 s5 s6 s7 t mm, Cf.runT c [x, 0, 0, 0, 64 * (r : Int), 64 * (r : Int), 63, 0] m 3000 = ⟨z, [s0, s1, s2, s3, s4, s5, s6, s7], t, mm, 0⟩ ∧ z ≠ 0 ∧ z ≠ 3 ∧ t.length ≤ 100 ∧ mm.length = 1024 ∧
      Cf.runM c 3000 ⟨Cf.inRegs r x, m, [], [], 0⟩ = (z, ⟨[s0, s1, s2, s3, s4, s5, s6, s7], mm, t, (Cf.runM c 3000 ⟨Cf.inRegs r x, m, [], [], 0⟩).2.back, (Cf.runM c 3000 ⟨Cf.inRegs r x, m, [], [], 0⟩).2.pc⟩) ∧
      ∀ j : Nat, j < 64 * r ∨ 64 * r + 64 ≤ j → mm.getD j 0 = m.getD j 0 := by
  have hf := Cf.safe_fault hs
  have h1 := Cf.runT_ok hf (regs := Cf.inRegs r x) (mem := m) (by omega) (Cf.inRegs_words r x hr hx) hw (fuel := 3000) (by omega)
  obtain ⟨z, s0, s1, s2, s3, s4, s5, s6, s7, t, mm, er, e1, ht, hmm⟩ := runT_8 c x 0 0 0 (64 * (r : Int)) (64 * (r : Int)) 63 0 m 3000
  have h1' := h1.symm.trans e1
  simp only [Cf.Out.mk.injEq] at h1'
  obtain ⟨a1, a2, a3, a4, rfl⟩ := h1'
  obtain ⟨n3, hout⟩ := Cf.run_safe hs hr 3000 _ (Cf.start_inv hs r x hr hx m hm) hw (Cf.start_ok r x hr hx m hw)
  have hml := runM_mem c 3000 ⟨Cf.inRegs r x, m, [], [], 0⟩
  refine ⟨z, s0, s1, s2, s3, s4, s5, s6, s7, t, mm, e1, a1 ▸ Cf.run_pos _ _ _, a1 ▸ n3, ht, ?_, ?_, fun j hj => ?_⟩
  · rw [← a4, hml]; exact hm
  · rw [← a1, ← a2, ← a3, ← a4]
  · rw [← a4]; exact hout j hj
end Go.Proofs.YtamepbgmajeaeacDoor
