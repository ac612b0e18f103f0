/- Plain mathematics of chapter 3: code that the law MadeSafe lays ahead of trusted code, or behind it: it is refused. No Go in it. -/
import Derived.Test.YtamepbgmajeaeabDoorMadeP
namespace Go.Proofs.YtamepbgmajeaeabDoor.Cf

theorem safe_not {l : List Ins} (hf : fault l = 0) {k : Nat} {i : Ins} (hi : l[k]? = some i) (h : okI l k i = false) : safeT l = 10 := by
  unfold safeT
  rw [if_pos hf, if_neg]
  intro hb
  simp only [Bool.and_eq_true] at hb
  have hk : k < l.length := (List.getElem?_eq_some_iff.1 hi).1
  have := List.all_eq_true.1 hb.2 k (List.mem_range.2 hk)
  rw [okAt, hi] at this
  simp only at this
  rw [h] at this
  cases this
theorem safe_last {l : List Ins} (hf : fault l = 0) (h : lastB l = false) : safeT l = 10 := by
  unfold safeT
  rw [if_pos hf, h]
  rfl
theorem safe_nil : safeT [] = 10 := by decide
/-- The law's odd pieces. -/
def oddC : List (List Ins) := [[⟨8, 1, 2, 0⟩], [⟨9, 1, 0, 0⟩], [⟨1, 4, 0, 3⟩], [⟨1, 5, 0, 0⟩], [⟨8, 6, 4, 0⟩], [⟨8, 4, 4, 0⟩], [⟨4, 4, 1, 6⟩], [⟨4, 4, 1, 2⟩, ⟨5, 4, 4, 5⟩], [⟨5, 4, 1, 5⟩], [⟨10, 0, 0, 199⟩]]
theorem odd_fault : ∀ x ∈ oddC, faultIn x = 0 ∧ x.length ≤ 2 ∧ x ≠ [] := by decide
theorem fault_two_of {a b : List Ins} (ha : faultIn a = 0) (hb : faultIn b = 0) (hl : (a ++ b).length ≤ 200) : fault (a ++ b) = 0 := by
  unfold fault
  rw [if_neg (by omega), faultIn_append, if_pos ha, hb]
theorem odd_head (m : List Ins) (hm : fault m = 0) (hl : m.length ≤ 190) (h0 : ∀ i, m[0]? = some i → orBaseB i = false) : ∀ x ∈ oddC, safeT (x ++ m) = 10 := by
  intro x hx
  obtain ⟨hf, h2, hne⟩ := odd_fault x hx
  have hfx : fault (x ++ m) = 0 := fault_two_of hf (fault_two hm).1 (by simp; omega)
  have hn : nextB (⟨4, 4, 1, 6⟩ :: m) 0 = false := by
    unfold nextB
    rw [List.getElem?_cons_succ]
    cases hq : m[0]? with
    | none => rfl
    | some i => exact h0 i hq
  simp only [oddC, List.mem_cons, List.not_mem_nil, or_false] at hx
  rcases hx with rfl | rfl | rfl | rfl | rfl | rfl | rfl | rfl | rfl | rfl
  · exact safe_not hfx (k := 0) rfl (by simp [okI])
  · exact safe_not hfx (k := 0) rfl (by simp [okI])
  · exact safe_not hfx (k := 0) rfl (by simp [okI, destB, inB, orBaseB])
  · exact safe_not hfx (k := 0) rfl (by simp [okI, destB, inB])
  · exact safe_not hfx (k := 0) rfl (by simp [okI, destB, inB])
  · exact safe_not hfx (k := 0) rfl (by simp [okI, destB, inB, orBaseB])
  · exact safe_not hfx (k := 0) rfl (by
      show okI (⟨4, 4, 1, 6⟩ :: m) 0 ⟨4, 4, 1, 6⟩ = false
      simp [okI, destB, inB, orBaseB, hn])
  · exact safe_not hfx (k := 0) rfl (by simp [okI, destB, inB, orBaseB])
  · exact safe_not hfx (k := 0) rfl (by simp [okI, destB, inB, orBaseB])
  · refine safe_not hfx (k := 0) rfl ?_
    unfold okI
    split
    · rw [if_pos]
      refine .inr ⟨rfl, ?_⟩
      simp
      omega
    · rfl
theorem odd_tail (m : List Ins) (hm : fault m = 0) (hl : m.length ≤ 190) : safeT (m ++ [⟨14, 0, 0, 0⟩]) = 10 :=
  safe_last (fault_two_of (fault_two hm).1 (by decide) (by simp; omega)) (by unfold lastB; rw [List.getLast?_append]; rfl)
/-- What is made of plain code does not begin with Or At At Base. -/
theorem made_first {l : List Ins} (hp : plainB l = true) : ∀ i, (madeL l)[0]? = some i → orBaseB i = false := by
  intro y hy
  obtain ⟨c, i, j, hi, hj, hk⟩ := made_of hy
  obtain ⟨pa, _, _, _⟩ := (plain_parts hp).2 i (List.mem_of_getElem? hi)
  have hj0 : j = 0 := by omega
  subst hj0
  rcases tri_cases hj with ⟨_, ⟨_, rfl⟩ | ⟨h, _⟩ | ⟨h, _⟩⟩ | ⟨_, _, _, rfl⟩ | ⟨_, _, _, rfl⟩
  · rfl
  · cases h
  · cases h
  · simp [orBaseB]; intro _ h; omega
  · simp [orBaseB]; intro _ h; omega
end Go.Proofs.YtamepbgmajeaeabDoor.Cf
