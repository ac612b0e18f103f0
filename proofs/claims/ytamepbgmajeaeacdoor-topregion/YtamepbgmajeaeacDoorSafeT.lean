/- Plain mathematics of chapter 3: two runs of trusted code that agree in its region. No Go in it. -/
import Derived.Test.YtamepbgmajeaeacDoorSafeP
namespace Go.Proofs.YtamepbgmajeaeacDoor.Cf

/-- Two machines that agree in all but the words outside the region r. -/
structure Twin (r : Nat) (a b : Mach) : Prop where
  regs : a.regs = b.regs
  told : a.told = b.told
  back : a.back = b.back
  pc : a.pc = b.pc
  mem : ∀ j : Nat, 64 * r ≤ j → j < 64 * r + 64 → a.mem.getD j 0 = b.mem.getD j 0
def TwinStep (r : Nat) : Step → Step → Prop
  | .on a, .on b => Twin r a b
  | .fin e a, .fin f b => e = f ∧ Twin r a b
  | _, _ => False
theorem step_twin {l : List Ins} {r : Nat} (hs : safeT l = 0) (hr : r ≤ 15) {a b : Mach} (ha : SInv l r a) (hb : SInv l r b) (h : Twin r a b) : TwinStep r (step l a) (step l b) := by
  obtain ⟨i, hi⟩ : ∃ i, l[a.pc]? = some i := ⟨_, List.getElem?_eq_getElem ha.pc⟩
  obtain ⟨s1, s2, s3⟩ := safe_at hs hi
  have hin := fun ho => ha.in_ hi ho
  have hword := getD_word ha.words 4
  obtain ⟨ar, am, at_, ab, ap⟩ := a
  obtain ⟨br, bm, bt, bb, bp⟩ := b
  obtain ⟨rfl, rfl, rfl, rfl, hmem⟩ := h
  have la : am.length = 1024 := ha.mem
  have lb : bm.length = 1024 := hb.mem
  dsimp only at hi hin hword hmem
  unfold step
  simp only [hi]
  unfold exec
  by_cases h7 : i.op ≤ 7
  · rw [if_pos h7, if_pos h7]
    exact ⟨rfl, rfl, rfl, rfl, hmem⟩
  · rw [if_neg h7, if_neg h7]
    have hin' := hin (not_or (by omega))
    by_cases h8 : i.op = 8
    · have hb4 := s2 (.inl h8)
      rw [if_pos h8, if_pos h8, hb4]
      simp only [Mach.rg, show (4 : Int).toNat = 4 from rfl]
      rw [if_pos (by omega), if_pos (by omega)]
      rw [hmem _ (by omega) (by omega)]
      exact ⟨rfl, rfl, rfl, rfl, hmem⟩
    · rw [if_neg h8, if_neg h8]
      by_cases h9 : i.op = 9
      · have hb4 := s2 (.inr h9)
        rw [if_pos h9, if_pos h9, hb4]
        simp only [Mach.rg, show (4 : Int).toNat = 4 from rfl]
        rw [if_pos (by omega), if_pos (by omega)]
        refine ⟨rfl, rfl, rfl, rfl, fun j h1 h2 => ?_⟩
        show (am.set _ _).getD j 0 = (bm.set _ _).getD j 0
        rw [getD_set _ _ _ _ (by omega), getD_set _ _ _ _ (by omega), hmem j h1 h2]
      · rw [if_neg h9, if_neg h9]
        split
        · exact ⟨rfl, rfl, rfl, rfl, hmem⟩
        · split
          · show TwinStep r (if ar.getD i.a.toNat 0 = 0 then _ else _) (if ar.getD i.a.toNat 0 = 0 then _ else _)
            split
            · exact ⟨rfl, rfl, rfl, rfl, hmem⟩
            · exact ⟨rfl, rfl, rfl, rfl, hmem⟩
          · split
            · split
              · exact ⟨rfl, rfl, rfl, rfl, rfl, hmem⟩
              · exact ⟨rfl, rfl, rfl, rfl, hmem⟩
            · split
              · split
                · exact ⟨rfl, rfl, rfl, rfl, rfl, hmem⟩
                · exact ⟨rfl, rfl, rfl, rfl, hmem⟩
              · split
                · split
                  · exact ⟨rfl, rfl, rfl, rfl, rfl, hmem⟩
                  · exact ⟨rfl, rfl, rfl, rfl, hmem⟩
                · exact ⟨rfl, rfl, rfl, rfl, rfl, hmem⟩
theorem run_twin {l : List Ins} {r : Nat} (hs : safeT l = 0) (hr : r ≤ 15) : ∀ (n : Nat) (a b : Mach), SInv l r a → SInv l r b → MOk a → MOk b → Twin r a b → (runM l n a).1 = (runM l n b).1 ∧ Twin r (runM l n a).2 (runM l n b).2
  | 0, _, _, _, _, _, _, h => ⟨rfl, h⟩
  | n + 1, a, b, ha, hb, ka, kb, h => by
    have hz : faultIn l = 0 ∧ l.length ≤ 200 := by
      have hf := safe_fault hs
      unfold fault at hf
      split at hf
      · cases hf
      · exact ⟨hf, by omega⟩
    have h1 := step_safe hs hr ha ka.mem
    have h2 := step_safe hs hr hb kb.mem
    have ht := step_twin hs hr ha hb h
    rw [runM, runM]
    cases hsa : step l a with
    | on a' =>
      cases hsb : step l b with
      | on b' =>
        rw [hsa] at h1 ht
        rw [hsb] at h2 ht
        exact run_twin hs hr n a' b' h1.1 h2.1 (step_ok hz.1 hz.2 ka hsa) (step_ok hz.1 hz.2 kb hsb) ht
      | fin f b' => rw [hsa, hsb] at ht; exact ht.elim
    | fin e a' =>
      cases hsb : step l b with
      | on b' => rw [hsa, hsb] at ht; exact ht.elim
      | fin f b' => rw [hsa, hsb] at ht; exact ht
/-- The registers at the entry. -/
def enterL (r : Nat) (word : Int) : List Int := [word, 0, 0, 0, 64 * r, 64 * r, 63, 0]
theorem enter_inv {l : List Ins} {r : Nat} {word : Int} {mem : List Int} (hs : safeT l = 0) (hr : r ≤ 15) (hw : 0 ≤ word ∧ word ≤ 65535) (hm : mem.length = 1024) : SInv l r ⟨enterL r word, mem, [], [], 0⟩ := by
  have hne : 0 < l.length := by
    have := (safe_both hs).1
    unfold lastB at this
    cases l with
    | nil => simp at this
    | cons x l => simp
  refine ⟨rfl, rfl, rfl, fun v hv => ?_, hne, (fun b hb => by cases hb), hm, .inl ?_⟩
  · simp [enterL] at hv
    rcases hv with rfl | rfl | rfl | rfl | rfl <;> omega
  · show 64 * (r : Int) ≤ 64 * r ∧ (64 * r : Int) < 64 * r + 64
    omega
end Go.Proofs.YtamepbgmajeaeacDoor.Cf
