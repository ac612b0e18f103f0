/- Plain mathematics of chapter 5: what is valid remains valid. No Go in it. -/
import Derived.Test.YtnnhhbjbdmgpiaaDoorKernQ
namespace Go.Proofs.YtnnhhbjbdmgpiaaDoor.Cf
set_option maxRecDepth 100000

/-- A node's fields without regard to its name. -/
structure NodeOk (mods : Nat) (n : Node) : Prop where
  kinds : n.kind = 0 ∧ n = noNode ∨ n.kind = 1 ∧ n.unit = 0 ∧ n.data.length ≤ 100 ∨ n.kind = 2 ∧ n.data = [] ∧ 0 ≤ n.unit ∧ n.unit < mods
structure EndOk (ns : List Node) (e : End) : Prop where
  kinds : e = noEnd ∨ (e.kind = 1 ∧ 0 ≤ e.node ∧ e.node < ns.length ∧ fullAt ns e.node = true ∧ 0 ≤ e.pos ∧ e.pos ≤ 100) ∨ ((e.kind = 2 ∨ e.kind = 3) ∧ 0 ≤ e.node ∧ e.node < 6 ∧ e.pos = 0)
/-- All but what depends on who has a file or a pipe open. -/
structure Pre (k : Kern) : Prop where
  modsL : k.mods.length ≤ 8
  mod : ∀ m ∈ k.mods, modT m = 0
  modU : modsE k.mods = 0
  memL : k.mem.length = 1024
  memW : ∀ v ∈ k.mem, 0 ≤ v ∧ v ≤ 65535
  nodesL : k.nodes.length = 8
  node : ∀ n ∈ k.nodes, NodeOk k.mods.length n
  name : ∀ n ∈ k.nodes, n.name ≠ [] → nameB n.name = true
  uniq : ∀ (i j : Nat) (a b : Node), k.nodes[i]? = some a → k.nodes[j]? = some b → a.name = b.name → a.name ≠ [] → i = j
  pipesL : k.pipes.length = 6
  pipe : ∀ s ∈ k.pipes, s.length ≤ 20
  procsL : k.procs.length = 4
  ends : ∀ p ∈ k.procs, p.ends.length = 6
  ende : ∀ p ∈ k.procs, ∀ e ∈ p.ends, EndOk k.nodes e
  dead : ∀ p ∈ k.procs, p.live = false → ∀ e ∈ p.ends, e = noEnd
structure Good (k : Kern) : Prop extends Pre k where
  open_ : ∀ (i : Nat) (n : Node), k.nodes[i]? = some n → n.kind ≠ 0 → n.name = [] → hasB k.procs 1 i = true
  reader : ∀ (i : Nat) (s : List UInt8), k.pipes[i]? = some s → s ≠ [] → hasB k.procs 2 i = true

theorem within_iff {v : Int} {n : Nat} : withinB v n = true ↔ 0 ≤ v ∧ v < n := by simp [withinB]
theorem word_iff {v : Int} : wordB v = true ↔ 0 ≤ v ∧ v ≤ 65535 := by simp [wordB, inB]
theorem content_iff {m : Nat} {n : Node} : contentB m n = true ↔ NodeOk m n := by
  unfold contentB
  constructor
  · intro h
    split at h
    · rename_i h1
      simp only [Bool.and_eq_true, decide_eq_true_eq] at h
      exact ⟨.inr (.inl ⟨h1, h.1, h.2⟩)⟩
    · split at h
      · rename_i h2
        simp only [Bool.and_eq_true, decide_eq_true_eq, within_iff] at h
        exact ⟨.inr (.inr ⟨h2, h.1, h.2⟩)⟩
      · simp only [decide_eq_true_eq] at h
        exact ⟨.inl ⟨by rw [h]; rfl, h⟩⟩
  · rintro ⟨h | h | h⟩
    · rw [if_neg (by omega), if_neg (by omega)]
      simpa using h.2
    · rw [if_pos h.1]
      simpa using h.2
    · rw [if_neg (by omega), if_pos h.1]
      simp only [Bool.and_eq_true, decide_eq_true_eq, within_iff]
      exact h.2
theorem end_iff {k : Kern} (hp : k.pipes.length = 6) {e : End} : endB k e = true ↔ EndOk k.nodes e := by
  unfold endB
  rw [hp]
  constructor
  · intro h
    split at h
    · rename_i h1
      simp only [Bool.and_eq_true, within_iff] at h
      exact ⟨.inr (.inl ⟨h1, h.1.1, h.1.2, h.2.1, h.2.2.1, by have := h.2.2.2; omega⟩)⟩
    · split at h
      · rename_i h2
        simp only [Bool.and_eq_true, within_iff, decide_eq_true_eq] at h
        exact ⟨.inr (.inr ⟨h2, h.1.1, by have := h.1.2; omega, h.2⟩)⟩
      · simp only [decide_eq_true_eq] at h
        exact ⟨.inl h⟩
  · rintro ⟨h | h | h⟩
    · subst h
      rfl
    · rw [if_pos h.1]
      simp only [Bool.and_eq_true, within_iff]
      exact ⟨⟨h.2.1, h.2.2.1⟩, h.2.2.2.1, h.2.2.2.2.1, by have := h.2.2.2.2.2; omega⟩
    · rw [if_neg (by omega), if_pos h.1]
      simp only [Bool.and_eq_true, within_iff, decide_eq_true_eq]
      exact ⟨⟨h.2.1, by have := h.2.2.1; omega⟩, h.2.2.2⟩
theorem named_iff {s : List UInt8} {n : Node} : namedB s n = true ↔ n.name = s ∧ s ≠ [] := by simp [namedB]
/-- Found by its name. -/
theorem idx_named {k : Kern} (hu : ∀ (i j : Nat) (a b : Node), k.nodes[i]? = some a → k.nodes[j]? = some b → a.name = b.name → a.name ≠ [] → i = j) {i : Nat} {n : Node} (hi : k.nodes[i]? = some n) (hn : n.name ≠ []) : idxT (namedB n.name) k.nodes = i := by
  refine idx_at hi (named_iff.2 ⟨rfl, hn⟩) ?_
  rw [List.any_eq_false]
  intro b hb hnb
  obtain ⟨j, hj, hjb⟩ := List.mem_take_iff_getElem.1 hb
  have := hu i j n b hi (by rw [List.getElem?_eq_some_iff]; exact ⟨by omega, hjb⟩) (named_iff.1 hnb).1.symm hn
  omega
theorem range_iff {f : Nat → Bool} {n : Nat} : (List.range n).all f = true ↔ ∀ j, j < n → f j = true := by
  rw [List.all_eq_true]
  exact ⟨fun h j hj => h j (List.mem_range.2 hj), fun h j hj => h j (List.mem_range.1 hj)⟩
theorem modsE_mod {l : List Mod} (h : modsE l = 0) : ∀ m ∈ l, modT m = 0 := by
  intro m hm
  obtain ⟨i, hi⟩ := List.getElem?_of_mem hm
  have := first_zero h i (List.getElem?_eq_some_iff.1 hi).1
  unfold modE at this
  rw [hi] at this
  simp only at this
  split at this
  · assumption
  · exact this
theorem good_iff {k : Kern} : kernT k = 0 ↔ Good k := by
  constructor
  · intro h
    unfold kernT at h
    split at h
    · rename_i hs
      split at h
      · rename_i hm
        split at h
        · rename_i hw
          split at h
          · rename_i hb
            simp only [sizedB, Bool.and_eq_true, decide_eq_true_eq] at hs
            simp only [Bool.and_eq_true] at hb
            obtain ⟨hf, hp, hq⟩ := hb
            have hfile : ∀ (i : Nat) (n : Node), k.nodes[i]? = some n → contentB k.mods.length n = true ∧ (emptyB n || nameOk k n.name i) = true := by
              intro i n hi
              have := range_iff.1 hf i (List.getElem?_eq_some_iff.1 hi).1
              unfold fileB at this
              rw [hi] at this
              simpa only [Bool.and_eq_true] using this
            have hno : ∀ (i : Nat) (n : Node), k.nodes[i]? = some n → n.name ≠ [] → nameB n.name = true ∧ idxT (namedB n.name) k.nodes = i := by
              intro i n hi hne
              obtain ⟨h1, h2⟩ := hfile i n hi
              simp only [Bool.or_eq_true, emptyB, decide_eq_true_eq] at h2
              rcases h2 with h2 | h2
              · rcases (content_iff.1 h1).kinds with h3 | h3 | h3
                · exact absurd (by rw [h3.2]; rfl) hne
                · omega
                · omega
              · unfold nameOk at h2
                rw [if_neg hne] at h2
                simpa only [Bool.and_eq_true, decide_eq_true_eq] using h2
            have hproc : ∀ p ∈ k.procs, p.ends.length = 6 ∧ ∀ e ∈ p.ends, endB k e = true ∧ (p.live = true ∨ e.kind = 0) := by
              intro p hpm
              have := List.all_eq_true.1 hp p hpm
              simp only [procB, Bool.and_eq_true, decide_eq_true_eq, List.all_eq_true, Bool.or_eq_true, freeB] at this
              exact this
            have hpipe : ∀ (i : Nat) (s : List UInt8), k.pipes[i]? = some s → s.length ≤ 20 ∧ (s = [] ∨ hasB k.procs 2 i = true) := by
              intro i s hi
              have := range_iff.1 hq i (List.getElem?_eq_some_iff.1 hi).1
              unfold pipeB at this
              rw [hi] at this
              simpa only [Bool.and_eq_true, decide_eq_true_eq, Bool.or_eq_true] using this
            refine { modsL := hs.1, mod := modsE_mod hm, modU := hm, memL := hs.2.1, memW := fun v hv => word_iff.1 (List.all_eq_true.1 hw v hv), nodesL := hs.2.2.1, node := ?_, name := ?_, uniq := ?_, pipesL := hs.2.2.2.1, pipe := ?_, procsL := hs.2.2.2.2, ends := fun p hpm => (hproc p hpm).1, ende := fun p hpm e he => (end_iff hs.2.2.2.1).1 ((hproc p hpm).2 e he).1, dead := ?_, open_ := ?_, reader := ?_ }
            · intro n hn
              obtain ⟨i, hi⟩ := List.getElem?_of_mem hn
              exact content_iff.1 (hfile i n hi).1
            · intro n hn hne
              obtain ⟨i, hi⟩ := List.getElem?_of_mem hn
              exact (hno i n hi hne).1
            · intro i j a b ha hb hab hne
              have h1 := (hno i a ha hne).2
              have h2 := (hno j b hb (hab ▸ hne)).2
              rw [← hab, h1] at h2
              omega
            · intro s hs'
              obtain ⟨i, hi⟩ := List.getElem?_of_mem hs'
              exact (hpipe i s hi).1
            · intro p hpm hl e he
              have := (hproc p hpm).2 e he
              rw [hl] at this
              rcases this.2 with h | h
              · cases h
              · rcases ((end_iff hs.2.2.2.1).1 this.1).kinds with h' | h' | h'
                · exact h'
                · omega
                · omega
            · intro i n hi hk hn
              obtain ⟨h1, h2⟩ := hfile i n hi
              simp only [Bool.or_eq_true, emptyB, decide_eq_true_eq] at h2
              rcases h2 with h2 | h2
              · exact absurd h2 hk
              · unfold nameOk at h2
                rwa [if_pos hn] at h2
            · intro i s hi hne
              rcases (hpipe i s hi).2 with h | h
              · exact absurd h hne
              · exact h
          · cases h
        · cases h
      · rename_i hm
        exact absurd h hm
    · cases h
  · intro h
    have h1 : sizedB k = true := by
      simp only [sizedB, Bool.and_eq_true, decide_eq_true_eq]
      exact ⟨h.modsL, h.memL, h.nodesL, h.pipesL, h.procsL⟩
    have h3 : k.mem.all wordB = true := List.all_eq_true.2 fun v hv => word_iff.2 (h.memW v hv)
    have h4 : filesB k = true := by
      unfold filesB
      rw [range_iff]
      intro i hi
      obtain ⟨n, hn⟩ : ∃ n, k.nodes[i]? = some n := ⟨_, List.getElem?_eq_getElem hi⟩
      unfold fileB
      rw [hn]
      simp only [Bool.and_eq_true, Bool.or_eq_true]
      refine ⟨content_iff.2 (h.node n (List.mem_of_getElem? hn)), ?_⟩
      by_cases hk : n.kind = 0
      · exact .inl (by simp [emptyB, hk])
      · refine .inr ?_
        unfold nameOk
        by_cases hm : n.name = []
        · rw [if_pos hm]
          exact h.open_ i n hn hk hm
        · rw [if_neg hm, h.name n (List.mem_of_getElem? hn) hm, idx_named h.uniq hn hm]
          simp
    have h5 : procsB k = true := by
      unfold procsB
      rw [List.all_eq_true]
      intro p hp
      simp only [procB, Bool.and_eq_true, decide_eq_true_eq, List.all_eq_true, Bool.or_eq_true, freeB]
      refine ⟨h.ends p hp, fun e he => ⟨(end_iff h.pipesL).2 (h.ende p hp e he), ?_⟩⟩
      cases hl : p.live
      · exact .inr (by rw [h.dead p hp hl e he]; rfl)
      · exact .inl rfl
    have h6 : pipesB k = true := by
      unfold pipesB
      rw [range_iff]
      intro i hi
      obtain ⟨s, hs⟩ : ∃ s, k.pipes[i]? = some s := ⟨_, List.getElem?_eq_getElem hi⟩
      unfold pipeB
      rw [hs]
      simp only [Bool.and_eq_true, decide_eq_true_eq, Bool.or_eq_true]
      refine ⟨h.pipe s (List.mem_of_getElem? hs), ?_⟩
      by_cases hm : s = []
      · exact .inl hm
      · exact .inr (h.reader i s hs hm)
    unfold kernT
    rw [if_pos h1, if_pos h.modU, if_pos h3, if_pos]
    rw [h4, h5, h6]
    rfl
end Go.Proofs.YtnnhhbjbdmgpiaaDoor.Cf
