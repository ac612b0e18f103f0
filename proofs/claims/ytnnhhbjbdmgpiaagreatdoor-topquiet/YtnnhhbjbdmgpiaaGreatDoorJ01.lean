/- Texts of the proofs: KernG, KernH, CpuL, MadeP. -/
import Derived.Test.YtnnhhbjbdmgpiaaGreatDoorJ00
set_option linter.unusedSimpArgs false
set_option linter.unusedVariables false
/- Plain mathematics of chapter 5: what is valid remains valid. No Go in it. -/
namespace Go.Proofs.YtnnhhbjbdmgpiaaGreatDoor.Cf
set_option maxRecDepth 100000
structure NodeOk (mods : Nat) (n : Node) : Prop where
 kinds : n.kind = 0 ∧ n = noNode ∨ n.kind = 1 ∧ n.unit = 0 ∧ n.data.length ≤ 100 ∨ n.kind = 2 ∧ n.data = [] ∧ 0 ≤ n.unit ∧ n.unit < mods
structure EndOk (ns : List Node) (e : End) : Prop where
 kinds : e = noEnd ∨ (e.kind = 1 ∧ 0 ≤ e.node ∧ e.node < ns.length ∧ fullAt ns e.node = true ∧ 0 ≤ e.pos ∧ e.pos ≤ 100) ∨ ((e.kind = 2 ∨ e.kind = 3) ∧ 0 ≤ e.node ∧ e.node < 6 ∧ e.pos = 0)
structure Pre (k : Kern) : Prop where
 modsL : k.mods.length ≤ 8
 mod : ∀ m ∈ k.mods, modT m = 0
 modU : modsE k.mods = 0
 memL : k.mem.length = 1024
 memW : ∀ v ∈ k.mem, 0 ≤ v ∧ v ≤ 65535
 nodesL : k.nodes.length = 8
 node : ∀ n ∈ k.nodes, NodeOk k.mods.length n
 name : ∀ n ∈ k.nodes, n.name ≠ [] → nameB n.name = true
 uniq : ∀ (i j : Nat) (a b : Node), k.nodes[i]? = some a → k.nodes[j]? = some b → a.name = b.name → a.name ≠ [] → i = j
 pipesL : k.pipes.length = 6
 pipe : ∀ s ∈ k.pipes, s.length ≤ 20
 procsL : k.procs.length = 4
 ends : ∀ p ∈ k.procs, p.ends.length = 6
 ende : ∀ p ∈ k.procs, ∀ e ∈ p.ends, EndOk k.nodes e
 dead : ∀ p ∈ k.procs, p.live = false → ∀ e ∈ p.ends, e = noEnd
structure Good (k : Kern) : Prop extends Pre k where
 open_ : ∀ (i : Nat) (n : Node), k.nodes[i]? = some n → n.kind ≠ 0 → n.name = [] → hasB k.procs 1 i = true
 reader : ∀ (i : Nat) (s : List UInt8), k.pipes[i]? = some s → s ≠ [] → hasB k.procs 2 i = true
theorem within_iff {v : Int} {n : Nat} : withinB v n = true ↔ 0 ≤ v ∧ v < n := by simp [withinB]
theorem word_iff {v : Int} : wordB v = true ↔ 0 ≤ v ∧ v ≤ 65535 := by simp [wordB, inB]
theorem content_iff {m : Nat} {n : Node} : contentB m n = true ↔ NodeOk m n := by
 unfold contentB
 constructor
 ·intro h
  split at h
  ·rename_i h1
   simp only [Bool.and_eq_true, decide_eq_true_eq] at h
   exact ⟨.inr (.inl ⟨h1, h.1, h.2⟩)⟩
  ·split at h
   ·rename_i h2
    simp only [Bool.and_eq_true, decide_eq_true_eq, within_iff] at h
    exact ⟨.inr (.inr ⟨h2, h.1, h.2⟩)⟩
   ·simp only [decide_eq_true_eq] at h
    exact ⟨.inl ⟨by rw [h]; rfl, h⟩⟩
 ·rintro ⟨h | h | h⟩
  ·rw [if_neg (by omega), if_neg (by omega)]
   simpa using h.2
  ·rw [if_pos h.1]
   simpa using h.2
  ·rw [if_neg (by omega), if_pos h.1]
   simp only [Bool.and_eq_true, decide_eq_true_eq, within_iff]
   exact h.2
theorem end_iff {k : Kern} (hp : k.pipes.length = 6) {e : End} : endB k e = true ↔ EndOk k.nodes e := by
 unfold endB
 rw [hp]
 constructor
 ·intro h
  split at h
  ·rename_i h1
   simp only [Bool.and_eq_true, within_iff] at h
   exact ⟨.inr (.inl ⟨h1, h.1.1, h.1.2, h.2.1, h.2.2.1, by have := h.2.2.2; omega⟩)⟩
  ·split at h
   ·rename_i h2
    simp only [Bool.and_eq_true, within_iff, decide_eq_true_eq] at h
    exact ⟨.inr (.inr ⟨h2, h.1.1, by have := h.1.2; omega, h.2⟩)⟩
   ·simp only [decide_eq_true_eq] at h
    exact ⟨.inl h⟩
 ·rintro ⟨h | h | h⟩
  ·subst h
   rfl
  ·rw [if_pos h.1]
   simp only [Bool.and_eq_true, within_iff]
   exact ⟨⟨h.2.1, h.2.2.1⟩, h.2.2.2.1, h.2.2.2.2.1, by have := h.2.2.2.2.2; omega⟩
  ·rw [if_neg (by omega), if_pos h.1]
   simp only [Bool.and_eq_true, within_iff, decide_eq_true_eq]
   exact ⟨⟨h.2.1, by have := h.2.2.1; omega⟩, h.2.2.2⟩
theorem named_iff {s : List UInt8} {n : Node} : namedB s n = true ↔ n.name = s ∧ s ≠ [] := by simp [namedB]
theorem idx_named {k : Kern} (hu : ∀ (i j : Nat) (a b : Node), k.nodes[i]? = some a → k.nodes[j]? = some b → a.name = b.name → a.name ≠ [] → i = j) {i : Nat} {n : Node} (hi : k.nodes[i]? = some n) (hn : n.name ≠ []) : idxT (namedB n.name) k.nodes = i := by
 refine idx_at hi (named_iff.2 ⟨rfl, hn⟩) ?_
 rw [List.any_eq_false]
 intro b hb hnb
 obtain ⟨j, hj, hjb⟩ := List.mem_take_iff_getElem.1 hb
 have := hu i j n b hi (by rw [List.getElem?_eq_some_iff]; exact ⟨by omega, hjb⟩) (named_iff.1 hnb).1.symm hn
 omega
theorem range_iff {f : Nat → Bool} {n : Nat} : (List.range n).all f = true ↔ ∀ j, j < n → f j = true := by
 rw [List.all_eq_true]
 exact ⟨fun h j hj => h j (List.mem_range.2 hj), fun h j hj => h j (List.mem_range.1 hj)⟩
theorem modsE_mod {l : List Mod} (h : modsE l = 0) : ∀ m ∈ l, modT m = 0 := by
 intro m hm
 obtain ⟨i, hi⟩ := List.getElem?_of_mem hm
 have := first_zero h i (List.getElem?_eq_some_iff.1 hi).1
 unfold modE at this
 rw [hi] at this
 simp only at this
 split at this
 ·assumption
 ·exact this
theorem good_iff {k : Kern} : kernT k = 0 ↔ Good k := by
 constructor
 ·intro h
  unfold kernT at h
  split at h
  ·rename_i hs
   split at h
   ·rename_i hm
    split at h
    ·rename_i hw
     split at h
     ·rename_i hb
      simp only [sizedB, Bool.and_eq_true, decide_eq_true_eq] at hs
      simp only [Bool.and_eq_true] at hb
      obtain ⟨hf, hp, hq⟩ := hb
      have hfile : ∀ (i : Nat) (n : Node), k.nodes[i]? = some n → contentB k.mods.length n = true ∧ (emptyB n || nameOk k n.name i) = true := by
       intro i n hi
       have := range_iff.1 hf i (List.getElem?_eq_some_iff.1 hi).1
       unfold fileB at this
       rw [hi] at this
       simpa only [Bool.and_eq_true] using this
      have hno : ∀ (i : Nat) (n : Node), k.nodes[i]? = some n → n.name ≠ [] → nameB n.name = true ∧ idxT (namedB n.name) k.nodes = i := by
       intro i n hi hne
       obtain ⟨h1, h2⟩ := hfile i n hi
       simp only [Bool.or_eq_true, emptyB, decide_eq_true_eq] at h2
       rcases h2 with h2 | h2
       ·rcases (content_iff.1 h1).kinds with h3 | h3 | h3
        ·exact absurd (by rw [h3.2]; rfl) hne
        ·omega
        ·omega
       ·unfold nameOk at h2
        rw [if_neg hne] at h2
        simpa only [Bool.and_eq_true, decide_eq_true_eq] using h2
      have hproc : ∀ p ∈ k.procs, p.ends.length = 6 ∧ ∀ e ∈ p.ends, endB k e = true ∧ (p.live = true ∨ e.kind = 0) := by
       intro p hpm
       have := List.all_eq_true.1 hp p hpm
       simp only [procB, Bool.and_eq_true, decide_eq_true_eq, List.all_eq_true, Bool.or_eq_true, freeB] at this
       exact this
      have hpipe : ∀ (i : Nat) (s : List UInt8), k.pipes[i]? = some s → s.length ≤ 20 ∧ (s = [] ∨ hasB k.procs 2 i = true) := by
       intro i s hi
       have := range_iff.1 hq i (List.getElem?_eq_some_iff.1 hi).1
       unfold pipeB at this
       rw [hi] at this
       simpa only [Bool.and_eq_true, decide_eq_true_eq, Bool.or_eq_true] using this
      refine { modsL := hs.1, mod := modsE_mod hm, modU := hm, memL := hs.2.1, memW := fun v hv => word_iff.1 (List.all_eq_true.1 hw v hv), nodesL := hs.2.2.1, node := ?_, name := ?_, uniq := ?_, pipesL := hs.2.2.2.1, pipe := ?_, procsL := hs.2.2.2.2, ends := fun p hpm => (hproc p hpm).1, ende := fun p hpm e he => (end_iff hs.2.2.2.1).1 ((hproc p hpm).2 e he).1, dead := ?_, open_ := ?_, reader := ?_ }
      ·intro n hn
       obtain ⟨i, hi⟩ := List.getElem?_of_mem hn
       exact content_iff.1 (hfile i n hi).1
      ·intro n hn hne
       obtain ⟨i, hi⟩ := List.getElem?_of_mem hn
       exact (hno i n hi hne).1
      ·intro i j a b ha hb hab hne
       have h1 := (hno i a ha hne).2
       have h2 := (hno j b hb (hab ▸ hne)).2
       rw [← hab, h1] at h2
       omega
      ·intro s hs'
       obtain ⟨i, hi⟩ := List.getElem?_of_mem hs'
       exact (hpipe i s hi).1
      ·intro p hpm hl e he
       have := (hproc p hpm).2 e he
       rw [hl] at this
       rcases this.2 with h | h
       ·cases h
       ·rcases ((end_iff hs.2.2.2.1).1 this.1).kinds with h' | h' | h'
        ·exact h'
        ·omega
        ·omega
      ·intro i n hi hk hn
       obtain ⟨h1, h2⟩ := hfile i n hi
       simp only [Bool.or_eq_true, emptyB, decide_eq_true_eq] at h2
       rcases h2 with h2 | h2
       ·exact absurd h2 hk
       ·unfold nameOk at h2
        rwa [if_pos hn] at h2
      ·intro i s hi hne
       rcases (hpipe i s hi).2 with h | h
       ·exact absurd h hne
       ·exact h
     ·cases h
    ·cases h
   ·rename_i hm
    exact absurd h hm
  ·cases h
 ·intro h
  have h1 : sizedB k = true := by
   simp only [sizedB, Bool.and_eq_true, decide_eq_true_eq]
   exact ⟨h.modsL, h.memL, h.nodesL, h.pipesL, h.procsL⟩
  have h3 : k.mem.all wordB = true := List.all_eq_true.2 fun v hv => word_iff.2 (h.memW v hv)
  have h4 : filesB k = true := by
   unfold filesB
   rw [range_iff]
   intro i hi
   obtain ⟨n, hn⟩ : ∃ n, k.nodes[i]? = some n := ⟨_, List.getElem?_eq_getElem hi⟩
   unfold fileB
   rw [hn]
   simp only [Bool.and_eq_true, Bool.or_eq_true]
   refine ⟨content_iff.2 (h.node n (List.mem_of_getElem? hn)), ?_⟩
   by_cases hk : n.kind = 0
   ·exact .inl (by simp [emptyB, hk])
   ·refine .inr ?_
    unfold nameOk
    by_cases hm : n.name = []
    ·rw [if_pos hm]
     exact h.open_ i n hn hk hm
    ·rw [if_neg hm, h.name n (List.mem_of_getElem? hn) hm, idx_named h.uniq hn hm]
     simp
  have h5 : procsB k = true := by
   unfold procsB
   rw [List.all_eq_true]
   intro p hp
   simp only [procB, Bool.and_eq_true, decide_eq_true_eq, List.all_eq_true, Bool.or_eq_true, freeB]
   refine ⟨h.ends p hp, fun e he => ⟨(end_iff h.pipesL).2 (h.ende p hp e he), ?_⟩⟩
   cases hl : p.live
   ·exact .inr (by rw [h.dead p hp hl e he]; rfl)
   ·exact .inl rfl
  have h6 : pipesB k = true := by
   unfold pipesB
   rw [range_iff]
   intro i hi
   obtain ⟨s, hs⟩ : ∃ s, k.pipes[i]? = some s := ⟨_, List.getElem?_eq_getElem hi⟩
   unfold pipeB
   rw [hs]
   simp only [Bool.and_eq_true, decide_eq_true_eq, Bool.or_eq_true]
   refine ⟨h.pipe s (List.mem_of_getElem? hs), ?_⟩
   by_cases hm : s = []
   ·exact .inl hm
   ·exact .inr (h.reader i s hs hm)
  unfold kernT
  rw [if_pos h1, if_pos h.modU, if_pos h3, if_pos]
  rw [h4, h5, h6]
  rfl
end Go.Proofs.YtnnhhbjbdmgpiaaGreatDoor.Cf
/- Plain mathematics of chapter 5: what is valid remains valid after every action. No Go in it. -/
namespace Go.Proofs.YtnnhhbjbdmgpiaaGreatDoor.Cf
set_option maxRecDepth 100000
theorem has_iff {ps : List Proc} {kind node : Int} : hasB ps kind node = true ↔ ∃ p ∈ ps, ∃ e ∈ p.ends, e.kind = kind ∧ e.node = node := by
 simp [hasB, holdsB, endOf, List.any_eq_true]
theorem mapIdx_at {α β : Type} (f : Nat → α → β) (l : List α) (i : Nat) : (l.mapIdx f)[i]? = (l[i]?).map (f i) := List.getElem?_mapIdx
theorem tidyN_or (ps : List Proc) (i : Nat) (n : Node) : tidyN ps i n = n ∧ (n.name ≠ [] ∨ hasB ps 1 i = true) ∨ tidyN ps i n = noNode ∧ n.name = [] ∧ hasB ps 1 i = false := by
 unfold tidyN
 split
 ·rename_i h
  exact .inr ⟨rfl, h⟩
 ·rename_i h
  refine .inl ⟨rfl, ?_⟩
  cases hh : hasB ps 1 i
  ·exact .inl fun h0 => h ⟨h0, hh⟩
  ·exact .inr rfl
theorem noNode_ok (m : Nat) : NodeOk m noNode := ⟨.inl ⟨rfl, rfl⟩⟩
theorem full_tidy {ps : List Proc} {ns : List Node} {p : Proc} (hp : p ∈ ps) {e : End} (he : e ∈ p.ends) (hk : e.kind = 1) (h0 : 0 ≤ e.node) (hf : fullAt ns e.node = true) : fullAt (ns.mapIdx (tidyN ps)) e.node = true := by
 unfold fullAt at hf ⊢
 rw [mapIdx_at]
 cases hn : ns[e.node.toNat]? with
 | none => rw [hn] at hf; exact hf
 | some n =>
   rw [hn] at hf
   have hh : hasB ps 1 (e.node.toNat : Int) = true := has_iff.2 ⟨p, hp, e, he, hk, by omega⟩
   rcases tidyN_or ps e.node.toNat n with ⟨h1, _⟩ | ⟨_, _, h2⟩
   ·simp only [Option.map_some, h1]
    exact hf
   ·rw [hh] at h2
    cases h2
theorem Pre.tidy {k : Kern} (h : Pre k) : Good (tidyT k) := by
 have hnode : ∀ (i : Nat) (n' : Node), (k.nodes.mapIdx (tidyN k.procs))[i]? = some n' → ∃ n, k.nodes[i]? = some n ∧ n' = tidyN k.procs i n := by
  intro i n' hi
  rw [mapIdx_at] at hi
  cases hn : k.nodes[i]? with
  | none => rw [hn] at hi; cases hi
  | some n =>
    rw [hn] at hi
    simp at hi
    exact ⟨n, rfl, hi.symm⟩
 have hpipe : ∀ (i : Nat) (s' : List UInt8), (k.pipes.mapIdx (tidyP k.procs))[i]? = some s' → ∃ s, k.pipes[i]? = some s ∧ s' = tidyP k.procs i s := by
  intro i n' hi
  rw [mapIdx_at] at hi
  cases hn : k.pipes[i]? with
  | none => rw [hn] at hi; cases hi
  | some n =>
    rw [hn] at hi
    simp at hi
    exact ⟨n, rfl, hi.symm⟩
 have hor : ∀ (i : Nat) (n' : Node), (k.nodes.mapIdx (tidyN k.procs))[i]? = some n' → n' = noNode ∨ (k.nodes[i]? = some n' ∧ (n'.name ≠ [] ∨ hasB k.procs 1 i = true)) := by
  intro i n' hi
  obtain ⟨n, hn, rfl⟩ := hnode i n' hi
  rcases tidyN_or k.procs i n with ⟨h1, h2⟩ | ⟨h1, _⟩
  ·rw [h1]
   exact .inr ⟨hn, h2⟩
  ·exact .inl h1
 refine ⟨⟨h.modsL, h.mod, h.modU, h.memL, h.memW, ?_, ?_, ?_, ?_, ?_, ?_, h.procsL, h.ends, ?_, h.dead⟩, ?_, ?_⟩
 ·show (k.nodes.mapIdx (tidyN k.procs)).length = 8
  rw [List.length_mapIdx]
  exact h.nodesL
 ·intro n' hn'
  obtain ⟨i, hi⟩ := List.mem_iff_getElem?.1 hn'
  rcases hor i n' hi with rfl | ⟨hn, _⟩
  ·exact noNode_ok _
  ·exact h.node n' (List.mem_of_getElem? hn)
 ·intro n' hn' hne
  obtain ⟨i, hi⟩ := List.mem_iff_getElem?.1 hn'
  rcases hor i n' hi with rfl | ⟨hn, _⟩
  ·exact absurd rfl hne
  ·exact h.name n' (List.mem_of_getElem? hn) hne
 ·intro i j a b ha hb hab hne
  rcases hor i a ha with rfl | ⟨hn, _⟩
  ·exact absurd rfl hne
  ·rcases hor j b hb with rfl | ⟨hm, _⟩
   ·exact absurd hab hne
   ·exact h.uniq i j a b hn hm hab hne
 ·show (k.pipes.mapIdx (tidyP k.procs)).length = 6
  rw [List.length_mapIdx]
  exact h.pipesL
 ·intro s' hs'
  obtain ⟨i, hi⟩ := List.mem_iff_getElem?.1 hs'
  obtain ⟨s, hs, rfl⟩ := hpipe i s' hi
  unfold tidyP
  split
  ·simp
  ·exact h.pipe s (List.mem_of_getElem? hs)
 ·intro p hp e he
  rcases (h.ende p hp e he).kinds with h1 | ⟨h1, h2, h3, h4, h5⟩ | h1
  ·exact ⟨.inl h1⟩
  ·refine ⟨.inr (.inl ⟨h1, h2, ?_, full_tidy hp he h1 h2 h4, h5⟩)⟩
   show e.node < ((k.nodes.mapIdx (tidyN k.procs)).length : Nat)
   rw [List.length_mapIdx]
   exact h3
  ·exact ⟨.inr (.inr h1)⟩
 ·intro i n' hi hk hne
  rcases hor i n' hi with rfl | ⟨_, h2⟩
  ·exact absurd rfl hk
  ·rcases h2 with h2 | h2
   ·exact absurd hne h2
   ·exact h2
 ·intro i s' hi hne
  obtain ⟨s, hs, rfl⟩ := hpipe i s' hi
  unfold tidyP at hne
  split at hne
  ·exact absurd rfl hne
  ·rename_i hh
   show hasB k.procs 2 i = true
   simpa using hh
theorem set_mem {α : Type} {l : List α} {i : Nat} {x y : α} (h : y ∈ l.set i x) : y ∈ l ∨ y = x := List.mem_or_eq_of_mem_set h
theorem set_at {α : Type} {l : List α} {i j : Nat} {x y : α} (h : (l.set i x)[j]? = some y) : (i ≠ j ∧ l[j]? = some y) ∨ (i = j ∧ i < l.length ∧ y = x) := by
 rw [List.getElem?_set] at h
 split at h
 ·rename_i hij
  split at h
  ·rename_i hl
   exact .inr ⟨hij, hl, (Option.some.inj h).symm⟩
  ·cases h
 ·rename_i hij
  exact .inl ⟨hij, h⟩
theorem full_set {ns : List Node} {i : Nat} {n : Node} (hn : n.kind ≠ 0) {x : Int} (h : fullAt ns x = true) : fullAt (ns.set i n) x = true := by
 unfold fullAt at h ⊢
 rw [List.getElem?_set]
 by_cases hij : i = x.toNat
 ·rw [if_pos hij]
  by_cases hl : i < ns.length
  ·rw [if_pos hl]
   simp [emptyB, hn]
  ·rw [List.getElem?_eq_none (by omega)] at h
   cases h
 ·rw [if_neg hij]
  exact h
theorem Pre.setNode {k : Kern} (h : Pre k) {i : Nat} {n : Node} (hk : n.kind ≠ 0) (hok : NodeOk k.mods.length n) (hname : n.name ≠ [] → nameB n.name = true) (hu : n.name ≠ [] → ∀ (j : Nat) (b : Node), k.nodes[j]? = some b → b.name = n.name → j = i) : Pre (setNode k i n) := by
 refine ⟨h.modsL, h.mod, h.modU, h.memL, h.memW, ?_, ?_, ?_, ?_, h.pipesL, h.pipe, h.procsL, h.ends, ?_, h.dead⟩
 ·show (k.nodes.set i n).length = 8
  rw [List.length_set]
  exact h.nodesL
 ·intro m hm
  rcases set_mem hm with hm | rfl
  ·exact h.node m hm
  ·exact hok
 ·intro m hm hne
  rcases set_mem hm with hm | rfl
  ·exact h.name m hm hne
  ·exact hname hne
 ·intro x y a b ha hb hab hne
  rcases set_at ha with ⟨h1, ha⟩ | ⟨h1, h2, rfl⟩
  ·rcases set_at hb with ⟨h3, hb⟩ | ⟨h3, _, rfl⟩
   ·exact h.uniq x y a b ha hb hab hne
   ·exact absurd (hu (fun h0 => hne (hab.trans h0)) x a (by assumption) hab).symm h1
  ·rcases set_at hb with ⟨h3, hb⟩ | ⟨h3, _, rfl⟩
   ·exact absurd (hu hne y b hb hab.symm).symm h3
   ·exact h1.symm.trans h3
 ·intro p hp e he
  rcases (h.ende p hp e he).kinds with h1 | ⟨h1, h2, h3, h4, h5⟩ | h1
  ·exact ⟨.inl h1⟩
  ·refine ⟨.inr (.inl ⟨h1, h2, ?_, full_set hk h4, h5⟩)⟩
   show e.node < ((k.nodes.set i n).length : Nat)
   rw [List.length_set]
   exact h3
  ·exact ⟨.inr (.inr h1)⟩
theorem Pre.setProc {k : Kern} (h : Pre k) {i : Nat} {p : Proc} (hl : p.ends.length = 6) (he : ∀ e ∈ p.ends, EndOk k.nodes e) (hd : p.live = false → ∀ e ∈ p.ends, e = noEnd) : Pre (setProc k i p) := by
 refine ⟨h.modsL, h.mod, h.modU, h.memL, h.memW, h.nodesL, h.node, h.name, h.uniq, h.pipesL, h.pipe, ?_, ?_, ?_, ?_⟩
 ·show (k.procs.set i p).length = 4
  rw [List.length_set]
  exact h.procsL
 ·intro q hq
  rcases set_mem hq with hq | rfl
  ·exact h.ends q hq
  ·exact hl
 ·intro q hq
  rcases set_mem hq with hq | rfl
  ·exact h.ende q hq
  ·exact he
 ·intro q hq
  rcases set_mem hq with hq | rfl
  ·exact h.dead q hq
  ·exact hd
theorem Pre.at_ {k : Kern} (h : Pre k) {i : Nat} (hi : i < 4) : k.procs[i]? = some (procAt k i) := by
 have hl : i < k.procs.length := by rw [h.procsL]; exact hi
 rw [procAt, List.getD_eq_getElem?_getD, List.getElem?_eq_getElem hl]
 rfl
theorem Pre.mem_ {k : Kern} (h : Pre k) {i : Nat} (hi : i < 4) : procAt k i ∈ k.procs := List.mem_of_getElem? (h.at_ hi)
theorem Pre.end_ {k : Kern} (h : Pre k) {i j : Nat} (hi : i < 4) (hj : j < 6) : (procAt k i).ends[j]? = some (endAt k i j) := by
 have hl : j < (procAt k i).ends.length := by rw [h.ends _ (h.mem_ hi)]; exact hj
 rw [endAt, List.getD_eq_getElem?_getD, List.getElem?_eq_getElem hl]
 rfl
theorem Pre.endM {k : Kern} (h : Pre k) {i j : Nat} (hi : i < 4) (hj : j < 6) : endAt k i j ∈ (procAt k i).ends := List.mem_of_getElem? (h.end_ hi hj)
theorem Pre.setEnd {k : Kern} (h : Pre k) {i j : Nat} {e : End} (hi : i < 4) (he : EndOk k.nodes e) (hd : (procAt k i).live = false → e = noEnd) : Pre (setEnd k i j e) := by
 refine Pre.setProc h ?_ ?_ ?_
 ·show ((procAt k i).ends.set j e).length = 6
  rw [List.length_set]
  exact h.ends _ (h.mem_ hi)
 ·intro x hx
  rcases set_mem hx with hx | rfl
  ·exact h.ende _ (h.mem_ hi) x hx
  ·exact he
 ·intro hl x hx
  rcases set_mem hx with hx | rfl
  ·exact h.dead _ (h.mem_ hi) hl x hx
  ·exact hd hl
theorem has_set {ps : List Proc} {i : Nat} {p q : Proc} (hp : ps[i]? = some p) {kind node : Int} (h : holdsB kind node p = true → holdsB kind node q = true) (hh : hasB ps kind node = true) : hasB (ps.set i q) kind node = true := by
 unfold hasB at hh ⊢
 rw [List.any_eq_true] at hh ⊢
 obtain ⟨x, hx, hb⟩ := hh
 obtain ⟨j, hj⟩ := List.mem_iff_getElem?.1 hx
 by_cases hij : i = j
 ·subst hij
  obtain rfl := Option.some.inj (hp.symm.trans hj)
  exact ⟨q, List.mem_of_getElem? (i := i) (by rw [List.getElem?_set, if_pos rfl, if_pos (List.getElem?_eq_some_iff.1 hp).1]), h hb⟩
 ·exact ⟨x, List.mem_of_getElem? (i := j) (by rw [List.getElem?_set, if_neg hij]; exact hj), hb⟩
theorem holds_set {p : Proc} {j : Nat} {e0 e : End} (h0 : p.ends[j]? = some e0) {kind node : Int} (he : e0.kind = kind → e0.node = node → e.kind = kind ∧ e.node = node) (hh : holdsB kind node p = true) : holdsB kind node ⟨p.live, p.ends.set j e⟩ = true := by
 unfold holdsB at hh ⊢
 rw [List.any_eq_true] at hh ⊢
 obtain ⟨x, hx, hb⟩ := hh
 simp only [endOf, Bool.and_eq_true, decide_eq_true_eq] at hb
 obtain ⟨i, hi⟩ := List.mem_iff_getElem?.1 hx
 by_cases hij : j = i
 ·subst hij
  obtain rfl := Option.some.inj (h0.symm.trans hi)
  obtain ⟨h1, h2⟩ := he hb.1 hb.2
  exact ⟨e, List.mem_of_getElem? (i := j) (by rw [List.getElem?_set, if_pos rfl, if_pos (List.getElem?_eq_some_iff.1 h0).1]), by simp [endOf, h1, h2]⟩
 ·exact ⟨x, List.mem_of_getElem? (i := i) (by rw [List.getElem?_set, if_neg hij]; exact hi), by simp [endOf, hb]⟩
theorem Good.setEnd {k : Kern} (h : Good k) {i j : Nat} {e : End} (hi : i < 4) (hj : j < 6) (he : EndOk k.nodes e) (hd : (procAt k i).live = false → e = noEnd) (h0 : (endAt k i j).kind = 0 ∨ (endAt k i j).kind = e.kind ∧ (endAt k i j).node = e.node) : Good (setEnd k i j e) := by
 have key : ∀ kind node : Int, kind ≠ 0 → hasB k.procs kind node = true → hasB (Cf.setEnd k i j e).procs kind node = true := by
  intro kind node hk
  refine has_set (h.at_ hi) (holds_set (h.end_ hi hj) fun h1 h2 => ?_)
  rcases h0 with h0 | h0
  ·exact absurd (h1.symm.trans h0) hk
  ·exact ⟨h0.1 ▸ h1, h0.2 ▸ h2⟩
 exact ⟨h.toPre.setEnd hi he hd, fun a n hn hk he => key _ _ (by decide) (h.open_ a n hn hk he), fun a s hs hne => key _ _ (by decide) (h.reader a s hs hne)⟩
theorem full_some {ns : List Node} {i : Nat} {n : Node} (h : ns[i]? = some n) (hk : n.kind ≠ 0) : fullAt ns i = true := by
 unfold fullAt
 rw [Int.toNat_natCast, h]
 simp [emptyB, hk]
theorem Pre.named {k : Kern} (h : Pre k) {n : Node} (hn : n ∈ k.nodes) (hne : n.name ≠ []) : n.kind ≠ 0 := by
 intro h0
 rcases (h.node n hn).kinds with h1 | h1 | h1
 ·exact hne (by rw [h1.2]; rfl)
 ·omega
 ·omega
theorem dec_mod (s : List UInt8) (h : (decT s).err = 0) : modT (decT s).mod = 0 := by
 have h0 : ∀ d : GotM, d = decT s → d.err = 0 → modT d.mod = 0 := by
  intro d hd
  unfold decT at hd
  split at hd
  ·subst hd; intro h; simp at h
  ·split at hd
   ·subst hd; intro h; simp at h
   ·split at hd
    ·subst hd; intro h; simp at h
    ·split at hd
     ·subst hd; intro h; simp at h
     ·subst hd; intro h; simp at h
     ·split at hd
      ·rename_i hm
       subst hd
       intro _
       exact hm
      ·rename_i hm
       subst hd
       intro h
       exact absurd h hm
 exact h0 _ rfl h
theorem modE_app {l : List Mod} {m : Mod} {i : Nat} (h : i < l.length) : modE (l ++ [m]) i = modE l i := by
 unfold modE
 rw [List.getElem?_append_left h, List.take_append_of_le_length (by omega)]
theorem modsE_app {l : List Mod} {m : Mod} (h : modsE l = 0) (hm : modT m = 0) (hu : l.any (modIs m.name) = false) : modsE (l ++ [m]) = 0 := by
 unfold modsE at h ⊢
 refine first_all fun j hj => ?_
 rw [List.length_append] at hj
 simp at hj
 rcases Nat.lt_or_ge j l.length with h1 | h1
 ·rw [modE_app h1]
  exact first_zero h j h1
 ·obtain rfl : j = l.length := by omega
  unfold modE
  rw [List.getElem?_append_right (Nat.le_refl _), List.take_append_of_le_length (Nat.le_refl _), List.take_length]
  simp [hm, hu]
theorem lay_len {mem data : List Int} {n : Nat} (hm : n + 64 ≤ mem.length) (hd : data.length ≤ 64) : (layT mem data n).length = mem.length := by
 unfold layT
 simp
 omega
theorem lay_word {mem data : List Int} {n : Nat} (hm : ∀ v ∈ mem, 0 ≤ v ∧ v ≤ 65535) (hd : ∀ v ∈ data, 0 ≤ v ∧ v ≤ 65535) : ∀ v ∈ layT mem data n, 0 ≤ v ∧ v ≤ 65535 := by
 intro v hv
 unfold layT at hv
 simp only [List.mem_append] at hv
 rcases hv with (h | h | h) | h
 ·exact hm v (List.mem_of_mem_take h)
 ·exact hd v h
 ·rw [List.eq_of_mem_replicate h]; decide
 ·exact hm v (List.mem_of_mem_drop h)
theorem NodeOk.more {a b : Nat} {n : Node} (h : NodeOk a n) (hab : a ≤ b) : NodeOk b n := by
 rcases h.kinds with h | h | h
 ·exact ⟨.inl h⟩
 ·exact ⟨.inr (.inl h)⟩
 ·exact ⟨.inr (.inr ⟨h.1, h.2.1, h.2.2.1, by have := h.2.2.2; omega⟩)⟩
theorem Good.install {k : Kern} (h : Good k) (s : List UInt8) : Good (installT k s).kern := by
 unfold installT
 split
 ·exact h
 ·rename_i h0
  split
  ·exact h
  ·rename_i h1
   split
   ·exact h
   ·rename_i h2
    have hm := dec_mod s (by simpa using h0)
    obtain ⟨_, hd, hw, _⟩ := mod_parts hm
    have h8 := h.modsL
    have hL := h.memL
    refine ⟨⟨?_, ?_, modsE_app h.modU hm (by simpa using h1), ?_, lay_word h.memW hw, h.nodesL, fun n hn => (h.node n hn).more ?_, h.name, h.uniq, h.pipesL, h.pipe, h.procsL, h.ends, h.ende, h.dead⟩, h.open_, h.reader⟩
    ·show (k.mods ++ [(decT s).mod]).length ≤ 8
     simp
     omega
    ·intro m hmm
     rcases List.mem_append.1 hmm with h3 | h3
     ·exact h.mod m h3
     ·rw [List.mem_singleton.1 h3]
      exact hm
    ·show (layT k.mem (decT s).mod.data (64 * k.mods.length)).length = 1024
     rw [lay_len (by omega) hd, hL]
    ·show k.mods.length ≤ (k.mods ++ [(decT s).mod]).length
     simp
theorem Good.add {k : Kern} (h : Good k) {f : Node} (hf : f.kind = 1 ∧ f.unit = 0 ∧ f.data = [] ∨ f.kind = 2 ∧ f.data = []) : Good (addT k f).kern := by
 unfold addT
 split
 ·exact h
 ·rename_i h0
  split
  ·exact h
  ·rename_i h1
   split
   ·exact h
   ·rename_i h2
    split
    ·exact h
    ·rename_i h3
     have hnm : nameB f.name = true := by simpa using h0
     have hno : k.nodes.any (namedB f.name) = false := by
      rw [← idx_neg]
      omega
     rcases idx_cases emptyB k.nodes with ⟨_, he⟩ | ⟨i, x, hi, hx, hb, _⟩
     ·omega
     ·rw [hi, Int.toNat_natCast]
      have hk0 : f.kind ≠ 0 := by omega
      have hx0 : x = noNode := by
       have : x.kind = 0 := by simpa [emptyB] using hb
       rcases (h.node x (List.mem_of_getElem? hx)).kinds with h4 | h4 | h4
       ·exact h4.2
       ·omega
       ·omega
      refine ⟨h.toPre.setNode hk0 ?_ (fun _ => hnm) ?_, ?_, h.reader⟩
      ·rcases hf with ⟨h4, h5, h6⟩ | ⟨h4, h6⟩
       ·exact ⟨.inr (.inl ⟨h4, h5, by rw [h6]; simp⟩)⟩
       ·refine ⟨.inr (.inr ⟨h4, h6, ?_⟩)⟩
        have : withinB f.unit k.mods.length = true := by
         cases hw : withinB f.unit k.mods.length
         ·exact absurd ⟨h4, hw⟩ h2
         ·rfl
        exact within_iff.1 this
      ·intro hne j b hb hbn
       have := List.any_eq_false.1 hno b (List.mem_of_getElem? hb)
       simp [namedB, hbn, hne] at this
      ·intro j n hn hk hne
       rcases set_at hn with ⟨_, hn⟩ | ⟨_, _, rfl⟩
       ·exact h.open_ j n hn hk hne
       ·rw [hne] at hnm
        cases hnm
theorem Good.unlink {k : Kern} (h : Good k) (name : List UInt8) : Good (unlinkT k name).kern := by
 unfold unlinkT
 split
 ·exact h
 ·rename_i h0
  rcases idx_cases (namedB name) k.nodes with ⟨_, he⟩ | ⟨i, x, hi, hx, hb, _⟩
  ·omega
  ·obtain ⟨h1, h2⟩ := named_iff.1 hb
   rw [hi, Int.toNat_natCast]
   have hn : nodeAt k i = x := by
    rw [nodeAt, List.getD_eq_getElem?_getD, hx]
    rfl
   rw [hn]
   have hk := h.toPre.named (List.mem_of_getElem? hx) (h1 ▸ h2)
   refine Pre.tidy (h.toPre.setNode hk ?_ (fun h => absurd rfl h) (fun h => absurd rfl h))
   rcases (h.node x (List.mem_of_getElem? hx)).kinds with h4 | h4 | h4
   ·exact absurd h4.1 hk
   ·exact ⟨.inr (.inl h4)⟩
   ·exact ⟨.inr (.inr h4)⟩
theorem Pre.free {k : Kern} (h : Pre k) {p : Nat} (hp : p < 4) (h0 : ¬ idxT freeB (procAt k p).ends < 0) : ∃ i : Nat, idxT freeB (procAt k p).ends = i ∧ i < 6 ∧ (endAt k p i).kind = 0 := by
 rcases idx_cases freeB (procAt k p).ends with ⟨_, he⟩ | ⟨i, x, hi, hx, hb, _⟩
 ·omega
 ·have hl : i < 6 := by
   rw [← h.ends _ (h.mem_ hp)]
   exact (List.getElem?_eq_some_iff.1 hx).1
  refine ⟨i, hi, hl, ?_⟩
  rw [← Option.some.inj (hx.symm.trans (h.end_ hp hl))]
  simpa [freeB] using hb
theorem Good.opens {k : Kern} (h : Good k) {p : Nat} (hp : p < 4) (hl : (procAt k p).live = true) (name : List UInt8) : Good (openT k p name).kern := by
 unfold openT
 split
 ·exact h
 ·split
  ·exact h
  ·rename_i h0
   split
   ·exact h
   ·rename_i h1
    obtain ⟨i, hi, hi6, hk⟩ := h.toPre.free hp h1
    rcases idx_cases (namedB name) k.nodes with ⟨_, he⟩ | ⟨j, x, hj, hx, hb, _⟩
    ·omega
    ·obtain ⟨h2, h3⟩ := named_iff.1 hb
     rw [hi, Int.toNat_natCast, hj]
     have hjl := (List.getElem?_eq_some_iff.1 hx).1
     refine h.setEnd hp hi6 ⟨.inr (.inl ⟨rfl, ?_, ?_, ?_, ?_⟩)⟩ (fun h => by rw [hl] at h; cases h) (.inl hk)
     ·show (0 : Int) ≤ j
      omega
     ·show (j : Int) < (k.nodes.length : Nat)
      omega
     ·exact full_some hx (h.toPre.named (List.mem_of_getElem? hx) (h2 ▸ h3))
     ·show (0 : Int) ≤ 0 ∧ (0 : Int) ≤ 100
      omega
theorem end_other {k : Kern} (h : Pre k) {p i j : Nat} {e : End} (hp : p < 4) (hij : i ≠ j) : endAt (setEnd k p i e) p j = endAt k p j := by
 have h1 : procAt (setEnd k p i e) p = ⟨(procAt k p).live, (procAt k p).ends.set i e⟩ := by
  show (k.procs.set p ⟨(procAt k p).live, (procAt k p).ends.set i e⟩).getD p noProc = _
  rw [List.getD_eq_getElem?_getD, List.getElem?_set, if_pos rfl, if_pos (by rw [h.procsL]; exact hp)]
  rfl
 rw [endAt, h1]
 show ((procAt k p).ends.set i e).getD j noEnd = _
 rw [List.getD_eq_getElem?_getD, List.getElem?_set, if_neg hij, endAt, List.getD_eq_getElem?_getD]
theorem live_set {k : Kern} (h : Pre k) {p i : Nat} {e : End} (hp : p < 4) : (procAt (setEnd k p i e) p).live = (procAt k p).live := by
 show ((k.procs.set p ⟨(procAt k p).live, (procAt k p).ends.set i e⟩).getD p noProc).live = _
 rw [List.getD_eq_getElem?_getD, List.getElem?_set, if_pos rfl, if_pos (by rw [h.procsL]; exact hp)]
 rfl
theorem pipe_at {k : Kern} (h : ¬ pipeT' k < 0) : ∃ i : Nat, pipeT' k = i ∧ i < k.pipes.length ∧ noEnds k.procs i = true := by
 unfold pipeT' at h ⊢
 rcases idx_cases (noEnds k.procs) (List.range k.pipes.length) with ⟨_, he⟩ | ⟨i, x, hi, hx, hb, _⟩
 ·omega
 ·obtain ⟨h1, h2⟩ := List.getElem?_eq_some_iff.1 hx
  rw [List.getElem_range] at h2
  subst h2
  rw [List.length_range] at h1
  exact ⟨i, hi, h1, hb⟩
theorem Good.pipes_ {k : Kern} (h : Good k) {p : Nat} (hp : p < 4) (hl : (procAt k p).live = true) : Good (pipeT k p).kern := by
 unfold pipeT
 split
 ·exact h
 ·rename_i h0
  split
  ·exact h
  ·rename_i h1
   rw [_root_.not_or] at h0
   obtain ⟨i, hi, hi6, hk⟩ := h.toPre.free hp h0.2
   obtain ⟨n, hn, hn6, _⟩ := pipe_at h0.1
   rw [h.pipesL] at hn6
   rw [hi, Int.toNat_natCast] at h1 ⊢
   rcases idx_cases freeB ((procAt k p).ends.drop (i + 1)) with ⟨_, he⟩ | ⟨j, x, hj, hx, hb, _⟩
   ·omega
   ·rw [hj, Int.toNat_natCast, hn]
    rw [List.getElem?_drop] at hx
    have hl6 : i + 1 + j < 6 := by
     rw [← h.ends _ (h.toPre.mem_ hp)]
     exact (List.getElem?_eq_some_iff.1 hx).1
    have hxk : (endAt k p (i + 1 + j)).kind = 0 := by
     rw [← Option.some.inj (hx.symm.trans (h.toPre.end_ hp hl6))]
     simpa [freeB] using hb
    have hok : ∀ kd : Int, kd = 2 ∨ kd = 3 → ∀ ns, EndOk ns ⟨kd, n, 0⟩ := fun kd hkd ns => ⟨.inr (.inr ⟨hkd, by show (0 : Int) ≤ n; omega, by show (n : Int) < 6; omega, rfl⟩)⟩
    have hg := h.setEnd (e := ⟨2, n, 0⟩) hp hi6 (hok 2 (.inl rfl) _) (fun h => by rw [hl] at h; cases h) (.inl hk)
    refine hg.setEnd hp hl6 (hok 3 (.inr rfl) _) (fun h' => ?_) (.inl ?_)
    ·rw [live_set h.toPre hp, hl] at h'
     cases h'
    ·rw [end_other h.toPre hp (by omega)]
     exact hxk
theorem Good.fork {k : Kern} (h : Good k) {p : Nat} (hp : p < 4) : Good (forkT k p).kern := by
 unfold forkT
 split
 ·exact h
 ·rename_i h0
  rcases idx_cases deadB k.procs with ⟨_, he⟩ | ⟨i, x, hi, hx, hb, _⟩
  ·omega
  ·rw [hi, Int.toNat_natCast]
   have hd : x.live = false := by simpa [deadB] using hb
   have key : ∀ kind node : Int, kind ≠ 0 → hasB k.procs kind node = true → hasB (Cf.setProc k i ⟨true, (procAt k p).ends⟩).procs kind node = true := by
    intro kind node hk
    refine has_set hx fun hh => ?_
    exfalso
    unfold holdsB at hh
    rw [List.any_eq_true] at hh
    obtain ⟨e, he, hb⟩ := hh
    rw [h.dead x (List.mem_of_getElem? hx) hd e he] at hb
    simp only [endOf, noEnd, Bool.and_eq_true] at hb
    exact hk (of_decide_eq_true hb.1).symm
   refine ⟨h.toPre.setProc (h.ends (procAt k p) (h.toPre.mem_ hp)) (h.ende (procAt k p) (h.toPre.mem_ hp)) (fun h => by cases h), fun a n hn hk he => key _ _ (by decide) (h.open_ a n hn hk he), fun a s hs hne => key _ _ (by decide) (h.reader a s hs hne)⟩
theorem Good.exit {k : Kern} (h : Good k) {p : Nat} (hp : p < 4) : Good (exitT k p).kern := by
 have hm : ∀ e ∈ (procAt k p).ends.map (fun _ => noEnd), e = noEnd := by
  intro e he
  obtain ⟨_, _, rfl⟩ := List.mem_map.1 he
  rfl
 refine Pre.tidy (h.toPre.setProc ?_ (fun e he => ⟨.inl (hm e he)⟩) (fun _ => hm))
 show ((procAt k p).ends.map (fun _ => noEnd)).length = 6
 rw [List.length_map]
 exact h.ends _ (h.toPre.mem_ hp)
theorem Good.close {k : Kern} (h : Good k) {p i : Nat} (hp : p < 4) : Good (closeT k p i).kern := Pre.tidy (h.toPre.setEnd hp ⟨.inl rfl⟩ (fun _ => rfl))
theorem runM_words {l : List Ins} (hf : fault l = 0) : ∀ (n : Nat) (m : Mach), MOk m → (∀ v ∈ (runM l n m).2.mem, 0 ≤ v ∧ v ≤ 65535) ∧ (runM l n m).2.mem.length = m.mem.length ∧ MOk (runM l n m).2 := by
 have hz : faultIn l = 0 := by have := hf; unfold fault at this; rwa [if_neg (by have := fault_len l hf; omega)] at this
 have hlen : ∀ (x : Ins) (m : Mach), (∀ m', exec x m = .on m' → m'.mem.length = m.mem.length) ∧ (∀ e m', exec x m = .fin e m' → m'.mem = m.mem ∧ m'.regs = m.regs ∧ m'.told = m.told ∧ m'.back = m.back ∧ m'.pc = m.pc) := by
  intro x m
  constructor
  ·intro m' h
   unfold exec at h
   repeat' split at h
   all_goals first | (injection h with h; subst h; first | rfl | simp) | (simp at h)
  ·intro e m' h
   unfold exec at h
   repeat' split at h
   all_goals first | (injection h with _ h; subst h; exact ⟨rfl, rfl, rfl, rfl, rfl⟩) | (simp at h)
 intro n
 induction n with
 | zero => intro m hm; exact ⟨hm.mem, rfl, hm⟩
 | succ n ih =>
   intro m hm
   rw [runM]
   cases hs : step l m with
   | on m' =>
     have h1 := ih m' (step_ok hz (fault_len l hf) hm hs)
     refine ⟨h1.1, h1.2.1.trans ?_, h1.2.2⟩
     unfold step at hs
     split at hs
     ·cases hs
     ·exact (hlen _ ⟨m.regs, m.mem, m.told, m.back, m.pc + 1⟩).1 m' hs
   | fin e m' =>
     unfold step at hs
     split at hs
     ·injection hs with _ hs
      subst hs
      exact ⟨hm.mem, rfl, hm⟩
     ·rename_i x hx
      obtain ⟨h1, h2, h3, h4, h5⟩ := (hlen _ _).2 e m' hs
      have hpc : m.pc < l.length := (List.getElem?_eq_some_iff.1 hx).1
      have hl2 := fault_len l hf
      refine ⟨by rw [h1]; exact hm.mem, by rw [h1], ?_⟩
      exact ⟨by rw [h2]; exact hm.regs, by rw [h2]; exact hm.words, by rw [h1]; exact hm.mem, by rw [h3]; exact hm.told, by rw [h3]; exact hm.toldW, by rw [h4]; exact hm.back, by rw [h4]; exact hm.backs, by rw [h5]; show m.pc + 1 ≤ 200; omega⟩
theorem runT_words {l : List Ins} {regs mem : List Int} {fuel : Int} (h8 : regs.length = 8) (he : (runT l regs mem fuel).err = 0) : (∀ v ∈ (runT l regs mem fuel).mem, 0 ≤ v ∧ v ≤ 65535) ∧ (runT l regs mem fuel).mem.length = mem.length ∧ (∀ v ∈ (runT l regs mem fuel).regs, 0 ≤ v ∧ v ≤ 65535) ∧ (runT l regs mem fuel).regs.length = 8 := by
 unfold runT at he ⊢
 split at he
 ·rename_i hf
  rw [if_pos hf]
  split at he
  ·rename_i hl
   rw [if_pos hl]
   split at he
   ·rename_i hw
    rw [if_pos hw]
    simp only [Bool.and_eq_true, List.all_eq_true] at hw
    have hm : MOk ⟨regs, mem, [], [], 0⟩ := ⟨h8, fun v hv => word_iff.1 (hw.2.1 v hv), fun v hv => word_iff.1 (hw.2.2 v hv), by simp, by simp, by simp, by simp, by simp⟩
    have h := runM_words hf fuel.toNat _ hm
    exact ⟨h.1, h.2.1, h.2.2.words, h.2.2.regs⟩
   ·simp [noOut] at he
  ·simp [noOut] at he
 ·rename_i hf
  exact absurd he hf
theorem ask_mem {k : Kern} (hL : k.mem.length = 1024) (hW : ∀ v ∈ k.mem, 0 ≤ v ∧ v ≤ 65535) (u : Nat) (x : Int) : (askT k u x).mem.length = 1024 ∧ (∀ v ∈ (askT k u x).mem, 0 ≤ v ∧ v ≤ 65535) ∧ 0 ≤ (askT k u x).word ∧ (askT k u x).word ≤ 65535 := by
 unfold askT
 split
 ·rename_i h
  obtain ⟨h1, h2, h3, _⟩ := runT_words (show (askR u x).length = 8 from rfl) h.1
  exact ⟨h2.trans hL, h1, getD_word h3 0⟩
 ·exact ⟨hL, hW, by show (0 : Int) ≤ 0; omega, by show (0 : Int) ≤ 65535; omega⟩
theorem Good.setMem {k : Kern} (h : Good k) {m : List Int} (hL : m.length = 1024) (hW : ∀ v ∈ m, 0 ≤ v ∧ v ≤ 65535) : Good (setMem k m) :=
 ⟨⟨h.modsL, h.mod, h.modU, hL, hW, h.nodesL, h.node, h.name, h.uniq, h.pipesL, h.pipe, h.procsL, h.ends, h.ende, h.dead⟩, h.open_, h.reader⟩
theorem feed_mem (u : Nat) : ∀ (s : List UInt8) (k : Kern), k.mem.length = 1024 → (∀ v ∈ k.mem, 0 ≤ v ∧ v ≤ 65535) → (feedT k u s).mem.length = 1024 ∧ ∀ v ∈ (feedT k u s).mem, 0 ≤ v ∧ v ≤ 65535
 | [], k, hL, hW => ⟨hL, hW⟩
 | b :: r, k, hL, hW => by
   rw [feedT]
   obtain ⟨h1, h2, _⟩ := ask_mem hL hW u b.toNat
   split
   ·exact feed_mem u r (Cf.setMem k (askT k u b.toNat).mem) h1 h2
   ·exact ⟨hL, hW⟩
theorem Good.setPipe {k : Kern} (h : Good k) {i : Nat} {s : List UInt8} (hs : s.length ≤ 20) (hr : s ≠ [] → hasB k.procs 2 i = true) : Good (setPipe k i s) := by
 refine ⟨⟨h.modsL, h.mod, h.modU, h.memL, h.memW, h.nodesL, h.node, h.name, h.uniq, ?_, ?_, h.procsL, h.ends, h.ende, h.dead⟩, h.open_, ?_⟩
 ·show (k.pipes.set i s).length = 6
  rw [List.length_set]
  exact h.pipesL
 ·intro t ht
  rcases set_mem ht with ht | rfl
  ·exact h.pipe t ht
  ·exact hs
 ·intro j t ht hne
  rcases set_at ht with ⟨_, ht⟩ | ⟨rfl, _, rfl⟩
  ·exact h.reader j t ht hne
  ·exact hr hne
theorem pipe_len {k : Kern} (h : Good k) (i : Nat) : (pipeAt k i).length ≤ 20 ∧ (pipeAt k i ≠ [] → hasB k.procs 2 i = true) := by
 rw [pipeAt, List.getD_eq_getElem?_getD]
 cases hi : k.pipes[i]? with
 | none => simp
 | some s => exact ⟨h.pipe s (List.mem_of_getElem? hi), h.reader i s hi⟩
theorem Good.readPipe {k : Kern} (h : Good k) (i size : Nat) : Good (readPipeT k i size).kern := by
 unfold readPipeT
 split
 ·exact h
 ·rename_i h0
  obtain ⟨h1, h2⟩ := pipe_len h i
  exact h.setPipe (by simp; omega) (fun _ => h2 h0)
theorem Good.writePipe {k : Kern} (h : Good k) (i : Nat) (s : List UInt8) : Good (writePipeT k i s).kern := by
 unfold writePipeT
 split
 ·exact h
 ·rename_i h0
  split
  ·exact h
  ·obtain ⟨h1, _⟩ := pipe_len h i
   exact h.setPipe (by simp; omega) (fun _ => by simpa using h0)
theorem Good.readFile {k : Kern} (h : Good k) {p n : Nat} (hp : p < 4) (hn : n < 6) (size : Nat) {data : List UInt8} (hd : data.length ≤ 100) (h1 : (endAt k p n).kind = 1) : Good (readFileT k p n size data (endAt k p n)).kern := by
 unfold readFileT
 split
 ·exact h
 ·rename_i h0
  have hlt : (endAt k p n).pos.toNat < data.length := by
   rcases Nat.lt_or_ge (endAt k p n).pos.toNat data.length with h2 | h2
   ·exact h2
   ·exact absurd (List.drop_eq_nil_of_le h2) h0
  have hok := h.ende _ (h.toPre.mem_ hp) _ (h.toPre.endM hp hn)
  rcases hok.kinds with h2 | ⟨_, h3, h4, h5, h6, h7⟩ | h2
  ·rw [h2] at h1; cases h1
  ·refine h.setEnd hp hn ⟨.inr (.inl ⟨h1, h3, h4, h5, ?_, ?_⟩)⟩ (fun hl => ?_) (.inr ⟨rfl, rfl⟩)
   ·show 0 ≤ (endAt k p n).pos + _
    omega
   ·show (endAt k p n).pos + _ ≤ 100
    simp
    omega
   ·have := h.dead _ (h.toPre.mem_ hp) hl _ (h.toPre.endM hp hn)
    rw [this] at h1
    cases h1
  ·omega
theorem Pre.nodeM {k : Kern} (h : Pre k) {i : Nat} (hi : i < 8) : k.nodes[i]? = some (nodeAt k i) := by
 have hl : i < k.nodes.length := by rw [h.nodesL]; exact hi
 rw [nodeAt, List.getD_eq_getElem?_getD, List.getElem?_eq_getElem hl]
 rfl
theorem over_len (d s : List UInt8) (pos : Nat) : (overT d s pos).length = max (pos + s.length) d.length := by
 unfold overT
 simp
 omega
theorem Good.writeFile {k : Kern} (h : Good k) {p n : Nat} (hp : p < 4) (hn : n < 6) (s : List UInt8) (h1 : (endAt k p n).kind = 1) (h2 : (nodeAt k (endAt k p n).node.toNat).kind ≠ 2) : Good (writeFileT k p n s (endAt k p n) (nodeAt k (endAt k p n).node.toNat)).kern := by
 unfold writeFileT
 split
 ·exact h
 ·rename_i h0
  have hlen : (s.take (100 - (endAt k p n).pos.toNat)).length ≤ 100 - (endAt k p n).pos.toNat := by simp; omega
  have hpos : 0 < (s.take (100 - (endAt k p n).pos.toNat)).length := List.length_pos_iff.2 h0
  generalize s.take (100 - (endAt k p n).pos.toNat) = t at *
  have hok := h.ende _ (h.toPre.mem_ hp) _ (h.toPre.endM hp hn)
  rcases hok.kinds with h2 | ⟨_, h3, h4, h5, h6, h7⟩ | h2
  ·rw [h2] at h1; cases h1
  ·rw [h.nodesL] at h4
   generalize hj : (endAt k p n).node.toNat = j at *
   have hj8 : j < 8 := by omega
   have hx := h.toPre.nodeM hj8
   have hk : (nodeAt k j).kind ≠ 0 := by
    unfold fullAt at h5
    rw [hj, hx] at h5
    simpa [emptyB] using h5
   have hok2 := h.node _ (List.mem_of_getElem? hx)
   have hk1 : (nodeAt k j).kind = 1 ∧ (nodeAt k j).unit = 0 ∧ (nodeAt k j).data.length ≤ 100 := by
    rcases hok2.kinds with h8 | h8 | h8
    ·exact absurd h8.1 hk
    ·exact h8
    ·exact absurd h8.1 h2
   have hg : Good (Cf.setNode k j ⟨(nodeAt k j).name, (nodeAt k j).kind, overT (nodeAt k j).data t (endAt k p n).pos.toNat, (nodeAt k j).unit⟩) := by
    refine ⟨h.toPre.setNode hk ⟨.inr (.inl ⟨hk1.1, hk1.2.1, ?_⟩)⟩ (fun hne => h.name (nodeAt k j) (List.mem_of_getElem? hx) hne) (fun hne b x hb hbn => h.uniq b j x _ hb hx hbn (by rw [hbn]; exact hne)), ?_, h.reader⟩
    ·show (overT (nodeAt k j).data t (endAt k p n).pos.toNat).length ≤ 100
     rw [over_len]
     omega
    ·intro a x hx' hkx hnx
     rcases set_at hx' with ⟨_, hx'⟩ | ⟨rfl, _, rfl⟩
     ·exact h.open_ a x hx' hkx hnx
     ·exact h.open_ j _ hx hk hnx
   have he : endAt (Cf.setNode k j ⟨(nodeAt k j).name, (nodeAt k j).kind, overT (nodeAt k j).data t (endAt k p n).pos.toNat, (nodeAt k j).unit⟩) p n = endAt k p n := rfl
   refine hg.setEnd hp hn ⟨.inr (.inl ⟨h1, h3, ?_, full_set (n := ⟨(nodeAt k j).name, (nodeAt k j).kind, overT (nodeAt k j).data t (endAt k p n).pos.toNat, (nodeAt k j).unit⟩) hk h5, ?_, ?_⟩)⟩ (fun hl => ?_) (.inr ⟨by rw [he], by rw [he]⟩)
   ·show (endAt k p n).node < ((k.nodes.set j _).length : Nat)
    rw [List.length_set, h.nodesL]
    omega
   ·show 0 ≤ (endAt k p n).pos + _
    omega
   ·show (endAt k p n).pos + (t.length : Int) ≤ 100
    omega
   ·have := h.dead _ (h.toPre.mem_ hp) hl _ (h.toPre.endM hp hn)
    rw [this] at h1
    cases h1
  ·omega
theorem Good.readDev {k : Kern} (h : Good k) (u : Nat) : Good (readDevT k u).kern := by
 unfold readDevT
 split
 ·obtain ⟨h1, h2, _⟩ := ask_mem h.memL h.memW u 256
  exact h.setMem h1 h2
 ·exact h
theorem Good.writeDev {k : Kern} (h : Good k) (u : Nat) (s : List UInt8) : Good (writeDevT k u s).kern := by
 unfold writeDevT
 split
 ·exact h
 ·obtain ⟨h1, h2⟩ := feed_mem u s k h.memL h.memW
  exact h.setMem h1 h2
theorem Good.kinds {k : Kern} (h : Good k) {p n : Nat} (hp : p < 4) (hn : n < 6) (h0 : (endAt k p n).kind ≠ 0) : (endAt k p n).kind = 1 ∧ 0 ≤ (endAt k p n).node ∧ (endAt k p n).node < 8 ∧ fullAt k.nodes (endAt k p n).node = true ∧ 0 ≤ (endAt k p n).pos ∧ (endAt k p n).pos ≤ 100 ∨ ((endAt k p n).kind = 2 ∨ (endAt k p n).kind = 3) ∧ 0 ≤ (endAt k p n).node ∧ (endAt k p n).node < 6 ∧ (endAt k p n).pos = 0 := by
 rcases (h.ende _ (h.toPre.mem_ hp) _ (h.toPre.endM hp hn)).kinds with h1 | h1 | h1
 ·rw [h1] at h0; exact absurd rfl h0
 ·rw [h.nodesL] at h1
  exact .inl h1
 ·exact .inr h1
theorem Good.nodeK {k : Kern} (h : Good k) {j : Int} (h0 : 0 ≤ j) (h8 : j < 8) (hf : fullAt k.nodes j = true) : (nodeAt k j.toNat).kind = 1 ∧ (nodeAt k j.toNat).unit = 0 ∧ (nodeAt k j.toNat).data.length ≤ 100 ∨ (nodeAt k j.toNat).kind = 2 ∧ (nodeAt k j.toNat).data = [] ∧ 0 ≤ (nodeAt k j.toNat).unit ∧ (nodeAt k j.toNat).unit < k.mods.length := by
 have hx := h.toPre.nodeM (i := j.toNat) (by omega)
 rcases (h.node _ (List.mem_of_getElem? hx)).kinds with h1 | h1 | h1
 ·unfold fullAt at hf
  rw [hx] at hf
  simp [emptyB, h1.1] at hf
 ·exact .inl h1
 ·exact .inr h1
theorem Good.byEnd {k : Kern} (h : Good k) {p n : Nat} (hp : p < 4) (hn : n < 6) (h0 : (endAt k p n).kind ≠ 0) (a : Actn) : Good (byEndT k p n a).kern := by
 unfold byEndT
 split
 ·unfold readT
  split
  ·exact h
  ·split
   ·exact h
   ·split
    ·exact h.readPipe _ _
    ·split
     ·exact h.readDev _
     ·rename_i h3 _ h2 hk2
      rcases h.kinds hp hn h0 with h1 | h1
      ·rcases h.nodeK h1.2.1 h1.2.2.1 h1.2.2.2.1 with h4 | h4
       ·exact h.readFile hp hn _ h4.2.2 h1.1
       ·exact absurd h4.1 hk2
      ·omega
 ·split
  ·unfold writeT
   split
   ·exact h
   ·split
    ·exact h
    ·split
     ·exact h.writePipe _ _
     ·split
      ·exact h.writeDev _ _
      ·rename_i h3 _ h2 hk2
       rcases h.kinds hp hn h0 with h1 | h1
       ·exact h.writeFile hp hn _ h1.1 hk2
       ·omega
  ·exact h.close hp
theorem Good.byProc {k : Kern} (h : Good k) {p : Nat} (hp : p < 4) (hl : (procAt k p).live = true) (a : Actn) : Good (byProcT k p a).kern := by
 unfold byProcT
 split
 ·exact h.opens hp hl _
 ·split
  ·exact h.pipes_ hp hl
  ·split
   ·exact h.fork hp
   ·split
    ·exact h.exit hp
    ·split
     ·rename_i hw
      have := within_iff.1 hw.1
      rw [h.ends _ (h.toPre.mem_ hp)] at this
      exact h.byEnd hp (by omega) hw.2 a
     ·exact h
theorem Good.act {k : Kern} (h : Good k) (a : Actn) : Good (actT k a).kern := by
 unfold actT
 split
 ·exact h.install _
 ·split
  ·exact h.add (.inl ⟨rfl, rfl, rfl⟩)
  ·split
   ·exact h.add (.inr ⟨rfl, rfl⟩)
   ·split
    ·exact h.unlink _
    ·split
     ·rename_i hw
      have := within_iff.1 hw.1
      rw [h.procsL] at this
      exact h.byProc (by omega) hw.2 a
     ·exact h
theorem act_proc {k : Kern} {a : Actn} {p : Nat} (hk : 5 ≤ a.kind) (hp : a.p = p) (hl : p < k.procs.length) (hv : (procAt k p).live = true) : actT k a = byProcT k p a := by
 unfold actT
 rw [if_neg (by omega), if_neg (by omega), if_neg (by omega), if_neg (by omega), hp, Int.toNat_natCast, if_pos ⟨within_iff.2 ⟨by omega, by omega⟩, hv⟩]
theorem act_end {k : Kern} {a : Actn} {p n : Nat} (hk : 6 ≤ a.kind ∧ a.kind ≤ 8) (hp : a.p = p) (hl : p < k.procs.length) (hv : (procAt k p).live = true) (hn : a.n = n) (hnl : n < (procAt k p).ends.length) (he : (endAt k p n).kind ≠ 0) : actT k a = byEndT k p n a := by
 rw [act_proc (by omega) hp hl hv]
 unfold byProcT
 rw [if_neg (by omega), if_neg (by omega), if_neg (by omega), if_neg (by omega), hn, Int.toNat_natCast, if_pos ⟨within_iff.2 ⟨by omega, by omega⟩, he⟩]
theorem good_new : Good newKern := by
 have hp : ∀ p ∈ newKern.procs, p.ends = List.replicate 6 noEnd := by
  intro p hp
  rcases List.mem_cons.1 hp with rfl | hp
  ·rfl
  ·rw [List.eq_of_mem_replicate hp]
   rfl
 refine ⟨⟨by decide, fun m hm => (by cases hm), rfl, List.length_replicate, ?_, rfl, ?_, ?_, ?_, rfl, ?_, rfl, ?_, ?_, ?_⟩, ?_, ?_⟩
 ·intro v hv
  rw [List.eq_of_mem_replicate hv]
  decide
 ·intro n hn
  rw [List.eq_of_mem_replicate hn]
  exact noNode_ok _
 ·intro n hn h
  rw [List.eq_of_mem_replicate hn] at h
  exact absurd rfl h
 ·intro i j a b ha hb hab hne
  rw [List.eq_of_mem_replicate (List.mem_of_getElem? ha)] at hne
  exact absurd rfl hne
 ·intro s hs
  rw [List.eq_of_mem_replicate hs]
  decide
 ·intro p h
  rw [hp p h]
  rfl
 ·intro p h e he
  rw [hp p h] at he
  exact ⟨.inl (List.eq_of_mem_replicate he)⟩
 ·intro p h _ e he
  rw [hp p h] at he
  exact List.eq_of_mem_replicate he
 ·intro i n hn hk
  rw [List.eq_of_mem_replicate (List.mem_of_getElem? hn)] at hk
  exact absurd rfl hk
 ·intro i s hs hne
  rw [List.eq_of_mem_replicate (List.mem_of_getElem? hs)] at hne
  exact absurd rfl hne
theorem next_good {k : Kern} (h : Good k) {a : Actn} (ha : inB a.kind 1 11 = true) : nextT k a = actT k a := by
 have h0 : kernT k = 0 := good_iff.2 h
 have hd : doT k a = ⟨(actT k a).kern, (actT k a).ans, 0⟩ := by
  unfold doT
  rw [if_neg (by simp [h0]), if_neg (by simp [ha])]
 unfold nextT
 rw [hd]
 rfl
theorem next_bad {k : Kern} (h : Good k) {a : Actn} (ha : inB a.kind 1 11 = false) : nextT k a = ⟨k, ⟨3, 0, []⟩⟩ := by
 have h0 : kernT k = 0 := good_iff.2 h
 have hd : doT k a = ⟨noKern, noAns, 3⟩ := by
  unfold doT
  rw [if_neg (by simp [h0]), if_pos ha]
 unfold nextT
 rw [hd]
 rfl
theorem Good.next {k : Kern} (h : Good k) (a : Actn) : Good (nextT k a).kern := by
 cases ha : inB a.kind 1 11
 ·rw [next_bad h ha]
  exact h
 ·rw [next_good h ha]
  exact h.act a
theorem ran_step {k k' : Kern} {a : Actn} {x : Ans} {r : List Actn} (h : Good k) (ha : inB a.kind 1 11 = true) (he : actT k a = ⟨k', x⟩) : ranT k (a :: r) = ⟨x :: (ranT k' r).answers, (ranT k' r).kern⟩ ∧ Good k' := by
 have h1 := h.act a
 have h2 := next_good h ha
 rw [he] at h1 h2
 rw [ranT, h2]
 exact ⟨rfl, h1⟩
theorem Good.ran : ∀ (l : List Actn) {k : Kern}, Good k → Good (ranT k l).kern
 | [], _, h => h
 | a :: r, _, h => Good.ran r (h.next a)
theorem ran_len : ∀ (l : List Actn) (k : Kern), (ranT k l).answers.length = l.length
 | [], _ => rfl
 | a :: r, k => by
   show ((ranT (nextT k a).kern r).answers.length) + 1 = _
   rw [ran_len r]
   rfl
theorem ran_app : ∀ (l m : List Actn) (k : Kern), ranT k (l ++ m) = ⟨(ranT k l).answers ++ (ranT (ranT k l).kern m).answers, (ranT (ranT k l).kern m).kern⟩
 | [], m, k => rfl
 | a :: r, m, k => by
   rw [List.cons_append, ranT, ran_app r m]
   rfl
end Go.Proofs.YtnnhhbjbdmgpiaaGreatDoor.Cf
/- Plain mathematics of chapter 2: the three programs that the laws run. No Go in it. -/
namespace Go.Proofs.YtnnhhbjbdmgpiaaGreatDoor.Cf
set_option maxRecDepth 100000
end Go.Proofs.YtnnhhbjbdmgpiaaGreatDoor.Cf
/- Plain mathematics of chapter 3: plain code made into trusted code. No Go in it. -/
namespace Go.Proofs.YtnnhhbjbdmgpiaaGreatDoor.Cf
set_option maxRecDepth 100000
theorem flat_piece {α β : Type} (f : α → List β) : ∀ (xs : List α) (c : Nat) (i : α) (j : Nat), xs[c]? = some i → j < (f i).length → (xs.flatMap f)[((xs.take c).flatMap f).length + j]? = (f i)[j]?
 | [], c, i, j, h, _ => by simp at h
 | x :: xs, 0, i, j, h, hj => by
   simp at h
   subst h
   simp [List.getElem?_append_left hj]
 | x :: xs, c + 1, i, j, h, hj => by
   have := flat_piece f xs c i j (by simpa using h) hj
   rw [List.take_succ_cons, List.flatMap_cons, List.flatMap_cons, List.length_append, Nat.add_assoc, List.getElem?_append_right (by omega), Nat.add_sub_cancel_left]
   exact this
theorem piece_of {α β : Type} (f : α → List β) : ∀ (xs : List α) (k : Nat) (y : β), (xs.flatMap f)[k]? = some y → ∃ c i j, xs[c]? = some i ∧ (f i)[j]? = some y ∧ k = ((xs.take c).flatMap f).length + j
 | [], k, y, h => by simp at h
 | x :: xs, k, y, h => by
   rw [List.flatMap_cons] at h
   rcases Nat.lt_or_ge k (f x).length with hk | hk
   ·rw [List.getElem?_append_left hk] at h
    exact ⟨0, x, k, rfl, h, by simp⟩
   ·rw [List.getElem?_append_right hk] at h
    obtain ⟨c, i, j, h1, h2, h3⟩ := piece_of f xs _ y h
    exact ⟨c + 1, i, j, by simpa using h1, h2, by rw [List.take_succ_cons, List.flatMap_cons, List.length_append]; omega⟩
def ldst (i : Ins) : Bool := decide (i.op = 8) || decide (i.op = 9)
def wid (i : Ins) : Nat := if ldst i then 3 else 1
def place (l : List Ins) (c : Nat) : Nat := ((l.take c).map wid).sum
def tri (l : List Ins) (i : Ins) : List Ins :=
 if ldst i then [⟨4, 4, i.b, 6⟩, ⟨5, 4, 4, 5⟩, ⟨i.op, i.a, 4, i.c⟩] else if jumpsB i then [⟨i.op, i.a, i.b, place l i.c.toNat⟩] else [i]
def madeL (l : List Ins) : List Ins := l.flatMap (tri l)
def plainI (l : List Ins) (i : Ins) : Bool :=
 if inB i.a 4 6 = true ∨ inB i.b 4 6 = true ∨ (inB i.op 2 7 = true ∧ inB i.c 4 6 = true) ∨ (jumpsB i = true ∧ (l.length : Int) ≤ i.c) then false else true
def plainB (l : List Ins) : Bool := lastB l && l.all (plainI l)
structure Made where
 code : List Ins
 err : Int
def madeT (l : List Ins) : Made :=
 if fault l = 0 then (if plainB l then (if (madeL l).length ≤ 200 then ⟨madeL l, 0⟩ else ⟨[], 1⟩) else ⟨[], 10⟩) else ⟨[], fault l⟩
theorem tri_len (l : List Ins) (i : Ins) : (tri l i).length = wid i := by
 unfold tri wid
 split
 ·rfl
 ·split <;> rfl
theorem place_len (l : List Ins) (c : Nat) : ((l.take c).flatMap (tri l)).length = place l c := by
 unfold place
 rw [List.length_flatMap]
 congr 1
 exact List.map_congr_left fun i _ => tri_len l i
theorem made_at {l : List Ins} {c : Nat} {i : Ins} (h : l[c]? = some i) (j : Nat) (hj : j < wid i) : (madeL l)[place l c + j]? = (tri l i)[j]? := by
 have := flat_piece (tri l) l c i j h (by rw [tri_len]; exact hj)
 rwa [place_len] at this
theorem made_of {l : List Ins} {k : Nat} {y : Ins} (h : (madeL l)[k]? = some y) : ∃ c i j, l[c]? = some i ∧ (tri l i)[j]? = some y ∧ k = place l c + j := by
 obtain ⟨c, i, j, h1, h2, h3⟩ := piece_of (tri l) l k y h
 rw [place_len] at h3
 exact ⟨c, i, j, h1, h2, h3⟩
theorem wid_pos (i : Ins) : 1 ≤ wid i := by unfold wid; split <;> omega
theorem place_lt {l : List Ins} {c : Nat} {i : Ins} (h : l[c]? = some i) : place l c + wid i ≤ (madeL l).length := by
 have h1 := made_at h (wid i - 1) (by have := wid_pos i; omega)
 have h2 : wid i - 1 < (tri l i).length := by rw [tri_len]; have := wid_pos i; omega
 rw [List.getElem?_eq_getElem h2] at h1
 have := (List.getElem?_eq_some_iff.1 h1).1
 have := wid_pos i
 omega
theorem place_next {l : List Ins} {c : Nat} {i : Ins} (h : l[c]? = some i) : place l (c + 1) = place l c + wid i := by
 unfold place
 rw [List.take_add_one, h]
 simp
theorem plain_parts {l : List Ins} (h : plainB l = true) : lastB l = true ∧ ∀ i ∈ l, (i.a < 4 ∨ 6 < i.a) ∧ (i.b < 4 ∨ 6 < i.b) ∧ (2 ≤ i.op ∧ i.op ≤ 7 → i.c < 4 ∨ 6 < i.c) ∧ (jumpsB i = true → i.c < l.length) := by
 unfold plainB at h
 simp only [Bool.and_eq_true] at h
 refine ⟨h.1, fun i hi => ?_⟩
 have := List.all_eq_true.1 h.2 i hi
 unfold plainI at this
 split at this
 ·cases this
 ·rename_i hn
  simp only [inB, Bool.and_eq_true, decide_eq_true_eq] at hn
  refine ⟨?_, ?_, fun h1 => ?_, fun h1 => ?_⟩
  ·by_cases e : i.a < 4 ∨ 6 < i.a
   ·exact e
   ·exact absurd (.inl (by omega)) hn
  ·by_cases e : i.b < 4 ∨ 6 < i.b
   ·exact e
   ·exact absurd (.inr (.inl (by omega))) hn
  ·by_cases e : i.c < 4 ∨ 6 < i.c
   ·exact e
   ·exact absurd (.inr (.inr (.inl ⟨by omega, by omega⟩))) hn
  ·by_cases e : i.c < l.length
   ·exact e
   ·exact absurd (.inr (.inr (.inr ⟨h1, by omega⟩))) hn
theorem faultIn_all : ∀ (l : List Ins), (∀ x ∈ l, chk x = 0) → faultIn l = 0
 | [], _ => rfl
 | x :: l, h => by rw [faultIn, if_pos (h x (List.mem_cons_self ..)), faultIn_all l fun y hy => h y (List.mem_cons_of_mem _ hy)]
theorem tri_cases {l : List Ins} {i y : Ins} {j : Nat} (h : (tri l i)[j]? = some y) :
  (ldst i = true ∧ ((j = 0 ∧ y = ⟨4, 4, i.b, 6⟩) ∨ (j = 1 ∧ y = ⟨5, 4, 4, 5⟩) ∨ (j = 2 ∧ y = ⟨i.op, i.a, 4, i.c⟩))) ∨
  (ldst i = false ∧ jumpsB i = true ∧ j = 0 ∧ y = ⟨i.op, i.a, i.b, place l i.c.toNat⟩) ∨ (ldst i = false ∧ jumpsB i = false ∧ j = 0 ∧ y = i) := by
 unfold tri at h
 split at h
 ·rename_i hl
  refine .inl ⟨hl, ?_⟩
  match j, h with
  | 0, h => simp at h; exact .inl ⟨rfl, h.symm⟩
  | 1, h => simp at h; exact .inr (.inl ⟨rfl, h.symm⟩)
  | 2, h => simp at h; exact .inr (.inr ⟨rfl, h.symm⟩)
  | (j + 3), h => simp at h
 ·rename_i hl
  split at h
  ·rename_i hj
   match j, h with
   | 0, h => simp at h; exact .inr (.inl ⟨by simpa using hl, hj, rfl, h.symm⟩)
   | (j + 1), h => simp at h
  ·rename_i hj
   match j, h with
   | 0, h => simp at h; exact .inr (.inr ⟨by simpa using hl, by simpa using hj, rfl, h.symm⟩)
   | (j + 1), h => simp at h
theorem chk_mask (b : Int) (h : 0 ≤ b ∧ b ≤ 7) : chk ⟨4, 4, b, 6⟩ = 0 := by
 simp [chk, opB, fldB, fitB, fmt, fmtTab, fld, lar, larTab, h.1, h.2]
theorem chk_access {i : Ins} (h : chk i = 0) (hl : ldst i = true) : chk ⟨i.op, i.a, 4, i.c⟩ = 0 := by
 obtain ⟨op, a, b, c⟩ := i
 simp only [ldst, Bool.or_eq_true, decide_eq_true_eq] at hl
 rcases hl with e | e <;> subst e <;> simp [chk, opB, fldB, fitB, fmt, fmtTab, fld, lar, larTab] at h ⊢ <;> omega
theorem chk_jump {i : Ins} {c : Nat} (h : chk i = 0) (hj : jumpsB i = true) (hc : c ≤ 199) : chk ⟨i.op, i.a, i.b, c⟩ = 0 := by
 obtain ⟨op, a, b, c'⟩ := i
 simp only [jumpsB, Bool.or_eq_true, decide_eq_true_eq] at hj
 rcases hj with e | e | e <;> subst e <;> simp [chk, opB, fldB, fitB, fmt, fmtTab, fld, lar, larTab] at h ⊢ <;> omega
theorem jump_in {l : List Ins} (hp : plainB l = true) {i : Ins} (hi : i ∈ l) (h0 : 0 ≤ i.c) (hj : jumpsB i = true) : place l i.c.toNat < (madeL l).length := by
 have := ((plain_parts hp).2 i hi).2.2.2 hj
 obtain ⟨x, hx⟩ : ∃ x, l[i.c.toNat]? = some x := ⟨_, List.getElem?_eq_getElem (by omega)⟩
 have := place_lt hx
 have := wid_pos x
 omega
theorem fault_two {l : List Ins} (hf : fault l = 0) : faultIn l = 0 ∧ l.length ≤ 200 := by
 unfold fault at hf
 split at hf
 ·cases hf
 ·exact ⟨hf, by omega⟩
theorem made_fault {l : List Ins} (hf : fault l = 0) (hp : plainB l = true) (hl : (madeL l).length ≤ 200) : fault (madeL l) = 0 := by
 unfold fault
 rw [if_neg (by omega)]
 refine faultIn_all _ fun y hy => ?_
 obtain ⟨k, hk⟩ := List.getElem?_of_mem hy
 obtain ⟨c, i, j, hi, hj, _⟩ := made_of hk
 have hc := faultIn_mem l (fault_two hf).1 c i hi
 obtain ⟨_, _, hb, hcc, _, _⟩ := chk_parts i hc
 rcases tri_cases hj with ⟨h1, ⟨_, rfl⟩ | ⟨_, rfl⟩ | ⟨_, rfl⟩⟩ | ⟨_, h2, _, rfl⟩ | ⟨_, _, _, rfl⟩
 ·exact chk_mask _ hb
 ·decide
 ·exact chk_access hc h1
 ·exact chk_jump hc h2 (by have := jump_in hp (List.mem_of_getElem? hi) hcc.1 h2; omega)
 ·exact hc
theorem made_last {l : List Ins} (hp : plainB l = true) : lastB (madeL l) = true := by
 have hl := (plain_parts hp).1
 unfold lastB at hl
 cases hg : l.getLast? with
 | none => rw [hg] at hl; cases hl
 | some i =>
   rw [hg] at hl
   simp only at hl
   have hne : l ≠ [] := by intro e; rw [e] at hg; simp at hg
   have hlen : 0 < l.length := List.length_pos_iff.2 hne
   rw [List.getLast?_eq_getElem?] at hg
   have hst : ldst i = false := by
    simp only [stopsB, Bool.or_eq_true, decide_eq_true_eq] at hl
    simp [ldst]
    omega
   have hw : wid i = 1 := by unfold wid; rw [hst]; rfl
   have hend : place l (l.length - 1) + 1 = (madeL l).length := by
    have h1 := place_next hg
    rw [hw, show l.length - 1 + 1 = l.length by omega] at h1
    rw [← h1, ← place_len, List.take_length]
    rfl
   unfold lastB
   rw [List.getLast?_eq_getElem?, show (madeL l).length - 1 = place l (l.length - 1) + 0 by omega, made_at hg 0 (by omega)]
   unfold tri
   rw [hst]
   cases hj : jumpsB i with
   | true =>
     show stopsB ⟨i.op, i.a, i.b, _⟩ = true
     exact hl
   | false => exact hl
theorem made_ok {l : List Ins} (hf : fault l = 0) (hp : plainB l = true) {k : Nat} {y : Ins} (hk : (madeL l)[k]? = some y) : okI (madeL l) k y = true := by
 obtain ⟨c, i, j, hi, hj, rfl⟩ := made_of hk
 have hc := faultIn_mem l (fault_two hf).1 c i hi
 obtain ⟨ho, _, _, hcc, _, _⟩ := chk_parts i hc
 obtain ⟨pa, pb, pc, pj⟩ := (plain_parts hp).2 i (List.mem_of_getElem? hi)
 rcases tri_cases hj with ⟨h1, ⟨rfl, rfl⟩ | ⟨rfl, rfl⟩ | ⟨rfl, rfl⟩⟩ | ⟨h1, h2, rfl, rfl⟩ | ⟨h1, h2, rfl, rfl⟩
 ·have hn : nextB (madeL l) (place l c) = true := by
   unfold nextB
   rw [made_at hi 1 (by unfold wid; rw [h1]; decide)]
   unfold tri
   rw [h1]
   rfl
  unfold okI destB
  simp [inB, orBaseB, jumpsB, hn]
 ·unfold okI destB
  simp [inB, orBaseB, jumpsB]
 ·simp only [ldst, Bool.or_eq_true, decide_eq_true_eq] at h1
  have hd : destB (madeL l) (place l c + 2) ⟨i.op, i.a, 4, i.c⟩ = true := by
   unfold destB
   split
   ·rw [if_neg (by dsimp only; omega), if_neg (by dsimp only; omega)]
   ·rfl
  unfold okI
  rw [if_pos hd, if_neg]
  rintro (⟨_, h⟩ | ⟨h, _⟩)
  ·exact h rfl
  ·simp only [jumpsB, Bool.or_eq_true, decide_eq_true_eq] at h
   omega
 ·have hlt := jump_in hp (List.mem_of_getElem? hi) hcc.1 h2
  simp only [jumpsB, Bool.or_eq_true, decide_eq_true_eq] at h2
  have hd : destB (madeL l) (place l c + 0) ⟨i.op, i.a, i.b, place l i.c.toNat⟩ = true := by
   unfold destB
   rw [if_neg (by simp [inB]; omega)]
  unfold okI
  rw [if_pos hd, if_neg]
  rintro (⟨h, _⟩ | ⟨_, h⟩)
  ·dsimp only at h; omega
  ·dsimp only at h; omega
 ·have hd : destB (madeL l) (place l c + 0) y = true := by
   unfold destB
   split
   ·rw [if_neg (by omega), if_neg (by omega)]
   ·rfl
  unfold okI
  rw [if_pos hd, if_neg]
  rintro (⟨h, _⟩ | ⟨h, _⟩)
  ·simp [ldst] at h1
   omega
  ·rw [h2] at h
   cases h
theorem made_safe {l : List Ins} (hf : fault l = 0) (hp : plainB l = true) (hl : (madeL l).length ≤ 200) : safeT (madeL l) = 0 := by
 unfold safeT
 rw [if_pos (made_fault hf hp hl), if_pos]
 simp only [Bool.and_eq_true]
 refine ⟨made_last hp, List.all_eq_true.2 fun k hk => ?_⟩
 unfold okAt
 split
 ·exact made_ok hf hp (by assumption)
 ·rfl
end Go.Proofs.YtnnhhbjbdmgpiaaGreatDoor.Cf
