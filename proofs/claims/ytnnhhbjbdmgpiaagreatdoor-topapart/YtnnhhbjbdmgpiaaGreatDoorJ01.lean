/- Texts of the proofs: KernH, CpuL, MadeP, SafeE, FileP. -/
import Derived.Test.YtnnhhbjbdmgpiaaGreatDoorJ00
set_option linter.unusedSimpArgs false
set_option linter.unusedVariables false
/- Plain mathematics of chapter 5: what is valid remains valid after every action. No Go in it. -/
namespace Go.Proofs.YtnnhhbjbdmgpiaaGreatDoor.Cf
set_option maxRecDepth 100000
theorem has_iff {ps : List Proc} {kind node : Int} : hasB ps kind node = true ↔ ∃ p ∈ ps, ∃ e ∈ p.ends, e.kind = kind ∧ e.node = node := by
 simp [hasB, holdsB, endOf, List.any_eq_true]
theorem mapIdx_at {α β : Type} (f : Nat → α → β) (l : List α) (i : Nat) : (l.mapIdx f)[i]? = (l[i]?).map (f i) := List.getElem?_mapIdx
theorem tidyN_or (ps : List Proc) (i : Nat) (n : Node) : tidyN ps i n = n ∧ (n.name ≠ [] ∨ hasB ps 1 i = true) ∨ tidyN ps i n = noNode ∧ n.name = [] ∧ hasB ps 1 i = false := by
 unfold tidyN
 split
 ·rename_i h
  exact .inr ⟨rfl, h⟩
 ·rename_i h
  refine .inl ⟨rfl, ?_⟩
  cases hh : hasB ps 1 i
  ·exact .inl fun h0 => h ⟨h0, hh⟩
  ·exact .inr rfl
theorem noNode_ok (m : Nat) : NodeOk m noNode := ⟨.inl ⟨rfl, rfl⟩⟩
theorem full_tidy {ps : List Proc} {ns : List Node} {p : Proc} (hp : p ∈ ps) {e : End} (he : e ∈ p.ends) (hk : e.kind = 1) (h0 : 0 ≤ e.node) (hf : fullAt ns e.node = true) : fullAt (ns.mapIdx (tidyN ps)) e.node = true := by
 unfold fullAt at hf ⊢
 rw [mapIdx_at]
 cases hn : ns[e.node.toNat]? with
 | none => rw [hn] at hf; exact hf
 | some n =>
   rw [hn] at hf
   have hh : hasB ps 1 (e.node.toNat : Int) = true := has_iff.2 ⟨p, hp, e, he, hk, by omega⟩
   rcases tidyN_or ps e.node.toNat n with ⟨h1, _⟩ | ⟨_, _, h2⟩
   ·simp only [Option.map_some, h1]
    exact hf
   ·rw [hh] at h2
    cases h2
theorem Pre.tidy {k : Kern} (h : Pre k) : Good (tidyT k) := by
 have hnode : ∀ (i : Nat) (n' : Node), (k.nodes.mapIdx (tidyN k.procs))[i]? = some n' → ∃ n, k.nodes[i]? = some n ∧ n' = tidyN k.procs i n := by
  intro i n' hi
  rw [mapIdx_at] at hi
  cases hn : k.nodes[i]? with
  | none => rw [hn] at hi; cases hi
  | some n =>
    rw [hn] at hi
    simp at hi
    exact ⟨n, rfl, hi.symm⟩
 have hpipe : ∀ (i : Nat) (s' : List UInt8), (k.pipes.mapIdx (tidyP k.procs))[i]? = some s' → ∃ s, k.pipes[i]? = some s ∧ s' = tidyP k.procs i s := by
  intro i n' hi
  rw [mapIdx_at] at hi
  cases hn : k.pipes[i]? with
  | none => rw [hn] at hi; cases hi
  | some n =>
    rw [hn] at hi
    simp at hi
    exact ⟨n, rfl, hi.symm⟩
 have hor : ∀ (i : Nat) (n' : Node), (k.nodes.mapIdx (tidyN k.procs))[i]? = some n' → n' = noNode ∨ (k.nodes[i]? = some n' ∧ (n'.name ≠ [] ∨ hasB k.procs 1 i = true)) := by
  intro i n' hi
  obtain ⟨n, hn, rfl⟩ := hnode i n' hi
  rcases tidyN_or k.procs i n with ⟨h1, h2⟩ | ⟨h1, _⟩
  ·rw [h1]
   exact .inr ⟨hn, h2⟩
  ·exact .inl h1
 refine ⟨⟨h.modsL, h.mod, h.modU, h.memL, h.memW, ?_, ?_, ?_, ?_, ?_, ?_, h.procsL, h.ends, ?_, h.dead⟩, ?_, ?_⟩
 ·show (k.nodes.mapIdx (tidyN k.procs)).length = 8
  rw [List.length_mapIdx]
  exact h.nodesL
 ·intro n' hn'
  obtain ⟨i, hi⟩ := List.mem_iff_getElem?.1 hn'
  rcases hor i n' hi with rfl | ⟨hn, _⟩
  ·exact noNode_ok _
  ·exact h.node n' (List.mem_of_getElem? hn)
 ·intro n' hn' hne
  obtain ⟨i, hi⟩ := List.mem_iff_getElem?.1 hn'
  rcases hor i n' hi with rfl | ⟨hn, _⟩
  ·exact absurd rfl hne
  ·exact h.name n' (List.mem_of_getElem? hn) hne
 ·intro i j a b ha hb hab hne
  rcases hor i a ha with rfl | ⟨hn, _⟩
  ·exact absurd rfl hne
  ·rcases hor j b hb with rfl | ⟨hm, _⟩
   ·exact absurd hab hne
   ·exact h.uniq i j a b hn hm hab hne
 ·show (k.pipes.mapIdx (tidyP k.procs)).length = 6
  rw [List.length_mapIdx]
  exact h.pipesL
 ·intro s' hs'
  obtain ⟨i, hi⟩ := List.mem_iff_getElem?.1 hs'
  obtain ⟨s, hs, rfl⟩ := hpipe i s' hi
  unfold tidyP
  split
  ·simp
  ·exact h.pipe s (List.mem_of_getElem? hs)
 ·intro p hp e he
  rcases (h.ende p hp e he).kinds with h1 | ⟨h1, h2, h3, h4, h5⟩ | h1
  ·exact ⟨.inl h1⟩
  ·refine ⟨.inr (.inl ⟨h1, h2, ?_, full_tidy hp he h1 h2 h4, h5⟩)⟩
   show e.node < ((k.nodes.mapIdx (tidyN k.procs)).length : Nat)
   rw [List.length_mapIdx]
   exact h3
  ·exact ⟨.inr (.inr h1)⟩
 ·intro i n' hi hk hne
  rcases hor i n' hi with rfl | ⟨_, h2⟩
  ·exact absurd rfl hk
  ·rcases h2 with h2 | h2
   ·exact absurd hne h2
   ·exact h2
 ·intro i s' hi hne
  obtain ⟨s, hs, rfl⟩ := hpipe i s' hi
  unfold tidyP at hne
  split at hne
  ·exact absurd rfl hne
  ·rename_i hh
   show hasB k.procs 2 i = true
   simpa using hh
theorem set_mem {α : Type} {l : List α} {i : Nat} {x y : α} (h : y ∈ l.set i x) : y ∈ l ∨ y = x := List.mem_or_eq_of_mem_set h
theorem set_at {α : Type} {l : List α} {i j : Nat} {x y : α} (h : (l.set i x)[j]? = some y) : (i ≠ j ∧ l[j]? = some y) ∨ (i = j ∧ i < l.length ∧ y = x) := by
 rw [List.getElem?_set] at h
 split at h
 ·rename_i hij
  split at h
  ·rename_i hl
   exact .inr ⟨hij, hl, (Option.some.inj h).symm⟩
  ·cases h
 ·rename_i hij
  exact .inl ⟨hij, h⟩
theorem full_set {ns : List Node} {i : Nat} {n : Node} (hn : n.kind ≠ 0) {x : Int} (h : fullAt ns x = true) : fullAt (ns.set i n) x = true := by
 unfold fullAt at h ⊢
 rw [List.getElem?_set]
 by_cases hij : i = x.toNat
 ·rw [if_pos hij]
  by_cases hl : i < ns.length
  ·rw [if_pos hl]
   simp [emptyB, hn]
  ·rw [List.getElem?_eq_none (by omega)] at h
   cases h
 ·rw [if_neg hij]
  exact h
theorem Pre.setNode {k : Kern} (h : Pre k) {i : Nat} {n : Node} (hk : n.kind ≠ 0) (hok : NodeOk k.mods.length n) (hname : n.name ≠ [] → nameB n.name = true) (hu : n.name ≠ [] → ∀ (j : Nat) (b : Node), k.nodes[j]? = some b → b.name = n.name → j = i) : Pre (setNode k i n) := by
 refine ⟨h.modsL, h.mod, h.modU, h.memL, h.memW, ?_, ?_, ?_, ?_, h.pipesL, h.pipe, h.procsL, h.ends, ?_, h.dead⟩
 ·show (k.nodes.set i n).length = 8
  rw [List.length_set]
  exact h.nodesL
 ·intro m hm
  rcases set_mem hm with hm | rfl
  ·exact h.node m hm
  ·exact hok
 ·intro m hm hne
  rcases set_mem hm with hm | rfl
  ·exact h.name m hm hne
  ·exact hname hne
 ·intro x y a b ha hb hab hne
  rcases set_at ha with ⟨h1, ha⟩ | ⟨h1, h2, rfl⟩
  ·rcases set_at hb with ⟨h3, hb⟩ | ⟨h3, _, rfl⟩
   ·exact h.uniq x y a b ha hb hab hne
   ·exact absurd (hu (fun h0 => hne (hab.trans h0)) x a (by assumption) hab).symm h1
  ·rcases set_at hb with ⟨h3, hb⟩ | ⟨h3, _, rfl⟩
   ·exact absurd (hu hne y b hb hab.symm).symm h3
   ·exact h1.symm.trans h3
 ·intro p hp e he
  rcases (h.ende p hp e he).kinds with h1 | ⟨h1, h2, h3, h4, h5⟩ | h1
  ·exact ⟨.inl h1⟩
  ·refine ⟨.inr (.inl ⟨h1, h2, ?_, full_set hk h4, h5⟩)⟩
   show e.node < ((k.nodes.set i n).length : Nat)
   rw [List.length_set]
   exact h3
  ·exact ⟨.inr (.inr h1)⟩
theorem Pre.setProc {k : Kern} (h : Pre k) {i : Nat} {p : Proc} (hl : p.ends.length = 6) (he : ∀ e ∈ p.ends, EndOk k.nodes e) (hd : p.live = false → ∀ e ∈ p.ends, e = noEnd) : Pre (setProc k i p) := by
 refine ⟨h.modsL, h.mod, h.modU, h.memL, h.memW, h.nodesL, h.node, h.name, h.uniq, h.pipesL, h.pipe, ?_, ?_, ?_, ?_⟩
 ·show (k.procs.set i p).length = 4
  rw [List.length_set]
  exact h.procsL
 ·intro q hq
  rcases set_mem hq with hq | rfl
  ·exact h.ends q hq
  ·exact hl
 ·intro q hq
  rcases set_mem hq with hq | rfl
  ·exact h.ende q hq
  ·exact he
 ·intro q hq
  rcases set_mem hq with hq | rfl
  ·exact h.dead q hq
  ·exact hd
theorem Pre.at_ {k : Kern} (h : Pre k) {i : Nat} (hi : i < 4) : k.procs[i]? = some (procAt k i) := by
 have hl : i < k.procs.length := by rw [h.procsL]; exact hi
 rw [procAt, List.getD_eq_getElem?_getD, List.getElem?_eq_getElem hl]
 rfl
theorem Pre.mem_ {k : Kern} (h : Pre k) {i : Nat} (hi : i < 4) : procAt k i ∈ k.procs := List.mem_of_getElem? (h.at_ hi)
theorem Pre.end_ {k : Kern} (h : Pre k) {i j : Nat} (hi : i < 4) (hj : j < 6) : (procAt k i).ends[j]? = some (endAt k i j) := by
 have hl : j < (procAt k i).ends.length := by rw [h.ends _ (h.mem_ hi)]; exact hj
 rw [endAt, List.getD_eq_getElem?_getD, List.getElem?_eq_getElem hl]
 rfl
theorem Pre.endM {k : Kern} (h : Pre k) {i j : Nat} (hi : i < 4) (hj : j < 6) : endAt k i j ∈ (procAt k i).ends := List.mem_of_getElem? (h.end_ hi hj)
theorem Pre.setEnd {k : Kern} (h : Pre k) {i j : Nat} {e : End} (hi : i < 4) (he : EndOk k.nodes e) (hd : (procAt k i).live = false → e = noEnd) : Pre (setEnd k i j e) := by
 refine Pre.setProc h ?_ ?_ ?_
 ·show ((procAt k i).ends.set j e).length = 6
  rw [List.length_set]
  exact h.ends _ (h.mem_ hi)
 ·intro x hx
  rcases set_mem hx with hx | rfl
  ·exact h.ende _ (h.mem_ hi) x hx
  ·exact he
 ·intro hl x hx
  rcases set_mem hx with hx | rfl
  ·exact h.dead _ (h.mem_ hi) hl x hx
  ·exact hd hl
theorem has_set {ps : List Proc} {i : Nat} {p q : Proc} (hp : ps[i]? = some p) {kind node : Int} (h : holdsB kind node p = true → holdsB kind node q = true) (hh : hasB ps kind node = true) : hasB (ps.set i q) kind node = true := by
 unfold hasB at hh ⊢
 rw [List.any_eq_true] at hh ⊢
 obtain ⟨x, hx, hb⟩ := hh
 obtain ⟨j, hj⟩ := List.mem_iff_getElem?.1 hx
 by_cases hij : i = j
 ·subst hij
  obtain rfl := Option.some.inj (hp.symm.trans hj)
  exact ⟨q, List.mem_of_getElem? (i := i) (by rw [List.getElem?_set, if_pos rfl, if_pos (List.getElem?_eq_some_iff.1 hp).1]), h hb⟩
 ·exact ⟨x, List.mem_of_getElem? (i := j) (by rw [List.getElem?_set, if_neg hij]; exact hj), hb⟩
theorem holds_set {p : Proc} {j : Nat} {e0 e : End} (h0 : p.ends[j]? = some e0) {kind node : Int} (he : e0.kind = kind → e0.node = node → e.kind = kind ∧ e.node = node) (hh : holdsB kind node p = true) : holdsB kind node ⟨p.live, p.ends.set j e⟩ = true := by
 unfold holdsB at hh ⊢
 rw [List.any_eq_true] at hh ⊢
 obtain ⟨x, hx, hb⟩ := hh
 simp only [endOf, Bool.and_eq_true, decide_eq_true_eq] at hb
 obtain ⟨i, hi⟩ := List.mem_iff_getElem?.1 hx
 by_cases hij : j = i
 ·subst hij
  obtain rfl := Option.some.inj (h0.symm.trans hi)
  obtain ⟨h1, h2⟩ := he hb.1 hb.2
  exact ⟨e, List.mem_of_getElem? (i := j) (by rw [List.getElem?_set, if_pos rfl, if_pos (List.getElem?_eq_some_iff.1 h0).1]), by simp [endOf, h1, h2]⟩
 ·exact ⟨x, List.mem_of_getElem? (i := i) (by rw [List.getElem?_set, if_neg hij]; exact hi), by simp [endOf, hb]⟩
theorem Good.setEnd {k : Kern} (h : Good k) {i j : Nat} {e : End} (hi : i < 4) (hj : j < 6) (he : EndOk k.nodes e) (hd : (procAt k i).live = false → e = noEnd) (h0 : (endAt k i j).kind = 0 ∨ (endAt k i j).kind = e.kind ∧ (endAt k i j).node = e.node) : Good (setEnd k i j e) := by
 have key : ∀ kind node : Int, kind ≠ 0 → hasB k.procs kind node = true → hasB (Cf.setEnd k i j e).procs kind node = true := by
  intro kind node hk
  refine has_set (h.at_ hi) (holds_set (h.end_ hi hj) fun h1 h2 => ?_)
  rcases h0 with h0 | h0
  ·exact absurd (h1.symm.trans h0) hk
  ·exact ⟨h0.1 ▸ h1, h0.2 ▸ h2⟩
 exact ⟨h.toPre.setEnd hi he hd, fun a n hn hk he => key _ _ (by decide) (h.open_ a n hn hk he), fun a s hs hne => key _ _ (by decide) (h.reader a s hs hne)⟩
theorem full_some {ns : List Node} {i : Nat} {n : Node} (h : ns[i]? = some n) (hk : n.kind ≠ 0) : fullAt ns i = true := by
 unfold fullAt
 rw [Int.toNat_natCast, h]
 simp [emptyB, hk]
theorem Pre.named {k : Kern} (h : Pre k) {n : Node} (hn : n ∈ k.nodes) (hne : n.name ≠ []) : n.kind ≠ 0 := by
 intro h0
 rcases (h.node n hn).kinds with h1 | h1 | h1
 ·exact hne (by rw [h1.2]; rfl)
 ·omega
 ·omega
theorem dec_mod (s : List UInt8) (h : (decT s).err = 0) : modT (decT s).mod = 0 := by
 have h0 : ∀ d : GotM, d = decT s → d.err = 0 → modT d.mod = 0 := by
  intro d hd
  unfold decT at hd
  split at hd
  ·subst hd; intro h; simp at h
  ·split at hd
   ·subst hd; intro h; simp at h
   ·split at hd
    ·subst hd; intro h; simp at h
    ·split at hd
     ·subst hd; intro h; simp at h
     ·subst hd; intro h; simp at h
     ·split at hd
      ·rename_i hm
       subst hd
       intro _
       exact hm
      ·rename_i hm
       subst hd
       intro h
       exact absurd h hm
 exact h0 _ rfl h
theorem modE_app {l : List Mod} {m : Mod} {i : Nat} (h : i < l.length) : modE (l ++ [m]) i = modE l i := by
 unfold modE
 rw [List.getElem?_append_left h, List.take_append_of_le_length (by omega)]
theorem modsE_app {l : List Mod} {m : Mod} (h : modsE l = 0) (hm : modT m = 0) (hu : l.any (modIs m.name) = false) : modsE (l ++ [m]) = 0 := by
 unfold modsE at h ⊢
 refine first_all fun j hj => ?_
 rw [List.length_append] at hj
 simp at hj
 rcases Nat.lt_or_ge j l.length with h1 | h1
 ·rw [modE_app h1]
  exact first_zero h j h1
 ·obtain rfl : j = l.length := by omega
  unfold modE
  rw [List.getElem?_append_right (Nat.le_refl _), List.take_append_of_le_length (Nat.le_refl _), List.take_length]
  simp [hm, hu]
theorem lay_len {mem data : List Int} {n : Nat} (hm : n + 64 ≤ mem.length) (hd : data.length ≤ 64) : (layT mem data n).length = mem.length := by
 unfold layT
 simp
 omega
theorem lay_word {mem data : List Int} {n : Nat} (hm : ∀ v ∈ mem, 0 ≤ v ∧ v ≤ 65535) (hd : ∀ v ∈ data, 0 ≤ v ∧ v ≤ 65535) : ∀ v ∈ layT mem data n, 0 ≤ v ∧ v ≤ 65535 := by
 intro v hv
 unfold layT at hv
 simp only [List.mem_append] at hv
 rcases hv with (h | h | h) | h
 ·exact hm v (List.mem_of_mem_take h)
 ·exact hd v h
 ·rw [List.eq_of_mem_replicate h]; decide
 ·exact hm v (List.mem_of_mem_drop h)
theorem NodeOk.more {a b : Nat} {n : Node} (h : NodeOk a n) (hab : a ≤ b) : NodeOk b n := by
 rcases h.kinds with h | h | h
 ·exact ⟨.inl h⟩
 ·exact ⟨.inr (.inl h)⟩
 ·exact ⟨.inr (.inr ⟨h.1, h.2.1, h.2.2.1, by have := h.2.2.2; omega⟩)⟩
theorem Good.install {k : Kern} (h : Good k) (s : List UInt8) : Good (installT k s).kern := by
 unfold installT
 split
 ·exact h
 ·rename_i h0
  split
  ·exact h
  ·rename_i h1
   split
   ·exact h
   ·rename_i h2
    have hm := dec_mod s (by simpa using h0)
    obtain ⟨_, hd, hw, _⟩ := mod_parts hm
    have h8 := h.modsL
    have hL := h.memL
    refine ⟨⟨?_, ?_, modsE_app h.modU hm (by simpa using h1), ?_, lay_word h.memW hw, h.nodesL, fun n hn => (h.node n hn).more ?_, h.name, h.uniq, h.pipesL, h.pipe, h.procsL, h.ends, h.ende, h.dead⟩, h.open_, h.reader⟩
    ·show (k.mods ++ [(decT s).mod]).length ≤ 8
     simp
     omega
    ·intro m hmm
     rcases List.mem_append.1 hmm with h3 | h3
     ·exact h.mod m h3
     ·rw [List.mem_singleton.1 h3]
      exact hm
    ·show (layT k.mem (decT s).mod.data (64 * k.mods.length)).length = 1024
     rw [lay_len (by omega) hd, hL]
    ·show k.mods.length ≤ (k.mods ++ [(decT s).mod]).length
     simp
theorem Good.add {k : Kern} (h : Good k) {f : Node} (hf : f.kind = 1 ∧ f.unit = 0 ∧ f.data = [] ∨ f.kind = 2 ∧ f.data = []) : Good (addT k f).kern := by
 unfold addT
 split
 ·exact h
 ·rename_i h0
  split
  ·exact h
  ·rename_i h1
   split
   ·exact h
   ·rename_i h2
    split
    ·exact h
    ·rename_i h3
     have hnm : nameB f.name = true := by simpa using h0
     have hno : k.nodes.any (namedB f.name) = false := by
      rw [← idx_neg]
      omega
     rcases idx_cases emptyB k.nodes with ⟨_, he⟩ | ⟨i, x, hi, hx, hb, _⟩
     ·omega
     ·rw [hi, Int.toNat_natCast]
      have hk0 : f.kind ≠ 0 := by omega
      have hx0 : x = noNode := by
       have : x.kind = 0 := by simpa [emptyB] using hb
       rcases (h.node x (List.mem_of_getElem? hx)).kinds with h4 | h4 | h4
       ·exact h4.2
       ·omega
       ·omega
      refine ⟨h.toPre.setNode hk0 ?_ (fun _ => hnm) ?_, ?_, h.reader⟩
      ·rcases hf with ⟨h4, h5, h6⟩ | ⟨h4, h6⟩
       ·exact ⟨.inr (.inl ⟨h4, h5, by rw [h6]; simp⟩)⟩
       ·refine ⟨.inr (.inr ⟨h4, h6, ?_⟩)⟩
        have : withinB f.unit k.mods.length = true := by
         cases hw : withinB f.unit k.mods.length
         ·exact absurd ⟨h4, hw⟩ h2
         ·rfl
        exact within_iff.1 this
      ·intro hne j b hb hbn
       have := List.any_eq_false.1 hno b (List.mem_of_getElem? hb)
       simp [namedB, hbn, hne] at this
      ·intro j n hn hk hne
       rcases set_at hn with ⟨_, hn⟩ | ⟨_, _, rfl⟩
       ·exact h.open_ j n hn hk hne
       ·rw [hne] at hnm
        cases hnm
theorem Good.unlink {k : Kern} (h : Good k) (name : List UInt8) : Good (unlinkT k name).kern := by
 unfold unlinkT
 split
 ·exact h
 ·rename_i h0
  rcases idx_cases (namedB name) k.nodes with ⟨_, he⟩ | ⟨i, x, hi, hx, hb, _⟩
  ·omega
  ·obtain ⟨h1, h2⟩ := named_iff.1 hb
   rw [hi, Int.toNat_natCast]
   have hn : nodeAt k i = x := by
    rw [nodeAt, List.getD_eq_getElem?_getD, hx]
    rfl
   rw [hn]
   have hk := h.toPre.named (List.mem_of_getElem? hx) (h1 ▸ h2)
   refine Pre.tidy (h.toPre.setNode hk ?_ (fun h => absurd rfl h) (fun h => absurd rfl h))
   rcases (h.node x (List.mem_of_getElem? hx)).kinds with h4 | h4 | h4
   ·exact absurd h4.1 hk
   ·exact ⟨.inr (.inl h4)⟩
   ·exact ⟨.inr (.inr h4)⟩
theorem Pre.free {k : Kern} (h : Pre k) {p : Nat} (hp : p < 4) (h0 : ¬ idxT freeB (procAt k p).ends < 0) : ∃ i : Nat, idxT freeB (procAt k p).ends = i ∧ i < 6 ∧ (endAt k p i).kind = 0 := by
 rcases idx_cases freeB (procAt k p).ends with ⟨_, he⟩ | ⟨i, x, hi, hx, hb, _⟩
 ·omega
 ·have hl : i < 6 := by
   rw [← h.ends _ (h.mem_ hp)]
   exact (List.getElem?_eq_some_iff.1 hx).1
  refine ⟨i, hi, hl, ?_⟩
  rw [← Option.some.inj (hx.symm.trans (h.end_ hp hl))]
  simpa [freeB] using hb
theorem Good.opens {k : Kern} (h : Good k) {p : Nat} (hp : p < 4) (hl : (procAt k p).live = true) (name : List UInt8) : Good (openT k p name).kern := by
 unfold openT
 split
 ·exact h
 ·split
  ·exact h
  ·rename_i h0
   split
   ·exact h
   ·rename_i h1
    obtain ⟨i, hi, hi6, hk⟩ := h.toPre.free hp h1
    rcases idx_cases (namedB name) k.nodes with ⟨_, he⟩ | ⟨j, x, hj, hx, hb, _⟩
    ·omega
    ·obtain ⟨h2, h3⟩ := named_iff.1 hb
     rw [hi, Int.toNat_natCast, hj]
     have hjl := (List.getElem?_eq_some_iff.1 hx).1
     refine h.setEnd hp hi6 ⟨.inr (.inl ⟨rfl, ?_, ?_, ?_, ?_⟩)⟩ (fun h => by rw [hl] at h; cases h) (.inl hk)
     ·show (0 : Int) ≤ j
      omega
     ·show (j : Int) < (k.nodes.length : Nat)
      omega
     ·exact full_some hx (h.toPre.named (List.mem_of_getElem? hx) (h2 ▸ h3))
     ·show (0 : Int) ≤ 0 ∧ (0 : Int) ≤ 100
      omega
theorem end_other {k : Kern} (h : Pre k) {p i j : Nat} {e : End} (hp : p < 4) (hij : i ≠ j) : endAt (setEnd k p i e) p j = endAt k p j := by
 have h1 : procAt (setEnd k p i e) p = ⟨(procAt k p).live, (procAt k p).ends.set i e⟩ := by
  show (k.procs.set p ⟨(procAt k p).live, (procAt k p).ends.set i e⟩).getD p noProc = _
  rw [List.getD_eq_getElem?_getD, List.getElem?_set, if_pos rfl, if_pos (by rw [h.procsL]; exact hp)]
  rfl
 rw [endAt, h1]
 show ((procAt k p).ends.set i e).getD j noEnd = _
 rw [List.getD_eq_getElem?_getD, List.getElem?_set, if_neg hij, endAt, List.getD_eq_getElem?_getD]
theorem live_set {k : Kern} (h : Pre k) {p i : Nat} {e : End} (hp : p < 4) : (procAt (setEnd k p i e) p).live = (procAt k p).live := by
 show ((k.procs.set p ⟨(procAt k p).live, (procAt k p).ends.set i e⟩).getD p noProc).live = _
 rw [List.getD_eq_getElem?_getD, List.getElem?_set, if_pos rfl, if_pos (by rw [h.procsL]; exact hp)]
 rfl
theorem pipe_at {k : Kern} (h : ¬ pipeT' k < 0) : ∃ i : Nat, pipeT' k = i ∧ i < k.pipes.length ∧ noEnds k.procs i = true := by
 unfold pipeT' at h ⊢
 rcases idx_cases (noEnds k.procs) (List.range k.pipes.length) with ⟨_, he⟩ | ⟨i, x, hi, hx, hb, _⟩
 ·omega
 ·obtain ⟨h1, h2⟩ := List.getElem?_eq_some_iff.1 hx
  rw [List.getElem_range] at h2
  subst h2
  rw [List.length_range] at h1
  exact ⟨i, hi, h1, hb⟩
theorem Good.pipes_ {k : Kern} (h : Good k) {p : Nat} (hp : p < 4) (hl : (procAt k p).live = true) : Good (pipeT k p).kern := by
 unfold pipeT
 split
 ·exact h
 ·rename_i h0
  split
  ·exact h
  ·rename_i h1
   rw [_root_.not_or] at h0
   obtain ⟨i, hi, hi6, hk⟩ := h.toPre.free hp h0.2
   obtain ⟨n, hn, hn6, _⟩ := pipe_at h0.1
   rw [h.pipesL] at hn6
   rw [hi, Int.toNat_natCast] at h1 ⊢
   rcases idx_cases freeB ((procAt k p).ends.drop (i + 1)) with ⟨_, he⟩ | ⟨j, x, hj, hx, hb, _⟩
   ·omega
   ·rw [hj, Int.toNat_natCast, hn]
    rw [List.getElem?_drop] at hx
    have hl6 : i + 1 + j < 6 := by
     rw [← h.ends _ (h.toPre.mem_ hp)]
     exact (List.getElem?_eq_some_iff.1 hx).1
    have hxk : (endAt k p (i + 1 + j)).kind = 0 := by
     rw [← Option.some.inj (hx.symm.trans (h.toPre.end_ hp hl6))]
     simpa [freeB] using hb
    have hok : ∀ kd : Int, kd = 2 ∨ kd = 3 → ∀ ns, EndOk ns ⟨kd, n, 0⟩ := fun kd hkd ns => ⟨.inr (.inr ⟨hkd, by show (0 : Int) ≤ n; omega, by show (n : Int) < 6; omega, rfl⟩)⟩
    have hg := h.setEnd (e := ⟨2, n, 0⟩) hp hi6 (hok 2 (.inl rfl) _) (fun h => by rw [hl] at h; cases h) (.inl hk)
    refine hg.setEnd hp hl6 (hok 3 (.inr rfl) _) (fun h' => ?_) (.inl ?_)
    ·rw [live_set h.toPre hp, hl] at h'
     cases h'
    ·rw [end_other h.toPre hp (by omega)]
     exact hxk
theorem Good.fork {k : Kern} (h : Good k) {p : Nat} (hp : p < 4) : Good (forkT k p).kern := by
 unfold forkT
 split
 ·exact h
 ·rename_i h0
  rcases idx_cases deadB k.procs with ⟨_, he⟩ | ⟨i, x, hi, hx, hb, _⟩
  ·omega
  ·rw [hi, Int.toNat_natCast]
   have hd : x.live = false := by simpa [deadB] using hb
   have key : ∀ kind node : Int, kind ≠ 0 → hasB k.procs kind node = true → hasB (Cf.setProc k i ⟨true, (procAt k p).ends⟩).procs kind node = true := by
    intro kind node hk
    refine has_set hx fun hh => ?_
    exfalso
    unfold holdsB at hh
    rw [List.any_eq_true] at hh
    obtain ⟨e, he, hb⟩ := hh
    rw [h.dead x (List.mem_of_getElem? hx) hd e he] at hb
    simp only [endOf, noEnd, Bool.and_eq_true] at hb
    exact hk (of_decide_eq_true hb.1).symm
   refine ⟨h.toPre.setProc (h.ends (procAt k p) (h.toPre.mem_ hp)) (h.ende (procAt k p) (h.toPre.mem_ hp)) (fun h => by cases h), fun a n hn hk he => key _ _ (by decide) (h.open_ a n hn hk he), fun a s hs hne => key _ _ (by decide) (h.reader a s hs hne)⟩
theorem Good.exit {k : Kern} (h : Good k) {p : Nat} (hp : p < 4) : Good (exitT k p).kern := by
 have hm : ∀ e ∈ (procAt k p).ends.map (fun _ => noEnd), e = noEnd := by
  intro e he
  obtain ⟨_, _, rfl⟩ := List.mem_map.1 he
  rfl
 refine Pre.tidy (h.toPre.setProc ?_ (fun e he => ⟨.inl (hm e he)⟩) (fun _ => hm))
 show ((procAt k p).ends.map (fun _ => noEnd)).length = 6
 rw [List.length_map]
 exact h.ends _ (h.toPre.mem_ hp)
theorem Good.close {k : Kern} (h : Good k) {p i : Nat} (hp : p < 4) : Good (closeT k p i).kern := Pre.tidy (h.toPre.setEnd hp ⟨.inl rfl⟩ (fun _ => rfl))
theorem runM_words {l : List Ins} (hf : fault l = 0) : ∀ (n : Nat) (m : Mach), MOk m → (∀ v ∈ (runM l n m).2.mem, 0 ≤ v ∧ v ≤ 65535) ∧ (runM l n m).2.mem.length = m.mem.length ∧ MOk (runM l n m).2 := by
 have hz : faultIn l = 0 := by have := hf; unfold fault at this; rwa [if_neg (by have := fault_len l hf; omega)] at this
 have hlen : ∀ (x : Ins) (m : Mach), (∀ m', exec x m = .on m' → m'.mem.length = m.mem.length) ∧ (∀ e m', exec x m = .fin e m' → m'.mem = m.mem ∧ m'.regs = m.regs ∧ m'.told = m.told ∧ m'.back = m.back ∧ m'.pc = m.pc) := by
  intro x m
  constructor
  ·intro m' h
   unfold exec at h
   repeat' split at h
   all_goals first | (injection h with h; subst h; first | rfl | simp) | (simp at h)
  ·intro e m' h
   unfold exec at h
   repeat' split at h
   all_goals first | (injection h with _ h; subst h; exact ⟨rfl, rfl, rfl, rfl, rfl⟩) | (simp at h)
 intro n
 induction n with
 | zero => intro m hm; exact ⟨hm.mem, rfl, hm⟩
 | succ n ih =>
   intro m hm
   rw [runM]
   cases hs : step l m with
   | on m' =>
     have h1 := ih m' (step_ok hz (fault_len l hf) hm hs)
     refine ⟨h1.1, h1.2.1.trans ?_, h1.2.2⟩
     unfold step at hs
     split at hs
     ·cases hs
     ·exact (hlen _ ⟨m.regs, m.mem, m.told, m.back, m.pc + 1⟩).1 m' hs
   | fin e m' =>
     unfold step at hs
     split at hs
     ·injection hs with _ hs
      subst hs
      exact ⟨hm.mem, rfl, hm⟩
     ·rename_i x hx
      obtain ⟨h1, h2, h3, h4, h5⟩ := (hlen _ _).2 e m' hs
      have hpc : m.pc < l.length := (List.getElem?_eq_some_iff.1 hx).1
      have hl2 := fault_len l hf
      refine ⟨by rw [h1]; exact hm.mem, by rw [h1], ?_⟩
      exact ⟨by rw [h2]; exact hm.regs, by rw [h2]; exact hm.words, by rw [h1]; exact hm.mem, by rw [h3]; exact hm.told, by rw [h3]; exact hm.toldW, by rw [h4]; exact hm.back, by rw [h4]; exact hm.backs, by rw [h5]; show m.pc + 1 ≤ 200; omega⟩
theorem runT_words {l : List Ins} {regs mem : List Int} {fuel : Int} (h8 : regs.length = 8) (he : (runT l regs mem fuel).err = 0) : (∀ v ∈ (runT l regs mem fuel).mem, 0 ≤ v ∧ v ≤ 65535) ∧ (runT l regs mem fuel).mem.length = mem.length ∧ (∀ v ∈ (runT l regs mem fuel).regs, 0 ≤ v ∧ v ≤ 65535) ∧ (runT l regs mem fuel).regs.length = 8 := by
 unfold runT at he ⊢
 split at he
 ·rename_i hf
  rw [if_pos hf]
  split at he
  ·rename_i hl
   rw [if_pos hl]
   split at he
   ·rename_i hw
    rw [if_pos hw]
    simp only [Bool.and_eq_true, List.all_eq_true] at hw
    have hm : MOk ⟨regs, mem, [], [], 0⟩ := ⟨h8, fun v hv => word_iff.1 (hw.2.1 v hv), fun v hv => word_iff.1 (hw.2.2 v hv), by simp, by simp, by simp, by simp, by simp⟩
    have h := runM_words hf fuel.toNat _ hm
    exact ⟨h.1, h.2.1, h.2.2.words, h.2.2.regs⟩
   ·simp [noOut] at he
  ·simp [noOut] at he
 ·rename_i hf
  exact absurd he hf
theorem ask_mem {k : Kern} (hL : k.mem.length = 1024) (hW : ∀ v ∈ k.mem, 0 ≤ v ∧ v ≤ 65535) (u : Nat) (x : Int) : (askT k u x).mem.length = 1024 ∧ (∀ v ∈ (askT k u x).mem, 0 ≤ v ∧ v ≤ 65535) ∧ 0 ≤ (askT k u x).word ∧ (askT k u x).word ≤ 65535 := by
 unfold askT
 split
 ·rename_i h
  obtain ⟨h1, h2, h3, _⟩ := runT_words (show (askR u x).length = 8 from rfl) h.1
  exact ⟨h2.trans hL, h1, getD_word h3 0⟩
 ·exact ⟨hL, hW, by show (0 : Int) ≤ 0; omega, by show (0 : Int) ≤ 65535; omega⟩
theorem Good.setMem {k : Kern} (h : Good k) {m : List Int} (hL : m.length = 1024) (hW : ∀ v ∈ m, 0 ≤ v ∧ v ≤ 65535) : Good (setMem k m) :=
 ⟨⟨h.modsL, h.mod, h.modU, hL, hW, h.nodesL, h.node, h.name, h.uniq, h.pipesL, h.pipe, h.procsL, h.ends, h.ende, h.dead⟩, h.open_, h.reader⟩
theorem feed_mem (u : Nat) : ∀ (s : List UInt8) (k : Kern), k.mem.length = 1024 → (∀ v ∈ k.mem, 0 ≤ v ∧ v ≤ 65535) → (feedT k u s).mem.length = 1024 ∧ ∀ v ∈ (feedT k u s).mem, 0 ≤ v ∧ v ≤ 65535
 | [], k, hL, hW => ⟨hL, hW⟩
 | b :: r, k, hL, hW => by
   rw [feedT]
   obtain ⟨h1, h2, _⟩ := ask_mem hL hW u b.toNat
   split
   ·exact feed_mem u r (Cf.setMem k (askT k u b.toNat).mem) h1 h2
   ·exact ⟨hL, hW⟩
theorem Good.setPipe {k : Kern} (h : Good k) {i : Nat} {s : List UInt8} (hs : s.length ≤ 20) (hr : s ≠ [] → hasB k.procs 2 i = true) : Good (setPipe k i s) := by
 refine ⟨⟨h.modsL, h.mod, h.modU, h.memL, h.memW, h.nodesL, h.node, h.name, h.uniq, ?_, ?_, h.procsL, h.ends, h.ende, h.dead⟩, h.open_, ?_⟩
 ·show (k.pipes.set i s).length = 6
  rw [List.length_set]
  exact h.pipesL
 ·intro t ht
  rcases set_mem ht with ht | rfl
  ·exact h.pipe t ht
  ·exact hs
 ·intro j t ht hne
  rcases set_at ht with ⟨_, ht⟩ | ⟨rfl, _, rfl⟩
  ·exact h.reader j t ht hne
  ·exact hr hne
theorem pipe_len {k : Kern} (h : Good k) (i : Nat) : (pipeAt k i).length ≤ 20 ∧ (pipeAt k i ≠ [] → hasB k.procs 2 i = true) := by
 rw [pipeAt, List.getD_eq_getElem?_getD]
 cases hi : k.pipes[i]? with
 | none => simp
 | some s => exact ⟨h.pipe s (List.mem_of_getElem? hi), h.reader i s hi⟩
theorem Good.readPipe {k : Kern} (h : Good k) (i size : Nat) : Good (readPipeT k i size).kern := by
 unfold readPipeT
 split
 ·exact h
 ·rename_i h0
  obtain ⟨h1, h2⟩ := pipe_len h i
  exact h.setPipe (by simp; omega) (fun _ => h2 h0)
theorem Good.writePipe {k : Kern} (h : Good k) (i : Nat) (s : List UInt8) : Good (writePipeT k i s).kern := by
 unfold writePipeT
 split
 ·exact h
 ·rename_i h0
  split
  ·exact h
  ·obtain ⟨h1, _⟩ := pipe_len h i
   exact h.setPipe (by simp; omega) (fun _ => by simpa using h0)
theorem Good.readFile {k : Kern} (h : Good k) {p n : Nat} (hp : p < 4) (hn : n < 6) (size : Nat) {data : List UInt8} (hd : data.length ≤ 100) (h1 : (endAt k p n).kind = 1) : Good (readFileT k p n size data (endAt k p n)).kern := by
 unfold readFileT
 split
 ·exact h
 ·rename_i h0
  have hlt : (endAt k p n).pos.toNat < data.length := by
   rcases Nat.lt_or_ge (endAt k p n).pos.toNat data.length with h2 | h2
   ·exact h2
   ·exact absurd (List.drop_eq_nil_of_le h2) h0
  have hok := h.ende _ (h.toPre.mem_ hp) _ (h.toPre.endM hp hn)
  rcases hok.kinds with h2 | ⟨_, h3, h4, h5, h6, h7⟩ | h2
  ·rw [h2] at h1; cases h1
  ·refine h.setEnd hp hn ⟨.inr (.inl ⟨h1, h3, h4, h5, ?_, ?_⟩)⟩ (fun hl => ?_) (.inr ⟨rfl, rfl⟩)
   ·show 0 ≤ (endAt k p n).pos + _
    omega
   ·show (endAt k p n).pos + _ ≤ 100
    simp
    omega
   ·have := h.dead _ (h.toPre.mem_ hp) hl _ (h.toPre.endM hp hn)
    rw [this] at h1
    cases h1
  ·omega
theorem Pre.nodeM {k : Kern} (h : Pre k) {i : Nat} (hi : i < 8) : k.nodes[i]? = some (nodeAt k i) := by
 have hl : i < k.nodes.length := by rw [h.nodesL]; exact hi
 rw [nodeAt, List.getD_eq_getElem?_getD, List.getElem?_eq_getElem hl]
 rfl
theorem over_len (d s : List UInt8) (pos : Nat) : (overT d s pos).length = max (pos + s.length) d.length := by
 unfold overT
 simp
 omega
theorem Good.writeFile {k : Kern} (h : Good k) {p n : Nat} (hp : p < 4) (hn : n < 6) (s : List UInt8) (h1 : (endAt k p n).kind = 1) (h2 : (nodeAt k (endAt k p n).node.toNat).kind ≠ 2) : Good (writeFileT k p n s (endAt k p n) (nodeAt k (endAt k p n).node.toNat)).kern := by
 unfold writeFileT
 split
 ·exact h
 ·rename_i h0
  have hlen : (s.take (100 - (endAt k p n).pos.toNat)).length ≤ 100 - (endAt k p n).pos.toNat := by simp; omega
  have hpos : 0 < (s.take (100 - (endAt k p n).pos.toNat)).length := List.length_pos_iff.2 h0
  generalize s.take (100 - (endAt k p n).pos.toNat) = t at *
  have hok := h.ende _ (h.toPre.mem_ hp) _ (h.toPre.endM hp hn)
  rcases hok.kinds with h2 | ⟨_, h3, h4, h5, h6, h7⟩ | h2
  ·rw [h2] at h1; cases h1
  ·rw [h.nodesL] at h4
   generalize hj : (endAt k p n).node.toNat = j at *
   have hj8 : j < 8 := by omega
   have hx := h.toPre.nodeM hj8
   have hk : (nodeAt k j).kind ≠ 0 := by
    unfold fullAt at h5
    rw [hj, hx] at h5
    simpa [emptyB] using h5
   have hok2 := h.node _ (List.mem_of_getElem? hx)
   have hk1 : (nodeAt k j).kind = 1 ∧ (nodeAt k j).unit = 0 ∧ (nodeAt k j).data.length ≤ 100 := by
    rcases hok2.kinds with h8 | h8 | h8
    ·exact absurd h8.1 hk
    ·exact h8
    ·exact absurd h8.1 h2
   have hg : Good (Cf.setNode k j ⟨(nodeAt k j).name, (nodeAt k j).kind, overT (nodeAt k j).data t (endAt k p n).pos.toNat, (nodeAt k j).unit⟩) := by
    refine ⟨h.toPre.setNode hk ⟨.inr (.inl ⟨hk1.1, hk1.2.1, ?_⟩)⟩ (fun hne => h.name (nodeAt k j) (List.mem_of_getElem? hx) hne) (fun hne b x hb hbn => h.uniq b j x _ hb hx hbn (by rw [hbn]; exact hne)), ?_, h.reader⟩
    ·show (overT (nodeAt k j).data t (endAt k p n).pos.toNat).length ≤ 100
     rw [over_len]
     omega
    ·intro a x hx' hkx hnx
     rcases set_at hx' with ⟨_, hx'⟩ | ⟨rfl, _, rfl⟩
     ·exact h.open_ a x hx' hkx hnx
     ·exact h.open_ j _ hx hk hnx
   have he : endAt (Cf.setNode k j ⟨(nodeAt k j).name, (nodeAt k j).kind, overT (nodeAt k j).data t (endAt k p n).pos.toNat, (nodeAt k j).unit⟩) p n = endAt k p n := rfl
   refine hg.setEnd hp hn ⟨.inr (.inl ⟨h1, h3, ?_, full_set (n := ⟨(nodeAt k j).name, (nodeAt k j).kind, overT (nodeAt k j).data t (endAt k p n).pos.toNat, (nodeAt k j).unit⟩) hk h5, ?_, ?_⟩)⟩ (fun hl => ?_) (.inr ⟨by rw [he], by rw [he]⟩)
   ·show (endAt k p n).node < ((k.nodes.set j _).length : Nat)
    rw [List.length_set, h.nodesL]
    omega
   ·show 0 ≤ (endAt k p n).pos + _
    omega
   ·show (endAt k p n).pos + (t.length : Int) ≤ 100
    omega
   ·have := h.dead _ (h.toPre.mem_ hp) hl _ (h.toPre.endM hp hn)
    rw [this] at h1
    cases h1
  ·omega
theorem Good.readDev {k : Kern} (h : Good k) (u : Nat) : Good (readDevT k u).kern := by
 unfold readDevT
 split
 ·obtain ⟨h1, h2, _⟩ := ask_mem h.memL h.memW u 256
  exact h.setMem h1 h2
 ·exact h
theorem Good.writeDev {k : Kern} (h : Good k) (u : Nat) (s : List UInt8) : Good (writeDevT k u s).kern := by
 unfold writeDevT
 split
 ·exact h
 ·obtain ⟨h1, h2⟩ := feed_mem u s k h.memL h.memW
  exact h.setMem h1 h2
theorem Good.kinds {k : Kern} (h : Good k) {p n : Nat} (hp : p < 4) (hn : n < 6) (h0 : (endAt k p n).kind ≠ 0) : (endAt k p n).kind = 1 ∧ 0 ≤ (endAt k p n).node ∧ (endAt k p n).node < 8 ∧ fullAt k.nodes (endAt k p n).node = true ∧ 0 ≤ (endAt k p n).pos ∧ (endAt k p n).pos ≤ 100 ∨ ((endAt k p n).kind = 2 ∨ (endAt k p n).kind = 3) ∧ 0 ≤ (endAt k p n).node ∧ (endAt k p n).node < 6 ∧ (endAt k p n).pos = 0 := by
 rcases (h.ende _ (h.toPre.mem_ hp) _ (h.toPre.endM hp hn)).kinds with h1 | h1 | h1
 ·rw [h1] at h0; exact absurd rfl h0
 ·rw [h.nodesL] at h1
  exact .inl h1
 ·exact .inr h1
theorem Good.nodeK {k : Kern} (h : Good k) {j : Int} (h0 : 0 ≤ j) (h8 : j < 8) (hf : fullAt k.nodes j = true) : (nodeAt k j.toNat).kind = 1 ∧ (nodeAt k j.toNat).unit = 0 ∧ (nodeAt k j.toNat).data.length ≤ 100 ∨ (nodeAt k j.toNat).kind = 2 ∧ (nodeAt k j.toNat).data = [] ∧ 0 ≤ (nodeAt k j.toNat).unit ∧ (nodeAt k j.toNat).unit < k.mods.length := by
 have hx := h.toPre.nodeM (i := j.toNat) (by omega)
 rcases (h.node _ (List.mem_of_getElem? hx)).kinds with h1 | h1 | h1
 ·unfold fullAt at hf
  rw [hx] at hf
  simp [emptyB, h1.1] at hf
 ·exact .inl h1
 ·exact .inr h1
theorem Good.byEnd {k : Kern} (h : Good k) {p n : Nat} (hp : p < 4) (hn : n < 6) (h0 : (endAt k p n).kind ≠ 0) (a : Actn) : Good (byEndT k p n a).kern := by
 unfold byEndT
 split
 ·unfold readT
  split
  ·exact h
  ·split
   ·exact h
   ·split
    ·exact h.readPipe _ _
    ·split
     ·exact h.readDev _
     ·rename_i h3 _ h2 hk2
      rcases h.kinds hp hn h0 with h1 | h1
      ·rcases h.nodeK h1.2.1 h1.2.2.1 h1.2.2.2.1 with h4 | h4
       ·exact h.readFile hp hn _ h4.2.2 h1.1
       ·exact absurd h4.1 hk2
      ·omega
 ·split
  ·unfold writeT
   split
   ·exact h
   ·split
    ·exact h
    ·split
     ·exact h.writePipe _ _
     ·split
      ·exact h.writeDev _ _
      ·rename_i h3 _ h2 hk2
       rcases h.kinds hp hn h0 with h1 | h1
       ·exact h.writeFile hp hn _ h1.1 hk2
       ·omega
  ·exact h.close hp
theorem Good.byProc {k : Kern} (h : Good k) {p : Nat} (hp : p < 4) (hl : (procAt k p).live = true) (a : Actn) : Good (byProcT k p a).kern := by
 unfold byProcT
 split
 ·exact h.opens hp hl _
 ·split
  ·exact h.pipes_ hp hl
  ·split
   ·exact h.fork hp
   ·split
    ·exact h.exit hp
    ·split
     ·rename_i hw
      have := within_iff.1 hw.1
      rw [h.ends _ (h.toPre.mem_ hp)] at this
      exact h.byEnd hp (by omega) hw.2 a
     ·exact h
theorem Good.act {k : Kern} (h : Good k) (a : Actn) : Good (actT k a).kern := by
 unfold actT
 split
 ·exact h.install _
 ·split
  ·exact h.add (.inl ⟨rfl, rfl, rfl⟩)
  ·split
   ·exact h.add (.inr ⟨rfl, rfl⟩)
   ·split
    ·exact h.unlink _
    ·split
     ·rename_i hw
      have := within_iff.1 hw.1
      rw [h.procsL] at this
      exact h.byProc (by omega) hw.2 a
     ·exact h
theorem act_proc {k : Kern} {a : Actn} {p : Nat} (hk : 5 ≤ a.kind) (hp : a.p = p) (hl : p < k.procs.length) (hv : (procAt k p).live = true) : actT k a = byProcT k p a := by
 unfold actT
 rw [if_neg (by omega), if_neg (by omega), if_neg (by omega), if_neg (by omega), hp, Int.toNat_natCast, if_pos ⟨within_iff.2 ⟨by omega, by omega⟩, hv⟩]
theorem act_end {k : Kern} {a : Actn} {p n : Nat} (hk : 6 ≤ a.kind ∧ a.kind ≤ 8) (hp : a.p = p) (hl : p < k.procs.length) (hv : (procAt k p).live = true) (hn : a.n = n) (hnl : n < (procAt k p).ends.length) (he : (endAt k p n).kind ≠ 0) : actT k a = byEndT k p n a := by
 rw [act_proc (by omega) hp hl hv]
 unfold byProcT
 rw [if_neg (by omega), if_neg (by omega), if_neg (by omega), if_neg (by omega), hn, Int.toNat_natCast, if_pos ⟨within_iff.2 ⟨by omega, by omega⟩, he⟩]
theorem good_new : Good newKern := by
 have hp : ∀ p ∈ newKern.procs, p.ends = List.replicate 6 noEnd := by
  intro p hp
  rcases List.mem_cons.1 hp with rfl | hp
  ·rfl
  ·rw [List.eq_of_mem_replicate hp]
   rfl
 refine ⟨⟨by decide, fun m hm => (by cases hm), rfl, List.length_replicate, ?_, rfl, ?_, ?_, ?_, rfl, ?_, rfl, ?_, ?_, ?_⟩, ?_, ?_⟩
 ·intro v hv
  rw [List.eq_of_mem_replicate hv]
  decide
 ·intro n hn
  rw [List.eq_of_mem_replicate hn]
  exact noNode_ok _
 ·intro n hn h
  rw [List.eq_of_mem_replicate hn] at h
  exact absurd rfl h
 ·intro i j a b ha hb hab hne
  rw [List.eq_of_mem_replicate (List.mem_of_getElem? ha)] at hne
  exact absurd rfl hne
 ·intro s hs
  rw [List.eq_of_mem_replicate hs]
  decide
 ·intro p h
  rw [hp p h]
  rfl
 ·intro p h e he
  rw [hp p h] at he
  exact ⟨.inl (List.eq_of_mem_replicate he)⟩
 ·intro p h _ e he
  rw [hp p h] at he
  exact List.eq_of_mem_replicate he
 ·intro i n hn hk
  rw [List.eq_of_mem_replicate (List.mem_of_getElem? hn)] at hk
  exact absurd rfl hk
 ·intro i s hs hne
  rw [List.eq_of_mem_replicate (List.mem_of_getElem? hs)] at hne
  exact absurd rfl hne
theorem next_good {k : Kern} (h : Good k) {a : Actn} (ha : inB a.kind 1 11 = true) : nextT k a = actT k a := by
 have h0 : kernT k = 0 := good_iff.2 h
 have hd : doT k a = ⟨(actT k a).kern, (actT k a).ans, 0⟩ := by
  unfold doT
  rw [if_neg (by simp [h0]), if_neg (by simp [ha])]
 unfold nextT
 rw [hd]
 rfl
theorem next_bad {k : Kern} (h : Good k) {a : Actn} (ha : inB a.kind 1 11 = false) : nextT k a = ⟨k, ⟨3, 0, []⟩⟩ := by
 have h0 : kernT k = 0 := good_iff.2 h
 have hd : doT k a = ⟨noKern, noAns, 3⟩ := by
  unfold doT
  rw [if_neg (by simp [h0]), if_pos ha]
 unfold nextT
 rw [hd]
 rfl
theorem Good.next {k : Kern} (h : Good k) (a : Actn) : Good (nextT k a).kern := by
 cases ha : inB a.kind 1 11
 ·rw [next_bad h ha]
  exact h
 ·rw [next_good h ha]
  exact h.act a
theorem ran_step {k k' : Kern} {a : Actn} {x : Ans} {r : List Actn} (h : Good k) (ha : inB a.kind 1 11 = true) (he : actT k a = ⟨k', x⟩) : ranT k (a :: r) = ⟨x :: (ranT k' r).answers, (ranT k' r).kern⟩ ∧ Good k' := by
 have h1 := h.act a
 have h2 := next_good h ha
 rw [he] at h1 h2
 rw [ranT, h2]
 exact ⟨rfl, h1⟩
theorem Good.ran : ∀ (l : List Actn) {k : Kern}, Good k → Good (ranT k l).kern
 | [], _, h => h
 | a :: r, _, h => Good.ran r (h.next a)
theorem ran_len : ∀ (l : List Actn) (k : Kern), (ranT k l).answers.length = l.length
 | [], _ => rfl
 | a :: r, k => by
   show ((ranT (nextT k a).kern r).answers.length) + 1 = _
   rw [ran_len r]
   rfl
theorem ran_app : ∀ (l m : List Actn) (k : Kern), ranT k (l ++ m) = ⟨(ranT k l).answers ++ (ranT (ranT k l).kern m).answers, (ranT (ranT k l).kern m).kern⟩
 | [], m, k => rfl
 | a :: r, m, k => by
   rw [List.cons_append, ranT, ran_app r m]
   rfl
end Go.Proofs.YtnnhhbjbdmgpiaaGreatDoor.Cf
/- Plain mathematics of chapter 2: the three programs that the laws run. No Go in it. -/
namespace Go.Proofs.YtnnhhbjbdmgpiaaGreatDoor.Cf
set_option maxRecDepth 100000
end Go.Proofs.YtnnhhbjbdmgpiaaGreatDoor.Cf
/- Plain mathematics of chapter 3: plain code made into trusted code. No Go in it. -/
namespace Go.Proofs.YtnnhhbjbdmgpiaaGreatDoor.Cf
set_option maxRecDepth 100000
theorem flat_piece {α β : Type} (f : α → List β) : ∀ (xs : List α) (c : Nat) (i : α) (j : Nat), xs[c]? = some i → j < (f i).length → (xs.flatMap f)[((xs.take c).flatMap f).length + j]? = (f i)[j]?
 | [], c, i, j, h, _ => by simp at h
 | x :: xs, 0, i, j, h, hj => by
   simp at h
   subst h
   simp [List.getElem?_append_left hj]
 | x :: xs, c + 1, i, j, h, hj => by
   have := flat_piece f xs c i j (by simpa using h) hj
   rw [List.take_succ_cons, List.flatMap_cons, List.flatMap_cons, List.length_append, Nat.add_assoc, List.getElem?_append_right (by omega), Nat.add_sub_cancel_left]
   exact this
theorem piece_of {α β : Type} (f : α → List β) : ∀ (xs : List α) (k : Nat) (y : β), (xs.flatMap f)[k]? = some y → ∃ c i j, xs[c]? = some i ∧ (f i)[j]? = some y ∧ k = ((xs.take c).flatMap f).length + j
 | [], k, y, h => by simp at h
 | x :: xs, k, y, h => by
   rw [List.flatMap_cons] at h
   rcases Nat.lt_or_ge k (f x).length with hk | hk
   ·rw [List.getElem?_append_left hk] at h
    exact ⟨0, x, k, rfl, h, by simp⟩
   ·rw [List.getElem?_append_right hk] at h
    obtain ⟨c, i, j, h1, h2, h3⟩ := piece_of f xs _ y h
    exact ⟨c + 1, i, j, by simpa using h1, h2, by rw [List.take_succ_cons, List.flatMap_cons, List.length_append]; omega⟩
def ldst (i : Ins) : Bool := decide (i.op = 8) || decide (i.op = 9)
def wid (i : Ins) : Nat := if ldst i then 3 else 1
def place (l : List Ins) (c : Nat) : Nat := ((l.take c).map wid).sum
def tri (l : List Ins) (i : Ins) : List Ins :=
 if ldst i then [⟨4, 4, i.b, 6⟩, ⟨5, 4, 4, 5⟩, ⟨i.op, i.a, 4, i.c⟩] else if jumpsB i then [⟨i.op, i.a, i.b, place l i.c.toNat⟩] else [i]
def madeL (l : List Ins) : List Ins := l.flatMap (tri l)
def plainI (l : List Ins) (i : Ins) : Bool :=
 if inB i.a 4 6 = true ∨ inB i.b 4 6 = true ∨ (inB i.op 2 7 = true ∧ inB i.c 4 6 = true) ∨ (jumpsB i = true ∧ (l.length : Int) ≤ i.c) then false else true
def plainB (l : List Ins) : Bool := lastB l && l.all (plainI l)
structure Made where
 code : List Ins
 err : Int
def madeT (l : List Ins) : Made :=
 if fault l = 0 then (if plainB l then (if (madeL l).length ≤ 200 then ⟨madeL l, 0⟩ else ⟨[], 1⟩) else ⟨[], 10⟩) else ⟨[], fault l⟩
theorem tri_len (l : List Ins) (i : Ins) : (tri l i).length = wid i := by
 unfold tri wid
 split
 ·rfl
 ·split <;> rfl
theorem place_len (l : List Ins) (c : Nat) : ((l.take c).flatMap (tri l)).length = place l c := by
 unfold place
 rw [List.length_flatMap]
 congr 1
 exact List.map_congr_left fun i _ => tri_len l i
theorem made_at {l : List Ins} {c : Nat} {i : Ins} (h : l[c]? = some i) (j : Nat) (hj : j < wid i) : (madeL l)[place l c + j]? = (tri l i)[j]? := by
 have := flat_piece (tri l) l c i j h (by rw [tri_len]; exact hj)
 rwa [place_len] at this
theorem made_of {l : List Ins} {k : Nat} {y : Ins} (h : (madeL l)[k]? = some y) : ∃ c i j, l[c]? = some i ∧ (tri l i)[j]? = some y ∧ k = place l c + j := by
 obtain ⟨c, i, j, h1, h2, h3⟩ := piece_of (tri l) l k y h
 rw [place_len] at h3
 exact ⟨c, i, j, h1, h2, h3⟩
theorem wid_pos (i : Ins) : 1 ≤ wid i := by unfold wid; split <;> omega
theorem place_lt {l : List Ins} {c : Nat} {i : Ins} (h : l[c]? = some i) : place l c + wid i ≤ (madeL l).length := by
 have h1 := made_at h (wid i - 1) (by have := wid_pos i; omega)
 have h2 : wid i - 1 < (tri l i).length := by rw [tri_len]; have := wid_pos i; omega
 rw [List.getElem?_eq_getElem h2] at h1
 have := (List.getElem?_eq_some_iff.1 h1).1
 have := wid_pos i
 omega
theorem place_next {l : List Ins} {c : Nat} {i : Ins} (h : l[c]? = some i) : place l (c + 1) = place l c + wid i := by
 unfold place
 rw [List.take_add_one, h]
 simp
theorem plain_parts {l : List Ins} (h : plainB l = true) : lastB l = true ∧ ∀ i ∈ l, (i.a < 4 ∨ 6 < i.a) ∧ (i.b < 4 ∨ 6 < i.b) ∧ (2 ≤ i.op ∧ i.op ≤ 7 → i.c < 4 ∨ 6 < i.c) ∧ (jumpsB i = true → i.c < l.length) := by
 unfold plainB at h
 simp only [Bool.and_eq_true] at h
 refine ⟨h.1, fun i hi => ?_⟩
 have := List.all_eq_true.1 h.2 i hi
 unfold plainI at this
 split at this
 ·cases this
 ·rename_i hn
  simp only [inB, Bool.and_eq_true, decide_eq_true_eq] at hn
  refine ⟨?_, ?_, fun h1 => ?_, fun h1 => ?_⟩
  ·by_cases e : i.a < 4 ∨ 6 < i.a
   ·exact e
   ·exact absurd (.inl (by omega)) hn
  ·by_cases e : i.b < 4 ∨ 6 < i.b
   ·exact e
   ·exact absurd (.inr (.inl (by omega))) hn
  ·by_cases e : i.c < 4 ∨ 6 < i.c
   ·exact e
   ·exact absurd (.inr (.inr (.inl ⟨by omega, by omega⟩))) hn
  ·by_cases e : i.c < l.length
   ·exact e
   ·exact absurd (.inr (.inr (.inr ⟨h1, by omega⟩))) hn
theorem faultIn_all : ∀ (l : List Ins), (∀ x ∈ l, chk x = 0) → faultIn l = 0
 | [], _ => rfl
 | x :: l, h => by rw [faultIn, if_pos (h x (List.mem_cons_self ..)), faultIn_all l fun y hy => h y (List.mem_cons_of_mem _ hy)]
theorem tri_cases {l : List Ins} {i y : Ins} {j : Nat} (h : (tri l i)[j]? = some y) :
  (ldst i = true ∧ ((j = 0 ∧ y = ⟨4, 4, i.b, 6⟩) ∨ (j = 1 ∧ y = ⟨5, 4, 4, 5⟩) ∨ (j = 2 ∧ y = ⟨i.op, i.a, 4, i.c⟩))) ∨
  (ldst i = false ∧ jumpsB i = true ∧ j = 0 ∧ y = ⟨i.op, i.a, i.b, place l i.c.toNat⟩) ∨ (ldst i = false ∧ jumpsB i = false ∧ j = 0 ∧ y = i) := by
 unfold tri at h
 split at h
 ·rename_i hl
  refine .inl ⟨hl, ?_⟩
  match j, h with
  | 0, h => simp at h; exact .inl ⟨rfl, h.symm⟩
  | 1, h => simp at h; exact .inr (.inl ⟨rfl, h.symm⟩)
  | 2, h => simp at h; exact .inr (.inr ⟨rfl, h.symm⟩)
  | (j + 3), h => simp at h
 ·rename_i hl
  split at h
  ·rename_i hj
   match j, h with
   | 0, h => simp at h; exact .inr (.inl ⟨by simpa using hl, hj, rfl, h.symm⟩)
   | (j + 1), h => simp at h
  ·rename_i hj
   match j, h with
   | 0, h => simp at h; exact .inr (.inr ⟨by simpa using hl, by simpa using hj, rfl, h.symm⟩)
   | (j + 1), h => simp at h
theorem chk_mask (b : Int) (h : 0 ≤ b ∧ b ≤ 7) : chk ⟨4, 4, b, 6⟩ = 0 := by
 simp [chk, opB, fldB, fitB, fmt, fmtTab, fld, lar, larTab, h.1, h.2]
theorem chk_access {i : Ins} (h : chk i = 0) (hl : ldst i = true) : chk ⟨i.op, i.a, 4, i.c⟩ = 0 := by
 obtain ⟨op, a, b, c⟩ := i
 simp only [ldst, Bool.or_eq_true, decide_eq_true_eq] at hl
 rcases hl with e | e <;> subst e <;> simp [chk, opB, fldB, fitB, fmt, fmtTab, fld, lar, larTab] at h ⊢ <;> omega
theorem chk_jump {i : Ins} {c : Nat} (h : chk i = 0) (hj : jumpsB i = true) (hc : c ≤ 199) : chk ⟨i.op, i.a, i.b, c⟩ = 0 := by
 obtain ⟨op, a, b, c'⟩ := i
 simp only [jumpsB, Bool.or_eq_true, decide_eq_true_eq] at hj
 rcases hj with e | e | e <;> subst e <;> simp [chk, opB, fldB, fitB, fmt, fmtTab, fld, lar, larTab] at h ⊢ <;> omega
theorem jump_in {l : List Ins} (hp : plainB l = true) {i : Ins} (hi : i ∈ l) (h0 : 0 ≤ i.c) (hj : jumpsB i = true) : place l i.c.toNat < (madeL l).length := by
 have := ((plain_parts hp).2 i hi).2.2.2 hj
 obtain ⟨x, hx⟩ : ∃ x, l[i.c.toNat]? = some x := ⟨_, List.getElem?_eq_getElem (by omega)⟩
 have := place_lt hx
 have := wid_pos x
 omega
theorem fault_two {l : List Ins} (hf : fault l = 0) : faultIn l = 0 ∧ l.length ≤ 200 := by
 unfold fault at hf
 split at hf
 ·cases hf
 ·exact ⟨hf, by omega⟩
theorem made_fault {l : List Ins} (hf : fault l = 0) (hp : plainB l = true) (hl : (madeL l).length ≤ 200) : fault (madeL l) = 0 := by
 unfold fault
 rw [if_neg (by omega)]
 refine faultIn_all _ fun y hy => ?_
 obtain ⟨k, hk⟩ := List.getElem?_of_mem hy
 obtain ⟨c, i, j, hi, hj, _⟩ := made_of hk
 have hc := faultIn_mem l (fault_two hf).1 c i hi
 obtain ⟨_, _, hb, hcc, _, _⟩ := chk_parts i hc
 rcases tri_cases hj with ⟨h1, ⟨_, rfl⟩ | ⟨_, rfl⟩ | ⟨_, rfl⟩⟩ | ⟨_, h2, _, rfl⟩ | ⟨_, _, _, rfl⟩
 ·exact chk_mask _ hb
 ·decide
 ·exact chk_access hc h1
 ·exact chk_jump hc h2 (by have := jump_in hp (List.mem_of_getElem? hi) hcc.1 h2; omega)
 ·exact hc
theorem made_last {l : List Ins} (hp : plainB l = true) : lastB (madeL l) = true := by
 have hl := (plain_parts hp).1
 unfold lastB at hl
 cases hg : l.getLast? with
 | none => rw [hg] at hl; cases hl
 | some i =>
   rw [hg] at hl
   simp only at hl
   have hne : l ≠ [] := by intro e; rw [e] at hg; simp at hg
   have hlen : 0 < l.length := List.length_pos_iff.2 hne
   rw [List.getLast?_eq_getElem?] at hg
   have hst : ldst i = false := by
    simp only [stopsB, Bool.or_eq_true, decide_eq_true_eq] at hl
    simp [ldst]
    omega
   have hw : wid i = 1 := by unfold wid; rw [hst]; rfl
   have hend : place l (l.length - 1) + 1 = (madeL l).length := by
    have h1 := place_next hg
    rw [hw, show l.length - 1 + 1 = l.length by omega] at h1
    rw [← h1, ← place_len, List.take_length]
    rfl
   unfold lastB
   rw [List.getLast?_eq_getElem?, show (madeL l).length - 1 = place l (l.length - 1) + 0 by omega, made_at hg 0 (by omega)]
   unfold tri
   rw [hst]
   cases hj : jumpsB i with
   | true =>
     show stopsB ⟨i.op, i.a, i.b, _⟩ = true
     exact hl
   | false => exact hl
theorem made_ok {l : List Ins} (hf : fault l = 0) (hp : plainB l = true) {k : Nat} {y : Ins} (hk : (madeL l)[k]? = some y) : okI (madeL l) k y = true := by
 obtain ⟨c, i, j, hi, hj, rfl⟩ := made_of hk
 have hc := faultIn_mem l (fault_two hf).1 c i hi
 obtain ⟨ho, _, _, hcc, _, _⟩ := chk_parts i hc
 obtain ⟨pa, pb, pc, pj⟩ := (plain_parts hp).2 i (List.mem_of_getElem? hi)
 rcases tri_cases hj with ⟨h1, ⟨rfl, rfl⟩ | ⟨rfl, rfl⟩ | ⟨rfl, rfl⟩⟩ | ⟨h1, h2, rfl, rfl⟩ | ⟨h1, h2, rfl, rfl⟩
 ·have hn : nextB (madeL l) (place l c) = true := by
   unfold nextB
   rw [made_at hi 1 (by unfold wid; rw [h1]; decide)]
   unfold tri
   rw [h1]
   rfl
  unfold okI destB
  simp [inB, orBaseB, jumpsB, hn]
 ·unfold okI destB
  simp [inB, orBaseB, jumpsB]
 ·simp only [ldst, Bool.or_eq_true, decide_eq_true_eq] at h1
  have hd : destB (madeL l) (place l c + 2) ⟨i.op, i.a, 4, i.c⟩ = true := by
   unfold destB
   split
   ·rw [if_neg (by dsimp only; omega), if_neg (by dsimp only; omega)]
   ·rfl
  unfold okI
  rw [if_pos hd, if_neg]
  rintro (⟨_, h⟩ | ⟨h, _⟩)
  ·exact h rfl
  ·simp only [jumpsB, Bool.or_eq_true, decide_eq_true_eq] at h
   omega
 ·have hlt := jump_in hp (List.mem_of_getElem? hi) hcc.1 h2
  simp only [jumpsB, Bool.or_eq_true, decide_eq_true_eq] at h2
  have hd : destB (madeL l) (place l c + 0) ⟨i.op, i.a, i.b, place l i.c.toNat⟩ = true := by
   unfold destB
   rw [if_neg (by simp [inB]; omega)]
  unfold okI
  rw [if_pos hd, if_neg]
  rintro (⟨h, _⟩ | ⟨_, h⟩)
  ·dsimp only at h; omega
  ·dsimp only at h; omega
 ·have hd : destB (madeL l) (place l c + 0) y = true := by
   unfold destB
   split
   ·rw [if_neg (by omega), if_neg (by omega)]
   ·rfl
  unfold okI
  rw [if_pos hd, if_neg]
  rintro (⟨h, _⟩ | ⟨h, _⟩)
  ·simp [ldst] at h1
   omega
  ·rw [h2] at h
   cases h
theorem made_safe {l : List Ins} (hf : fault l = 0) (hp : plainB l = true) (hl : (madeL l).length ≤ 200) : safeT (madeL l) = 0 := by
 unfold safeT
 rw [if_pos (made_fault hf hp hl), if_pos]
 simp only [Bool.and_eq_true]
 refine ⟨made_last hp, List.all_eq_true.2 fun k hk => ?_⟩
 unfold okAt
 split
 ·exact made_ok hf hp (by assumption)
 ·rfl
end Go.Proofs.YtnnhhbjbdmgpiaaGreatDoor.Cf
/- Small words for the walks of chapter 3. No Go in it. -/
namespace Go.Proofs.YtnnhhbjbdmgpiaaGreatDoor
set_option maxRecDepth 100000
theorem eqb {x y : Int} (h : x = y) : (x == y) = true := by rw [beq_iff_eq]; exact h
theorem neb {x y : Int} (h : ¬ x = y) : (x == y) = false := by rw [beq_eq_false_iff_ne]; exact h
theorem eqn {x y : Int} (h : x = y) : (x != y) = false := by simp [h]
theorem nen {x y : Int} (h : ¬ x = y) : (x != y) = true := by simp [h]
def Cf.useB (i : Cf.Ins) : Bool := Cf.inB i.a 4 6 || (Cf.inB i.b 4 6 || (Cf.inB i.op 2 7 && Cf.inB i.c 4 6))
def Cf.trustB (l : List Cf.Ins) (k : Nat) (i : Cf.Ins) : Bool := (!Cf.ldst i || decide (i.b = 4)) && Cf.destB l k i
theorem Cf.okI_eq (l : List Cf.Ins) (k : Nat) (i : Cf.Ins) : Cf.okI l k i = (!(Cf.jumpsB i && decide ((l.length : Int) ≤ i.c)) && Cf.trustB l k i) := by
 unfold Cf.okI Cf.trustB Cf.ldst
 by_cases hd : Cf.destB l k i = true
 ·rw [if_pos hd, hd]
  by_cases h1 : (i.op = 8 ∨ i.op = 9) ∧ i.b ≠ 4 ∨ Cf.jumpsB i = true ∧ (l.length : Int) ≤ i.c
  ·rw [if_pos h1]
   rcases h1 with ⟨h, h'⟩ | ⟨h, h'⟩
   ·rcases h with h | h <;> simp [h, h']
   ·simp [h, h']
  ·rw [if_neg h1]
   simp only [_root_.not_or, Classical.not_and_iff_not_or_not] at h1
   obtain ⟨h2, h3⟩ := h1
   by_cases hj : Cf.jumpsB i = true
   ·have : ¬ (l.length : Int) ≤ i.c := by rcases h3 with h | h; exact absurd hj h; exact h
    by_cases hb : i.b = 4
    ·simp [this, hb]
    ·have hh : ¬ i.op = 8 ∧ ¬ i.op = 9 := by
      rcases h2 with h | h
      ·exact h
      ·exact absurd (fun e => hb e) h
     simp [this, hh.1, hh.2]
   ·have hj' : Cf.jumpsB i = false := by simpa using hj
    by_cases hb : i.b = 4
    ·simp [hj', hb]
    ·have hh : ¬ i.op = 8 ∧ ¬ i.op = 9 := by
      rcases h2 with h | h
      ·exact h
      ·exact absurd (fun e => hb e) h
     simp [hj', hh.1, hh.2]
 ·have hd' : Cf.destB l k i = false := by simpa using hd
  simp [hd']
theorem Cf.plainI_eq (l : List Cf.Ins) (i : Cf.Ins) : Cf.plainI l i = (!(Cf.jumpsB i && decide ((l.length : Int) ≤ i.c)) && !Cf.useB i) := by
 unfold Cf.plainI Cf.useB
 cases Cf.inB i.a 4 6 <;> cases Cf.inB i.b 4 6 <;> cases Cf.inB i.op 2 7 <;> cases Cf.inB i.c 4 6 <;> cases Cf.jumpsB i <;> by_cases h : (l.length : Int) ≤ i.c <;> simp [h]
def Cf.okT (l : List Cf.Ins) (t : Nat → Cf.Ins → Bool) (k : Nat) : Bool :=
 match l[k]? with
 | some i => !(Cf.jumpsB i && decide ((l.length : Int) ≤ i.c)) && t k i
 | none => true
def Cf.chkT (l : List Cf.Ins) (t : Nat → Cf.Ins → Bool) : Int := if Cf.fault l = 0 then (if Cf.lastB l && (List.range l.length).all (Cf.okT l t) then 0 else 10) else Cf.fault l
theorem Cf.chkT_trust (l : List Cf.Ins) : Cf.chkT l (Cf.trustB l) = Cf.safeT l := by
 unfold Cf.chkT Cf.safeT
 have : Cf.okT l (Cf.trustB l) = Cf.okAt l := by
  funext k
  unfold Cf.okT Cf.okAt
  cases l[k]? with
  | none => rfl
  | some i => exact (Cf.okI_eq l k i).symm
 rw [this]
theorem Cf.chkT_plain (l : List Cf.Ins) : Cf.chkT l (fun _ i => !Cf.useB i) = if Cf.fault l = 0 then (if Cf.plainB l then 0 else 10) else Cf.fault l := by
 unfold Cf.chkT Cf.plainB
 have : (List.range l.length).all (Cf.okT l (fun _ i => !Cf.useB i)) = l.all (Cf.plainI l) := by
  rw [Bool.eq_iff_iff, List.all_eq_true, List.all_eq_true]
  constructor
  ·intro h i hi
   obtain ⟨k, hk⟩ := List.getElem?_of_mem hi
   have hlt : k < l.length := (List.getElem?_eq_some_iff.1 hk).1
   have := h k (List.mem_range.2 hlt)
   unfold Cf.okT at this
   rw [hk] at this
   rw [Cf.plainI_eq]
   exact this
  ·intro h k hk
   unfold Cf.okT
   cases hx : l[k]? with
   | none => rfl
   | some i =>
     have := h i (List.mem_of_getElem? hx)
     rw [Cf.plainI_eq] at this
     exact this
 rw [this]
theorem Cf.chkT_bad (l : List Cf.Ins) (t : Nat → Cf.Ins → Bool) (k : Nat) (i : Cf.Ins) (hf : Cf.fault l = 0) (hi : l[k]? = some i) (ho : (!(Cf.jumpsB i && decide ((l.length : Int) ≤ i.c)) && t k i) = false) : Cf.chkT l t = 10 := by
 unfold Cf.chkT
 rw [if_pos hf, if_neg]
 intro hb
 simp only [Bool.and_eq_true] at hb
 have hk : k < l.length := (List.getElem?_eq_some_iff.1 hi).1
 have := List.all_eq_true.1 hb.2 k (List.mem_range.2 hk)
 rw [Cf.okT, hi] at this
 simp only at this
 rw [ho] at this
 cases this
theorem Cf.chkT_end (l : List Cf.Ins) (t : Nat → Cf.Ins → Bool) (hf : Cf.fault l = 0) (hl : Cf.lastB l = true) (h : ∀ j, j < l.length → Cf.okT l t j = true) : Cf.chkT l t = 0 := by
 unfold Cf.chkT
 rw [if_pos hf, if_pos]
 simp only [Bool.and_eq_true]
 exact ⟨hl, List.all_eq_true.2 fun j hj => h j (List.mem_range.1 hj)⟩
theorem Cf.chkT_on (l : List Cf.Ins) (t : Nat → Cf.Ins → Bool) (k : Nat) (i : Cf.Ins) (hi : l[k]? = some i) (h : ∀ j, j < k → Cf.okT l t j = true) (ho : (!(Cf.jumpsB i && decide ((l.length : Int) ≤ i.c)) && t k i) = true) : ∀ j, j < k + 1 → Cf.okT l t j = true := by
 intro j hj
 rcases Nat.lt_succ_iff_lt_or_eq.1 hj with h1 | h1
 ·exact h j h1
 ·subst h1
  rw [Cf.okT, hi]
  exact ho
end Go.Proofs.YtnnhhbjbdmgpiaaGreatDoor
/- Plain mathematics of chapter 5: the scripts of FilesBack and TopApart. No Go in it. -/
namespace Go.Proofs.YtnnhhbjbdmgpiaaGreatDoor.Cf
set_option maxRecDepth 100000
def fN : List UInt8 := [102]
def fk (nd : Node) (es : List End) (q : Proc) : Kern := ⟨[], List.replicate 1024 0, nd :: List.replicate 7 noNode, List.replicate 6 [], ⟨true, es⟩ :: q :: List.replicate 2 noProc⟩
def frest (n : Nat) : List End := List.replicate n noEnd
def fe (pos : Nat) : End := ⟨1, 0, pos⟩
def nodeF (data : List UInt8) : Node := ⟨fN, 1, data, 0⟩
def aCreate : Actn := ⟨2, 0, 0, 0, fN, []⟩
def aOpen : Actn := ⟨5, 0, 0, 0, fN, []⟩
def aWrite (s : List UInt8) : Actn := ⟨8, 0, 0, 0, [], s⟩
def aUnlink : Actn := ⟨4, 0, 0, 0, fN, []⟩
def aRead (p n : Nat) (m : Nat) : Actn := ⟨7, p, n, m, [], []⟩
def aClose : Actn := ⟨6, 0, 0, 0, [], []⟩
def aFork : Actn := ⟨10, 0, 0, 0, [], []⟩
def aExit : Actn := ⟨11, 1, 0, 0, [], []⟩
theorem f_create : actT newKern aCreate = ⟨fk (nodeF []) (frest 6) noProc, ⟨0, 0, []⟩⟩ := by rfl
theorem f_open0 (d : List UInt8) (q : Proc) : actT (fk (nodeF d) (frest 6) q) aOpen = ⟨fk (nodeF d) (fe 0 :: frest 5) q, ⟨0, 0, []⟩⟩ := by rfl
theorem f_open1 (d : List UInt8) (p : Nat) (q : Proc) : actT (fk (nodeF d) (fe p :: frest 5) q) aOpen = ⟨fk (nodeF d) (fe p :: fe 0 :: frest 4) q, ⟨0, 1, []⟩⟩ := by rfl
theorem f_open2 (d : List UInt8) (p p' : Nat) (q : Proc) : actT (fk (nodeF d) (fe p :: fe p' :: frest 4) q) aOpen = ⟨fk (nodeF d) (fe p :: fe p' :: fe 0 :: frest 3) q, ⟨0, 2, []⟩⟩ := by rfl
theorem f_openN (d : List UInt8) (es : List End) (q : Proc) : actT (fk ⟨[], 1, d, 0⟩ es q) aOpen = ⟨fk ⟨[], 1, d, 0⟩ es q, ⟨6, 0, []⟩⟩ := by rfl
theorem take_all {α : Type} {s : List α} {n : Nat} (h : s.length ≤ n) : s.take n = s := List.take_of_length_le h
theorem over_end (d s : List UInt8) : overT d s d.length = d ++ s := by
 unfold overT
 simp [List.drop_eq_nil_of_le]
theorem f_write (d s : List UInt8) (es : List End) (q : Proc) (hs : s ≠ []) (hd : d.length + s.length ≤ 100) : actT (fk (nodeF d) (fe d.length :: es) q) (aWrite s) = ⟨fk (nodeF (d ++ s)) (fe (d.length + s.length) :: es) q, ⟨0, s.length, []⟩⟩ := by
 have hpos : 0 < s.length := List.length_pos_iff.2 hs
 have h1 : actT (fk (nodeF d) (fe d.length :: es) q) (aWrite s) = writeT (fk (nodeF d) (fe d.length :: es) q) 0 0 s := by
  rw [act_end (p := 0) (n := 0) ⟨by show (6 : Int) ≤ 8; omega, by show (8 : Int) ≤ 8; omega⟩ rfl (by show 0 < 4; omega) rfl rfl (by show 0 < (fe d.length :: es).length; simp) (by show (1 : Int) ≠ 0; decide)]
  rfl
 rw [h1]
 unfold writeT
 have e1 : endAt (fk (nodeF d) (fe d.length :: es) q) 0 0 = fe d.length := rfl
 have e2 : nodeAt (fk (nodeF d) (fe d.length :: es) q) (fe d.length).node.toNat = nodeF d := rfl
 rw [e1, e2, if_neg (by show ¬ (1 : Int) = 2; decide), if_neg, if_neg (by show ¬ (1 : Int) = 3; decide), if_neg (by show ¬ (1 : Int) = 2; decide)]
 ·unfold writeFileT
  have e3 : s.take (100 - (fe d.length).pos.toNat) = s := take_all (by show s.length ≤ 100 - (d.length : Int).toNat; omega)
  rw [e3, if_neg hs]
  have e4 : (fe d.length).pos.toNat = d.length := by show (d.length : Int).toNat = _; omega
  rw [e4]
  show Did.mk (fk ⟨fN, 1, overT d s d.length, 0⟩ (⟨1, 0, (d.length : Int) + (s.length : Nat)⟩ :: es) q) _ = _
  rw [over_end]
  rfl
 ·show ¬ inB (s.length : Nat) 1 100 = false
  simp [inB]
  omega
theorem f_unlink (d : List UInt8) (p p' : Nat) (es : List End) (q : Proc) : actT (fk (nodeF d) (fe p :: fe p' :: es) q) aUnlink = ⟨tidyT (fk ⟨[], 1, d, 0⟩ (fe p :: fe p' :: es) q), noAns⟩ := by rfl
theorem tidy_fk (nd : Node) (p : Nat) (es : List End) (q : Proc) : tidyT (fk nd (fe p :: es) q) = fk nd (fe p :: es) q := by
 have h1 : ∀ i n, tidyN (fk nd (fe p :: es) q).procs i n = n ∨ n = noNode ∧ tidyN (fk nd (fe p :: es) q).procs i n = noNode ∨ 0 = i ∧ tidyN (fk nd (fe p :: es) q).procs i n = n ∨ i ≠ 0 := by
  intro i n
  cases i with
  | zero =>
    refine .inr (.inr (.inl ⟨rfl, ?_⟩))
    unfold tidyN
    rw [if_neg]
    rintro ⟨_, h⟩
    have : hasB (fk nd (fe p :: es) q).procs 1 ((0 : Nat) : Int) = true := has_iff.2 ⟨⟨true, fe p :: es⟩, List.mem_cons_self .., fe p, List.mem_cons_self .., rfl, rfl⟩
    rw [this] at h
    cases h
  | succ i => exact .inr (.inr (.inr (by omega)))
 have h0 : tidyN (fk nd (fe p :: es) q).procs 0 nd = nd := by
  rcases h1 0 nd with h | ⟨h, h'⟩ | ⟨_, h⟩ | h
  ·exact h
  ·rw [h', h]
  ·exact h
  ·exact absurd rfl h
 have h2 : ∀ i, tidyN (fk nd (fe p :: es) q).procs i noNode = noNode := by
  intro i
  unfold tidyN
  split <;> rfl
 have h3 : ∀ i, tidyP (fk nd (fe p :: es) q).procs i [] = [] := by
  intro i
  unfold tidyP
  split <;> rfl
 unfold tidyT
 have hn : (fk nd (fe p :: es) q).nodes.mapIdx (tidyN (fk nd (fe p :: es) q).procs) = nd :: List.replicate 7 noNode := by
  show (nd :: List.replicate 7 noNode).mapIdx _ = _
  simp [List.replicate, List.mapIdx_cons, h0, h2]
 have hp : (fk nd (fe p :: es) q).pipes.mapIdx (tidyP (fk nd (fe p :: es) q).procs) = List.replicate 6 [] := by
  show (List.replicate 6 ([] : List UInt8)).mapIdx _ = _
  simp [List.replicate, List.mapIdx_cons, h3]
 rw [hn, hp]
 rfl
theorem f_read {nd : Node} (hk : nd.kind = 1) {es : List End} {q : Proc} {p n pos m : Nat} (k : Kern) (hk0 : k = fk nd es q) (hp : p < 4) (hpl : (procAt k p).live = true) (hn : n < (procAt k p).ends.length) (he : endAt k p n = fe pos) (hm : 1 ≤ m) (hm2 : m ≤ 100) :
  actT k (aRead p n m) = if nd.data.drop pos = [] then ⟨k, ⟨12, 0, []⟩⟩ else ⟨setEnd k p n (fe (pos + ((nd.data.drop pos).take m).length)), ⟨0, ((nd.data.drop pos).take m).length, (nd.data.drop pos).take m⟩⟩ := by
 have h4 : k.procs.length = 4 := by rw [hk0]; rfl
 have h1 : actT k (aRead p n m) = readT k p n m := by
  rw [act_end (p := p) (n := n) ⟨by show (6 : Int) ≤ 7; omega, by show (7 : Int) ≤ 8; omega⟩ rfl (by omega) hpl rfl hn (by rw [he]; show (1 : Int) ≠ 0; decide)]
  rfl
 have e2 : nodeAt k (fe pos).node.toNat = nd := by rw [hk0]; rfl
 rw [h1]
 unfold readT
 rw [he, e2, if_neg (by show ¬ (1 : Int) = 3; decide), if_neg (by simp [inB]; omega), if_neg (by show ¬ (1 : Int) = 2; decide), if_neg (by rw [hk]; decide)]
 unfold readFileT
 have e4 : (fe pos).pos.toNat = pos := by show (pos : Int).toNat = _; omega
 rw [e4, Int.toNat_natCast]
 rfl
def fileActs (s : List UInt8) (n : Nat) (u : Bool) : List Actn := [aCreate, aOpen, aOpen, aWrite (s.take n)] ++ ((if n < s.length then [aWrite (s.drop n)] else []) ++ ((if u then [aUnlink] else []) ++ [aRead 0 1 n, aRead 0 1 100, aRead 0 1 1, aOpen]))
def nodeU (u : Bool) (s : List UInt8) : Node := ⟨if u then [] else fN, 1, s, 0⟩
theorem file_tail (s : List UInt8) (n : Nat) (u : Bool) (h1 : 1 ≤ n) (hn : n ≤ s.length) (hs : s.length ≤ 100) (hg : Good (fk (nodeU u s) (fe s.length :: fe 0 :: frest 4) noProc)) :
  ∃ a0 a1 a2 a3 : Ans, (ranT (fk (nodeU u s) (fe s.length :: fe 0 :: frest 4) noProc) [aRead 0 1 n, aRead 0 1 100, aRead 0 1 1, aOpen]).answers = [a0, a1, a2, a3] ∧ a0.data = s.take n ∧ a1.data = s.drop n ∧ a2.code = 12 ∧ (a3.code = 6 ↔ u = true) ∧ (n < s.length ∨ a1.code = 12) := by
 have e1 := f_read (nd := nodeU u s) rfl (p := 0) (n := 1) (pos := 0) (m := n) (fk (nodeU u s) (fe s.length :: fe 0 :: frest 4) noProc) rfl (by omega) rfl (by show 1 < 6; omega) rfl h1 (by omega)
 have hne : s ≠ [] := by rintro rfl; simp at hn; omega
 rw [List.drop_zero, if_neg (by exact hne)] at e1
 have e1' : actT (fk (nodeU u s) (fe s.length :: fe 0 :: frest 4) noProc) (aRead 0 1 n) = ⟨fk (nodeU u s) (fe s.length :: fe n :: frest 4) noProc, ⟨0, (s.take n).length, s.take n⟩⟩ := by
  rw [e1]
  show Did.mk (fk (nodeU u s) (fe s.length :: fe (0 + (s.take n).length) :: frest 4) noProc) _ = _
  rw [Nat.zero_add, List.length_take, Nat.min_eq_left hn]
  show Did.mk _ ⟨0, ((s.take n).length : Nat), s.take n⟩ = _
  rw [List.length_take, Nat.min_eq_left hn]
 obtain ⟨r1, g1⟩ := ran_step (r := [aRead 0 1 100, aRead 0 1 1, aOpen]) hg rfl e1'
 have hopen : ∀ p : Nat, ∃ k' x, actT (fk (nodeU u s) (fe s.length :: fe p :: frest 4) noProc) aOpen = ⟨k', x⟩ ∧ (x.code = 6 ↔ u = true) := by
  intro p
  cases u
  ·exact ⟨_, _, f_open2 s s.length p noProc, by simp⟩
  ·exact ⟨_, _, f_openN s _ noProc, by simp⟩
 have hlast : ∀ p : Nat, s.drop p = [] → Good (fk (nodeU u s) (fe s.length :: fe p :: frest 4) noProc) → ∃ a2 a3 : Ans, (ranT (fk (nodeU u s) (fe s.length :: fe p :: frest 4) noProc) [aRead 0 1 1, aOpen]).answers = [a2, a3] ∧ a2.code = 12 ∧ (a3.code = 6 ↔ u = true) := by
  intro p hp g
  have e3 := f_read (nd := nodeU u s) rfl (p := 0) (n := 1) (pos := p) (m := 1) (fk (nodeU u s) (fe s.length :: fe p :: frest 4) noProc) rfl (by omega) rfl (by show 1 < 6; omega) rfl (by omega) (by omega)
  rw [if_pos (by exact hp)] at e3
  obtain ⟨r3, g3⟩ := ran_step (r := [aOpen]) g rfl e3
  obtain ⟨k', x, hx, hc⟩ := hopen p
  obtain ⟨r4, _⟩ := ran_step (r := []) g3 rfl hx
  exact ⟨⟨12, 0, []⟩, x, by rw [r3, r4]; rfl, rfl, hc⟩
 have e2 := f_read (nd := nodeU u s) rfl (p := 0) (n := 1) (pos := n) (m := 100) (fk (nodeU u s) (fe s.length :: fe n :: frest 4) noProc) rfl (by omega) rfl (by show 1 < 6; omega) rfl (by omega) (by omega)
 by_cases hd : s.drop n = []
 ·rw [if_pos (by exact hd)] at e2
  obtain ⟨r2, g2⟩ := ran_step (r := [aRead 0 1 1, aOpen]) g1 rfl e2
  obtain ⟨a2, a3, r3, h2, h3⟩ := hlast n hd g2
  exact ⟨_, _, a2, a3, by rw [r1, r2, r3], rfl, hd.symm, h2, h3, .inr rfl⟩
 ·rw [if_neg (by exact hd)] at e2
  have ht : (s.drop n).take 100 = s.drop n := take_all (by simp; omega)
  have hlt : n < s.length := by
   rcases Nat.lt_or_ge n s.length with h | h
   ·exact h
   ·exact absurd (List.drop_eq_nil_of_le h) hd
  have e2' : actT (fk (nodeU u s) (fe s.length :: fe n :: frest 4) noProc) (aRead 0 1 100) = ⟨fk (nodeU u s) (fe s.length :: fe s.length :: frest 4) noProc, ⟨0, (s.drop n).length, s.drop n⟩⟩ := by
   rw [e2]
   show Did.mk (fk (nodeU u s) (fe s.length :: fe (n + ((s.drop n).take 100).length) :: frest 4) noProc) ⟨0, (((s.drop n).take 100).length : Nat), (s.drop n).take 100⟩ = _
   rw [ht, List.length_drop, show n + (s.length - n) = s.length by omega]
  obtain ⟨r2, g2⟩ := ran_step (r := [aRead 0 1 1, aOpen]) g1 rfl e2'
  obtain ⟨a2, a3, r3, h2, h3⟩ := hlast s.length (List.drop_eq_nil_of_le (Nat.le_refl _)) g2
  exact ⟨_, _, a2, a3, by rw [r1, r2, r3], rfl, rfl, h2, h3, .inl hlt⟩
theorem files_back (s : List UInt8) (n : Nat) (u : Bool) (h1 : 1 ≤ n) (hn : n ≤ s.length) (hs : s.length ≤ 100) :
  ∃ (pre : List Ans) (a0 a1 a2 a3 : Ans), (scriptT (fileActs s n u)).answers = pre ++ [a0, a1, a2, a3] ∧ (fileActs s n u).length = pre.length + 4 ∧ (scriptT (fileActs s n u)).err = 0 ∧ a0.data = s.take n ∧ a1.data = s.drop n ∧ a2.code = 12 ∧ (a3.code = 6 ↔ u = true) ∧ (n < s.length ∨ a1.code = 12) := by
 have hlen : (fileActs s n u).length ≤ 10 := by
  unfold fileActs
  simp only [List.length_append]
  split <;> split <;> simp
 have hsc : scriptT (fileActs s n u) = ⟨(ranT newKern (fileActs s n u)).answers, (ranT newKern (fileActs s n u)).kern, 0⟩ := by
  unfold scriptT
  rw [if_neg (by omega)]
 rw [hsc]
 have ht0 : (s.take n).length = n := by simp; omega
 have htn : s.take n ≠ [] := by
  intro h
  rw [h] at ht0
  simp at ht0
  omega
 have key : ∀ (r : List Actn), ∃ pre : List Ans, pre.length = 4 ∧ (ranT newKern ([aCreate, aOpen, aOpen, aWrite (s.take n)] ++ r)).answers = pre ++ (ranT (fk (nodeF (s.take n)) (fe n :: fe 0 :: frest 4) noProc) r).answers ∧ Good (fk (nodeF (s.take n)) (fe n :: fe 0 :: frest 4) noProc) := by
  intro r
  obtain ⟨q1, g1⟩ := ran_step (r := aOpen :: aOpen :: aWrite (s.take n) :: r) good_new rfl f_create
  obtain ⟨q2, g2⟩ := ran_step (r := aOpen :: aWrite (s.take n) :: r) g1 rfl (f_open0 [] noProc)
  obtain ⟨q3, g3⟩ := ran_step (r := aWrite (s.take n) :: r) g2 rfl (f_open1 [] 0 noProc)
  have e4 := f_write [] (s.take n) (fe 0 :: frest 4) noProc htn (by simp; omega)
  rw [List.nil_append, show ([] : List UInt8).length + (s.take n).length = n by rw [ht0]; simp] at e4
  obtain ⟨q4, g4⟩ := ran_step (r := r) g3 rfl e4
  exact ⟨[_, _, _, _], rfl, by show (ranT newKern (aCreate :: aOpen :: aOpen :: aWrite (s.take n) :: r)).answers = _; rw [q1, q2, q3, q4]; rfl, g4⟩
 have key2 : ∀ (r : List Actn), ∃ pre : List Ans, pre.length = (if n < s.length then [aWrite (s.drop n)] else []).length ∧ (ranT (fk (nodeF (s.take n)) (fe n :: fe 0 :: frest 4) noProc) ((if n < s.length then [aWrite (s.drop n)] else []) ++ r)).answers = pre ++ (ranT (fk (nodeF s) (fe s.length :: fe 0 :: frest 4) noProc) r).answers ∧ Good (fk (nodeF s) (fe s.length :: fe 0 :: frest 4) noProc) := by
  intro r
  obtain ⟨_, _, _, g⟩ := key []
  by_cases hlt : n < s.length
  ·rw [if_pos hlt]
   have e5 := f_write (s.take n) (s.drop n) (fe 0 :: frest 4) noProc (by intro h; have := congrArg List.length h; simp at this; omega) (by simp; omega)
   rw [List.take_append_drop, ht0, List.length_drop, show n + (s.length - n) = s.length by omega] at e5
   obtain ⟨q5, g5⟩ := ran_step (r := r) g rfl e5
   exact ⟨[_], rfl, by show (ranT _ (aWrite (s.drop n) :: r)).answers = _; rw [q5]; rfl, g5⟩
  ·rw [if_neg hlt]
   obtain rfl : n = s.length := by omega
   rw [List.take_length] at g ⊢
   exact ⟨[], rfl, rfl, g⟩
 have key3 : ∀ (r : List Actn), ∃ pre : List Ans, pre.length = (if u then [aUnlink] else []).length ∧ (ranT (fk (nodeF s) (fe s.length :: fe 0 :: frest 4) noProc) ((if u then [aUnlink] else []) ++ r)).answers = pre ++ (ranT (fk (nodeU u s) (fe s.length :: fe 0 :: frest 4) noProc) r).answers ∧ Good (fk (nodeU u s) (fe s.length :: fe 0 :: frest 4) noProc) := by
  intro r
  obtain ⟨_, _, _, g⟩ := key2 []
  cases u
  ·exact ⟨[], rfl, rfl, g⟩
  ·have e6 := f_unlink s s.length 0 (frest 4) noProc
   rw [tidy_fk] at e6
   obtain ⟨q6, g6⟩ := ran_step (r := r) g rfl e6
   exact ⟨[_], rfl, by show (ranT _ (aUnlink :: r)).answers = _; rw [q6]; rfl, g6⟩
 obtain ⟨p1, l1, r1, _⟩ := key ((if n < s.length then [aWrite (s.drop n)] else []) ++ ((if u then [aUnlink] else []) ++ [aRead 0 1 n, aRead 0 1 100, aRead 0 1 1, aOpen]))
 obtain ⟨p2, l2, r2, _⟩ := key2 ((if u then [aUnlink] else []) ++ [aRead 0 1 n, aRead 0 1 100, aRead 0 1 1, aOpen])
 obtain ⟨p3, l3, r3, g3⟩ := key3 [aRead 0 1 n, aRead 0 1 100, aRead 0 1 1, aOpen]
 obtain ⟨a0, a1, a2, a3, r4, hh⟩ := file_tail s n u h1 hn hs g3
 refine ⟨p1 ++ (p2 ++ p3), a0, a1, a2, a3, ?_, ?_, rfl, hh⟩
 ·show (ranT newKern (fileActs s n u)).answers = _
  unfold fileActs
  rw [r1, r2, r3, r4]
  simp
 ·unfold fileActs
  simp only [List.length_append, l1, l2, l3]
  simp
  omega
end Go.Proofs.YtnnhhbjbdmgpiaaGreatDoor.Cf
