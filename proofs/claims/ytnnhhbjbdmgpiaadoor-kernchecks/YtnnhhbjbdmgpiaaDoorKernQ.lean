/- Plain mathematics of chapter 5, for the walks: the first one of a list, one by one. No Go in it. -/
import Derived.Test.YtnnhhbjbdmgpiaaDoorKernP
namespace Go.Proofs.YtnnhhbjbdmgpiaaDoor.Cf
set_option maxRecDepth 100000

section
variable {α β : Type} {p : α → Bool} {l : List α}
theorem idx_none (h : l.any p = false) : idxT p l = -1 := by unfold idxT; rw [h]; rfl
theorem idx_at {k : Nat} {x : α} (hx : l[k]? = some x) (hp : p x = true) (h : (l.take k).any p = false) : idxT p l = k := by
  have ha : l.any p = true := List.any_eq_true.2 ⟨x, List.mem_of_getElem? hx, hp⟩
  unfold idxT
  rw [ha, if_pos rfl]
  obtain ⟨hk, hx'⟩ := List.getElem?_eq_some_iff.1 hx
  have : l.findIdx p = k := by
    rw [List.findIdx_eq hk]
    refine ⟨by rw [hx']; exact hp, fun j hj => ?_⟩
    have := List.any_eq_false.1 h l[j] (List.mem_take_iff_getElem.2 ⟨j, by omega, rfl⟩)
    simpa using this
  rw [this]
theorem any_on {k : Nat} {x : α} (hx : l[k]? = some x) (h : (l.take k).any p = false) (hp : p x = false) : (l.take (k + 1)).any p = false := by
  rw [List.take_add_one, hx, List.any_append, h]
  simp [hp]
theorem any_yes {k : Nat} {x : α} (hx : l[k]? = some x) (hp : p x = true) : l.any p = true := List.any_eq_true.2 ⟨x, List.mem_of_getElem? hx, hp⟩
theorem idx_pos : decide (0 ≤ idxT p l) = l.any p := by
  unfold idxT
  cases l.any p
  · simp
  · simp
theorem idx_neg : idxT p l < 0 ↔ l.any p = false := by
  unfold idxT
  cases l.any p
  · simp
  · simp
/-- There is one, or there is none. -/
theorem idx_cases (p : α → Bool) (l : List α) : (l.any p = false ∧ idxT p l = -1) ∨ ∃ (k : Nat) (x : α), idxT p l = k ∧ l[k]? = some x ∧ p x = true ∧ (l.take k).any p = false := by
  cases h : l.any p
  · exact .inl ⟨rfl, idx_none h⟩
  · refine .inr ?_
    obtain ⟨y, hy, hpy⟩ := List.any_eq_true.1 h
    have hlt : l.findIdx p < l.length := List.findIdx_lt_length_of_exists ⟨y, hy, hpy⟩
    refine ⟨l.findIdx p, l[l.findIdx p], by unfold idxT; rw [h, if_pos rfl], List.getElem?_eq_getElem hlt, List.findIdx_getElem, ?_⟩
    rw [List.any_eq_false]
    intro z hz
    obtain ⟨j, hj, rfl⟩ := List.mem_take_iff_getElem.1 hz
    have := List.not_of_lt_findIdx (p := p) (xs := l) (i := j) (by omega)
    simpa using this
theorem idx_map (f : β → α) (m : List β) : idxT p (m.map f) = idxT (fun x => p (f x)) m := by
  unfold idxT
  rw [List.any_map, List.findIdx_map]
  rfl
theorem idx_congr {q : α → Bool} (h : ∀ x ∈ l, p x = q x) : idxT p l = idxT q l := by
  have h1 : l.any p = l.any q := by
    rw [Bool.eq_iff_iff, List.any_eq_true, List.any_eq_true]
    exact ⟨fun ⟨x, hx, hp⟩ => ⟨x, hx, (h x hx) ▸ hp⟩, fun ⟨x, hx, hp⟩ => ⟨x, hx, (h x hx).symm ▸ hp⟩⟩
  have h2 : ∀ (l : List α), (∀ x ∈ l, p x = q x) → l.findIdx p = l.findIdx q := by
    intro l
    induction l with
    | nil => intro _; rfl
    | cons x l ih =>
      intro h
      rw [List.findIdx_cons, List.findIdx_cons, h x (List.mem_cons_self ..), ih fun y hy => h y (List.mem_cons_of_mem _ hy)]
  unfold idxT
  rw [h1, h2 l h]
end
theorem first_all {f : Nat → Int} : ∀ {n : Nat}, (∀ j, j < n → f j = 0) → firstE f n = 0
  | 0, _ => rfl
  | n + 1, h => by rw [firstE, if_pos (first_all fun j hj => h j (by omega))]; exact h n (by omega)
theorem first_at {f : Nat → Int} {k : Nat} (hz : ∀ j, j < k → f j = 0) (hk : f k ≠ 0) : ∀ {n : Nat}, k < n → firstE f n = f k
  | n + 1, h => by
    rw [firstE]
    rcases Nat.lt_or_ge k n with h1 | h1
    · rw [first_at hz hk h1, if_neg hk]
    · obtain rfl : k = n := by omega
      rw [if_pos (first_all hz)]
theorem first_zero {f : Nat → Int} : ∀ {n : Nat}, firstE f n = 0 → ∀ j, j < n → f j = 0
  | n + 1, h, j, hj => by
    rw [firstE] at h
    split at h
    · rename_i h0
      rcases Nat.lt_or_ge j n with h1 | h1
      · exact first_zero h0 j h1
      · obtain rfl : j = n := by omega
        exact h
    · rename_i h0
      exact absurd h h0
theorem range_bad {f : Nat → Bool} {n k : Nat} (hk : k < n) (hf : f k = false) : (List.range n).all f = false := by
  rw [List.all_eq_false]
  exact ⟨k, List.mem_range.2 hk, by simp [hf]⟩
theorem range_all {f : Nat → Bool} {n : Nat} (h : ∀ j, j < n → f j = true) : (List.range n).all f = true := List.all_eq_true.2 fun j hj => h j (List.mem_range.1 hj)
theorem range_on {f : Nat → Bool} {k : Nat} (h : ∀ j, j < k → f j = true) (hk : f k = true) : ∀ j, j < k + 1 → f j = true := by
  intro j hj
  rcases Nat.lt_succ_iff_lt_or_eq.1 hj with h1 | h1
  · exact h j h1
  · exact h1 ▸ hk
theorem all_not {α : Type} {q : α → Bool} {l : List α} : l.any (fun x => !q x) = !l.all q := by
  rw [Bool.eq_iff_iff]
  simp
end Go.Proofs.YtnnhhbjbdmgpiaaDoor.Cf
