/- Plain mathematics of chapter 3: plain code made into trusted code. No Go in it. -/
import Derived.Test.YtnnhhbjbdmgpiaaDoorSafeP
namespace Go.Proofs.YtnnhhbjbdmgpiaaDoor.Cf
set_option maxRecDepth 100000

/-- Where the pieces of the elements lie in a list of pieces. -/
theorem flat_piece {α β : Type} (f : α → List β) : ∀ (xs : List α) (c : Nat) (i : α) (j : Nat), xs[c]? = some i → j < (f i).length → (xs.flatMap f)[((xs.take c).flatMap f).length + j]? = (f i)[j]?
  | [], c, i, j, h, _ => by simp at h
  | x :: xs, 0, i, j, h, hj => by
    simp at h
    subst h
    simp [List.getElem?_append_left hj]
  | x :: xs, c + 1, i, j, h, hj => by
    have := flat_piece f xs c i j (by simpa using h) hj
    rw [List.take_succ_cons, List.flatMap_cons, List.flatMap_cons, List.length_append, Nat.add_assoc, List.getElem?_append_right (by omega), Nat.add_sub_cancel_left]
    exact this
theorem piece_of {α β : Type} (f : α → List β) : ∀ (xs : List α) (k : Nat) (y : β), (xs.flatMap f)[k]? = some y → ∃ c i j, xs[c]? = some i ∧ (f i)[j]? = some y ∧ k = ((xs.take c).flatMap f).length + j
  | [], k, y, h => by simp at h
  | x :: xs, k, y, h => by
    rw [List.flatMap_cons] at h
    rcases Nat.lt_or_ge k (f x).length with hk | hk
    · rw [List.getElem?_append_left hk] at h
      exact ⟨0, x, k, rfl, h, by simp⟩
    · rw [List.getElem?_append_right hk] at h
      obtain ⟨c, i, j, h1, h2, h3⟩ := piece_of f xs _ y h
      exact ⟨c + 1, i, j, by simpa using h1, h2, by rw [List.take_succ_cons, List.flatMap_cons, List.length_append]; omega⟩
def ldst (i : Ins) : Bool := decide (i.op = 8) || decide (i.op = 9)
def wid (i : Ins) : Nat := if ldst i then 3 else 1
/-- Where an instruction's first one comes to lie. -/
def place (l : List Ins) (c : Nat) : Nat := ((l.take c).map wid).sum
def tri (l : List Ins) (i : Ins) : List Ins :=
  if ldst i then [⟨4, 4, i.b, 6⟩, ⟨5, 4, 4, 5⟩, ⟨i.op, i.a, 4, i.c⟩] else if jumpsB i then [⟨i.op, i.a, i.b, place l i.c.toNat⟩] else [i]
def madeL (l : List Ins) : List Ins := l.flatMap (tri l)
def plainI (l : List Ins) (i : Ins) : Bool :=
  if inB i.a 4 6 = true ∨ inB i.b 4 6 = true ∨ (inB i.op 2 7 = true ∧ inB i.c 4 6 = true) ∨ (jumpsB i = true ∧ (l.length : Int) ≤ i.c) then false else true
def plainB (l : List Ins) : Bool := lastB l && l.all (plainI l)
structure Made where
  code : List Ins
  err : Int
def madeT (l : List Ins) : Made :=
  if fault l = 0 then (if plainB l then (if (madeL l).length ≤ 200 then ⟨madeL l, 0⟩ else ⟨[], 1⟩) else ⟨[], 10⟩) else ⟨[], fault l⟩
theorem tri_len (l : List Ins) (i : Ins) : (tri l i).length = wid i := by
  unfold tri wid
  split
  · rfl
  · split <;> rfl
theorem place_len (l : List Ins) (c : Nat) : ((l.take c).flatMap (tri l)).length = place l c := by
  unfold place
  rw [List.length_flatMap]
  congr 1
  exact List.map_congr_left fun i _ => tri_len l i
theorem made_at {l : List Ins} {c : Nat} {i : Ins} (h : l[c]? = some i) (j : Nat) (hj : j < wid i) : (madeL l)[place l c + j]? = (tri l i)[j]? := by
  have := flat_piece (tri l) l c i j h (by rw [tri_len]; exact hj)
  rwa [place_len] at this
theorem made_of {l : List Ins} {k : Nat} {y : Ins} (h : (madeL l)[k]? = some y) : ∃ c i j, l[c]? = some i ∧ (tri l i)[j]? = some y ∧ k = place l c + j := by
  obtain ⟨c, i, j, h1, h2, h3⟩ := piece_of (tri l) l k y h
  rw [place_len] at h3
  exact ⟨c, i, j, h1, h2, h3⟩
theorem wid_pos (i : Ins) : 1 ≤ wid i := by unfold wid; split <;> omega
theorem place_lt {l : List Ins} {c : Nat} {i : Ins} (h : l[c]? = some i) : place l c + wid i ≤ (madeL l).length := by
  have h1 := made_at h (wid i - 1) (by have := wid_pos i; omega)
  have h2 : wid i - 1 < (tri l i).length := by rw [tri_len]; have := wid_pos i; omega
  rw [List.getElem?_eq_getElem h2] at h1
  have := (List.getElem?_eq_some_iff.1 h1).1
  have := wid_pos i
  omega
theorem place_next {l : List Ins} {c : Nat} {i : Ins} (h : l[c]? = some i) : place l (c + 1) = place l c + wid i := by
  unfold place
  rw [List.take_add_one, h]
  simp
theorem place_zero (l : List Ins) : place l 0 = 0 := rfl
theorem plain_parts {l : List Ins} (h : plainB l = true) : lastB l = true ∧ ∀ i ∈ l, (i.a < 4 ∨ 6 < i.a) ∧ (i.b < 4 ∨ 6 < i.b) ∧ (2 ≤ i.op ∧ i.op ≤ 7 → i.c < 4 ∨ 6 < i.c) ∧ (jumpsB i = true → i.c < l.length) := by
  unfold plainB at h
  simp only [Bool.and_eq_true] at h
  refine ⟨h.1, fun i hi => ?_⟩
  have := List.all_eq_true.1 h.2 i hi
  unfold plainI at this
  split at this
  · cases this
  · rename_i hn
    simp only [inB, Bool.and_eq_true, decide_eq_true_eq] at hn
    refine ⟨?_, ?_, fun h1 => ?_, fun h1 => ?_⟩
    · by_cases e : i.a < 4 ∨ 6 < i.a
      · exact e
      · exact absurd (.inl (by omega)) hn
    · by_cases e : i.b < 4 ∨ 6 < i.b
      · exact e
      · exact absurd (.inr (.inl (by omega))) hn
    · by_cases e : i.c < 4 ∨ 6 < i.c
      · exact e
      · exact absurd (.inr (.inr (.inl ⟨by omega, by omega⟩))) hn
    · by_cases e : i.c < l.length
      · exact e
      · exact absurd (.inr (.inr (.inr ⟨h1, by omega⟩))) hn
theorem faultIn_all : ∀ (l : List Ins), (∀ x ∈ l, chk x = 0) → faultIn l = 0
  | [], _ => rfl
  | x :: l, h => by rw [faultIn, if_pos (h x (List.mem_cons_self ..)), faultIn_all l fun y hy => h y (List.mem_cons_of_mem _ hy)]
theorem tri_cases {l : List Ins} {i y : Ins} {j : Nat} (h : (tri l i)[j]? = some y) :
    (ldst i = true ∧ ((j = 0 ∧ y = ⟨4, 4, i.b, 6⟩) ∨ (j = 1 ∧ y = ⟨5, 4, 4, 5⟩) ∨ (j = 2 ∧ y = ⟨i.op, i.a, 4, i.c⟩))) ∨
    (ldst i = false ∧ jumpsB i = true ∧ j = 0 ∧ y = ⟨i.op, i.a, i.b, place l i.c.toNat⟩) ∨ (ldst i = false ∧ jumpsB i = false ∧ j = 0 ∧ y = i) := by
  unfold tri at h
  split at h
  · rename_i hl
    refine .inl ⟨hl, ?_⟩
    match j, h with
    | 0, h => simp at h; exact .inl ⟨rfl, h.symm⟩
    | 1, h => simp at h; exact .inr (.inl ⟨rfl, h.symm⟩)
    | 2, h => simp at h; exact .inr (.inr ⟨rfl, h.symm⟩)
    | (j + 3), h => simp at h
  · rename_i hl
    split at h
    · rename_i hj
      match j, h with
      | 0, h => simp at h; exact .inr (.inl ⟨by simpa using hl, hj, rfl, h.symm⟩)
      | (j + 1), h => simp at h
    · rename_i hj
      match j, h with
      | 0, h => simp at h; exact .inr (.inr ⟨by simpa using hl, by simpa using hj, rfl, h.symm⟩)
      | (j + 1), h => simp at h
theorem chk_mask (b : Int) (h : 0 ≤ b ∧ b ≤ 7) : chk ⟨4, 4, b, 6⟩ = 0 := by
  simp [chk, opB, fldB, fitB, fmt, fmtTab, fld, lar, larTab, h.1, h.2]
theorem chk_access {i : Ins} (h : chk i = 0) (hl : ldst i = true) : chk ⟨i.op, i.a, 4, i.c⟩ = 0 := by
  obtain ⟨op, a, b, c⟩ := i
  simp only [ldst, Bool.or_eq_true, decide_eq_true_eq] at hl
  rcases hl with e | e <;> subst e <;> simp [chk, opB, fldB, fitB, fmt, fmtTab, fld, lar, larTab] at h ⊢ <;> omega
theorem chk_jump {i : Ins} {c : Nat} (h : chk i = 0) (hj : jumpsB i = true) (hc : c ≤ 199) : chk ⟨i.op, i.a, i.b, c⟩ = 0 := by
  obtain ⟨op, a, b, c'⟩ := i
  simp only [jumpsB, Bool.or_eq_true, decide_eq_true_eq] at hj
  rcases hj with e | e | e <;> subst e <;> simp [chk, opB, fldB, fitB, fmt, fmtTab, fld, lar, larTab] at h ⊢ <;> omega
theorem jump_in {l : List Ins} (hp : plainB l = true) {i : Ins} (hi : i ∈ l) (h0 : 0 ≤ i.c) (hj : jumpsB i = true) : place l i.c.toNat < (madeL l).length := by
  have := ((plain_parts hp).2 i hi).2.2.2 hj
  obtain ⟨x, hx⟩ : ∃ x, l[i.c.toNat]? = some x := ⟨_, List.getElem?_eq_getElem (by omega)⟩
  have := place_lt hx
  have := wid_pos x
  omega
theorem fault_two {l : List Ins} (hf : fault l = 0) : faultIn l = 0 ∧ l.length ≤ 200 := by
  unfold fault at hf
  split at hf
  · cases hf
  · exact ⟨hf, by omega⟩
theorem made_fault {l : List Ins} (hf : fault l = 0) (hp : plainB l = true) (hl : (madeL l).length ≤ 200) : fault (madeL l) = 0 := by
  unfold fault
  rw [if_neg (by omega)]
  refine faultIn_all _ fun y hy => ?_
  obtain ⟨k, hk⟩ := List.getElem?_of_mem hy
  obtain ⟨c, i, j, hi, hj, _⟩ := made_of hk
  have hc := faultIn_mem l (fault_two hf).1 c i hi
  obtain ⟨_, _, hb, hcc, _, _⟩ := chk_parts i hc
  rcases tri_cases hj with ⟨h1, ⟨_, rfl⟩ | ⟨_, rfl⟩ | ⟨_, rfl⟩⟩ | ⟨_, h2, _, rfl⟩ | ⟨_, _, _, rfl⟩
  · exact chk_mask _ hb
  · decide
  · exact chk_access hc h1
  · exact chk_jump hc h2 (by have := jump_in hp (List.mem_of_getElem? hi) hcc.1 h2; omega)
  · exact hc
theorem made_last {l : List Ins} (hp : plainB l = true) : lastB (madeL l) = true := by
  have hl := (plain_parts hp).1
  unfold lastB at hl
  cases hg : l.getLast? with
  | none => rw [hg] at hl; cases hl
  | some i =>
    rw [hg] at hl
    simp only at hl
    have hne : l ≠ [] := by intro e; rw [e] at hg; simp at hg
    have hlen : 0 < l.length := List.length_pos_iff.2 hne
    rw [List.getLast?_eq_getElem?] at hg
    have hst : ldst i = false := by
      simp only [stopsB, Bool.or_eq_true, decide_eq_true_eq] at hl
      simp [ldst]
      omega
    have hw : wid i = 1 := by unfold wid; rw [hst]; rfl
    have hend : place l (l.length - 1) + 1 = (madeL l).length := by
      have h1 := place_next hg
      rw [hw, show l.length - 1 + 1 = l.length by omega] at h1
      rw [← h1, ← place_len, List.take_length]
      rfl
    unfold lastB
    rw [List.getLast?_eq_getElem?, show (madeL l).length - 1 = place l (l.length - 1) + 0 by omega, made_at hg 0 (by omega)]
    unfold tri
    rw [hst]
    cases hj : jumpsB i with
    | true =>
      show stopsB ⟨i.op, i.a, i.b, _⟩ = true
      exact hl
    | false => exact hl
theorem made_ok {l : List Ins} (hf : fault l = 0) (hp : plainB l = true) {k : Nat} {y : Ins} (hk : (madeL l)[k]? = some y) : okI (madeL l) k y = true := by
  obtain ⟨c, i, j, hi, hj, rfl⟩ := made_of hk
  have hc := faultIn_mem l (fault_two hf).1 c i hi
  obtain ⟨ho, _, _, hcc, _, _⟩ := chk_parts i hc
  obtain ⟨pa, pb, pc, pj⟩ := (plain_parts hp).2 i (List.mem_of_getElem? hi)
  rcases tri_cases hj with ⟨h1, ⟨rfl, rfl⟩ | ⟨rfl, rfl⟩ | ⟨rfl, rfl⟩⟩ | ⟨h1, h2, rfl, rfl⟩ | ⟨h1, h2, rfl, rfl⟩
  · have hn : nextB (madeL l) (place l c) = true := by
      unfold nextB
      rw [made_at hi 1 (by unfold wid; rw [h1]; decide)]
      unfold tri
      rw [h1]
      rfl
    unfold okI destB
    simp [inB, orBaseB, jumpsB, hn]
  · unfold okI destB
    simp [inB, orBaseB, jumpsB]
  · simp only [ldst, Bool.or_eq_true, decide_eq_true_eq] at h1
    have hd : destB (madeL l) (place l c + 2) ⟨i.op, i.a, 4, i.c⟩ = true := by
      unfold destB
      split
      · rw [if_neg (by dsimp only; omega), if_neg (by dsimp only; omega)]
      · rfl
    unfold okI
    rw [if_pos hd, if_neg]
    rintro (⟨_, h⟩ | ⟨h, _⟩)
    · exact h rfl
    · simp only [jumpsB, Bool.or_eq_true, decide_eq_true_eq] at h
      omega
  · have hlt := jump_in hp (List.mem_of_getElem? hi) hcc.1 h2
    simp only [jumpsB, Bool.or_eq_true, decide_eq_true_eq] at h2
    have hd : destB (madeL l) (place l c + 0) ⟨i.op, i.a, i.b, place l i.c.toNat⟩ = true := by
      unfold destB
      rw [if_neg (by simp [inB]; omega)]
    unfold okI
    rw [if_pos hd, if_neg]
    rintro (⟨h, _⟩ | ⟨_, h⟩)
    · dsimp only at h; omega
    · dsimp only at h; omega
  · have hd : destB (madeL l) (place l c + 0) y = true := by
      unfold destB
      split
      · rw [if_neg (by omega), if_neg (by omega)]
      · rfl
    unfold okI
    rw [if_pos hd, if_neg]
    rintro (⟨h, _⟩ | ⟨h, _⟩)
    · simp [ldst] at h1
      omega
    · rw [h2] at h
      cases h
/-- What is made of plain code is trusted. -/
theorem made_safe {l : List Ins} (hf : fault l = 0) (hp : plainB l = true) (hl : (madeL l).length ≤ 200) : safeT (madeL l) = 0 := by
  unfold safeT
  rw [if_pos (made_fault hf hp hl), if_pos]
  simp only [Bool.and_eq_true]
  refine ⟨made_last hp, List.all_eq_true.2 fun k hk => ?_⟩
  unfold okAt
  split
  · exact made_ok hf hp (by assumption)
  · rfl
end Go.Proofs.YtnnhhbjbdmgpiaaDoor.Cf
