/- Plain mathematics of chapter 1: reading the text of code gives the code back, and the other way round. No Go in it. -/
import Derived.Test.YthbjeleiiilhlaaDoorReadQ
namespace Go.Proofs.YthbjeleiiilhlaaDoor.Cf

theorem join_snoc (c : UInt8) : ∀ (ps : List (List UInt8)) (t : List UInt8), ps ≠ [] → joinL c (ps ++ [t]) = joinL c ps ++ c :: t
  | [], _, h => absurd rfl h
  | [p], t, _ => by simp [joinL]
  | p :: q :: ps, t, _ => by
    have := join_snoc c (q :: ps) t (by simp)
    simp only [List.cons_append] at this ⊢
    rw [joinL, this, joinL]
    simp
/-- The words of the first i fields. -/
def fW (x : Ins) : Nat → List (List UInt8)
  | 0 => []
  | i + 1 => fW x i ++ (if fmt x.op.toNat i = 0 then [] else [showF (fmt x.op.toNat i) (fld x i)])
theorem upTo_join (x : Ins) (i : Nat) : showUpTo x i = joinL 32 (nameL x.op :: fW x i) := by
  induction i with
  | zero => simp [showUpTo, fW, joinL]
  | succ i ih =>
    rw [showUpTo, fW, ih, showPart]
    by_cases h : fmt x.op.toNat i = 0
    · rw [if_pos h, if_pos h]; simp
    · rw [if_neg h, if_neg h, ← List.cons_append, join_snoc 32 _ _ (by simp)]
theorem mem_showF (k v : Int) (c : UInt8) (h : c ∈ showF k v) : c = 114 ∨ dig c = true := by
  unfold showF at h
  split at h
  · rcases List.mem_cons.1 h with h | h
    · exact .inl h
    · exact .inr (dec_dig _ _ h)
  · exact .inr (dec_dig _ _ h)
theorem showF_free (k v : Int) (c : UInt8) (hc : c.toNat < 48) : c ∉ showF k v := by
  intro h
  rcases mem_showF k v c h with h | h
  · subst h; revert hc; decide
  · simp [dig] at h; omega
theorem name_free (op : Int) (c : UInt8) (hc : c.toNat < 48) : c ∉ nameL op := by
  unfold nameL
  have key : ∀ p ∈ nameTab, ∀ d ∈ p, 48 ≤ d.toNat := by decide
  intro h
  rw [List.getD_eq_getElem?_getD] at h
  cases hn : nameTab[op.toNat]? with
  | none => rw [hn] at h; simp at h
  | some p =>
    rw [hn] at h
    have := key p (List.mem_of_getElem? hn) c h
    omega
theorem fW_free (x : Ins) (i : Nat) (c : UInt8) (hc : c.toNat < 48) : ∀ p ∈ fW x i, c ∉ p := by
  induction i with
  | zero => intro p hp; simp [fW] at hp
  | succ i ih =>
    intro p hp
    rw [fW] at hp
    rcases List.mem_append.1 hp with hp | hp
    · exact ih p hp
    · split at hp
      · simp at hp
      · simp at hp; rw [hp]; exact showF_free _ _ _ hc
theorem split_ins (x : Ins) : splitL 32 (showIns x) = nameL x.op :: fW x 3 := by
  unfold showIns
  rw [upTo_join]
  refine split_join 32 _ (by simp) (fun p hp => ?_)
  rcases List.mem_cons.1 hp with rfl | hp
  · exact name_free _ _ (by decide)
  · exact fW_free x 3 32 (by decide) p hp
theorem ins_free (x : Ins) : (10 : UInt8) ∉ showIns x := by
  intro h
  unfold showIns at h
  have : ∀ i, (10 : UInt8) ∉ showUpTo x i := by
    intro i
    induction i with
    | zero => exact name_free _ _ (by decide)
    | succ i ih =>
      rw [showUpTo, List.mem_append]
      rintro (h | h)
      · exact ih h
      · unfold showPart at h
        split at h
        · simp at h
        · rcases List.mem_cons.1 h with h | h
          · revert h; decide
          · exact showF_free _ _ _ (by decide) h
  exact this 3 h
theorem find_name (op : Int) (h1 : 1 ≤ op) (h2 : op ≤ 15) : findK (nameL op) = some op.toNat := by
  have : op = 1 ∨ op = 2 ∨ op = 3 ∨ op = 4 ∨ op = 5 ∨ op = 6 ∨ op = 7 ∨ op = 8 ∨ op = 9 ∨ op = 10 ∨ op = 11 ∨ op = 12 ∨ op = 13 ∨ op = 14 ∨ op = 15 := by omega
  rcases this with h | h | h | h | h | h | h | h | h | h | h | h | h | h | h <;> subst h <;> decide
theorem fld_unused (x : Ins) (i : Nat) (hf : fldB x i = true) (h0 : fmt x.op.toNat i = 0) : fld x i = 0 := by
  rw [fldB, h0] at hf
  simp [fitB, lar, larTab] at hf
  omega
theorem pst_show (x : Ins) (hv : ∀ j, j < 3 → fldB x j = true) (rest : List (List UInt8)) : ∀ i, i ≤ 3 → pst x.op.toNat i (fW x i ++ rest) = some ((List.range i).map (fld x), rest) ∧ True := by
  have key : ∀ i, i ≤ 3 → ∀ rest, pst x.op.toNat i (fW x i ++ rest) = some ((List.range i).map (fld x), rest) := by
    intro i
    induction i with
    | zero => intro _ rest; rfl
    | succ i ih =>
      intro hi rest
      have hfl := hv i (by omega)
      rw [List.range_succ, List.map_append, List.map_cons, List.map_nil]
      by_cases h0 : fmt x.op.toNat i = 0
      · have h1 : fW x (i + 1) ++ rest = fW x i ++ rest := by rw [fW, if_pos h0, List.append_nil]
        rw [h1, pst_zero _ i _ _ _ (ih (by omega) rest) h0, fld_unused x i hfl h0]
      · have h1 : fW x (i + 1) ++ rest = fW x i ++ (showF (fmt x.op.toNat i) (fld x i) :: rest) := by rw [fW, if_neg h0, List.append_assoc]; rfl
        rw [h1]
        refine pst_good _ i _ _ _ _ _ (ih (by omega) _) h0 ((fieldOf_some _ _ _).2 ⟨?_, rfl⟩)
        simp [fldB, fitB] at hfl
        exact hfl
  exact fun i hi => ⟨key i hi rest, trivial⟩
theorem parse_show (x : Ins) (h : chk x = 0) : parseL (showIns x) = some x := by
  obtain ⟨h1, h2, hv⟩ := chk_inv x h
  have hp := (pst_show x hv [] 3 (Nat.le_refl _)).1
  rw [List.append_nil] at hp
  unfold parseL
  rw [split_ins, parseW_some _ _ x.op.toNat (fld x 0) (fld x 1) (fld x 2) (find_name x.op h1 h2) hp]
  cases x with
  | mk op a b c =>
    simp only [fld, List.getD_cons_zero, List.getD_cons_succ]
    congr 2
    simp at h1
    omega
theorem pst_inv (x : Ins) : ∀ i ps vs q, i ≤ 3 → pst x.op.toNat i ps = some (vs, q) → (∀ j, j < i → vs.getD j 0 = fld x j) → ps = fW x i ++ q ∧ ∀ j, j < i → fldB x j = true := by
  intro i
  induction i with
  | zero =>
    intro ps vs q _ h _
    simp [pst] at h
    exact ⟨by simp [fW, h.2], fun j hj => by omega⟩
  | succ i ih =>
    intro ps vs q hi h hvs
    simp only [pst] at h
    cases hp : pst x.op.toNat i ps with
    | none => rw [hp] at h; cases h
    | some y =>
      obtain ⟨vs', q'⟩ := y
      rw [hp] at h
      simp only at h
      have hl := pst_len _ i ps vs' q' hp
      have step : ∀ (v : Int) (r : List (List UInt8)), vs = vs' ++ [v] → (ps = fW x i ++ q' → ps = fW x (i + 1) ++ r) → (fld x i = v → fldB x i = true) → q = r → ps = fW x (i + 1) ++ q ∧ ∀ j, j < i + 1 → fldB x j = true := by
        intro v r hvv hps hfl hq
        have hv' : ∀ j, j < i → vs'.getD j 0 = fld x j := by
          intro j hj
          have := hvs j (by omega)
          rw [hvv] at this
          rw [← this]
          simp only [List.getD_eq_getElem?_getD]
          rw [List.getElem?_append_left (by omega)]
        have hvi : fld x i = v := by
          have := hvs i (by omega)
          rw [hvv] at this
          rw [← this]
          simp [List.getD_eq_getElem?_getD, hl]
        obtain ⟨e, hall⟩ := ih ps vs' q' (by omega) hp hv'
        refine ⟨by rw [hq]; exact hps e, fun j hj => ?_⟩
        by_cases hj' : j < i
        · exact hall j hj'
        · have : j = i := by omega
          subst this
          exact hfl hvi
      split at h
      · rename_i h0
        cases h
        refine step 0 q rfl (fun e => by rw [fW, if_pos h0, List.append_nil]; exact e) (fun e => ?_) rfl
        rw [fldB, e, h0]; decide
      · rename_i h0
        cases q' with
        | nil => cases h
        | cons t r =>
          simp only at h
          cases hf : fieldOf (fmt x.op.toNat i) t with
          | none => rw [hf] at h; cases h
          | some v =>
            rw [hf] at h
            cases h
            obtain ⟨⟨g0, g1⟩, g2⟩ := (fieldOf_some _ _ _).1 hf
            refine step v q rfl (fun e => ?_) (fun e => ?_) rfl
            · have hvi : fld x i = v := by
                have := hvs i (by omega)
                rw [← this]
                simp [List.getD_eq_getElem?_getD, hl]
              rw [fW, if_neg h0, List.append_assoc, hvi, g2]
              exact e
            · rw [fldB, e]; simp [fitB, g0, g1]
theorem show_parse (line : List UInt8) (x : Ins) (h : parseL line = some x) : chk x = 0 ∧ showIns x = line := by
  unfold parseL at h
  cases hs : splitL 32 line with
  | nil => exact absurd hs (split_ne 32 line)
  | cons nm ps =>
    rw [hs, parseW, parseN] at h
    cases hf : findK nm with
    | none => rw [hf] at h; cases h
    | some op =>
      rw [hf, Option.bind_some, pst3] at h
      obtain ⟨r1, r2, r3⟩ := findK_range nm op hf
      cases hp : pst op 3 ps with
      | none => rw [hp] at h; cases h
      | some y =>
        obtain ⟨vs, q⟩ := y
        rw [hp] at h
        cases q with
        | cons t r => rw [finish_more] at h; cases h
        | nil =>
          obtain ⟨a, b, c, rfl⟩ : ∃ a b c, vs = [a, b, c] := by
            have hl := pst_len op 3 ps vs _ hp
            match vs, hl with
            | [a, b, c], _ => exact ⟨a, b, c, rfl⟩
          injection h with h
          subst h
          have hinv := pst_inv ⟨op, a, b, c⟩ 3 ps [a, b, c] [] (Nat.le_refl _) (by simpa using hp) (fun j hj => by
            have : j = 0 ∨ j = 1 ∨ j = 2 := by omega
            rcases this with rfl | rfl | rfl <;> rfl)
          refine ⟨chk_zero _ (by show (1 : Int) ≤ op; omega) (by show (op : Int) ≤ 15; omega) hinv.2, ?_⟩
          have hj := join_split 32 line
          rw [hs] at hj
          rw [← hj, showIns, upTo_join, hinv.1, List.append_nil]
          have : nameTab.getD ((op : Int)).toNat [] = nm := by
            rw [Int.toNat_natCast]; exact r3
          exact congrArg (fun z => joinL 32 (z :: fW _ 3)) this
theorem split_all (a : List Ins) : splitL 10 (showAll a) = a.map showIns ++ [[]] := by
  induction a with
  | nil => rfl
  | cons x a ih =>
    have : showAll (x :: a) = showIns x ++ 10 :: showAll a := by simp [showAll]
    rw [this, split_hit 10 _ _ (ins_free x), ih]
    rfl
theorem readP_show : ∀ (a acc : List Ins), faultIn a = 0 → acc.length + a.length ≤ 200 → readP acc (a.map showIns ++ [[]]) = ⟨acc ++ a, 0, 0⟩
  | [], acc, _, _ => by simp [readP]
  | x :: a, acc, hz, hl => by
    have hx : chk x = 0 := faultIn_mem (x :: a) hz 0 x rfl
    have ha : faultIn a = 0 := by simpa [faultIn, hx] using hz
    have hrest : a.map showIns ++ [[]] ≠ [] := by simp
    cases hr : a.map showIns ++ [[]] with
    | nil => exact absurd hr hrest
    | cons m r =>
      rw [List.map_cons, List.cons_append, hr, readP, if_neg (by simp at hl; omega), parse_show x hx]
      simp only
      rw [← hr, readP_show a (acc ++ [x]) ha (by simp at hl ⊢; omega)]
      simp
theorem read_show (a : List Ins) (hf : fault a = 0) (hl : (showAll a).length ≤ 4000) : readT (showAll a) = ⟨a, 0, 0⟩ := by
  have hlen := fault_len a hf
  have hz : faultIn a = 0 := by
    unfold fault at hf
    rwa [if_neg (by omega)] at hf
  unfold readT
  rw [if_neg (by omega), split_all, readP_show a [] hz (by simpa using hlen)]
  rfl
theorem readP_inv : ∀ (ps : List (List UInt8)) (acc : List Ins), ps ≠ [] → acc.length ≤ 200 → (readP acc ps).err = 0 → ∃ b, (readP acc ps) = ⟨acc ++ b, 0, 0⟩ ∧ faultIn b = 0 ∧ joinL 10 ps = showAll b ∧ (acc ++ b).length ≤ 200
  | [], _, h, _, _ => absurd rfl h
  | [last], acc, _, hl, he => by
    rw [readP] at he ⊢
    split at he
    · rename_i h0
      rw [if_pos h0]
      exact ⟨[], by simp, rfl, by simp [joinL, h0, showAll], by simpa using hl⟩
    · simp at he
  | line :: more :: rest, acc, _, hl, he => by
    rw [readP] at he ⊢
    split at he
    · simp at he
    · rename_i h200
      rw [if_neg h200]
      cases hp : parseL line with
      | none => rw [hp] at he; simp at he
      | some x =>
        rw [hp] at he
        simp only at he ⊢
        obtain ⟨b, h1, h2, h3, h4⟩ := readP_inv (more :: rest) (acc ++ [x]) (by simp) (by simp; omega) he
        obtain ⟨hx, hsx⟩ := show_parse line x hp
        refine ⟨x :: b, by rw [h1]; simp, by simp [faultIn, hx, h2], ?_, by simpa using h4⟩
        rw [joinL, h3, ← hsx]
        simp [showAll]
theorem show_read (s : List UInt8) (he : (readT s).err = 0) : (readT s).line = 0 ∧ fault (readT s).code = 0 ∧ showAll (readT s).code = s := by
  unfold readT at he ⊢
  split at he
  · simp at he
  · rename_i h4
    rw [if_neg h4]
    obtain ⟨b, h1, h2, h3, h5⟩ := readP_inv (splitL 10 s) [] (split_ne _ _) (by simp) he
    rw [h1]
    simp only [List.nil_append] at h5 ⊢
    refine ⟨trivial, ?_, by rw [← h3, join_split]⟩
    unfold fault
    rw [if_neg (by omega), h2]
end Go.Proofs.YthbjeleiiilhlaaDoor.Cf
