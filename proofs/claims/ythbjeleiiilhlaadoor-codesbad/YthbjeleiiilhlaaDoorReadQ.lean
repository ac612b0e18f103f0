/- Plain mathematics of chapter 1: a line's words, a line, the lines. No Go in it. -/
import Derived.Test.YthbjeleiiilhlaaDoorReadP
namespace Go.Proofs.YthbjeleiiilhlaaDoor.Cf

/-- A field of the content k out of a word. -/
def numField (k : Int) (d : List UInt8) : Option Int := if inB (numI d) 0 (lar k.toNat) then some (numI d) else none
def fieldOf (k : Int) (t : List UInt8) : Option Int :=
  if k = 1 then (match t with | [] => none | c :: d => if c = 114 then numField k d else none) else numField k t
theorem numField_some (k : Int) (d : List UInt8) (v : Int) : numField k d = some v ↔ (0 ≤ v ∧ v ≤ lar k.toNat) ∧ decL v = d := by
  unfold numField
  constructor
  · intro h
    split at h
    · rename_i hi
      simp [inB] at hi
      cases h
      exact ⟨hi, dec_num d hi.1⟩
    · cases h
  · rintro ⟨⟨h0, h1⟩, rfl⟩
    have := lar_le k.toNat
    rw [num_dec v h0 (by omega), if_pos (by simp [inB, h0, h1])]
theorem fieldOf_some (k : Int) (t : List UInt8) (v : Int) : fieldOf k t = some v ↔ (0 ≤ v ∧ v ≤ lar k.toNat) ∧ showF k v = t := by
  unfold fieldOf showF
  by_cases hk : k = 1
  · rw [if_pos hk, if_pos hk]
    cases t with
    | nil => simp
    | cons c d =>
      by_cases hc : c = 114
      · subst hc
        simp only [if_true]
        rw [numField_some]
        simp
      · simp only [hc, if_false]
        constructor
        · intro h; cases h
        · rintro ⟨_, h⟩
          injection h with h1 _
          exact absurd h1.symm hc
  · rw [if_neg hk, if_neg hk]
    exact numField_some k t v
/-- What the program's way gives: Go's Atoi behind a cut 'r', in its bounds, and shown again. -/
theorem trim_show (k v : Int) : Lib.trimPrefix (showF k v) [114] = decL v := by
  unfold showF Lib.trimPrefix Lib.hasPrefix
  by_cases hk : k = 1
  · simp [hk]
  · rw [if_neg hk]
    cases hd : decL v with
    | nil => rfl
    | cons c r =>
      have hm : c ∈ decL v := by rw [hd]; simp
      have hc : dig c = true := dec_dig v.toNat c hm
      have hne : ¬ (114 : UInt8) = c := by
        rintro rfl
        revert hc
        decide
      simp [hne]
theorem field_iff (k : Int) (t : List UInt8) : (∃ v, Lib.atoiAll (Lib.trimPrefix t [114]) = .ok v ∧ fitB k v = true ∧ showF k v = t) ↔ (fieldOf k t).isSome = true := by
  rw [Option.isSome_iff_exists]
  constructor
  · rintro ⟨v, _, h2, h3⟩
    simp [fitB] at h2
    exact ⟨v, (fieldOf_some k t v).2 ⟨h2, h3⟩⟩
  · rintro ⟨v, hv⟩
    obtain ⟨⟨h0, h1⟩, rfl⟩ := (fieldOf_some k t v).1 hv
    have := lar_le k.toNat
    exact ⟨v, by rw [trim_show k v]; exact atoi_dec v h0 (by omega), by simp [fitB, h0, h1], rfl⟩
theorem field_val (k : Int) (t : List UInt8) (v u : Int) (hv : fieldOf k t = some v) (hu : Lib.atoiAll (Lib.trimPrefix t [114]) = .ok u) : u = v := by
  obtain ⟨⟨h0, h1⟩, rfl⟩ := (fieldOf_some k t v).1 hv
  have := lar_le k.toNat
  rw [trim_show k v, atoi_dec v h0 (by omega)] at hu
  injection hu with hu
  exact hu.symm

/-- The kind of a name. -/
def findOp (nm : List UInt8) : Nat → Option Nat
  | 0 => none
  | n + 1 => match findOp nm n with
    | some p => some p
    | none => if nameTab.getD (n + 1) [] = nm then some (n + 1) else none
theorem findOp_range (nm : List UInt8) : ∀ n p, findOp nm n = some p → 1 ≤ p ∧ p ≤ n ∧ nameTab.getD p [] = nm := by
  intro n
  induction n with
  | zero => intro p h; cases h
  | succ n ih =>
    intro p h
    simp only [findOp] at h
    cases hf : findOp nm n with
    | some q => rw [hf] at h; cases h; obtain ⟨h1, h2, h3⟩ := ih _ hf; exact ⟨h1, by omega, h3⟩
    | none =>
      rw [hf] at h
      simp only at h
      split at h
      · cases h; exact ⟨by omega, by omega, by assumption⟩
      · cases h
theorem findOp_mono (nm : List UInt8) (n p : Nat) (h : findOp nm n = some p) : ∀ m, n ≤ m → findOp nm m = some p := by
  intro m
  induction m with
  | zero => intro hm; have : n = 0 := by omega
            subst this; exact h
  | succ m ih =>
    intro hm
    by_cases e : n = m + 1
    · subst e; exact h
    · simp only [findOp, ih (by omega)]
/-- The fields, so many of them, off the front of the words. -/
def pst (op : Nat) : Nat → List (List UInt8) → Option (List Int × List (List UInt8))
  | 0, ps => some ([], ps)
  | i + 1, ps => match pst op i ps with
    | none => none
    | some (vs, qs) => if fmt op i = 0 then some (vs ++ [0], qs) else match qs with
      | [] => none
      | t :: r => match fieldOf (fmt op i) t with
        | none => none
        | some v => some (vs ++ [v], r)
theorem pst_len (op : Nat) : ∀ i ps vs qs, pst op i ps = some (vs, qs) → vs.length = i := by
  intro i
  induction i with
  | zero => intro ps vs qs h; simp [pst] at h; simp [h.1.symm]
  | succ i ih =>
    intro ps vs qs h
    simp only [pst] at h
    cases hp : pst op i ps with
    | none => rw [hp] at h; cases h
    | some x =>
      obtain ⟨vs', qs'⟩ := x
      rw [hp] at h
      simp only at h
      have := ih ps vs' qs' hp
      split at h
      · cases h; simp [this]
      · cases qs' with
        | nil => cases h
        | cons t r =>
          simp only at h
          cases hf : fieldOf (fmt op i) t with
          | none => rw [hf] at h; cases h
          | some v => rw [hf] at h; cases h; simp [this]
theorem pst_none (op : Nat) (ps : List (List UInt8)) (i : Nat) (h : pst op i ps = none) : ∀ j, i ≤ j → pst op j ps = none := by
  intro j
  induction j with
  | zero => intro hj; have : i = 0 := by omega
            subst this; exact h
  | succ j ih =>
    intro hj
    by_cases e : i = j + 1
    · subst e; exact h
    · simp only [pst, ih (by omega)]
def findK (nm : List UInt8) : Option Nat := findOp nm 15
theorem findK_range (nm : List UInt8) (p : Nat) (h : findK nm = some p) : 1 ≤ p ∧ p ≤ 15 ∧ nameTab.getD p [] = nm := findOp_range nm 15 p h
/-- A line's words as an instruction. -/
def finish (op : Nat) (x : Option (List Int × List (List UInt8))) : Option Ins :=
  match x with
  | some ([a, b, c], []) => some ⟨op, a, b, c⟩
  | _ => none
theorem finish_more (op : Nat) (vs : List Int) (t : List UInt8) (r : List (List UInt8)) : finish op (some (vs, t :: r)) = none := by
  match vs with
  | [] => rfl
  | [_] => rfl
  | [_, _] => rfl
  | [_, _, _] => rfl
  | _ :: _ :: _ :: _ :: _ => rfl
def pst3 (op : Nat) (ps : List (List UInt8)) : Option (List Int × List (List UInt8)) := pst op 3 ps
def parseN (nm : List UInt8) (ps : List (List UInt8)) : Option Ins := (findK nm).bind fun op => finish op (pst3 op ps)
def parseW : List (List UInt8) → Option Ins
  | [] => none
  | nm :: ps => parseN nm ps
theorem parseW_none (nm : List UInt8) (ps : List (List UInt8)) (h : findK nm = none) : parseW (nm :: ps) = none := by
  rw [parseW, parseN, h]; rfl
theorem parseW_pst (nm : List UInt8) (ps : List (List UInt8)) (op i : Nat) (h : findK nm = some op) (hi : i ≤ 3) (hp : pst op i ps = none) : parseW (nm :: ps) = none := by
  rw [parseW, parseN, h, Option.bind_some, pst3, pst_none op ps i hp 3 hi]; rfl
theorem parseW_more (nm : List UInt8) (ps : List (List UInt8)) (op : Nat) (vs : List Int) (q : List (List UInt8)) (h : findK nm = some op) (hp : pst op 3 ps = some (vs, q)) (hq : q ≠ []) : parseW (nm :: ps) = none := by
  rw [parseW, parseN, h, Option.bind_some, pst3, hp]
  cases q with
  | nil => exact absurd rfl hq
  | cons t r => exact finish_more op vs t r
theorem parseW_some (nm : List UInt8) (ps : List (List UInt8)) (op : Nat) (a b c : Int) (h : findK nm = some op) (hp : pst op 3 ps = some ([a, b, c], [])) : parseW (nm :: ps) = some ⟨op, a, b, c⟩ := by
  rw [parseW, parseN, h, Option.bind_some, pst3, hp]; rfl
theorem pst_zero (op i : Nat) (ps : List (List UInt8)) (vs : List Int) (q : List (List UInt8)) (h : pst op i ps = some (vs, q)) (hf : fmt op i = 0) : pst op (i + 1) ps = some (vs ++ [0], q) := by
  simp only [pst, h, hf, if_true]
theorem pst_nil (op i : Nat) (ps : List (List UInt8)) (vs : List Int) (h : pst op i ps = some (vs, [])) (hf : fmt op i ≠ 0) : pst op (i + 1) ps = none := by
  simp only [pst, h, hf, if_false]
theorem pst_bad (op i : Nat) (ps : List (List UInt8)) (vs : List Int) (t : List UInt8) (r : List (List UInt8)) (h : pst op i ps = some (vs, t :: r)) (hf : fmt op i ≠ 0) (ht : fieldOf (fmt op i) t = none) : pst op (i + 1) ps = none := by
  simp only [pst, h, hf, if_false, ht]
theorem pst_good (op i : Nat) (ps : List (List UInt8)) (vs : List Int) (t : List UInt8) (r : List (List UInt8)) (v : Int) (h : pst op i ps = some (vs, t :: r)) (hf : fmt op i ≠ 0) (ht : fieldOf (fmt op i) t = some v) : pst op (i + 1) ps = some (vs ++ [v], r) := by
  simp only [pst, h, hf, if_false, ht]
theorem pst_mem (op : Nat) : ∀ i ps vs q, pst op i ps = some (vs, q) → ∀ t ∈ q, t ∈ ps := by
  intro i
  induction i with
  | zero => intro ps vs q h t ht; simp [pst] at h; rw [h.2]; exact ht
  | succ i ih =>
    intro ps vs q h t ht
    simp only [pst] at h
    cases hp : pst op i ps with
    | none => rw [hp] at h; cases h
    | some x =>
      obtain ⟨vs', q'⟩ := x
      rw [hp] at h
      simp only at h
      split at h
      · cases h; exact ih ps _ _ hp t ht
      · cases q' with
        | nil => cases h
        | cons u r =>
          simp only at h
          cases hf : fieldOf (fmt op i) u with
          | none => rw [hf] at h; cases h
          | some v => rw [hf] at h; cases h; exact ih ps _ _ hp t (List.mem_cons_of_mem _ ht)
def parseL (line : List UInt8) : Option Ins := parseW (splitL 32 line)
structure Got where
  code : List Ins
  line : Int
  err : Int
/-- The lines: the last piece is what no line feed ends. -/
def readP (acc : List Ins) : List (List UInt8) → Got
  | [] => ⟨acc, 0, 0⟩
  | [last] => if last = [] then ⟨acc, 0, 0⟩ else ⟨[], acc.length + 1, 5⟩
  | line :: more :: rest => if acc.length = 200 then ⟨[], acc.length + 1, 1⟩ else match parseL line with
    | none => ⟨[], acc.length + 1, 4⟩
    | some x => readP (acc ++ [x]) (more :: rest)
def readT (s : List UInt8) : Got := if 4000 < s.length then ⟨[], 0, 1⟩ else readP [] (splitL 10 s)
theorem readP_len : ∀ (ps : List (List UInt8)) (acc : List Ins), acc.length ≤ 200 → (readP acc ps).code.length ≤ 200
  | [], acc, h => h
  | [last], acc, h => by
    rw [readP]; split
    · exact h
    · simp
  | line :: more :: rest, acc, h => by
    rw [readP]
    split
    · simp
    · split
      · simp
      · exact readP_len (more :: rest) _ (by simp; omega)
theorem readT_len (s : List UInt8) : (readT s).code.length ≤ 200 := by
  unfold readT
  split
  · simp
  · exact readP_len _ [] (by simp)
end Go.Proofs.YthbjeleiiilhlaaDoor.Cf
