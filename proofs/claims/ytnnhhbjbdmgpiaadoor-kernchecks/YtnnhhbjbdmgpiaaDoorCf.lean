/- Plain mathematics of chapter 1: instructions, their formats, and which error a list of them has. No Go in it. -/
namespace Go.Proofs.YtnnhhbjbdmgpiaaDoor.Cf
set_option maxRecDepth 100000

structure Ins where
  op : Int
  a : Int
  b : Int
  c : Int

/-- What A, B, C of a kind contain: 0 nothing, 1 a register, 2 a word, 3 a place. -/
def fmtTab : List (List Int) := [[0,0,0],[1,0,2],[1,1,1],[1,1,1],[1,1,1],[1,1,1],[1,1,1],[1,1,1],[1,1,0],[1,1,0],[0,0,3],[1,0,3],[0,0,3],[0,0,0],[1,0,0],[0,0,0]]
def fmt (op i : Nat) : Int := (fmtTab.getD op []).getD i 0
def larTab : List Int := [0, 7, 65535, 199]
def lar (k : Nat) : Int := larTab.getD k 0

def fitB (k v : Int) : Bool := decide (0 ≤ v) && decide (v ≤ lar k.toNat)
def fld (x : Ins) (i : Nat) : Int := [x.a, x.b, x.c].getD i 0
def fldB (x : Ins) (i : Nat) : Bool := fitB (fmt x.op.toNat i) (fld x i)
def opB (x : Ins) : Bool := decide (1 ≤ x.op) && decide (x.op ≤ 15)
def chk (x : Ins) : Int := if opB x then (if fldB x 0 && (fldB x 1 && fldB x 2) then 0 else 2) else 3
def faultIn : List Ins → Int
  | [] => 0
  | x :: r => if chk x = 0 then faultIn r else chk x
def fault (l : List Ins) : Int := if 200 < l.length then 1 else faultIn l

/-- The letters of the reference's shapes. -/
def shapeL (op : Int) : List UInt8 :=
  if op = 1 then [114, 45, 119] else if op = 8 ∨ op = 9 then [114, 114, 45] else if op = 10 ∨ op = 12 then [45, 45, 112] else if op = 11 then [114, 45, 112]
  else if op = 14 then [114, 45, 45] else if op = 13 ∨ op = 15 then [45, 45, 45] else [114, 114, 114]
def shape (op : Int) : ByteArray := ⟨(shapeL op).toArray⟩
def most (c : Int) : Int := if c = 114 then 7 else if c = 119 then 65535 else if c = 112 then 199 else 0
def inB (n lo hi : Int) : Bool := decide (lo ≤ n) && decide (n ≤ hi)

theorem faultIn_append (l : List Ins) (r : List Ins) : faultIn (l ++ r) = if faultIn l = 0 then faultIn r else faultIn l := by
  induction l with
  | nil => simp [faultIn]
  | cons x l ih =>
    simp only [List.cons_append, faultIn]
    by_cases h : chk x = 0
    · simp only [h, if_true]; exact ih
    · simp only [h, if_false]
theorem chk_two (x : Ins) (k : Nat) (hk : k < 3) (h1 : 1 ≤ x.op) (h2 : x.op ≤ 15) (h : fldB x k = false) : chk x = 2 := by
  have : k = 0 ∨ k = 1 ∨ k = 2 := by omega
  rcases this with rfl | rfl | rfl <;> simp [chk, opB, h1, h2, h]
theorem chk_zero (x : Ins) (h1 : 1 ≤ x.op) (h2 : x.op ≤ 15) (h : ∀ j, j < 3 → fldB x j = true) : chk x = 0 := by
  simp [chk, opB, h1, h2, h]
theorem shape_size (op : Int) : (shapeL op).length = 3 := by
  unfold shapeL
  repeat' split
  all_goals rfl
/-- The reference's letters and the program's tables say the same. -/
theorem most_fmt (op : Int) (h1 : 1 ≤ op) (h2 : op ≤ 15) (i : Nat) (hi : i < 3) : most ((((shapeL op).getD i 0).toNat : Nat) : Int) = lar (fmt op.toNat i).toNat := by
  have : op = 1 ∨ op = 2 ∨ op = 3 ∨ op = 4 ∨ op = 5 ∨ op = 6 ∨ op = 7 ∨ op = 8 ∨ op = 9 ∨ op = 10 ∨ op = 11 ∨ op = 12 ∨ op = 13 ∨ op = 14 ∨ op = 15 := by omega
  have hi' : i = 0 ∨ i = 1 ∨ i = 2 := by omega
  rcases this with h | h | h | h | h | h | h | h | h | h | h | h | h | h | h <;> rcases hi' with h' | h' | h' <;> subst h <;> subst h' <;> decide
theorem shape_three (op : Int) : ∃ x y z, shapeL op = [x, y, z] := by
  unfold shapeL
  repeat' split
  all_goals exact ⟨_, _, _, rfl⟩
theorem fault_at (l : List Ins) (k : Nat) (x : Ins) (hlen : ¬ 200 < l.length) (hlt : k < l.length) (hx : l[k]? = some x) (hz : faultIn (l.take k) = 0) (e : Int) (he : e ≠ 0) (hc : chk x = e) : fault l = e := by
  have hl : l = l.take k ++ x :: l.drop (k + 1) := by
    have hd := List.drop_eq_getElem_cons hlt
    rw [List.getElem?_eq_getElem hlt] at hx
    rw [Option.some.inj hx] at hd
    rw [← hd, List.take_append_drop]
  unfold fault
  rw [if_neg hlen, hl, faultIn_append, hz, if_pos rfl, faultIn, hc, if_neg he]
theorem fault_on (l : List Ins) (k : Nat) (x : Ins) (hx : l[k]? = some x) (hz : faultIn (l.take k) = 0) (hc : chk x = 0) : faultIn (l.take (k + 1)) = 0 := by
  rw [List.take_add_one, hx, faultIn_append, hz]; simp [faultIn, hc]
theorem fault_end (l : List Ins) (k : Nat) (hlen : ¬ 200 < l.length) (hk : ¬ k < l.length) (hz : faultIn (l.take k) = 0) : fault l = 0 := by
  have : l.take k = l := List.take_of_length_le (by omega)
  unfold fault
  rw [if_neg hlen, ← this, hz]
theorem chk_three (x : Ins) (h : inB x.op 1 15 = false) : chk x = 3 := by
  have h' : opB x = false := h
  simp [chk, h']
theorem fldB_in (x : Ins) (h : inB x.op 1 15 = true) (i : Nat) (hi : i < 3) : fldB x i = inB (fld x i) 0 (most ((((shapeL x.op).getD i 0).toNat : Nat) : Int)) := by
  simp [inB] at h
  rw [most_fmt x.op h.1 h.2 i hi]
  rfl
theorem chk_two' (x : Ins) (h : inB x.op 1 15 = true) {p q r : UInt8} (hs : shapeL x.op = [p, q, r])
    (hf : inB x.a 0 (most p.toNat) = false ∨ inB x.b 0 (most q.toNat) = false ∨ inB x.c 0 (most r.toNat) = false) : chk x = 2 := by
  have h' := h
  simp [inB] at h'
  rcases hf with hf | hf | hf
  · exact chk_two x 0 (by omega) h'.1 h'.2 (by rw [fldB_in x h 0 (by omega), hs]; exact hf)
  · exact chk_two x 1 (by omega) h'.1 h'.2 (by rw [fldB_in x h 1 (by omega), hs]; exact hf)
  · exact chk_two x 2 (by omega) h'.1 h'.2 (by rw [fldB_in x h 2 (by omega), hs]; exact hf)
theorem chk_zero' (x : Ins) (h : inB x.op 1 15 = true) {p q r : UInt8} (hs : shapeL x.op = [p, q, r])
    (h0 : inB x.a 0 (most p.toNat) = true) (h1 : inB x.b 0 (most q.toNat) = true) (h2 : inB x.c 0 (most r.toNat) = true) : chk x = 0 := by
  have h' := h
  simp [inB] at h'
  refine chk_zero x h'.1 h'.2 (fun j hj => ?_)
  rw [fldB_in x h j hj, hs]
  have : j = 0 ∨ j = 1 ∨ j = 2 := by omega
  rcases this with rfl | rfl | rfl
  · exact h0
  · exact h1
  · exact h2
theorem faultIn_mem : ∀ (l : List Ins), faultIn l = 0 → ∀ (k : Nat) (x : Ins), l[k]? = some x → chk x = 0
  | [], _, k, x, h => by simp at h
  | y :: l, hz, k, x, h => by
    have hy : chk y = 0 := by
      by_cases hy : chk y = 0
      · exact hy
      · simp [faultIn, hy] at hz
    cases k with
    | zero => simp at h; rw [← h]; exact hy
    | succ k =>
      simp [faultIn, hy] at hz
      exact faultIn_mem l hz k x (by simpa using h)
theorem chk_inv (x : Ins) (h : chk x = 0) : 1 ≤ x.op ∧ x.op ≤ 15 ∧ ∀ j, j < 3 → fldB x j = true := by
  unfold chk at h
  by_cases ho : opB x = true
  · rw [if_pos ho] at h
    by_cases hf : (fldB x 0 && (fldB x 1 && fldB x 2)) = true
    · simp [opB] at ho
      simp at hf
      refine ⟨ho.1, ho.2, fun j hj => ?_⟩
      have : j = 0 ∨ j = 1 ∨ j = 2 := by omega
      rcases this with rfl | rfl | rfl
      · exact hf.1
      · exact hf.2.1
      · exact hf.2.2
    · rw [if_neg hf] at h; cases h
  · rw [if_neg ho] at h; cases h
theorem fault_len (l : List Ins) (hf : fault l = 0) : l.length ≤ 200 := by
  unfold fault at hf
  split at hf
  · cases hf
  · omega
theorem fault_zero (l : List Ins) (k : Nat) (x : Ins) (hf : fault l = 0) (hx : l[k]? = some x) : 1 ≤ x.op ∧ x.op ≤ 15 ∧ ∀ j, j < 3 → fldB x j = true := by
  unfold fault at hf
  split at hf
  · cases hf
  · exact chk_inv x (faultIn_mem l hf k x hx)
end Go.Proofs.YtnnhhbjbdmgpiaaDoor.Cf
