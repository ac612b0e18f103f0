/- Plain mathematics of chapter 1: the text of code. No Go in it. -/
import Derived.Lib.ItoaNum
import Derived.Test.YtjmojbnjhcfdkaaDoorCf
namespace Go.Proofs.YtjmojbnjhcfdkaaDoor.Cf

def nameTab : List (List UInt8) := [[], [108, 105], [97, 100, 100], [115, 117, 98], [97, 110, 100], [111, 114], [120, 111, 114], [108, 116], [108, 100], [115, 116], [106, 109, 112], [106, 122], [99, 97, 108, 108], [114, 101, 116], [116, 101, 108, 108], [104, 97, 108, 116]]
def nameL (op : Int) : List UInt8 := nameTab.getD op.toNat []
def decL (v : Int) : List UInt8 := Lib.decDigits v.toNat
def showF (k v : Int) : List UInt8 := if k = 1 then 114 :: decL v else decL v
def showPart (k v : Int) : List UInt8 := if k = 0 then [] else 32 :: showF k v
def showUpTo (x : Ins) : Nat → List UInt8
  | 0 => nameL x.op
  | i + 1 => showUpTo x i ++ showPart (fmt x.op.toNat i) (fld x i)
def showIns (x : Ins) : List UInt8 := showUpTo x 3
def showAll (l : List Ins) : List UInt8 := l.flatMap fun x => showIns x ++ [10]

def showT (l : List Ins) : List UInt8 := if fault l = 0 then showAll l else []

theorem dec_small (v : Int) (h0 : 0 ≤ v) (h : v < 10) : decL v = [UInt8.ofNat (48 + v.toNat)] := by
  unfold decL
  rw [Lib.decDigits, dif_pos (by omega)]
theorem dec_big (v : Int) (h : 10 ≤ v) : decL v = decL (v / 10) ++ decL (v % 10) := by
  unfold decL
  rw [Lib.decDigits, dif_neg (by omega), show (v / 10).toNat = v.toNat / 10 by omega, show (v % 10).toNat = v.toNat % 10 by omega]
  congr 1
  rw [Lib.decDigits, dif_pos (by omega)]
theorem dec_len (v : Int) (h : v ≤ 99999) : (decL v).length ≤ 5 := by
  unfold decL
  rw [Lib.decDigits_length]
  have : v.toNat < 10 ^ 5 := by omega
  rcases Nat.lt_or_ge (Lib.nDigits v.toNat) 6 with h6 | h6
  · omega
  · exfalso
    have hn : ∀ k u, u < 10 ^ k → 1 ≤ k → Lib.nDigits u ≤ k := by
      intro k
      induction k with
      | zero => intro u _ h1; omega
      | succ k ih =>
        intro u hu _
        by_cases h10 : u < 10
        · rw [Lib.nDigits_small h10]; omega
        · rw [Lib.nDigits_big h10]
          rw [Nat.pow_succ] at hu
          have hk : 1 ≤ k := by
            rcases Nat.eq_zero_or_pos k with rfl | h
            · simp at hu; omega
            · exact h
          have := ih (u / 10) (by omega) hk
          omega
    have := hn 5 v.toNat this (by omega)
    omega
/-- What the reference's letters say, by the program's formats. -/
theorem shape_fmt (op : Int) (h1 : 1 ≤ op) (h2 : op ≤ 15) (i : Nat) (hi : i < 3) :
    ((shapeL op).getD i 0 = 45 ∧ fmt op.toNat i = 0) ∨ ((shapeL op).getD i 0 = 114 ∧ fmt op.toNat i = 1) ∨ (((shapeL op).getD i 0 = 119 ∨ (shapeL op).getD i 0 = 112) ∧ fmt op.toNat i ≠ 0 ∧ fmt op.toNat i ≠ 1) := by
  have : op = 1 ∨ op = 2 ∨ op = 3 ∨ op = 4 ∨ op = 5 ∨ op = 6 ∨ op = 7 ∨ op = 8 ∨ op = 9 ∨ op = 10 ∨ op = 11 ∨ op = 12 ∨ op = 13 ∨ op = 14 ∨ op = 15 := by omega
  have hi' : i = 0 ∨ i = 1 ∨ i = 2 := by omega
  rcases this with h | h | h | h | h | h | h | h | h | h | h | h | h | h | h <;> rcases hi' with h' | h' | h' <;> subst h <;> subst h' <;> decide
theorem name_len (op : Int) : (nameL op).length ≤ 4 := by
  unfold nameL
  by_cases h : op.toNat < nameTab.length
  · rw [List.getD_eq_getElem?_getD, List.getElem?_eq_getElem h]
    have : ∀ x ∈ nameTab, x.length ≤ 4 := by decide
    exact this _ (List.getElem_mem h)
  · rw [List.getD_eq_getElem?_getD, List.getElem?_eq_none (by omega)]
    simp
theorem lar_le (k : Nat) : lar k ≤ 65535 := by
  unfold lar
  by_cases h : k < larTab.length
  · rw [List.getD_eq_getElem?_getD, List.getElem?_eq_getElem h]
    have : ∀ x ∈ larTab, x ≤ 65535 := by decide
    exact this _ (List.getElem_mem h)
  · rw [List.getD_eq_getElem?_getD, List.getElem?_eq_none (by omega)]
    decide
theorem fld_range (x : Ins) (j : Nat) (h : fldB x j = true) : 0 ≤ fld x j ∧ fld x j ≤ 65535 := by
  simp [fldB, fitB] at h
  exact ⟨h.1, Int.le_trans h.2 (lar_le _)⟩
theorem part_len (k v : Int) (h : v ≤ 65535) : (showPart k v).length ≤ 7 := by
  have := dec_len v (by omega)
  unfold showPart showF
  split
  · simp
  · split <;> simp <;> omega
theorem upTo_len (x : Ins) (i : Nat) (h : ∀ j, j < 3 → fldB x j = true) (hi : i ≤ 3) : (showUpTo x i).length ≤ 4 + 7 * i := by
  induction i with
  | zero => simpa [showUpTo] using name_len x.op
  | succ i ih =>
    have h1 := ih (by omega)
    have h2 := part_len (fmt x.op.toNat i) (fld x i) (fld_range x i (h i (by omega))).2
    simp only [showUpTo, List.length_append]
    omega
theorem all_len (l : List Ins) (h : faultIn l = 0) : (showAll l).length ≤ 26 * l.length := by
  induction l with
  | nil => simp [showAll]
  | cons x l ih =>
    have hx : chk x = 0 := faultIn_mem (x :: l) h 0 x rfl
    have hl : faultIn l = 0 := by simpa [faultIn, hx] using h
    have h1 := ih hl
    have h2 := upTo_len x 3 (chk_inv x hx).2.2 (Nat.le_refl _)
    have : showAll (x :: l) = (showIns x ++ [10]) ++ showAll l := by simp [showAll]
    rw [this]
    simp only [List.length_append, List.length_cons, List.length_nil]
    have : (showIns x).length ≤ 25 := h2
    omega
theorem faultIn_take (l : List Ins) (h : faultIn l = 0) (k : Nat) : faultIn (l.take k) = 0 := by
  have := faultIn_append (l.take k) (l.drop k)
  rw [List.take_append_drop, h] at this
  by_cases hz : faultIn (l.take k) = 0
  · exact hz
  · rw [if_neg hz] at this; exact this.symm
theorem take_len (l : List Ins) (h : fault l = 0) (k : Nat) : (showAll (l.take k)).length ≤ 5200 := by
  have hf : faultIn l = 0 := by
    have := fault_len l h
    unfold fault at h
    rwa [if_neg (by omega)] at h
  have h1 := all_len (l.take k) (faultIn_take l hf k)
  have h2 := fault_len l h
  have h3 : (l.take k).length ≤ l.length := by rw [List.length_take]; omega
  omega
theorem all_snoc (l : List Ins) (k : Nat) (x : Ins) (hx : l[k]? = some x) : showAll (l.take (k + 1)) = showAll (l.take k) ++ (showIns x ++ [10]) := by
  rw [List.take_add_one, hx]
  simp [showAll]
end Go.Proofs.YtjmojbnjhcfdkaaDoor.Cf
