/- Small words for the walks of chapter 3. No Go in it. -/
import Derived.Test.YtnnhhbjbdmgpiaaDoorMadeP
namespace Go.Proofs.YtnnhhbjbdmgpiaaDoor
set_option maxRecDepth 100000

theorem eqb {x y : Int} (h : x = y) : (x == y) = true := by rw [beq_iff_eq]; exact h
theorem neb {x y : Int} (h : ¬ x = y) : (x == y) = false := by rw [beq_eq_false_iff_ne]; exact h
theorem eqn {x y : Int} (h : x = y) : (x != y) = false := by simp [h]
theorem nen {x y : Int} (h : ¬ x = y) : (x != y) = true := by simp [h]
/-- An instruction that uses a register which is kept for the region. -/
def Cf.useB (i : Cf.Ins) : Bool := Cf.inB i.a 4 6 || (Cf.inB i.b 4 6 || (Cf.inB i.op 2 7 && Cf.inB i.c 4 6))
/-- What the program's Verify asks of an instruction besides its jump. -/
def Cf.trustB (l : List Cf.Ins) (k : Nat) (i : Cf.Ins) : Bool := (!Cf.ldst i || decide (i.b = 4)) && Cf.destB l k i
theorem Cf.okI_eq (l : List Cf.Ins) (k : Nat) (i : Cf.Ins) : Cf.okI l k i = (!(Cf.jumpsB i && decide ((l.length : Int) ≤ i.c)) && Cf.trustB l k i) := by
  unfold Cf.okI Cf.trustB Cf.ldst
  by_cases hd : Cf.destB l k i = true
  · rw [if_pos hd, hd]
    by_cases h1 : (i.op = 8 ∨ i.op = 9) ∧ i.b ≠ 4 ∨ Cf.jumpsB i = true ∧ (l.length : Int) ≤ i.c
    · rw [if_pos h1]
      rcases h1 with ⟨h, h'⟩ | ⟨h, h'⟩
      · rcases h with h | h <;> simp [h, h']
      · simp [h, h']
    · rw [if_neg h1]
      simp only [_root_.not_or, Classical.not_and_iff_not_or_not] at h1
      obtain ⟨h2, h3⟩ := h1
      by_cases hj : Cf.jumpsB i = true
      · have : ¬ (l.length : Int) ≤ i.c := by rcases h3 with h | h; exact absurd hj h; exact h
        by_cases hb : i.b = 4
        · simp [this, hb]
        · have hh : ¬ i.op = 8 ∧ ¬ i.op = 9 := by
            rcases h2 with h | h
            · exact h
            · exact absurd (fun e => hb e) h
          simp [this, hh.1, hh.2]
      · have hj' : Cf.jumpsB i = false := by simpa using hj
        by_cases hb : i.b = 4
        · simp [hj', hb]
        · have hh : ¬ i.op = 8 ∧ ¬ i.op = 9 := by
            rcases h2 with h | h
            · exact h
            · exact absurd (fun e => hb e) h
          simp [hj', hh.1, hh.2]
  · have hd' : Cf.destB l k i = false := by simpa using hd
    simp [hd']
theorem Cf.plainI_eq (l : List Cf.Ins) (i : Cf.Ins) : Cf.plainI l i = (!(Cf.jumpsB i && decide ((l.length : Int) ≤ i.c)) && !Cf.useB i) := by
  unfold Cf.plainI Cf.useB
  cases Cf.inB i.a 4 6 <;> cases Cf.inB i.b 4 6 <;> cases Cf.inB i.op 2 7 <;> cases Cf.inB i.c 4 6 <;> cases Cf.jumpsB i <;> by_cases h : (l.length : Int) ≤ i.c <;> simp [h]
/-- What the program's check asks of one instruction: its jump, and a test. -/
def Cf.okT (l : List Cf.Ins) (t : Nat → Cf.Ins → Bool) (k : Nat) : Bool :=
  match l[k]? with
  | some i => !(Cf.jumpsB i && decide ((l.length : Int) ≤ i.c)) && t k i
  | none => true
def Cf.chkT (l : List Cf.Ins) (t : Nat → Cf.Ins → Bool) : Int := if Cf.fault l = 0 then (if Cf.lastB l && (List.range l.length).all (Cf.okT l t) then 0 else 10) else Cf.fault l
theorem Cf.chkT_trust (l : List Cf.Ins) : Cf.chkT l (Cf.trustB l) = Cf.safeT l := by
  unfold Cf.chkT Cf.safeT
  have : Cf.okT l (Cf.trustB l) = Cf.okAt l := by
    funext k
    unfold Cf.okT Cf.okAt
    cases l[k]? with
    | none => rfl
    | some i => exact (Cf.okI_eq l k i).symm
  rw [this]
theorem Cf.chkT_plain (l : List Cf.Ins) : Cf.chkT l (fun _ i => !Cf.useB i) = if Cf.fault l = 0 then (if Cf.plainB l then 0 else 10) else Cf.fault l := by
  unfold Cf.chkT Cf.plainB
  have : (List.range l.length).all (Cf.okT l (fun _ i => !Cf.useB i)) = l.all (Cf.plainI l) := by
    rw [Bool.eq_iff_iff, List.all_eq_true, List.all_eq_true]
    constructor
    · intro h i hi
      obtain ⟨k, hk⟩ := List.getElem?_of_mem hi
      have hlt : k < l.length := (List.getElem?_eq_some_iff.1 hk).1
      have := h k (List.mem_range.2 hlt)
      unfold Cf.okT at this
      rw [hk] at this
      rw [Cf.plainI_eq]
      exact this
    · intro h k hk
      unfold Cf.okT
      cases hx : l[k]? with
      | none => rfl
      | some i =>
        have := h i (List.mem_of_getElem? hx)
        rw [Cf.plainI_eq] at this
        exact this
  rw [this]
theorem Cf.chkT_bad (l : List Cf.Ins) (t : Nat → Cf.Ins → Bool) (k : Nat) (i : Cf.Ins) (hf : Cf.fault l = 0) (hi : l[k]? = some i) (ho : (!(Cf.jumpsB i && decide ((l.length : Int) ≤ i.c)) && t k i) = false) : Cf.chkT l t = 10 := by
  unfold Cf.chkT
  rw [if_pos hf, if_neg]
  intro hb
  simp only [Bool.and_eq_true] at hb
  have hk : k < l.length := (List.getElem?_eq_some_iff.1 hi).1
  have := List.all_eq_true.1 hb.2 k (List.mem_range.2 hk)
  rw [Cf.okT, hi] at this
  simp only at this
  rw [ho] at this
  cases this
theorem Cf.chkT_end (l : List Cf.Ins) (t : Nat → Cf.Ins → Bool) (hf : Cf.fault l = 0) (hl : Cf.lastB l = true) (h : ∀ j, j < l.length → Cf.okT l t j = true) : Cf.chkT l t = 0 := by
  unfold Cf.chkT
  rw [if_pos hf, if_pos]
  simp only [Bool.and_eq_true]
  exact ⟨hl, List.all_eq_true.2 fun j hj => h j (List.mem_range.1 hj)⟩
theorem Cf.chkT_on (l : List Cf.Ins) (t : Nat → Cf.Ins → Bool) (k : Nat) (i : Cf.Ins) (hi : l[k]? = some i) (h : ∀ j, j < k → Cf.okT l t j = true) (ho : (!(Cf.jumpsB i && decide ((l.length : Int) ≤ i.c)) && t k i) = true) : ∀ j, j < k + 1 → Cf.okT l t j = true := by
  intro j hj
  rcases Nat.lt_succ_iff_lt_or_eq.1 hj with h1 | h1
  · exact h j h1
  · subst h1
    rw [Cf.okT, hi]
    exact ho
end Go.Proofs.YtnnhhbjbdmgpiaaDoor
