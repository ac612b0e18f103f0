/- Texts of the proof of TopApart: FreeK. -/
import Derived.Orders
import Derived.Test.YtnnhhbjbdmgpiaaGreatDoorJ03
/- A region that draws its order, walked once whatever the order: each operation says what it leaves and keeps what the others left. Of any program. -/
namespace Go.Proofs.YtnnhhbjbdmgpiaaGreatDoor
set_option maxRecDepth 100000
open Go.RowKit

/-- A frame, these of its slots filled anew. -/
def fillL (ds : List Nat) (u : Nat → Value) : Nat → List Value → List Value
  | _, [] => []
  | k, x :: r => (bif ds.contains k then u k else x) :: fillL ds u (k + 1) r
def upd (u : Nat → Value) (d : Nat) (v : Value) : Nat → Value := fun k => if k = d then v else u k
def updO (u : Nat → Value) (o : Oper) (v : Value) : Nat → Value := match o.dst with
  | some d => upd u d v
  | none => u
theorem fill_same (ds : List Nat) (l0 : List Value) : ∀ (l : List Value) (k : Nat), (∀ j x, l[j]? = some x → l0[k + j]? = some x) → fillL ds (fun d => (l0[d]?).getD undef) k l = l
  | [], _, _ => rfl
  | x :: r, k, h => by
    have h0 := h 0 x rfl
    rw [Nat.add_zero] at h0
    rw [fillL, fill_same ds l0 r (k + 1) (fun j y hy => by have := h (j + 1) y (by simpa using hy); rwa [show k + (j + 1) = k + 1 + j by omega] at this)]
    simp only [h0, Option.getD_some]
    cases ds.contains k <;> rfl
theorem fill_high (ds : List Nat) (u : Nat → Value) (d : Nat) (v : Value) : ∀ (l : List Value) (k : Nat), d < k → fillL ds (upd u d v) k l = fillL ds u k l
  | [], _, _ => rfl
  | x :: r, k, h => by
    rw [fillL, fillL, fill_high ds u d v r (k + 1) (by omega)]
    simp only [upd, show k ≠ d by omega, if_false]
theorem fill_put (ds : List Nat) (u : Nat → Value) (d : Nat) (v : Value) : ∀ (l : List Value) (k : Nat), ds.contains (k + d) = true → (fillL ds u k l).set d v = fillL ds (upd u (k + d) v) k l
  | [], _, _ => rfl
  | x :: r, k, h => by
    cases d with
    | zero =>
      rw [Nat.add_zero] at h ⊢
      rw [fillL, fillL, List.set_cons_zero, fill_high ds u k v r (k + 1) (by omega), h]
      simp [upd]
    | succ d =>
      rw [fillL, fillL, List.set_cons_succ, fill_put ds u d v r (k + 1) (by rwa [show k + 1 + d = k + (d + 1) by omega])]
      rw [show k + 1 + d = k + (d + 1) by omega]
      simp only [upd, show k ≠ k + (d + 1) by omega, if_false]
def dstApart (x y : Option Nat) : Bool := match x, y with
  | some a, some b => a != b
  | _, _ => true
def freeOk (ops : Array Oper) (ds : List Nat) : Bool :=
  (List.range ops.size).all fun i => match ops[i]? with
    | none => true
    | some o => o.guard.isNone && (o.after.all (fun e => decide (e.on < i)) && ((match o.dst with | some d => ds.contains d | none => true) &&
      (List.range ops.size).all fun j => match ops[j]? with
        | none => true
        | some q => i == j || dstApart o.dst q.dst))
theorem freeOk_at {ops : Array Oper} {ds : List Nat} (h : freeOk ops ds = true) {i : Nat} {o : Oper} (hi : ops[i]? = some o) :
    o.guard = none ∧ (∀ e ∈ o.after, e.on < i) ∧ (∀ d, o.dst = some d → ds.contains d = true) ∧ ∀ (j : Nat) (q : Oper) (d : Nat), ops[j]? = some q → i ≠ j → o.dst = some d → q.dst ≠ some d := by
  have hlt : i < ops.size := (Array.getElem?_eq_some_iff.1 hi).1
  have h1 := List.all_eq_true.1 h i (List.mem_range.2 hlt)
  rw [hi] at h1
  simp only [Bool.and_eq_true, Array.all_eq_true_iff_forall_mem, decide_eq_true_eq] at h1
  obtain ⟨h1, h2, h3, h4⟩ := h1
  refine ⟨by simpa using h1, h2, fun d hd => by rw [hd] at h3; exact h3, fun j q d hq hij hd hqd => ?_⟩
  have h5 := List.all_eq_true.1 h4 j (List.mem_range.2 (Array.getElem?_eq_some_iff.1 hq).1)
  rw [hq] at h5
  simp only [hd, hqd] at h5
  simp [dstApart, hij] at h5
section
variable {P : Program} {ops : Array Oper} {Q : Exit → Act → World → Prop} {ds : List Nat} {l0 : List Value} {df : List Deferred} {J : World → Prop} {V : Nat → (Nat → Value) → World → Prop}
def needs (o : Oper) (j : Nat) : Bool := o.after.any fun e => e.on == j && Region.binds .any e
/-- What is asked of each operation. -/
def FreeStep (P : Program) (ops : Array Oper) (Q : Exit → Act → World → Prop) (ds : List Nat) (l0 : List Value) (df : List Deferred) (J : World → Prop) (V : Nat → (Nat → Value) → World → Prop) (i : Nat) : Prop :=
  ∀ (o : Oper) (u : Nat → Value) (w : World), ops[i]? = some o → J w → (∀ (j : Nat), needs o j = true → V j u w) →
    ∀ K : Act → World → Prop, (∀ (v : Value) (w' : World), V i (updO u o v) w' → J w' → (∀ (j : Nat) (q : Oper), ops[j]? = some q → j ≠ i → needs q i = false → V j u w → V j (updO u o v) w') → K (Act.put ⟨(fillL ds u 0 l0).toArray, df⟩ o.dst v) w') → Oper.wp P o ⟨(fillL ds u 0 l0).toArray, df⟩ w K Q
theorem free_any (hok : freeOk ops ds = true) (hstep : ∀ i, i < ops.size → FreeStep P ops Q ds l0 df J V i)
    (hend : ∀ (u : Nat → Value) (w : World), J w → (∀ i, i < ops.size → V i u w) → Q .normal ⟨(fillL ds u 0 l0).toArray, df⟩ w) :
    ∀ (fuel : Nat) (R : List Nat) (listed : Array Bool) (u : Nat → Value) (w : World), listed.size = ops.size → R.length ≤ fuel → (∀ i, i < ops.size → listed.getD i false = false → i ∈ R) → J w →
      (∀ (i : Nat) (o : Oper), ops[i]? = some o → listed.getD i false = true → V i u w ∧ ∀ j, needs o j = true → listed.getD j false = true) → wpAny P .any ops Q fuel listed ⟨(fillL ds u 0 l0).toArray, df⟩ w := by
  have hall : ∀ (listed : Array Bool), listed.size = ops.size → Region.ready .any ops listed = [] → ∀ i, i < ops.size → listed.getD i false = true := by
    intro listed hs hr i
    induction i using Nat.strongRecOn with
    | ind i ih =>
      intro hi
      cases hg : listed.getD i false with
      | true => rfl
      | false =>
        exfalso
        have ho : ops[i]? = some ops[i] := Array.getElem?_eq_getElem hi
        obtain ⟨_, hb, _⟩ := freeOk_at hok ho
        have : i ∈ Region.ready .any ops listed := by
          rw [mem_ready]
          refine ⟨?_, ops[i], ho, fun e he _ => ih e.on (hb e he) (by have := hb e he; omega)⟩
          have hl : i < listed.size := by omega
          simpa [hl] using hg
        rw [hr] at this
        cases this
  intro fuel
  induction fuel with
  | zero =>
    intro R listed u w hs hR hun hJ hV
    obtain rfl : R = [] := List.eq_nil_of_length_eq_zero (by omega)
    have hl : ∀ i, i < ops.size → listed.getD i false = true := fun i hi => by
      cases hg : listed.getD i false with
      | true => rfl
      | false => exact absurd (hun i hi hg) (by simp)
    refine ⟨?_, hend u w hJ fun i hi => (hV i ops[i] (Array.getElem?_eq_getElem hi) (hl i hi)).1⟩
    apply List.eq_nil_iff_forall_not_mem.2
    intro i hi
    obtain ⟨h0, o, ho, _⟩ := mem_ready.1 hi
    have hlt := (Array.getElem?_eq_some_iff.1 ho).1
    have h1 := hl i hlt
    have h2 : i < listed.size := by omega
    simp [h2] at h0 h1
    rw [h0] at h1
    cases h1
  | succ fuel ih =>
    intro R listed u w hs hR hun hJ hV
    refine ⟨fun hr => hend u w hJ fun i hi => (hV i ops[i] (Array.getElem?_eq_getElem hi) (hall listed hs hr i hi)).1, fun i hi => ?_⟩
    obtain ⟨h0, o, ho, hdep⟩ := mem_ready.1 hi
    have hlt := (Array.getElem?_eq_some_iff.1 ho).1
    have hl : i < listed.size := by omega
    obtain ⟨hgd, hbk, hds, hap⟩ := freeOk_at hok ho
    have hdep' : ∀ j, needs o j = true → listed.getD j false = true := by
      intro j hdj
      unfold needs at hdj
      rw [← Array.any_toList, List.any_eq_true] at hdj
      obtain ⟨e, he, hej⟩ := hdj
      rw [Array.mem_toList_iff] at he
      simp only [Bool.and_eq_true, beq_iff_eq] at hej
      rw [← hej.1]
      exact hdep e he hej.2
    have hun0 : listed.getD i false = false := by
      simp [hl] at h0
      simp [hl, h0]
    unfold wpOp
    rw [ho]
    simp only
    rw [if_pos (by simp [Region.wanted, hgd])]
    refine .inl (hstep i hlt o u w ho hJ (fun j hdj => ?_) _ fun v w' hv hJ' hkeep => ?_)
    · have hlj := hdep' j hdj
      have hjs : j < ops.size := by
        rcases Nat.lt_or_ge j ops.size with h | h
        · exact h
        · simp [Array.getElem?_eq_none (show listed.size ≤ j by omega)] at hlj
      exact (hV j ops[j] (Array.getElem?_eq_getElem hjs) hlj).1
    · have hinR : i ∈ R := hun i hlt hun0
      have hRl : (R.erase i).length ≤ fuel := by
        rw [List.length_erase_of_mem hinR]
        omega
      have hun' : ∀ j, j < ops.size → (listed.setIfInBounds i true).getD j false = false → j ∈ R.erase i := by
        intro j hj hg
        have hji : i ≠ j := by
          intro he
          subst he
          simp [hl] at hg
        rw [getD_set_ne false hji] at hg
        exact (List.mem_erase_of_ne (Ne.symm hji)).2 (hun j hj hg)
      have hput : Act.put ⟨(fillL ds u 0 l0).toArray, df⟩ o.dst v = ⟨(fillL ds (updO u o v) 0 l0).toArray, df⟩ := by
        unfold updO
        cases hd : o.dst with
        | none => rfl
        | some d =>
          have := fill_put ds u d v l0 0 (by rw [Nat.zero_add]; exact hds d hd)
          rw [Nat.zero_add] at this
          simp only [Act.put, List.setIfInBounds_toArray, this]
      rw [hput]
      refine ih (R.erase i) (listed.setIfInBounds i true) (updO u o v) w' (by simp [hs]) hRl hun' hJ' fun j q hq hg => ?_
      by_cases hji : i = j
      · subst hji
        obtain rfl := Option.some.inj (ho.symm.trans hq)
        exact ⟨hv, fun k hk => getD_set_true (hdep' k hk)⟩
      · rw [getD_set_ne false hji] at hg
        obtain ⟨h1, h2⟩ := hV j q hq hg
        refine ⟨hkeep j q hq (Ne.symm hji) ?_ h1, fun k hk => getD_set_true (h2 k hk)⟩
        cases hn : needs q i with
        | false => rfl
        | true =>
          have := h2 i hn
          rw [hun0] at this
          cases this
/-- A REGION, WHATEVER ITS ORDER. -/
theorem free_region {id : Nat} {w : World} (ds : List Nat) (J : World → Prop) (V : Nat → (Nat → Value) → World → Prop) (hok : freeOk ops ds = true) (hm : P.follows .mixedOrders = true) (hJ : J w.drew)
    (hstep : ∀ i, i < ops.size → FreeStep P ops Q ds l0 df J V i)
    (hend : ∀ (u : Nat → Value) (w : World), J w → (∀ i, i < ops.size → V i u w) → Q .normal ⟨(fillL ds u 0 l0).toArray, df⟩ w) :
    (Code.region id ops true).wp P Q ⟨l0.toArray, df⟩ w := by
  refine wp_region_any hm ?_
  have h := free_any hok hstep hend ops.size (List.range ops.size) (Array.replicate ops.size false) (fun d => (l0[d]?).getD undef) w.drew (by simp) (by simp) (fun i hi _ => List.mem_range.2 hi) hJ
    (fun i o ho hg => by
      have hlt := (Array.getElem?_eq_some_iff.1 ho).1
      simp [hlt] at hg)
  rw [fill_same ds l0 l0 0 (fun j x hx => by rwa [Nat.zero_add])] at h
  exact h
end
end Go.Proofs.YtnnhhbjbdmgpiaaGreatDoor
