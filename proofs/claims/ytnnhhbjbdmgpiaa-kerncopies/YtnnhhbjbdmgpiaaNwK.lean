/- Rows in memory of their own that may be written; a region that draws, each operation known by one slot. -/
import Derived.Test.YtnnhhbjbdmgpiaaFreeK
import Derived.Test.YtnnhhbjbdmgpiaaRowG
import Derived.Test.YtnnhhbjbdmgpiaaCopyW
import Derived.Test.YtnnhhbjbdmgpiaaNewK
namespace Go.Proofs.Ytnnhhbjbdmgpiaa
open Go.RowKit

section
variable {α : Type} {sz : Nat} {enc : α → List Value} {w w' : World} {t : TypeId} {B : Nat} {A : Option Addr} {l : List α}
/-- A row in a block of its own, from B on, that may be written. -/
def Nw (sz : Nat) (enc : α → List Value) (w : World) (t : TypeId) (B : Nat) (A : Option Addr) (l : List α) : Prop := l = [] ∨ ∃ g, A = some ⟨g, 0, none⟩ ∧ B ≤ g ∧ Bk sz enc w g t l
theorem Nw.rd (h : Nw sz enc w t B A l) : RdS sz enc w A l := by
  rcases h with h | ⟨g, rfl, _, h⟩
  · exact .inl h
  · exact h.rd
theorem Nw.fresh (h : Nw sz enc w t B A l) : Fresh B A l := by
  rcases h with h | ⟨g, rfl, hB, _⟩
  · exact .inl h
  · exact .inr ⟨_, _, rfl, hB⟩
theorem Nw.below (h : Nw sz enc w t B A l) (hb : Below w.heap.size w w') : Nw sz enc w' t B A l := by
  rcases h with h | ⟨g, rfl, hB, h⟩
  · exact .inl h
  · exact .inr ⟨g, rfl, hB, h.below hb h.lt⟩
theorem Nw.mono (h : Nw sz enc w t B A l) {B' : Nat} (hB' : B' ≤ B) : Nw sz enc w t B' A l := by
  rcases h with h | ⟨g, rfl, hB, h⟩
  · exact .inl h
  · exact .inr ⟨g, rfl, Nat.le_trans hB' hB, h⟩
theorem Nw.offW (h : Nw sz enc w t B A l) {g : Nat} {cs : List Value} {t' : TypeId} (hg : Wb w g t' cs) (hne : t ≠ t') (i : Nat) (u : Value) : Nw sz enc (w.setCell ⟨g, i, none⟩ u) t B A l := by
  rcases h with h | ⟨g', rfl, hB, h⟩
  · exact .inl h
  · exact .inr ⟨g', rfl, hB, h.off_ (p := ⟨g, i, none⟩) (h.wb hg hne) u⟩
theorem Nw.offB {β : Type} {sz' : Nat} {enc' : β → List Value} {l' : List β} (h : Nw sz enc w t B A l) {g : Nat} {t' : TypeId} (hg : Bk sz' enc' w g t' l') (hne : t ≠ t') (i : Nat) (u : Value) : Nw sz enc (w.setCell ⟨g, i, none⟩ u) t B A l := by
  rcases h with h | ⟨g', rfl, hB, h⟩
  · exact .inl h
  · exact .inr ⟨g', rfl, hB, h.off_ (p := ⟨g, i, none⟩) (h.other hg hne) u⟩
theorem Nw.old (h : Nw sz enc w t B A l) {p : Addr} (hp : p.block < B) (u : Value) : Nw sz enc (w.setCell p u) t B A l := by
  rcases h with h | ⟨g', rfl, hB, h⟩
  · exact .inl h
  · exact .inr ⟨g', rfl, hB, h.off_ (by omega) u⟩
theorem Nw.grown_ (h : Nw sz enc w t B A l) {row : Option Nat} (hb : w.grownBy w' row) (hne : ∀ g cs, Wb w g t cs → row ≠ some g) : Nw sz enc w' t B A l := by
  rcases h with h | ⟨g', rfl, hB, h⟩
  · exact .inl h
  · exact .inr ⟨g', rfl, hB, ⟨h.1, h.2.elim fun q h => ⟨q, h.grown hb (hne _ _ h)⟩⟩⟩
/-- append onto a slice that has no room: a row of its own. -/
theorem run_append_nw {P : Program} (w : World) (t ty e : TypeId) (i : TypeInfo) (z : Value) (size bytes : Nat) (ht : P.underlying t = some (.slice e)) (hi : P.info? e = some i) (hz : i.zero = some z)
    (hsize : i.size = size) (hby : i.bytes = bytes) (henc : ∀ x, (enc x).length = size)
    (b : Addr) (A : Option Addr) (c : Nat) (l : List α) (hr : RdS size enc w A l)
    (h63 : l.length ≤ maxLen) (hbytes : l.length * bytes ≤ 140737488355328) :
    ∃ A' c' w', (Builtin.append_ #[t, t] ty #[.slice (some b) 0 0, .slice A l.length c]).run P w = .ok (.slice A' l.length c') w' ∧ Nw size enc w' e w.heap.size A' l ∧ Below w.heap.size w w' := by
  rcases Nat.eq_zero_or_pos l.length with h0 | h0
  · obtain ⟨A', c', w', h1, _, h3, _⟩ := run_append_zero (P := P) w t ty e i z size bytes ht hi hz hsize hby henc b A c l hr h63 hbytes
    exact ⟨A', c', w', h1, .inl (List.eq_nil_of_length_eq_zero h0), h3⟩
  · rcases hr with rfl | ⟨bb, off, rfl, hbb, hc⟩
    · simp at h0
    have hR : RdS size enc w (some ⟨bb, off, none⟩) l := .inr ⟨bb, off, rfl, hbb, hc⟩
    have hfl : (l.flatMap enc).length = l.length * size := by
      clear h63 hbytes hc hR h0
      induction l with
      | nil => simp
      | cons x l ih => rw [List.flatMap_cons, List.length_append, ih, henc, List.length_cons, Nat.add_mul]; omega
    have h := run_append_grow (P := P) w t ty e i z ht hi hz b 0 0 [] (by simp) (by simp) ⟨bb, off, none⟩ l.length c (l.flatMap enc) (by rw [hsize]; exact hfl) (hR.flat henc) (by omega) (by unfold maxLen at h63; omega) (by rw [hby]; exact growslice_fits (by omega) (by rw [Nat.zero_add]; exact hbytes))
    rw [Nat.zero_add] at h
    refine ⟨_, _, _, h, .inr ⟨w.heap.size, rfl, Nat.le_refl _, henc, (Builtin.zeroCells z.cells (grownCap w l.length 0 e - l.length)).toList, ?_⟩, (Below.refl _ _).drew.alloc (Nat.le_refl _) _⟩
    unfold Wb
    rw [show w.heap.size = w.drew.heap.size from rfl, heap_alloc_new w.drew _]
    simp
/-- The same at a step of a region that draws its order. -/
theorem step_append_nw {P : Program} {w : World} {ops : Array Oper} {o : Oper} {a : Act} {K : Act → World → Prop} {Q : Exit → Act → World → Prop} {E : Prop} (hgd : o.guard = none) (s x : Operand) (t : TypeId) (ho : o.op = .call { callee := .builtin .append, args := #[s, x], argTypes := #[t, t] })
    (e : TypeId) (i : TypeInfo) (z : Value) (size bytes : Nat) (ht : P.underlying t = some (.slice e)) (hi : P.info? e = some i) (hz : i.zero = some z)
    (hsize : i.size = size) (hby : i.bytes = bytes) (henc : ∀ x, (enc x).length = size)
    (b : Addr) (hs : a.eval s = .slice (some b) 0 0) (A : Option Addr) (c : Nat) (l : List α) (hx : a.eval x = .slice A l.length c) (hr : RdS size enc w A l)
    (h63 : l.length ≤ maxLen) (hbytes : l.length * bytes ≤ 140737488355328)
    (h : ∀ A' c' w', Nw size enc w' e w.heap.size A' l → Below w.heap.size w w' → K (a.put o.dst (.slice A' l.length c')) w') :
    if Region.wanted o (yielded ops a.tmps) = true then Oper.wp P o a w K Q else E := by
  rw [if_pos (by simp [Region.wanted, hgd])]
  obtain ⟨A', c', w', hrun, h2, h3⟩ := run_append_nw (P := P) w t o.type e i z size bytes ht hi hz hsize hby henc b A c l hr h63 hbytes
  unfold Oper.wp
  simp [execOp, ho, resolve, invoke, builtin, hs, hx, hrun, Result.andThen]
  exact h A' c' w' h2 h3
end
/-- Each operation is known by one slot. -/
def slotOk (ops : Array Oper) (s : Nat → Nat) : Bool := (List.range ops.size).all fun i => match ops[i]? with
  | none => false
  | some o => (match o.dst with | none => true | some d => d == s i && (List.range ops.size).all fun j => j == i || s j != d || (match ops[j]? with | none => false | some q => needs q i))
theorem slotOk_at {ops : Array Oper} {s : Nat → Nat} (h : slotOk ops s = true) {i : Nat} {o : Oper} (ho : ops[i]? = some o) {d : Nat} (hd : o.dst = some d) : d = s i ∧ ∀ (j : Nat) (q : Oper), ops[j]? = some q → j ≠ i → needs q i = false → s j ≠ d := by
  unfold slotOk at h
  have hlt := (Array.getElem?_eq_some_iff.1 ho).1
  have h1 := List.all_eq_true.1 h i (List.mem_range.2 hlt)
  rw [ho] at h1
  simp only [hd, Bool.and_eq_true, beq_iff_eq] at h1
  refine ⟨h1.1, fun j q hq hj hn hs => ?_⟩
  have hlj := (Array.getElem?_eq_some_iff.1 hq).1
  have h2 := List.all_eq_true.1 h1.2 j (List.mem_range.2 hlj)
  simp [hq, hn, hj, hs] at h2
section
variable {P : Program} {ops : Array Oper} {Q : Exit → Act → World → Prop} {ds : List Nat} {l0 : List Value} {df : List Deferred} {J : World → Prop} {R : Nat → Value → World → Prop} {s : Nat → Nat}
/-- What is asked of an operation with a slot. -/
def OneStep (P : Program) (ops : Array Oper) (Q : Exit → Act → World → Prop) (ds : List Nat) (l0 : List Value) (df : List Deferred) (J : World → Prop) (R : Nat → Value → World → Prop) (s : Nat → Nat) (i : Nat) : Prop :=
  ∀ (o : Oper) (u : Nat → Value) (w : World), ops[i]? = some o → J w → (∀ (j : Nat), needs o j = true → R j (u (s j)) w) →
    ∀ K : Act → World → Prop, (∀ (v : Value) (w' : World), (o.dst = none → R i (u (s i)) w') → (o.dst ≠ none → R i v w') → J w' → (∀ j v, j ≠ i → R j v w → R j v w') → K (Act.put ⟨(fillL ds u 0 l0).toArray, df⟩ o.dst v) w') → Oper.wp P o ⟨(fillL ds u 0 l0).toArray, df⟩ w K Q
theorem one_region {id : Nat} {w : World} (ds : List Nat) (s : Nat → Nat) (J : World → Prop) (R : Nat → Value → World → Prop) (hok : freeOk ops ds = true) (hs : slotOk ops s = true) (hm : P.follows .mixedOrders = true) (hJ : J w.drew)
    (hstep : ∀ i, i < ops.size → OneStep P ops Q ds l0 df J R s i)
    (hend : ∀ (u : Nat → Value) (w : World), J w → (∀ i, i < ops.size → R i (u (s i)) w) → Q .normal ⟨(fillL ds u 0 l0).toArray, df⟩ w) :
    (Code.region id ops true).wp P Q ⟨l0.toArray, df⟩ w := by
  refine free_region ds J (fun i u w => R i (u (s i)) w) hok hm hJ ?_ hend
  intro i hi o u w ho hJ hdep K hK
  refine hstep i hi o u w ho hJ hdep K fun v w' h0 h1 hJ' hk => hK v w' ?_ hJ' fun j q hq hj hn hv => ?_
  · cases hd : o.dst with
    | none => simp only [updO, hd]; exact h0 hd
    | some d =>
      obtain ⟨h2, _⟩ := slotOk_at hs ho hd
      simp only [updO, hd, upd, h2, if_true]
      exact h1 (by rw [hd]; simp)
  · cases hd : o.dst with
    | none => simp only [updO, hd]; exact hk j _ hj hv
    | some d =>
      obtain ⟨_, h2⟩ := slotOk_at hs ho hd
      simp only [updO, hd, upd, if_neg (h2 j q hq hj hn)]
      exact hk j _ hj hv
end
end Go.Proofs.Ytnnhhbjbdmgpiaa
