/- Blocks known whole, and the machine's state as it lies in memory. -/
import Derived.Test.YtnnhhbjbdmgpiaaDoorOwnK
import Derived.Test.YtnnhhbjbdmgpiaaDoorCpuP
import Derived.Maps.AppendAt
namespace Go.Proofs.YtnnhhbjbdmgpiaaDoor
set_option maxRecDepth 100000
open Go.RowKit

/-- A block that is known whole: these cells, none of them shut. -/
def Wb (w : World) (g : Nat) (t : TypeId) (cs : List Value) : Prop := w.heap[g]? = some (.cells cs.toArray t (0, 0))
section
variable {w w' : World} {g : Nat} {t : TypeId} {cs : List Value}
theorem Wb.lt (h : Wb w g t cs) : g < w.heap.size := (Array.getElem?_eq_some_iff.1 h).1
theorem Wb.cell (h : Wb w g t cs) (i : Nat) : w.cell? ⟨g, i, none⟩ = cs[i]? := by
  unfold Wb at h
  simp [World.cell?, h]
theorem Wb.open_ (h : Wb w g t cs) (i : Nat) : w.frozen? ⟨g, i, none⟩ = false := by
  unfold Wb at h
  simp [World.frozen?, h]
theorem Wb.new (w : World) (t : TypeId) (cs : List Value) : Wb (w.alloc (.cells cs.toArray t)) w.heap.size t cs := heap_alloc_new w _
theorem Wb.alloc (h : Wb w g t cs) (o : Obj) : Wb (w.alloc o) g t cs := (Below.heap_alloc w o g h.lt).trans h
theorem Wb.put (h : Wb w g t cs) (i : Nat) (u : Value) : Wb (w.setCell ⟨g, i, none⟩ u) g t (cs.set i u) := by
  unfold Wb at h ⊢
  simp [World.setCell, Array.getElem?_modify, h]
theorem Wb.off_ (h : Wb w g t cs) {p : Addr} (hp : g ≠ p.block) (u : Value) : Wb (w.setCell p u) g t cs := (Below.heap_setCell w p u g hp).trans h
theorem Wb.below {B : Nat} (h : Wb w g t cs) (hb : Below B w w') (hg : g < B) : Wb w' g t cs := (hb.block g hg).trans h
theorem Wb.grown {row : Option Nat} (h : Wb w g t cs) (hb : w.grownBy w' row) (hg : row ≠ some g) : Wb w' g t cs := (hb.block g h.lt (Ne.symm hg)).trans h
theorem Wb.draw (h : Wb w g t cs) (n : Nat) : Wb (w.drewN n) g t cs := h
theorem Wb.other {g' : Nat} {t' : TypeId} {cs' : List Value} (h : Wb w g t cs) (h' : Wb w g' t' cs') (hne : t ≠ t') : g ≠ g' := by
  intro he
  subst he
  have h2 := Option.some.inj (Eq.trans (Eq.symm h) h')
  injection h2 with _ ht
  exact hne ht
/-- A row that the call owns is no block of another element type. -/
theorem own_off {base : Nat} {e : TypeId} {size n : Nat} {v : Value} {xs : List Value} (h : w.ownsRow base e size v n xs) (hg : Wb w g t cs) (hne : e ≠ t) : v.ownBlock ≠ some g := by
  rcases h.2 with ⟨rfl, _⟩ | ⟨g', cap, cur, rfl, _, hh, _⟩
  · simp [Value.ownBlock]
  · intro he
    simp [Value.ownBlock] at he
    subst he
    have h2 := Option.some.inj (Eq.trans (Eq.symm hh) hg)
    injection h2 with _ ht
    exact hne ht
theorem own_setCell {base : Nat} {e : TypeId} {size n : Nat} {v : Value} {xs : List Value} (h : w.ownsRow base e size v n xs) {p : Addr} (hp : v.ownBlock ≠ some p.block) (u : Value) : (w.setCell p u).ownsRow base e size v n xs := by
  refine ⟨h.1, ?_⟩
  rcases h.2 with h2 | ⟨g', cap, cur, rfl, hb, hh, r⟩
  · exact .inl h2
  · exact .inr ⟨g', cap, cur, rfl, hb, (Below.heap_setCell w p u g' (fun he => hp (by simp [Value.ownBlock, he]))).trans hh, r⟩
theorem own_draw {base : Nat} {e : TypeId} {size n : Nat} {v : Value} {xs : List Value} (h : w.ownsRow base e size v n xs) (k : Nat) : (w.drewN k).ownsRow base e size v n xs := h
end

/-- Two slices that share no block. -/
def Apart (a b : Value) : Prop := ∀ k, a.ownBlock = some k → b.ownBlock ≠ some k
theorem Apart.symm {a b : Value} (h : Apart a b) : Apart b a := fun k hb ha => h k ha hb
theorem Apart.nil (b : Value) : Apart (.slice none 0 0) b := fun k h => by cases h
/-- A row that was appended to is still apart from another one that lay there before. -/
theorem Apart.grown {w : World} {base : Nat} {e : TypeId} {size n : Nat} {a a' b : Value} {xs : List Value} (h : Apart a b) (hb : w.ownsRow base e size b n xs) (ha : a'.ownBlock = a.ownBlock ∨ ∃ k, a'.ownBlock = some k ∧ w.heap.size ≤ k) : Apart a' b := by
  intro k hk hbk
  rcases ha with ha | ⟨j, hj, hle⟩
  · exact h k (ha ▸ hk) hbk
  · rw [hj] at hk
    cases hk
    have := (hb.lt _ hbk).2
    omega

abbrev tInt : TypeId := 3
def encZ (z : Int) : List Value := [.int .i64 z]
def encN (z : Nat) : List Value := [.int .i64 (z : Int)]
theorem encZ_len (z : Int) : (encZ z).length = 1 := rfl
def Ints (w : World) (A : Option Addr) (l : List Int) : Prop := RdS 1 encZ w A l
theorem Ints.below {w w' : World} {A : Option Addr} {l : List Int} (h : Ints w A l) (hb : Below w.heap.size w w') : Ints w' A l := RdS.below h hb
/-- A block of numbers, read as a slice. -/
theorem Wb.ints {w : World} {g : Nat} {t : TypeId} {l : List Int} (h : Wb w g t (l.map (Value.int .i64))) : Ints w (some ⟨g, 0, none⟩) l :=
  .inr ⟨g, 0, rfl, h.lt, fun k z hz j v hv => by
    cases j with
    | zero =>
      simp [encZ] at hv
      subst hv
      rw [h.cell, List.getElem?_map]
      simp [hz]
    | succ j => simp [encZ] at hv⟩
theorem map_flat (l : List Int) : l.map (Value.int .i64) = l.flatMap encZ := by
  induction l with
  | nil => rfl
  | cons x l ih => simp [encZ, ih]
/-- A row of numbers that the call owns. -/
def Row (w : World) (base : Nat) (v : Value) (l : List Int) : Prop := w.ownsRow base tInt 1 v l.length (l.map (Value.int .i64))
section
variable {w w' : World} {base : Nat} {v : Value} {l : List Int}
theorem Row.form (h : Row w base v l) : ∃ A cap, v = .slice A l.length cap := own_form h
theorem Row.ints {A : Option Addr} {cap : Nat} (h : Row w base (.slice A l.length cap) l) : Ints w A l := by
  unfold Row at h
  rw [map_flat] at h
  exact own_rd encZ_len h
theorem Row.cells {A : Option Addr} {n cap : Nat} (h : Row w base (.slice A n cap) l) (hl : l ≠ []) : ∃ g, A = some ⟨g, 0, none⟩ ∧ base ≤ g ∧ g < w.heap.size ∧ (∀ i, w.cell? ⟨g, i, none⟩ = none ∨ w.frozen? ⟨g, i, none⟩ = false) ∧ ∀ (i : Nat) (z : Int), l[i]? = some z → w.cell? ⟨g, i, none⟩ = some (.int .i64 z) := by
  rcases h.2 with ⟨_, h0⟩ | ⟨g, cap', cur, hv, hb, hh, hn, hm, hs, ht⟩
  · exact absurd (List.eq_nil_of_length_eq_zero h0) hl
  · injection hv with hA _ _
    refine ⟨g, hA, hb, (Array.getElem?_eq_some_iff.1 hh).1, fun i => .inr (by simp [World.frozen?, hh]), fun i z hz => ?_⟩
    have h1 : (l.map (Value.int .i64))[i]? = some (.int .i64 z) := by simp [hz]
    rw [← ht, List.getElem?_take] at h1
    split at h1
    · simp only [World.cell?, hh]
      rw [← Array.getElem?_toList]
      exact h1
    · cases h1
/-- A store into a row. -/
theorem Row.set {g cap i : Nat} {n : Nat} (h : Row w base (.slice (some ⟨g, 0, none⟩) n cap) l) (z : Int) : Row (w.setCell ⟨g, i, none⟩ (.int .i64 z)) base (.slice (some ⟨g, 0, none⟩) n cap) (l.set i z) := by
  refine ⟨by simp, ?_⟩
  rcases h.2 with ⟨h0, _⟩ | ⟨g', cap', cur, hv, hb, hh, hn, hm, hs, ht⟩
  · cases h0
  · injection hv with hA hn' hc
    injection hA with hA
    injection hA with hA
    subst hA
    subst hn'
    refine .inr ⟨g, cap', cur.setIfInBounds i (.int .i64 z), by rw [hc, List.length_set], hb, ?_, by simpa using hn, hm, by simpa using hs, ?_⟩
    · simp [World.setCell, Array.getElem?_modify, hh]
    · rw [Array.toList_setIfInBounds, List.length_set, List.take_set, ht, List.map_set]
theorem Row.alloc (h : Row w base v l) (o : Obj) : Row (w.alloc o) base v l := World.ownsRow.alloc h o
theorem Row.below (h : Row w base v l) (hb : Below w.heap.size w w') : Row w' base v l := own_below h hb
theorem Row.setCell (h : Row w base v l) {p : Addr} (hp : v.ownBlock ≠ some p.block) (u : Value) : Row (w.setCell p u) base v l := own_setCell h hp u
theorem Row.kept {row : Option Nat} (h : Row w base v l) (hg : w.grownBy w' row) (hne : ∀ k, v.ownBlock = some k → row ≠ some k) : Row w' base v l := by
  refine World.ownsRow.kept h hg ?_
  cases hv : v.ownBlock with
  | none => exact .inl rfl
  | some k => exact .inr (Ne.symm (hne k hv))
end
end Go.Proofs.YtnnhhbjbdmgpiaaDoor
