/- Texts of the proofs: RowG. -/
import Derived.Laws.MakeOwn
import Derived.Test.YtnnhhbjbdmgpiaaGreatDoorJ05
import Derived.Test.YtnnhhbjbdmgpiaaGreatDoorJ03
set_option linter.unusedSimpArgs false
set_option linter.unusedVariables false
/- Blocks of elements of so many cells each, known as lists: read and written. Of any program. -/
namespace Go.Proofs.YtnnhhbjbdmgpiaaGreatDoor
set_option maxRecDepth 100000
open Go.RowKit
section
variable {α : Type} {sz : Nat} {enc : α → List Value}
theorem flat_set (hsz : ∀ x, (enc x).length = sz) : ∀ (l : List α) (i : Nat) (x x' : α) (j : Nat) (u : Value), l[i]? = some x → j < sz → enc x' = (enc x).set j u → (l.flatMap enc).set (i * sz + j) u = (l.set i x').flatMap enc
 | [], i, x, _, _, _, h, _, _ => by simp at h
 | y :: l, 0, x, x', j, u, h, hj, he => by
   simp at h
   subst h
   rw [List.flatMap_cons, List.set_cons_zero, List.flatMap_cons, Nat.zero_mul, Nat.zero_add, List.set_append_left _ _ (by rw [hsz]; exact hj), he]
 | y :: l, i + 1, x, x', j, u, h, hj, he => by
   rw [List.flatMap_cons, List.set_cons_succ, List.flatMap_cons, List.set_append_right _ _ (by rw [hsz, Nat.add_mul]; omega), hsz, show (i + 1) * sz + j - sz = i * sz + j by rw [Nat.add_mul]; omega, flat_set hsz l i x x' j u (by simpa using h) hj he]
theorem flat_lenG (hsz : ∀ x, (enc x).length = sz) (l : List α) : (l.flatMap enc).length = l.length * sz := by
 induction l with
 | nil => simp
 | cons x l ih => rw [List.flatMap_cons, List.length_append, ih, hsz, List.length_cons, Nat.add_mul]; omega
theorem made_flat (z : Array Value) (x : α) (hx : enc x = z.toList) (n : Nat) : (madeCells z (n * z.size)).toList = (List.replicate n x).flatMap enc := by
 apply List.ext_getElem?
 intro j
 have hl : ((List.replicate n x).flatMap enc).length = n * z.size := by
  have : ∀ m : Nat, ((List.replicate m x).flatMap enc).length = m * z.size := by
   intro m
   induction m with
   | zero => simp
   | succ m ih => rw [List.replicate_succ, List.flatMap_cons, List.length_append, ih, hx, Array.length_toList, Nat.add_mul]; omega
  exact this n
 by_cases hj : j < n * z.size
 ·have hz : 0 < z.size := by
   rcases Nat.eq_zero_or_pos z.size with h | h
   ·rw [h] at hj; omega
   ·exact h
  have hmod : j % z.size < z.size := Nat.mod_lt _ hz
  have h1 : (madeCells z (n * z.size)).toList[j]? = some z[j % z.size] := by
   rw [Array.getElem?_toList]
   simp [madeCells, hj, hmod]
  have hat : ∀ (m j : Nat), j < m * z.size → ((List.replicate m x).flatMap enc)[j]? = z.toList[j % z.size]? := by
   intro m
   induction m with
   | zero => intro j hj; omega
   | succ m ih =>
     intro j hj
     rw [List.replicate_succ, List.flatMap_cons, List.getElem?_append, hx, Array.length_toList]
     split
     ·rename_i h
      rw [Nat.mod_eq_of_lt h]
     ·rename_i h
      have e := Nat.mod_eq_sub_mod (a := j) (b := z.size) (by omega)
      rw [ih (j - z.size) (by rw [Nat.add_mul] at hj; omega), ← e]
  rw [h1, hat n j hj]
  simp [hmod]
 ·rw [List.getElem?_eq_none (by rw [Array.length_toList, size_madeCells]; omega), List.getElem?_eq_none (by omega)]
def Bk (sz : Nat) (enc : α → List Value) (w : World) (g : Nat) (t : TypeId) (l : List α) : Prop := (∀ x, (enc x).length = sz) ∧ ∃ pad, Wb w g t (l.flatMap enc ++ pad)
variable {w w' : World} {g : Nat} {t : TypeId} {l : List α}
theorem Bk.lt (h : Bk sz enc w g t l) : g < w.heap.size := h.2.elim fun _ h => h.lt
theorem Bk.cell (h : Bk sz enc w g t l) {k j : Nat} {x : α} {v : Value} (hx : l[k]? = some x) (hv : (enc x)[j]? = some v) : w.cell? ⟨g, k * sz + j, none⟩ = some v := by
 obtain ⟨hsz, pad, h⟩ := h
 rw [h.cell]
 have h1 := flat_at sz enc hsz l k x j v hx hv
 rw [List.getElem?_append_left (List.getElem?_eq_some_iff.1 h1).1]
 exact h1
theorem Bk.open_ (h : Bk sz enc w g t l) (i : Nat) : w.frozen? ⟨g, i, none⟩ = false := h.2.elim fun _ h => h.open_ i
theorem Bk.alloc (h : Bk sz enc w g t l) (o : Obj) : Bk sz enc (w.alloc o) g t l := ⟨h.1, h.2.elim fun p h => ⟨p, h.alloc o⟩⟩
theorem Bk.off_ (h : Bk sz enc w g t l) {p : Addr} (hp : g ≠ p.block) (u : Value) : Bk sz enc (w.setCell p u) g t l := ⟨h.1, h.2.elim fun q h => ⟨q, h.off_ hp u⟩⟩
theorem Bk.below {B : Nat} (h : Bk sz enc w g t l) (hb : Below B w w') (hg : g < B) : Bk sz enc w' g t l := ⟨h.1, h.2.elim fun q h => ⟨q, h.below hb hg⟩⟩
theorem Bk.draw (h : Bk sz enc w g t l) : Bk sz enc w.drew g t l := h
theorem Bk.rd (h : Bk sz enc w g t l) : RdS sz enc w (some ⟨g, 0, none⟩) l :=
 .inr ⟨g, 0, rfl, h.lt, fun k x hx j v hv => by rw [Nat.zero_add]; exact h.cell hx hv⟩
theorem Bk.other {β : Type} {sz' : Nat} {enc' : β → List Value} {g' : Nat} {t' : TypeId} {l' : List β} (h : Bk sz enc w g t l) (h' : Bk sz' enc' w g' t' l') (hne : t ≠ t') : g ≠ g' := by
 obtain ⟨_, p, h⟩ := h
 obtain ⟨_, p', h'⟩ := h'
 exact h.other h' hne
theorem Bk.wb {cs : List Value} {g' : Nat} {t' : TypeId} (h : Bk sz enc w g t l) (h' : Wb w g' t' cs) (hne : t ≠ t') : g ≠ g' := by
 obtain ⟨_, p, h⟩ := h
 exact h.other h' hne
theorem Bk.put (h : Bk sz enc w g t l) {i j : Nat} {x x' : α} {u : Value} (hx : l[i]? = some x) (hj : j < sz) (he : enc x' = (enc x).set j u) : Bk sz enc (w.setCell ⟨g, i * sz + j, none⟩ u) g t (l.set i x') := by
 obtain ⟨hsz, pad, h⟩ := h
 refine ⟨hsz, pad, ?_⟩
 have h1 := h.put (i * sz + j) u
 have hlt : i * sz + j < (l.flatMap enc).length := by
  rw [flat_lenG hsz]
  have hi : i < l.length := (List.getElem?_eq_some_iff.1 hx).1
  calc i * sz + j < i * sz + sz := by omega
   _ = (i + 1) * sz := by rw [Nat.add_mul, Nat.one_mul]
   _ ≤ l.length * sz := Nat.mul_le_mul_right _ hi
 rw [List.set_append_left _ _ hlt, flat_set hsz l i x x' j u hx hj he] at h1
 exact h1
theorem Bk.put0 (h : Bk sz enc w g t l) {i : Nat} {x x' : α} {u : Value} (hx : l[i]? = some x) (hj : 0 < sz) (he : enc x' = (enc x).set 0 u) : Bk sz enc (w.setCell ⟨g, i * sz, none⟩ u) g t (l.set i x') := h.put hx hj he
theorem Bk.made {z : Array Value} {x : α} (hsz : ∀ x, (enc x).length = sz) (hx : enc x = z.toList) (n : Nat) (w : World) (t : TypeId) : Bk sz enc (w.alloc (.cells (madeCells z (n * z.size)) t)) w.heap.size t (List.replicate n x) := by
 refine ⟨hsz, [], ?_⟩
 rw [List.append_nil, ← made_flat z x hx n]
 have := Wb.new w t (madeCells z (n * z.size)).toList
 simpa using this
end
theorem op_val {P : Program} {o : Oper} {a : Act} {w w' : World} {K : Act → World → Prop} {Q : Exit → Act → World → Prop} {v : Value} (h : (execOp a.eval o).run P w = .ok (.value v) w') (hk : K (a.put o.dst v) w') : Oper.wp P o a w K Q := by
 unfold Oper.wp
 rw [h]
 exact hk
theorem op_skip {P : Program} {o : Oper} {a : Act} {w w' : World} {K : Act → World → Prop} {Q : Exit → Act → World → Prop} (h : (execOp a.eval o).run P w = .ok .skip w') (hk : K (a.put o.dst undef) w') : Oper.wp P o a w K Q := by
 unfold Oper.wp
 rw [h]
 exact hk
theorem op_make {α : Type} {sz : Nat} {enc : α → List Value} {P : Program} {o : Oper} {a : Act} {w : World} {K : Act → World → Prop} {Q : Exit → Act → World → Prop} (t e : TypeId) (n : Nat) (x : α) (z : Value) (bytes : Nat)
  (ho : o.op = .makeSlice t (.const (.int .i64 n)) (.const (.int .i64 n))) (ht : P.underlying t = some (.slice e)) (hi : (P.info? e).map (fun i => (i.zero, i.size, i.bytes)) = some (some z, sz, bytes)) (hz : z.cells.size = sz)
  (hsz : ∀ x, (enc x).length = sz) (hx : enc x = z.cells.toList) (hb : bytes * n ≤ 281474976710656) (hn : n ≤ 281474976710656)
  (hk : ∀ w', Bk sz enc w' w.heap.size e (List.replicate n x) → (∀ B, B ≤ w.heap.size → Below B w w') → (∃ c, w' = w.alloc (.cells c e)) → K (a.put o.dst (.slice (some ⟨w.heap.size, 0, none⟩) n n)) w') : Oper.wp P o a w K Q := by
 rw [Option.map_eq_some_iff] at hi
 obtain ⟨i, hi, hie⟩ := hi
 simp only [Prod.mk.injEq] at hie
 obtain ⟨h0, h1, h2⟩ := hie
 have hr := run_make (P := P) w t e i z ht hi h0 .i64 .i64 (n : Int) (n : Int) (by omega) (by omega) (by rw [h2, ← Int.natCast_mul]; omega) (by omega)
 rw [Int.toNat_natCast] at hr
 have hB : Bk sz enc (w.alloc (.cells (madeCells z.cells (n * z.cells.size)) e)) w.heap.size e (List.replicate n x) := Bk.made hsz hx n w e
 rw [hz] at hB
 rw [h1] at hr
 refine op_val (v := .slice (some ⟨w.heap.size, 0, none⟩) n n) (w' := w.alloc (.cells (madeCells z.cells (n * sz)) e)) ?_ (hk _ hB (fun B hB => (Below.refl _ _).alloc hB _) ⟨_, rfl⟩)
 simp [execOp, ho, Act.eval, hr, Result.andThen]
end Go.Proofs.YtnnhhbjbdmgpiaaGreatDoor
