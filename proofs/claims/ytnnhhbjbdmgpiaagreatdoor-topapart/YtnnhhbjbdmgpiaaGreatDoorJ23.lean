/- Texts of the proofs: NwK, CpyK, CopyX. -/
import Derived.Test.YtnnhhbjbdmgpiaaGreatDoorJ03
import Derived.Test.YtnnhhbjbdmgpiaaGreatDoorJ06
import Derived.Test.YtnnhhbjbdmgpiaaGreatDoorJ22
import Derived.Test.YtnnhhbjbdmgpiaaGreatDoorJ09
set_option linter.unusedSimpArgs false
set_option linter.unusedVariables false
/- Rows in memory of their own that may be written; a region that draws, each operation known by one slot. -/
namespace Go.Proofs.YtnnhhbjbdmgpiaaGreatDoor
set_option maxRecDepth 100000
open Go.RowKit
section
variable {α : Type} {sz : Nat} {enc : α → List Value} {w w' : World} {t : TypeId} {B : Nat} {A : Option Addr} {l : List α}
def Nw (sz : Nat) (enc : α → List Value) (w : World) (t : TypeId) (B : Nat) (A : Option Addr) (l : List α) : Prop := l = [] ∨ ∃ g, A = some ⟨g, 0, none⟩ ∧ B ≤ g ∧ Bk sz enc w g t l
theorem Nw.rd (h : Nw sz enc w t B A l) : RdS sz enc w A l := by
 rcases h with h | ⟨g, rfl, _, h⟩
 ·exact .inl h
 ·exact h.rd
theorem Nw.fresh (h : Nw sz enc w t B A l) : Fresh B A l := by
 rcases h with h | ⟨g, rfl, hB, _⟩
 ·exact .inl h
 ·exact .inr ⟨_, _, rfl, hB⟩
theorem Nw.below (h : Nw sz enc w t B A l) (hb : Below w.heap.size w w') : Nw sz enc w' t B A l := by
 rcases h with h | ⟨g, rfl, hB, h⟩
 ·exact .inl h
 ·exact .inr ⟨g, rfl, hB, h.below hb h.lt⟩
theorem Nw.mono (h : Nw sz enc w t B A l) {B' : Nat} (hB' : B' ≤ B) : Nw sz enc w t B' A l := by
 rcases h with h | ⟨g, rfl, hB, h⟩
 ·exact .inl h
 ·exact .inr ⟨g, rfl, Nat.le_trans hB' hB, h⟩
theorem Nw.offW (h : Nw sz enc w t B A l) {g : Nat} {cs : List Value} {t' : TypeId} (hg : Wb w g t' cs) (hne : t ≠ t') (i : Nat) (u : Value) : Nw sz enc (w.setCell ⟨g, i, none⟩ u) t B A l := by
 rcases h with h | ⟨g', rfl, hB, h⟩
 ·exact .inl h
 ·exact .inr ⟨g', rfl, hB, h.off_ (p := ⟨g, i, none⟩) (h.wb hg hne) u⟩
theorem Nw.old (h : Nw sz enc w t B A l) {p : Addr} (hp : p.block < B) (u : Value) : Nw sz enc (w.setCell p u) t B A l := by
 rcases h with h | ⟨g', rfl, hB, h⟩
 ·exact .inl h
 ·exact .inr ⟨g', rfl, hB, h.off_ (by omega) u⟩
theorem Nw.grown_ (h : Nw sz enc w t B A l) {row : Option Nat} (hb : w.grownBy w' row) (hne : ∀ g cs, Wb w g t cs → row ≠ some g) : Nw sz enc w' t B A l := by
 rcases h with h | ⟨g', rfl, hB, h⟩
 ·exact .inl h
 ·exact .inr ⟨g', rfl, hB, ⟨h.1, h.2.elim fun q h => ⟨q, h.grown hb (hne _ _ h)⟩⟩⟩
theorem run_append_nw {P : Program} (w : World) (t ty e : TypeId) (i : TypeInfo) (z : Value) (size bytes : Nat) (ht : P.underlying t = some (.slice e)) (hi : P.info? e = some i) (hz : i.zero = some z)
  (hsize : i.size = size) (hby : i.bytes = bytes) (henc : ∀ x, (enc x).length = size)
  (b : Addr) (A : Option Addr) (c : Nat) (l : List α) (hr : RdS size enc w A l)
  (h63 : l.length ≤ maxLen) (hbytes : l.length * bytes ≤ 140737488355328) :
  ∃ A' c' w', (Builtin.append_ #[t, t] ty #[.slice (some b) 0 0, .slice A l.length c]).run P w = .ok (.slice A' l.length c') w' ∧ Nw size enc w' e w.heap.size A' l ∧ Below w.heap.size w w' ∧ l.length ≤ c' := by
 rcases Nat.eq_zero_or_pos l.length with h0 | h0
 ·obtain ⟨A', c', w', h1, _, h3, _⟩ := run_append_zero (P := P) w t ty e i z size bytes ht hi hz hsize hby henc b A c l hr h63 hbytes
  exact ⟨A', c', w', h1, .inl (List.eq_nil_of_length_eq_zero h0), h3, by omega⟩
 ·rcases hr with rfl | ⟨bb, off, rfl, hbb, hc⟩
  ·simp at h0
  have hR : RdS size enc w (some ⟨bb, off, none⟩) l := .inr ⟨bb, off, rfl, hbb, hc⟩
  have hfl : (l.flatMap enc).length = l.length * size := by
   clear h63 hbytes hc hR h0
   induction l with
   | nil => simp
   | cons x l ih => rw [List.flatMap_cons, List.length_append, ih, henc, List.length_cons, Nat.add_mul]; omega
  have h := run_append_grow (P := P) w t ty e i z ht hi hz b 0 0 [] (by simp) (by simp) ⟨bb, off, none⟩ l.length c (l.flatMap enc) (by rw [hsize]; exact hfl) (hR.flat henc) (by omega) (by unfold maxLen at h63; omega) (by rw [hby]; exact growslice_fits (by omega) (by rw [Nat.zero_add]; exact hbytes))
  rw [Nat.zero_add] at h
  refine ⟨_, _, _, h, .inr ⟨w.heap.size, rfl, Nat.le_refl _, henc, (Builtin.zeroCells z.cells (grownCap w l.length 0 e - l.length)).toList, ?_⟩, (Below.refl _ _).drew.alloc (Nat.le_refl _) _, grownCap_ge _ _ _ _⟩
  unfold Wb
  rw [show w.heap.size = w.drew.heap.size from rfl, heap_alloc_new w.drew _]
  simp
theorem step_append_nw {P : Program} {w : World} {ops : Array Oper} {o : Oper} {a : Act} {K : Act → World → Prop} {Q : Exit → Act → World → Prop} {E : Prop} (hgd : o.guard = none) (s x : Operand) (t : TypeId) (ho : o.op = .call { callee := .builtin .append, args := #[s, x], argTypes := #[t, t] })
  (e : TypeId) (i : TypeInfo) (z : Value) (size bytes : Nat) (ht : P.underlying t = some (.slice e)) (hi : P.info? e = some i) (hz : i.zero = some z)
  (hsize : i.size = size) (hby : i.bytes = bytes) (henc : ∀ x, (enc x).length = size)
  (b : Addr) (hs : a.eval s = .slice (some b) 0 0) (A : Option Addr) (c : Nat) (l : List α) (hx : a.eval x = .slice A l.length c) (hr : RdS size enc w A l)
  (h63 : l.length ≤ maxLen) (hbytes : l.length * bytes ≤ 140737488355328)
  (h : ∀ A' c' w', Nw size enc w' e w.heap.size A' l → Below w.heap.size w w' → K (a.put o.dst (.slice A' l.length c')) w') :
  if Region.wanted o (yielded ops a.tmps) = true then Oper.wp P o a w K Q else E := by
 rw [if_pos (by simp [Region.wanted, hgd])]
 obtain ⟨A', c', w', hrun, h2, h3, _⟩ := run_append_nw (P := P) w t o.type e i z size bytes ht hi hz hsize hby henc b A c l hr h63 hbytes
 unfold Oper.wp
 simp [execOp, ho, resolve, invoke, builtin, hs, hx, hrun, Result.andThen]
 exact h A' c' w' h2 h3
end
def slotOk (ops : Array Oper) (s : Nat → Nat) : Bool := (List.range ops.size).all fun i => match ops[i]? with
 | none => false
 | some o => (match o.dst with | none => true | some d => d == s i && (List.range ops.size).all fun j => j == i || s j != d || (match ops[j]? with | none => false | some q => needs q i))
theorem slotOk_at {ops : Array Oper} {s : Nat → Nat} (h : slotOk ops s = true) {i : Nat} {o : Oper} (ho : ops[i]? = some o) {d : Nat} (hd : o.dst = some d) : d = s i ∧ ∀ (j : Nat) (q : Oper), ops[j]? = some q → j ≠ i → needs q i = false → s j ≠ d := by
 unfold slotOk at h
 have hlt := (Array.getElem?_eq_some_iff.1 ho).1
 have h1 := List.all_eq_true.1 h i (List.mem_range.2 hlt)
 rw [ho] at h1
 simp only [hd, Bool.and_eq_true, beq_iff_eq] at h1
 refine ⟨h1.1, fun j q hq hj hn hs => ?_⟩
 have hlj := (Array.getElem?_eq_some_iff.1 hq).1
 have h2 := List.all_eq_true.1 h1.2 j (List.mem_range.2 hlj)
 simp [hq, hn, hj, hs] at h2
section
variable {P : Program} {ops : Array Oper} {Q : Exit → Act → World → Prop} {ds : List Nat} {l0 : List Value} {df : List Deferred} {J : World → Prop} {R : Nat → Value → World → Prop} {s : Nat → Nat}
def OneStep (P : Program) (ops : Array Oper) (Q : Exit → Act → World → Prop) (ds : List Nat) (l0 : List Value) (df : List Deferred) (J : World → Prop) (R : Nat → Value → World → Prop) (s : Nat → Nat) (i : Nat) : Prop :=
 ∀ (o : Oper) (u : Nat → Value) (w : World), ops[i]? = some o → J w → (∀ (j : Nat), needs o j = true → R j (u (s j)) w) →
   ∀ K : Act → World → Prop, (∀ (v : Value) (w' : World), (o.dst = none → R i (u (s i)) w') → (o.dst ≠ none → R i v w') → J w' → (∀ j v, j ≠ i → R j v w → R j v w') → K (Act.put ⟨(fillL ds u 0 l0).toArray, df⟩ o.dst v) w') → Oper.wp P o ⟨(fillL ds u 0 l0).toArray, df⟩ w K Q
theorem one_region {id : Nat} {w : World} (ds : List Nat) (s : Nat → Nat) (J : World → Prop) (R : Nat → Value → World → Prop) (hok : freeOk ops ds = true) (hs : slotOk ops s = true) (hm : P.follows .mixedOrders = true) (hJ : J w.drew)
  (hstep : ∀ i, i < ops.size → OneStep P ops Q ds l0 df J R s i)
  (hend : ∀ (u : Nat → Value) (w : World), J w → (∀ i, i < ops.size → R i (u (s i)) w) → Q .normal ⟨(fillL ds u 0 l0).toArray, df⟩ w) :
  (Code.region id ops true).wp P Q ⟨l0.toArray, df⟩ w := by
 refine free_region ds J (fun i u w => R i (u (s i)) w) hok hm hJ ?_ hend
 intro i hi o u w ho hJ hdep K hK
 refine hstep i hi o u w ho hJ hdep K fun v w' h0 h1 hJ' hk => hK v w' ?_ hJ' fun j q hq hj hn hv => ?_
 ·cases hd : o.dst with
  | none => simp only [updO, hd]; exact h0 hd
  | some d =>
    obtain ⟨h2, _⟩ := slotOk_at hs ho hd
    simp only [updO, hd, upd, h2, if_true]
    exact h1 (by rw [hd]; simp)
 ·cases hd : o.dst with
  | none => simp only [updO, hd]; exact hk j _ hj hv
  | some d =>
    obtain ⟨_, h2⟩ := slotOk_at hs ho hd
    simp only [updO, hd, upd, if_neg (h2 j q hq hj hn)]
    exact hk j _ hj hv
end
end Go.Proofs.YtnnhhbjbdmgpiaaGreatDoor
/- Walks of chapter 5: the first region of the program's Copy. -/
namespace Go.Proofs.YtnnhhbjbdmgpiaaGreatDoor
set_option maxRecDepth 100000
open Go.RowKit
theorem get_fill (ds : List Nat) (u : Nat → Value) : ∀ (l : List Value) (k d : Nat), (fillL ds u k l)[d]? = (l[d]?).map fun x => if ds.contains (k + d) then u (k + d) else x
 | [], k, d => by simp [fillL]
 | x :: l, k, 0 => by simp [fillL]
 | x :: l, k, d + 1 => by
   have h := get_fill ds u l (k + 1) d
   simp only [fillL, List.getElem?_cons_succ, h, show k + 1 + d = k + (d + 1) by omega]
theorem eval_in {ds : List Nat} {u : Nat → Value} {l0 : List Value} {df : List Deferred} {k : Nat} {x : Value} (h : ds.contains k = true) (hk : l0[k]? = some x) : Act.eval ⟨(fillL ds u 0 l0).toArray, df⟩ (.tmp k) = u k := by
 have h1 := get_fill ds u l0 0 k
 rw [hk] at h1
 simp only [Nat.zero_add, h, if_true, Option.map_some] at h1
 simp [Act.eval, h1]
theorem eval_out {ds : List Nat} {u : Nat → Value} {l0 : List Value} {df : List Deferred} {k : Nat} {v : Value} (h : ds.contains k = false) (hk : l0[k]? = some v) : Act.eval ⟨(fillL ds u 0 l0).toArray, df⟩ (.tmp k) = v := by
 have h1 := get_fill ds u l0 0 k
 rw [hk] at h1
 simp only [Nat.zero_add, h, Option.map_some, Bool.false_eq_true, if_false] at h1
 simp [Act.eval, h1]
theorem run_field1 (o : Oper) (a : Act) (w : World) (h : Nat) (x : Operand) (ho : o.op = .fieldAddr tKern x 1) (ev : a.eval x = .pointer (some ⟨h, 0, none⟩)) (_hb : (w.heap[h]?).isSome = true) : (execOp a.eval o).run Tryz.prog w = .ok (.value (.pointer (some ⟨h, 1, none⟩))) w := by
 simp [execOp, ho, ev]
 go_simp
theorem run_field2 (o : Oper) (a : Act) (w : World) (h : Nat) (x : Operand) (ho : o.op = .fieldAddr tKern x 2) (ev : a.eval x = .pointer (some ⟨h, 0, none⟩)) (_hb : (w.heap[h]?).isSome = true) : (execOp a.eval o).run Tryz.prog w = .ok (.value (.pointer (some ⟨h, 2, none⟩))) w := by
 simp [execOp, ho, ev]
 go_simp
theorem run_field3 (o : Oper) (a : Act) (w : World) (h : Nat) (x : Operand) (ho : o.op = .fieldAddr tKern x 3) (ev : a.eval x = .pointer (some ⟨h, 0, none⟩)) (_hb : (w.heap[h]?).isSome = true) : (execOp a.eval o).run Tryz.prog w = .ok (.value (.pointer (some ⟨h, 3, none⟩))) w := by
 simp [execOp, ho, ev]
 go_simp
theorem run_field4 (o : Oper) (a : Act) (w : World) (h : Nat) (x : Operand) (ho : o.op = .fieldAddr tKern x 4) (ev : a.eval x = .pointer (some ⟨h, 0, none⟩)) (_hb : (w.heap[h]?).isSome = true) : (execOp a.eval o).run Tryz.prog w = .ok (.value (.pointer (some ⟨h, 4, none⟩))) w := by
 simp [execOp, ho, ev]
 go_simp
theorem run_load1 (o : Oper) (a : Act) (w : World) (p : Addr) (x : Operand) (v : Value) (ho : o.op = .load 23 x) (ev : a.eval x = .pointer (some p)) (hc : w.cell? p = some v) : (execOp a.eval o).run Tryz.prog w = .ok (.value v) w := by
 simp [execOp, ho, ev]
 go_simp
theorem run_load2 (o : Oper) (a : Act) (w : World) (p : Addr) (x : Operand) (v : Value) (ho : o.op = .load 24 x) (ev : a.eval x = .pointer (some p)) (hc : w.cell? p = some v) : (execOp a.eval o).run Tryz.prog w = .ok (.value v) w := by
 simp [execOp, ho, ev]
 go_simp
theorem run_load3 (o : Oper) (a : Act) (w : World) (p : Addr) (x : Operand) (v : Value) (ho : o.op = .load 25 x) (ev : a.eval x = .pointer (some p)) (hc : w.cell? p = some v) : (execOp a.eval o).run Tryz.prog w = .ok (.value v) w := by
 simp [execOp, ho, ev]
 go_simp
theorem run_load4 (o : Oper) (a : Act) (w : World) (p : Addr) (x : Operand) (v : Value) (ho : o.op = .load 26 x) (ev : a.eval x = .pointer (some p)) (hc : w.cell? p = some v) : (execOp a.eval o).run Tryz.prog w = .ok (.value v) w := by
 simp [execOp, ho, ev]
 go_simp
theorem run_none1 (o : Oper) (a : Act) (w : World) (ho : o.op = .buildSlice 23 0 #[]) : (execOp a.eval o).run Tryz.prog w = .ok (.value (.slice (some ⟨w.heap.size, 0, none⟩) 0 0)) (w.alloc (.cells #[] 3)) := by
 simp [execOp, ho]
 go_simp
theorem run_none2 (o : Oper) (a : Act) (w : World) (ho : o.op = .buildSlice 24 0 #[]) : (execOp a.eval o).run Tryz.prog w = .ok (.value (.slice (some ⟨w.heap.size, 0, none⟩) 0 0)) (w.alloc (.cells #[] 57)) := by
 simp [execOp, ho]
 go_simp
theorem run_none3 (o : Oper) (a : Act) (w : World) (ho : o.op = .buildSlice 25 0 #[]) : (execOp a.eval o).run Tryz.prog w = .ok (.value (.slice (some ⟨w.heap.size, 0, none⟩) 0 0)) (w.alloc (.cells #[] 9)) := by
 simp [execOp, ho]
 go_simp
theorem run_none4 (o : Oper) (a : Act) (w : World) (ho : o.op = .buildSlice 26 0 #[]) : (execOp a.eval o).run Tryz.prog w = .ok (.value (.slice (some ⟨w.heap.size, 0, none⟩) 0 0)) (w.alloc (.cells #[] 69)) := by
 simp [execOp, ho]
 go_simp
theorem run_made (o : Oper) (a : Act) (w : World) (x1 x2 x3 x4 : Operand) (v1 v2 v3 v4 : Value) (ho : o.op = .build tKern #[(1, x1), (2, x2), (3, x3), (4, x4)]) (e1 : a.eval x1 = v1) (e2 : a.eval x2 = v2) (e3 : a.eval x3 = v3) (e4 : a.eval x4 = v4) (A1 A2 A3 A4 : Option Addr) (n1 n2 n3 n4 c1 c2 c3 c4 : Nat) (h1 : v1 = .slice A1 n1 c1) (h2 : v2 = .slice A2 n2 c2) (h3 : v3 = .slice A3 n3 c3) (h4 : v4 = .slice A4 n4 c4) : (execOp a.eval o).run Tryz.prog w = .ok (.value (.agg #[.slice none 0 0, .slice A1 n1 c1, .slice A2 n2 c2, .slice A3 n3 c3, .slice A4 n4 c4])) w := by
 subst h1 h2 h3 h4
 simp [execOp, ho, e1, e2, e3, e4]
 go_simp
theorem run_app (o : Oper) (a : Act) (w w' : World) (x y : Operand) (t : TypeId) (vx vy v : Value) (ho : o.op = .call { callee := .builtin .append, args := #[x, y], argTypes := #[t, t] }) (ex : a.eval x = vx) (ey : a.eval y = vy) (hrun : (Builtin.append_ #[t, t] o.type #[vx, vy]).run Tryz.prog w = .ok v w') : (execOp a.eval o).run Tryz.prog w = .ok (.value v) w' := by
 simp [execOp, ho, resolve, invoke, builtin, ex, ey, hrun, Result.andThen]
theorem run_box (o : Oper) (a : Act) (w : World) (ho : o.op = .alloc tKern) : (execOp a.eval o).run Tryz.prog w = .ok (.value (.pointer (some ⟨w.heap.size, 0, none⟩))) (w.alloc (.cells #[.slice none 0 0, .slice none 0 0, .slice none 0 0, .slice none 0 0, .slice none 0 0] tKern)) := by
 simp [execOp, ho]
 go_simp
theorem run_put5 (o : Oper) (a : Act) (w : World) (g : Nat) (x y : Operand) (s1 s2 s3 s4 : Value) (A1 A2 A3 A4 : Option Addr) (n1 n2 n3 n4 k1 k2 k3 k4 : Nat) (h1 : s1 = .slice A1 n1 k1) (h2 : s2 = .slice A2 n2 k2) (h3 : s3 = .slice A3 n3 k3) (h4 : s4 = .slice A4 n4 k4) (c0 c1 c2 c3 c4 : Value) (ho : o.op = .store tKern x y) (ex : a.eval x = .pointer (some ⟨g, 0, none⟩)) (ey : a.eval y = .agg #[.slice none 0 0, s1, s2, s3, s4]) (hg : Wb w g tKern [c0, c1, c2, c3, c4]) :
  (execOp a.eval o).run Tryz.prog w = .ok .skip (((((w.setCell ⟨g, 0, none⟩ (.slice none 0 0)).setCell ⟨g, 1, none⟩ s1).setCell ⟨g, 2, none⟩ s2).setCell ⟨g, 3, none⟩ s3).setCell ⟨g, 4, none⟩ s4) := by
 subst h1 h2 h3 h4
 have q0 := hg.cell 0
 have q1 := hg.cell 1
 have q2 := hg.cell 2
 have q3 := hg.cell 3
 have q4 := hg.cell 4
 have f0 := hg.open_ 0
 have f1 := hg.open_ 1
 have f2 := hg.open_ 2
 have f3 := hg.open_ 3
 have f4 := hg.open_ 4
 simp only [List.getElem?_cons_zero, List.getElem?_cons_succ] at q0 q1 q2 q3 q4
 clear hg
 simp [execOp, ho, ex, ey]
 go_simp
def CpR (B h : Nat) (M N S Q : Option Addr) (cm cn cs cq : Nat) (mem : List Int) (nodes : List Cf.Node) (pipes : List (List UInt8)) (ps : List PV) (i : Nat) (v : Value) (w : World) : Prop := match i with
 | 0 => ∃ b, v = .slice (some b) 0 0
 | 1 => v = .pointer (some ⟨h, 1, none⟩)
 | 2 => v = .slice M mem.length cm
 | 3 => ∃ A c, v = .slice A mem.length c ∧ Nw 1 encZ w tInt B A mem ∧ mem.length ≤ c
 | 4 => ∃ b, v = .slice (some b) 0 0
 | 5 => v = .pointer (some ⟨h, 2, none⟩)
 | 6 => v = .slice N nodes.length cn
 | 7 => ∃ A c, v = .slice A nodes.length c ∧ Nw 4 encNd w tNode B A nodes ∧ nodes.length ≤ c
 | 8 => ∃ b, v = .slice (some b) 0 0
 | 9 => v = .pointer (some ⟨h, 3, none⟩)
 | 10 => v = .slice S pipes.length cs
 | 11 => ∃ A c, v = .slice A pipes.length c ∧ Nw 1 encSt w tStr B A pipes ∧ pipes.length ≤ c
 | 12 => ∃ b, v = .slice (some b) 0 0
 | 13 => v = .pointer (some ⟨h, 4, none⟩)
 | 14 => v = .slice Q ps.length cq
 | 15 => ∃ A c, v = .slice A ps.length c ∧ Nw 2 encPv w tProc B A ps ∧ ps.length ≤ c
 | 16 => ∃ A1 c1 A2 c2 A3 c3 A4 c4, v = .agg #[.slice none 0 0, .slice A1 mem.length c1, .slice A2 nodes.length c2, .slice A3 pipes.length c3, .slice A4 ps.length c4] ∧ Nw 1 encZ w tInt B A1 mem ∧ Nw 4 encNd w tNode B A2 nodes ∧ Nw 1 encSt w tStr B A3 pipes ∧ Nw 2 encPv w tProc B A4 ps ∧ mem.length ≤ c1
 | 17 => ∃ g, v = .pointer (some ⟨g, 0, none⟩) ∧ (∃ cs, cs.length = 5 ∧ Wb w g tKern cs) ∧ B ≤ g
 | 18 => ∃ g A1 c1 A2 c2 A3 c3 A4 c4, v = .pointer (some ⟨g, 0, none⟩) ∧ B ≤ g ∧ Wb w g tKern [.slice none 0 0, .slice A1 mem.length c1, .slice A2 nodes.length c2, .slice A3 pipes.length c3, .slice A4 ps.length c4] ∧ Nw 1 encZ w tInt B A1 mem ∧ Nw 4 encNd w tNode B A2 nodes ∧ Nw 1 encSt w tStr B A3 pipes ∧ Nw 2 encPv w tProc B A4 ps ∧ mem.length ≤ c1
 | _ => True
theorem CpR.keep {B h : Nat} {M N S Q : Option Addr} {cm cn cs cq : Nat} {mem : List Int} {nodes : List Cf.Node} {pipes : List (List UInt8)} {ps : List PV} {i : Nat} {v : Value} {w w' : World} (h0 : CpR B h M N S Q cm cn cs cq mem nodes pipes ps i v w) (hb : Below w.heap.size w w') : CpR B h M N S Q cm cn cs cq mem nodes pipes ps i v w' := by
 match i, h0 with
 | 0, h => exact h
 | 1, h => exact h
 | 2, h => exact h
 | 3, ⟨A, c, h1, h2, h9⟩ => exact ⟨A, c, h1, h2.below hb, h9⟩
 | 4, h => exact h
 | 5, h => exact h
 | 6, h => exact h
 | 7, ⟨A, c, h1, h2, h9⟩ => exact ⟨A, c, h1, h2.below hb, h9⟩
 | 8, h => exact h
 | 9, h => exact h
 | 10, h => exact h
 | 11, ⟨A, c, h1, h2, h9⟩ => exact ⟨A, c, h1, h2.below hb, h9⟩
 | 12, h => exact h
 | 13, h => exact h
 | 14, h => exact h
 | 15, ⟨A, c, h1, h2, h9⟩ => exact ⟨A, c, h1, h2.below hb, h9⟩
 | 16, ⟨A1, c1, A2, c2, A3, c3, A4, c4, h1, h2, h3, h4, h5, h9⟩ => exact ⟨A1, c1, A2, c2, A3, c3, A4, c4, h1, h2.below hb, h3.below hb, h4.below hb, h5.below hb, h9⟩
 | 17, ⟨g, h1, ⟨cs, h2, h3⟩, h4⟩ => exact ⟨g, h1, ⟨cs, h2, h3.below hb h3.lt⟩, h4⟩
 | 18, ⟨g, A1, c1, A2, c2, A3, c3, A4, c4, h0, h1, hw, h2, h3, h4, h5, h9⟩ => exact ⟨g, A1, c1, A2, c2, A3, c3, A4, c4, h0, h1, hw.below hb hw.lt, h2.below hb, h3.below hb, h4.below hb, h5.below hb, h9⟩
 | _ + 19, _ => exact trivial
def cpSlot (i : Nat) : Nat := if i ≤ 16 then i + 12 else 3
end Go.Proofs.YtnnhhbjbdmgpiaaGreatDoor
/- Walks of chapter 4: the program's Copy once more: the rows may be written. -/
namespace Go.Proofs.YtnnhhbjbdmgpiaaGreatDoor
set_option maxRecDepth 100000
open Go.RowKit
abbrev tIns : TypeId := 121
def CopyNw (n : List UInt8) (l : List Cf.Ins) (d : List Int) (w : World) (e : Ending) (w' : World) : Prop :=
 ∃ (A B : Option Addr) (ca cb : Nat), e = .returned (.agg #[.string ⟨n.toArray⟩, .slice A l.length ca, .slice B d.length cb]) ∧ Nw 4 encI w' tIns w.heap.size A l ∧ Nw 1 encZ w' tInt w.heap.size B d ∧ Below w.heap.size w w'
theorem copy_done2 {n : List UInt8} {l : List Cf.Ins} {d : List Int} {w wb w3 : World} {A2 A3 : Option Addr} (c2 c3 : Nat) (v0 v1 v2 : Value) (hb0 : Below w.heap.size w wb) (hlt : w.heap.size + 1 < wb.heap.size) (h2 : Nw 4 encI w3 tIns wb.heap.size A2 l) (h3 : Nw 1 encZ w3 tInt wb.heap.size A3 d) (hB : Below wb.heap.size wb w3) :
  CopyNw n l d w (.returned (.agg #[.string ⟨n.toArray⟩, .slice A2 l.length c2, .slice A3 d.length c3])) (((w3.setCell ⟨w.heap.size + 1, 0, none⟩ v0).setCell ⟨w.heap.size + 1, 1, none⟩ v1).setCell ⟨w.heap.size + 1, 2, none⟩ v2) :=
 ⟨A2, A3, c2, c3, rfl, (((h2.old (p := ⟨w.heap.size + 1, 0, none⟩) hlt v0).old (p := ⟨w.heap.size + 1, 1, none⟩) hlt v1).old (p := ⟨w.heap.size + 1, 2, none⟩) hlt v2).mono hb0.size,
   (((h3.old (p := ⟨w.heap.size + 1, 0, none⟩) hlt v0).old (p := ⟨w.heap.size + 1, 1, none⟩) hlt v1).old (p := ⟨w.heap.size + 1, 2, none⟩) hlt v2).mono hb0.size,
   (((hb0.trans (hB.mono hb0.size)).setCell (p := ⟨w.heap.size + 1, 0, none⟩) (by show w.heap.size ≤ w.heap.size + 1; omega) v0).setCell (p := ⟨w.heap.size + 1, 1, none⟩) (by show w.heap.size ≤ w.heap.size + 1; omega) v1).setCell (p := ⟨w.heap.size + 1, 2, none⟩) (by show w.heap.size ≤ w.heap.size + 1; omega) v2⟩
set_option maxRecDepth 100000 in
set_option maxHeartbeats 4000000 in
theorem copy_nw (n : List UInt8) (l : List Cf.Ins) (d : List Int) (A B : Option Addr) (ca cb : Nat) (w : World) (hC : Codes w A l) (hD : Ints w B d) (hn : n.length ≤ 140737488355328) (hl : l.length ≤ maxLen) (hd : d.length ≤ maxLen) (hlb : l.length * 32 ≤ 140737488355328) (hdb : d.length * 8 ≤ 140737488355328) :
  Calls Tryz.prog 57 #[.agg #[.string ⟨n.toArray⟩, .slice A l.length ca, .slice B d.length cb]] w (CopyNw n l d w) := by
 obtain ⟨i1, hi1, hy0, hy1, hy2⟩ := info_parts infoNum
 obtain ⟨i0, hi, hz0, hz1, hz2⟩ := info_parts infoIns
 have Hi := Lib.hid hi
 have Hz0 := Lib.hid hz0
 have Hz1 := Lib.hid hz1
 have Hz2 := Lib.hid hz2
 have Hi1 := Lib.hid hi1
 have Hy0 := Lib.hid hy0
 have Hy1 := Lib.hid hy1
 have Hy2 := Lib.hid hy2
 have HCl := Lib.hid (fun W => cloneS_any n W (by omega))
 have HC := Lib.hid hC
 have HD := Lib.hid hD
 clear hi hz0 hz1 hz2 hi1 hy0 hy1 hy2 hC hD
 go_enter Tryz.func57, Tryz.ntmps57
 go_wp2_with fail
 have hb0 : Below w.heap.size w ((w.alloc (.cells #[.string ⟨n.toArray⟩, .slice A l.length ca, .slice B d.length cb] 79)).alloc (.cells #[.string ⟨#[]⟩, .slice none 0 0, .slice none 0 0] 79)) := ((Below.refl _ _).alloc (Nat.le_refl _) _).alloc (by simp) _
 have hx0 := (Wb.new w 79 [.string ⟨n.toArray⟩, .slice A l.length ca, .slice B d.length cb]).alloc (.cells #[.string ⟨#[]⟩, .slice none 0 0, .slice none 0 0] 79)
 have hx1 : Wb ((w.alloc (.cells #[.string ⟨n.toArray⟩, .slice A l.length ca, .slice B d.length cb] 79)).alloc (.cells #[.string ⟨#[]⟩, .slice none 0 0, .slice none 0 0] 79)) (w.heap.size + 1) 79 [.string ⟨#[]⟩, .slice none 0 0, .slice none 0 0] := by
  have := Wb.new (w.alloc (.cells #[.string ⟨n.toArray⟩, .slice A l.length ca, .slice B d.length cb] 79)) 79 [.string ⟨#[]⟩, .slice none 0 0, .slice none 0 0]
  simpa using this
 have HCB := Lib.hid (HC.out.below hb0)
 have HDB := Lib.hid (HD.out.below hb0)
 have HB0 := Lib.hid hb0
 have Hx0 := Lib.hid hx0
 have Hx1 := Lib.hid hx1
 clear hb0 HC HD hx0 hx1
 generalize (w.alloc (.cells #[.string ⟨n.toArray⟩, .slice A l.length ca, .slice B d.length cb] 79)).alloc (.cells #[.string ⟨#[]⟩, .slice none 0 0, .slice none 0 0] 79) = wb at *
 have c0 := Hx0.out.cell 0
 have c1 := Hx0.out.cell 1
 have c2 := Hx0.out.cell 2
 simp only [List.getElem?_cons_zero, List.getElem?_cons_succ] at c0 c1 c2
 have HSk : Hid (∀ W : World, Below wb.heap.size wb W → W.cell? ⟨w.heap.size, 0, none⟩ = some (.string ⟨n.toArray⟩) ∧ W.cell? ⟨w.heap.size, 1, none⟩ = some (.slice A l.length ca) ∧ W.cell? ⟨w.heap.size, 2, none⟩ = some (.slice B d.length cb)) :=
  Lib.hid (fun W hW => ⟨((Hx0.out.below hW Hx0.out.lt).cell 0), ((Hx0.out.below hW Hx0.out.lt).cell 1), ((Hx0.out.below hW Hx0.out.lt).cell 2)⟩)
 have hBr : Below wb.heap.size wb wb := Below.refl _ _
 go_region_held3 (fun W => W.cell? ⟨w.heap.size, 0, none⟩ = some (.string ⟨n.toArray⟩) ∧ W.cell? ⟨w.heap.size, 1, none⟩ = some (.slice A l.length ca) ∧ W.cell? ⟨w.heap.size, 2, none⟩ = some (.slice B d.length cb))
  (first | go_keep | exact HSk.out _ (by repeat (first | assumption | apply below_more | apply below_turn)))
  (first
    | (go_at_call 58
       refine (HCl.out _).mono ?_
       rintro e w1 ⟨rfl, hb1⟩
       have hB1 := below_step (a := wb) (by repeat (first | assumption | apply below_more | apply below_turn)) hb1)
    | (refine step_append_nw (by rfl) (.tmp 6) (.tmp 8) 77 (by rfl) 121 i0 (.agg #[.int .i64 0, .int .i64 0, .int .i64 0, .int .i64 0]) 4 32 Tryz.underlying77 Hi.out Hz0.out Hz1.out Hz2.out encI_len _ (by rfl) A ca l (by rfl) (HCB.out.below (by repeat (first | assumption | apply below_more | apply below_turn))) hl hlb ?_
       intro A2 c2' w2 hR2 hb2
       have hF2 := hR2.mono (below_size (a := wb) (by repeat (first | assumption | apply below_more | apply below_turn)))
       have hB2 := below_step (a := wb) (by repeat (first | assumption | apply below_more | apply below_turn)) hb2)
    | (refine step_append_nw (by rfl) (.tmp 10) (.tmp 12) 23 (by rfl) 3 i1 (.int .i64 0) 1 8 Tryz.underlying23 Hi1.out Hy0.out Hy1.out Hy2.out encZ_len _ (by rfl) B cb d (by rfl) (HDB.out.below (by repeat (first | assumption | apply below_more | apply below_turn))) hd hdb ?_
       intro A3 c3' w3 hR3 hb3
       have hF3 := hR3.mono (below_size (a := wb) (by repeat (first | assumption | apply below_more | apply below_turn)))
       have hB3 := below_step (a := wb) (by repeat (first | assumption | apply below_more | apply below_turn)) hb3
       have hx3 := Hx1.out.below hB3 Hx1.out.lt
       have k0 := hx3.cell 0
       have k1 := hx3.cell 1
       have k2 := hx3.cell 2
       have f0 := hx3.open_ 0
       have f1 := hx3.open_ 1
       have f2 := hx3.open_ 2
       simp only [List.getElem?_cons_zero, List.getElem?_cons_succ] at k0 k1 k2
       obtain ⟨m0, m1, m2⟩ := HSk.out _ hB3
       clear hx3)
    | fail)
 all_goals
  go_wp2
  refine bodyPost_ret (v := .agg #[.string ⟨n.toArray⟩, .slice A2 l.length c2', .slice A3 d.length c3']) (by simp [results, Tryz.results57, go_sem, k0, k1, k2]) rfl ?_
  exact copy_done2 c2' c3' _ _ _ HB0.out Hx1.out.lt (hF2.below (below_step (a := w2) (by repeat (first | exact Below.refl _ _ | apply below_more | apply below_turn)) hb3)) hF3 hB3
end Go.Proofs.YtnnhhbjbdmgpiaaGreatDoor
