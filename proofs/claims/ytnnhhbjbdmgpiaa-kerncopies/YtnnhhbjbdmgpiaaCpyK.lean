/- Walks of chapter 5: the first region of the program's Copy. -/
import Derived.Test.YtnnhhbjbdmgpiaaNwK
namespace Go.Proofs.Ytnnhhbjbdmgpiaa
open Go.RowKit

theorem get_fill (ds : List Nat) (u : Nat → Value) : ∀ (l : List Value) (k d : Nat), (fillL ds u k l)[d]? = (l[d]?).map fun x => if ds.contains (k + d) then u (k + d) else x
  | [], k, d => by simp [fillL]
  | x :: l, k, 0 => by simp [fillL]
  | x :: l, k, d + 1 => by
    have h := get_fill ds u l (k + 1) d
    simp only [fillL, List.getElem?_cons_succ, h, show k + 1 + d = k + (d + 1) by omega]
theorem eval_in {ds : List Nat} {u : Nat → Value} {l0 : List Value} {df : List Deferred} {k : Nat} {x : Value} (h : ds.contains k = true) (hk : l0[k]? = some x) : Act.eval ⟨(fillL ds u 0 l0).toArray, df⟩ (.tmp k) = u k := by
  have h1 := get_fill ds u l0 0 k
  rw [hk] at h1
  simp only [Nat.zero_add, h, if_true, Option.map_some] at h1
  simp [Act.eval, h1]
theorem eval_out {ds : List Nat} {u : Nat → Value} {l0 : List Value} {df : List Deferred} {k : Nat} {v : Value} (h : ds.contains k = false) (hk : l0[k]? = some v) : Act.eval ⟨(fillL ds u 0 l0).toArray, df⟩ (.tmp k) = v := by
  have h1 := get_fill ds u l0 0 k
  rw [hk] at h1
  simp only [Nat.zero_add, h, Option.map_some, Bool.false_eq_true, if_false] at h1
  simp [Act.eval, h1]
theorem run_field1 (o : Oper) (a : Act) (w : World) (h : Nat) (x : Operand) (ho : o.op = .fieldAddr tKern x 1) (ev : a.eval x = .pointer (some ⟨h, 0, none⟩)) (_hb : (w.heap[h]?).isSome = true) : (execOp a.eval o).run Try.prog w = .ok (.value (.pointer (some ⟨h, 1, none⟩))) w := by
  simp [execOp, ho, ev]
  go_simp
theorem run_field2 (o : Oper) (a : Act) (w : World) (h : Nat) (x : Operand) (ho : o.op = .fieldAddr tKern x 2) (ev : a.eval x = .pointer (some ⟨h, 0, none⟩)) (_hb : (w.heap[h]?).isSome = true) : (execOp a.eval o).run Try.prog w = .ok (.value (.pointer (some ⟨h, 2, none⟩))) w := by
  simp [execOp, ho, ev]
  go_simp
theorem run_field3 (o : Oper) (a : Act) (w : World) (h : Nat) (x : Operand) (ho : o.op = .fieldAddr tKern x 3) (ev : a.eval x = .pointer (some ⟨h, 0, none⟩)) (_hb : (w.heap[h]?).isSome = true) : (execOp a.eval o).run Try.prog w = .ok (.value (.pointer (some ⟨h, 3, none⟩))) w := by
  simp [execOp, ho, ev]
  go_simp
theorem run_field4 (o : Oper) (a : Act) (w : World) (h : Nat) (x : Operand) (ho : o.op = .fieldAddr tKern x 4) (ev : a.eval x = .pointer (some ⟨h, 0, none⟩)) (_hb : (w.heap[h]?).isSome = true) : (execOp a.eval o).run Try.prog w = .ok (.value (.pointer (some ⟨h, 4, none⟩))) w := by
  simp [execOp, ho, ev]
  go_simp
theorem run_load1 (o : Oper) (a : Act) (w : World) (p : Addr) (x : Operand) (v : Value) (ho : o.op = .load 23 x) (ev : a.eval x = .pointer (some p)) (hc : w.cell? p = some v) : (execOp a.eval o).run Try.prog w = .ok (.value v) w := by
  simp [execOp, ho, ev]
  go_simp
theorem run_load2 (o : Oper) (a : Act) (w : World) (p : Addr) (x : Operand) (v : Value) (ho : o.op = .load 24 x) (ev : a.eval x = .pointer (some p)) (hc : w.cell? p = some v) : (execOp a.eval o).run Try.prog w = .ok (.value v) w := by
  simp [execOp, ho, ev]
  go_simp
theorem run_load3 (o : Oper) (a : Act) (w : World) (p : Addr) (x : Operand) (v : Value) (ho : o.op = .load 25 x) (ev : a.eval x = .pointer (some p)) (hc : w.cell? p = some v) : (execOp a.eval o).run Try.prog w = .ok (.value v) w := by
  simp [execOp, ho, ev]
  go_simp
theorem run_load4 (o : Oper) (a : Act) (w : World) (p : Addr) (x : Operand) (v : Value) (ho : o.op = .load 26 x) (ev : a.eval x = .pointer (some p)) (hc : w.cell? p = some v) : (execOp a.eval o).run Try.prog w = .ok (.value v) w := by
  simp [execOp, ho, ev]
  go_simp
theorem run_none1 (o : Oper) (a : Act) (w : World) (ho : o.op = .buildSlice 23 0 #[]) : (execOp a.eval o).run Try.prog w = .ok (.value (.slice (some ⟨w.heap.size, 0, none⟩) 0 0)) (w.alloc (.cells #[] 3)) := by
  simp [execOp, ho]
  go_simp
theorem run_none2 (o : Oper) (a : Act) (w : World) (ho : o.op = .buildSlice 24 0 #[]) : (execOp a.eval o).run Try.prog w = .ok (.value (.slice (some ⟨w.heap.size, 0, none⟩) 0 0)) (w.alloc (.cells #[] 37)) := by
  simp [execOp, ho]
  go_simp
theorem run_none3 (o : Oper) (a : Act) (w : World) (ho : o.op = .buildSlice 25 0 #[]) : (execOp a.eval o).run Try.prog w = .ok (.value (.slice (some ⟨w.heap.size, 0, none⟩) 0 0)) (w.alloc (.cells #[] 9)) := by
  simp [execOp, ho]
  go_simp
theorem run_none4 (o : Oper) (a : Act) (w : World) (ho : o.op = .buildSlice 26 0 #[]) : (execOp a.eval o).run Try.prog w = .ok (.value (.slice (some ⟨w.heap.size, 0, none⟩) 0 0)) (w.alloc (.cells #[] 41)) := by
  simp [execOp, ho]
  go_simp
theorem run_made (o : Oper) (a : Act) (w : World) (x1 x2 x3 x4 : Operand) (v1 v2 v3 v4 : Value) (ho : o.op = .build tKern #[(1, x1), (2, x2), (3, x3), (4, x4)]) (e1 : a.eval x1 = v1) (e2 : a.eval x2 = v2) (e3 : a.eval x3 = v3) (e4 : a.eval x4 = v4) (A1 A2 A3 A4 : Option Addr) (n1 n2 n3 n4 c1 c2 c3 c4 : Nat) (h1 : v1 = .slice A1 n1 c1) (h2 : v2 = .slice A2 n2 c2) (h3 : v3 = .slice A3 n3 c3) (h4 : v4 = .slice A4 n4 c4) : (execOp a.eval o).run Try.prog w = .ok (.value (.agg #[.slice none 0 0, .slice A1 n1 c1, .slice A2 n2 c2, .slice A3 n3 c3, .slice A4 n4 c4])) w := by
  subst h1 h2 h3 h4
  simp [execOp, ho, e1, e2, e3, e4]
  go_simp
theorem run_app (o : Oper) (a : Act) (w w' : World) (x y : Operand) (t : TypeId) (vx vy v : Value) (ho : o.op = .call { callee := .builtin .append, args := #[x, y], argTypes := #[t, t] }) (ex : a.eval x = vx) (ey : a.eval y = vy) (hrun : (Builtin.append_ #[t, t] o.type #[vx, vy]).run Try.prog w = .ok v w') : (execOp a.eval o).run Try.prog w = .ok (.value v) w' := by
  simp [execOp, ho, resolve, invoke, builtin, ex, ey, hrun, Result.andThen]
theorem run_box (o : Oper) (a : Act) (w : World) (ho : o.op = .alloc tKern) : (execOp a.eval o).run Try.prog w = .ok (.value (.pointer (some ⟨w.heap.size, 0, none⟩))) (w.alloc (.cells #[.slice none 0 0, .slice none 0 0, .slice none 0 0, .slice none 0 0, .slice none 0 0] tKern)) := by
  simp [execOp, ho]
  go_simp
theorem run_put5 (o : Oper) (a : Act) (w : World) (g : Nat) (x y : Operand) (s1 s2 s3 s4 : Value) (A1 A2 A3 A4 : Option Addr) (n1 n2 n3 n4 k1 k2 k3 k4 : Nat) (h1 : s1 = .slice A1 n1 k1) (h2 : s2 = .slice A2 n2 k2) (h3 : s3 = .slice A3 n3 k3) (h4 : s4 = .slice A4 n4 k4) (c0 c1 c2 c3 c4 : Value) (ho : o.op = .store tKern x y) (ex : a.eval x = .pointer (some ⟨g, 0, none⟩)) (ey : a.eval y = .agg #[.slice none 0 0, s1, s2, s3, s4]) (hg : Wb w g tKern [c0, c1, c2, c3, c4]) :
    (execOp a.eval o).run Try.prog w = .ok .skip (((((w.setCell ⟨g, 0, none⟩ (.slice none 0 0)).setCell ⟨g, 1, none⟩ s1).setCell ⟨g, 2, none⟩ s2).setCell ⟨g, 3, none⟩ s3).setCell ⟨g, 4, none⟩ s4) := by
  subst h1 h2 h3 h4
  have q0 := hg.cell 0
  have q1 := hg.cell 1
  have q2 := hg.cell 2
  have q3 := hg.cell 3
  have q4 := hg.cell 4
  have f0 := hg.open_ 0
  have f1 := hg.open_ 1
  have f2 := hg.open_ 2
  have f3 := hg.open_ 3
  have f4 := hg.open_ 4
  simp only [List.getElem?_cons_zero, List.getElem?_cons_succ] at q0 q1 q2 q3 q4
  clear hg
  simp [execOp, ho, ex, ey]
  go_simp
/-- What each operation of Copy's first region leaves. -/
def CpR (B h : Nat) (M N S Q : Option Addr) (cm cn cs cq : Nat) (mem : List Int) (nodes : List Cf.Node) (pipes : List (List UInt8)) (ps : List PV) (i : Nat) (v : Value) (w : World) : Prop := match i with
  | 0 => ∃ b, v = .slice (some b) 0 0
  | 1 => v = .pointer (some ⟨h, 1, none⟩)
  | 2 => v = .slice M mem.length cm
  | 3 => ∃ A c, v = .slice A mem.length c ∧ Nw 1 encZ w tInt B A mem
  | 4 => ∃ b, v = .slice (some b) 0 0
  | 5 => v = .pointer (some ⟨h, 2, none⟩)
  | 6 => v = .slice N nodes.length cn
  | 7 => ∃ A c, v = .slice A nodes.length c ∧ Nw 4 encNd w tNode B A nodes
  | 8 => ∃ b, v = .slice (some b) 0 0
  | 9 => v = .pointer (some ⟨h, 3, none⟩)
  | 10 => v = .slice S pipes.length cs
  | 11 => ∃ A c, v = .slice A pipes.length c ∧ Nw 1 encSt w tStr B A pipes
  | 12 => ∃ b, v = .slice (some b) 0 0
  | 13 => v = .pointer (some ⟨h, 4, none⟩)
  | 14 => v = .slice Q ps.length cq
  | 15 => ∃ A c, v = .slice A ps.length c ∧ Nw 2 encPv w tProc B A ps
  | 16 => ∃ A1 c1 A2 c2 A3 c3 A4 c4, v = .agg #[.slice none 0 0, .slice A1 mem.length c1, .slice A2 nodes.length c2, .slice A3 pipes.length c3, .slice A4 ps.length c4] ∧ Nw 1 encZ w tInt B A1 mem ∧ Nw 4 encNd w tNode B A2 nodes ∧ Nw 1 encSt w tStr B A3 pipes ∧ Nw 2 encPv w tProc B A4 ps
  | 17 => ∃ g, v = .pointer (some ⟨g, 0, none⟩) ∧ (∃ cs, cs.length = 5 ∧ Wb w g tKern cs) ∧ B ≤ g
  | 18 => ∃ g A1 c1 A2 c2 A3 c3 A4 c4, v = .pointer (some ⟨g, 0, none⟩) ∧ B ≤ g ∧ Wb w g tKern [.slice none 0 0, .slice A1 mem.length c1, .slice A2 nodes.length c2, .slice A3 pipes.length c3, .slice A4 ps.length c4] ∧ Nw 1 encZ w tInt B A1 mem ∧ Nw 4 encNd w tNode B A2 nodes ∧ Nw 1 encSt w tStr B A3 pipes ∧ Nw 2 encPv w tProc B A4 ps
  | _ => True
theorem CpR.keep {B h : Nat} {M N S Q : Option Addr} {cm cn cs cq : Nat} {mem : List Int} {nodes : List Cf.Node} {pipes : List (List UInt8)} {ps : List PV} {i : Nat} {v : Value} {w w' : World} (h0 : CpR B h M N S Q cm cn cs cq mem nodes pipes ps i v w) (hb : Below w.heap.size w w') : CpR B h M N S Q cm cn cs cq mem nodes pipes ps i v w' := by
  match i, h0 with
  | 0, h => exact h
  | 1, h => exact h
  | 2, h => exact h
  | 3, ⟨A, c, h1, h2⟩ => exact ⟨A, c, h1, h2.below hb⟩
  | 4, h => exact h
  | 5, h => exact h
  | 6, h => exact h
  | 7, ⟨A, c, h1, h2⟩ => exact ⟨A, c, h1, h2.below hb⟩
  | 8, h => exact h
  | 9, h => exact h
  | 10, h => exact h
  | 11, ⟨A, c, h1, h2⟩ => exact ⟨A, c, h1, h2.below hb⟩
  | 12, h => exact h
  | 13, h => exact h
  | 14, h => exact h
  | 15, ⟨A, c, h1, h2⟩ => exact ⟨A, c, h1, h2.below hb⟩
  | 16, ⟨A1, c1, A2, c2, A3, c3, A4, c4, h1, h2, h3, h4, h5⟩ => exact ⟨A1, c1, A2, c2, A3, c3, A4, c4, h1, h2.below hb, h3.below hb, h4.below hb, h5.below hb⟩
  | 17, ⟨g, h1, ⟨cs, h2, h3⟩, h4⟩ => exact ⟨g, h1, ⟨cs, h2, h3.below hb h3.lt⟩, h4⟩
  | 18, ⟨g, A1, c1, A2, c2, A3, c3, A4, c4, h0, h1, hw, h2, h3, h4, h5⟩ => exact ⟨g, A1, c1, A2, c2, A3, c3, A4, c4, h0, h1, hw.below hb hw.lt, h2.below hb, h3.below hb, h4.below hb, h5.below hb⟩
  | _ + 19, _ => exact trivial
def cpSlot (i : Nat) : Nat := if i ≤ 16 then i + 12 else 3
end Go.Proofs.Ytnnhhbjbdmgpiaa
