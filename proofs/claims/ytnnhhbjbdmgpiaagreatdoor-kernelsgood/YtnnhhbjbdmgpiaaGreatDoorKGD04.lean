/- Texts of the proof of KernelsGood: ActsR, ActsK, GoodK. -/
import Derived.Test.YtnnhhbjbdmgpiaaGreatDoorJ33
import Derived.Test.YtnnhhbjbdmgpiaaGreatDoorKGD03
import Derived.Test.YtnnhhbjbdmgpiaaGreatDoorJ24
import Derived.Test.YtnnhhbjbdmgpiaaGreatDoorKGD00
import Derived.BigRegion
import Derived.BigQuiet
import Derived.Test.YtnnhhbjbdmgpiaaGreatDoorKGD02
import Derived.Test.YtnnhhbjbdmgpiaaGreatDoorKGD01
set_option linter.unusedSimpArgs false
set_option linter.unusedVariables false
/- Walks of the laws' own helpers: an action of a raw thing, the region that draws. -/
namespace Go.Proofs.YtnnhhbjbdmgpiaaGreatDoor
set_option maxRecDepth 100000
open Go.RowKit
abbrev tRaw : TypeId := 45
theorem op_call2 {P : Program} {o : Oper} {a : Act} {w : World} {K : Act → World → Prop} {Q : Exit → Act → World → Prop} {R : Ending → World → Prop}
  (f : FuncId) (x y : Operand) (tys : Array TypeId) (ho : o.op = .call { callee := .value (.func f), args := #[x, y], argTypes := tys }) (v u : Value) (hv : a.eval x = v) (hu : a.eval y = u)
  (eg : ∀ args w, (callFunc f args).run P w = .ok (.enter f args) w) (hc : Calls P f #[v, u] w R) (h : ∀ e w', R e w' → ∃ v, e = .returned v ∧ K (a.put o.dst v) w') : Oper.wp P o a w K Q := by
 have hex : (execOp a.eval o).run P w = .ok (.enter f #[v, u]) w := by
  have hfn : a.eval (.func f) = .func (.func f) #[] #[] := rfl
  simp [execOp, ho, resolve, invoke, hv, hu, eg, hfn, Deferred.ofValue]
 unfold Oper.wp
 rw [hex]
 refine hc.mono fun e w' hr => ?_
 obtain ⟨v, rfl, hk⟩ := h e w' hr
 exact hk
theorem ac_field (o : Oper) (a : Act) (w : World) (h j : Nat) (x : Operand) (hj : j < 4) (ho : o.op = .fieldAddr tRaw x j) (ev : a.eval x = .pointer (some ⟨h, 0, none⟩)) (_hb : (w.heap[h]?).isSome = true) : (execOp a.eval o).run Tryz.prog w = .ok (.value (.pointer (some ⟨h, j, none⟩))) w := by
 obtain rfl | rfl | rfl | rfl : j = 0 ∨ j = 1 ∨ j = 2 ∨ j = 3 := by omega
 all_goals
  simp [execOp, ho, ev]
  go_simp
theorem ac_load (o : Oper) (a : Act) (w : World) (p : Addr) (x : Operand) (v : Int) (ho : o.op = .load tInt x) (ev : a.eval x = .pointer (some p)) (hc : w.cell? p = some (.int .i64 v)) : (execOp a.eval o).run Tryz.prog w = .ok (.value (.int .i64 v)) w := by
 simp [execOp, ho, ev]
 go_simp
theorem ac_loads (o : Oper) (a : Act) (w : World) (p : Addr) (x : Operand) (v : Value) (ho : o.op = .load tStr x) (ev : a.eval x = .pointer (some p)) (hc : w.cell? p = some v) : (execOp a.eval o).run Tryz.prog w = .ok (.value v) w := by
 simp [execOp, ho, ev]
 go_simp
def acNames : List Value := [.string ⟨#[102]⟩, .string ⟨#[103]⟩, .string ⟨#[100, 101, 118]⟩]
theorem ac_names (o : Oper) (a : Act) (w : World) (ho : o.op = .buildSlice 25 3 #[(0, .const (.string ⟨#[102]⟩)), (1, .const (.string ⟨#[103]⟩)), (2, .const (.string ⟨#[100, 101, 118]⟩))]) : (execOp a.eval o).run Tryz.prog w = .ok (.value (.slice (some ⟨w.heap.size, 0, none⟩) 3 3)) (w.alloc (.cells acNames.toArray tStr)) := by
 simp [execOp, ho, acNames]
 go_simp
theorem ac_index (o : Oper) (a : Act) (w : World) (x y : Operand) (g z : Nat) (hz : z < 3) (ho : o.op = .indexAddr 25 x y) (ex : a.eval x = .slice (some ⟨g, 0, none⟩) 3 3) (ey : a.eval y = .int .i64 z) : (execOp a.eval o).run Tryz.prog w = .ok (.value (.pointer (some ⟨g, z, none⟩))) w := by
 obtain rfl | rfl | rfl : z = 0 ∨ z = 1 ∨ z = 2 := by omega
 all_goals
  simp [execOp, ho, ex, ey]
  go_simp
theorem ac_build (o : Oper) (a : Act) (w : World) (x y z : Operand) (p n : Int) (s : ByteArray) (ho : o.op = .build 30 #[(1, x), (2, y), (4, z)]) (ex : a.eval x = .int .i64 p) (ey : a.eval y = .int .i64 n) (ez : a.eval z = .string s) : (execOp a.eval o).run Tryz.prog w = .ok (.value (.agg #[.int .i64 0, .int .i64 p, .int .i64 n, .int .i64 0, .string s, .string ⟨#[]⟩])) w := by
 simp [execOp, ho, ex, ey, ez]
 go_simp
def acZ : List Value := [.int .i64 0, .int .i64 0, .int .i64 0, .int .i64 0, .string ⟨#[]⟩, .string ⟨#[]⟩]
theorem ac_box (o : Oper) (a : Act) (w : World) (ho : o.op = .alloc 30) : (execOp a.eval o).run Tryz.prog w = .ok (.value (.pointer (some ⟨w.heap.size, 0, none⟩))) (w.alloc (.cells acZ.toArray tAct)) := by
 simp [execOp, ho, acZ]
 go_simp
theorem six_of {l : List Value} (h : l.length = 6) : ∃ a b c d e f, l = [a, b, c, d, e, f] := by
 match l, h with
 | [a, b, c, d, e, f], _ => exact ⟨a, b, c, d, e, f, rfl⟩
def set6 (w : World) (g : Nat) (v0 v1 v2 v3 v4 v5 : Value) : World := (((((w.setCell ⟨g, 0, none⟩ v0).setCell ⟨g, 1, none⟩ v1).setCell ⟨g, 2, none⟩ v2).setCell ⟨g, 3, none⟩ v3).setCell ⟨g, 4, none⟩ v4).setCell ⟨g, 5, none⟩ v5
theorem ac_put (o : Oper) (a : Act) (w : World) (g : Nat) (x y : Operand) (p n : Int) (s : ByteArray) (cs : List Value) (hl : cs.length = 6) (ho : o.op = .store 30 x y) (ex : a.eval x = .pointer (some ⟨g, 0, none⟩)) (ey : a.eval y = .agg #[.int .i64 0, .int .i64 p, .int .i64 n, .int .i64 0, .string s, .string ⟨#[]⟩]) (hg : Wb w g tAct cs) :
  (execOp a.eval o).run Tryz.prog w = .ok .skip (set6 w g (.int .i64 0) (.int .i64 p) (.int .i64 n) (.int .i64 0) (.string s) (.string ⟨#[]⟩)) := by
 obtain ⟨c0, c1, c2, c3, c4, c5, rfl⟩ := six_of hl
 have q0 := hg.cell 0
 have q1 := hg.cell 1
 have q2 := hg.cell 2
 have q3 := hg.cell 3
 have q4 := hg.cell 4
 have q5 := hg.cell 5
 have f0 := hg.open_ 0
 have f1 := hg.open_ 1
 have f2 := hg.open_ 2
 have f3 := hg.open_ 3
 have f4 := hg.open_ 4
 have f5 := hg.open_ 5
 simp only [List.getElem?_cons_zero, List.getElem?_cons_succ] at q0 q1 q2 q3 q4 q5
 clear hg
 simp [execOp, ho, ex, ey, set6]
 go_simp
theorem Wb.set6 {w : World} {g : Nat} {cs : List Value} (h : Wb w g tAct cs) (hl : cs.length = 6) (v0 v1 v2 v3 v4 v5 : Value) : Wb (set6 w g v0 v1 v2 v3 v4 v5) g tAct [v0, v1, v2, v3, v4, v5] := by
 obtain ⟨c0, c1, c2, c3, c4, c5, rfl⟩ := six_of hl
 exact (((((h.put 0 v0).put 1 v1).put 2 v2).put 3 v3).put 4 v4).put 5 v5
theorem Wb.off6 {w : World} {g g' : Nat} {t : TypeId} {cs : List Value} (h : Wb w g' t cs) (hne : g' ≠ g) (v0 v1 v2 v3 v4 v5 : Value) : Wb (Go.Proofs.YtnnhhbjbdmgpiaaGreatDoor.set6 w g v0 v1 v2 v3 v4 v5) g' t cs :=
 (((((h.off_ (p := ⟨g, 0, none⟩) hne v0).off_ (p := ⟨g, 1, none⟩) hne v1).off_ (p := ⟨g, 2, none⟩) hne v2).off_ (p := ⟨g, 3, none⟩) hne v3).off_ (p := ⟨g, 4, none⟩) hne v4).off_ (p := ⟨g, 5, none⟩) hne v5
theorem below_set6 {B g : Nat} {w w' : World} (h : Below B w w') (hB : B ≤ g) (v0 v1 v2 v3 v4 v5 : Value) : Below B w (set6 w' g v0 v1 v2 v3 v4 v5) :=
 (((((h.setCell (p := ⟨g, 0, none⟩) hB v0).setCell (p := ⟨g, 1, none⟩) hB v1).setCell (p := ⟨g, 2, none⟩) hB v2).setCell (p := ⟨g, 3, none⟩) hB v3).setCell (p := ⟨g, 4, none⟩) hB v4).setCell (p := ⟨g, 5, none⟩) hB v5
def AcR (B br : Nat) (ra rb rc pa pb : Int) (z : Nat) (nm : List UInt8) (i : Nat) (v : Value) (w : World) : Prop := match i with
 | 0 => v = .pointer (some ⟨br, 1, none⟩)
 | 1 => v = .int .i64 ra
 | 2 => v = .int .i64 pa
 | 3 => v = .pointer (some ⟨br, 2, none⟩)
 | 4 => v = .int .i64 rb
 | 5 => v = .int .i64 pb
 | 6 => ∃ g, v = .slice (some ⟨g, 0, none⟩) 3 3 ∧ Wb w g tStr acNames
 | 7 => v = .pointer (some ⟨br, 3, none⟩)
 | 8 => v = .int .i64 rc
 | 9 => v = .int .i64 z
 | 10 => ∃ g, v = .pointer (some ⟨g, z, none⟩) ∧ Wb w g tStr acNames
 | 11 => v = .string ⟨nm.toArray⟩
 | 12 => v = .agg #[.int .i64 0, .int .i64 pa, .int .i64 pb, .int .i64 0, .string ⟨nm.toArray⟩, .string ⟨#[]⟩]
 | 13 => ∃ g, v = .pointer (some ⟨g, 0, none⟩) ∧ (∃ cs, cs.length = 6 ∧ Wb w g tAct cs) ∧ B ≤ g
 | 14 => ∃ g, v = .pointer (some ⟨g, 0, none⟩) ∧ Wb w g tAct [.int .i64 0, .int .i64 pa, .int .i64 pb, .int .i64 0, .string ⟨nm.toArray⟩, .string ⟨#[]⟩] ∧ B ≤ g
 | _ => True
section
variable {B br : Nat} {ra rb rc pa pb : Int} {z : Nat} {nm : List UInt8} {i : Nat} {v : Value} {w w' : World}
theorem AcR.keep (h0 : AcR B br ra rb rc pa pb z nm i v w) (hb : Below w.heap.size w w') : AcR B br ra rb rc pa pb z nm i v w' := by
 match i, h0 with
 | 0, h | 1, h | 2, h | 3, h | 4, h | 5, h | 7, h | 8, h | 9, h | 11, h | 12, h => exact h
 | 6, ⟨g, h1, h2⟩ => exact ⟨g, h1, h2.below hb h2.lt⟩
 | 10, ⟨g, h1, h2⟩ => exact ⟨g, h1, h2.below hb h2.lt⟩
 | 13, ⟨g, h1, ⟨cs, h2, h3⟩, h4⟩ => exact ⟨g, h1, ⟨cs, h2, h3.below hb h3.lt⟩, h4⟩
 | 14, ⟨g, h1, h3, h4⟩ => exact ⟨g, h1, h3.below hb h3.lt, h4⟩
 | _ + 15, _ => exact trivial
theorem AcR.kept (h0 : AcR B br ra rb rc pa pb z nm i v w) (hi : i ≠ 14) {g : Nat} {cs : List Value} (hg : Wb w g tAct cs) (hl : cs.length = 6) (v0 v1 v2 v3 v4 v5 : Value) : AcR B br ra rb rc pa pb z nm i v (set6 w g v0 v1 v2 v3 v4 v5) := by
 match i, h0, hi with
 | 0, h, _ | 1, h, _ | 2, h, _ | 3, h, _ | 4, h, _ | 5, h, _ | 7, h, _ | 8, h, _ | 9, h, _ | 11, h, _ | 12, h, _ =>
   simp only [AcR] at h ⊢
   exact h
 | 6, ⟨g', h1, h2⟩, _ => exact ⟨g', h1, h2.off6 (h2.other hg (by decide)) _ _ _ _ _ _⟩
 | 10, ⟨g', h1, h2⟩, _ => exact ⟨g', h1, h2.off6 (h2.other hg (by decide)) _ _ _ _ _ _⟩
 | 13, ⟨g', h1, ⟨cs', h2, h3⟩, h4⟩, _ =>
   by_cases he : g' = g
   ·subst he
    exact ⟨g', h1, ⟨_, rfl, hg.set6 hl _ _ _ _ _ _⟩, h4⟩
   ·exact ⟨g', h1, ⟨cs', h2, h3.off6 he _ _ _ _ _ _⟩, h4⟩
 | 14, _, hi => exact absurd rfl hi
 | _ + 15, _, _ => exact trivial
end
def acSlot (i : Nat) : Nat := if i ≤ 12 then i + 25 else 8
def AcCut (wb : World) (pa pb : Int) (nm : List UInt8) (x : Value) (wx : World) : Prop := ∃ g, x = .pointer (some ⟨g, 0, none⟩) ∧ wb.heap.size ≤ g ∧ Wb wx g tAct [.int .i64 0, .int .i64 pa, .int .i64 pb, .int .i64 0, .string ⟨nm.toArray⟩, .string ⟨#[]⟩] ∧ Below wb.heap.size wb wx
end Go.Proofs.YtnnhhbjbdmgpiaaGreatDoor
/- Walks of the laws' own helpers: actions of raw things. -/
namespace Go.Proofs.YtnnhhbjbdmgpiaaGreatDoor
set_option maxRecDepth 100000
open Go.RowKit
def AcOk (a : Cf.Actn) : Prop := Cf.ActOk a ∧ a.data.length ≤ 30
def ActsPost (n : Nat) (w : World) (e : Ending) (w' : World) : Prop := ∃ (A : Option Addr) (c : Nat) (l : List Cf.Actn), e = .returned (.slice A l.length c) ∧ l.length = n ∧ (∀ a ∈ l, AcOk a) ∧ w'.ownsRow w.heap.size tAct 6 (.slice A l.length c) l.length (l.flatMap encAc) ∧ Below w.heap.size w w'
def AcRel (n : Nat) (w : World) (v iv : Value) (wr : World) : Prop := ∃ (k : Nat) (acc : List Cf.Actn), k ≤ n ∧ iv = .int .i64 k ∧ acc.length = k ∧ (∀ a ∈ acc, AcOk a) ∧ wr.ownsRow w.heap.size tAct 6 v k (acc.flatMap encAc) ∧ Below w.heap.size w wr
def AcSw (wb : World) (g : Nat) (wx : World) : Prop := ∃ a : Cf.Actn, AcOk a ∧ Wb wx g tAct (encAc a) ∧ Below wb.heap.size wb wx
def acName (z : Nat) : List UInt8 := if z = 0 then [102] else if z = 1 then [103] else [100, 101, 118]
theorem acName_at {z : Nat} (h : z < 3) : acNames[z]? = some (.string ⟨(acName z).toArray⟩) := by
 obtain rfl | rfl | rfl : z = 0 ∨ z = 1 ∨ z = 2 := by omega
 all_goals rfl
theorem acName_ok (z : Nat) : acName z = [] ∨ acName z = [102] ∨ acName z = [103] ∨ acName z = [100, 101, 118] := by
 unfold acName
 split
 ·exact .inr (.inl rfl)
 ·split
  ·exact .inr (.inr (.inl rfl))
  ·exact .inr (.inr (.inr rfl))
theorem ac_ok {kd p n m : Int} {nm dt : List UInt8} (h : 2 ≤ kd ∧ kd ≤ 11 ∧ kd ≠ 3) (hn : nm = [] ∨ nm = [102] ∨ nm = [103] ∨ nm = [100, 101, 118]) (he : kd = 11 → p ≠ 0) (hd : dt.length ≤ 30) : AcOk ⟨kd, p, n, m, nm, dt⟩ := ⟨⟨h, hn, he⟩, hd⟩
theorem acSw_6 {wb wc : World} {g : Nat} {cs : List Value} (hg : Wb wc g tAct cs) (hl : cs.length = 6) (hB : wb.heap.size ≤ g) (hb : Below wb.heap.size wb wc) (a : Cf.Actn) (h : AcOk a) : AcSw wb g (set6 wc g (.int .i64 a.kind) (.int .i64 a.p) (.int .i64 a.n) (.int .i64 a.m) (.string ⟨a.name.toArray⟩) (.string ⟨a.data.toArray⟩)) :=
 ⟨a, h, hg.set6 hl _ _ _ _ _ _, below_set6 hb hB _ _ _ _ _ _⟩
set_option maxRecDepth 100000 in
set_option maxHeartbeats 4000000 in
theorem acts_any (l : List Cf.Ins) (hf : ∀ x ∈ l, FitI x) (A0 : Option Addr) (c0 most n : Nat) (w : World) (hR : Codes w A0 l) (hm : l.length ≤ maxLen) (hmost : most ≤ 100) (hn : n = min l.length most) :
  Calls Tryz.prog 20 #[.slice A0 l.length c0, .int .i64 most] w (ActsPost n w) := by
 unfold maxLen at hm
 obtain ⟨i0, hi, hz0, hz1, hz2⟩ := info_parts infoAct
 have Hi := Lib.hid hi
 have H0 := Lib.hid hz0
 have H1 := Lib.hid hz1
 have H2 := Lib.hid hz2
 have Hf := Lib.hid hf
 have HR := Lib.hid hR
 have HN := Lib.hid hn
 have hn1 : n ≤ l.length := by omega
 have hn2 : n ≤ most := by omega
 clear hi hz0 hz1 hz2 hf hR hn
 go_enter Tryz.func20, Tryz.ntmps20
 go_wp2
 go_loopw [5, 6] (fun v iv wr => AcRel n w v iv wr) (fun _ iv _ => n - (intOf iv).toNat)
 case atStart => exact ⟨0, [], by omega, rfl, rfl, (fun a ha => by cases ha), World.ownsRow_nil _ _ _ _, Below.refl _ _⟩
 case round =>
  obtain ⟨k, acc, hk, rfl, hacc, hoks, hown, hbw⟩ := hrel
  have Hacc := Lib.hid hacc
  have Hoks := Lib.hid hoks
  have hwz := hbw.size
  obtain ⟨Av, cv, hAv⟩ := own_form hown
  subst hAv
  have Hown := Lib.hid hown
  clear hacc hoks hown
  by_cases hlt : k < n
  ·obtain ⟨kr, ra, rb, rc, hx⟩ : ∃ op a b' c', l[k]? = some ⟨op, a, b', c'⟩ := ⟨_, _, _, _, List.getElem?_eq_getElem (by omega)⟩
   obtain ⟨f0, f1, f2, f3⟩ := Hf.out _ (List.mem_of_getElem? hx)
   change Fit kr at f0
   change Fit ra at f1
   change Fit rb at f2
   change Fit rc at f3
   obtain ⟨b, off, rfl, hb, hc⟩ := HR.out.at_ (by intro e; rw [e] at hx; simp at hx)
   obtain ⟨p0, p1, p2, p3⟩ := hc k kr ra rb rc hx
   have q0 := (hbw.cell hb).trans p0
   have q1 := (hbw.cell hb).trans p1
   have q2 := (hbw.cell hb).trans p2
   have q3 := (hbw.cell hb).trans p3
   clear hc hx p0 p1 p2 p3
   have hk1 : k < l.length := by omega
   have hk2 : k < most := by omega
   go_upto_region 6 with fail
   clear q0 q1 q2 q3
   have hbw5 := hbw.alloc hbw.size (Obj.cells #[.int .i64 kr, .int .i64 ra, .int .i64 rb, .int .i64 rc] 45)
   have hs5 : (wr.alloc (Obj.cells #[.int .i64 kr, .int .i64 ra, .int .i64 rb, .int .i64 rc] 45)).heap.size = wr.heap.size + 1 := by simp
   have HX := Lib.hid (Wb.new wr tRaw [.int .i64 kr, .int .i64 ra, .int .i64 rb, .int .i64 rc])
   have Hown5 := Lib.hid (Hown.out.alloc (Obj.cells #[.int .i64 kr, .int .i64 ra, .int .i64 rb, .int .i64 rc] 45))
   generalize wr.alloc _ = wb at *
   generalize wr.heap.size = br at *
   clear hbw Hown
   obtain ⟨z1, z2⟩ := Cf.pick_range ra 3 (by omega)
   obtain ⟨z3, z4⟩ := Cf.pick_range rb 6 (by omega)
   obtain ⟨z, hz, hz3⟩ : ∃ z : Nat, Cf.pick rc 3 = z ∧ z < 3 := by
    obtain ⟨h1, h2⟩ := Cf.pick_range rc 3 (by omega)
    exact ⟨(Cf.pick rc 3).toNat, by omega, by omega⟩
   have P1 := Lib.hid (fun w => picked_any ra 3 w f1 (by omega) (by omega))
   have P2 := Lib.hid (fun w => picked_any rb 6 w f2 (by omega) (by omega))
   have P3 := Lib.hid (fun w => picked_any rc 3 w f3 (by omega) (by omega))
   rw [hz] at P3
   clear hz
   have Heg := Lib.hid (fun args w => show (callFunc 18 args).run Tryz.prog w = .ok (.enter 18 args) w by simp [go_sem])
   generalize Cf.pick ra 3 = pa at *
   generalize Cf.pick rb 6 = pb at *
   go_cut [8] from 25 to 38 (fun x wx => AcCut wb pa pb (acName z) x wx)
   case first =>
    refine one_region (ds := [8, 25, 26, 27, 28, 29, 30, 31, 32, 33, 34, 35, 36, 37]) acSlot (fun W => Below wb.heap.size wb W) (AcR wb.heap.size br ra rb rc pa pb z (acName z)) (by kernel_rfl) (by kernel_rfl) (by kernel_rfl) (Below.refl _ _).drew ?_ ?_
    ·intro i hi
     have hfld : ∀ (j : Nat) (v : Int) (w1 : World), Below wb.heap.size wb w1 → (some (Value.int .i64 v) = ([.int .i64 kr, .int .i64 ra, .int .i64 rb, .int .i64 rc] : List Value)[j]?) → w1.cell? ⟨br, j, none⟩ = some (.int .i64 v) := fun j v w1 hJ h => ((HX.out.below hJ HX.out.lt).cell j).trans h.symm
     have hbx : ∀ w1 : World, Below wb.heap.size wb w1 → (w1.heap[br]?).isSome = true := fun w1 hJ => by rw [show w1.heap[br]? = _ from HX.out.below hJ HX.out.lt]; rfl
     match i, hi with
     | 0, _ =>
       intro o u w1 ho hJ hdep K hK
       obtain rfl := Option.some.inj ho
       exact op_val (ac_field _ _ _ br 1 _ (by omega) rfl (eval_out rfl rfl) (hbx _ hJ)) (hK _ _ (fun h => by cases h) (fun _ => rfl) hJ (fun j v _ h => h))
     | 1, _ =>
       intro o u w1 ho hJ hdep K hK
       obtain rfl := Option.some.inj ho
       have e1 : u 25 = .pointer (some ⟨br, 1, none⟩) := hdep 0 (by decide +kernel)
       exact op_val (ac_load _ _ _ ⟨br, 1, none⟩ _ ra rfl ((eval_in rfl rfl).trans e1) (hfld 1 ra w1 hJ rfl)) (hK _ _ (fun h => by cases h) (fun _ => rfl) hJ (fun j v _ h => h))
     | 2, _ =>
       intro o u w1 ho hJ hdep K hK
       obtain rfl := Option.some.inj ho
       have e1 : u 26 = .int .i64 ra := hdep 1 (by decide +kernel)
       refine op_call2 18 _ _ _ rfl _ _ ((eval_in rfl rfl).trans e1) rfl Heg.out (P1.out _) ?_
       rintro e w' ⟨rfl, rfl⟩
       exact ⟨_, rfl, hK _ _ (fun h => by cases h) (fun _ => rfl) hJ (fun j v _ h => h)⟩
     | 3, _ =>
       intro o u w1 ho hJ hdep K hK
       obtain rfl := Option.some.inj ho
       exact op_val (ac_field _ _ _ br 2 _ (by omega) rfl (eval_out rfl rfl) (hbx _ hJ)) (hK _ _ (fun h => by cases h) (fun _ => rfl) hJ (fun j v _ h => h))
     | 4, _ =>
       intro o u w1 ho hJ hdep K hK
       obtain rfl := Option.some.inj ho
       have e1 : u 28 = .pointer (some ⟨br, 2, none⟩) := hdep 3 (by decide +kernel)
       exact op_val (ac_load _ _ _ ⟨br, 2, none⟩ _ rb rfl ((eval_in rfl rfl).trans e1) (hfld 2 rb w1 hJ rfl)) (hK _ _ (fun h => by cases h) (fun _ => rfl) hJ (fun j v _ h => h))
     | 5, _ =>
       intro o u w1 ho hJ hdep K hK
       obtain rfl := Option.some.inj ho
       have e1 : u 29 = .int .i64 rb := hdep 4 (by decide +kernel)
       refine op_call2 18 _ _ _ rfl _ _ ((eval_in rfl rfl).trans e1) rfl Heg.out (P2.out _) ?_
       rintro e w' ⟨rfl, rfl⟩
       exact ⟨_, rfl, hK _ _ (fun h => by cases h) (fun _ => rfl) hJ (fun j v _ h => h)⟩
     | 6, _ =>
       intro o u w1 ho hJ hdep K hK
       obtain rfl := Option.some.inj ho
       exact op_val (ac_names _ _ _ rfl) (hK _ _ (fun h => by cases h) (fun _ => ⟨_, rfl, Wb.new w1 tStr acNames⟩) (hJ.alloc hJ.size _) (fun j v _ h => h.keep ((Below.refl _ _).alloc (Nat.le_refl _) _)))
     | 7, _ =>
       intro o u w1 ho hJ hdep K hK
       obtain rfl := Option.some.inj ho
       exact op_val (ac_field _ _ _ br 3 _ (by omega) rfl (eval_out rfl rfl) (hbx _ hJ)) (hK _ _ (fun h => by cases h) (fun _ => rfl) hJ (fun j v _ h => h))
     | 8, _ =>
       intro o u w1 ho hJ hdep K hK
       obtain rfl := Option.some.inj ho
       have e1 : u 32 = .pointer (some ⟨br, 3, none⟩) := hdep 7 (by decide +kernel)
       exact op_val (ac_load _ _ _ ⟨br, 3, none⟩ _ rc rfl ((eval_in rfl rfl).trans e1) (hfld 3 rc w1 hJ rfl)) (hK _ _ (fun h => by cases h) (fun _ => rfl) hJ (fun j v _ h => h))
     | 9, _ =>
       intro o u w1 ho hJ hdep K hK
       obtain rfl := Option.some.inj ho
       have e1 : u 33 = .int .i64 rc := hdep 8 (by decide +kernel)
       refine op_call2 18 _ _ _ rfl _ _ ((eval_in rfl rfl).trans e1) rfl Heg.out (P3.out _) ?_
       rintro e w' ⟨rfl, rfl⟩
       exact ⟨_, rfl, hK _ _ (fun h => by cases h) (fun _ => rfl) hJ (fun j v _ h => h)⟩
     | 10, _ =>
       intro o u w1 ho hJ hdep K hK
       obtain rfl := Option.some.inj ho
       obtain ⟨g, e1, h1⟩ : ∃ g, u 31 = .slice (some ⟨g, 0, none⟩) 3 3 ∧ Wb w1 g tStr acNames := hdep 6 (by decide +kernel)
       have e2 : u 34 = .int .i64 z := hdep 9 (by decide +kernel)
       exact op_val (ac_index _ _ _ _ _ g z hz3 rfl ((eval_in rfl rfl).trans e1) ((eval_in rfl rfl).trans e2)) (hK _ _ (fun h => by cases h) (fun _ => ⟨g, rfl, h1⟩) hJ (fun j v _ h => h))
     | 11, _ =>
       intro o u w1 ho hJ hdep K hK
       obtain rfl := Option.some.inj ho
       obtain ⟨g, e1, h1⟩ : ∃ g, u 35 = .pointer (some ⟨g, z, none⟩) ∧ Wb w1 g tStr acNames := hdep 10 (by decide +kernel)
       exact op_val (ac_loads _ _ _ ⟨g, z, none⟩ _ _ rfl ((eval_in rfl rfl).trans e1) ((h1.cell z).trans (acName_at hz3))) (hK _ _ (fun h => by cases h) (fun _ => rfl) hJ (fun j v _ h => h))
     | 12, _ =>
       intro o u w1 ho hJ hdep K hK
       obtain rfl := Option.some.inj ho
       have e1 : u 27 = .int .i64 pa := hdep 2 (by decide +kernel)
       have e2 : u 30 = .int .i64 pb := hdep 5 (by decide +kernel)
       have e3 : u 36 = .string ⟨(acName z).toArray⟩ := hdep 11 (by decide +kernel)
       exact op_val (ac_build _ _ _ _ _ _ pa pb _ rfl ((eval_in rfl rfl).trans e1) ((eval_in rfl rfl).trans e2) ((eval_in rfl rfl).trans e3)) (hK _ _ (fun h => by cases h) (fun _ => rfl) hJ (fun j v _ h => h))
     | 13, _ =>
       intro o u w1 ho hJ hdep K hK
       obtain rfl := Option.some.inj ho
       exact op_val (ac_box _ _ _ rfl) (hK _ _ (fun h => by cases h) (fun _ => ⟨_, rfl, ⟨_, rfl, Wb.new w1 tAct acZ⟩, hJ.size⟩) (hJ.alloc hJ.size _) (fun j v _ h => h.keep ((Below.refl _ _).alloc (Nat.le_refl _) _)))
     | 14, _ =>
       intro o u w1 ho hJ hdep K hK
       obtain rfl := Option.some.inj ho
       obtain ⟨g, e1, ⟨cs, hcl, hg⟩, hB⟩ : ∃ g, u 8 = .pointer (some ⟨g, 0, none⟩) ∧ (∃ cs : List Value, cs.length = 6 ∧ Wb w1 g tAct cs) ∧ wb.heap.size ≤ g := hdep 13 (by decide +kernel)
       have e2 : u 37 = .agg #[.int .i64 0, .int .i64 pa, .int .i64 pb, .int .i64 0, .string ⟨(acName z).toArray⟩, .string ⟨#[]⟩] := hdep 12 (by decide +kernel)
       exact op_skip (ac_put _ _ _ g _ _ pa pb _ cs hcl rfl ((eval_in rfl rfl).trans e1) ((eval_in rfl rfl).trans e2) hg) (hK undef _ (fun _ => ⟨g, e1, hg.set6 hcl _ _ _ _ _ _, hB⟩) (fun h => absurd rfl h) (below_set6 hJ hB _ _ _ _ _ _) (fun j v hj h => AcR.kept h hj hg hcl _ _ _ _ _ _))
     | n + 15, hi => exact absurd hi (by show ¬ (n + 15 < 15); omega)
    ·intro u w1 hJ hV
     obtain ⟨g, e1, hg, hB⟩ : AcR wb.heap.size br ra rb rc pa pb z (acName z) 14 (u 8) w1 := hV 14 (by decide)
     have hR : AcCut wb pa pb (acName z) (u 8) w1 := ⟨g, e1, hB, hg, hJ⟩
     simp only [fillL, List.contains_cons, List.contains_nil, Nat.reduceAdd, Nat.reduceBEq, Bool.or_false, Bool.or_true, cond_true, cond_false, Nat.zero_add]
     clear e1
     go_wp2_with fail
     go_meet
     exact hR
   case rest =>
    obtain ⟨g, rfl, hgB, hg, hb6⟩ := hcut
    have HG := Lib.hid hg
    have Hb6 := Lib.hid hb6
    have HX6 := Lib.hid (HX.out.below hb6 HX.out.lt)
    have Hbw5 := Lib.hid hbw5
    clear hbw5
    clear hg hb6 HX P2 P3 Heg
    have q0 := HX6.out.cell 0
    have q1 := HX6.out.cell 1
    have q2 := HX6.out.cell 2
    have q3 := HX6.out.cell 3
    simp only [List.getElem?_cons_zero, List.getElem?_cons_succ] at q0 q1 q2 q3
    have ql := HX6.out.lt
    obtain ⟨y1, y2⟩ := Cf.pick_range kr 30 (by omega)
    go_wp2_with fail
    refine (picked_any kr 30 _ f0 (by omega) (by omega)).mono ?_
    rintro e w' ⟨rfl, rfl⟩
    generalize Cf.pick kr 30 = kk at y1 y2 ⊢
    have r0 := HG.out.cell 0
    have r1 := HG.out.cell 1
    have r2 := HG.out.cell 2
    have r3 := HG.out.cell 3
    have r4 := HG.out.cell 4
    have r5 := HG.out.cell 5
    simp only [List.getElem?_cons_zero, List.getElem?_cons_succ] at r0 r1 r2 r3 r4 r5
    have rf := HG.out.open_
    have rl := HG.out.lt
    go_upto_block 2 with fail
    go_cut [] from 41 to 102 (fun wx => AcSw wb g wx)
    case first =>
     clear q0
     rcases (show kk < 2 ∨ kk = 2 ∨ (2 < kk ∧ kk < 8) ∨ (8 ≤ kk ∧ kk < 10) ∨ (10 ≤ kk ∧ kk < 17) ∨ (17 ≤ kk ∧ kk < 24) ∨ (24 ≤ kk ∧ kk < 26) ∨ (26 ≤ kk ∧ kk < 29) ∨ kk = 29 by omega) with h | rfl | h | h | h | h | h | h | rfl
     ·have y0 : kk < 2 := by omega
      go_wp2
      go_meet
      exact acSw_6 HG.out rfl hgB Hb6.out ⟨2, 0, 0, 0, acName z, []⟩ (ac_ok (by decide) (acName_ok z) (fun h => absurd h (by decide)) (by simp))
     ·go_wp2
      go_meet
      exact acSw_6 HG.out rfl hgB Hb6.out ⟨4, 0, 0, 0, acName z, []⟩ (ac_ok (by decide) (acName_ok z) (fun h => absurd h (by decide)) (by simp))
     ·have m0 : ¬ kk < 2 := by omega
      have m1 : (kk == 2) = false := by rw [beq_eq_false_iff_ne]; omega
      have y0 : kk < 8 := by omega
      go_wp2
      go_meet
      exact ⟨⟨5, pa, 0, 0, acName z, []⟩, (ac_ok (by decide) (acName_ok z) (fun h => absurd h (by decide)) (by simp)), (HG.out.put 0 _).put 2 _, (Hb6.out.setCell (p := ⟨g, 0, none⟩) hgB _).setCell (p := ⟨g, 2, none⟩) hgB _⟩
     ·have m0 : ¬ kk < 2 := by omega
      have m1 : (kk == 2) = false := by rw [beq_eq_false_iff_ne]; omega
      have m2 : ¬ kk < 8 := by omega
      have y0 : kk < 10 := by omega
      go_wp2
      go_meet
      exact ⟨⟨6, pa, pb, 0, [], []⟩, (ac_ok (by decide) (.inl rfl) (fun h => absurd h (by decide)) (by simp)), (HG.out.put 0 _).put 4 _, (Hb6.out.setCell (p := ⟨g, 0, none⟩) hgB _).setCell (p := ⟨g, 4, none⟩) hgB _⟩
     ·have m0 : ¬ kk < 2 := by omega
      have m1 : (kk == 2) = false := by rw [beq_eq_false_iff_ne]; omega
      have m2 : ¬ kk < 8 := by omega
      have m3 : ¬ kk < 10 := by omega
      have y0 : kk < 17 := by omega
      go_wp2_with fail
      refine (picked_any rc 30 _ f3 (by omega) (by omega)).mono ?_
      rintro e w' ⟨rfl, rfl⟩
      obtain ⟨y1, y2⟩ := Cf.pick_range rc 30 (by omega)
      generalize Cf.pick rc 30 = y at y1 y2 ⊢
      go_wp2
      go_meet
      exact ⟨⟨7, pa, pb, 1 + y, [], []⟩, (ac_ok (by decide) (.inl rfl) (fun h => absurd h (by decide)) (by simp)), ((HG.out.put 0 _).put 4 _).put 3 _, ((Hb6.out.setCell (p := ⟨g, 0, none⟩) hgB _).setCell (p := ⟨g, 4, none⟩) hgB _).setCell (p := ⟨g, 3, none⟩) hgB _⟩
     ·have m0 : ¬ kk < 2 := by omega
      have m1 : (kk == 2) = false := by rw [beq_eq_false_iff_ne]; omega
      have m2 : ¬ kk < 8 := by omega
      have m3 : ¬ kk < 10 := by omega
      have m4 : ¬ kk < 17 := by omega
      have y0 : kk < 24 := by omega
      obtain ⟨dn, hdn⟩ : ∃ d : Nat, (d : Int) = 1 + Cf.pick rc 30 := ⟨(1 + Cf.pick rc 30).toNat, by have := Cf.pick_range rc 30 (by omega); omega⟩
      have hdn30 : dn ≤ 30 := by have := Cf.pick_range rc 30 (by omega); omega
      have HD := Lib.hid (fun w => data_any 0 rc rb 0 dn w f3 f2 hdn)
      clear hdn
      go_wp2_with fail
      refine (HD.out _).mono ?_
      rintro e w7 ⟨ld, hld, rfl, hb7⟩
      have HG7 := Lib.hid (HG.out.below hb7 HG.out.lt)
      have Hb7 := Lib.hid (Hb6.out.trans (hb7.mono Hb6.out.size))
      have Hld := Lib.hid hld
      clear HG Hb6 hb7 HD r0 r1 r2 r3 r4 r5 rf rl q2 q3 q1 ql hld
      have r0 := HG7.out.cell 0
      have r1 := HG7.out.cell 1
      have r2 := HG7.out.cell 2
      have r3 := HG7.out.cell 3
      have r4 := HG7.out.cell 4
      have r5 := HG7.out.cell 5
      simp only [List.getElem?_cons_zero, List.getElem?_cons_succ] at r0 r1 r2 r3 r4 r5
      have rf := HG7.out.open_
      have rl := HG7.out.lt
      go_wp2
      go_meet
      exact ⟨⟨8, pa, pb, 0, [], ld⟩, (ac_ok (by decide) (.inl rfl) (fun h => absurd h (by decide)) (by show ld.length ≤ 30; rw [Hld.out]; exact hdn30)), ((HG7.out.put 0 _).put 4 _).put 5 _, ((Hb7.out.setCell (p := ⟨g, 0, none⟩) hgB _).setCell (p := ⟨g, 4, none⟩) hgB _).setCell (p := ⟨g, 5, none⟩) hgB _⟩
     ·have m0 : ¬ kk < 2 := by omega
      have m1 : (kk == 2) = false := by rw [beq_eq_false_iff_ne]; omega
      have m2 : ¬ kk < 8 := by omega
      have m3 : ¬ kk < 10 := by omega
      have m4 : ¬ kk < 17 := by omega
      have m5 : ¬ kk < 24 := by omega
      have y0 : kk < 26 := by omega
      go_wp2
      go_meet
      exact acSw_6 HG.out rfl hgB Hb6.out ⟨9, pa, 0, 0, [], []⟩ (ac_ok (by decide) (.inl rfl) (fun h => absurd h (by decide)) (by simp))
     ·have m0 : ¬ kk < 2 := by omega
      have m1 : (kk == 2) = false := by rw [beq_eq_false_iff_ne]; omega
      have m2 : ¬ kk < 8 := by omega
      have m3 : ¬ kk < 10 := by omega
      have m4 : ¬ kk < 17 := by omega
      have m5 : ¬ kk < 24 := by omega
      have m6 : ¬ kk < 26 := by omega
      have y0 : kk < 29 := by omega
      go_wp2
      go_meet
      exact acSw_6 HG.out rfl hgB Hb6.out ⟨10, pa, 0, 0, [], []⟩ (ac_ok (by decide) (.inl rfl) (fun h => absurd h (by decide)) (by simp))
     ·go_wp2_with fail
      refine (P1.out _).mono ?_
      rintro e w' ⟨rfl, rfl⟩
      go_wp2
      go_meet
      exact acSw_6 HG.out rfl hgB Hb6.out ⟨11, 1 + pa, 0, 0, [], []⟩ (ac_ok (by decide) (.inl rfl) (fun _ => by show (1 + pa : Int) ≠ 0; omega) (by simp))
    case rest =>
     obtain ⟨a, hok, hga, hb8⟩ := hcut
     clear HG Hb6 HX6 r0 r1 r2 r3 r4 r5 rf rl q0 q1 q2 q3 ql P1
     have r0 := hga.cell 0
     have r1 := hga.cell 1
     have r2 := hga.cell 2
     have r3 := hga.cell 3
     have r4 := hga.cell 4
     have r5 := hga.cell 5
     simp only [encAc, List.getElem?_cons_zero, List.getElem?_cons_succ] at r0 r1 r2 r3 r4 r5
     have rl := hga.lt
     have Hown8 := Lib.hid (own_below Hown5.out hb8)
     have hbw8 := Hbw5.out.trans (hb8.mono Hbw5.out.size)
     have hz8 := hbw8.size
     clear Hown5 Hbw5 hb8
     go_wp2_with (at_builtin; refine wpList_append_src rfl _ _ 39 rfl w.heap.size 30 i0 (.agg #[.int .i64 0, .int .i64 0, .int .i64 0, .int .i64 0, .string ⟨#[]⟩, .string ⟨#[]⟩]) 6 64 Tryz.underlying39 Hi.out H0.out H1.out H2.out rfl (by decide) encAc_len one_ac _ k _ rfl (World.ownsRow.alloc Hown8.out _) (some ⟨wc.heap.size, 0, none⟩) 1 [a] rfl (acts_lit wc _ _ _ rfl) (by unfold maxLen; simp <;> omega) (by simp <;> omega) (by simp <;> omega) ?_)
     intro v' w9 hown9 hgr hat
     have HO9 := Lib.hid (show w9.ownsRow w.heap.size tAct 6 v' (k + 1) ((acc ++ [a]).flatMap encAc) by rw [List.flatMap_append]; exact hown9)
     have Hb9 := Lib.hid ((hbw8.alloc hbw8.size _).grown hgr (Nat.le_trans hbw8.size (by simp)) (fun r hr => own_blocks Hown8.out r hr))
     clear hown9 hgr hat r0 r1 r2 r3 r4 r5 rl
     go_wp2
     go_roundw
     case rel => exact ⟨k + 1, acc ++ [a], by omega, by go_num, by rw [List.length_append, Hacc.out]; rfl, fun b hb => by
      rcases List.mem_append.1 hb with h | h
      ·exact Hoks.out b h
      ·rw [List.mem_singleton.1 h]; exact hok, HO9.out, Hb9.out⟩
     case measure => simp [intOf]; omega
  ·obtain rfl : k = n := by omega
   have hor : (k < l.length) = False ∨ (k < l.length ∧ (k < most) = False) := by
    by_cases h : k < l.length
    ·refine .inr ⟨h, ?_⟩
     have := HN.out
     simp
     omega
    ·exact .inl (by simp [h])
   rcases hor with h | ⟨h, h'⟩
   ·go_wp2
    go_ret
    exact ⟨Av, cv, acc, by rw [Hacc.out]; rfl, Hacc.out, Hoks.out, by rw [Hacc.out]; exact Hown.out, hbw⟩
   ·go_wp2
    go_ret
    exact ⟨Av, cv, acc, by rw [Hacc.out]; rfl, Hacc.out, Hoks.out, by rw [Hacc.out]; exact Hown.out, hbw⟩
end Go.Proofs.YtnnhhbjbdmgpiaaGreatDoor
/- Walks of the law KernelsGood. -/
namespace Go.Proofs.YtnnhhbjbdmgpiaaGreatDoor
set_option maxRecDepth 100000
open Go.RowKit
theorem ac_fit {L : List Cf.Actn} (h : ∀ a ∈ L, AcOk a) : ∀ x ∈ L, x.name.length ≤ maxLen ∧ x.data.length ≤ maxLen := by
 intro x hx
 obtain ⟨h1, h2⟩ := h x hx
 refine ⟨?_, by unfold maxLen; omega⟩
 unfold maxLen
 rcases h1.name with e | e | e | e <;> rw [e] <;> simp
def zAct : Cf.Actn := ⟨0, 0, 0, 0, [], []⟩
theorem tail_len (p : Nat) : (Cf.tailActs p).length = 5 := rfl
theorem script_long : Cf.scriptT (List.replicate 201 zAct) = ⟨[], Cf.noKern, 1⟩ := by unfold Cf.scriptT; rw [if_pos (by rw [List.length_replicate]; omega)]
theorem alloc_sz (w : World) (o : Obj) : (w.alloc o).heap.size = w.heap.size + 1 := by simp
set_option maxRecDepth 100000 in
set_option maxHeartbeats 4000000 in
theorem good_walk (l : List Cf.Ins) (hf : ∀ x ∈ l, FitI x) (A0 : Option Addr) (c0 : Nat) (kind : Int) (fk : Fit kind) (w : World) (hR : Codes w A0 l) (hm : l.length ≤ maxLen) (hL : TabL w) (hF : TabF w) :
  Calls Tryz.prog 7 #[.slice A0 l.length c0, .int .i64 kind] w fun e w' => e = .returned (.bool true) ∧ Below w.heap.size w w' := by
 obtain ⟨i0, hi, hz0, hz1, hz2⟩ := info_parts infoAct
 have hmk : ∀ W : World, (Instr.makeSlice 39 (.int .i64 201) (.int .i64 201)).run Tryz.prog W = .ok (.slice (some ⟨W.heap.size, 0, none⟩) 201 201) (W.alloc (.cells (madeCells #[.int .i64 0, .int .i64 0, .int .i64 0, .int .i64 0, .string ⟨#[]⟩, .string ⟨#[]⟩] 1206) 30)) := fun W => by
  have h := run_make (P := Tryz.prog) W 39 30 i0 _ Tryz.underlying39 hi hz0 .i64 .i64 201 201 (by omega) (by omega) (by rw [hz2]; omega) (by omega)
  rw [hz1] at h
  exact h
 have hBk : ∀ W : World, Acts (W.alloc (.cells (madeCells #[.int .i64 0, .int .i64 0, .int .i64 0, .int .i64 0, .string ⟨#[]⟩, .string ⟨#[]⟩] 1206) 30)) (some ⟨W.heap.size, 0, none⟩) (List.replicate 201 zAct) := fun W => (Bk.made (enc := encAc) (x := zAct) (z := #[.int .i64 0, .int .i64 0, .int .i64 0, .int .i64 0, .string ⟨#[]⟩, .string ⟨#[]⟩]) encAc_len rfl 201 W tAct).rd
 generalize madeCells #[.int .i64 0, .int .i64 0, .int .i64 0, .int .i64 0, .string ⟨#[]⟩, .string ⟨#[]⟩] 1206 = MC at hmk hBk
 have HBk := Lib.hid hBk
 have HT := Lib.hid (fun (W : World) (h : Below w.heap.size w W) => show TabL W ∧ TabF W from ⟨hL.below h, hF.below h⟩)
 obtain ⟨p, hp, hp9⟩ : ∃ p : Nat, Cf.pick kind 9 = p ∧ p < 9 := by
  obtain ⟨h1, h2⟩ := Cf.pick_range kind 9 (by omega)
  exact ⟨(Cf.pick kind 9).toNat, by omega, by omega⟩
 have HP := Lib.hid (fun w => picked_any kind 9 w fk (by omega) (by omega))
 rw [hp] at HP
 have HA := Lib.hid (acts_any l hf A0 c0 80 _ w hR hm (by omega) rfl)
 clear hi hz0 hz1 hz2 hL hF hp hBk hR hf
 go_enter Tryz.func7, Tryz.ntmps7
 go_wp2_with fail
 refine HA.out.mono ?_
 rintro e w1 ⟨A, c, L, rfl, hLn, hok, hown, hb1⟩
 have hL80 : L.length ≤ 80 := by omega
 have hAc := own_rd encAc_len hown
 have hGT := Cf.good_tail L (fun a ha => (hok a ha).1) p
 have hFt := ac_fit hok
 have hb2 : Below w1.heap.size w1 (w1.alloc (.cells #[.slice A L.length c] 39)) := (Below.refl _ _).alloc (Nat.le_refl _) _
 have hbw2 := hb1.trans (hb2.mono hb1.size)
 have hran := ran_any [⟨A, c, L⟩] (some ⟨w1.heap.size, 0, none⟩) 1 _ (row_one w1 39 A c L) (fun x hx => by rw [List.mem_singleton.1 hx]; exact hAc.below hb2) (by simp) (by rw [cat_one]; omega) (by rw [cat_one]; exact hFt) (HT.out _ hbw2).1 (HT.out _ hbw2).2
 rw [cat_one] at hran
 have Hran := Lib.hid hran
 have HAc := Lib.hid (hAc.below hb2)
 have Hbw2 := Lib.hid hbw2
 have HGT := Lib.hid hGT
 have HFt := Lib.hid hFt
 clear hran hown hok hb1 hLn hAc hbw2 hGT hFt hb2 HA hm
 go_wp2_with fail
 refine Hran.out.mono ?_
 rintro e w3 ⟨R1, c1, ⟨A2, ca2, M2, cm2, N2, cn2, S2, cs2, Q2, cq2⟩, rfl, -, -, hkr, hb3⟩
 simp only [kcells]
 have Hkr := Lib.hid hkr
 have HAc3 := Lib.hid (HAc.out.below hb3)
 have Hbw3 := Lib.hid (Hbw2.out.trans (hb3.mono Hbw2.out.size))
 have HRL := Lib.hid (Cf.ran_len L Cf.newKern)
 clear hkr hb3 Hran HAc Hbw2
 generalize hk1 : (Cf.ranT Cf.newKern L).kern = k1 at *
 clear hk1
 go_upto_region 3 with fail
 have hb4 : Below w3.heap.size w3 (w3.alloc (.cells #[.slice A2 k1.mods.length ca2, .slice M2 k1.mem.length cm2, .slice N2 k1.nodes.length cn2, .slice S2 k1.pipes.length cs2, .slice Q2 k1.procs.length cq2] tKern)) := (Below.refl _ _).alloc (Nat.le_refl _) _
 have HB1 := Lib.hid (Wb.new w3 tKern [.slice A2 k1.mods.length ca2, .slice M2 k1.mem.length cm2, .slice N2 k1.nodes.length cn2, .slice S2 k1.pipes.length cs2, .slice Q2 k1.procs.length cq2])
 have Hkr4 := Lib.hid (Hkr.out.below hb4)
 have HAc4 := Lib.hid (HAc3.out.below hb4)
 have Hbw4 := Lib.hid (Hbw3.out.trans (hb4.mono Hbw3.out.size))
 clear hb4 Hkr HAc3 Hbw3
 generalize w3.heap.size = g1 at *
 generalize w3.alloc (.cells #[.slice A2 k1.mods.length ca2, .slice M2 k1.mem.length cm2, .slice N2 k1.nodes.length cn2, .slice S2 k1.pipes.length cs2, .slice Q2 k1.procs.length cq2] tKern) = w4 at *
 go_wp2_with fail
 refine (HP.out _).mono ?_
 rintro e w' ⟨rfl, rfl⟩
 have hb5 : Below w4.heap.size w4 (w4.alloc (.cells #[.int .i64 (12 + (p : Int)), .int .i64 0, .int .i64 0, .int .i64 0, .string ⟨#[]⟩, .string ⟨#[]⟩, .int .i64 7, .int .i64 4, .int .i64 0, .int .i64 0, .string ⟨#[]⟩, .string ⟨#[]⟩, .int .i64 1, .int .i64 0, .int .i64 0, .int .i64 0, .string ⟨#[]⟩, .string ⟨#[97, 98, 99]⟩, .int .i64 3, .int .i64 0, .int .i64 0, .int .i64 0, .string ⟨#[120]⟩, .string ⟨#[]⟩, .int .i64 4, .int .i64 0, .int .i64 0, .int .i64 0, .string ⟨#[122, 122]⟩, .string ⟨#[]⟩] 30)) := (Below.refl _ _).alloc (Nat.le_refl _) _
 have hli : Acts (w4.alloc (.cells #[.int .i64 (12 + (p : Int)), .int .i64 0, .int .i64 0, .int .i64 0, .string ⟨#[]⟩, .string ⟨#[]⟩, .int .i64 7, .int .i64 4, .int .i64 0, .int .i64 0, .string ⟨#[]⟩, .string ⟨#[]⟩, .int .i64 1, .int .i64 0, .int .i64 0, .int .i64 0, .string ⟨#[]⟩, .string ⟨#[97, 98, 99]⟩, .int .i64 3, .int .i64 0, .int .i64 0, .int .i64 0, .string ⟨#[120]⟩, .string ⟨#[]⟩, .int .i64 4, .int .i64 0, .int .i64 0, .int .i64 0, .string ⟨#[122, 122]⟩, .string ⟨#[]⟩] 30)) (some ⟨w4.heap.size, 0, none⟩) (Cf.tailActs p) := acts_lit w4 _ _ _ rfl
 have hb6 : Below (w4.alloc (.cells #[.int .i64 (12 + (p : Int)), .int .i64 0, .int .i64 0, .int .i64 0, .string ⟨#[]⟩, .string ⟨#[]⟩, .int .i64 7, .int .i64 4, .int .i64 0, .int .i64 0, .string ⟨#[]⟩, .string ⟨#[]⟩, .int .i64 1, .int .i64 0, .int .i64 0, .int .i64 0, .string ⟨#[]⟩, .string ⟨#[97, 98, 99]⟩, .int .i64 3, .int .i64 0, .int .i64 0, .int .i64 0, .string ⟨#[120]⟩, .string ⟨#[]⟩, .int .i64 4, .int .i64 0, .int .i64 0, .int .i64 0, .string ⟨#[122, 122]⟩, .string ⟨#[]⟩] 30)).heap.size (w4.alloc (.cells #[.int .i64 (12 + (p : Int)), .int .i64 0, .int .i64 0, .int .i64 0, .string ⟨#[]⟩, .string ⟨#[]⟩, .int .i64 7, .int .i64 4, .int .i64 0, .int .i64 0, .string ⟨#[]⟩, .string ⟨#[]⟩, .int .i64 1, .int .i64 0, .int .i64 0, .int .i64 0, .string ⟨#[]⟩, .string ⟨#[97, 98, 99]⟩, .int .i64 3, .int .i64 0, .int .i64 0, .int .i64 0, .string ⟨#[120]⟩, .string ⟨#[]⟩, .int .i64 4, .int .i64 0, .int .i64 0, .int .i64 0, .string ⟨#[122, 122]⟩, .string ⟨#[]⟩] 30)) ((w4.alloc (.cells #[.int .i64 (12 + (p : Int)), .int .i64 0, .int .i64 0, .int .i64 0, .string ⟨#[]⟩, .string ⟨#[]⟩, .int .i64 7, .int .i64 4, .int .i64 0, .int .i64 0, .string ⟨#[]⟩, .string ⟨#[]⟩, .int .i64 1, .int .i64 0, .int .i64 0, .int .i64 0, .string ⟨#[]⟩, .string ⟨#[97, 98, 99]⟩, .int .i64 3, .int .i64 0, .int .i64 0, .int .i64 0, .string ⟨#[120]⟩, .string ⟨#[]⟩, .int .i64 4, .int .i64 0, .int .i64 0, .int .i64 0, .string ⟨#[122, 122]⟩, .string ⟨#[]⟩] 30)).alloc (.cells #[.slice A L.length c, .slice (some ⟨w4.heap.size, 0, none⟩) 5 5] 39)) := (Below.refl _ _).alloc (Nat.le_refl _) _
 have hrow := row_two (w4.alloc (.cells #[.int .i64 (12 + (p : Int)), .int .i64 0, .int .i64 0, .int .i64 0, .string ⟨#[]⟩, .string ⟨#[]⟩, .int .i64 7, .int .i64 4, .int .i64 0, .int .i64 0, .string ⟨#[]⟩, .string ⟨#[]⟩, .int .i64 1, .int .i64 0, .int .i64 0, .int .i64 0, .string ⟨#[]⟩, .string ⟨#[97, 98, 99]⟩, .int .i64 3, .int .i64 0, .int .i64 0, .int .i64 0, .string ⟨#[120]⟩, .string ⟨#[]⟩, .int .i64 4, .int .i64 0, .int .i64 0, .int .i64 0, .string ⟨#[122, 122]⟩, .string ⟨#[]⟩] 30)) 39 A (some ⟨w4.heap.size, 0, none⟩) c 5 L (Cf.tailActs p)
 have hb56 := hb5.trans (hb6.mono hb5.size)
 have hbw6 := Hbw4.out.trans (hb56.mono Hbw4.out.size)
 have hran := ran_any [⟨A, c, L⟩, ⟨some ⟨w4.heap.size, 0, none⟩, 5, Cf.tailActs p⟩] (some ⟨(w4.alloc (.cells #[.int .i64 (12 + (p : Int)), .int .i64 0, .int .i64 0, .int .i64 0, .string ⟨#[]⟩, .string ⟨#[]⟩, .int .i64 7, .int .i64 4, .int .i64 0, .int .i64 0, .string ⟨#[]⟩, .string ⟨#[]⟩, .int .i64 1, .int .i64 0, .int .i64 0, .int .i64 0, .string ⟨#[]⟩, .string ⟨#[97, 98, 99]⟩, .int .i64 3, .int .i64 0, .int .i64 0, .int .i64 0, .string ⟨#[120]⟩, .string ⟨#[]⟩, .int .i64 4, .int .i64 0, .int .i64 0, .int .i64 0, .string ⟨#[122, 122]⟩, .string ⟨#[]⟩] 30)).heap.size, 0, none⟩) 2 _ hrow (fun x hx => by
  simp only [List.mem_cons, List.not_mem_nil, or_false] at hx
  rcases hx with rfl | rfl
  ·exact HAc4.out.below hb56
  ·exact hli.below hb6) (by simp) (by rw [cat_two, List.length_append, show (Cf.tailActs p).length = 5 from rfl]; omega) (by
  rw [cat_two]
  intro x hx
  rcases List.mem_append.1 hx with h | h
  ·exact HFt.out x h
  ·unfold maxLen
   simp only [Cf.tailActs, List.mem_cons, List.not_mem_nil, or_false] at h
   rcases h with rfl | rfl | rfl | rfl | rfl <;> simp) (HT.out _ hbw6).1 (HT.out _ hbw6).2
 rw [cat_two] at hran
 simp only [alloc_sz] at hran
 have Hran := Lib.hid hran
 have HB16 := Lib.hid (HB1.out.below hb56 HB1.out.lt)
 have Hkr6 := Lib.hid (Hkr4.out.below hb56)
 have Hbw6 := Lib.hid hbw6
 clear hran hrow hb5 hb6 hli hb56 hbw6 HB1 Hkr4 HAc4 Hbw4 HP HFt
 go_wp2_with fail
 refine Hran.out.mono ?_
 rintro e w7 ⟨R2, c2, ⟨A3, ca3, M3, cm3, N3, cn3, S3, cs3, Q3, cq3⟩, rfl, hrd, -, hkr2, hb7⟩
 simp only [kcells, List.length_append, tail_len]
 rw [HGT.out.2.1] at hrd
 rw [HGT.out.2.2] at hkr2
 simp only [HGT.out.2.2]
 have HB17 := Lib.hid (HB16.out.below hb7 HB16.out.lt)
 have Hkr7 := Lib.hid (Hkr6.out.below hb7)
 have Hbw7 := Lib.hid (Hbw6.out.trans (hb7.mono Hbw6.out.size))
 have Hrd := Lib.hid hrd
 have Hkr2 := Lib.hid hkr2
 clear hb7 hrd hkr2 HB16 Hkr6 Hbw6 Hran
 go_upto_region 4 with fail
 have hb8 : Below w7.heap.size w7 (w7.alloc (.cells #[.slice A3 k1.mods.length ca3, .slice M3 k1.mem.length cm3, .slice N3 k1.nodes.length cn3, .slice S3 k1.pipes.length cs3, .slice Q3 k1.procs.length cq3] tKern)) := (Below.refl _ _).alloc (Nat.le_refl _) _
 have HB2 := Lib.hid (Wb.new w7 tKern [.slice A3 k1.mods.length ca3, .slice M3 k1.mem.length cm3, .slice N3 k1.nodes.length cn3, .slice S3 k1.pipes.length cs3, .slice Q3 k1.procs.length cq3])
 have HB18 := Lib.hid (HB17.out.below hb8 HB17.out.lt)
 have Hkr8 := Lib.hid (Hkr7.out.below hb8)
 have Hkr28 := Lib.hid (Hkr2.out.below hb8)
 have Hrd8 := Lib.hid (Hrd.out.below hb8)
 have Hbw8 := Lib.hid (Hbw7.out.trans (hb8.mono Hbw7.out.size))
 clear hb8 HB17 Hkr7 Hkr2 Hrd Hbw7
 generalize w7.heap.size = g2 at *
 generalize w7.alloc (.cells #[.slice A3 k1.mods.length ca3, .slice M3 k1.mem.length cm3, .slice N3 k1.nodes.length cn3, .slice S3 k1.pipes.length cs3, .slice Q3 k1.procs.length cq3] tKern) = w8 at *
 have hb9 : Below w8.heap.size w8 (w8.alloc (.cells MC tAct)) := (Below.refl _ _).alloc (Nat.le_refl _) _
 have hbw9 := Hbw8.out.trans (hb9.mono Hbw8.out.size)
 have hrun := run_script (List.replicate 201 zAct) (some ⟨w8.heap.size, 0, none⟩) 201 _ (HBk.out w8) (by rw [List.length_replicate]; unfold maxLen; omega) (by
  intro x hx
  rw [List.eq_of_mem_replicate hx]
  unfold maxLen zAct
  simp) (HT.out _ hbw9).1 (HT.out _ hbw9).2
 rw [script_long, List.length_replicate] at hrun
 have Hrun := Lib.hid hrun
 have HB29 := Lib.hid (HB2.out.below hb9 HB2.out.lt)
 have HB19 := Lib.hid (HB18.out.below hb9 HB18.out.lt)
 have Hkr9 := Lib.hid (Hkr8.out.below hb9)
 have Hkr29 := Lib.hid (Hkr28.out.below hb9)
 have Hrd9 := Lib.hid (Hrd8.out.below hb9)
 have Hbw9 := Lib.hid hbw9
 clear hrun hb9 hbw9 HB2 HB18 Hkr8 Hkr28 Hrd8 Hbw8 HBk
 go_wp2_with fail
 refine Hrun.out.mono ?_
 rintro e wa ⟨R3, c3, ⟨A4, ca4, M4, cm4, N4, cn4, S4, cs4, Q4, cq4⟩, rfl, -, -, -, hba⟩
 simp only [kcells]
 have HB2a := Lib.hid (HB29.out.below hba HB29.out.lt)
 have HB1a := Lib.hid (HB19.out.below hba HB19.out.lt)
 have Hkra := Lib.hid (Hkr9.out.below hba)
 have Hkr2a := Lib.hid (Hkr29.out.below hba)
 have Hrda := Lib.hid (Hrd9.out.below hba)
 have Hbwa := Lib.hid (Hbw9.out.trans (hba.mono Hbw9.out.size))
 clear hba HB29 HB19 Hkr9 Hkr29 Hrd9 Hbw9 Hrun hmk
 go_upto_region 5 with fail
 generalize hwb : wa.alloc _ = wb
 have hbb : Below wa.heap.size wa wb := by rw [← hwb]; exact (Below.refl _ _).alloc (Nat.le_refl _) _
 clear hwb
 have HB2b := Lib.hid (HB2a.out.below hbb HB2a.out.lt)
 have HB1b := Lib.hid (HB1a.out.below hbb HB1a.out.lt)
 have Hkrb := Lib.hid (Hkra.out.below hbb)
 have Hkr2b := Lib.hid (Hkr2a.out.below hbb)
 have Hrdb := Lib.hid (Hrda.out.below hbb)
 have Hbwb := Lib.hid (Hbwa.out.trans (hbb.mono Hbwa.out.size))
 clear hbb HB2a HB1a Hkra Hkr2a Hrda Hbwa
 have HG0 := Lib.hid (Cf.good_iff.2 HGT.out.1)
 have HFt := Lib.hid (fit_good HGT.out.1)
 have zb := HB1b.out
 have z0 := zb.cell 0
 have z1 := zb.cell 1
 have z2 := zb.cell 2
 have z3 := zb.cell 3
 have z4 := zb.cell 4
 simp only [List.getElem?_cons_zero, List.getElem?_cons_succ] at z0 z1 z2 z3 z4
 have zl := zb.lt
 have HC1 := Lib.hid (show Calls Tryz.prog 21 #[.agg #[.slice A2 k1.mods.length ca2, .slice M2 k1.mem.length cm2, .slice N2 k1.nodes.length cn2, .slice S2 k1.pipes.length cs2, .slice Q2 k1.procs.length cq2]] wb _ from check_kern k1 ⟨A2, ca2, M2, cm2, N2, cn2, S2, cs2, Q2, cq2⟩ wb Hkrb.out HFt.out (HT.out _ Hbwb.out).1 (HT.out _ Hbwb.out).2)
 rw [HG0.out] at HC1
 go_wp2_with fail
 refine HC1.out.mono ?_
 rintro e wc ⟨rfl, hbc⟩
 have HB2c := Lib.hid (HB2b.out.below hbc HB2b.out.lt)
 have HB1c := Lib.hid (HB1b.out.below hbc HB1b.out.lt)
 have Hkrc := Lib.hid (Hkrb.out.below hbc)
 have Hkr2c := Lib.hid (Hkr2b.out.below hbc)
 have Hrdc := Lib.hid (Hrdb.out.below hbc)
 have Hbwc := Lib.hid (Hbwb.out.trans (hbc.mono Hbwb.out.size))
 clear hbc HB2b HB1b Hkrb Hkr2b Hrdb Hbwb HC1 z0 z1 z2 z3 z4 zb zl
 have zb := HB1c.out
 have z0 := zb.cell 0
 have z1 := zb.cell 1
 have z2 := zb.cell 2
 have z3 := zb.cell 3
 have z4 := zb.cell 4
 simp only [List.getElem?_cons_zero, List.getElem?_cons_succ] at z0 z1 z2 z3 z4
 have zl := zb.lt
 have HC2 := Lib.hid (show Calls Tryz.prog 22 #[.agg #[.slice A2 k1.mods.length ca2, .slice M2 k1.mem.length cm2, .slice N2 k1.nodes.length cn2, .slice S2 k1.pipes.length cs2, .slice Q2 k1.procs.length cq2]] wc _ from kcopy_any k1 ⟨A2, ca2, M2, cm2, N2, cn2, S2, cs2, Q2, cq2⟩ wc Hkrc.out HFt.out)
 go_wp2_with fail
 refine HC2.out.mono ?_
 rintro e wd ⟨a5, xs5, ps5, rfl, hown5, hbd⟩
 have Hkr5 := Lib.hid hown5.new_.rd
 have HB2d := Lib.hid (HB2c.out.below hbd HB2c.out.lt)
 have HB1d := Lib.hid (HB1c.out.below hbd HB1c.out.lt)
 have Hkrd := Lib.hid (Hkrc.out.below hbd)
 have Hkr2d := Lib.hid (Hkr2c.out.below hbd)
 have Hrdd := Lib.hid (Hrdc.out.below hbd)
 have Hbwd := Lib.hid (Hbwc.out.trans (hbd.mono Hbwc.out.size))
 clear hbd HB2c HB1c Hkrc Hkr2c Hrdc Hbwc HC2 hown5 z0 z1 z2 z3 z4 zb zl
 have HC3 := Lib.hid (check_kern k1 a5 wd Hkr5.out HFt.out (HT.out _ Hbwd.out).1 (HT.out _ Hbwd.out).2)
 rw [HG0.out] at HC3
 clear Hkr5
 go_wp2_with fail
 refine HC3.out.mono ?_
 rintro e we ⟨rfl, hbe⟩
 have HB2e := Lib.hid (HB2d.out.below hbe HB2d.out.lt)
 have HB1e := Lib.hid (HB1d.out.below hbe HB1d.out.lt)
 have Hkre := Lib.hid (Hkrd.out.below hbe)
 have Hkr2e := Lib.hid (Hkr2d.out.below hbe)
 have Hrde := Lib.hid (Hrdd.out.below hbe)
 have Hbwe := Lib.hid (Hbwd.out.trans (hbe.mono Hbwd.out.size))
 clear hbe HB2d HB1d Hkrd Hkr2d Hrdd Hbwd HC3 HT
 go_upto_region 8 with fail
 rcases Hrde.out with h0 | ⟨bk, off, rfl, hlt, hc⟩
 ·simp [Cf.tailAns] at h0
 have hat : ∀ (j : Nat) (x : Cf.Ans), Cf.tailAns[j]? = some x → ((Cf.ranT Cf.newKern L).answers ++ Cf.tailAns)[L.length + j]? = some x := fun j x h => by
  rw [List.getElem?_append_right (by rw [HRL.out]; omega), HRL.out, Nat.add_sub_cancel_left]
  exact h
 have y0 : we.cell? ⟨bk, off + L.length * 3, none⟩ = some (.int .i64 3) := hc (L.length + 0) _ (hat 0 _ rfl) 0 _ rfl
 have y1 : we.cell? ⟨bk, off + (L.length + 1) * 3, none⟩ = some (.int .i64 6) := hc (L.length + 1) _ (hat 1 _ rfl) 0 _ rfl
 have y2 : we.cell? ⟨bk, off + (L.length + 2) * 3, none⟩ = some (.int .i64 5) := hc (L.length + 2) _ (hat 2 _ rfl) 0 _ rfl
 have y3 : we.cell? ⟨bk, off + (L.length + 3) * 3, none⟩ = some (.int .i64 6) := hc (L.length + 3) _ (hat 3 _ rfl) 0 _ rfl
 have y4 : we.cell? ⟨bk, off + (L.length + 4) * 3, none⟩ = some (.int .i64 6) := hc (L.length + 4) _ (hat 4 _ rfl) 0 _ rfl
 clear hat hc Hrde HRL
 generalize L.length = n at *
 have zb := HB1e.out
 have z0 := zb.cell 0
 have z1 := zb.cell 1
 have z2 := zb.cell 2
 have z3 := zb.cell 3
 have z4 := zb.cell 4
 simp only [List.getElem?_cons_zero, List.getElem?_cons_succ] at z0 z1 z2 z3 z4
 have zl := zb.lt
 have xb := HB2e.out
 have x0 := xb.cell 0
 have x1 := xb.cell 1
 have x2 := xb.cell 2
 have x3 := xb.cell 3
 have x4 := xb.cell 4
 simp only [List.getElem?_cons_zero, List.getElem?_cons_succ] at x0 x1 x2 x3 x4
 have xl := xb.lt
 have u1 : (n : Int) + 1 < ((n + 5 : Nat) : Int) := by omega
 have u2 : (n : Int) + 2 < ((n + 5 : Nat) : Int) := by omega
 have u3 : (n : Int) + 3 < ((n + 5 : Nat) : Int) := by omega
 have u4 : (n : Int) + 4 < ((n + 5 : Nat) : Int) := by omega
 have u5 : n + 1 < n + 5 ∧ n + 2 < n + 5 ∧ n + 3 < n + 5 ∧ n + 4 < n + 5 := by omega
 have v1 : 0 ≤ (n : Int) + 1 := by omega
 have v2 : 0 ≤ (n : Int) + 2 := by omega
 have v3 : 0 ≤ (n : Int) + 3 := by omega
 have v4 : 0 ≤ (n : Int) + 4 := by omega
 obtain ⟨u51, u52, u53, u54⟩ := u5
 have HE1 := Lib.hid (fun W (h : Below we.heap.size we W) => equalN_same k1.nodes N2 N3 cn2 cn3 W (Hkre.out.nodes.below h) (Hkr2e.out.nodes.below h) (by rw [HGT.out.1.nodesL]; unfold maxLen; omega))
 have HE2 := Lib.hid (fun W (h : Below we.heap.size we W) => equalS_same k1.pipes S2 S3 cs2 cs3 W (Hkre.out.pipes.below h) (Hkr2e.out.pipes.below h) (by rw [HGT.out.1.pipesL]; unfold maxLen; omega))
 have HE3 := Lib.hid (fun W (h : Below we.heap.size we W) => equalI_same k1.mem M2 M3 cm2 cm3 W (Hkre.out.mem.below h) (Hkr2e.out.mem.below h) (by rw [HGT.out.1.memL]; unfold maxLen; omega))
 clear Hkre Hkr2e HGT HFt HG0
 go_wp2_with fail
 refine (HE1.out _ (Below.refl _ _)).mono ?_
 rintro e w' ⟨rfl, m1, rfl⟩
 go_wp2_with fail
 refine (HE2.out _ (below_drewN (Below.refl _ _) _)).mono ?_
 rintro e w' ⟨rfl, m2, rfl⟩
 go_wp2_with fail
 refine (HE3.out _ (below_drewN (Below.refl _ _) _)).mono ?_
 rintro e w' ⟨rfl, m3, rfl⟩
 go_wp2
 go_ret
 exact ⟨rfl, below_drewN Hbwe.out _⟩
end Go.Proofs.YtnnhhbjbdmgpiaaGreatDoor
