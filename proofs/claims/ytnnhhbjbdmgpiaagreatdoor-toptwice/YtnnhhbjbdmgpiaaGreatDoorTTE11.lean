/- Texts of the proof of TopTwice: ActsR, ActsK, InstK, TwiceK. -/
import Derived.Test.YtnnhhbjbdmgpiaaGreatDoorJ33
import Derived.Test.YtnnhhbjbdmgpiaaGreatDoorTTE10
import Derived.Test.YtnnhhbjbdmgpiaaGreatDoorJ24
import Derived.Test.YtnnhhbjbdmgpiaaGreatDoorTTE00
import Derived.Test.YtnnhhbjbdmgpiaaGreatDoorTTE05
import Derived.Test.YtnnhhbjbdmgpiaaGreatDoorTTE04
import Derived.Test.YtnnhhbjbdmgpiaaGreatDoorTTE06
import Derived.Test.YtnnhhbjbdmgpiaaGreatDoorTTE08
import Derived.BigRegion
import Derived.BigQuiet
import Derived.Test.YtnnhhbjbdmgpiaaGreatDoorTTE09
import Derived.Test.YtnnhhbjbdmgpiaaGreatDoorTTE07
set_option linter.unusedSimpArgs false
set_option linter.unusedVariables false
/- Walks of the laws' own helpers: an action of a raw thing, the region that draws. -/
namespace Go.Proofs.YtnnhhbjbdmgpiaaGreatDoor
set_option maxRecDepth 100000
open Go.RowKit
abbrev tRaw : TypeId := 45
theorem op_call2 {P : Program} {o : Oper} {a : Act} {w : World} {K : Act → World → Prop} {Q : Exit → Act → World → Prop} {R : Ending → World → Prop}
  (f : FuncId) (x y : Operand) (tys : Array TypeId) (ho : o.op = .call { callee := .value (.func f), args := #[x, y], argTypes := tys }) (v u : Value) (hv : a.eval x = v) (hu : a.eval y = u)
  (eg : ∀ args w, (callFunc f args).run P w = .ok (.enter f args) w) (hc : Calls P f #[v, u] w R) (h : ∀ e w', R e w' → ∃ v, e = .returned v ∧ K (a.put o.dst v) w') : Oper.wp P o a w K Q := by
 have hex : (execOp a.eval o).run P w = .ok (.enter f #[v, u]) w := by
  have hfn : a.eval (.func f) = .func (.func f) #[] #[] := rfl
  simp [execOp, ho, resolve, invoke, hv, hu, eg, hfn, Deferred.ofValue]
 unfold Oper.wp
 rw [hex]
 refine hc.mono fun e w' hr => ?_
 obtain ⟨v, rfl, hk⟩ := h e w' hr
 exact hk
theorem ac_field (o : Oper) (a : Act) (w : World) (h j : Nat) (x : Operand) (hj : j < 4) (ho : o.op = .fieldAddr tRaw x j) (ev : a.eval x = .pointer (some ⟨h, 0, none⟩)) (_hb : (w.heap[h]?).isSome = true) : (execOp a.eval o).run Tryz.prog w = .ok (.value (.pointer (some ⟨h, j, none⟩))) w := by
 obtain rfl | rfl | rfl | rfl : j = 0 ∨ j = 1 ∨ j = 2 ∨ j = 3 := by omega
 all_goals
  simp [execOp, ho, ev]
  go_simp
theorem ac_load (o : Oper) (a : Act) (w : World) (p : Addr) (x : Operand) (v : Int) (ho : o.op = .load tInt x) (ev : a.eval x = .pointer (some p)) (hc : w.cell? p = some (.int .i64 v)) : (execOp a.eval o).run Tryz.prog w = .ok (.value (.int .i64 v)) w := by
 simp [execOp, ho, ev]
 go_simp
theorem ac_loads (o : Oper) (a : Act) (w : World) (p : Addr) (x : Operand) (v : Value) (ho : o.op = .load tStr x) (ev : a.eval x = .pointer (some p)) (hc : w.cell? p = some v) : (execOp a.eval o).run Tryz.prog w = .ok (.value v) w := by
 simp [execOp, ho, ev]
 go_simp
def acNames : List Value := [.string ⟨#[102]⟩, .string ⟨#[103]⟩, .string ⟨#[100, 101, 118]⟩]
theorem ac_names (o : Oper) (a : Act) (w : World) (ho : o.op = .buildSlice 25 3 #[(0, .const (.string ⟨#[102]⟩)), (1, .const (.string ⟨#[103]⟩)), (2, .const (.string ⟨#[100, 101, 118]⟩))]) : (execOp a.eval o).run Tryz.prog w = .ok (.value (.slice (some ⟨w.heap.size, 0, none⟩) 3 3)) (w.alloc (.cells acNames.toArray tStr)) := by
 simp [execOp, ho, acNames]
 go_simp
theorem ac_index (o : Oper) (a : Act) (w : World) (x y : Operand) (g z : Nat) (hz : z < 3) (ho : o.op = .indexAddr 25 x y) (ex : a.eval x = .slice (some ⟨g, 0, none⟩) 3 3) (ey : a.eval y = .int .i64 z) : (execOp a.eval o).run Tryz.prog w = .ok (.value (.pointer (some ⟨g, z, none⟩))) w := by
 obtain rfl | rfl | rfl : z = 0 ∨ z = 1 ∨ z = 2 := by omega
 all_goals
  simp [execOp, ho, ex, ey]
  go_simp
theorem ac_build (o : Oper) (a : Act) (w : World) (x y z : Operand) (p n : Int) (s : ByteArray) (ho : o.op = .build 30 #[(1, x), (2, y), (4, z)]) (ex : a.eval x = .int .i64 p) (ey : a.eval y = .int .i64 n) (ez : a.eval z = .string s) : (execOp a.eval o).run Tryz.prog w = .ok (.value (.agg #[.int .i64 0, .int .i64 p, .int .i64 n, .int .i64 0, .string s, .string ⟨#[]⟩])) w := by
 simp [execOp, ho, ex, ey, ez]
 go_simp
def acZ : List Value := [.int .i64 0, .int .i64 0, .int .i64 0, .int .i64 0, .string ⟨#[]⟩, .string ⟨#[]⟩]
theorem ac_box (o : Oper) (a : Act) (w : World) (ho : o.op = .alloc 30) : (execOp a.eval o).run Tryz.prog w = .ok (.value (.pointer (some ⟨w.heap.size, 0, none⟩))) (w.alloc (.cells acZ.toArray tAct)) := by
 simp [execOp, ho, acZ]
 go_simp
theorem six_of {l : List Value} (h : l.length = 6) : ∃ a b c d e f, l = [a, b, c, d, e, f] := by
 match l, h with
 | [a, b, c, d, e, f], _ => exact ⟨a, b, c, d, e, f, rfl⟩
def set6 (w : World) (g : Nat) (v0 v1 v2 v3 v4 v5 : Value) : World := (((((w.setCell ⟨g, 0, none⟩ v0).setCell ⟨g, 1, none⟩ v1).setCell ⟨g, 2, none⟩ v2).setCell ⟨g, 3, none⟩ v3).setCell ⟨g, 4, none⟩ v4).setCell ⟨g, 5, none⟩ v5
theorem ac_put (o : Oper) (a : Act) (w : World) (g : Nat) (x y : Operand) (p n : Int) (s : ByteArray) (cs : List Value) (hl : cs.length = 6) (ho : o.op = .store 30 x y) (ex : a.eval x = .pointer (some ⟨g, 0, none⟩)) (ey : a.eval y = .agg #[.int .i64 0, .int .i64 p, .int .i64 n, .int .i64 0, .string s, .string ⟨#[]⟩]) (hg : Wb w g tAct cs) :
  (execOp a.eval o).run Tryz.prog w = .ok .skip (set6 w g (.int .i64 0) (.int .i64 p) (.int .i64 n) (.int .i64 0) (.string s) (.string ⟨#[]⟩)) := by
 obtain ⟨c0, c1, c2, c3, c4, c5, rfl⟩ := six_of hl
 have q0 := hg.cell 0
 have q1 := hg.cell 1
 have q2 := hg.cell 2
 have q3 := hg.cell 3
 have q4 := hg.cell 4
 have q5 := hg.cell 5
 have f0 := hg.open_ 0
 have f1 := hg.open_ 1
 have f2 := hg.open_ 2
 have f3 := hg.open_ 3
 have f4 := hg.open_ 4
 have f5 := hg.open_ 5
 simp only [List.getElem?_cons_zero, List.getElem?_cons_succ] at q0 q1 q2 q3 q4 q5
 clear hg
 simp [execOp, ho, ex, ey, set6]
 go_simp
theorem Wb.set6 {w : World} {g : Nat} {cs : List Value} (h : Wb w g tAct cs) (hl : cs.length = 6) (v0 v1 v2 v3 v4 v5 : Value) : Wb (set6 w g v0 v1 v2 v3 v4 v5) g tAct [v0, v1, v2, v3, v4, v5] := by
 obtain ⟨c0, c1, c2, c3, c4, c5, rfl⟩ := six_of hl
 exact (((((h.put 0 v0).put 1 v1).put 2 v2).put 3 v3).put 4 v4).put 5 v5
theorem Wb.off6 {w : World} {g g' : Nat} {t : TypeId} {cs : List Value} (h : Wb w g' t cs) (hne : g' ≠ g) (v0 v1 v2 v3 v4 v5 : Value) : Wb (Go.Proofs.YtnnhhbjbdmgpiaaGreatDoor.set6 w g v0 v1 v2 v3 v4 v5) g' t cs :=
 (((((h.off_ (p := ⟨g, 0, none⟩) hne v0).off_ (p := ⟨g, 1, none⟩) hne v1).off_ (p := ⟨g, 2, none⟩) hne v2).off_ (p := ⟨g, 3, none⟩) hne v3).off_ (p := ⟨g, 4, none⟩) hne v4).off_ (p := ⟨g, 5, none⟩) hne v5
theorem below_set6 {B g : Nat} {w w' : World} (h : Below B w w') (hB : B ≤ g) (v0 v1 v2 v3 v4 v5 : Value) : Below B w (set6 w' g v0 v1 v2 v3 v4 v5) :=
 (((((h.setCell (p := ⟨g, 0, none⟩) hB v0).setCell (p := ⟨g, 1, none⟩) hB v1).setCell (p := ⟨g, 2, none⟩) hB v2).setCell (p := ⟨g, 3, none⟩) hB v3).setCell (p := ⟨g, 4, none⟩) hB v4).setCell (p := ⟨g, 5, none⟩) hB v5
def AcR (B br : Nat) (ra rb rc pa pb : Int) (z : Nat) (nm : List UInt8) (i : Nat) (v : Value) (w : World) : Prop := match i with
 | 0 => v = .pointer (some ⟨br, 1, none⟩)
 | 1 => v = .int .i64 ra
 | 2 => v = .int .i64 pa
 | 3 => v = .pointer (some ⟨br, 2, none⟩)
 | 4 => v = .int .i64 rb
 | 5 => v = .int .i64 pb
 | 6 => ∃ g, v = .slice (some ⟨g, 0, none⟩) 3 3 ∧ Wb w g tStr acNames
 | 7 => v = .pointer (some ⟨br, 3, none⟩)
 | 8 => v = .int .i64 rc
 | 9 => v = .int .i64 z
 | 10 => ∃ g, v = .pointer (some ⟨g, z, none⟩) ∧ Wb w g tStr acNames
 | 11 => v = .string ⟨nm.toArray⟩
 | 12 => v = .agg #[.int .i64 0, .int .i64 pa, .int .i64 pb, .int .i64 0, .string ⟨nm.toArray⟩, .string ⟨#[]⟩]
 | 13 => ∃ g, v = .pointer (some ⟨g, 0, none⟩) ∧ (∃ cs, cs.length = 6 ∧ Wb w g tAct cs) ∧ B ≤ g
 | 14 => ∃ g, v = .pointer (some ⟨g, 0, none⟩) ∧ Wb w g tAct [.int .i64 0, .int .i64 pa, .int .i64 pb, .int .i64 0, .string ⟨nm.toArray⟩, .string ⟨#[]⟩] ∧ B ≤ g
 | _ => True
section
variable {B br : Nat} {ra rb rc pa pb : Int} {z : Nat} {nm : List UInt8} {i : Nat} {v : Value} {w w' : World}
theorem AcR.keep (h0 : AcR B br ra rb rc pa pb z nm i v w) (hb : Below w.heap.size w w') : AcR B br ra rb rc pa pb z nm i v w' := by
 match i, h0 with
 | 0, h | 1, h | 2, h | 3, h | 4, h | 5, h | 7, h | 8, h | 9, h | 11, h | 12, h => exact h
 | 6, ⟨g, h1, h2⟩ => exact ⟨g, h1, h2.below hb h2.lt⟩
 | 10, ⟨g, h1, h2⟩ => exact ⟨g, h1, h2.below hb h2.lt⟩
 | 13, ⟨g, h1, ⟨cs, h2, h3⟩, h4⟩ => exact ⟨g, h1, ⟨cs, h2, h3.below hb h3.lt⟩, h4⟩
 | 14, ⟨g, h1, h3, h4⟩ => exact ⟨g, h1, h3.below hb h3.lt, h4⟩
 | _ + 15, _ => exact trivial
theorem AcR.kept (h0 : AcR B br ra rb rc pa pb z nm i v w) (hi : i ≠ 14) {g : Nat} {cs : List Value} (hg : Wb w g tAct cs) (hl : cs.length = 6) (v0 v1 v2 v3 v4 v5 : Value) : AcR B br ra rb rc pa pb z nm i v (set6 w g v0 v1 v2 v3 v4 v5) := by
 match i, h0, hi with
 | 0, h, _ | 1, h, _ | 2, h, _ | 3, h, _ | 4, h, _ | 5, h, _ | 7, h, _ | 8, h, _ | 9, h, _ | 11, h, _ | 12, h, _ =>
   simp only [AcR] at h ⊢
   exact h
 | 6, ⟨g', h1, h2⟩, _ => exact ⟨g', h1, h2.off6 (h2.other hg (by decide)) _ _ _ _ _ _⟩
 | 10, ⟨g', h1, h2⟩, _ => exact ⟨g', h1, h2.off6 (h2.other hg (by decide)) _ _ _ _ _ _⟩
 | 13, ⟨g', h1, ⟨cs', h2, h3⟩, h4⟩, _ =>
   by_cases he : g' = g
   ·subst he
    exact ⟨g', h1, ⟨_, rfl, hg.set6 hl _ _ _ _ _ _⟩, h4⟩
   ·exact ⟨g', h1, ⟨cs', h2, h3.off6 he _ _ _ _ _ _⟩, h4⟩
 | 14, _, hi => exact absurd rfl hi
 | _ + 15, _, _ => exact trivial
end
def acSlot (i : Nat) : Nat := if i ≤ 12 then i + 25 else 8
def AcCut (wb : World) (pa pb : Int) (nm : List UInt8) (x : Value) (wx : World) : Prop := ∃ g, x = .pointer (some ⟨g, 0, none⟩) ∧ wb.heap.size ≤ g ∧ Wb wx g tAct [.int .i64 0, .int .i64 pa, .int .i64 pb, .int .i64 0, .string ⟨nm.toArray⟩, .string ⟨#[]⟩] ∧ Below wb.heap.size wb wx
end Go.Proofs.YtnnhhbjbdmgpiaaGreatDoor
/- Walks of the laws' own helpers: actions of raw things. -/
namespace Go.Proofs.YtnnhhbjbdmgpiaaGreatDoor
set_option maxRecDepth 100000
open Go.RowKit
def AcOk (a : Cf.Actn) : Prop := Cf.ActOk a ∧ a.data.length ≤ 30
def ActsPost (n : Nat) (w : World) (e : Ending) (w' : World) : Prop := ∃ (A : Option Addr) (c : Nat) (l : List Cf.Actn), e = .returned (.slice A l.length c) ∧ l.length = n ∧ (∀ a ∈ l, AcOk a) ∧ w'.ownsRow w.heap.size tAct 6 (.slice A l.length c) l.length (l.flatMap encAc) ∧ Below w.heap.size w w'
def AcRel (n : Nat) (w : World) (v iv : Value) (wr : World) : Prop := ∃ (k : Nat) (acc : List Cf.Actn), k ≤ n ∧ iv = .int .i64 k ∧ acc.length = k ∧ (∀ a ∈ acc, AcOk a) ∧ wr.ownsRow w.heap.size tAct 6 v k (acc.flatMap encAc) ∧ Below w.heap.size w wr
def AcSw (wb : World) (g : Nat) (wx : World) : Prop := ∃ a : Cf.Actn, AcOk a ∧ Wb wx g tAct (encAc a) ∧ Below wb.heap.size wb wx
def acName (z : Nat) : List UInt8 := if z = 0 then [102] else if z = 1 then [103] else [100, 101, 118]
theorem acName_at {z : Nat} (h : z < 3) : acNames[z]? = some (.string ⟨(acName z).toArray⟩) := by
 obtain rfl | rfl | rfl : z = 0 ∨ z = 1 ∨ z = 2 := by omega
 all_goals rfl
theorem acName_ok (z : Nat) : acName z = [] ∨ acName z = [102] ∨ acName z = [103] ∨ acName z = [100, 101, 118] := by
 unfold acName
 split
 ·exact .inr (.inl rfl)
 ·split
  ·exact .inr (.inr (.inl rfl))
  ·exact .inr (.inr (.inr rfl))
theorem ac_ok {kd p n m : Int} {nm dt : List UInt8} (h : 2 ≤ kd ∧ kd ≤ 11 ∧ kd ≠ 3) (hn : nm = [] ∨ nm = [102] ∨ nm = [103] ∨ nm = [100, 101, 118]) (he : kd = 11 → p ≠ 0) (hd : dt.length ≤ 30) : AcOk ⟨kd, p, n, m, nm, dt⟩ := ⟨⟨h, hn, he⟩, hd⟩
theorem acSw_6 {wb wc : World} {g : Nat} {cs : List Value} (hg : Wb wc g tAct cs) (hl : cs.length = 6) (hB : wb.heap.size ≤ g) (hb : Below wb.heap.size wb wc) (a : Cf.Actn) (h : AcOk a) : AcSw wb g (set6 wc g (.int .i64 a.kind) (.int .i64 a.p) (.int .i64 a.n) (.int .i64 a.m) (.string ⟨a.name.toArray⟩) (.string ⟨a.data.toArray⟩)) :=
 ⟨a, h, hg.set6 hl _ _ _ _ _ _, below_set6 hb hB _ _ _ _ _ _⟩
set_option maxRecDepth 100000 in
set_option maxHeartbeats 4000000 in
theorem acts_any (l : List Cf.Ins) (hf : ∀ x ∈ l, FitI x) (A0 : Option Addr) (c0 most n : Nat) (w : World) (hR : Codes w A0 l) (hm : l.length ≤ maxLen) (hmost : most ≤ 100) (hn : n = min l.length most) :
  Calls Tryz.prog 20 #[.slice A0 l.length c0, .int .i64 most] w (ActsPost n w) := by
 unfold maxLen at hm
 obtain ⟨i0, hi, hz0, hz1, hz2⟩ := info_parts infoAct
 have Hi := Lib.hid hi
 have H0 := Lib.hid hz0
 have H1 := Lib.hid hz1
 have H2 := Lib.hid hz2
 have Hf := Lib.hid hf
 have HR := Lib.hid hR
 have HN := Lib.hid hn
 have hn1 : n ≤ l.length := by omega
 have hn2 : n ≤ most := by omega
 clear hi hz0 hz1 hz2 hf hR hn
 go_enter Tryz.func20, Tryz.ntmps20
 go_wp2
 go_loopw [5, 6] (fun v iv wr => AcRel n w v iv wr) (fun _ iv _ => n - (intOf iv).toNat)
 case atStart => exact ⟨0, [], by omega, rfl, rfl, (fun a ha => by cases ha), World.ownsRow_nil _ _ _ _, Below.refl _ _⟩
 case round =>
  obtain ⟨k, acc, hk, rfl, hacc, hoks, hown, hbw⟩ := hrel
  have Hacc := Lib.hid hacc
  have Hoks := Lib.hid hoks
  have hwz := hbw.size
  obtain ⟨Av, cv, hAv⟩ := own_form hown
  subst hAv
  have Hown := Lib.hid hown
  clear hacc hoks hown
  by_cases hlt : k < n
  ·obtain ⟨kr, ra, rb, rc, hx⟩ : ∃ op a b' c', l[k]? = some ⟨op, a, b', c'⟩ := ⟨_, _, _, _, List.getElem?_eq_getElem (by omega)⟩
   obtain ⟨f0, f1, f2, f3⟩ := Hf.out _ (List.mem_of_getElem? hx)
   change Fit kr at f0
   change Fit ra at f1
   change Fit rb at f2
   change Fit rc at f3
   obtain ⟨b, off, rfl, hb, hc⟩ := HR.out.at_ (by intro e; rw [e] at hx; simp at hx)
   obtain ⟨p0, p1, p2, p3⟩ := hc k kr ra rb rc hx
   have q0 := (hbw.cell hb).trans p0
   have q1 := (hbw.cell hb).trans p1
   have q2 := (hbw.cell hb).trans p2
   have q3 := (hbw.cell hb).trans p3
   clear hc hx p0 p1 p2 p3
   have hk1 : k < l.length := by omega
   have hk2 : k < most := by omega
   go_upto_region 6 with fail
   clear q0 q1 q2 q3
   have hbw5 := hbw.alloc hbw.size (Obj.cells #[.int .i64 kr, .int .i64 ra, .int .i64 rb, .int .i64 rc] 45)
   have hs5 : (wr.alloc (Obj.cells #[.int .i64 kr, .int .i64 ra, .int .i64 rb, .int .i64 rc] 45)).heap.size = wr.heap.size + 1 := by simp
   have HX := Lib.hid (Wb.new wr tRaw [.int .i64 kr, .int .i64 ra, .int .i64 rb, .int .i64 rc])
   have Hown5 := Lib.hid (Hown.out.alloc (Obj.cells #[.int .i64 kr, .int .i64 ra, .int .i64 rb, .int .i64 rc] 45))
   generalize wr.alloc _ = wb at *
   generalize wr.heap.size = br at *
   clear hbw Hown
   obtain ⟨z1, z2⟩ := Cf.pick_range ra 3 (by omega)
   obtain ⟨z3, z4⟩ := Cf.pick_range rb 6 (by omega)
   obtain ⟨z, hz, hz3⟩ : ∃ z : Nat, Cf.pick rc 3 = z ∧ z < 3 := by
    obtain ⟨h1, h2⟩ := Cf.pick_range rc 3 (by omega)
    exact ⟨(Cf.pick rc 3).toNat, by omega, by omega⟩
   have P1 := Lib.hid (fun w => picked_any ra 3 w f1 (by omega) (by omega))
   have P2 := Lib.hid (fun w => picked_any rb 6 w f2 (by omega) (by omega))
   have P3 := Lib.hid (fun w => picked_any rc 3 w f3 (by omega) (by omega))
   rw [hz] at P3
   clear hz
   have Heg := Lib.hid (fun args w => show (callFunc 18 args).run Tryz.prog w = .ok (.enter 18 args) w by simp [go_sem])
   generalize Cf.pick ra 3 = pa at *
   generalize Cf.pick rb 6 = pb at *
   go_cut [8] from 25 to 38 (fun x wx => AcCut wb pa pb (acName z) x wx)
   case first =>
    refine one_region (ds := [8, 25, 26, 27, 28, 29, 30, 31, 32, 33, 34, 35, 36, 37]) acSlot (fun W => Below wb.heap.size wb W) (AcR wb.heap.size br ra rb rc pa pb z (acName z)) (by kernel_rfl) (by kernel_rfl) (by kernel_rfl) (Below.refl _ _).drew ?_ ?_
    ·intro i hi
     have hfld : ∀ (j : Nat) (v : Int) (w1 : World), Below wb.heap.size wb w1 → (some (Value.int .i64 v) = ([.int .i64 kr, .int .i64 ra, .int .i64 rb, .int .i64 rc] : List Value)[j]?) → w1.cell? ⟨br, j, none⟩ = some (.int .i64 v) := fun j v w1 hJ h => ((HX.out.below hJ HX.out.lt).cell j).trans h.symm
     have hbx : ∀ w1 : World, Below wb.heap.size wb w1 → (w1.heap[br]?).isSome = true := fun w1 hJ => by rw [show w1.heap[br]? = _ from HX.out.below hJ HX.out.lt]; rfl
     match i, hi with
     | 0, _ =>
       intro o u w1 ho hJ hdep K hK
       obtain rfl := Option.some.inj ho
       exact op_val (ac_field _ _ _ br 1 _ (by omega) rfl (eval_out rfl rfl) (hbx _ hJ)) (hK _ _ (fun h => by cases h) (fun _ => rfl) hJ (fun j v _ h => h))
     | 1, _ =>
       intro o u w1 ho hJ hdep K hK
       obtain rfl := Option.some.inj ho
       have e1 : u 25 = .pointer (some ⟨br, 1, none⟩) := hdep 0 (by decide +kernel)
       exact op_val (ac_load _ _ _ ⟨br, 1, none⟩ _ ra rfl ((eval_in rfl rfl).trans e1) (hfld 1 ra w1 hJ rfl)) (hK _ _ (fun h => by cases h) (fun _ => rfl) hJ (fun j v _ h => h))
     | 2, _ =>
       intro o u w1 ho hJ hdep K hK
       obtain rfl := Option.some.inj ho
       have e1 : u 26 = .int .i64 ra := hdep 1 (by decide +kernel)
       refine op_call2 18 _ _ _ rfl _ _ ((eval_in rfl rfl).trans e1) rfl Heg.out (P1.out _) ?_
       rintro e w' ⟨rfl, rfl⟩
       exact ⟨_, rfl, hK _ _ (fun h => by cases h) (fun _ => rfl) hJ (fun j v _ h => h)⟩
     | 3, _ =>
       intro o u w1 ho hJ hdep K hK
       obtain rfl := Option.some.inj ho
       exact op_val (ac_field _ _ _ br 2 _ (by omega) rfl (eval_out rfl rfl) (hbx _ hJ)) (hK _ _ (fun h => by cases h) (fun _ => rfl) hJ (fun j v _ h => h))
     | 4, _ =>
       intro o u w1 ho hJ hdep K hK
       obtain rfl := Option.some.inj ho
       have e1 : u 28 = .pointer (some ⟨br, 2, none⟩) := hdep 3 (by decide +kernel)
       exact op_val (ac_load _ _ _ ⟨br, 2, none⟩ _ rb rfl ((eval_in rfl rfl).trans e1) (hfld 2 rb w1 hJ rfl)) (hK _ _ (fun h => by cases h) (fun _ => rfl) hJ (fun j v _ h => h))
     | 5, _ =>
       intro o u w1 ho hJ hdep K hK
       obtain rfl := Option.some.inj ho
       have e1 : u 29 = .int .i64 rb := hdep 4 (by decide +kernel)
       refine op_call2 18 _ _ _ rfl _ _ ((eval_in rfl rfl).trans e1) rfl Heg.out (P2.out _) ?_
       rintro e w' ⟨rfl, rfl⟩
       exact ⟨_, rfl, hK _ _ (fun h => by cases h) (fun _ => rfl) hJ (fun j v _ h => h)⟩
     | 6, _ =>
       intro o u w1 ho hJ hdep K hK
       obtain rfl := Option.some.inj ho
       exact op_val (ac_names _ _ _ rfl) (hK _ _ (fun h => by cases h) (fun _ => ⟨_, rfl, Wb.new w1 tStr acNames⟩) (hJ.alloc hJ.size _) (fun j v _ h => h.keep ((Below.refl _ _).alloc (Nat.le_refl _) _)))
     | 7, _ =>
       intro o u w1 ho hJ hdep K hK
       obtain rfl := Option.some.inj ho
       exact op_val (ac_field _ _ _ br 3 _ (by omega) rfl (eval_out rfl rfl) (hbx _ hJ)) (hK _ _ (fun h => by cases h) (fun _ => rfl) hJ (fun j v _ h => h))
     | 8, _ =>
       intro o u w1 ho hJ hdep K hK
       obtain rfl := Option.some.inj ho
       have e1 : u 32 = .pointer (some ⟨br, 3, none⟩) := hdep 7 (by decide +kernel)
       exact op_val (ac_load _ _ _ ⟨br, 3, none⟩ _ rc rfl ((eval_in rfl rfl).trans e1) (hfld 3 rc w1 hJ rfl)) (hK _ _ (fun h => by cases h) (fun _ => rfl) hJ (fun j v _ h => h))
     | 9, _ =>
       intro o u w1 ho hJ hdep K hK
       obtain rfl := Option.some.inj ho
       have e1 : u 33 = .int .i64 rc := hdep 8 (by decide +kernel)
       refine op_call2 18 _ _ _ rfl _ _ ((eval_in rfl rfl).trans e1) rfl Heg.out (P3.out _) ?_
       rintro e w' ⟨rfl, rfl⟩
       exact ⟨_, rfl, hK _ _ (fun h => by cases h) (fun _ => rfl) hJ (fun j v _ h => h)⟩
     | 10, _ =>
       intro o u w1 ho hJ hdep K hK
       obtain rfl := Option.some.inj ho
       obtain ⟨g, e1, h1⟩ : ∃ g, u 31 = .slice (some ⟨g, 0, none⟩) 3 3 ∧ Wb w1 g tStr acNames := hdep 6 (by decide +kernel)
       have e2 : u 34 = .int .i64 z := hdep 9 (by decide +kernel)
       exact op_val (ac_index _ _ _ _ _ g z hz3 rfl ((eval_in rfl rfl).trans e1) ((eval_in rfl rfl).trans e2)) (hK _ _ (fun h => by cases h) (fun _ => ⟨g, rfl, h1⟩) hJ (fun j v _ h => h))
     | 11, _ =>
       intro o u w1 ho hJ hdep K hK
       obtain rfl := Option.some.inj ho
       obtain ⟨g, e1, h1⟩ : ∃ g, u 35 = .pointer (some ⟨g, z, none⟩) ∧ Wb w1 g tStr acNames := hdep 10 (by decide +kernel)
       exact op_val (ac_loads _ _ _ ⟨g, z, none⟩ _ _ rfl ((eval_in rfl rfl).trans e1) ((h1.cell z).trans (acName_at hz3))) (hK _ _ (fun h => by cases h) (fun _ => rfl) hJ (fun j v _ h => h))
     | 12, _ =>
       intro o u w1 ho hJ hdep K hK
       obtain rfl := Option.some.inj ho
       have e1 : u 27 = .int .i64 pa := hdep 2 (by decide +kernel)
       have e2 : u 30 = .int .i64 pb := hdep 5 (by decide +kernel)
       have e3 : u 36 = .string ⟨(acName z).toArray⟩ := hdep 11 (by decide +kernel)
       exact op_val (ac_build _ _ _ _ _ _ pa pb _ rfl ((eval_in rfl rfl).trans e1) ((eval_in rfl rfl).trans e2) ((eval_in rfl rfl).trans e3)) (hK _ _ (fun h => by cases h) (fun _ => rfl) hJ (fun j v _ h => h))
     | 13, _ =>
       intro o u w1 ho hJ hdep K hK
       obtain rfl := Option.some.inj ho
       exact op_val (ac_box _ _ _ rfl) (hK _ _ (fun h => by cases h) (fun _ => ⟨_, rfl, ⟨_, rfl, Wb.new w1 tAct acZ⟩, hJ.size⟩) (hJ.alloc hJ.size _) (fun j v _ h => h.keep ((Below.refl _ _).alloc (Nat.le_refl _) _)))
     | 14, _ =>
       intro o u w1 ho hJ hdep K hK
       obtain rfl := Option.some.inj ho
       obtain ⟨g, e1, ⟨cs, hcl, hg⟩, hB⟩ : ∃ g, u 8 = .pointer (some ⟨g, 0, none⟩) ∧ (∃ cs : List Value, cs.length = 6 ∧ Wb w1 g tAct cs) ∧ wb.heap.size ≤ g := hdep 13 (by decide +kernel)
       have e2 : u 37 = .agg #[.int .i64 0, .int .i64 pa, .int .i64 pb, .int .i64 0, .string ⟨(acName z).toArray⟩, .string ⟨#[]⟩] := hdep 12 (by decide +kernel)
       exact op_skip (ac_put _ _ _ g _ _ pa pb _ cs hcl rfl ((eval_in rfl rfl).trans e1) ((eval_in rfl rfl).trans e2) hg) (hK undef _ (fun _ => ⟨g, e1, hg.set6 hcl _ _ _ _ _ _, hB⟩) (fun h => absurd rfl h) (below_set6 hJ hB _ _ _ _ _ _) (fun j v hj h => AcR.kept h hj hg hcl _ _ _ _ _ _))
     | n + 15, hi => exact absurd hi (by show ¬ (n + 15 < 15); omega)
    ·intro u w1 hJ hV
     obtain ⟨g, e1, hg, hB⟩ : AcR wb.heap.size br ra rb rc pa pb z (acName z) 14 (u 8) w1 := hV 14 (by decide)
     have hR : AcCut wb pa pb (acName z) (u 8) w1 := ⟨g, e1, hB, hg, hJ⟩
     simp only [fillL, List.contains_cons, List.contains_nil, Nat.reduceAdd, Nat.reduceBEq, Bool.or_false, Bool.or_true, cond_true, cond_false, Nat.zero_add]
     clear e1
     go_wp2_with fail
     go_meet
     exact hR
   case rest =>
    obtain ⟨g, rfl, hgB, hg, hb6⟩ := hcut
    have HG := Lib.hid hg
    have Hb6 := Lib.hid hb6
    have HX6 := Lib.hid (HX.out.below hb6 HX.out.lt)
    have Hbw5 := Lib.hid hbw5
    clear hbw5
    clear hg hb6 HX P2 P3 Heg
    have q0 := HX6.out.cell 0
    have q1 := HX6.out.cell 1
    have q2 := HX6.out.cell 2
    have q3 := HX6.out.cell 3
    simp only [List.getElem?_cons_zero, List.getElem?_cons_succ] at q0 q1 q2 q3
    have ql := HX6.out.lt
    obtain ⟨y1, y2⟩ := Cf.pick_range kr 30 (by omega)
    go_wp2_with fail
    refine (picked_any kr 30 _ f0 (by omega) (by omega)).mono ?_
    rintro e w' ⟨rfl, rfl⟩
    generalize Cf.pick kr 30 = kk at y1 y2 ⊢
    have r0 := HG.out.cell 0
    have r1 := HG.out.cell 1
    have r2 := HG.out.cell 2
    have r3 := HG.out.cell 3
    have r4 := HG.out.cell 4
    have r5 := HG.out.cell 5
    simp only [List.getElem?_cons_zero, List.getElem?_cons_succ] at r0 r1 r2 r3 r4 r5
    have rf := HG.out.open_
    have rl := HG.out.lt
    go_upto_block 2 with fail
    go_cut [] from 41 to 102 (fun wx => AcSw wb g wx)
    case first =>
     clear q0
     rcases (show kk < 2 ∨ kk = 2 ∨ (2 < kk ∧ kk < 8) ∨ (8 ≤ kk ∧ kk < 10) ∨ (10 ≤ kk ∧ kk < 17) ∨ (17 ≤ kk ∧ kk < 24) ∨ (24 ≤ kk ∧ kk < 26) ∨ (26 ≤ kk ∧ kk < 29) ∨ kk = 29 by omega) with h | rfl | h | h | h | h | h | h | rfl
     ·have y0 : kk < 2 := by omega
      go_wp2
      go_meet
      exact acSw_6 HG.out rfl hgB Hb6.out ⟨2, 0, 0, 0, acName z, []⟩ (ac_ok (by decide) (acName_ok z) (fun h => absurd h (by decide)) (by simp))
     ·go_wp2
      go_meet
      exact acSw_6 HG.out rfl hgB Hb6.out ⟨4, 0, 0, 0, acName z, []⟩ (ac_ok (by decide) (acName_ok z) (fun h => absurd h (by decide)) (by simp))
     ·have m0 : ¬ kk < 2 := by omega
      have m1 : (kk == 2) = false := by rw [beq_eq_false_iff_ne]; omega
      have y0 : kk < 8 := by omega
      go_wp2
      go_meet
      exact ⟨⟨5, pa, 0, 0, acName z, []⟩, (ac_ok (by decide) (acName_ok z) (fun h => absurd h (by decide)) (by simp)), (HG.out.put 0 _).put 2 _, (Hb6.out.setCell (p := ⟨g, 0, none⟩) hgB _).setCell (p := ⟨g, 2, none⟩) hgB _⟩
     ·have m0 : ¬ kk < 2 := by omega
      have m1 : (kk == 2) = false := by rw [beq_eq_false_iff_ne]; omega
      have m2 : ¬ kk < 8 := by omega
      have y0 : kk < 10 := by omega
      go_wp2
      go_meet
      exact ⟨⟨6, pa, pb, 0, [], []⟩, (ac_ok (by decide) (.inl rfl) (fun h => absurd h (by decide)) (by simp)), (HG.out.put 0 _).put 4 _, (Hb6.out.setCell (p := ⟨g, 0, none⟩) hgB _).setCell (p := ⟨g, 4, none⟩) hgB _⟩
     ·have m0 : ¬ kk < 2 := by omega
      have m1 : (kk == 2) = false := by rw [beq_eq_false_iff_ne]; omega
      have m2 : ¬ kk < 8 := by omega
      have m3 : ¬ kk < 10 := by omega
      have y0 : kk < 17 := by omega
      go_wp2_with fail
      refine (picked_any rc 30 _ f3 (by omega) (by omega)).mono ?_
      rintro e w' ⟨rfl, rfl⟩
      obtain ⟨y1, y2⟩ := Cf.pick_range rc 30 (by omega)
      generalize Cf.pick rc 30 = y at y1 y2 ⊢
      go_wp2
      go_meet
      exact ⟨⟨7, pa, pb, 1 + y, [], []⟩, (ac_ok (by decide) (.inl rfl) (fun h => absurd h (by decide)) (by simp)), ((HG.out.put 0 _).put 4 _).put 3 _, ((Hb6.out.setCell (p := ⟨g, 0, none⟩) hgB _).setCell (p := ⟨g, 4, none⟩) hgB _).setCell (p := ⟨g, 3, none⟩) hgB _⟩
     ·have m0 : ¬ kk < 2 := by omega
      have m1 : (kk == 2) = false := by rw [beq_eq_false_iff_ne]; omega
      have m2 : ¬ kk < 8 := by omega
      have m3 : ¬ kk < 10 := by omega
      have m4 : ¬ kk < 17 := by omega
      have y0 : kk < 24 := by omega
      obtain ⟨dn, hdn⟩ : ∃ d : Nat, (d : Int) = 1 + Cf.pick rc 30 := ⟨(1 + Cf.pick rc 30).toNat, by have := Cf.pick_range rc 30 (by omega); omega⟩
      have hdn30 : dn ≤ 30 := by have := Cf.pick_range rc 30 (by omega); omega
      have HD := Lib.hid (fun w => data_any 0 rc rb 0 dn w f3 f2 hdn)
      clear hdn
      go_wp2_with fail
      refine (HD.out _).mono ?_
      rintro e w7 ⟨ld, hld, rfl, hb7⟩
      have HG7 := Lib.hid (HG.out.below hb7 HG.out.lt)
      have Hb7 := Lib.hid (Hb6.out.trans (hb7.mono Hb6.out.size))
      have Hld := Lib.hid hld
      clear HG Hb6 hb7 HD r0 r1 r2 r3 r4 r5 rf rl q2 q3 q1 ql hld
      have r0 := HG7.out.cell 0
      have r1 := HG7.out.cell 1
      have r2 := HG7.out.cell 2
      have r3 := HG7.out.cell 3
      have r4 := HG7.out.cell 4
      have r5 := HG7.out.cell 5
      simp only [List.getElem?_cons_zero, List.getElem?_cons_succ] at r0 r1 r2 r3 r4 r5
      have rf := HG7.out.open_
      have rl := HG7.out.lt
      go_wp2
      go_meet
      exact ⟨⟨8, pa, pb, 0, [], ld⟩, (ac_ok (by decide) (.inl rfl) (fun h => absurd h (by decide)) (by show ld.length ≤ 30; rw [Hld.out]; exact hdn30)), ((HG7.out.put 0 _).put 4 _).put 5 _, ((Hb7.out.setCell (p := ⟨g, 0, none⟩) hgB _).setCell (p := ⟨g, 4, none⟩) hgB _).setCell (p := ⟨g, 5, none⟩) hgB _⟩
     ·have m0 : ¬ kk < 2 := by omega
      have m1 : (kk == 2) = false := by rw [beq_eq_false_iff_ne]; omega
      have m2 : ¬ kk < 8 := by omega
      have m3 : ¬ kk < 10 := by omega
      have m4 : ¬ kk < 17 := by omega
      have m5 : ¬ kk < 24 := by omega
      have y0 : kk < 26 := by omega
      go_wp2
      go_meet
      exact acSw_6 HG.out rfl hgB Hb6.out ⟨9, pa, 0, 0, [], []⟩ (ac_ok (by decide) (.inl rfl) (fun h => absurd h (by decide)) (by simp))
     ·have m0 : ¬ kk < 2 := by omega
      have m1 : (kk == 2) = false := by rw [beq_eq_false_iff_ne]; omega
      have m2 : ¬ kk < 8 := by omega
      have m3 : ¬ kk < 10 := by omega
      have m4 : ¬ kk < 17 := by omega
      have m5 : ¬ kk < 24 := by omega
      have m6 : ¬ kk < 26 := by omega
      have y0 : kk < 29 := by omega
      go_wp2
      go_meet
      exact acSw_6 HG.out rfl hgB Hb6.out ⟨10, pa, 0, 0, [], []⟩ (ac_ok (by decide) (.inl rfl) (fun h => absurd h (by decide)) (by simp))
     ·go_wp2_with fail
      refine (P1.out _).mono ?_
      rintro e w' ⟨rfl, rfl⟩
      go_wp2
      go_meet
      exact acSw_6 HG.out rfl hgB Hb6.out ⟨11, 1 + pa, 0, 0, [], []⟩ (ac_ok (by decide) (.inl rfl) (fun _ => by show (1 + pa : Int) ≠ 0; omega) (by simp))
    case rest =>
     obtain ⟨a, hok, hga, hb8⟩ := hcut
     clear HG Hb6 HX6 r0 r1 r2 r3 r4 r5 rf rl q0 q1 q2 q3 ql P1
     have r0 := hga.cell 0
     have r1 := hga.cell 1
     have r2 := hga.cell 2
     have r3 := hga.cell 3
     have r4 := hga.cell 4
     have r5 := hga.cell 5
     simp only [encAc, List.getElem?_cons_zero, List.getElem?_cons_succ] at r0 r1 r2 r3 r4 r5
     have rl := hga.lt
     have Hown8 := Lib.hid (own_below Hown5.out hb8)
     have hbw8 := Hbw5.out.trans (hb8.mono Hbw5.out.size)
     have hz8 := hbw8.size
     clear Hown5 Hbw5 hb8
     go_wp2_with (at_builtin; refine wpList_append_src rfl _ _ 39 rfl w.heap.size 30 i0 (.agg #[.int .i64 0, .int .i64 0, .int .i64 0, .int .i64 0, .string ⟨#[]⟩, .string ⟨#[]⟩]) 6 64 Tryz.underlying39 Hi.out H0.out H1.out H2.out rfl (by decide) encAc_len one_ac _ k _ rfl (World.ownsRow.alloc Hown8.out _) (some ⟨wc.heap.size, 0, none⟩) 1 [a] rfl (acts_lit wc _ _ _ rfl) (by unfold maxLen; simp <;> omega) (by simp <;> omega) (by simp <;> omega) ?_)
     intro v' w9 hown9 hgr hat
     have HO9 := Lib.hid (show w9.ownsRow w.heap.size tAct 6 v' (k + 1) ((acc ++ [a]).flatMap encAc) by rw [List.flatMap_append]; exact hown9)
     have Hb9 := Lib.hid ((hbw8.alloc hbw8.size _).grown hgr (Nat.le_trans hbw8.size (by simp)) (fun r hr => own_blocks Hown8.out r hr))
     clear hown9 hgr hat r0 r1 r2 r3 r4 r5 rl
     go_wp2
     go_roundw
     case rel => exact ⟨k + 1, acc ++ [a], by omega, by go_num, by rw [List.length_append, Hacc.out]; rfl, fun b hb => by
      rcases List.mem_append.1 hb with h | h
      ·exact Hoks.out b h
      ·rw [List.mem_singleton.1 h]; exact hok, HO9.out, Hb9.out⟩
     case measure => simp [intOf]; omega
  ·obtain rfl : k = n := by omega
   have hor : (k < l.length) = False ∨ (k < l.length ∧ (k < most) = False) := by
    by_cases h : k < l.length
    ·refine .inr ⟨h, ?_⟩
     have := HN.out
     simp
     omega
    ·exact .inl (by simp [h])
   rcases hor with h | ⟨h, h'⟩
   ·go_wp2
    go_ret
    exact ⟨Av, cv, acc, by rw [Hacc.out]; rfl, Hacc.out, Hoks.out, by rw [Hacc.out]; exact Hown.out, hbw⟩
   ·go_wp2
    go_ret
    exact ⟨Av, cv, acc, by rw [Hacc.out]; rfl, Hacc.out, Hoks.out, by rw [Hacc.out]; exact Hown.out, hbw⟩
end Go.Proofs.YtnnhhbjbdmgpiaaGreatDoor
/- Walks of the laws' own helpers: the actions that install a module of raw things. -/
namespace Go.Proofs.YtnnhhbjbdmgpiaaGreatDoor
set_option maxRecDepth 100000
open Go.RowKit
def instActs (s name : List UInt8) (n : Int) : List Cf.Actn := [⟨1, 0, 0, 0, [], s⟩, ⟨3, 0, n, 0, name, []⟩]
def InstPost (name : List UInt8) (n : Int) (w : World) (e : Ending) (w' : World) : Prop :=
 ∃ (A : Option Addr) (s : List UInt8) (c : List Cf.Ins) (d : List Int), e = .returned (.slice A 2 2) ∧ Cf.decT s = ⟨⟨name, c, d⟩, 0⟩ ∧ s.length ≤ 941 ∧ w'.ownsRow w.heap.size tAct 6 (.slice A 2 2) 2 ((instActs s name n).flatMap encAc) ∧ Below w.heap.size w w'
theorem mod_fine {name : List UInt8} {c : List Cf.Ins} {d : List Int} (hn : Cf.nameB name = true) (hc : Cf.safeT c = 0) (hd : d.length ≤ 64) (hw : ∀ v ∈ d, 0 ≤ v ∧ v ≤ 65535) : Cf.modT ⟨name, c, d⟩ = 0 := by
 unfold Cf.modT
 rw [if_pos hn, if_pos hd, if_pos ?_]
 ·exact hc
 ·rw [List.all_eq_true]
  intro v hv
  have := hw v hv
  simp [Cf.wordB, Cf.inB, this]
set_option maxRecDepth 100000 in
set_option maxHeartbeats 1000000 in
theorem inst_any (l : List Cf.Ins) (hf : ∀ x ∈ l, FitI x) (A0 : Option Addr) (c0 : Nat) (kr ra rb rc : Int) (f1 : Fit ra) (f2 : Fit rb) (name : List UInt8) (n : Int) (w : World) (hR : Codes w A0 l) (hm : l.length ≤ maxLen) (hn : Cf.nameB name = true) (hnl : name.length ≤ 6) (hL : TabL w) (hF : TabF w) :
  Calls Tryz.prog 27 #[.slice A0 l.length c0, .agg #[.int .i64 kr, .int .i64 ra, .int .i64 rb, .int .i64 rc], .string ⟨name.toArray⟩, .int .i64 n] w (InstPost name n w) := by
 have HL := Lib.hid hL
 have HF := Lib.hid hF
 have HN := Lib.hid hn
 have hb0 : Below w.heap.size w (w.alloc (.cells #[.int .i64 kr, .int .i64 ra, .int .i64 rb, .int .i64 rc] 45)) := (Below.refl _ _).alloc (Nat.le_refl _) _
 have hbox := Wb.new w 45 [.int .i64 kr, .int .i64 ra, .int .i64 rb, .int .i64 rc]
 have HP := Lib.hid (keepPlain_any l hf A0 c0 _ (hR.below hb0) hm)
 have P2 := Lib.hid (fun w => mem_all kr ra rb rc 20 w f1 f2 (by omega))
 clear hL hF hR hn
 go_enter Tryz.func27, Tryz.ntmps27
 go_wp2_with fail
 refine HP.out.mono ?_
 rintro e w1 ⟨A, cp, pl, rfl, hpl, hpf, hpp, hpc, hb1⟩
 have hbw1 := hb0.trans (hb1.mono (by simp))
 have hle := Cf.place_le pl pl.length
 have HLE := Lib.hid (show (Cf.madeL pl).length = Cf.place pl pl.length by rw [← madeK_all, madeK_len])
 have HMT := Lib.hid (show Cf.madeT pl = ⟨Cf.madeL pl, 0⟩ by unfold Cf.madeT; rw [if_pos hpf, if_pos hpp, if_pos (by rw [HLE.out]; omega)])
 have HMS := Lib.hid (Cf.made_safe hpf hpp (by rw [HLE.out]; omega))
 have HMk := Lib.hid (make_any pl A cp w1 hpc (HL.out.below hbw1) (HF.out.below hbw1) (by unfold maxLen; omega))
 rw [HMT.out] at HMk
 have Hbox1 := Lib.hid (hbox.below hb1 (by simp))
 clear hpf hpp hpc HMT HP hb0 hb1 hbox
 go_wp2_with fail
 refine HMk.out.mono ?_
 rintro e w2 ⟨X, cx, rfl, hX, hb2⟩
 dsimp only at hX ⊢
 have hbw2 := hbw1.trans (hb2.mono hbw1.size)
 have hml : (Cf.madeL pl).length ≤ 93 := by rw [HLE.out]; omega
 have hbox2 := Hbox1.out.below hb2 Hbox1.out.lt
 have HX := Lib.hid hX
 have Hbw2 := Lib.hid hbw2
 generalize Cf.madeL pl = c at *
 clear HMk hb2 Hbox1 hbw1 hX hbw2 HLE
 have q0 := hbox2.cell 0
 have q1 := hbox2.cell 1
 have q2 := hbox2.cell 2
 have q3 := hbox2.cell 3
 simp only [List.getElem?_cons_zero, List.getElem?_cons_succ] at q0 q1 q2 q3
 have hz2 := hbox2.lt
 clear hbox2
 go_wp2_with fail
 refine (P2.out _).mono ?_
 rintro e w3 ⟨B, cb, d, rfl, hdl, hdw, hrow, hb3⟩
 have hbw3 := Hbw2.out.trans (hb3.mono Hbw2.out.size)
 have HX3 := Lib.hid (HX.out.below hb3)
 have hmod := mod_fine HN.out HMS.out (show d.length ≤ 64 by omega) hdw
 have HEn := Lib.hid (encode_any name c d X B cx cb w3 HX3.out (by rw [← hdl] at hrow; exact hrow.ints) (HL.out.below hbw3) (HF.out.below hbw3) (by unfold maxLen; omega) (by unfold maxLen; omega) (by unfold maxLen; omega))
 rw [Cf.encT, if_pos hmod, hmod, hdl] at HEn
 have HDe := Lib.hid (Cf.dec_enc hmod)
 have HEL := Lib.hid (Cf.enc_len hmod)
 have Hbw3 := Lib.hid hbw3
 clear hb3 hrow hdl hdw hbw3 q0 q1 q2 q3 hz2 P2 HX HMS hmod Hbw2 HX3 HN
 generalize Cf.encL ⟨name, c, d⟩ = en at *
 go_wp2_with fail
 refine HEn.out.mono ?_
 rintro e w4 ⟨rfl, hb4⟩
 have Hbw4 := Lib.hid (Hbw3.out.trans (hb4.mono Hbw3.out.size))
 clear HEn hb4 Hbw3
 go_wp2
 go_ret
 exact ⟨_, en, c, d, rfl, HDe.out, HEL.out.2, own_lit w4 w.heap.size _ _ (instActs en name n) rfl Hbw4.out.size (by simp [instActs]), Hbw4.out.alloc Hbw4.out.size _⟩
end Go.Proofs.YtnnhhbjbdmgpiaaGreatDoor
/- Walks of the law TopTwice. -/
namespace Go.Proofs.YtnnhhbjbdmgpiaaGreatDoor
set_option maxRecDepth 100000
open Go.RowKit
theorem ac_fit' {L : List Cf.Actn} (h : ∀ a ∈ L, AcOk a) : ∀ x ∈ L, x.name.length ≤ maxLen ∧ x.data.length ≤ maxLen := by
 intro x hx
 obtain ⟨h1, h2⟩ := h x hx
 refine ⟨?_, by unfold maxLen; omega⟩
 unfold maxLen
 rcases h1.name with e | e | e | e <;> rw [e] <;> simp
theorem inst_fit {s name : List UInt8} {n : Int} (hs : s.length ≤ 941) (hn : name.length ≤ 6) : ∀ x ∈ instActs s name n, x.name.length ≤ maxLen ∧ x.data.length ≤ maxLen := by
 intro x hx
 unfold maxLen
 simp only [instActs, List.mem_cons, List.not_mem_nil, or_false] at hx
 rcases hx with rfl | rfl
 ·simp; omega
 ·simp; omega
theorem script_short {l : List Cf.Actn} (h : l.length ≤ 200) : Cf.scriptT l = ⟨(Cf.ranT Cf.newKern l).answers, (Cf.ranT Cf.newKern l).kern, 0⟩ := by
 unfold Cf.scriptT
 rw [if_neg (by omega)]
set_option maxRecDepth 100000 in
set_option maxHeartbeats 4000000 in
theorem twice_walk (l m : List Cf.Ins) (hf : ∀ x ∈ l, FitI x) (hg : ∀ x ∈ m, FitI x) (A0 B0 : Option Addr) (c0 d0 : Nat) (kr ra rb rc n : Int) (f1 : Fit ra) (f2 : Fit rb) (fn : Fit n) (w : World) (hR : Codes w A0 l) (hS : Codes w B0 m) (hm : l.length ≤ maxLen) (hm2 : m.length ≤ maxLen) (hL : TabL w) (hF : TabF w) :
  Calls Tryz.prog 10 #[.slice A0 l.length c0, .slice B0 m.length d0, .agg #[.int .i64 kr, .int .i64 ra, .int .i64 rb, .int .i64 rc], .int .i64 n] w fun e w' => e = .returned (.bool true) ∧ Below w.heap.size w w' := by
 obtain ⟨i0, hi, hz0, hz1, hz2⟩ := info_parts infoAct
 have Hi := Lib.hid hi
 have H0 := Lib.hid hz0
 have H1 := Lib.hid hz1
 have H2 := Lib.hid hz2
 have HT := Lib.hid (fun (W : World) (h : Below w.heap.size w W) => show TabL W ∧ TabF W from ⟨hL.below h, hF.below h⟩)
 have hb0 : Below w.heap.size w (w.alloc (.cells #[.int .i64 kr, .int .i64 ra, .int .i64 rb, .int .i64 rc] 45)) := (Below.refl _ _).alloc (Nat.le_refl _) _
 have HI := Lib.hid (inst_any m hg B0 d0 kr ra rb rc f1 f2 [100, 101, 118] 0 _ (hS.below hb0) hm2 (by decide) (by simp) (hL.below hb0) (hF.below hb0))
 have HA := Lib.hid (fun W (h : Below w.heap.size w W) => acts_any l hf A0 c0 80 _ W (hR.below h) hm (by omega) rfl)
 have HP := Lib.hid (fun (k : Nat) (h : 1 ≤ k ∧ k ≤ 100) w => Picked_any n k w fn (by omega) (by omega))
 have Hb0 := Lib.hid hb0
 clear hi hz0 hz1 hz2 hL hF hR hS hf hg hb0 hm hm2
 go_enter Tryz.func10, Tryz.ntmps10
 go_wp2_with fail
 refine HI.out.mono ?_
 rintro e w1 ⟨A, en, mc, md, rfl, hde, hen, hown, hb1⟩
 have Hown1 := Lib.hid (own_mono hown Hb0.out.size)
 have Hbw1 := Lib.hid (Hb0.out.trans (hb1.mono Hb0.out.size))
 clear hde hown hb1 HI Hb0
 go_wp2_with fail
 refine (HA.out _ Hbw1.out).mono ?_
 rintro e w2 ⟨A', c', L, rfl, hLn, hok, hown, hb2⟩
 have hL80 : L.length ≤ 80 := by omega
 have HAc := Lib.hid (own_rd encAc_len hown)
 have Hown2 := Lib.hid (own_below Hown1.out hb2)
 have Hbw2 := Lib.hid (Hbw1.out.trans (hb2.mono Hbw1.out.size))
 have HFt := Lib.hid (show ∀ x ∈ instActs en [100, 101, 118] 0 ++ L, x.name.length ≤ maxLen ∧ x.data.length ≤ maxLen from fun x hx => by
  rcases List.mem_append.1 hx with h | h
  ·exact inst_fit hen (by simp) x h
  ·exact ac_fit' hok x h)
 have hs2 := Hbw2.out.size
 clear hown hok hb2 hLn HA Hown1 Hbw1 hen
 go_wp2_with (at_builtin; refine wpList_append_src rfl _ _ 39 rfl w.heap.size 30 i0 (.agg #[.int .i64 0, .int .i64 0, .int .i64 0, .int .i64 0, .string ⟨#[]⟩, .string ⟨#[]⟩]) 6 64 Tryz.underlying39 Hi.out H0.out H1.out H2.out rfl (by decide) encAc_len one_ac _ 2 _ rfl Hown2.out A' c' L rfl HAc.out (by unfold maxLen; omega) (by omega) hs2 ?_)
 intro v' w3 hown3 hgr hat
 have hown : w3.ownsRow w.heap.size tAct 6 v' (instActs en [100, 101, 118] 0 ++ L).length ((instActs en [100, 101, 118] 0 ++ L).flatMap encAc) := by
  rw [List.flatMap_append, List.length_append]
  exact hown3
 have Hbw3 := Lib.hid (Hbw2.out.grown hgr hs2 (fun r hr => own_blocks Hown2.out r hr))
 have hT : (instActs en [100, 101, 118] 0 ++ L).length ≤ 82 := by rw [List.length_append]; show 2 + L.length ≤ 82; omega
 clear hown3 hgr hat Hown2 Hbw2 hs2 HAc hL80
 generalize instActs en [100, 101, 118] 0 ++ L = T at *
 obtain ⟨A3, c3, hA3⟩ := own_form hown
 subst hA3
 have hcap := own_cap hown
 have HAc := Lib.hid (own_rd encAc_len hown)
 clear hown
 obtain ⟨k, hk, hk2⟩ : ∃ k : Nat, Cf.pick n ((T.length + 1 : Nat) : Int) = k ∧ k ≤ T.length := by
  obtain ⟨h1, h2⟩ := Cf.pick_range n ((T.length + 1 : Nat) : Int) (by omega)
  exact ⟨(Cf.pick n ((T.length + 1 : Nat) : Int)).toNat, by omega, by omega⟩
 have HP1 := Lib.hid (HP.out (T.length + 1) (by omega))
 rw [hk] at HP1
 clear hk HP
 rw [show ((T.length + 1 : Nat) : Int) = (T.length : Int) + 1 by omega] at HP1
 go_wp2_with fail
 refine (HP1.out _).mono ?_
 rintro e w' ⟨rfl, rfl⟩
 have HRun := Lib.hid (fun W (h : Below w3.heap.size w3 W) => run_script T A3 c3 W (HAc.out.below h) (by unfold maxLen; omega) HFt.out (HT.out _ (Hbw3.out.trans (h.mono Hbw3.out.size))).1 (HT.out _ (Hbw3.out.trans (h.mono Hbw3.out.size))).2)
 have HRunk := Lib.hid (fun W (h : Below w3.heap.size w3 W) => run_script (T.take k) A3 c3 W (RdS.take (HAc.out.below h) k) (by rw [List.length_take]; unfold maxLen; omega) (fun x hx => HFt.out x (List.mem_of_mem_take hx)) (HT.out _ (Hbw3.out.trans (h.mono Hbw3.out.size))).1 (HT.out _ (Hbw3.out.trans (h.mono Hbw3.out.size))).2)
 have hlk : (T.take k).length = k := by rw [List.length_take]; omega
 rw [script_short (by omega)] at HRun
 rw [script_short (by omega), hlk] at HRunk
 have HLen := Lib.hid (Cf.ran_len T Cf.newKern)
 have HLenk := Lib.hid (show (Cf.ranT Cf.newKern (T.take k)).answers.length = k from (Cf.ran_len (T.take k) Cf.newKern).trans hlk)
 have HTk := Lib.hid (Cf.ran_take T Cf.newKern k)
 have HML := Lib.hid ((Cf.Good.ran T Cf.good_new).memL)
 clear hlk HP1 HAc HFt HT Hi H0 H1 H2
 generalize hX : (Cf.ranT Cf.newKern T).answers = X at *
 generalize hY : (Cf.ranT Cf.newKern (T.take k)).answers = Y at *
 generalize hK : (Cf.ranT Cf.newKern T).kern = K at *
 generalize hK2 : (Cf.ranT Cf.newKern (T.take k)).kern = K2 at *
 clear hX hY hK hK2
 generalize hN : T.length = nT at *
 clear hN
 go_wp2_with fail
 refine (HRun.out _ (Below.refl _ _)).mono ?_
 rintro e w4 ⟨R4, r4, ⟨A4, ca4, M4, cm4, N4, cn4, S4, cs4, Q4, cq4⟩, rfl, hrd, hc4, ⟨-, hkp⟩, hb4⟩
 simp only [kcells, HLen.out] at hc4 ⊢
 have HX4 := Lib.hid hrd
 have HK4 := Lib.hid hkp.rd.mem
 have Hb4 := Lib.hid hb4
 clear hrd hkp hb4
 go_upto_region 4 with fail
 have hbx : Below w4.heap.size w4 (w4.alloc (.cells #[.slice A4 K.mods.length ca4, .slice M4 K.mem.length cm4, .slice N4 K.nodes.length cn4, .slice S4 K.pipes.length cs4, .slice Q4 K.procs.length cq4] tKern)) := (Below.refl _ _).alloc (Nat.le_refl _) _
 have HB5 := Lib.hid (Wb.new w4 tKern [.slice A4 K.mods.length ca4, .slice M4 K.mem.length cm4, .slice N4 K.nodes.length cn4, .slice S4 K.pipes.length cs4, .slice Q4 K.procs.length cq4])
 have HX5 := Lib.hid (HX4.out.below hbx)
 have HK5 := Lib.hid (RdS.below HK4.out hbx)
 have Hb5 := Lib.hid (Hb4.out.trans (hbx.mono Hb4.out.size))
 clear hbx HX4 HK4 Hb4
 generalize w4.heap.size = g4 at *
 generalize w4.alloc (.cells #[.slice A4 K.mods.length ca4, .slice M4 K.mem.length cm4, .slice N4 K.nodes.length cn4, .slice S4 K.pipes.length cs4, .slice Q4 K.procs.length cq4] tKern) = w5 at *
 go_wp2_with fail
 refine (HRunk.out _ Hb5.out).mono ?_
 rintro e w6 ⟨R6, r6, ⟨A6, ca6, M6, cm6, N6, cn6, S6, cs6, Q6, cq6⟩, rfl, hrd, -, -, hb6⟩
 simp only [kcells, HLenk.out]
 have HB6 := Lib.hid (HB5.out.below hb6 HB5.out.lt)
 have HX6 := Lib.hid (HX5.out.below hb6)
 have HK6 := Lib.hid (RdS.below HK5.out hb6)
 have HY6 := Lib.hid hrd
 have Hb6 := Lib.hid (Hb5.out.trans (hb6.mono Hb5.out.size))
 clear hrd hb6 HB5 HX5 HK5 Hb5 HRunk
 go_upto_region 5 with fail
 have hbx : Below w6.heap.size w6 (w6.alloc (.cells #[.slice A6 K2.mods.length ca6, .slice M6 K2.mem.length cm6, .slice N6 K2.nodes.length cn6, .slice S6 K2.pipes.length cs6, .slice Q6 K2.procs.length cq6] tKern)) := (Below.refl _ _).alloc (Nat.le_refl _) _
 have HB7 := Lib.hid (HB6.out.below hbx HB6.out.lt)
 have HX7 := Lib.hid (HX6.out.below hbx)
 have HK7 := Lib.hid (RdS.below HK6.out hbx)
 have HY7 := Lib.hid (HY6.out.below hbx)
 have Hb7 := Lib.hid (Hb6.out.trans (hbx.mono Hb6.out.size))
 clear hbx HB6 HX6 HK6 HY6 Hb6
 generalize w6.alloc (.cells #[.slice A6 K2.mods.length ca6, .slice M6 K2.mem.length cm6, .slice N6 K2.nodes.length cn6, .slice S6 K2.pipes.length cs6, .slice Q6 K2.procs.length cq6] tKern) = w7 at *
 go_wp2_with fail
 refine (HRun.out _ Hb7.out).mono ?_
 rintro e w8 ⟨R8, r8, ⟨A8, ca8, M8, cm8, N8, cn8, S8, cs8, Q8, cq8⟩, rfl, hrd, -, ⟨-, hkp⟩, hb8⟩
 simp only [kcells, HLen.out]
 have HB8 := Lib.hid (HB7.out.below hb8 HB7.out.lt)
 have HX8 := Lib.hid (HX7.out.below hb8)
 have HK8 := Lib.hid (RdS.below HK7.out hb8)
 have HY8 := Lib.hid (HY7.out.below hb8)
 have HZ8 := Lib.hid hrd
 have HM8 := Lib.hid hkp.rd.mem
 have Hb8 := Lib.hid (Hb7.out.trans (hb8.mono Hb7.out.size))
 clear hrd hkp hb8 HB7 HX7 HK7 HY7 Hb7 HRun
 go_upto_region 6 with fail
 have hbx : Below w8.heap.size w8 (w8.alloc (.cells #[.slice A8 K.mods.length ca8, .slice M8 K.mem.length cm8, .slice N8 K.nodes.length cn8, .slice S8 K.pipes.length cs8, .slice Q8 K.procs.length cq8] tKern)) := (Below.refl _ _).alloc (Nat.le_refl _) _
 have HB9 := Lib.hid (HB8.out.below hbx HB8.out.lt)
 have HC9 := Lib.hid (Wb.new w8 tKern [.slice A8 K.mods.length ca8, .slice M8 K.mem.length cm8, .slice N8 K.nodes.length cn8, .slice S8 K.pipes.length cs8, .slice Q8 K.procs.length cq8])
 have HX9 := Lib.hid (HX8.out.below hbx)
 have HK9 := Lib.hid (RdS.below HK8.out hbx)
 have HY9 := Lib.hid (HY8.out.below hbx)
 have HZ9 := Lib.hid (HZ8.out.below hbx)
 have HM9 := Lib.hid (RdS.below HM8.out hbx)
 have Hb9 := Lib.hid (Hbw3.out.trans ((Hb8.out.trans (hbx.mono Hb8.out.size)).mono Hbw3.out.size))
 clear hbx HB8 HX8 HK8 HY8 HZ8 HM8 Hb8 Hbw3
 generalize w8.heap.size = g8 at *
 generalize w8.alloc (.cells #[.slice A8 K.mods.length ca8, .slice M8 K.mem.length cm8, .slice N8 K.nodes.length cn8, .slice S8 K.pipes.length cs8, .slice Q8 K.procs.length cq8] tKern) = w9 at *
 have zb := HB9.out
 have z0 := zb.cell 0
 have z1 := zb.cell 1
 have z2 := zb.cell 2
 have z3 := zb.cell 3
 have z4 := zb.cell 4
 simp only [List.getElem?_cons_zero, List.getElem?_cons_succ] at z0 z1 z2 z3 z4
 have zl := zb.lt
 have yb := HC9.out
 have y0 := yb.cell 0
 have y1 := yb.cell 1
 have y2 := yb.cell 2
 have y3 := yb.cell 3
 have y4 := yb.cell 4
 simp only [List.getElem?_cons_zero, List.getElem?_cons_succ] at y0 y1 y2 y3 y4
 have yl := yb.lt
 have hlt : (X.take k).length = k := by rw [List.length_take, HLen.out]; omega
 have HE1 := Lib.hid (equalA_same (X.take k) R4 R6 r4 r6 w9 (RdS.take HX9.out k) (by rw [HTk.out]; exact HY9.out) (by rw [hlt]; unfold maxLen; omega))
 rw [hlt] at HE1
 have HE2 := Lib.hid (fun W (h : Below w9.heap.size w9 W) => equalA_same X R4 R8 r4 r8 W (HX9.out.below h) (HZ9.out.below h) (by rw [HLen.out]; unfold maxLen; omega))
 rw [HLen.out] at HE2
 have HE3 := Lib.hid (fun W (h : Below w9.heap.size w9 W) => equalI_same K.mem M4 M8 cm4 cm8 W (RdS.below HK9.out h) (RdS.below HM9.out h) (by rw [HML.out]; unfold maxLen; omega))
 clear hlt HX9 HY9 HZ9 HK9 HM9 HTk HLen HLenk HML
 go_wp2_with fail
 refine HE1.out.mono ?_
 rintro e w' ⟨rfl, m1, rfl⟩
 go_wp2_with fail
 refine (HE2.out _ (below_drewN (Below.refl _ _) _)).mono ?_
 rintro e w' ⟨rfl, m2, rfl⟩
 go_wp2_with fail
 refine (HE3.out _ (below_drewN (Below.refl _ _) _)).mono ?_
 rintro e w' ⟨rfl, m3, rfl⟩
 go_wp2
 go_ret
 exact ⟨rfl, below_drewN Hb9.out _⟩
end Go.Proofs.YtnnhhbjbdmgpiaaGreatDoor
