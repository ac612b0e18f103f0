/- Texts of the proofs: ActsR, InstK, QuiE, ActsK, GoodK, QuieK. -/
import Derived.Test.YtnnhhbjbdmgpiaaGreatDoorJ32
import Derived.Test.YtnnhhbjbdmgpiaaGreatDoorJ36
import Derived.Test.YtnnhhbjbdmgpiaaGreatDoorJ22
import Derived.Test.YtnnhhbjbdmgpiaaGreatDoorJ20
import Derived.Test.YtnnhhbjbdmgpiaaGreatDoorJ24
import Derived.Test.YtnnhhbjbdmgpiaaGreatDoorJ28
import Derived.Test.YtnnhhbjbdmgpiaaGreatDoorJ02
import Derived.BigRegion
import Derived.BigQuiet
import Derived.Test.YtnnhhbjbdmgpiaaGreatDoorJ05
import Derived.Test.YtnnhhbjbdmgpiaaGreatDoorJ27
set_option linter.unusedSimpArgs false
set_option linter.unusedVariables false
/- Walks of the laws' own helpers: an action of a raw thing, the region that draws. -/
namespace Go.Proofs.YtnnhhbjbdmgpiaaGreatDoor
set_option maxRecDepth 100000
open Go.RowKit
abbrev tRaw : TypeId := 45
theorem op_call2 {P : Program} {o : Oper} {a : Act} {w : World} {K : Act → World → Prop} {Q : Exit → Act → World → Prop} {R : Ending → World → Prop}
  (f : FuncId) (x y : Operand) (tys : Array TypeId) (ho : o.op = .call { callee := .value (.func f), args := #[x, y], argTypes := tys }) (v u : Value) (hv : a.eval x = v) (hu : a.eval y = u)
  (eg : ∀ args w, (callFunc f args).run P w = .ok (.enter f args) w) (hc : Calls P f #[v, u] w R) (h : ∀ e w', R e w' → ∃ v, e = .returned v ∧ K (a.put o.dst v) w') : Oper.wp P o a w K Q := by
 have hex : (execOp a.eval o).run P w = .ok (.enter f #[v, u]) w := by
  have hfn : a.eval (.func f) = .func (.func f) #[] #[] := rfl
  simp [execOp, ho, resolve, invoke, hv, hu, eg, hfn, Deferred.ofValue]
 unfold Oper.wp
 rw [hex]
 refine hc.mono fun e w' hr => ?_
 obtain ⟨v, rfl, hk⟩ := h e w' hr
 exact hk
theorem ac_field (o : Oper) (a : Act) (w : World) (h j : Nat) (x : Operand) (hj : j < 4) (ho : o.op = .fieldAddr tRaw x j) (ev : a.eval x = .pointer (some ⟨h, 0, none⟩)) (_hb : (w.heap[h]?).isSome = true) : (execOp a.eval o).run Tryz.prog w = .ok (.value (.pointer (some ⟨h, j, none⟩))) w := by
 obtain rfl | rfl | rfl | rfl : j = 0 ∨ j = 1 ∨ j = 2 ∨ j = 3 := by omega
 all_goals
  simp [execOp, ho, ev]
  go_simp
theorem ac_load (o : Oper) (a : Act) (w : World) (p : Addr) (x : Operand) (v : Int) (ho : o.op = .load tInt x) (ev : a.eval x = .pointer (some p)) (hc : w.cell? p = some (.int .i64 v)) : (execOp a.eval o).run Tryz.prog w = .ok (.value (.int .i64 v)) w := by
 simp [execOp, ho, ev]
 go_simp
theorem ac_loads (o : Oper) (a : Act) (w : World) (p : Addr) (x : Operand) (v : Value) (ho : o.op = .load tStr x) (ev : a.eval x = .pointer (some p)) (hc : w.cell? p = some v) : (execOp a.eval o).run Tryz.prog w = .ok (.value v) w := by
 simp [execOp, ho, ev]
 go_simp
def acNames : List Value := [.string ⟨#[102]⟩, .string ⟨#[103]⟩, .string ⟨#[100, 101, 118]⟩]
theorem ac_names (o : Oper) (a : Act) (w : World) (ho : o.op = .buildSlice 25 3 #[(0, .const (.string ⟨#[102]⟩)), (1, .const (.string ⟨#[103]⟩)), (2, .const (.string ⟨#[100, 101, 118]⟩))]) : (execOp a.eval o).run Tryz.prog w = .ok (.value (.slice (some ⟨w.heap.size, 0, none⟩) 3 3)) (w.alloc (.cells acNames.toArray tStr)) := by
 simp [execOp, ho, acNames]
 go_simp
theorem ac_index (o : Oper) (a : Act) (w : World) (x y : Operand) (g z : Nat) (hz : z < 3) (ho : o.op = .indexAddr 25 x y) (ex : a.eval x = .slice (some ⟨g, 0, none⟩) 3 3) (ey : a.eval y = .int .i64 z) : (execOp a.eval o).run Tryz.prog w = .ok (.value (.pointer (some ⟨g, z, none⟩))) w := by
 obtain rfl | rfl | rfl : z = 0 ∨ z = 1 ∨ z = 2 := by omega
 all_goals
  simp [execOp, ho, ex, ey]
  go_simp
theorem ac_build (o : Oper) (a : Act) (w : World) (x y z : Operand) (p n : Int) (s : ByteArray) (ho : o.op = .build 30 #[(1, x), (2, y), (4, z)]) (ex : a.eval x = .int .i64 p) (ey : a.eval y = .int .i64 n) (ez : a.eval z = .string s) : (execOp a.eval o).run Tryz.prog w = .ok (.value (.agg #[.int .i64 0, .int .i64 p, .int .i64 n, .int .i64 0, .string s, .string ⟨#[]⟩])) w := by
 simp [execOp, ho, ex, ey, ez]
 go_simp
def acZ : List Value := [.int .i64 0, .int .i64 0, .int .i64 0, .int .i64 0, .string ⟨#[]⟩, .string ⟨#[]⟩]
theorem ac_box (o : Oper) (a : Act) (w : World) (ho : o.op = .alloc 30) : (execOp a.eval o).run Tryz.prog w = .ok (.value (.pointer (some ⟨w.heap.size, 0, none⟩))) (w.alloc (.cells acZ.toArray tAct)) := by
 simp [execOp, ho, acZ]
 go_simp
theorem six_of {l : List Value} (h : l.length = 6) : ∃ a b c d e f, l = [a, b, c, d, e, f] := by
 match l, h with
 | [a, b, c, d, e, f], _ => exact ⟨a, b, c, d, e, f, rfl⟩
def set6 (w : World) (g : Nat) (v0 v1 v2 v3 v4 v5 : Value) : World := (((((w.setCell ⟨g, 0, none⟩ v0).setCell ⟨g, 1, none⟩ v1).setCell ⟨g, 2, none⟩ v2).setCell ⟨g, 3, none⟩ v3).setCell ⟨g, 4, none⟩ v4).setCell ⟨g, 5, none⟩ v5
theorem ac_put (o : Oper) (a : Act) (w : World) (g : Nat) (x y : Operand) (p n : Int) (s : ByteArray) (cs : List Value) (hl : cs.length = 6) (ho : o.op = .store 30 x y) (ex : a.eval x = .pointer (some ⟨g, 0, none⟩)) (ey : a.eval y = .agg #[.int .i64 0, .int .i64 p, .int .i64 n, .int .i64 0, .string s, .string ⟨#[]⟩]) (hg : Wb w g tAct cs) :
  (execOp a.eval o).run Tryz.prog w = .ok .skip (set6 w g (.int .i64 0) (.int .i64 p) (.int .i64 n) (.int .i64 0) (.string s) (.string ⟨#[]⟩)) := by
 obtain ⟨c0, c1, c2, c3, c4, c5, rfl⟩ := six_of hl
 have q0 := hg.cell 0
 have q1 := hg.cell 1
 have q2 := hg.cell 2
 have q3 := hg.cell 3
 have q4 := hg.cell 4
 have q5 := hg.cell 5
 have f0 := hg.open_ 0
 have f1 := hg.open_ 1
 have f2 := hg.open_ 2
 have f3 := hg.open_ 3
 have f4 := hg.open_ 4
 have f5 := hg.open_ 5
 simp only [List.getElem?_cons_zero, List.getElem?_cons_succ] at q0 q1 q2 q3 q4 q5
 clear hg
 simp [execOp, ho, ex, ey, set6]
 go_simp
theorem Wb.set6 {w : World} {g : Nat} {cs : List Value} (h : Wb w g tAct cs) (hl : cs.length = 6) (v0 v1 v2 v3 v4 v5 : Value) : Wb (set6 w g v0 v1 v2 v3 v4 v5) g tAct [v0, v1, v2, v3, v4, v5] := by
 obtain ⟨c0, c1, c2, c3, c4, c5, rfl⟩ := six_of hl
 exact (((((h.put 0 v0).put 1 v1).put 2 v2).put 3 v3).put 4 v4).put 5 v5
theorem Wb.off6 {w : World} {g g' : Nat} {t : TypeId} {cs : List Value} (h : Wb w g' t cs) (hne : g' ≠ g) (v0 v1 v2 v3 v4 v5 : Value) : Wb (Go.Proofs.YtnnhhbjbdmgpiaaGreatDoor.set6 w g v0 v1 v2 v3 v4 v5) g' t cs :=
 (((((h.off_ (p := ⟨g, 0, none⟩) hne v0).off_ (p := ⟨g, 1, none⟩) hne v1).off_ (p := ⟨g, 2, none⟩) hne v2).off_ (p := ⟨g, 3, none⟩) hne v3).off_ (p := ⟨g, 4, none⟩) hne v4).off_ (p := ⟨g, 5, none⟩) hne v5
theorem below_set6 {B g : Nat} {w w' : World} (h : Below B w w') (hB : B ≤ g) (v0 v1 v2 v3 v4 v5 : Value) : Below B w (set6 w' g v0 v1 v2 v3 v4 v5) :=
 (((((h.setCell (p := ⟨g, 0, none⟩) hB v0).setCell (p := ⟨g, 1, none⟩) hB v1).setCell (p := ⟨g, 2, none⟩) hB v2).setCell (p := ⟨g, 3, none⟩) hB v3).setCell (p := ⟨g, 4, none⟩) hB v4).setCell (p := ⟨g, 5, none⟩) hB v5
def AcR (B br : Nat) (ra rb rc pa pb : Int) (z : Nat) (nm : List UInt8) (i : Nat) (v : Value) (w : World) : Prop := match i with
 | 0 => v = .pointer (some ⟨br, 1, none⟩)
 | 1 => v = .int .i64 ra
 | 2 => v = .int .i64 pa
 | 3 => v = .pointer (some ⟨br, 2, none⟩)
 | 4 => v = .int .i64 rb
 | 5 => v = .int .i64 pb
 | 6 => ∃ g, v = .slice (some ⟨g, 0, none⟩) 3 3 ∧ Wb w g tStr acNames
 | 7 => v = .pointer (some ⟨br, 3, none⟩)
 | 8 => v = .int .i64 rc
 | 9 => v = .int .i64 z
 | 10 => ∃ g, v = .pointer (some ⟨g, z, none⟩) ∧ Wb w g tStr acNames
 | 11 => v = .string ⟨nm.toArray⟩
 | 12 => v = .agg #[.int .i64 0, .int .i64 pa, .int .i64 pb, .int .i64 0, .string ⟨nm.toArray⟩, .string ⟨#[]⟩]
 | 13 => ∃ g, v = .pointer (some ⟨g, 0, none⟩) ∧ (∃ cs, cs.length = 6 ∧ Wb w g tAct cs) ∧ B ≤ g
 | 14 => ∃ g, v = .pointer (some ⟨g, 0, none⟩) ∧ Wb w g tAct [.int .i64 0, .int .i64 pa, .int .i64 pb, .int .i64 0, .string ⟨nm.toArray⟩, .string ⟨#[]⟩] ∧ B ≤ g
 | _ => True
section
variable {B br : Nat} {ra rb rc pa pb : Int} {z : Nat} {nm : List UInt8} {i : Nat} {v : Value} {w w' : World}
theorem AcR.keep (h0 : AcR B br ra rb rc pa pb z nm i v w) (hb : Below w.heap.size w w') : AcR B br ra rb rc pa pb z nm i v w' := by
 match i, h0 with
 | 0, h | 1, h | 2, h | 3, h | 4, h | 5, h | 7, h | 8, h | 9, h | 11, h | 12, h => exact h
 | 6, ⟨g, h1, h2⟩ => exact ⟨g, h1, h2.below hb h2.lt⟩
 | 10, ⟨g, h1, h2⟩ => exact ⟨g, h1, h2.below hb h2.lt⟩
 | 13, ⟨g, h1, ⟨cs, h2, h3⟩, h4⟩ => exact ⟨g, h1, ⟨cs, h2, h3.below hb h3.lt⟩, h4⟩
 | 14, ⟨g, h1, h3, h4⟩ => exact ⟨g, h1, h3.below hb h3.lt, h4⟩
 | _ + 15, _ => exact trivial
theorem AcR.kept (h0 : AcR B br ra rb rc pa pb z nm i v w) (hi : i ≠ 14) {g : Nat} {cs : List Value} (hg : Wb w g tAct cs) (hl : cs.length = 6) (v0 v1 v2 v3 v4 v5 : Value) : AcR B br ra rb rc pa pb z nm i v (set6 w g v0 v1 v2 v3 v4 v5) := by
 match i, h0, hi with
 | 0, h, _ | 1, h, _ | 2, h, _ | 3, h, _ | 4, h, _ | 5, h, _ | 7, h, _ | 8, h, _ | 9, h, _ | 11, h, _ | 12, h, _ =>
   simp only [AcR] at h ⊢
   exact h
 | 6, ⟨g', h1, h2⟩, _ => exact ⟨g', h1, h2.off6 (h2.other hg (by decide)) _ _ _ _ _ _⟩
 | 10, ⟨g', h1, h2⟩, _ => exact ⟨g', h1, h2.off6 (h2.other hg (by decide)) _ _ _ _ _ _⟩
 | 13, ⟨g', h1, ⟨cs', h2, h3⟩, h4⟩, _ =>
   by_cases he : g' = g
   ·subst he
    exact ⟨g', h1, ⟨_, rfl, hg.set6 hl _ _ _ _ _ _⟩, h4⟩
   ·exact ⟨g', h1, ⟨cs', h2, h3.off6 he _ _ _ _ _ _⟩, h4⟩
 | 14, _, hi => exact absurd rfl hi
 | _ + 15, _, _ => exact trivial
end
def acSlot (i : Nat) : Nat := if i ≤ 12 then i + 25 else 8
def AcCut (wb : World) (pa pb : Int) (nm : List UInt8) (x : Value) (wx : World) : Prop := ∃ g, x = .pointer (some ⟨g, 0, none⟩) ∧ wb.heap.size ≤ g ∧ Wb wx g tAct [.int .i64 0, .int .i64 pa, .int .i64 pb, .int .i64 0, .string ⟨nm.toArray⟩, .string ⟨#[]⟩] ∧ Below wb.heap.size wb wx
end Go.Proofs.YtnnhhbjbdmgpiaaGreatDoor
/- Walks of the laws' own helpers: the actions that install a module of raw things. -/
namespace Go.Proofs.YtnnhhbjbdmgpiaaGreatDoor
set_option maxRecDepth 100000
open Go.RowKit
def instActs (s name : List UInt8) (n : Int) : List Cf.Actn := [⟨1, 0, 0, 0, [], s⟩, ⟨3, 0, n, 0, name, []⟩]
def InstPost (name : List UInt8) (n : Int) (w : World) (e : Ending) (w' : World) : Prop :=
 ∃ (A : Option Addr) (s : List UInt8) (c : List Cf.Ins) (d : List Int), e = .returned (.slice A 2 2) ∧ Cf.decT s = ⟨⟨name, c, d⟩, 0⟩ ∧ s.length ≤ 941 ∧ w'.ownsRow w.heap.size tAct 6 (.slice A 2 2) 2 ((instActs s name n).flatMap encAc) ∧ Below w.heap.size w w'
theorem mod_fine {name : List UInt8} {c : List Cf.Ins} {d : List Int} (hn : Cf.nameB name = true) (hc : Cf.safeT c = 0) (hd : d.length ≤ 64) (hw : ∀ v ∈ d, 0 ≤ v ∧ v ≤ 65535) : Cf.modT ⟨name, c, d⟩ = 0 := by
 unfold Cf.modT
 rw [if_pos hn, if_pos hd, if_pos ?_]
 ·exact hc
 ·rw [List.all_eq_true]
  intro v hv
  have := hw v hv
  simp [Cf.wordB, Cf.inB, this]
set_option maxRecDepth 100000 in
set_option maxHeartbeats 1000000 in
theorem inst_any (l : List Cf.Ins) (hf : ∀ x ∈ l, FitI x) (A0 : Option Addr) (c0 : Nat) (kr ra rb rc : Int) (f1 : Fit ra) (f2 : Fit rb) (name : List UInt8) (n : Int) (w : World) (hR : Codes w A0 l) (hm : l.length ≤ maxLen) (hn : Cf.nameB name = true) (hnl : name.length ≤ 6) (hL : TabL w) (hF : TabF w) :
  Calls Tryz.prog 27 #[.slice A0 l.length c0, .agg #[.int .i64 kr, .int .i64 ra, .int .i64 rb, .int .i64 rc], .string ⟨name.toArray⟩, .int .i64 n] w (InstPost name n w) := by
 have HL := Lib.hid hL
 have HF := Lib.hid hF
 have HN := Lib.hid hn
 have hb0 : Below w.heap.size w (w.alloc (.cells #[.int .i64 kr, .int .i64 ra, .int .i64 rb, .int .i64 rc] 45)) := (Below.refl _ _).alloc (Nat.le_refl _) _
 have hbox := Wb.new w 45 [.int .i64 kr, .int .i64 ra, .int .i64 rb, .int .i64 rc]
 have HP := Lib.hid (keepPlain_any l hf A0 c0 _ (hR.below hb0) hm)
 have P2 := Lib.hid (fun w => mem_all kr ra rb rc 20 w f1 f2 (by omega))
 clear hL hF hR hn
 go_enter Tryz.func27, Tryz.ntmps27
 go_wp2_with fail
 refine HP.out.mono ?_
 rintro e w1 ⟨A, cp, pl, rfl, hpl, hpf, hpp, hpc, hb1⟩
 have hbw1 := hb0.trans (hb1.mono (by simp))
 have hle := Cf.place_le pl pl.length
 have HLE := Lib.hid (show (Cf.madeL pl).length = Cf.place pl pl.length by rw [← madeK_all, madeK_len])
 have HMT := Lib.hid (show Cf.madeT pl = ⟨Cf.madeL pl, 0⟩ by unfold Cf.madeT; rw [if_pos hpf, if_pos hpp, if_pos (by rw [HLE.out]; omega)])
 have HMS := Lib.hid (Cf.made_safe hpf hpp (by rw [HLE.out]; omega))
 have HMk := Lib.hid (make_any pl A cp w1 hpc (HL.out.below hbw1) (HF.out.below hbw1) (by unfold maxLen; omega))
 rw [HMT.out] at HMk
 have Hbox1 := Lib.hid (hbox.below hb1 (by simp))
 clear hpf hpp hpc HMT HP hb0 hb1 hbox
 go_wp2_with fail
 refine HMk.out.mono ?_
 rintro e w2 ⟨X, cx, rfl, hX, hb2⟩
 dsimp only at hX ⊢
 have hbw2 := hbw1.trans (hb2.mono hbw1.size)
 have hml : (Cf.madeL pl).length ≤ 93 := by rw [HLE.out]; omega
 have hbox2 := Hbox1.out.below hb2 Hbox1.out.lt
 have HX := Lib.hid hX
 have Hbw2 := Lib.hid hbw2
 generalize Cf.madeL pl = c at *
 clear HMk hb2 Hbox1 hbw1 hX hbw2 HLE
 have q0 := hbox2.cell 0
 have q1 := hbox2.cell 1
 have q2 := hbox2.cell 2
 have q3 := hbox2.cell 3
 simp only [List.getElem?_cons_zero, List.getElem?_cons_succ] at q0 q1 q2 q3
 have hz2 := hbox2.lt
 clear hbox2
 go_wp2_with fail
 refine (P2.out _).mono ?_
 rintro e w3 ⟨B, cb, d, rfl, hdl, hdw, hrow, hb3⟩
 have hbw3 := Hbw2.out.trans (hb3.mono Hbw2.out.size)
 have HX3 := Lib.hid (HX.out.below hb3)
 have hmod := mod_fine HN.out HMS.out (show d.length ≤ 64 by omega) hdw
 have HEn := Lib.hid (encode_any name c d X B cx cb w3 HX3.out (by rw [← hdl] at hrow; exact hrow.ints) (HL.out.below hbw3) (HF.out.below hbw3) (by unfold maxLen; omega) (by unfold maxLen; omega) (by unfold maxLen; omega))
 rw [Cf.encT, if_pos hmod, hmod, hdl] at HEn
 have HDe := Lib.hid (Cf.dec_enc hmod)
 have HEL := Lib.hid (Cf.enc_len hmod)
 have Hbw3 := Lib.hid hbw3
 clear hb3 hrow hdl hdw hbw3 q0 q1 q2 q3 hz2 P2 HX HMS hmod Hbw2 HX3 HN
 generalize Cf.encL ⟨name, c, d⟩ = en at *
 go_wp2_with fail
 refine HEn.out.mono ?_
 rintro e w4 ⟨rfl, hb4⟩
 have Hbw4 := Lib.hid (Hbw3.out.trans (hb4.mono Hbw3.out.size))
 clear HEn hb4 Hbw3
 go_wp2
 go_ret
 exact ⟨_, en, c, d, rfl, HDe.out, HEL.out.2, own_lit w4 w.heap.size _ _ (instActs en name n) rfl Hbw4.out.size (by simp [instActs]), Hbw4.out.alloc Hbw4.out.size _⟩
end Go.Proofs.YtnnhhbjbdmgpiaaGreatDoor
/- Walks of the law TopQuiet: its first region, which draws its order. -/
namespace Go.Proofs.YtnnhhbjbdmgpiaaGreatDoor
set_option maxRecDepth 100000
open Go.RowKit
theorem op_call1 {P : Program} {o : Oper} {a : Act} {w : World} {K : Act → World → Prop} {Q : Exit → Act → World → Prop} {R : Ending → World → Prop}
  (f : FuncId) (x : Operand) (tys : Array TypeId) (ho : o.op = .call { callee := .value (.func f), args := #[x], argTypes := tys }) (v : Value) (hv : a.eval x = v)
  (eg : ∀ args w, (callFunc f args).run P w = .ok (.enter f args) w) (hc : Calls P f #[v] w R) (h : ∀ e w', R e w' → ∃ v, e = .returned v ∧ K (a.put o.dst v) w') : Oper.wp P o a w K Q := by
 have hex : (execOp a.eval o).run P w = .ok (.enter f #[v]) w := by
  have hfn : a.eval (.func f) = .func (.func f) #[] #[] := rfl
  simp [execOp, ho, resolve, invoke, hv, eg, hfn, Deferred.ofValue]
 unfold Oper.wp
 rw [hex]
 refine hc.mono fun e w' hr => ?_
 obtain ⟨v, rfl, hk⟩ := h e w' hr
 exact hk
theorem op_call4 {P : Program} {o : Oper} {a : Act} {w : World} {K : Act → World → Prop} {Q : Exit → Act → World → Prop} {R : Ending → World → Prop}
  (f : FuncId) (x y z t : Operand) (tys : Array TypeId) (ho : o.op = .call { callee := .value (.func f), args := #[x, y, z, t], argTypes := tys }) (v u s r : Value) (hv : a.eval x = v) (hu : a.eval y = u) (hs : a.eval z = s) (hr : a.eval t = r)
  (eg : ∀ args w, (callFunc f args).run P w = .ok (.enter f args) w) (hc : Calls P f #[v, u, s, r] w R) (h : ∀ e w', R e w' → ∃ v, e = .returned v ∧ K (a.put o.dst v) w') : Oper.wp P o a w K Q := by
 have hex : (execOp a.eval o).run P w = .ok (.enter f #[v, u, s, r]) w := by
  have hfn : a.eval (.func f) = .func (.func f) #[] #[] := rfl
  simp [execOp, ho, resolve, invoke, hv, hu, hs, hr, eg, hfn, Deferred.ofValue]
 unfold Oper.wp
 rw [hex]
 refine hc.mono fun e w' hr => ?_
 obtain ⟨v, rfl, hk⟩ := h e w' hr
 exact hk
theorem qu_move (o : Oper) (a : Act) (w : World) (x : Operand) (v : Value) (ho : o.op = .move x) (ev : a.eval x = v) : (execOp a.eval o).run Tryz.prog w = .ok (.value v) w := by
 simp [execOp, ho, ev]
 try go_simp
theorem qu_assign (o : Oper) (a : Act) (w : World) (x : Operand) (v : Value) (ho : o.op = .assign x) (ev : a.eval x = v) : (execOp a.eval o).run Tryz.prog w = .ok (.value v) w := by
 simp [execOp, ho, ev]
 try go_simp
theorem qu_load (o : Oper) (a : Act) (w : World) (g : Nat) (x : Operand) (k p n m : Int) (ho : o.op = .load tRaw x) (ev : a.eval x = .pointer (some ⟨g, 0, none⟩)) (hg : Wb w g tRaw [.int .i64 k, .int .i64 p, .int .i64 n, .int .i64 m]) : (execOp a.eval o).run Tryz.prog w = .ok (.value (.agg #[.int .i64 k, .int .i64 p, .int .i64 n, .int .i64 m])) w := by
 have q0 := hg.cell 0
 have q1 := hg.cell 1
 have q2 := hg.cell 2
 have q3 := hg.cell 3
 simp only [List.getElem?_cons_zero, List.getElem?_cons_succ] at q0 q1 q2 q3
 have ql := hg.lt
 clear hg
 simp [execOp, ho, ev]
 go_simp
theorem qu_open (o : Oper) (a : Act) (w : World) (ho : o.op = .build 30 #[(0, .const (.int .i64 5)), (4, .const (.string ⟨#[111, 110, 101]⟩))]) : (execOp a.eval o).run Tryz.prog w = .ok (.value (.agg #[.int .i64 5, .int .i64 0, .int .i64 0, .int .i64 0, .string ⟨#[111, 110, 101]⟩, .string ⟨#[]⟩])) w := by
 simp [execOp, ho]
 go_simp
theorem qu_lit1 (o : Oper) (a : Act) (w : World) (x : Operand) (k p n m : Int) (s d : ByteArray) (ho : o.op = .buildSlice 39 1 #[(0, x)]) (ev : a.eval x = .agg #[.int .i64 k, .int .i64 p, .int .i64 n, .int .i64 m, .string s, .string d]) : (execOp a.eval o).run Tryz.prog w = .ok (.value (.slice (some ⟨w.heap.size, 0, none⟩) 1 1)) (w.alloc (.cells #[.int .i64 k, .int .i64 p, .int .i64 n, .int .i64 m, .string s, .string d] tAct)) := by
 simp [execOp, ho, ev]
 go_simp
theorem qu_lit3 (o : Oper) (a : Act) (w : World) (x y z : Operand) (A1 A2 A3 : Option Addr) (n1 n2 n3 c1 c2 c3 : Nat) (ho : o.op = .buildSlice 93 3 #[(0, x), (1, y), (2, z)]) (ex : a.eval x = .slice A1 n1 c1) (ey : a.eval y = .slice A2 n2 c2) (ez : a.eval z = .slice A3 n3 c3) : (execOp a.eval o).run Tryz.prog w = .ok (.value (.slice (some ⟨w.heap.size, 0, none⟩) 3 3)) (w.alloc (.cells #[.slice A1 n1 c1, .slice A2 n2 c2, .slice A3 n3 c3] 39)) := by
 simp [execOp, ho, ex, ey, ez]
 go_simp
theorem row_three (w : World) (t : TypeId) (x y z : SV) : RdS 1 encS (w.alloc (.cells #[.slice x.A x.l.length x.c, .slice y.A y.l.length y.c, .slice z.A z.l.length z.c] t)) (some ⟨w.heap.size, 0, none⟩) [x, y, z] :=
 .inr ⟨w.heap.size, 0, rfl, by simp, fun j b hb i u hu => by
  have hW := Wb.new w t [.slice x.A x.l.length x.c, .slice y.A y.l.length y.c, .slice z.A z.l.length z.c]
  match j, hb with
  | 0, hb =>
    simp at hb
    subst hb
    cases i with
    | succ i => simp [encS] at hu
    | zero => exact (hW.cell 0).trans hu
  | 1, hb =>
    simp at hb
    subst hb
    cases i with
    | succ i => simp [encS] at hu
    | zero => exact (hW.cell 1).trans hu
  | 2, hb =>
    simp at hb
    subst hb
    cases i with
    | succ i => simp [encS] at hu
    | zero => exact (hW.cell 2).trans hu
  | j + 3, hb => simp at hb⟩
def openOne : Cf.Actn := ⟨5, 0, 0, 0, Cf.oneN, []⟩
def QuI (name : List UInt8) (n : Int) (v : Value) (w : World) : Prop := ∃ (A : Option Addr) (s : List UInt8) (c : List Cf.Ins) (d : List Int), v = .slice A 2 2 ∧ Cf.decT s = ⟨⟨name, c, d⟩, 0⟩ ∧ s.length ≤ 941 ∧ Acts w A (instActs s name n)
def QuH (v : Value) (w : World) : Prop := ∃ (A : Option Addr) (k : Nat) (s1 s2 : List UInt8) (c1 c2 : List Cf.Ins) (d1 d2 : List Int), v = .slice A 5 k ∧ Cf.decT s1 = ⟨⟨Cf.oneN, c1, d1⟩, 0⟩ ∧ Cf.decT s2 = ⟨⟨Cf.twoN, c2, d2⟩, 0⟩ ∧ s1.length ≤ 941 ∧ s2.length ≤ 941 ∧ Acts w A (Cf.headActs s1 s2)
def QuT (v : Value) (w : World) : Prop := ∃ (A A1 A2 A3 : Option Addr) (s1 s2 : List UInt8) (c1 c2 : List Cf.Ins) (d1 d2 : List Int), v = .slice A 3 3 ∧ Cf.decT s1 = ⟨⟨Cf.oneN, c1, d1⟩, 0⟩ ∧ Cf.decT s2 = ⟨⟨Cf.twoN, c2, d2⟩, 0⟩ ∧ s1.length ≤ 941 ∧ s2.length ≤ 941 ∧ RdS 1 encS w A [⟨A1, 2, instActs s1 Cf.oneN 0⟩, ⟨A2, 2, instActs s2 Cf.twoN 1⟩, ⟨A3, 1, [openOne]⟩] ∧ Acts w A1 (instActs s1 Cf.oneN 0) ∧ Acts w A2 (instActs s2 Cf.twoN 1) ∧ Acts w A3 [openOne]
def QuR (m n r : Value) (i : Nat) (v : Value) (w : World) : Prop := match i with
 | 0 => v = m
 | 1 => v = r
 | 2 => QuI Cf.oneN 0 v w
 | 3 => v = n
 | 4 => v = r
 | 5 => QuI Cf.twoN 1 v w
 | 6 => v = .agg (encAc openOne).toArray
 | 7 => ∃ A, v = .slice A 1 1 ∧ Acts w A [openOne]
 | 8 => QuT v w
 | 9 => QuH v w
 | 10 => QuH v w
 | _ => True
theorem QuI.keep {name : List UInt8} {n : Int} {v : Value} {w w' : World} (h : QuI name n v w) (hb : Below w.heap.size w w') : QuI name n v w' := by
 obtain ⟨A, s, c, d, h1, h2, h3, h4⟩ := h
 exact ⟨A, s, c, d, h1, h2, h3, h4.below hb⟩
theorem QuH.keep {v : Value} {w w' : World} (h : QuH v w) (hb : Below w.heap.size w w') : QuH v w' := by
 obtain ⟨A, k, s1, s2, c1, c2, d1, d2, h1, h2, h3, h4, h5, h6⟩ := h
 exact ⟨A, k, s1, s2, c1, c2, d1, d2, h1, h2, h3, h4, h5, h6.below hb⟩
theorem QuT.keep {v : Value} {w w' : World} (h : QuT v w) (hb : Below w.heap.size w w') : QuT v w' := by
 obtain ⟨A, A1, A2, A3, s1, s2, c1, c2, d1, d2, h1, h2, h3, h4, h5, h6, h7, h8, h9⟩ := h
 exact ⟨A, A1, A2, A3, s1, s2, c1, c2, d1, d2, h1, h2, h3, h4, h5, h6.below hb, h7.below hb, h8.below hb, h9.below hb⟩
theorem QuR.keep {m n r : Value} {i : Nat} {v : Value} {w w' : World} (h0 : QuR m n r i v w) (hb : Below w.heap.size w w') : QuR m n r i v w' := by
 match i, h0 with
 | 0, h | 1, h | 3, h | 4, h | 6, h => exact h
 | 2, h => exact QuI.keep h hb
 | 5, h => exact QuI.keep h hb
 | 7, ⟨A, h1, h2⟩ => exact ⟨A, h1, h2.below hb⟩
 | 8, h => exact QuT.keep h hb
 | 9, h => exact QuH.keep h hb
 | 10, h => exact QuH.keep h hb
 | _ + 11, _ => exact trivial
def quSlot (i : Nat) : Nat := if i ≤ 9 then i + 24 else 9
end Go.Proofs.YtnnhhbjbdmgpiaaGreatDoor
/- Walks of the laws' own helpers: actions of raw things. -/
namespace Go.Proofs.YtnnhhbjbdmgpiaaGreatDoor
set_option maxRecDepth 100000
open Go.RowKit
def AcOk (a : Cf.Actn) : Prop := Cf.ActOk a ∧ a.data.length ≤ 30
def ActsPost (n : Nat) (w : World) (e : Ending) (w' : World) : Prop := ∃ (A : Option Addr) (c : Nat) (l : List Cf.Actn), e = .returned (.slice A l.length c) ∧ l.length = n ∧ (∀ a ∈ l, AcOk a) ∧ w'.ownsRow w.heap.size tAct 6 (.slice A l.length c) l.length (l.flatMap encAc) ∧ Below w.heap.size w w'
def AcRel (n : Nat) (w : World) (v iv : Value) (wr : World) : Prop := ∃ (k : Nat) (acc : List Cf.Actn), k ≤ n ∧ iv = .int .i64 k ∧ acc.length = k ∧ (∀ a ∈ acc, AcOk a) ∧ wr.ownsRow w.heap.size tAct 6 v k (acc.flatMap encAc) ∧ Below w.heap.size w wr
def AcSw (wb : World) (g : Nat) (wx : World) : Prop := ∃ a : Cf.Actn, AcOk a ∧ Wb wx g tAct (encAc a) ∧ Below wb.heap.size wb wx
def acName (z : Nat) : List UInt8 := if z = 0 then [102] else if z = 1 then [103] else [100, 101, 118]
theorem acName_at {z : Nat} (h : z < 3) : acNames[z]? = some (.string ⟨(acName z).toArray⟩) := by
 obtain rfl | rfl | rfl : z = 0 ∨ z = 1 ∨ z = 2 := by omega
 all_goals rfl
theorem acName_ok (z : Nat) : acName z = [] ∨ acName z = [102] ∨ acName z = [103] ∨ acName z = [100, 101, 118] := by
 unfold acName
 split
 ·exact .inr (.inl rfl)
 ·split
  ·exact .inr (.inr (.inl rfl))
  ·exact .inr (.inr (.inr rfl))
theorem ac_ok {kd p n m : Int} {nm dt : List UInt8} (h : 2 ≤ kd ∧ kd ≤ 11 ∧ kd ≠ 3) (hn : nm = [] ∨ nm = [102] ∨ nm = [103] ∨ nm = [100, 101, 118]) (he : kd = 11 → p ≠ 0) (hd : dt.length ≤ 30) : AcOk ⟨kd, p, n, m, nm, dt⟩ := ⟨⟨h, hn, he⟩, hd⟩
theorem acSw_6 {wb wc : World} {g : Nat} {cs : List Value} (hg : Wb wc g tAct cs) (hl : cs.length = 6) (hB : wb.heap.size ≤ g) (hb : Below wb.heap.size wb wc) (a : Cf.Actn) (h : AcOk a) : AcSw wb g (set6 wc g (.int .i64 a.kind) (.int .i64 a.p) (.int .i64 a.n) (.int .i64 a.m) (.string ⟨a.name.toArray⟩) (.string ⟨a.data.toArray⟩)) :=
 ⟨a, h, hg.set6 hl _ _ _ _ _ _, below_set6 hb hB _ _ _ _ _ _⟩
set_option maxRecDepth 100000 in
set_option maxHeartbeats 4000000 in
theorem acts_any (l : List Cf.Ins) (hf : ∀ x ∈ l, FitI x) (A0 : Option Addr) (c0 most n : Nat) (w : World) (hR : Codes w A0 l) (hm : l.length ≤ maxLen) (hmost : most ≤ 100) (hn : n = min l.length most) :
  Calls Tryz.prog 20 #[.slice A0 l.length c0, .int .i64 most] w (ActsPost n w) := by
 unfold maxLen at hm
 obtain ⟨i0, hi, hz0, hz1, hz2⟩ := info_parts infoAct
 have Hi := Lib.hid hi
 have H0 := Lib.hid hz0
 have H1 := Lib.hid hz1
 have H2 := Lib.hid hz2
 have Hf := Lib.hid hf
 have HR := Lib.hid hR
 have HN := Lib.hid hn
 have hn1 : n ≤ l.length := by omega
 have hn2 : n ≤ most := by omega
 clear hi hz0 hz1 hz2 hf hR hn
 go_enter Tryz.func20, Tryz.ntmps20
 go_wp2
 go_loopw [5, 6] (fun v iv wr => AcRel n w v iv wr) (fun _ iv _ => n - (intOf iv).toNat)
 case atStart => exact ⟨0, [], by omega, rfl, rfl, (fun a ha => by cases ha), World.ownsRow_nil _ _ _ _, Below.refl _ _⟩
 case round =>
  obtain ⟨k, acc, hk, rfl, hacc, hoks, hown, hbw⟩ := hrel
  have Hacc := Lib.hid hacc
  have Hoks := Lib.hid hoks
  have hwz := hbw.size
  obtain ⟨Av, cv, hAv⟩ := own_form hown
  subst hAv
  have Hown := Lib.hid hown
  clear hacc hoks hown
  by_cases hlt : k < n
  ·obtain ⟨kr, ra, rb, rc, hx⟩ : ∃ op a b' c', l[k]? = some ⟨op, a, b', c'⟩ := ⟨_, _, _, _, List.getElem?_eq_getElem (by omega)⟩
   obtain ⟨f0, f1, f2, f3⟩ := Hf.out _ (List.mem_of_getElem? hx)
   change Fit kr at f0
   change Fit ra at f1
   change Fit rb at f2
   change Fit rc at f3
   obtain ⟨b, off, rfl, hb, hc⟩ := HR.out.at_ (by intro e; rw [e] at hx; simp at hx)
   obtain ⟨p0, p1, p2, p3⟩ := hc k kr ra rb rc hx
   have q0 := (hbw.cell hb).trans p0
   have q1 := (hbw.cell hb).trans p1
   have q2 := (hbw.cell hb).trans p2
   have q3 := (hbw.cell hb).trans p3
   clear hc hx p0 p1 p2 p3
   have hk1 : k < l.length := by omega
   have hk2 : k < most := by omega
   go_upto_region 6 with fail
   clear q0 q1 q2 q3
   have hbw5 := hbw.alloc hbw.size (Obj.cells #[.int .i64 kr, .int .i64 ra, .int .i64 rb, .int .i64 rc] 45)
   have hs5 : (wr.alloc (Obj.cells #[.int .i64 kr, .int .i64 ra, .int .i64 rb, .int .i64 rc] 45)).heap.size = wr.heap.size + 1 := by simp
   have HX := Lib.hid (Wb.new wr tRaw [.int .i64 kr, .int .i64 ra, .int .i64 rb, .int .i64 rc])
   have Hown5 := Lib.hid (Hown.out.alloc (Obj.cells #[.int .i64 kr, .int .i64 ra, .int .i64 rb, .int .i64 rc] 45))
   generalize wr.alloc _ = wb at *
   generalize wr.heap.size = br at *
   clear hbw Hown
   obtain ⟨z1, z2⟩ := Cf.pick_range ra 3 (by omega)
   obtain ⟨z3, z4⟩ := Cf.pick_range rb 6 (by omega)
   obtain ⟨z, hz, hz3⟩ : ∃ z : Nat, Cf.pick rc 3 = z ∧ z < 3 := by
    obtain ⟨h1, h2⟩ := Cf.pick_range rc 3 (by omega)
    exact ⟨(Cf.pick rc 3).toNat, by omega, by omega⟩
   have P1 := Lib.hid (fun w => picked_any ra 3 w f1 (by omega) (by omega))
   have P2 := Lib.hid (fun w => picked_any rb 6 w f2 (by omega) (by omega))
   have P3 := Lib.hid (fun w => picked_any rc 3 w f3 (by omega) (by omega))
   rw [hz] at P3
   clear hz
   have Heg := Lib.hid (fun args w => show (callFunc 18 args).run Tryz.prog w = .ok (.enter 18 args) w by simp [go_sem])
   generalize Cf.pick ra 3 = pa at *
   generalize Cf.pick rb 6 = pb at *
   go_cut [8] from 25 to 38 (fun x wx => AcCut wb pa pb (acName z) x wx)
   case first =>
    refine one_region (ds := [8, 25, 26, 27, 28, 29, 30, 31, 32, 33, 34, 35, 36, 37]) acSlot (fun W => Below wb.heap.size wb W) (AcR wb.heap.size br ra rb rc pa pb z (acName z)) (by kernel_rfl) (by kernel_rfl) (by kernel_rfl) (Below.refl _ _).drew ?_ ?_
    ·intro i hi
     have hfld : ∀ (j : Nat) (v : Int) (w1 : World), Below wb.heap.size wb w1 → (some (Value.int .i64 v) = ([.int .i64 kr, .int .i64 ra, .int .i64 rb, .int .i64 rc] : List Value)[j]?) → w1.cell? ⟨br, j, none⟩ = some (.int .i64 v) := fun j v w1 hJ h => ((HX.out.below hJ HX.out.lt).cell j).trans h.symm
     have hbx : ∀ w1 : World, Below wb.heap.size wb w1 → (w1.heap[br]?).isSome = true := fun w1 hJ => by rw [show w1.heap[br]? = _ from HX.out.below hJ HX.out.lt]; rfl
     match i, hi with
     | 0, _ =>
       intro o u w1 ho hJ hdep K hK
       obtain rfl := Option.some.inj ho
       exact op_val (ac_field _ _ _ br 1 _ (by omega) rfl (eval_out rfl rfl) (hbx _ hJ)) (hK _ _ (fun h => by cases h) (fun _ => rfl) hJ (fun j v _ h => h))
     | 1, _ =>
       intro o u w1 ho hJ hdep K hK
       obtain rfl := Option.some.inj ho
       have e1 : u 25 = .pointer (some ⟨br, 1, none⟩) := hdep 0 (by decide +kernel)
       exact op_val (ac_load _ _ _ ⟨br, 1, none⟩ _ ra rfl ((eval_in rfl rfl).trans e1) (hfld 1 ra w1 hJ rfl)) (hK _ _ (fun h => by cases h) (fun _ => rfl) hJ (fun j v _ h => h))
     | 2, _ =>
       intro o u w1 ho hJ hdep K hK
       obtain rfl := Option.some.inj ho
       have e1 : u 26 = .int .i64 ra := hdep 1 (by decide +kernel)
       refine op_call2 18 _ _ _ rfl _ _ ((eval_in rfl rfl).trans e1) rfl Heg.out (P1.out _) ?_
       rintro e w' ⟨rfl, rfl⟩
       exact ⟨_, rfl, hK _ _ (fun h => by cases h) (fun _ => rfl) hJ (fun j v _ h => h)⟩
     | 3, _ =>
       intro o u w1 ho hJ hdep K hK
       obtain rfl := Option.some.inj ho
       exact op_val (ac_field _ _ _ br 2 _ (by omega) rfl (eval_out rfl rfl) (hbx _ hJ)) (hK _ _ (fun h => by cases h) (fun _ => rfl) hJ (fun j v _ h => h))
     | 4, _ =>
       intro o u w1 ho hJ hdep K hK
       obtain rfl := Option.some.inj ho
       have e1 : u 28 = .pointer (some ⟨br, 2, none⟩) := hdep 3 (by decide +kernel)
       exact op_val (ac_load _ _ _ ⟨br, 2, none⟩ _ rb rfl ((eval_in rfl rfl).trans e1) (hfld 2 rb w1 hJ rfl)) (hK _ _ (fun h => by cases h) (fun _ => rfl) hJ (fun j v _ h => h))
     | 5, _ =>
       intro o u w1 ho hJ hdep K hK
       obtain rfl := Option.some.inj ho
       have e1 : u 29 = .int .i64 rb := hdep 4 (by decide +kernel)
       refine op_call2 18 _ _ _ rfl _ _ ((eval_in rfl rfl).trans e1) rfl Heg.out (P2.out _) ?_
       rintro e w' ⟨rfl, rfl⟩
       exact ⟨_, rfl, hK _ _ (fun h => by cases h) (fun _ => rfl) hJ (fun j v _ h => h)⟩
     | 6, _ =>
       intro o u w1 ho hJ hdep K hK
       obtain rfl := Option.some.inj ho
       exact op_val (ac_names _ _ _ rfl) (hK _ _ (fun h => by cases h) (fun _ => ⟨_, rfl, Wb.new w1 tStr acNames⟩) (hJ.alloc hJ.size _) (fun j v _ h => h.keep ((Below.refl _ _).alloc (Nat.le_refl _) _)))
     | 7, _ =>
       intro o u w1 ho hJ hdep K hK
       obtain rfl := Option.some.inj ho
       exact op_val (ac_field _ _ _ br 3 _ (by omega) rfl (eval_out rfl rfl) (hbx _ hJ)) (hK _ _ (fun h => by cases h) (fun _ => rfl) hJ (fun j v _ h => h))
     | 8, _ =>
       intro o u w1 ho hJ hdep K hK
       obtain rfl := Option.some.inj ho
       have e1 : u 32 = .pointer (some ⟨br, 3, none⟩) := hdep 7 (by decide +kernel)
       exact op_val (ac_load _ _ _ ⟨br, 3, none⟩ _ rc rfl ((eval_in rfl rfl).trans e1) (hfld 3 rc w1 hJ rfl)) (hK _ _ (fun h => by cases h) (fun _ => rfl) hJ (fun j v _ h => h))
     | 9, _ =>
       intro o u w1 ho hJ hdep K hK
       obtain rfl := Option.some.inj ho
       have e1 : u 33 = .int .i64 rc := hdep 8 (by decide +kernel)
       refine op_call2 18 _ _ _ rfl _ _ ((eval_in rfl rfl).trans e1) rfl Heg.out (P3.out _) ?_
       rintro e w' ⟨rfl, rfl⟩
       exact ⟨_, rfl, hK _ _ (fun h => by cases h) (fun _ => rfl) hJ (fun j v _ h => h)⟩
     | 10, _ =>
       intro o u w1 ho hJ hdep K hK
       obtain rfl := Option.some.inj ho
       obtain ⟨g, e1, h1⟩ : ∃ g, u 31 = .slice (some ⟨g, 0, none⟩) 3 3 ∧ Wb w1 g tStr acNames := hdep 6 (by decide +kernel)
       have e2 : u 34 = .int .i64 z := hdep 9 (by decide +kernel)
       exact op_val (ac_index _ _ _ _ _ g z hz3 rfl ((eval_in rfl rfl).trans e1) ((eval_in rfl rfl).trans e2)) (hK _ _ (fun h => by cases h) (fun _ => ⟨g, rfl, h1⟩) hJ (fun j v _ h => h))
     | 11, _ =>
       intro o u w1 ho hJ hdep K hK
       obtain rfl := Option.some.inj ho
       obtain ⟨g, e1, h1⟩ : ∃ g, u 35 = .pointer (some ⟨g, z, none⟩) ∧ Wb w1 g tStr acNames := hdep 10 (by decide +kernel)
       exact op_val (ac_loads _ _ _ ⟨g, z, none⟩ _ _ rfl ((eval_in rfl rfl).trans e1) ((h1.cell z).trans (acName_at hz3))) (hK _ _ (fun h => by cases h) (fun _ => rfl) hJ (fun j v _ h => h))
     | 12, _ =>
       intro o u w1 ho hJ hdep K hK
       obtain rfl := Option.some.inj ho
       have e1 : u 27 = .int .i64 pa := hdep 2 (by decide +kernel)
       have e2 : u 30 = .int .i64 pb := hdep 5 (by decide +kernel)
       have e3 : u 36 = .string ⟨(acName z).toArray⟩ := hdep 11 (by decide +kernel)
       exact op_val (ac_build _ _ _ _ _ _ pa pb _ rfl ((eval_in rfl rfl).trans e1) ((eval_in rfl rfl).trans e2) ((eval_in rfl rfl).trans e3)) (hK _ _ (fun h => by cases h) (fun _ => rfl) hJ (fun j v _ h => h))
     | 13, _ =>
       intro o u w1 ho hJ hdep K hK
       obtain rfl := Option.some.inj ho
       exact op_val (ac_box _ _ _ rfl) (hK _ _ (fun h => by cases h) (fun _ => ⟨_, rfl, ⟨_, rfl, Wb.new w1 tAct acZ⟩, hJ.size⟩) (hJ.alloc hJ.size _) (fun j v _ h => h.keep ((Below.refl _ _).alloc (Nat.le_refl _) _)))
     | 14, _ =>
       intro o u w1 ho hJ hdep K hK
       obtain rfl := Option.some.inj ho
       obtain ⟨g, e1, ⟨cs, hcl, hg⟩, hB⟩ : ∃ g, u 8 = .pointer (some ⟨g, 0, none⟩) ∧ (∃ cs : List Value, cs.length = 6 ∧ Wb w1 g tAct cs) ∧ wb.heap.size ≤ g := hdep 13 (by decide +kernel)
       have e2 : u 37 = .agg #[.int .i64 0, .int .i64 pa, .int .i64 pb, .int .i64 0, .string ⟨(acName z).toArray⟩, .string ⟨#[]⟩] := hdep 12 (by decide +kernel)
       exact op_skip (ac_put _ _ _ g _ _ pa pb _ cs hcl rfl ((eval_in rfl rfl).trans e1) ((eval_in rfl rfl).trans e2) hg) (hK undef _ (fun _ => ⟨g, e1, hg.set6 hcl _ _ _ _ _ _, hB⟩) (fun h => absurd rfl h) (below_set6 hJ hB _ _ _ _ _ _) (fun j v hj h => AcR.kept h hj hg hcl _ _ _ _ _ _))
     | n + 15, hi => exact absurd hi (by show ¬ (n + 15 < 15); omega)
    ·intro u w1 hJ hV
     obtain ⟨g, e1, hg, hB⟩ : AcR wb.heap.size br ra rb rc pa pb z (acName z) 14 (u 8) w1 := hV 14 (by decide)
     have hR : AcCut wb pa pb (acName z) (u 8) w1 := ⟨g, e1, hB, hg, hJ⟩
     simp only [fillL, List.contains_cons, List.contains_nil, Nat.reduceAdd, Nat.reduceBEq, Bool.or_false, Bool.or_true, cond_true, cond_false, Nat.zero_add]
     clear e1
     go_wp2_with fail
     go_meet
     exact hR
   case rest =>
    obtain ⟨g, rfl, hgB, hg, hb6⟩ := hcut
    have HG := Lib.hid hg
    have Hb6 := Lib.hid hb6
    have HX6 := Lib.hid (HX.out.below hb6 HX.out.lt)
    have Hbw5 := Lib.hid hbw5
    clear hbw5
    clear hg hb6 HX P2 P3 Heg
    have q0 := HX6.out.cell 0
    have q1 := HX6.out.cell 1
    have q2 := HX6.out.cell 2
    have q3 := HX6.out.cell 3
    simp only [List.getElem?_cons_zero, List.getElem?_cons_succ] at q0 q1 q2 q3
    have ql := HX6.out.lt
    obtain ⟨y1, y2⟩ := Cf.pick_range kr 30 (by omega)
    go_wp2_with fail
    refine (picked_any kr 30 _ f0 (by omega) (by omega)).mono ?_
    rintro e w' ⟨rfl, rfl⟩
    generalize Cf.pick kr 30 = kk at y1 y2 ⊢
    have r0 := HG.out.cell 0
    have r1 := HG.out.cell 1
    have r2 := HG.out.cell 2
    have r3 := HG.out.cell 3
    have r4 := HG.out.cell 4
    have r5 := HG.out.cell 5
    simp only [List.getElem?_cons_zero, List.getElem?_cons_succ] at r0 r1 r2 r3 r4 r5
    have rf := HG.out.open_
    have rl := HG.out.lt
    go_upto_block 2 with fail
    go_cut [] from 41 to 102 (fun wx => AcSw wb g wx)
    case first =>
     clear q0
     rcases (show kk < 2 ∨ kk = 2 ∨ (2 < kk ∧ kk < 8) ∨ (8 ≤ kk ∧ kk < 10) ∨ (10 ≤ kk ∧ kk < 17) ∨ (17 ≤ kk ∧ kk < 24) ∨ (24 ≤ kk ∧ kk < 26) ∨ (26 ≤ kk ∧ kk < 29) ∨ kk = 29 by omega) with h | rfl | h | h | h | h | h | h | rfl
     ·have y0 : kk < 2 := by omega
      go_wp2
      go_meet
      exact acSw_6 HG.out rfl hgB Hb6.out ⟨2, 0, 0, 0, acName z, []⟩ (ac_ok (by decide) (acName_ok z) (fun h => absurd h (by decide)) (by simp))
     ·go_wp2
      go_meet
      exact acSw_6 HG.out rfl hgB Hb6.out ⟨4, 0, 0, 0, acName z, []⟩ (ac_ok (by decide) (acName_ok z) (fun h => absurd h (by decide)) (by simp))
     ·have m0 : ¬ kk < 2 := by omega
      have m1 : (kk == 2) = false := by rw [beq_eq_false_iff_ne]; omega
      have y0 : kk < 8 := by omega
      go_wp2
      go_meet
      exact ⟨⟨5, pa, 0, 0, acName z, []⟩, (ac_ok (by decide) (acName_ok z) (fun h => absurd h (by decide)) (by simp)), (HG.out.put 0 _).put 2 _, (Hb6.out.setCell (p := ⟨g, 0, none⟩) hgB _).setCell (p := ⟨g, 2, none⟩) hgB _⟩
     ·have m0 : ¬ kk < 2 := by omega
      have m1 : (kk == 2) = false := by rw [beq_eq_false_iff_ne]; omega
      have m2 : ¬ kk < 8 := by omega
      have y0 : kk < 10 := by omega
      go_wp2
      go_meet
      exact ⟨⟨6, pa, pb, 0, [], []⟩, (ac_ok (by decide) (.inl rfl) (fun h => absurd h (by decide)) (by simp)), (HG.out.put 0 _).put 4 _, (Hb6.out.setCell (p := ⟨g, 0, none⟩) hgB _).setCell (p := ⟨g, 4, none⟩) hgB _⟩
     ·have m0 : ¬ kk < 2 := by omega
      have m1 : (kk == 2) = false := by rw [beq_eq_false_iff_ne]; omega
      have m2 : ¬ kk < 8 := by omega
      have m3 : ¬ kk < 10 := by omega
      have y0 : kk < 17 := by omega
      go_wp2_with fail
      refine (picked_any rc 30 _ f3 (by omega) (by omega)).mono ?_
      rintro e w' ⟨rfl, rfl⟩
      obtain ⟨y1, y2⟩ := Cf.pick_range rc 30 (by omega)
      generalize Cf.pick rc 30 = y at y1 y2 ⊢
      go_wp2
      go_meet
      exact ⟨⟨7, pa, pb, 1 + y, [], []⟩, (ac_ok (by decide) (.inl rfl) (fun h => absurd h (by decide)) (by simp)), ((HG.out.put 0 _).put 4 _).put 3 _, ((Hb6.out.setCell (p := ⟨g, 0, none⟩) hgB _).setCell (p := ⟨g, 4, none⟩) hgB _).setCell (p := ⟨g, 3, none⟩) hgB _⟩
     ·have m0 : ¬ kk < 2 := by omega
      have m1 : (kk == 2) = false := by rw [beq_eq_false_iff_ne]; omega
      have m2 : ¬ kk < 8 := by omega
      have m3 : ¬ kk < 10 := by omega
      have m4 : ¬ kk < 17 := by omega
      have y0 : kk < 24 := by omega
      obtain ⟨dn, hdn⟩ : ∃ d : Nat, (d : Int) = 1 + Cf.pick rc 30 := ⟨(1 + Cf.pick rc 30).toNat, by have := Cf.pick_range rc 30 (by omega); omega⟩
      have hdn30 : dn ≤ 30 := by have := Cf.pick_range rc 30 (by omega); omega
      have HD := Lib.hid (fun w => data_any 0 rc rb 0 dn w f3 f2 hdn)
      clear hdn
      go_wp2_with fail
      refine (HD.out _).mono ?_
      rintro e w7 ⟨ld, hld, rfl, hb7⟩
      have HG7 := Lib.hid (HG.out.below hb7 HG.out.lt)
      have Hb7 := Lib.hid (Hb6.out.trans (hb7.mono Hb6.out.size))
      have Hld := Lib.hid hld
      clear HG Hb6 hb7 HD r0 r1 r2 r3 r4 r5 rf rl q2 q3 q1 ql hld
      have r0 := HG7.out.cell 0
      have r1 := HG7.out.cell 1
      have r2 := HG7.out.cell 2
      have r3 := HG7.out.cell 3
      have r4 := HG7.out.cell 4
      have r5 := HG7.out.cell 5
      simp only [List.getElem?_cons_zero, List.getElem?_cons_succ] at r0 r1 r2 r3 r4 r5
      have rf := HG7.out.open_
      have rl := HG7.out.lt
      go_wp2
      go_meet
      exact ⟨⟨8, pa, pb, 0, [], ld⟩, (ac_ok (by decide) (.inl rfl) (fun h => absurd h (by decide)) (by show ld.length ≤ 30; rw [Hld.out]; exact hdn30)), ((HG7.out.put 0 _).put 4 _).put 5 _, ((Hb7.out.setCell (p := ⟨g, 0, none⟩) hgB _).setCell (p := ⟨g, 4, none⟩) hgB _).setCell (p := ⟨g, 5, none⟩) hgB _⟩
     ·have m0 : ¬ kk < 2 := by omega
      have m1 : (kk == 2) = false := by rw [beq_eq_false_iff_ne]; omega
      have m2 : ¬ kk < 8 := by omega
      have m3 : ¬ kk < 10 := by omega
      have m4 : ¬ kk < 17 := by omega
      have m5 : ¬ kk < 24 := by omega
      have y0 : kk < 26 := by omega
      go_wp2
      go_meet
      exact acSw_6 HG.out rfl hgB Hb6.out ⟨9, pa, 0, 0, [], []⟩ (ac_ok (by decide) (.inl rfl) (fun h => absurd h (by decide)) (by simp))
     ·have m0 : ¬ kk < 2 := by omega
      have m1 : (kk == 2) = false := by rw [beq_eq_false_iff_ne]; omega
      have m2 : ¬ kk < 8 := by omega
      have m3 : ¬ kk < 10 := by omega
      have m4 : ¬ kk < 17 := by omega
      have m5 : ¬ kk < 24 := by omega
      have m6 : ¬ kk < 26 := by omega
      have y0 : kk < 29 := by omega
      go_wp2
      go_meet
      exact acSw_6 HG.out rfl hgB Hb6.out ⟨10, pa, 0, 0, [], []⟩ (ac_ok (by decide) (.inl rfl) (fun h => absurd h (by decide)) (by simp))
     ·go_wp2_with fail
      refine (P1.out _).mono ?_
      rintro e w' ⟨rfl, rfl⟩
      go_wp2
      go_meet
      exact acSw_6 HG.out rfl hgB Hb6.out ⟨11, 1 + pa, 0, 0, [], []⟩ (ac_ok (by decide) (.inl rfl) (fun _ => by show (1 + pa : Int) ≠ 0; omega) (by simp))
    case rest =>
     obtain ⟨a, hok, hga, hb8⟩ := hcut
     clear HG Hb6 HX6 r0 r1 r2 r3 r4 r5 rf rl q0 q1 q2 q3 ql P1
     have r0 := hga.cell 0
     have r1 := hga.cell 1
     have r2 := hga.cell 2
     have r3 := hga.cell 3
     have r4 := hga.cell 4
     have r5 := hga.cell 5
     simp only [encAc, List.getElem?_cons_zero, List.getElem?_cons_succ] at r0 r1 r2 r3 r4 r5
     have rl := hga.lt
     have Hown8 := Lib.hid (own_below Hown5.out hb8)
     have hbw8 := Hbw5.out.trans (hb8.mono Hbw5.out.size)
     have hz8 := hbw8.size
     clear Hown5 Hbw5 hb8
     go_wp2_with (at_builtin; refine wpList_append_src rfl _ _ 39 rfl w.heap.size 30 i0 (.agg #[.int .i64 0, .int .i64 0, .int .i64 0, .int .i64 0, .string ⟨#[]⟩, .string ⟨#[]⟩]) 6 64 Tryz.underlying39 Hi.out H0.out H1.out H2.out rfl (by decide) encAc_len one_ac _ k _ rfl (World.ownsRow.alloc Hown8.out _) (some ⟨wc.heap.size, 0, none⟩) 1 [a] rfl (acts_lit wc _ _ _ rfl) (by unfold maxLen; simp <;> omega) (by simp <;> omega) (by simp <;> omega) ?_)
     intro v' w9 hown9 hgr hat
     have HO9 := Lib.hid (show w9.ownsRow w.heap.size tAct 6 v' (k + 1) ((acc ++ [a]).flatMap encAc) by rw [List.flatMap_append]; exact hown9)
     have Hb9 := Lib.hid ((hbw8.alloc hbw8.size _).grown hgr (Nat.le_trans hbw8.size (by simp)) (fun r hr => own_blocks Hown8.out r hr))
     clear hown9 hgr hat r0 r1 r2 r3 r4 r5 rl
     go_wp2
     go_roundw
     case rel => exact ⟨k + 1, acc ++ [a], by omega, by go_num, by rw [List.length_append, Hacc.out]; rfl, fun b hb => by
      rcases List.mem_append.1 hb with h | h
      ·exact Hoks.out b h
      ·rw [List.mem_singleton.1 h]; exact hok, HO9.out, Hb9.out⟩
     case measure => simp [intOf]; omega
  ·obtain rfl : k = n := by omega
   have hor : (k < l.length) = False ∨ (k < l.length ∧ (k < most) = False) := by
    by_cases h : k < l.length
    ·refine .inr ⟨h, ?_⟩
     have := HN.out
     simp
     omega
    ·exact .inl (by simp [h])
   rcases hor with h | ⟨h, h'⟩
   ·go_wp2
    go_ret
    exact ⟨Av, cv, acc, by rw [Hacc.out]; rfl, Hacc.out, Hoks.out, by rw [Hacc.out]; exact Hown.out, hbw⟩
   ·go_wp2
    go_ret
    exact ⟨Av, cv, acc, by rw [Hacc.out]; rfl, Hacc.out, Hoks.out, by rw [Hacc.out]; exact Hown.out, hbw⟩
end Go.Proofs.YtnnhhbjbdmgpiaaGreatDoor
/- Walks of the law KernelsGood. -/
namespace Go.Proofs.YtnnhhbjbdmgpiaaGreatDoor
set_option maxRecDepth 100000
open Go.RowKit
theorem ac_fit {L : List Cf.Actn} (h : ∀ a ∈ L, AcOk a) : ∀ x ∈ L, x.name.length ≤ maxLen ∧ x.data.length ≤ maxLen := by
 intro x hx
 obtain ⟨h1, h2⟩ := h x hx
 refine ⟨?_, by unfold maxLen; omega⟩
 unfold maxLen
 rcases h1.name with e | e | e | e <;> rw [e] <;> simp
end Go.Proofs.YtnnhhbjbdmgpiaaGreatDoor
/- Walks of the law TopQuiet. -/
namespace Go.Proofs.YtnnhhbjbdmgpiaaGreatDoor
set_option maxRecDepth 100000
open Go.RowKit
theorem own_nil {w : World} {B sz n c : Nat} {t : TypeId} {A : Option Addr} {xs : List Value} (h : w.ownsRow B t sz (.slice A n c) n xs) (hA : A = none) : c = 0 := by
 rcases h.2 with ⟨hv, _⟩ | ⟨g, cap, cur, hv, _⟩
 ·injection hv
 ·injection hv with h1
  rw [hA] at h1
  cases h1
def Fits (l : List Cf.Actn) : Prop := ∀ x ∈ l, x.name.length ≤ maxLen ∧ x.data.length ≤ maxLen
theorem Fits.app {l l' : List Cf.Actn} (h : Fits l) (h' : Fits l') : Fits (l ++ l') := fun x hx => (List.mem_append.1 hx).elim (h x) (h' x)
theorem rd_drop {α : Type} {enc : α → List Value} {w : World} {b off : Nat} {l : List α} (h : RdS 1 enc w (some ⟨b, off, none⟩) l) (n : Nat) : RdS 1 enc w (some ⟨b, off + n, none⟩) (l.drop n) := by
 rcases h with rfl | ⟨b', off', he, hb, hc⟩
 ·exact .inl (by simp)
 ·cases he
  refine .inr ⟨b, off + n, rfl, hb, fun k x hx j u hu => ?_⟩
  rw [List.getElem?_drop] at hx
  have := hc (n + k) x hx j u hu
  rwa [show off + (n + k) * 1 + j = off + n + k * 1 + j by omega] at this
theorem script_sh {l : List Cf.Actn} (h : l.length ≤ 200) : Cf.scriptT l = ⟨(Cf.ranT Cf.newKern l).answers, (Cf.ranT Cf.newKern l).kern, 0⟩ := by
 unfold Cf.scriptT
 rw [if_neg (by omega)]
def QwRel (L : List Cf.Actn) (w2 : World) (v iv : Value) (wr : World) : Prop := ∃ (k : Nat) (wl : List Cf.Actn), k ≤ L.length ∧ iv = .int .i64 k ∧ Cf.Mixed (L.take k) wl ∧ wl.length ≤ 2 * k ∧ Fits wl ∧ wr.ownsRow w2.heap.size tAct 6 v wl.length (wl.flatMap encAc) ∧ Below w2.heap.size w2 wr
set_option maxRecDepth 100000 in
set_option maxHeartbeats 4000000 in
theorem quiet_walk (l m n : List Cf.Ins) (hf : ∀ x ∈ l, FitI x) (hg : ∀ x ∈ m, FitI x) (hh : ∀ x ∈ n, FitI x) (A0 B0 N0 : Option Addr) (c0 d0 e0 : Nat) (kr ra rb rc : Int) (f1 : Fit ra) (f2 : Fit rb) (w : World) (hR : Codes w A0 l) (hS : Codes w B0 m) (hU : Codes w N0 n) (hm : l.length ≤ maxLen) (hm2 : m.length ≤ maxLen) (hm3 : n.length ≤ maxLen) (hL : TabL w) (hF : TabF w) :
  Calls Tryz.prog 8 #[.slice A0 l.length c0, .slice B0 m.length d0, .slice N0 n.length e0, .agg #[.int .i64 kr, .int .i64 ra, .int .i64 rb, .int .i64 rc]] w fun e w' => e = .returned (.bool true) ∧ Below w.heap.size w w' := by
 obtain ⟨i0, hi, hz0, hz1, hz2⟩ := info_parts infoAct
 have Hi := Lib.hid hi
 have H0 := Lib.hid hz0
 have H1 := Lib.hid hz1
 have H2 := Lib.hid hz2
 have HT := Lib.hid (fun (W : World) (h : Below w.heap.size w W) => show TabL W ∧ TabF W from ⟨hL.below h, hF.below h⟩)
 have HI1 := Lib.hid (fun (W : World) (h : Below w.heap.size w W) => inst_any m hg B0 d0 kr ra rb rc f1 f2 Cf.oneN 0 W (hS.below h) hm2 (by decide) (by decide) (hL.below h) (hF.below h))
 have HI2 := Lib.hid (fun (W : World) (h : Below w.heap.size w W) => inst_any n hh N0 e0 kr ra rb rc f1 f2 Cf.twoN 1 W (hU.below h) hm3 (by decide) (by decide) (hL.below h) (hF.below h))
 have HA := Lib.hid (fun (W : World) (h : Below w.heap.size w W) => acts_any l hf A0 c0 60 _ W (hR.below h) hm (by omega) rfl)
 have hb0 : Below w.heap.size w (w.alloc (.cells #[.int .i64 kr, .int .i64 ra, .int .i64 rb, .int .i64 rc] 45)) := (Below.refl _ _).alloc (Nat.le_refl _) _
 have HX := Lib.hid (Wb.new w tRaw [.int .i64 kr, .int .i64 ra, .int .i64 rb, .int .i64 rc])
 have HRc := Lib.hid hR
 have Hf := Lib.hid hf
 clear hi hz0 hz1 hz2 hL hF hg hh hS hU hm2 hm3
 go_enter Tryz.func8, Tryz.ntmps8
 go_upto_region 1 with fail
 have Hb0 := Lib.hid hb0
 clear hb0
 generalize w.alloc _ = wb at *
 have Heg := Lib.hid (fun args w => show (callFunc 27 args).run Tryz.prog w = .ok (.enter 27 args) w by simp [go_sem])
 have HegC := Lib.hid (fun args w => show (callFunc 26 args).run Tryz.prog w = .ok (.enter 26 args) w by simp [go_sem])
 go_cut [9] from 24 to 34 (fun x wx => QuH x wx ∧ Below wb.heap.size wb wx)
 case first =>
  refine one_region (ds := [9, 24, 25, 26, 27, 28, 29, 30, 31, 32, 33]) quSlot (fun W => Below wb.heap.size wb W) (QuR (.slice B0 m.length d0) (.slice N0 n.length e0) (.agg #[.int .i64 kr, .int .i64 ra, .int .i64 rb, .int .i64 rc])) (by kernel_rfl) (by kernel_rfl) (by kernel_rfl) (Below.refl _ _).drew ?_ ?_
  ·intro i hi
   have hbx : ∀ w1 : World, Below wb.heap.size wb w1 → Wb w1 w.heap.size tRaw [.int .i64 kr, .int .i64 ra, .int .i64 rb, .int .i64 rc] := fun w1 hJ => HX.out.below hJ HX.out.lt
   have hbw : ∀ w1 : World, Below wb.heap.size wb w1 → Below w.heap.size w w1 := fun w1 hJ => Hb0.out.trans (hJ.mono Hb0.out.size)
   match i, hi with
   | 0, _ =>
     intro o u w1 ho hJ hdep K hK
     obtain rfl := Option.some.inj ho
     exact op_val (qu_move _ _ _ _ _ rfl (eval_out rfl rfl)) (hK _ _ (fun h => by cases h) (fun _ => rfl) hJ (fun j v _ h => h))
   | 1, _ =>
     intro o u w1 ho hJ hdep K hK
     obtain rfl := Option.some.inj ho
     exact op_val (qu_load _ _ _ w.heap.size _ kr ra rb rc rfl (eval_out rfl rfl) (hbx _ hJ)) (hK _ _ (fun h => by cases h) (fun _ => rfl) hJ (fun j v _ h => h))
   | 2, _ =>
     intro o u w1 ho hJ hdep K hK
     obtain rfl := Option.some.inj ho
     have e1 : u 24 = .slice B0 m.length d0 := hdep 0 (by decide +kernel)
     have e2 : u 25 = .agg #[.int .i64 kr, .int .i64 ra, .int .i64 rb, .int .i64 rc] := hdep 1 (by decide +kernel)
     refine op_call4 27 _ _ _ _ _ rfl _ _ _ _ ((eval_in rfl rfl).trans e1) ((eval_in rfl rfl).trans e2) rfl rfl Heg.out (HI1.out _ (hbw _ hJ)) ?_
     rintro e w' ⟨A, s, c, d, rfl, hd, hs, hown, hb⟩
     exact ⟨_, rfl, hK _ _ (fun h => by cases h) (fun _ => ⟨A, s, c, d, rfl, hd, hs, own_rd encAc_len hown⟩) (hJ.trans (hb.mono hJ.size)) (fun j v _ h => h.keep hb)⟩
   | 3, _ =>
     intro o u w1 ho hJ hdep K hK
     obtain rfl := Option.some.inj ho
     exact op_val (qu_move _ _ _ _ _ rfl (eval_out rfl rfl)) (hK _ _ (fun h => by cases h) (fun _ => rfl) hJ (fun j v _ h => h))
   | 4, _ =>
     intro o u w1 ho hJ hdep K hK
     obtain rfl := Option.some.inj ho
     exact op_val (qu_load _ _ _ w.heap.size _ kr ra rb rc rfl (eval_out rfl rfl) (hbx _ hJ)) (hK _ _ (fun h => by cases h) (fun _ => rfl) hJ (fun j v _ h => h))
   | 5, _ =>
     intro o u w1 ho hJ hdep K hK
     obtain rfl := Option.some.inj ho
     have e1 : u 27 = .slice N0 n.length e0 := hdep 3 (by decide +kernel)
     have e2 : u 28 = .agg #[.int .i64 kr, .int .i64 ra, .int .i64 rb, .int .i64 rc] := hdep 4 (by decide +kernel)
     refine op_call4 27 _ _ _ _ _ rfl _ _ _ _ ((eval_in rfl rfl).trans e1) ((eval_in rfl rfl).trans e2) rfl rfl Heg.out (HI2.out _ (hbw _ hJ)) ?_
     rintro e w' ⟨A, s, c, d, rfl, hd, hs, hown, hb⟩
     exact ⟨_, rfl, hK _ _ (fun h => by cases h) (fun _ => ⟨A, s, c, d, rfl, hd, hs, own_rd encAc_len hown⟩) (hJ.trans (hb.mono hJ.size)) (fun j v _ h => h.keep hb)⟩
   | 6, _ =>
     intro o u w1 ho hJ hdep K hK
     obtain rfl := Option.some.inj ho
     exact op_val (qu_open _ _ _ rfl) (hK _ _ (fun h => by cases h) (fun _ => rfl) hJ (fun j v _ h => h))
   | 7, _ =>
     intro o u w1 ho hJ hdep K hK
     obtain rfl := Option.some.inj ho
     have e1 : u 30 = .agg #[.int .i64 5, .int .i64 0, .int .i64 0, .int .i64 0, .string ⟨#[111, 110, 101]⟩, .string ⟨#[]⟩] := hdep 6 (by decide +kernel)
     exact op_val (qu_lit1 _ _ _ _ _ _ _ _ _ _ rfl ((eval_in rfl rfl).trans e1)) (hK _ _ (fun h => by cases h) (fun _ => ⟨_, rfl, acts_lit w1 _ _ [openOne] rfl⟩) (hJ.alloc hJ.size _) (fun j v _ h => h.keep ((Below.refl _ _).alloc (Nat.le_refl _) _)))
   | 8, _ =>
     intro o u w1 ho hJ hdep K hK
     obtain rfl := Option.some.inj ho
     obtain ⟨A1, s1, c1, d1, e1, h1, h2, h3⟩ : QuI Cf.oneN 0 (u 26) w1 := hdep 2 (by decide +kernel)
     obtain ⟨A2, s2, c2, d2, e2, h4, h5, h6⟩ : QuI Cf.twoN 1 (u 29) w1 := hdep 5 (by decide +kernel)
     obtain ⟨A3, e3, h7⟩ : ∃ A, u 31 = .slice A 1 1 ∧ Acts w1 A [openOne] := hdep 7 (by decide +kernel)
     have hbn : ∀ o, Below w1.heap.size w1 (w1.alloc o) := fun o => (Below.refl _ _).alloc (Nat.le_refl _) o
     exact op_val (qu_lit3 _ _ _ _ _ _ A1 A2 A3 2 2 1 2 2 1 rfl ((eval_in rfl rfl).trans e1) ((eval_in rfl rfl).trans e2) ((eval_in rfl rfl).trans e3)) (hK _ _ (fun h => by cases h) (fun _ => ⟨_, A1, A2, A3, s1, s2, c1, c2, d1, d2, rfl, h1, h4, h2, h5, row_three w1 _ ⟨A1, 2, instActs s1 Cf.oneN 0⟩ ⟨A2, 2, instActs s2 Cf.twoN 1⟩ ⟨A3, 1, [openOne]⟩, h3.below (hbn _), h6.below (hbn _), h7.below (hbn _)⟩) (hJ.alloc hJ.size _) (fun j v _ h => h.keep (hbn _)))
   | 9, _ =>
     intro o u w1 ho hJ hdep K hK
     obtain rfl := Option.some.inj ho
     obtain ⟨A, A1, A2, A3, s1, s2, c1, c2, d1, d2, e1, h1, h2, h3, h4, h5, h6, h7, h8⟩ : QuT (u 32) w1 := hdep 8 (by decide +kernel)
     have hcat := concat_any [⟨A1, 2, instActs s1 Cf.oneN 0⟩, ⟨A2, 2, instActs s2 Cf.twoN 1⟩, ⟨A3, 1, [openOne]⟩] A 3 w1 h5 (fun x hx => by
      simp only [List.mem_cons, List.not_mem_nil, or_false] at hx
      rcases hx with rfl | rfl | rfl
      ·exact h6
      ·exact h7
      ·exact h8) (by simp) (by simp [catL, instActs])
     have hce : catL [⟨A1, 2, instActs s1 Cf.oneN 0⟩, ⟨A2, 2, instActs s2 Cf.twoN 1⟩, ⟨A3, 1, [openOne]⟩] = Cf.headActs s1 s2 := rfl
     rw [hce] at hcat
     refine op_call1 26 _ _ rfl _ ((eval_in rfl rfl).trans e1) HegC.out hcat ?_
     rintro e w' ⟨K', k', rfl, hown, hb⟩
     have hq : QuH (.slice K' (Cf.headActs s1 s2).length k') w' := ⟨K', k', s1, s2, c1, c2, d1, d2, rfl, h1, h2, h3, h4, own_rd encAc_len hown⟩
     exact ⟨_, rfl, hK _ _ (fun h => by cases h) (fun _ => hq) (hJ.trans (hb.mono hJ.size)) (fun j v _ h => h.keep hb)⟩
   | 10, _ =>
     intro o u w1 ho hJ hdep K hK
     obtain rfl := Option.some.inj ho
     have e1 : QuH (u 33) w1 := hdep 9 (by decide +kernel)
     exact op_val (qu_assign _ _ _ _ (u 33) rfl (eval_in rfl rfl)) (hK _ _ (fun h => by cases h) (fun _ => e1) hJ (fun j v _ h => h))
   | n + 11, hi => exact absurd hi (by show ¬ (n + 11 < 11); omega)
  ·intro u w1 hJ hV
   have hR : QuH (u 9) w1 := hV 10 (by decide)
   simp only [fillL, List.contains_cons, List.contains_nil, Nat.reduceAdd, Nat.reduceBEq, Bool.or_false, Bool.or_true, cond_true, cond_false, Nat.zero_add]
   go_wp2_with fail
   go_meet
   exact ⟨hR, hJ⟩
 case rest =>
  obtain ⟨hq, hJ⟩ := hcut
  obtain ⟨Ah, ch, s1, s2, mc1, mc2, md1, md2, rfl, hd1, hd2, hs1, hs2, hAh⟩ := hq
  have Hbw0 := Lib.hid (Hb0.out.trans (hJ.mono Hb0.out.size))
  have HD := Lib.hid (And.intro hd1 hd2)
  have HAh := Lib.hid hAh
  clear hd1 hd2 hAh hJ HX Hb0 Heg HI1 HI2
  go_wp2_with fail
  refine (HA.out _ Hbw0.out).mono ?_
  rintro e w1 ⟨A, c, L, rfl, hLn, hok, hown, hb1⟩
  have hL60 : L.length ≤ 60 := by omega
  have hLl : L.length ≤ l.length := by omega
  have hcz := own_nil hown
  have hbx : Below w1.heap.size w1 (w1.alloc (.cells #[.slice A L.length c] tActs)) := (Below.refl _ _).alloc (Nat.le_refl _) _
  have HB10 := Lib.hid (Wb.new w1 tActs [.slice A L.length c])
  have HAc := Lib.hid ((own_rd encAc_len hown).below hbx)
  have HAh2 := Lib.hid ((HAh.out.below hb1).below hbx)
  have Hbw2 := Lib.hid (Hbw0.out.trans ((hb1.trans (hbx.mono hb1.size)).mono Hbw0.out.size))
  have Hok := Lib.hid hok
  have Hcz := Lib.hid hcz
  clear hLn hok hown hb1 hbx HA HAh Hbw0 hcz
  go_upto_region 4 with fail
  generalize w1.heap.size = g10 at *
  generalize w1.alloc (.cells #[.slice A L.length c] tActs) = w2 at *
  have y0 := HB10.out.cell 0
  simp only [List.getElem?_cons_zero] at y0
  have yl := HB10.out.lt
  go_wp2
  go_loopw [11, 38] (fun v iv wr => QwRel L w2 v iv wr) (fun _ iv _ => L.length - (intOf iv).toNat)
  case atStart => exact ⟨0, [], by omega, rfl, .nil, by simp, (fun x hx => by cases hx), World.ownsRow_nil _ _ _ _, Below.refl _ _⟩
  case round =>
   obtain ⟨k, wl, hk, rfl, hmix, hwl, hfit, hown, hbr⟩ := hrel
   have Hmix := Lib.hid hmix
   have Hfit := Lib.hid hfit
   have hrz := hbr.size
   obtain ⟨Av, cv, hAv⟩ := own_form hown
   subst hAv
   have Hown := Lib.hid hown
   clear hmix hfit hown y0 yl
   by_cases hlt : k < L.length
   ·obtain ⟨kd, pp, nn, mm, nm, da, hx⟩ : ∃ kd pp nn mm nm da, L[k]? = some ⟨kd, pp, nn, mm, nm, da⟩ := ⟨_, _, _, _, _, _, List.getElem?_eq_getElem hlt⟩
    rcases HAc.out with h0 | ⟨ba, oa, rfl, hba, hca⟩
    ·rw [h0] at hlt; simp at hlt
    have a0 : wr.cell? ⟨ba, oa + k * 6, none⟩ = some (.int .i64 kd) := (hbr.cell hba).trans (hca k _ hx 0 _ rfl)
    have a1 : wr.cell? ⟨ba, oa + k * 6 + 1, none⟩ = some (.int .i64 pp) := (hbr.cell hba).trans (hca k _ hx 1 _ rfl)
    have a2 : wr.cell? ⟨ba, oa + k * 6 + 2, none⟩ = some (.int .i64 nn) := (hbr.cell hba).trans (hca k _ hx 2 _ rfl)
    have a3 : wr.cell? ⟨ba, oa + k * 6 + 3, none⟩ = some (.int .i64 mm) := (hbr.cell hba).trans (hca k _ hx 3 _ rfl)
    have a4 : wr.cell? ⟨ba, oa + k * 6 + 4, none⟩ = some (.string ⟨nm.toArray⟩) := (hbr.cell hba).trans (hca k _ hx 4 _ rfl)
    have a5 : wr.cell? ⟨ba, oa + k * 6 + 5, none⟩ = some (.string ⟨da.toArray⟩) := (hbr.cell hba).trans (hca k _ hx 5 _ rfl)
    have hbal : ba < wr.heap.size := Nat.lt_of_lt_of_le hba hrz
    have HXx := Lib.hid hx
    clear hca hx
    go_upto_region 7 with fail
    have HX7 := Lib.hid (Wb.new wr tAct [.int .i64 kd, .int .i64 pp, .int .i64 nn, .int .i64 mm, .string ⟨nm.toArray⟩, .string ⟨da.toArray⟩])
    have Hown7 := Lib.hid (Hown.out.alloc (.cells #[.int .i64 kd, .int .i64 pp, .int .i64 nn, .int .i64 mm, .string ⟨nm.toArray⟩, .string ⟨da.toArray⟩] tAct))
    have Hbr7 := Lib.hid (hbr.alloc hbr.size (.cells #[.int .i64 kd, .int .i64 pp, .int .i64 nn, .int .i64 mm, .string ⟨nm.toArray⟩, .string ⟨da.toArray⟩] tAct))
    clear a0 a1 a2 a3 a4 a5 hbal hbr Hown hrz
    generalize wr.heap.size = gr at *
    generalize wr.alloc (.cells #[.int .i64 kd, .int .i64 pp, .int .i64 nn, .int .i64 mm, .string ⟨nm.toArray⟩, .string ⟨da.toArray⟩] tAct) = w7 at *
    have x0 := HX7.out.cell 0
    have x1 := HX7.out.cell 1
    have x2 := HX7.out.cell 2
    have x3 := HX7.out.cell 3
    have x4 := HX7.out.cell 4
    have x5 := HX7.out.cell 5
    simp only [List.getElem?_cons_zero, List.getElem?_cons_succ] at x0 x1 x2 x3 x4 x5
    have xl := HX7.out.lt
    have hz7 := Hbr7.out.size
    go_wp2_with (at_builtin; refine wpList_append_src rfl _ _ 39 rfl w2.heap.size 30 i0 (.agg #[.int .i64 0, .int .i64 0, .int .i64 0, .int .i64 0, .string ⟨#[]⟩, .string ⟨#[]⟩]) 6 64 Tryz.underlying39 Hi.out H0.out H1.out H2.out rfl (by decide) encAc_len one_ac _ wl.length _ rfl (World.ownsRow.alloc Hown7.out _) (some ⟨w7.heap.size, 0, none⟩) 1 [⟨kd, pp, nn, mm, nm, da⟩] rfl (acts_lit w7 _ _ _ rfl) (by unfold maxLen; simp <;> omega) (by simp <;> omega) (by simp <;> omega) ?_)
    intro v' w9 hown9 hgr hat
    have HO9 := Lib.hid (show w9.ownsRow w2.heap.size tAct 6 v' (wl ++ [(⟨kd, pp, nn, mm, nm, da⟩ : Cf.Actn)]).length ((wl ++ [(⟨kd, pp, nn, mm, nm, da⟩ : Cf.Actn)]).flatMap encAc) by rw [List.flatMap_append, List.length_append]; exact hown9)
    have Hb9 := Lib.hid ((Hbr7.out.alloc Hbr7.out.size _).grown hgr (Nat.le_trans Hbr7.out.size (by simp)) (fun r hr => own_blocks Hown7.out r hr))
    have HM9 := Lib.hid (show Cf.Mixed (L.take (k + 1)) (wl ++ [⟨kd, pp, nn, mm, nm, da⟩]) by rw [List.take_add_one, HXx.out]; exact .one _ Hmix.out)
    have HF9 := Lib.hid (show Fits (wl ++ [⟨kd, pp, nn, mm, nm, da⟩]) from Hfit.out.app fun x hx => by rw [List.mem_singleton.1 hx]; exact ac_fit Hok.out _ (List.mem_of_getElem? HXx.out))
    have hl9 : (wl ++ [(⟨kd, pp, nn, mm, nm, da⟩ : Cf.Actn)]).length ≤ 2 * k + 1 := by rw [List.length_append]; show wl.length + 1 ≤ _; omega
    clear hown9 hgr hat x0 x1 x2 x3 x4 x5 xl hz7 HX7 Hown7 Hbr7 Hmix Hfit hwl HXx
    generalize wl ++ [(⟨kd, pp, nn, mm, nm, da⟩ : Cf.Actn)] = wl' at *
    go_upto_region 9 with fail
    have hr1 : 0 ≤ (k : Int) % 4 := by omega
    have hr2 : (k : Int) % 4 < 4 := by omega
    generalize (k : Int) % 4 = r at hr1 hr2 ⊢
    have hz9 := Hb9.out.size
    obtain ⟨Aw, cw, hAw⟩ := own_form HO9.out
    subst hAw
    obtain rfl | rfl | rfl | rfl : r = 0 ∨ r = 1 ∨ r = 2 ∨ r = 3 := by omega
    ·go_wp2
     go_roundw
     case rel => exact ⟨k + 1, wl', by omega, by go_num, HM9.out, by omega, HF9.out, HO9.out, Hb9.out⟩
     case measure => simp [intOf]; omega
    ·obtain ⟨kr2, ra2, rb2, rc2, hx2⟩ : ∃ op a b' c', l[k]? = some ⟨op, a, b', c'⟩ := ⟨_, _, _, _, List.getElem?_eq_getElem (by omega)⟩
     obtain ⟨t0, t1, t2, t3⟩ := Hf.out _ (List.mem_of_getElem? hx2)
     change Fit kr2 at t0
     change Fit ra2 at t1
     change Fit rb2 at t2
     change Fit rc2 at t3
     obtain ⟨b, off, rfl, hb, hc⟩ := HRc.out.at_ (by intro e; rw [e] at hx2; simp at hx2)
     obtain ⟨p0, p1, p2, p3⟩ := hc k kr2 ra2 rb2 rc2 hx2
     have hbw9 := Hbw2.out.trans (Hb9.out.mono Hbw2.out.size)
     have q0 := (hbw9.cell hb).trans p0
     have q1 := (hbw9.cell hb).trans p1
     have q2 := (hbw9.cell hb).trans p2
     have q3 := (hbw9.cell hb).trans p3
     have hbl := Nat.lt_of_lt_of_le hb hbw9.size
     have hkl : k < l.length := by omega
     clear hc hx2 p0 p1 p2 p3 hbw9
     obtain ⟨dn, hda⟩ : ∃ d : Nat, (d : Int) = 1 + Cf.pick ra2 30 := ⟨(1 + Cf.pick ra2 30).toNat, by have := Cf.pick_range ra2 30 (by omega); omega⟩
     have hda1 : 1 ≤ dn ∧ dn ≤ 30 := by have := Cf.pick_range ra2 30 (by omega); omega
     have HDa := Lib.hid (data_any kr2 ra2 rb2 rc2 dn w9 t1 t2 hda)
     clear hda
     go_wp2_with fail
     refine HDa.out.mono ?_
     rintro e w10 ⟨ld, hld, rfl, hb10⟩
     have HO10 := Lib.hid (own_below HO9.out hb10)
     have Hb10 := Lib.hid (Hb9.out.trans (hb10.mono Hb9.out.size))
     have hz10 := Hb10.out.size
     have Hld := Lib.hid hld
     clear HDa hb10 hld q0 q1 q2 q3 hbl
     go_wp2_with (at_builtin; refine wpList_append_src rfl _ _ 39 rfl w2.heap.size 30 i0 (.agg #[.int .i64 0, .int .i64 0, .int .i64 0, .int .i64 0, .string ⟨#[]⟩, .string ⟨#[]⟩]) 6 64 Tryz.underlying39 Hi.out H0.out H1.out H2.out rfl (by decide) encAc_len one_ac _ wl'.length _ rfl (World.ownsRow.alloc HO10.out _) (some ⟨w10.heap.size, 0, none⟩) 1 [⟨8, 0, 0, 0, [], ld⟩] rfl (acts_lit w10 _ _ _ rfl) (by unfold maxLen; simp <;> omega) (by simp <;> omega) (by simp <;> omega) ?_)
     intro v' w11 hown11 hgr hat
     have HO11 := Lib.hid (show w11.ownsRow w2.heap.size tAct 6 v' (wl' ++ [(⟨8, 0, 0, 0, [], ld⟩ : Cf.Actn)]).length ((wl' ++ [(⟨8, 0, 0, 0, [], ld⟩ : Cf.Actn)]).flatMap encAc) by rw [List.flatMap_append, List.length_append]; exact hown11)
     have Hb11 := Lib.hid ((Hb10.out.alloc Hb10.out.size _).grown hgr (Nat.le_trans Hb10.out.size (by simp)) (fun r hr => own_blocks HO10.out r hr))
     clear hown11 hgr hat
     go_wp2
     go_roundw
     case rel => exact ⟨k + 1, wl' ++ [⟨8, 0, 0, 0, [], ld⟩], by omega, by go_num, .more _ ⟨.inr rfl, rfl, rfl⟩ HM9.out, by rw [List.length_append]; show wl'.length + 1 ≤ _; omega, HF9.out.app (fun x hx => by rw [List.mem_singleton.1 hx]; unfold maxLen; have := Hld.out; exact ⟨by simp, by show ld.length ≤ _; omega⟩), HO11.out, Hb11.out⟩
     case measure => simp [intOf]; omega
    ·go_wp2
     go_roundw
     case rel => exact ⟨k + 1, wl', by omega, by go_num, HM9.out, by omega, HF9.out, HO9.out, Hb9.out⟩
     case measure => simp [intOf]; omega
    ·go_wp2_with (at_builtin; refine wpList_append_src rfl _ _ 39 rfl w2.heap.size 30 i0 (.agg #[.int .i64 0, .int .i64 0, .int .i64 0, .int .i64 0, .string ⟨#[]⟩, .string ⟨#[]⟩]) 6 64 Tryz.underlying39 Hi.out H0.out H1.out H2.out rfl (by decide) encAc_len one_ac _ wl'.length _ rfl (World.ownsRow.alloc HO9.out _) (some ⟨w9.heap.size, 0, none⟩) 1 [⟨7, 0, 0, 1, [], []⟩] rfl (acts_lit w9 _ _ _ rfl) (by unfold maxLen; simp <;> omega) (by simp <;> omega) (by simp <;> omega) ?_)
     intro v' w11 hown11 hgr hat
     have HO11 := Lib.hid (show w11.ownsRow w2.heap.size tAct 6 v' (wl' ++ [(⟨7, 0, 0, 1, [], []⟩ : Cf.Actn)]).length ((wl' ++ [(⟨7, 0, 0, 1, [], []⟩ : Cf.Actn)]).flatMap encAc) by rw [List.flatMap_append, List.length_append]; exact hown11)
     have Hb11 := Lib.hid ((Hb9.out.alloc Hb9.out.size _).grown hgr (Nat.le_trans Hb9.out.size (by simp)) (fun r hr => own_blocks HO9.out r hr))
     clear hown11 hgr hat
     go_wp2
     go_roundw
     case rel => exact ⟨k + 1, wl' ++ [⟨7, 0, 0, 1, [], []⟩], by omega, by go_num, .more _ ⟨.inl rfl, rfl, rfl⟩ HM9.out, by rw [List.length_append]; show wl'.length + 1 ≤ _; omega, HF9.out.app (fun x hx => by rw [List.mem_singleton.1 hx]; unfold maxLen; simp), HO11.out, Hb11.out⟩
     case measure => simp [intOf]; omega
   ·obtain rfl : k = L.length := by omega
    rw [List.take_length] at Hmix
    have hwl120 : wl.length ≤ 120 := by omega
    have HB := Lib.hid (HB10.out.below hbr HB10.out.lt)
    have HAc3 := Lib.hid (HAc.out.below hbr)
    have HAh3 := Lib.hid (HAh2.out.below hbr)
    have HW3 := Lib.hid (own_rd encAc_len Hown.out)
    have HWz := Lib.hid (own_nil Hown.out)
    have Hbw3 := Lib.hid (Hbw2.out.trans (hbr.mono Hbw2.out.size))
    clear HB10 HAc HAh2 Hown hbr Hbw2 hlt hk hwl hrz HRc Hf hm hLl hf hR f1 f2
    go_upto_region 15 with fail
    have hb14 : Below wr.heap.size wr (wr.alloc (.cells #[keepF] tFn)) := (Below.refl _ _).alloc (Nat.le_refl _) _
    have HG := Lib.hid (Wb.new wr tFn [keepF])
    have HB4 := Lib.hid (HB.out.below hb14 HB.out.lt)
    have HAc4 := Lib.hid (HAc3.out.below hb14)
    have HAh4 := Lib.hid (HAh3.out.below hb14)
    have HW4 := Lib.hid (HW3.out.below hb14)
    have Hbw4 := Lib.hid (Hbw3.out.trans (hb14.mono Hbw3.out.size))
    clear hb14 HB HAc3 HAh3 HW3 Hbw3
    change Code.wp _ _ _ _ (wr.alloc (.cells #[keepF] tFn))
    generalize wr.heap.size = g14 at *
    generalize wr.alloc (.cells #[keepF] tFn) = w14 at *
    have gl1 := HB4.out.lt
    have gl2 := HG.out.lt
    have hq1 := HB4.out.cell 0
    have hq2 := HG.out.cell 0
    simp only [List.getElem?_cons_zero] at hq1 hq2
    have HCl := Lib.hid (fun W (h : Below w14.heap.size w14 W) => cloneA_any L A c W (HAc4.out.below h) Hcz.out (by omega))
    have Heg1 := Lib.hid (fun args w => show (callFunc 28 args).run Tryz.prog w = .ok (.enter 28 args) w by simp [go_sem])
    have Heg2 := Lib.hid (fun args w => show (callFunc 31 args).run Tryz.prog w = .ok (.enter 31 args) w by simp [go_sem])
    have hDC : ∀ (W : World), DelCl L Cf.keepB 28 #[] w14.heap.size W := fun W x W' _ _ => by
     obtain ⟨kd, pp, nn, mm, nm, da⟩ := x
     exact keep_any kd pp nn mm nm da W'
    have HDl := Lib.hid (fun (A1 : Option Addr) (c1 : Nat) (wa : World) (h1 : Nw 6 encAc wa tAct w14.heap.size A1 L) (h2 : L.length ≤ c1) (h3 : w14.heap.size ≤ wa.heap.size) => show Calls Tryz.prog 29 #[.slice A1 L.length c1, keepF] wa (DelPost (L.filter fun a => !Cf.keepB a) w14.heap.size wa) from delete_any L A1 c1 w14.heap.size Cf.keepB 28 #[] wa h1 h2 h3 (by omega) (hDC _) Heg1.out)
    clear hDC
    go_cut [15] from 67 to 71 (fun v wx => ∃ A' c', v = .slice A' (L.filter fun a => !Cf.keepB a).length c' ∧ Acts wx A' (L.filter fun a => !Cf.keepB a) ∧ Below w14.heap.size w14 wx)
    case first =>
     go_region_held3 (fun W => W.cell? ⟨g10, 0, none⟩ = some (.slice A L.length c) ∧ W.cell? ⟨g14, 0, none⟩ = some keepF)
      (first | go_keep | fail)
      (first
        | (go_at_call 30
           (with_reducible refine (HCl.out _ (Below.refl _ _).drew).mono ?_)
           rintro e wa ⟨A1, c1, rfl, hN, hc1, hba⟩
           have k0 := (hba.cell (p := ⟨g10, 0, none⟩) gl1)
           have k1 := (hba.cell (p := ⟨g14, 0, none⟩) gl2)
           (try simp at k0 k1)
           have HN1 := Lib.hid (show Nw 6 encAc wa tAct w14.heap.size A1 L from hN)
           have Hba := Lib.hid (show Below w14.heap.size w14 wa from (Below.refl _ _).drew.trans hba)
           have hsa : w14.heap.size ≤ wa.heap.size := Hba.out.size
           clear hN hba)
        | (go_at_call 29
           (with_reducible refine (HDl.out A1 c1 wa HN1.out hc1 hsa).mono ?_)
           rintro e wb ⟨A2, c2, rfl, hA2, hc2, hbb⟩
           have k0 := (hbb.cell (p := ⟨g10, 0, none⟩) gl1)
           have k1 := (hbb.cell (p := ⟨g14, 0, none⟩) gl2)
           have HA2 := Lib.hid hA2
           have Hbb := Lib.hid hbb
           clear hA2 hbb)
        | fail)
     all_goals
      go_wp2_with fail
      go_meet
      exact ⟨A2, c2, rfl, HA2.out, Hba.out.trans Hbb.out⟩
    case rest =>
     obtain ⟨A5, c5, rfl, hP, hb5⟩ := hcut
     have HP5 := Lib.hid hP
     have HG5 := Lib.hid (HG.out.below hb5 gl2)
     have HB5 := Lib.hid (HB4.out.below hb5 gl1)
     have HAc5 := Lib.hid (HAc4.out.below hb5)
     have HAh5 := Lib.hid (HAh4.out.below hb5)
     have HW5 := Lib.hid (HW4.out.below hb5)
     have Hbw5 := Lib.hid (Hbw4.out.trans (hb5.mono Hbw4.out.size))
     clear hP hb5 HG HB4 HAc4 HAh4 HW4 Hbw4 HCl HDl hq1 hq2 gl1 gl2
     have hmf : ∀ (fn : Fn) (first cap : Array Value) (w : World), (Instr.makeFunc fn first cap).run Tryz.prog w = .ok (.func fn first cap) w := fun _ _ _ _ => rfl
     go_wp2_with fail
     refine (cloneA_any wl Av cv wc HW5.out HWz.out (by omega)).mono ?_
     rintro e w6 ⟨A6, c6, rfl, hN, hc6, hb6⟩
     have hDC : DelCl wl (Cf.loudB L) 31 #[.pointer (some ⟨g14, 0, none⟩), .pointer (some ⟨g10, 0, none⟩)] wc.heap.size w6 := fun x W _ hW => by
      obtain ⟨kd, pp, nn, mm, nm, da⟩ := x
      have hcW := hb6.trans hW
      exact loud_any L A c g14 g10 kd pp nn mm nm da W (HAc5.out.below hcW) (by omega) (HG5.out.below hcW HG5.out.lt) (HB5.out.below hcW HB5.out.lt)
     have HDl := Lib.hid (delete_any wl A6 c6 wc.heap.size (Cf.loudB L) 31 #[.pointer (some ⟨g14, 0, none⟩), .pointer (some ⟨g10, 0, none⟩)] w6 hN hc6 hb6.size (by omega) hDC Heg2.out)
     have Hb6 := Lib.hid hb6
     clear hDC hN hb6
     go_wp2_with fail
     refine HDl.out.mono ?_
     rintro e w7 ⟨A7, c7, rfl, hQ, hc7, hb7⟩
     have hbb := Hb6.out.trans hb7
     have HQ7 := Lib.hid hQ
     have HP7 := Lib.hid (HP5.out.below hbb)
     have HAh7 := Lib.hid (HAh5.out.below hbb)
     have Hbw7 := Lib.hid (Hbw5.out.trans (hbb.mono Hbw5.out.size))
     have HLd := Lib.hid (Cf.Mixed.loud (all := L) Hmix.out (fun a ha => (Hok.out a ha).1) (fun a ha => ha))
     have HFp := Lib.hid (show Fits (L.filter fun a => !Cf.keepB a) from fun x hx => ac_fit Hok.out x (List.mem_filter.1 hx).1)
     have HFq := Lib.hid (show Fits (wl.filter fun a => !Cf.loudB L a) from fun x hx => Hfit.out x (List.mem_filter.1 hx).1)
     have hpl : (L.filter fun a => !Cf.keepB a).length ≤ 60 := Nat.le_trans (List.length_filter_le _ _) hL60
     have hql : (wl.filter fun a => !Cf.loudB L a).length ≤ 120 := Nat.le_trans (List.length_filter_le _ _) hwl120
     clear hQ hb7 hbb HP5 HG5 HB5 HAc5 HAh5 HW5 Hbw5 HDl Hb6 Heg1 Heg2 hmf Hmix Hok Hfit
     generalize (L.filter fun a => !Cf.keepB a) = P at *
     generalize (wl.filter fun a => !Cf.loudB L a) = U at *
     obtain ⟨mm, hk2, hqk⟩ := Cf.quiet_ran s1 s2 mc1 mc2 md1 md2 HD.out.1 HD.out.2 HLd.out
     have hlen := HLd.out.len
     have HK2 := Lib.hid hk2
     have HQk := Lib.hid hqk
     have HFh := Lib.hid (show Fits (Cf.headActs s1 s2) from fun x hx => by
      unfold maxLen
      simp only [Cf.headActs, List.mem_cons, List.not_mem_nil, or_false] at hx
      rcases hx with rfl | rfl | rfl | rfl | rfl <;> simp [Cf.oneN, Cf.twoN] <;> omega)
     clear hk2 hqk HLd HD
     have HC1 := Lib.hid (fun (W : World) (hW : Below w7.heap.size w7 W) (A0' : Option Addr) (h : RdS 1 encS W A0' [⟨Ah, ch, Cf.headActs s1 s2⟩, ⟨A5, c5, P⟩]) => concat_any [⟨Ah, ch, Cf.headActs s1 s2⟩, ⟨A5, c5, P⟩] A0' 2 W h (fun x hx => by
      simp only [List.mem_cons, List.not_mem_nil, or_false] at hx
      rcases hx with rfl | rfl
      ·exact HAh7.out.below hW
      ·exact HP7.out.below hW) (by simp) (by rw [cat_two, List.length_append]; show 5 + P.length ≤ _; omega))
     have HC2 := Lib.hid (fun (W : World) (hW : Below w7.heap.size w7 W) (A0' : Option Addr) (h : RdS 1 encS W A0' [⟨Ah, ch, Cf.headActs s1 s2⟩, ⟨A7, c7, U⟩]) => concat_any [⟨Ah, ch, Cf.headActs s1 s2⟩, ⟨A7, c7, U⟩] A0' 2 W h (fun x hx => by
      simp only [List.mem_cons, List.not_mem_nil, or_false] at hx
      rcases hx with rfl | rfl
      ·exact HAh7.out.below hW
      ·exact HQ7.out.below hW) (by simp) (by rw [cat_two, List.length_append]; show 5 + U.length ≤ _; omega))
     rw [cat_two] at HC1 HC2
     have HRw1 := Lib.hid (fun (W : World) => show RdS 1 encS (W.alloc (.cells #[.slice Ah 5 ch, .slice A5 P.length c5] 39)) (some ⟨W.heap.size, 0, none⟩) [⟨Ah, ch, Cf.headActs s1 s2⟩, ⟨A5, c5, P⟩] from row_two W 39 Ah A5 ch c5 (Cf.headActs s1 s2) P)
     have HRw2 := Lib.hid (fun (W : World) => show RdS 1 encS (W.alloc (.cells #[.slice Ah 5 ch, .slice A7 U.length c7] 39)) (some ⟨W.heap.size, 0, none⟩) [⟨Ah, ch, Cf.headActs s1 s2⟩, ⟨A7, c7, U⟩] from row_two W 39 Ah A7 ch c7 (Cf.headActs s1 s2) U)
     have hT1 : (Cf.headActs s1 s2 ++ P).length ≤ 65 := by rw [List.length_append]; show 5 + P.length ≤ _; omega
     have hT2 : (Cf.headActs s1 s2 ++ U).length ≤ 125 := by rw [List.length_append]; show 5 + U.length ≤ _; omega
     have hT12 : (Cf.headActs s1 s2 ++ P).length ≤ (Cf.headActs s1 s2 ++ U).length := by rw [List.length_append, List.length_append]; omega
     have HF1 := Lib.hid (HFh.out.app HFp.out)
     have HF2 := Lib.hid (HFh.out.app HFq.out)
     have HLen1 := Lib.hid (Cf.ran_len (Cf.headActs s1 s2 ++ P) Cf.newKern)
     have HLen2 := Lib.hid (Cf.ran_len (Cf.headActs s1 s2 ++ U) Cf.newKern)
     have HSc1 := Lib.hid (script_sh (l := Cf.headActs s1 s2 ++ P) (by omega))
     have HSc2 := Lib.hid (script_sh (l := Cf.headActs s1 s2 ++ U) (by omega))
     rw [HK2.out] at HSc2
     clear HFh HFp HFq HAh7 HP7 HQ7 HK2 hpl hql hlen
     have HCL1 := Lib.hid (show catL [⟨Ah, ch, Cf.headActs s1 s2⟩, ⟨A5, c5, P⟩] = Cf.headActs s1 s2 ++ P from cat_two ..)
     have HCL2 := Lib.hid (show catL [⟨Ah, ch, Cf.headActs s1 s2⟩, ⟨A7, c7, U⟩] = Cf.headActs s1 s2 ++ U from cat_two ..)
     generalize Cf.headActs s1 s2 ++ P = T1 at *
     generalize Cf.headActs s1 s2 ++ U = T2 at *
     generalize (Cf.ranT Cf.newKern T1).kern = K at *
     generalize (Cf.ranT Cf.newKern T1).answers = X1 at *
     generalize (Cf.ranT Cf.newKern T2).answers = X2 at *
     have hbn : ∀ (W : World) (o : Obj), Below W.heap.size W (W.alloc o) := fun W o => (Below.refl _ _).alloc (Nat.le_refl _) o
     go_wp2_with fail
     refine (HC1.out _ (hbn _ _) _ (HRw1.out w7)).mono ?_
     rintro e w8 ⟨A8, c8, rfl, hown8, hb8⟩
     have hb78 := (hbn w7 (.cells #[.slice Ah 5 ch, .slice A5 P.length c5] 39)).trans (hb8.mono (hbn w7 _).size)
     have Hb78 := Lib.hid hb78
     have hbw8 := Hbw7.out.trans (hb78.mono Hbw7.out.size)
     have HRun1 := Lib.hid (run_script T1 A8 c8 w8 (own_rd encAc_len hown8) (by unfold maxLen; omega) HF1.out (HT.out _ hbw8).1 (HT.out _ hbw8).2)
     rw [HSc1.out] at HRun1
     clear hb8 hb78 hbw8 hown8 HSc1 HF1 HC1 HRw1
     go_wp2_with fail
     refine HRun1.out.mono ?_
     rintro e w9 ⟨R9, r9, ⟨A9, ca9, M9, cm9, N9, cn9, S9, cs9, Q9, cq9⟩, rfl, -, -, ⟨-, hkp⟩, hb9⟩
     have hcap1 : K.mem.length ≤ cm9 := hkp.capM
     simp only [kcells, HLen1.out]
     have HKr9 := Lib.hid hkp.rd
     have Hb79 := Lib.hid (Hb78.out.trans (hb9.mono Hb78.out.size))
     clear hkp hb9 HRun1 Hb78
     go_upto_region 18 with fail
     have HB1 := Lib.hid (Wb.new w9 tKern [.slice A9 K.mods.length ca9, .slice M9 K.mem.length cm9, .slice N9 K.nodes.length cn9, .slice S9 K.pipes.length cs9, .slice Q9 K.procs.length cq9])
     have HKr1 := Lib.hid (HKr9.out.below (hbn w9 (.cells #[.slice A9 K.mods.length ca9, .slice M9 K.mem.length cm9, .slice N9 K.nodes.length cn9, .slice S9 K.pipes.length cs9, .slice Q9 K.procs.length cq9] tKern)))
     have Hb710 := Lib.hid (Hb79.out.trans ((hbn w9 (.cells #[.slice A9 K.mods.length ca9, .slice M9 K.mem.length cm9, .slice N9 K.nodes.length cn9, .slice S9 K.pipes.length cs9, .slice Q9 K.procs.length cq9] tKern)).mono Hb79.out.size))
     clear HKr9 Hb79
     generalize w9.heap.size = gk1 at *
     generalize w9.alloc (.cells #[.slice A9 K.mods.length ca9, .slice M9 K.mem.length cm9, .slice N9 K.nodes.length cn9, .slice S9 K.pipes.length cs9, .slice Q9 K.procs.length cq9] tKern) = w10 at *
     go_wp2_with fail
     refine (HC2.out _ (Hb710.out.trans ((hbn w10 _).mono Hb710.out.size)) _ (HRw2.out w10)).mono ?_
     rintro e w11 ⟨A11, c11, rfl, hown11, hb11⟩
     have hb1011 := (hbn w10 (.cells #[.slice Ah 5 ch, .slice A7 U.length c7] 39)).trans (hb11.mono (hbn w10 _).size)
     have HB11 := Lib.hid (HB1.out.below hb1011 HB1.out.lt)
     have HKr11 := Lib.hid (HKr1.out.below hb1011)
     have Hb711 := Lib.hid (Hb710.out.trans (hb1011.mono Hb710.out.size))
     have hbw11 := Hbw7.out.trans (Hb711.out.mono Hbw7.out.size)
     have HRun2 := Lib.hid (run_script T2 A11 c11 w11 (own_rd encAc_len hown11) (by unfold maxLen; omega) HF2.out (HT.out _ hbw11).1 (HT.out _ hbw11).2)
     rw [HSc2.out] at HRun2
     clear hb11 hb1011 hbw11 hown11 HSc2 HF2 HC2 HRw2 HB1 HKr1 Hb710 HT
     go_wp2_with fail
     refine HRun2.out.mono ?_
     rintro e w12 ⟨R12, r12, ⟨A12, ca12, M12, cm12, N12, cn12, S12, cs12, Q12, cq12⟩, rfl, -, -, ⟨-, hkp⟩, hb12⟩
     have hcap2 : (Cf.setMem K mm).mem.length ≤ cm12 := hkp.capM
     simp only [kcells, HLen2.out]
     have HKr12 := Lib.hid hkp.rd
     have HB12 := Lib.hid (HB11.out.below hb12 HB11.out.lt)
     have HKa12 := Lib.hid (HKr11.out.below hb12)
     have Hb712 := Lib.hid (Hb711.out.trans (hb12.mono Hb711.out.size))
     clear hkp hb12 HRun2 HB11 HKr11 Hb711
     go_upto_region 19 with fail
     change Code.wp _ _ _ _ (w12.alloc (.cells #[.slice A12 K.mods.length ca12, .slice M12 mm.length cm12, .slice N12 K.nodes.length cn12, .slice S12 K.pipes.length cs12, .slice Q12 K.procs.length cq12] tKern))
     have HB2 := Lib.hid (Wb.new w12 tKern [.slice A12 K.mods.length ca12, .slice M12 mm.length cm12, .slice N12 K.nodes.length cn12, .slice S12 K.pipes.length cs12, .slice Q12 K.procs.length cq12])
     have HKb := Lib.hid (HKr12.out.below (hbn w12 (.cells #[.slice A12 K.mods.length ca12, .slice M12 mm.length cm12, .slice N12 K.nodes.length cn12, .slice S12 K.pipes.length cs12, .slice Q12 K.procs.length cq12] tKern)))
     have HB13 := Lib.hid (HB12.out.below (hbn w12 (.cells #[.slice A12 K.mods.length ca12, .slice M12 mm.length cm12, .slice N12 K.nodes.length cn12, .slice S12 K.pipes.length cs12, .slice Q12 K.procs.length cq12] tKern)) HB12.out.lt)
     have HKa := Lib.hid (HKa12.out.below (hbn w12 (.cells #[.slice A12 K.mods.length ca12, .slice M12 mm.length cm12, .slice N12 K.nodes.length cn12, .slice S12 K.pipes.length cs12, .slice Q12 K.procs.length cq12] tKern)))
     have Hbw13 := Lib.hid (Hbw7.out.trans ((Hb712.out.trans ((hbn w12 (.cells #[.slice A12 K.mods.length ca12, .slice M12 mm.length cm12, .slice N12 K.nodes.length cn12, .slice S12 K.pipes.length cs12, .slice Q12 K.procs.length cq12] tKern)).mono Hb712.out.size)).mono Hbw7.out.size))
     clear HKr12 HB12 HKa12 Hb712 hbn Hbw7
     generalize w12.heap.size = gk2 at *
     generalize w12.alloc (.cells #[.slice A12 K.mods.length ca12, .slice M12 mm.length cm12, .slice N12 K.nodes.length cn12, .slice S12 K.pipes.length cs12, .slice Q12 K.procs.length cq12] tKern) = w13 at *
     have hml := HQk.out.good.memL
     have hpl := HQk.out.good.procsL
     have hm9 : Ints w13 M9 K.mem := HKa.out.mem
     have hm12 : Ints w13 M12 mm := HKb.out.mem
     rcases hm9 with h0 | ⟨bm, om, rfl, hbm, hcm⟩
     ·rw [h0] at hml; simp at hml
     rcases hm12 with h0 | ⟨bn, on, rfl, hbn, hcn⟩
     ·have := HQk.out.len; rw [h0] at this; simp at this
     obtain ⟨xs, hxs, hxe⟩ := HKa.out.procs
     obtain ⟨ys, hys, hye⟩ := HKb.out.procs
     have hxs : RdS 2 encPv w13 Q9 xs := hxs
     have hys : RdS 2 encPv w13 Q12 ys := hys
     have hye : Each (IsP w13) ys K.procs := hye
     have hxl : xs.length = 4 := hxe.1.trans hpl
     have hyl : ys.length = 4 := hye.1.trans hpl
     rcases hxs with h0 | ⟨b1, o1, rfl, hb1, hc1⟩
     ·rw [h0] at hxl; simp at hxl
     rcases hys with h0 | ⟨b2, o2, rfl, hb2, hc2⟩
     ·rw [h0] at hyl; simp at hyl
     have HQ2 := fun m' n => Calls.quiet_of (equalN_same K.nodes N9 N12 cn9 cn12 ((w13.drewN m').drewN n) (RdS.below HKa.out.nodes (below_drewN (below_drewN (Below.refl _ _) m') n)) (RdS.below HKb.out.nodes (below_drewN (below_drewN (Below.refl _ _) m') n)) (by rw [HQk.out.good.nodesL]; unfold maxLen; omega))
     simp only [World.drewN_drewN] at HQ2
     have HQ2 := Lib.hid HQ2
     have HQ3 := fun m' n => Calls.quiet_of (equalS_same K.pipes S9 S12 cs9 cs12 ((w13.drewN m').drewN n) (RdS.below HKa.out.pipes (below_drewN (below_drewN (Below.refl _ _) m') n)) (RdS.below HKb.out.pipes (below_drewN (below_drewN (Below.refl _ _) m') n)) (by rw [HQk.out.good.pipesL]; unfold maxLen; omega))
     simp only [World.drewN_drewN] at HQ3
     have HQ3 := Lib.hid HQ3
     have hm1 := rd_drop (show Ints w13 (some ⟨bm, om, none⟩) K.mem from .inr ⟨bm, om, rfl, hbm, hcm⟩) 64
     have hm2 := rd_drop (show Ints w13 (some ⟨bn, on, none⟩) mm from .inr ⟨bn, on, rfl, hbn, hcn⟩) 64
     rw [HQk.out.same] at hm2
     have hdl : (K.mem.drop 64).length = 960 := by rw [List.length_drop, hml]
     have HQ4 := fun m' n => Calls.quiet_of (equalI_same (K.mem.drop 64) (some ⟨bm, om + 64, none⟩) (some ⟨bn, on + 64, none⟩) (cm9 - 64) (cm12 - 64) ((w13.drewN m').drewN n) (RdS.below hm1 (below_drewN (below_drewN (Below.refl _ _) m') n)) (RdS.below hm2 (below_drewN (below_drewN (Below.refl _ _) m') n)) (by rw [hdl]; unfold maxLen; omega))
     simp only [hdl, World.drewN_drewN] at HQ4
     have HQ4 := Lib.hid HQ4
     have hca : 1024 ≤ cm9 := by have := hcap1; rw [hml] at this; exact this
     have hcb : 1024 ≤ cm12 := by have := hcap2; rw [show (Cf.setMem K mm).mem = mm from rfl, HQk.out.len] at this; exact this
     have hcn1 : ¬ cm9 = 64 := by omega
     have hcn2 : ¬ cm12 = 64 := by omega
     have zb := HB13.out
     have z0 := zb.cell 0
     have z1 := zb.cell 1
     have z2 := zb.cell 2
     have z3 := zb.cell 3
     have z4 := zb.cell 4
     simp only [List.getElem?_cons_zero, List.getElem?_cons_succ] at z0 z1 z2 z3 z4
     have zl := zb.lt
     have yb := HB2.out
     have y0 := yb.cell 0
     have y1 := yb.cell 1
     have y2 := yb.cell 2
     have y3 := yb.cell 3
     have y4 := yb.cell 4
     simp only [List.getElem?_cons_zero, List.getElem?_cons_succ] at y0 y1 y2 y3 y4
     have yl := yb.lt
     simp only [hml] at z1
     simp only [HQk.out.len] at y1
     simp only [hpl] at z4 y4
     have HX1 := Lib.hid (And.intro hxe hc1)
     have HY1 := Lib.hid (And.intro hye hc2)
     have HPl := Lib.hid hpl
     have hng : ¬ ((T2.length : Int) < (T1.length : Int)) := by omega
     clear hm1 hm2 hdl hcm hcn hxe hye hc1 hc2 HB13 HB2 HKa HKb zb yb hml hpl hcap1 hcap2 HLen1 HLen2 HCL1 HCL2
     go_wp2
     go_loopw [130] (fun iv wr => ∃ k m : Nat, k ≤ 4 ∧ iv = .int .i64 k ∧ wr = w13.drewN m) (fun iv _ => 4 - (intOf iv).toNat)
     case atStart => exact ⟨0, 0, by omega, rfl, rfl⟩
     case round =>
      obtain ⟨k, m', hk, rfl, rfl⟩ := hrel
      by_cases hlt : k < 4
      ·obtain ⟨pl, pe, hp⟩ : ∃ pl pe, K.procs[k]? = some ⟨pl, pe⟩ := ⟨_, _, List.getElem?_eq_getElem (by rw [HPl.out]; exact hlt)⟩
       obtain ⟨lv1, E1, le1, ce1, hx1⟩ : ∃ lv A1 le c1, xs[k]? = some ⟨lv, A1, le, c1⟩ := ⟨_, _, _, _, List.getElem?_eq_getElem (by rw [hxl]; exact hlt)⟩
       obtain ⟨lv2, E2, le2, ce2, hx2⟩ : ∃ lv A1 le c1, ys[k]? = some ⟨lv, A1, le, c1⟩ := ⟨_, _, _, _, List.getElem?_eq_getElem (by rw [hyl]; exact hlt)⟩
       obtain ⟨i1, i2, i3⟩ := HX1.out.1.2 k _ _ hx1 hp
       obtain ⟨j1, j2, j3⟩ := HY1.out.1.2 k _ _ hx2 hp
       simp only at i1 i2 i3 j1 j2 j3
       have i1 := i1.symm
       have i2 := i2.symm
       have j1 := j1.symm
       have j2 := j2.symm
       subst i1 i2
       subst j1 j2
       have d0 : w13.cell? ⟨b1, o1 + k * 2, none⟩ = some (.bool pl) := HX1.out.2 k _ hx1 0 _ rfl
       have d1 : w13.cell? ⟨b1, o1 + k * 2 + 1, none⟩ = some (.slice E1 pe.length ce1) := HX1.out.2 k _ hx1 1 _ rfl
       have f0 : w13.cell? ⟨b2, o2 + k * 2, none⟩ = some (.bool pl) := HY1.out.2 k _ hx2 0 _ rfl
       have f1 : w13.cell? ⟨b2, o2 + k * 2 + 1, none⟩ = some (.slice E2 pe.length ce2) := HY1.out.2 k _ hx2 1 _ rfl
       have hpe : pe.length = 6 := HQk.out.good.ends _ (List.mem_of_getElem? hp)
       have HQ1 := fun n => Calls.quiet_of (equalE_same pe E1 E2 ce1 ce2 ((w13.drewN m').drewN n) (RdS.below i3 (below_drewN (below_drewN (Below.refl _ _) m') n)) (RdS.below j3 (below_drewN (below_drewN (Below.refl _ _) m') n)) (by rw [hpe]; unfold maxLen; omega))
       simp only [World.drewN_drewN] at HQ1
       have HQ1 := Lib.hid HQ1
       clear hp hx1 hx2 i3 j3 hpe
       go_wp2_with fail
       go_quiet ((first | (go_at_call 33; with_reducible exact HQ1.out _)))
       go_wp2
       go_roundw
       case rel => exact ⟨k + 1, _, by omega, by go_num, rfl⟩
       case measure => simp [intOf]; omega
      ·obtain rfl : k = 4 := by omega
       rw [show ((4 : Nat) : Int) = 4 from rfl]
       go_wp2_with fail
       go_quiet ((first | (go_at_call 23; with_reducible exact HQ2.out _ _) | (go_at_call 24; with_reducible exact HQ3.out _ _) | (go_at_call 25; with_reducible exact HQ4.out _ _)))
       go_wp2
       go_ret
       exact ⟨rfl, below_drewN (below_drewN Hbw13.out _) _⟩
end Go.Proofs.YtnnhhbjbdmgpiaaGreatDoor
