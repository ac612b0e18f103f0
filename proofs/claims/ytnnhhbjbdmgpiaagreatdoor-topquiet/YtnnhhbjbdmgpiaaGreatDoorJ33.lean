/- Texts of the proofs: ActR, ActQ, ActP. -/
import Derived.Test.YtnnhhbjbdmgpiaaGreatDoorJ32
import Derived.Test.YtnnhhbjbdmgpiaaGreatDoorJ13
import Derived.Test.YtnnhhbjbdmgpiaaGreatDoorJ27
import Derived.Test.YtnnhhbjbdmgpiaaGreatDoorJ07
set_option linter.unusedSimpArgs false
set_option linter.unusedVariables false
/- Walks of chapter 5: the program's ask. (tools/gen/actr.py) -/
namespace Go.Proofs.YtnnhhbjbdmgpiaaGreatDoor
set_option maxRecDepth 100000
open Go.RowKit
theorem row_nw {w : World} {base : Nat} {A : Option Addr} {c : Nat} {l : List Int} (h : Row w base (.slice A l.length c) l) : Nw 1 encZ w tInt base A l := by
 rcases h.2 with ⟨_, h0⟩ | ⟨g, cap, cur, hv, hb, hh, hn, _, hs, ht⟩
 ·exact .inl (List.eq_nil_of_length_eq_zero h0)
 ·cases hv
  refine .inr ⟨g, rfl, hb, fun _ => rfl, cur.toList.drop (l.length * 1), ?_⟩
  unfold Wb
  have e : l.flatMap encZ = l.map (Value.int .i64) := by
   clear ht hs hn hh h
   induction l with
   | nil => rfl
   | cons x l ih => rw [List.flatMap_cons, ih]; rfl
  rw [e, ← ht, List.take_append_drop]
  exact hh
def Tabs (B : Nat) (wb : World) : Prop := ∀ W, Below B wb W → TabL W ∧ TabF W
section
variable {B : Nat} {wb : World} {g : Nat} {a : KA} {xs : List MV} {ps : List PV} {k : Cf.Kern} {w : World}
structure MAt (a : KA) (xs : List MV) (k : Cf.Kern) (u gA : Nat) (nm : List UInt8) (A1 : Option Addr) (code : List Cf.Ins) (c1 : Nat) (B1 : Option Addr) (data : List Int) (e1 : Nat) : Prop where
 A : a.A = some ⟨gA, 0, none⟩
 mv : xs[u]? = some ⟨nm, A1, code.length, c1, B1, data.length, e1⟩
 md : k.mods[u]? = some ⟨nm, code, data⟩
theorem KSt.mat (h : KSt B wb g a xs ps k w) {u : Nat} (hu : u < k.mods.length) : ∃ gA nm A1 code c1 B1 data e1, MAt a xs k u gA nm A1 code c1 B1 data e1 := by
 have hl : u < xs.length := by rw [h.own.each.1]; exact hu
 obtain ⟨h1, h2, h3, _, _⟩ := h.own.each.2 u _ _ (List.getElem?_eq_getElem hl) (List.getElem?_eq_getElem hu)
 rcases h.own.row.2 with ⟨_, h0⟩ | ⟨gA, cap, cur, hv, _⟩
 ·omega
 ·injection hv with hA _ _
  refine ⟨gA, xs[u].name, xs[u].A, k.mods[u].code, xs[u].ca, xs[u].B, k.mods[u].data, xs[u].cb, hA, ?_, ?_⟩
  ·rw [List.getElem?_eq_getElem hl, ← h2, ← h3]
  ·rw [List.getElem?_eq_getElem hu, h1]
theorem KSt.m1 (h : KSt B wb g a xs ps k w) {u gA : Nat} {nm : List UInt8} {A1 : Option Addr} {code : List Cf.Ins} {c1 : Nat} {B1 : Option Addr} {data : List Int} {e1 : Nat} (hM : MAt a xs k u gA nm A1 code c1 B1 data e1) :
  w.cell? ⟨gA, u * 3 + 1, none⟩ = some (.slice A1 code.length c1) ∧ gA < w.heap.size ∧ Codes w A1 code := by
 have hr := own_rd encMv_len h.own.row
 rw [hM.A] at hr
 obtain ⟨_, _, _, h4, _⟩ := h.own.each.2 u _ _ hM.mv hM.md
 rcases hr with h0 | ⟨b, off, hb, hlt, hc⟩
 ·have := hM.mv
  rw [h0] at this
  simp at this
 ·cases hb
  have := hc u _ hM.mv 1 (.slice A1 code.length c1) rfl
  rw [Nat.zero_add] at this
  exact ⟨this, hlt, h4.rd⟩
theorem KSt.putMem {w1 : World} (h : KSt B wb g a xs ps k w) (hb : Below w.heap.size w w1) {M' : Option Addr} {c' : Nat} {m : List Int} (hN : Nw 1 encZ w1 tInt w.heap.size M' m) (hl : m.length = k.mem.length) (hc : m.length ≤ c') :
  KSt B wb g { a with M := M', cm := c' } xs ps ⟨k.mods, m, k.nodes, k.pipes, k.procs⟩ (w1.setCell ⟨g, 1, none⟩ (.slice M' m.length c')) := by
 have h1 := h.below hb
 have hx := h1.box
 refine ⟨?_, ⟨own_setCell h1.own.row (own_off h1.own.row hx (by decide)) _, h1.own.each.offM hx (by decide) (by decide) _ _, (hN.mono h.room).offW hx (by decide) _ _, h1.own.nodes.offW hx (by decide) _ _, h1.own.pipes.offW hx (by decide) _ _, h1.own.procs.offW hx (by decide) _ _, h1.own.ends.offE hx (by decide) _ _, h1.own.apart, ?_, hc⟩, h.lo, h1.keep.setCell h.lo _⟩
 ·have := hx.put 1 (.slice M' m.length c')
  exact this
 ·intro x hxm
  obtain ⟨i, hi⟩ := List.mem_iff_getElem?.1 hxm
  have hil : i < k.mods.length := by rw [← h.own.each.1]; exact (List.getElem?_eq_some_iff.1 hi).1
  obtain ⟨_, _, h3, _, h5⟩ := h.own.each.2 i _ _ hi (List.getElem?_eq_getElem hil)
  rcases h5 with h5 | ⟨b, h5, _, h6⟩
  ·exact .inl (by rw [h3, h5]; rfl)
  ·rcases hN with hN | ⟨b', hN, hb', _⟩
   ·exact .inr (.inl hN)
   ·refine .inr (.inr ?_)
    rw [h5, hN]
    intro he
    cases he
    have := h6.lt
    omega
end
def KpG (g : Nat) (w w' : World) : Prop := w.heap.size ≤ w'.heap.size ∧ ∀ b, b < w.heap.size → b ≠ g → w'.heap[b]? = w.heap[b]?
theorem KpG.of {g : Nat} {w w' : World} (h : Below w.heap.size w w') : KpG g w w' := ⟨h.size, fun b hb _ => h.block b hb⟩
theorem KpG.put {g : Nat} {w w' : World} (h : KpG g w w') (i : Nat) (u : Value) : KpG g w (w'.setCell ⟨g, i, none⟩ u) :=
 ⟨by rw [show (w'.setCell ⟨g, i, none⟩ u).heap.size = w'.heap.size by simp [World.setCell]]; exact h.1, fun b hb hne => by rw [Below.heap_setCell w' ⟨g, i, none⟩ u b (fun he => hne he)]; exact h.2 b hb hne⟩
theorem KpG.trans {g : Nat} {w w1 w2 : World} (h : KpG g w w1) (h' : KpG g w1 w2) : KpG g w w2 := ⟨Nat.le_trans h.1 h'.1, fun b hb hne => (h'.2 b (Nat.lt_of_lt_of_le hb h.1) hne).trans (h.2 b hb hne)⟩
theorem KpG.draw {g : Nat} {w w1 : World} (h : KpG g w w1) (n : Nat) : KpG g w (w1.drewN n) := h
theorem KpG.wb {g : Nat} {w w' : World} (h : KpG g w w') {b : Nat} {t : TypeId} {cs : List Value} (hb : Wb w b t cs) (hne : b ≠ g) : Wb w' b t cs := by
 unfold Wb
 rw [h.2 b hb.lt hne]
 exact hb
theorem KpG.kpA {g : Nat} {w w' : World} (h : KpG g w w') {ds : List Value} (hg : Wb w g tKern ds) : KpA w w' := fun _ _ hb => h.wb hb (hb.other hg (by decide))
def AskPost (B : Nat) (wb : World) (g : Nat) (w : World) (k : Cf.Kern) (q : Cf.Asked) (e : Ending) (w' : World) : Prop :=
 e = .returned (.tuple #[.int .i64 q.word, .bool q.ok]) ∧ (∃ a xs ps, KSt B wb g a xs ps (Cf.setMem k q.mem) w') ∧ KpG g w w'
theorem one_out (z s0 s1 s2 s3 s4 s5 s6 s7 : Int) (T M : Option Addr) (a b c d : Nat) : (#[.int .i64 z, .int .i64 s0, .int .i64 s1, .int .i64 s2, .int .i64 s3, .int .i64 s4, .int .i64 s5, .int .i64 s6, .int .i64 s7, .slice T a b, .slice M c d] : Array Value).all (·.oneCell') = true := all_oneCell_toArray (by intro v hv; simp at hv; rcases hv with rfl | rfl | rfl | rfl | rfl | rfl | rfl | rfl | rfl | rfl | rfl <;> rfl)
theorem row_cells {base gO : Nat} {t : TypeId} {v : Value} {l : List Int} (hne : tInt ≠ t) : ∀ (vs : List Value) (o : Nat) (w : World) (cs : List Value), Row w base v l → Wb w gO t cs → Row (w.setCells gO o vs) base v l
 | [], _, _, _, h, _ => h
 | u :: vs, o, w, cs, h, hg => row_cells hne vs (o + 1) (w.setCell ⟨gO, o, none⟩ u) _ (h.setCell (p := ⟨gO, o, none⟩) (own_off h hg hne) u) (hg.put o u)
abbrev tOut : TypeId := 175
def AskCut (w : World) (o : Cf.Out) (e9 p10 : Value) (wx : World) : Prop :=
 ∃ (gO : Nat) (T M : Option Addr) (ct cm : Nat), p10 = .pointer (some ⟨gO, 0, none⟩) ∧ e9 = .int .i64 o.err ∧ Wb wx gO tOut (.int .i64 o.fin :: (o.regs.map (Value.int .i64) ++ [.slice T o.told.length ct, .slice M o.mem.length cm])) ∧ Row wx w.heap.size (.slice M o.mem.length cm) o.mem ∧ o.mem.length ≤ cm ∧ Below w.heap.size w wx
set_option maxRecDepth 100000 in
set_option maxHeartbeats 2000000 in
theorem ask_any {B : Nat} {wb : World} {g : Nat} {a : KA} {xs : List MV} {ps : List PV} (k : Cf.Kern) (u : Nat) (x : Int) (w : World) (h : KSt B wb g a xs ps k w) (hG : Cf.Good k) (hu : u < k.mods.length) (hx : 0 ≤ x ∧ x ≤ 65535) (hT : Tabs B wb) :
  Calls Tryz.prog 162 #[.pointer (some ⟨g, 0, none⟩), .int .i64 u, .int .i64 x] w (AskPost B wb g w k (Cf.askT k u x)) := by
 obtain ⟨A, ca, M0, cm, N, cn, S, cs, Q, cq⟩ := a
 obtain ⟨gA, nm, A1, code, c1, B1, data, e1, hM⟩ := h.mat hu
 have hA := hM.A
 simp only at hA
 subst hA
 have hu8 : u < 8 := by have := hG.modsL; omega
 have hml : k.mods.length ≤ 8 := hG.modsL
 have huI : (u : Int) < (k.mods.length : Int) := by omega
 have hcode : (k.mods.getD u Cf.noMod).code = code := by rw [List.getD_eq_getElem?_getD, hM.md]; rfl
 obtain ⟨z, s0, s1, s2, s3, s4, s5, s6, s7, told, mm, er, e8, _, _⟩ := runT_8 code x 0 0 0 (64 * (u : Int)) (64 * (u : Int)) 63 0 k.mem 2000
 have HO := Lib.hid (show Cf.askO k u x = ⟨z, [s0, s1, s2, s3, s4, s5, s6, s7], told, mm, er⟩ by unfold Cf.askO Cf.askR; rw [hcode]; exact e8)
 have hmm : er = 0 → mm.length = k.mem.length := fun he => by
  have := (Cf.runT_words (l := code) (regs := [x, 0, 0, 0, 64 * (u : Int), 64 * (u : Int), 63, 0]) (mem := k.mem) (fuel := 2000) rfl (by rw [e8]; exact he)).2.1
  rw [e8] at this
  exact this
 have hcl : code.length ≤ 200 := Cf.fault_len code (Cf.safe_fault (Cf.mod_parts (hG.mod _ (List.mem_of_getElem? hM.md))).2.2.2)
 have H := Lib.hid h
 have HM := Lib.hid hM
 have HRun := Lib.hid (fun W (hW : Below w.heap.size w W) => by
  have h1 := h.below hW
  have := run_anyE code A1 c1 x 0 0 0 (64 * (u : Int)) (64 * (u : Int)) 63 0 k.mem M0 cm 2000 W (h1.m1 hM).2.2 (hT W h1.keep).1 (hT W h1.keep).2 (by unfold maxLen; omega) h1.own.mem.rd (by rw [hG.memL]; unfold maxLen; omega)
  rw [e8] at this
  exact this)
 have HEn := Lib.hid (fun W => enter_fine u x W (by omega) (by omega) hx.1 hx.2)
 have Heg := Lib.hid (fun args w => show (callFunc 169 args).run Tryz.prog w = .ok (.enter 169 args) w by simp [go_sem])
 have HmL := Lib.hid hG.memL
 have Hmm := Lib.hid hmm
 have HAt := Lib.hid (show Cf.askT k u x = if er = 0 ∧ z = 1 then ⟨mm, s0, true⟩ else ⟨k.mem, 0, false⟩ by
  unfold Cf.askT
  rw [HO.out]
  rfl)
 generalize Cf.askT k u x = q at *
 clear h hG hM hcode e8 hT hmm hcl HO
 go_enter Tryz.func162, Tryz.ntmps162
 go_wp2_with fail
 refine (HEn.out _).mono ?_
 rintro e w1 ⟨rfl, hb1⟩
 have HW1 := Lib.hid hb1
 clear hb1 HEn
 go_upto_region 4 with fail
 have HB2 := Lib.hid (Wb.new w1 171 [.int .i64 x, .int .i64 0, .int .i64 0, .int .i64 0, .int .i64 (64 * (u : Int)), .int .i64 (64 * (u : Int)), .int .i64 63, .int .i64 0])
 have hb2 : Below w.heap.size w (w1.alloc (.cells #[.int .i64 x, .int .i64 0, .int .i64 0, .int .i64 0, .int .i64 (64 * (u : Int)), .int .i64 (64 * (u : Int)), .int .i64 63, .int .i64 0] 171)) := HW1.out.alloc HW1.out.size _
 generalize hgR : w1.heap.size = gR at *
 clear hgR
 generalize w1.alloc (.cells #[.int .i64 x, .int .i64 0, .int .i64 0, .int .i64 0, .int .i64 (64 * (u : Int)), .int .i64 (64 * (u : Int)), .int .i64 63, .int .i64 0] 171) = w2 at *
 have HW2 := Lib.hid hb2
 clear HW1 hb2
 go_cut [9, 10] from 19 to 36 (fun e9 p10 wx => AskCut w ⟨z, [s0, s1, s2, s3, s4, s5, s6, s7], told, mm, er⟩ e9 p10 wx)
 case first =>
  have hK2 := H.out.below HW2.out
  have k0 := hK2.ptr.c0
  have k1 := hK2.ptr.c1
  have kl := hK2.box.lt
  obtain ⟨m1, ml, _⟩ := hK2.m1 HM.out
  have hB2 := HB2.out
  have q0 := hB2.cell 0
  have q1 := hB2.cell 1
  have q2 := hB2.cell 2
  have q3 := hB2.cell 3
  have q4 := hB2.cell 4
  have q5 := hB2.cell 5
  have q6 := hB2.cell 6
  have q7 := hB2.cell 7
  simp only [List.getElem?_cons_zero, List.getElem?_cons_succ] at q0 q1 q2 q3 q4 q5 q6 q7
  have ql := hB2.lt
  have hbw := HW2.out
  clear hK2 hB2 HB2 HW2
  refine wp_region_noPanic ?_
  refine wp_region_held_drew (S := fun W => Below w2.heap.size w2 W) (by kernel_rfl) ((Below.refl _ _).drew) (fun hHeld => ?_)
  refine wpAnyH_take (i := 0) (oi := { dst := some 20, op := Op.move (Operand.tmp 0), type := 82, pos := "transfer.go:135", after := #[], guard := none }) (v := .pointer (some ⟨g, 0, none⟩)) rfl (by kernel_rfl) (by kernel_rfl) (by kernel_rfl) (fun _ _ _ h => h) (Or.inl ⟨by kernel_rfl, fun wq hSw => by ((try dsimp only at hSw); go_simp)⟩) hHeld ?_
  (try simp only [Act.put, List.setIfInBounds_toArray, List.set_cons_zero, List.set_cons_succ])
  refine wpAnyH_take (i := 1) (oi := { dst := some 21, op := Op.nilCheck (Operand.tmp 20), type := 0, pos := "transfer.go:135", after := #[{ on := 0, ground := Ground.data }], guard := none }) (v := .pointer (some ⟨g, 0, none⟩)) rfl (by kernel_rfl) (by kernel_rfl) (by kernel_rfl) (fun _ _ _ h => h) (Or.inl ⟨by kernel_rfl, fun wq hSw => by ((try dsimp only at hSw); go_simp)⟩) hHeld ?_
  (try simp only [Act.put, List.setIfInBounds_toArray, List.set_cons_zero, List.set_cons_succ])
  refine wpAnyH_take (i := 2) (oi := { dst := some 22, op := Op.fieldAddr 28 (Operand.tmp 21) 0, type := 0, pos := "transfer.go:135", after := #[{ on := 1, ground := Ground.data }], guard := none }) (v := .pointer (some ⟨g, 0, none⟩)) rfl (by kernel_rfl) (by kernel_rfl) (by kernel_rfl) (fun _ _ _ h => h) (Or.inl ⟨by kernel_rfl, fun wq hSw => by ((try dsimp only at hSw); go_simp)⟩) hHeld ?_
  (try simp only [Act.put, List.setIfInBounds_toArray, List.set_cons_zero, List.set_cons_succ])
  refine wpAnyH_take (i := 3) (oi := { dst := some 23, op := Op.load 22 (Operand.tmp 22), type := 22, pos := "transfer.go:135", after := #[{ on := 2, ground := Ground.data }], guard := none }) (v := .slice (some ⟨gA, 0, none⟩) k.mods.length ca) rfl (by kernel_rfl) (by kernel_rfl) (by kernel_rfl) (fun _ _ _ h => h) (Or.inl ⟨by kernel_rfl, fun wq hSw => by (have kk := (hSw.cell (p := ⟨g, 0, none⟩) kl).trans k0; clear hSw; go_simp)⟩) hHeld ?_
  (try simp only [Act.put, List.setIfInBounds_toArray, List.set_cons_zero, List.set_cons_succ])
  refine wpAnyH_take (i := 4) (oi := { dst := some 24, op := Op.move (Operand.tmp 1), type := 3, pos := "transfer.go:135", after := #[], guard := none }) (v := .int .i64 u) rfl (by kernel_rfl) (by kernel_rfl) (by kernel_rfl) (fun _ _ _ h => h) (Or.inl ⟨by kernel_rfl, fun wq hSw => by ((try dsimp only at hSw); go_simp)⟩) hHeld ?_
  (try simp only [Act.put, List.setIfInBounds_toArray, List.set_cons_zero, List.set_cons_succ])
  refine wpAnyH_take (i := 5) (oi := { dst := some 25, op := Op.indexAddr 22 (Operand.tmp 23) (Operand.tmp 24), type := 0, pos := "transfer.go:135", after := #[{ on := 3, ground := Ground.data }, { on := 4, ground := Ground.data }], guard := none }) (v := .pointer (some ⟨gA, u * 3, none⟩)) rfl (by kernel_rfl) (by kernel_rfl) (by kernel_rfl) (fun _ _ _ h => h) (Or.inl ⟨by kernel_rfl, fun wq hSw => by ((try dsimp only at hSw); go_simp)⟩) hHeld ?_
  (try simp only [Act.put, List.setIfInBounds_toArray, List.set_cons_zero, List.set_cons_succ])
  refine wpAnyH_take (i := 6) (oi := { dst := some 26, op := Op.fieldAddr 79 (Operand.tmp 25) 1, type := 0, pos := "transfer.go:135", after := #[{ on := 5, ground := Ground.data }], guard := none }) (v := .pointer (some ⟨gA, u * 3 + 1, none⟩)) rfl (by kernel_rfl) (by kernel_rfl) (by kernel_rfl) (fun _ _ _ h => h) (Or.inl ⟨by kernel_rfl, fun wq hSw => by ((try dsimp only at hSw); go_simp)⟩) hHeld ?_
  (try simp only [Act.put, List.setIfInBounds_toArray, List.set_cons_zero, List.set_cons_succ])
  refine wpAnyH_take (i := 7) (oi := { dst := some 27, op := Op.load 77 (Operand.tmp 26), type := 77, pos := "transfer.go:135", after := #[{ on := 6, ground := Ground.data }], guard := none }) (v := .slice A1 code.length c1) rfl (by kernel_rfl) (by kernel_rfl) (by kernel_rfl) (fun _ _ _ h => h) (Or.inl ⟨by kernel_rfl, fun wq hSw => by (have kk := (hSw.cell (p := ⟨gA, u * 3 + 1, none⟩) ml).trans m1; clear hSw; go_simp)⟩) hHeld ?_
  (try simp only [Act.put, List.setIfInBounds_toArray, List.set_cons_zero, List.set_cons_succ])
  refine wpAnyH_take (i := 8) (oi := { dst := some 28, op := Op.load 171 (Operand.tmp 8), type := 171, pos := "transfer.go:135", after := #[], guard := none }) (v := .agg #[.int .i64 x, .int .i64 0, .int .i64 0, .int .i64 0, .int .i64 (64 * (u : Int)), .int .i64 (64 * (u : Int)), .int .i64 63, .int .i64 0]) rfl (by kernel_rfl) (by kernel_rfl) (by kernel_rfl) (fun _ _ _ h => h) (Or.inl ⟨by kernel_rfl, fun wq hSw => by (have qq0 := (hSw.cell (p := ⟨gR, 0, none⟩) ql).trans q0; have qq1 := (hSw.cell (p := ⟨gR, 1, none⟩) ql).trans q1; have qq2 := (hSw.cell (p := ⟨gR, 2, none⟩) ql).trans q2; have qq3 := (hSw.cell (p := ⟨gR, 3, none⟩) ql).trans q3; have qq4 := (hSw.cell (p := ⟨gR, 4, none⟩) ql).trans q4; have qq5 := (hSw.cell (p := ⟨gR, 5, none⟩) ql).trans q5; have qq6 := (hSw.cell (p := ⟨gR, 6, none⟩) ql).trans q6; have qq7 := (hSw.cell (p := ⟨gR, 7, none⟩) ql).trans q7; clear hSw; go_simp)⟩) hHeld ?_
  (try simp only [Act.put, List.setIfInBounds_toArray, List.set_cons_zero, List.set_cons_succ])
  refine wpAnyH_take (i := 9) (oi := { dst := some 29, op := Op.move (Operand.tmp 0), type := 82, pos := "transfer.go:135", after := #[], guard := none }) (v := .pointer (some ⟨g, 0, none⟩)) rfl (by kernel_rfl) (by kernel_rfl) (by kernel_rfl) (fun _ _ _ h => h) (Or.inl ⟨by kernel_rfl, fun wq hSw => by ((try dsimp only at hSw); go_simp)⟩) hHeld ?_
  (try simp only [Act.put, List.setIfInBounds_toArray, List.set_cons_zero, List.set_cons_succ])
  refine wpAnyH_take (i := 10) (oi := { dst := some 30, op := Op.nilCheck (Operand.tmp 29), type := 0, pos := "transfer.go:135", after := #[{ on := 9, ground := Ground.data }], guard := none }) (v := .pointer (some ⟨g, 0, none⟩)) rfl (by kernel_rfl) (by kernel_rfl) (by kernel_rfl) (fun _ _ _ h => h) (Or.inl ⟨by kernel_rfl, fun wq hSw => by ((try dsimp only at hSw); go_simp)⟩) hHeld ?_
  (try simp only [Act.put, List.setIfInBounds_toArray, List.set_cons_zero, List.set_cons_succ])
  refine wpAnyH_take (i := 11) (oi := { dst := some 31, op := Op.fieldAddr 28 (Operand.tmp 30) 1, type := 0, pos := "transfer.go:135", after := #[{ on := 10, ground := Ground.data }], guard := none }) (v := .pointer (some ⟨g, 1, none⟩)) rfl (by kernel_rfl) (by kernel_rfl) (by kernel_rfl) (fun _ _ _ h => h) (Or.inl ⟨by kernel_rfl, fun wq hSw => by ((try dsimp only at hSw); go_simp)⟩) hHeld ?_
  (try simp only [Act.put, List.setIfInBounds_toArray, List.set_cons_zero, List.set_cons_succ])
  refine wpAnyH_take (i := 12) (oi := { dst := some 32, op := Op.load 23 (Operand.tmp 31), type := 23, pos := "transfer.go:135", after := #[{ on := 11, ground := Ground.data }], guard := none }) (v := .slice M0 k.mem.length cm) rfl (by kernel_rfl) (by kernel_rfl) (by kernel_rfl) (fun _ _ _ h => h) (Or.inl ⟨by kernel_rfl, fun wq hSw => by (have kk := (hSw.cell (p := ⟨g, 1, none⟩) kl).trans k1; clear hSw; go_simp)⟩) hHeld ?_
  (try simp only [Act.put, List.setIfInBounds_toArray, List.set_cons_zero, List.set_cons_succ])
  refine wpAnyH_ready (rs := [13, 17]) (by kernel_rfl) (by simp) ?_
  refine AllReadyH.cons (o := { dst := some 33, op := Op.call { callee := Callee.value (Operand.func 169), args := #[Operand.tmp 27, Operand.tmp 28, Operand.tmp 32, Operand.const (Value.int IntKind.i64 2000)], argTypes := #[77, 171, 23, 3] }, type := 176, pos := "transfer.go:135", after := #[{ on := 7, ground := Ground.data }, { on := 8, ground := Ground.data }, { on := 12, ground := Ground.data }], guard := none }) rfl (fun K hK => ?_) (AllReadyH.cons (o := { dst := some 10, op := Op.alloc 175, type := 0, pos := "transfer.go:135", after := #[], guard := none }) rfl (fun K hK => ?_) AllReadyH.nil)
  ·have HRn := Lib.hid (HRun.out _ (hbw.trans (hHeld.mono hbw.size)))
   go_simp
   go_at_call 169; refine HRn.out.mono ?_; rintro e w5 ⟨T, M, ct, cm2, rfl, hT5, hM5, hb5, hcm5, hfr5, hrw5⟩
   dsimp only at hcm5 hrw5 ⊢
   simp only [List.map_cons, List.map_nil, List.cons_append, List.nil_append]
   go_wp2_with fail
   have Hcm5 := Lib.hid hcm5
   have Hrw5 := Lib.hid (Row.base hrw5 (Nat.le_trans hbw.size hHeld.size))
   refine hK.out _ _ (hHeld.trans (hb5.mono hHeld.size)) (fun hHeld => ?_)
   clear hK K HRn hT5 hM5 hcm5 hfr5 hrw5
   (try simp only [Act.put, List.setIfInBounds_toArray, List.set_cons_zero, List.set_cons_succ])
   refine wpAnyH_take (i := 14) (oi := { dst := some 19, op := Op.move (Operand.tmp 33), type := 176, pos := "transfer.go:135", after := #[{ on := 13, ground := Ground.data }], guard := none }) (v := .tuple #[.agg #[.int .i64 z, .int .i64 s0, .int .i64 s1, .int .i64 s2, .int .i64 s3, .int .i64 s4, .int .i64 s5, .int .i64 s6, .int .i64 s7, .slice T told.length ct, .slice M mm.length cm2], .int .i64 er]) rfl (by kernel_rfl) (by kernel_rfl) (by kernel_rfl) (fun _ _ _ h => h) (Or.inl ⟨by kernel_rfl, fun wq hSw => by ((try dsimp only at hSw); go_simp)⟩) hHeld ?_
   (try simp only [Act.put, List.setIfInBounds_toArray, List.set_cons_zero, List.set_cons_succ])
   refine wpAnyH_take (i := 15) (oi := { dst := some 34, op := Op.extract (Operand.tmp 19) 0, type := 175, pos := "transfer.go:135", after := #[{ on := 14, ground := Ground.data }], guard := none }) (v := .agg #[.int .i64 z, .int .i64 s0, .int .i64 s1, .int .i64 s2, .int .i64 s3, .int .i64 s4, .int .i64 s5, .int .i64 s6, .int .i64 s7, .slice T told.length ct, .slice M mm.length cm2]) rfl (by kernel_rfl) (by kernel_rfl) (by kernel_rfl) (fun _ _ _ h => h) (Or.inl ⟨by kernel_rfl, fun wq hSw => by ((try dsimp only at hSw); go_simp)⟩) hHeld ?_
   (try simp only [Act.put, List.setIfInBounds_toArray, List.set_cons_zero, List.set_cons_succ])
   refine wpAnyH_take (i := 16) (oi := { dst := some 35, op := Op.extract (Operand.tmp 19) 1, type := 32, pos := "transfer.go:135", after := #[{ on := 14, ground := Ground.data }, { on := 18, ground := Ground.gcOnly Departure.lateStores }], guard := none }) (v := .int .i64 er) rfl (by kernel_rfl) (by kernel_rfl) (by kernel_rfl) (fun _ _ _ h => h) (Or.inl ⟨by kernel_rfl, fun wq hSw => by ((try dsimp only at hSw); go_simp)⟩) hHeld ?_
   (try simp only [Act.put, List.setIfInBounds_toArray, List.set_cons_zero, List.set_cons_succ])
   have hHeld' := hHeld
   refine wpAnyH_ready (rs := [17]) (by kernel_rfl) (by simp) ?_
   refine AllReadyH.cons (o := { dst := some 10, op := Op.alloc 175, type := 0, pos := "transfer.go:135", after := #[], guard := none }) rfl (fun K hK => ?_) AllReadyH.nil
   go_simp
   have hsz := hHeld.size
   refine hK.out _ _ (hHeld.alloc hHeld.size _) (fun hHeld => ?_)
   clear hK K
   (try simp only [Act.put, List.setIfInBounds_toArray, List.set_cons_zero, List.set_cons_succ])
   refine wpAnyH_ready (rs := [18]) (by kernel_rfl) (by simp) ?_
   refine AllReadyH.cons (o := { dst := none, op := Op.store 175 (Operand.tmp 10) (Operand.tmp 34), type := 0, pos := "transfer.go:135", after := #[{ on := 17, ground := Ground.data }, { on := 15, ground := Ground.data }, { on := 13, ground := Ground.chain }, { on := 0, ground := Ground.phase }, { on := 1, ground := Ground.phase }, { on := 2, ground := Ground.phase }, { on := 3, ground := Ground.phase }, { on := 4, ground := Ground.phase }, { on := 5, ground := Ground.phase }, { on := 6, ground := Ground.phase }, { on := 7, ground := Ground.phase }, { on := 8, ground := Ground.phase }, { on := 9, ground := Ground.phase }, { on := 10, ground := Ground.phase }, { on := 11, ground := Ground.phase }, { on := 12, ground := Ground.phase }, { on := 13, ground := Ground.phase }, { on := 14, ground := Ground.phase }, { on := 15, ground := Ground.phase }, { on := 16, ground := Ground.textOnly Departure.lateStores }, { on := 17, ground := Ground.phase }], guard := none }) rfl (fun K hK => ?_) AllReadyH.nil
   go_simp
   refine hK.out _ _ (hHeld'.alloc hHeld'.size _) (fun hHeld => ?_)
   clear hK K
   (try simp only [Act.put, List.setIfInBounds_toArray, List.set_cons_zero, List.set_cons_succ])
   refine wpAnyH_take (i := 19) (oi := { dst := some 9, op := Op.assign (Operand.tmp 35), type := 32, pos := "transfer.go:135", after := #[{ on := 16, ground := Ground.data }, { on := 18, ground := Ground.chain }, { on := 0, ground := Ground.phase }, { on := 1, ground := Ground.phase }, { on := 2, ground := Ground.phase }, { on := 3, ground := Ground.phase }, { on := 4, ground := Ground.phase }, { on := 5, ground := Ground.phase }, { on := 6, ground := Ground.phase }, { on := 7, ground := Ground.phase }, { on := 8, ground := Ground.phase }, { on := 9, ground := Ground.phase }, { on := 10, ground := Ground.phase }, { on := 11, ground := Ground.phase }, { on := 12, ground := Ground.phase }, { on := 13, ground := Ground.phase }, { on := 14, ground := Ground.phase }, { on := 15, ground := Ground.phase }, { on := 16, ground := Ground.phase }, { on := 17, ground := Ground.phase }, { on := 18, ground := Ground.phase }], guard := none }) (v := .int .i64 er) rfl (by kernel_rfl) (by kernel_rfl) (by kernel_rfl) (fun _ _ _ h => h) (Or.inl ⟨by kernel_rfl, fun wq hSw => by ((try dsimp only at hSw); go_simp)⟩) hHeld ?_
   (try simp only [Act.put, List.setIfInBounds_toArray, List.set_cons_zero, List.set_cons_succ])
   refine wpAnyH_done (by kernel_rfl) ?_ _
   refine NoPanic.normal ?_
   go_wp2_with fail
   go_meet
   exact ⟨_, T, M, ct, cm2, rfl, rfl, Wb.new w5 tOut [.int .i64 z, .int .i64 s0, .int .i64 s1, .int .i64 s2, .int .i64 s3, .int .i64 s4, .int .i64 s5, .int .i64 s6, .int .i64 s7, .slice T told.length ct, .slice M mm.length cm2], (Hrw5.out.alloc _), Hcm5.out, hbw.trans (hHeld.mono hbw.size)⟩
  ·go_simp
   have hsz := hHeld.size
   refine hK.out _ _ (hHeld.alloc hHeld.size _) (fun hHeld => ?_)
   clear hK K
   (try simp only [Act.put, List.setIfInBounds_toArray, List.set_cons_zero, List.set_cons_succ])
   have Hg4 := Lib.hid ((Wb.new w2 175 [.int .i64 0, .int .i64 0, .int .i64 0, .int .i64 0, .int .i64 0, .int .i64 0, .int .i64 0, .int .i64 0, .int .i64 0, .slice none 0 0, .slice none 0 0]).draw 1)
   refine wpAnyH_ready (rs := [13]) (by kernel_rfl) (by simp) ?_
   refine AllReadyH.cons (o := { dst := some 33, op := Op.call { callee := Callee.value (Operand.func 169), args := #[Operand.tmp 27, Operand.tmp 28, Operand.tmp 32, Operand.const (Value.int IntKind.i64 2000)], argTypes := #[77, 171, 23, 3] }, type := 176, pos := "transfer.go:135", after := #[{ on := 7, ground := Ground.data }, { on := 8, ground := Ground.data }, { on := 12, ground := Ground.data }], guard := none }) rfl (fun K hK => ?_) AllReadyH.nil
   have HRn := Lib.hid (HRun.out _ (hbw.trans (hHeld.mono hbw.size)))
   go_simp
   go_at_call 169; refine HRn.out.mono ?_; rintro e w5 ⟨T, M, ct, cm2, rfl, hT5, hM5, hb5, hcm5, hfr5, hrw5⟩
   dsimp only at hcm5 hrw5 ⊢
   simp only [List.map_cons, List.map_nil, List.cons_append, List.nil_append]
   go_wp2_with fail
   have Hcm5 := Lib.hid hcm5
   have Hrw5 := Lib.hid (Row.base hrw5 (Nat.le_trans hbw.size hHeld.size))
   refine hK.out _ _ (hHeld.trans (hb5.mono hHeld.size)) (fun hHeld => ?_)
   have Hg5 := Lib.hid (Hg4.out.below hb5 Hg4.out.lt)
   clear hK K HRn hT5 hM5 hcm5 hfr5 hrw5
   (try simp only [Act.put, List.setIfInBounds_toArray, List.set_cons_zero, List.set_cons_succ])
   refine wpAnyH_take (i := 14) (oi := { dst := some 19, op := Op.move (Operand.tmp 33), type := 176, pos := "transfer.go:135", after := #[{ on := 13, ground := Ground.data }], guard := none }) (v := .tuple #[.agg #[.int .i64 z, .int .i64 s0, .int .i64 s1, .int .i64 s2, .int .i64 s3, .int .i64 s4, .int .i64 s5, .int .i64 s6, .int .i64 s7, .slice T told.length ct, .slice M mm.length cm2], .int .i64 er]) rfl (by kernel_rfl) (by kernel_rfl) (by kernel_rfl) (fun _ _ _ h => h) (Or.inl ⟨by kernel_rfl, fun wq hSw => by ((try dsimp only at hSw); go_simp)⟩) hHeld ?_
   (try simp only [Act.put, List.setIfInBounds_toArray, List.set_cons_zero, List.set_cons_succ])
   refine wpAnyH_take (i := 15) (oi := { dst := some 34, op := Op.extract (Operand.tmp 19) 0, type := 175, pos := "transfer.go:135", after := #[{ on := 14, ground := Ground.data }], guard := none }) (v := .agg #[.int .i64 z, .int .i64 s0, .int .i64 s1, .int .i64 s2, .int .i64 s3, .int .i64 s4, .int .i64 s5, .int .i64 s6, .int .i64 s7, .slice T told.length ct, .slice M mm.length cm2]) rfl (by kernel_rfl) (by kernel_rfl) (by kernel_rfl) (fun _ _ _ h => h) (Or.inl ⟨by kernel_rfl, fun wq hSw => by ((try dsimp only at hSw); go_simp)⟩) hHeld ?_
   (try simp only [Act.put, List.setIfInBounds_toArray, List.set_cons_zero, List.set_cons_succ])
   refine wpAnyH_take (i := 16) (oi := { dst := some 35, op := Op.extract (Operand.tmp 19) 1, type := 32, pos := "transfer.go:135", after := #[{ on := 14, ground := Ground.data }, { on := 18, ground := Ground.gcOnly Departure.lateStores }], guard := none }) (v := .int .i64 er) rfl (by kernel_rfl) (by kernel_rfl) (by kernel_rfl) (fun _ _ _ h => h) (Or.inl ⟨by kernel_rfl, fun wq hSw => by ((try dsimp only at hSw); go_simp)⟩) hHeld ?_
   (try simp only [Act.put, List.setIfInBounds_toArray, List.set_cons_zero, List.set_cons_succ])
   refine wpAnyH_ready (rs := [18]) (by kernel_rfl) (by simp) ?_
   refine AllReadyH.cons (o := { dst := none, op := Op.store 175 (Operand.tmp 10) (Operand.tmp 34), type := 0, pos := "transfer.go:135", after := #[{ on := 17, ground := Ground.data }, { on := 15, ground := Ground.data }, { on := 13, ground := Ground.chain }, { on := 0, ground := Ground.phase }, { on := 1, ground := Ground.phase }, { on := 2, ground := Ground.phase }, { on := 3, ground := Ground.phase }, { on := 4, ground := Ground.phase }, { on := 5, ground := Ground.phase }, { on := 6, ground := Ground.phase }, { on := 7, ground := Ground.phase }, { on := 8, ground := Ground.phase }, { on := 9, ground := Ground.phase }, { on := 10, ground := Ground.phase }, { on := 11, ground := Ground.phase }, { on := 12, ground := Ground.phase }, { on := 13, ground := Ground.phase }, { on := 14, ground := Ground.phase }, { on := 15, ground := Ground.phase }, { on := 16, ground := Ground.textOnly Departure.lateStores }, { on := 17, ground := Ground.phase }], guard := none }) rfl (fun K hK => ?_) AllReadyH.nil
   have hth := Hg5.out.there
   refine Eq.mpr (if_pos (by kernel_rfl)) ?_
   refine wp_store_mid 175 _ _ rfl (w2.heap.size) 0 #[.int .i64 z, .int .i64 s0, .int .i64 s1, .int .i64 s2, .int .i64 s3, .int .i64 s4, .int .i64 s5, .int .i64 s6, .int .i64 s7, .slice T told.length ct, .slice M mm.length cm2] rfl rfl hth (by kernel_rfl) (one_out z s0 s1 s2 s3 s4 s5 s6 s7 T M told.length ct mm.length cm2) ?_
   have hbS := below_setCells (B := w2.heap.size) (Nat.le_refl _) [.int .i64 z, .int .i64 s0, .int .i64 s1, .int .i64 s2, .int .i64 s3, .int .i64 s4, .int .i64 s5, .int .i64 s6, .int .i64 s7, .slice T told.length ct, .slice M mm.length cm2] 0 w5 hHeld
   have HB6 := Lib.hid (Wb.lay [.int .i64 z, .int .i64 s0, .int .i64 s1, .int .i64 s2, .int .i64 s3, .int .i64 s4, .int .i64 s5, .int .i64 s6, .int .i64 s7, .slice T told.length ct, .slice M mm.length cm2] 0 w5 _ Hg5.out (by simp))
   have HRS := Lib.hid (row_cells (base := w.heap.size) (t := tOut) (by decide) [.int .i64 z, .int .i64 s0, .int .i64 s1, .int .i64 s2, .int .i64 s3, .int .i64 s4, .int .i64 s5, .int .i64 s6, .int .i64 s7, .slice T told.length ct, .slice M mm.length cm2] 0 w5 _ Hrw5.out Hg5.out)
   change K _ (w5.setCells (w2.heap.size) 0 [.int .i64 z, .int .i64 s0, .int .i64 s1, .int .i64 s2, .int .i64 s3, .int .i64 s4, .int .i64 s5, .int .i64 s6, .int .i64 s7, .slice T told.length ct, .slice M mm.length cm2])
   generalize w5.setCells (w2.heap.size) 0 [.int .i64 z, .int .i64 s0, .int .i64 s1, .int .i64 s2, .int .i64 s3, .int .i64 s4, .int .i64 s5, .int .i64 s6, .int .i64 s7, .slice T told.length ct, .slice M mm.length cm2] = w6 at hbS HB6 HRS ⊢
   refine hK.out _ _ hbS (fun hHeld => ?_)
   clear hK K hth hbS
   (try simp only [Act.put])
   refine wpAnyH_take (i := 19) (oi := { dst := some 9, op := Op.assign (Operand.tmp 35), type := 32, pos := "transfer.go:135", after := #[{ on := 16, ground := Ground.data }, { on := 18, ground := Ground.chain }, { on := 0, ground := Ground.phase }, { on := 1, ground := Ground.phase }, { on := 2, ground := Ground.phase }, { on := 3, ground := Ground.phase }, { on := 4, ground := Ground.phase }, { on := 5, ground := Ground.phase }, { on := 6, ground := Ground.phase }, { on := 7, ground := Ground.phase }, { on := 8, ground := Ground.phase }, { on := 9, ground := Ground.phase }, { on := 10, ground := Ground.phase }, { on := 11, ground := Ground.phase }, { on := 12, ground := Ground.phase }, { on := 13, ground := Ground.phase }, { on := 14, ground := Ground.phase }, { on := 15, ground := Ground.phase }, { on := 16, ground := Ground.phase }, { on := 17, ground := Ground.phase }, { on := 18, ground := Ground.phase }], guard := none }) (v := .int .i64 er) rfl (by kernel_rfl) (by kernel_rfl) (by kernel_rfl) (fun _ _ _ h => h) (Or.inl ⟨by kernel_rfl, fun wq hSw => by ((try dsimp only at hSw); go_simp)⟩) hHeld ?_
   (try simp only [Act.put, List.setIfInBounds_toArray, List.set_cons_zero, List.set_cons_succ])
   refine wpAnyH_done (by kernel_rfl) ?_ _
   refine NoPanic.normal ?_
   go_wp2_with fail
   go_meet
   exact ⟨_, T, M, ct, cm2, rfl, rfl, (by have := HB6.out; simpa using this), HRS.out, Hcm5.out, hbw.trans (hHeld.mono hbw.size)⟩
 case rest =>
  obtain ⟨gO, T, M, ct, cm2, h10, h9, hO, hR, hcm, hbw⟩ := hcut
  dsimp only at h9
  subst h9 h10
  simp only [List.map_cons, List.map_nil, List.cons_append, List.nil_append] at hO hR hcm
  have y0 := hO.cell 0
  have y1 := hO.cell 1
  have y10 := hO.cell 10
  simp only [List.getElem?_cons_zero, List.getElem?_cons_succ] at y0 y1 y10
  have yl := hO.lt
  have Hbw := Lib.hid hbw
  have HR := Lib.hid hR
  have Hcm := Lib.hid hcm
  have hKc := H.out.below hbw
  have k1 := hKc.ptr.c1
  have kl := hKc.box.lt
  have kf := hKc.box.open_
  have hne : gO ≠ g := hO.other hKc.box (by decide)
  clear hbw hR hcm hO HB2 HW2 hKc
  by_cases he : er = 0
  ·subst he
   by_cases hz : z = 1
   ·subst hz
    rw [if_pos ⟨rfl, rfl⟩] at HAt
    have HML := Lib.hid (Hmm.out rfl)
    have HN := Lib.hid (row_nw HR.out)
    have HK := Lib.hid (H.out.putMem Hbw.out HN.out HML.out Hcm.out)
    go_wp2
    go_ret2
    exact ⟨by rw [HAt.out]; rfl, ⟨_, _, _, by rw [HAt.out]; exact HK.out⟩, (KpG.of Hbw.out).put 1 _⟩
   ·have hq : (z != 1) = true := by rw [bne_iff_ne]; exact hz
    rw [if_neg (fun h => hz h.2)] at HAt
    clear hz
    go_wp2
    go_ret2
    exact ⟨by rw [HAt.out]; rfl, ⟨_, _, _, by rw [HAt.out]; exact H.out.below Hbw.out⟩, KpG.of Hbw.out⟩
  ·have hq : (er != 0) = true := by rw [bne_iff_ne]; exact he
   rw [if_neg (fun h => he h.1)] at HAt
   clear he
   go_wp2
   go_ret2
   exact ⟨by rw [HAt.out]; rfl, ⟨_, _, _, by rw [HAt.out]; exact H.out.below Hbw.out⟩, KpG.of Hbw.out⟩
end Go.Proofs.YtnnhhbjbdmgpiaaGreatDoor
/- Walks of chapter 5: the program's readDevice and writeDevice. (tools/gen/actq.py) -/
namespace Go.Proofs.YtnnhhbjbdmgpiaaGreatDoor
set_option maxRecDepth 100000
open Go.RowKit
theorem one_byte (w : World) (b : UInt8) : (convert 92 9 (.slice (some ⟨w.heap.size, 0, none⟩) 1 1)).run Tryz.prog (w.alloc (.cells #[.int .u8 (b.toNat : Int)] tU8)) = .ok (.string ⟨#[b]⟩) (w.alloc (.cells #[.int .u8 (b.toNat : Int)] tU8)) :=
 bytes_back (l := [b]) (byts_new w tU8 #[.int .u8 (b.toNat : Int)] [b] rfl) (by simp) 1
set_option maxHeartbeats 1000000 in
theorem readDevice_any {B : Nat} {wb : World} {g : Nat} {a : KA} {xs : List MV} {ps : List PV} (k : Cf.Kern) (u : Nat) (w : World) (h : KSt B wb g a xs ps k w) (hG : Cf.Good k) (hu : u < k.mods.length) (hT : Tabs B wb) :
  Calls Tryz.prog 141 #[.pointer (some ⟨g, 0, none⟩), .int .i64 u] w (ActPost B wb g w (Cf.readDevT k u)) := by
 have HXB := Lib.hid (Wb.new w tAns [.int .i64 0, .int .i64 0, .string ⟨#[]⟩])
 have HXw := Lib.hid (KpA.alloc w (.cells #[.int .i64 0, .int .i64 0, .string ⟨#[]⟩] tAns))
 have HX0 := Lib.hid (KpA.refl (w.alloc (.cells #[.int .i64 0, .int .i64 0, .string ⟨#[]⟩] tAns)))
 have HK0 := Lib.hid (h.below ((Below.refl _ _).alloc (Nat.le_refl _) (.cells #[.int .i64 0, .int .i64 0, .string ⟨#[]⟩] tAns)))
 have hroom := h.room
 have hlow : w.heap.size ≤ w.heap.size := Nat.le_refl _
 have hwd := (Cf.ask_mem hG.memL hG.memW u 256).2.2
 obtain ⟨n, hn⟩ := Int.eq_ofNat_of_zero_le hwd.1
 have hb : n ≤ 65535 := by omega
 have HT := Lib.hid (show Cf.readDevT k u = if (Cf.askT k u 256).ok then ⟨Cf.setMem k (Cf.askT k u 256).mem, ⟨0, 1, [UInt8.ofNat n]⟩⟩ else Cf.refuseT k 14 by
  unfold Cf.readDevT
  rw [hn, Int.toNat_natCast]
  rfl)
 have HA := Lib.hid (fun W (hW : KSt B wb g a xs ps k W) => ask_any k u 256 W hW hG hu (by omega) hT)
 have Hn := Lib.hid hn
 have HF := Lib.hid (fun h : (Cf.askT k u 256).ok = false => (show (Cf.askT k u 256).mem = k.mem by
  unfold Cf.askT at h ⊢
  split at h
  ·cases h
  ·rw [if_neg (by assumption)]))
 rw [HT.out]
 clear h hG hwd hn HT hT
 generalize Cf.askT k u 256 = q at *
 obtain ⟨qm, qw, qo⟩ := q
 cases qo
 ·have hmm := HF.out rfl
  simp only at hmm Hn
  subst hmm
  go_enter Tryz.func141, Tryz.ntmps141
  go_upto_region 1 with fail
  generalize w.alloc (.cells #[.int .i64 0, .int .i64 0, .string ⟨#[]⟩] tAns) = w0 at *
  go_wp2_with fail
  refine (HA.out _ HK0.out).mono ?_
  rintro e w1 ⟨rfl, ⟨a1, xs1, ps1, hK1⟩, hg1⟩
  have HX1 := Lib.hid (HX0.out.trans (hg1.kpA HK0.out.box))
  have HK1 := Lib.hid (show KSt B wb g a1 xs1 ps1 k w1 from hK1)
  clear hK1 hg1 HX0 HK0 HA HF
  go_wp2_with fail
  refine (refuse_any 14 _).mono ?_
  rintro e w2 ⟨rfl, hb2⟩
  have HK2 := Lib.hid (HK1.out.below hb2)
  have HX2 := Lib.hid (HX1.out.below hb2)
  simp only [encAn]
  clear hb2 HK1 HX1
  have hX9 := HX2.out _ _ HXB.out
  have HFin := Lib.hid (fin_ans HK2.out HX2.out HXw.out HXB.out hlow hroom)
  have p0 := hX9.cell 0
  have p1 := hX9.cell 1
  have p2 := hX9.cell 2
  simp only [List.getElem?_cons_zero, List.getElem?_cons_succ] at p0 p1 p2
  have f0 := hX9.open_
  have hl9 := hX9.lt
  clear hX9 HK2 HX2 HXw HXB
  go_wp2
  refine bodyPost_ret (v := .agg #[.int .i64 14, .int .i64 0, .string ⟨#[]⟩]) (by simp [results, Tryz.results141, go_sem, p0, p1, p2]) rfl ?_
  exact ⟨rfl, by (show ActFin _ _ _ _ k _); with_reducible exact HFin.out _ _ _⟩
 ·simp only at Hn
  have hqw : qw = (n : Int) := Hn.out
  subst hqw
  have hby : ((UInt8.ofNat n).toNat : Int) = (n : Int) % 256 := by rw [UInt8.toNat_ofNat']; omega
  have HAw := Lib.hid (fun W => answerWith_any [UInt8.ofNat n] W (by simp))
  clear HF Hn
  go_enter Tryz.func141, Tryz.ntmps141
  go_upto_region 1 with fail
  generalize w.alloc (.cells #[.int .i64 0, .int .i64 0, .string ⟨#[]⟩] tAns) = w0 at *
  go_wp2_with fail
  refine (HA.out _ HK0.out).mono ?_
  rintro e w1 ⟨rfl, ⟨a1, xs1, ps1, hK1⟩, hg1⟩
  have HX1 := Lib.hid (HX0.out.trans (hg1.kpA HK0.out.box))
  have HK1 := Lib.hid hK1
  have hcv := one_byte w1 (UInt8.ofNat n)
  rw [hby] at hcv
  clear hK1 hg1 HX0 HK0 HA
  go_wp2_with fail
  refine (HAw.out _).mono ?_
  rintro e w2 ⟨rfl, hb2⟩
  simp only [encAn]
  have HK2 := Lib.hid ((HK1.out.below ((Below.refl _ _).alloc (Nat.le_refl _) _)).below hb2)
  have HX2 := Lib.hid ((HX1.out.trans (KpA.alloc _ _)).below hb2)
  clear hb2 HK1 HX1 HAw hcv hby
  have hX9 := HX2.out _ _ HXB.out
  have HFin := Lib.hid (fin_ans HK2.out HX2.out HXw.out HXB.out hlow hroom)
  have p0 := hX9.cell 0
  have p1 := hX9.cell 1
  have p2 := hX9.cell 2
  simp only [List.getElem?_cons_zero, List.getElem?_cons_succ] at p0 p1 p2
  have f0 := hX9.open_
  have hl9 := hX9.lt
  clear hX9 HK2 HX2 HXw HXB
  go_wp2
  refine bodyPost_ret (v := .agg #[.int .i64 0, .int .i64 1, .string ⟨#[UInt8.ofNat n]⟩]) (by simp [results, Tryz.results141, go_sem, p0, p1, p2]) rfl ?_
  exact ⟨rfl, by (show ActFin _ _ _ _ (Cf.setMem k qm) _); with_reducible exact HFin.out _ _ _⟩
def Fed (k : Cf.Kern) (u : Nat) (s : List UInt8) (n : Nat) (m : List Int) : Prop :=
 Cf.Good (Cf.setMem k m) ∧ (Cf.feedT k u s).mem = (Cf.feedT (Cf.setMem k m) u (s.drop n)).mem ∧ (Cf.feedT k u s).many = n + (Cf.feedT (Cf.setMem k m) u (s.drop n)).many ∧ (n = 0 → m = k.mem)
theorem Fed.start {k : Cf.Kern} (hG : Cf.Good k) (u : Nat) (s : List UInt8) : Fed k u s 0 k.mem := ⟨hG, rfl, by rw [List.drop_zero]; show _ = 0 + (Cf.feedT k u s).many; omega, fun _ => rfl⟩
theorem Fed.next {k : Cf.Kern} {u : Nat} {s : List UInt8} {n : Nat} {m : List Int} {b : UInt8} (h : Fed k u s n m) (hb : s[n]? = some b) (ho : (Cf.askT (Cf.setMem k m) u b.toNat).ok = true) : Fed k u s (n + 1) (Cf.askT (Cf.setMem k m) u b.toNat).mem := by
 obtain ⟨h1, h2, h3, _⟩ := h
 obtain ⟨e1, e2, _⟩ := Cf.ask_mem h1.memL h1.memW u b.toNat
 have hd : s.drop n = b :: s.drop (n + 1) := by
  obtain ⟨hl, rfl⟩ := List.getElem?_eq_some_iff.1 hb
  exact List.drop_eq_getElem_cons hl
 rw [hd, Cf.feedT, if_pos ho] at h2 h3
 exact ⟨h1.setMem e1 e2, h2, h3.trans (by show n + ((Cf.feedT (Cf.setMem k _) u _).many + 1) = n + 1 + (Cf.feedT (Cf.setMem k _) u _).many; omega), fun h => by omega⟩
theorem Fed.stop {k : Cf.Kern} {u : Nat} {s : List UInt8} {n : Nat} {m : List Int} {b : UInt8} (h : Fed k u s n m) (hb : s[n]? = some b) (ho : (Cf.askT (Cf.setMem k m) u b.toNat).ok = false) : Cf.writeDevT k u s = if n = 0 then Cf.refuseT k 14 else ⟨Cf.setMem k m, ⟨0, n, []⟩⟩ := by
 obtain ⟨h1, h2, h3, _⟩ := h
 have hd : s.drop n = b :: s.drop (n + 1) := by
  obtain ⟨hl, rfl⟩ := List.getElem?_eq_some_iff.1 hb
  exact List.drop_eq_getElem_cons hl
 rw [hd, Cf.feedT, if_neg (by rw [ho]; decide)] at h2 h3
 unfold Cf.writeDevT
 rw [h2, h3]
 rfl
theorem Fed.done {k : Cf.Kern} {u : Nat} {s : List UInt8} {m : List Int} (h : Fed k u s s.length m) : Cf.writeDevT k u s = if s.length = 0 then Cf.refuseT k 14 else ⟨Cf.setMem k m, ⟨0, s.length, []⟩⟩ := by
 obtain ⟨h1, h2, h3, _⟩ := h
 rw [List.drop_length, Cf.feedT] at h2 h3
 unfold Cf.writeDevT
 rw [h2, h3]
 rfl
theorem ask_same {k : Cf.Kern} {u : Nat} {x : Int} (h : (Cf.askT k u x).ok = false) : Cf.setMem k (Cf.askT k u x).mem = k := by
 have : (Cf.askT k u x).mem = k.mem := by
  unfold Cf.askT at h ⊢
  split at h
  ·cases h
  ·rw [if_neg (by assumption)]
 rw [this]
 rfl
set_option maxHeartbeats 1000000 in
theorem writeDevice_any {B : Nat} {wb : World} {g : Nat} {a : KA} {xs : List MV} {ps : List PV} (k : Cf.Kern) (u : Nat) (s : List UInt8) (w : World) (h : KSt B wb g a xs ps k w) (hG : Cf.Good k) (hu : u < k.mods.length) (hs : 1 ≤ s.length) (hs2 : s.length ≤ 100) (hT : Tabs B wb) :
  Calls Tryz.prog 144 #[.pointer (some ⟨g, 0, none⟩), .int .i64 u, .string ⟨s.toArray⟩] w (ActPost B wb g w (Cf.writeDevT k u s)) := by
 have HXB := Lib.hid (Wb.new w tAns [.int .i64 0, .int .i64 0, .string ⟨#[]⟩])
 have HXw := Lib.hid (KpA.alloc w (.cells #[.int .i64 0, .int .i64 0, .string ⟨#[]⟩] tAns))
 have HX0 := Lib.hid (KpA.refl (w.alloc (.cells #[.int .i64 0, .int .i64 0, .string ⟨#[]⟩] tAns)))
 have HK0 := Lib.hid (h.below ((Below.refl _ _).alloc (Nat.le_refl _) (.cells #[.int .i64 0, .int .i64 0, .string ⟨#[]⟩] tAns)))
 have hroom := h.room
 have hlow : w.heap.size ≤ w.heap.size := Nat.le_refl _
 have HA := Lib.hid (fun (m : List Int) (hg : Cf.Good (Cf.setMem k m)) (a : KA) (xs : List MV) (ps : List PV) W (hW : KSt B wb g a xs ps (Cf.setMem k m) W) (b : UInt8) => ask_any (Cf.setMem k m) u b.toNat W hW hg hu (by have := b.toNat_lt; omega) hT)
 have HF0 := Lib.hid (Fed.start hG u s)
 obtain ⟨dd, hdd⟩ : ∃ dd, dd = Cf.writeDevT k u s := ⟨_, rfl⟩
 have HD := Lib.hid hdd
 rw [← hdd]
 clear h hG hT hu hdd
 go_enter Tryz.func144, Tryz.ntmps144
 go_upto_region 1 with fail
 generalize w.alloc (.cells #[.int .i64 0, .int .i64 0, .string ⟨#[]⟩] tAns) = w0 at *
 obtain ⟨cap, w1, hcv, hby, hb1⟩ := bytes_of s w0
 have HB1 := Lib.hid hby
 have HK1 := Lib.hid (HK0.out.below hb1)
 have HX1 := Lib.hid (HX0.out.below hb1)
 have hbl : w0.heap.size < w1.heap.size := by
  rcases hby with h0 | ⟨b, off, he, hl, _⟩
  ·rw [h0] at hs
   simp at hs
  ·cases he
   exact hl
 generalize hgb : w0.heap.size = gb at *
 have hgg : gb ≠ g := by have := HK0.out.box.lt; omega
 clear HK0 HX0 hb1 hby
 go_wp2
 clear hcv
 go_loopw [7, 15] (fun v i wr => ∃ (n : Nat) (m : List Int), n ≤ s.length ∧ v = .int .i64 n ∧ i = .int .i64 n ∧ Fed k u s n m ∧ (∃ a xs ps, KSt B wb g a xs ps (Cf.setMem k m) wr) ∧ KpG g w1 wr) (fun v i _ => s.length - (intOf i).toNat)
 case atStart => exact ⟨0, k.mem, by omega, rfl, rfl, HF0.out, ⟨_, _, _, HK1.out⟩, KpG.of (Below.refl _ _)⟩
 case round =>
  obtain ⟨n, m, hn, rfl, rfl, hF, ⟨a1, xs1, ps1, hK⟩, hg⟩ := hrel
  have HF := Lib.hid hF
  have HK := Lib.hid hK
  have HG := Lib.hid hg
  clear hF hK hg HF0
  by_cases hlt : n < s.length
  ·obtain ⟨b, hb⟩ : ∃ b, s[n]? = some b := ⟨_, List.getElem?_eq_getElem hlt⟩
   have r0 : wr.cell? ⟨gb, n, none⟩ = some (.int .u8 (b.toNat : Int)) := by
    rcases HB1.out with h0 | ⟨b1, off, he, hl, hc⟩
    ·rw [h0] at hlt
     simp at hlt
    ·cases he
     have := hc n b hb 0 _ rfl
     rw [show 0 + n * 1 + 0 = n by omega] at this
     rw [← this]
     exact World.cell?_of_block (HG.out.2 _ hl hgg)
   have rl : gb < wr.heap.size := Nat.lt_of_lt_of_le hbl HG.out.1
   have Hb := Lib.hid hb
   have hbt := b.toNat_lt
   have HA1 := Lib.hid (HA.out m HF.out.1 a1 xs1 ps1 wr HK.out b)
   clear hb
   have HN := Lib.hid (fun h => HF.out.next Hb.out h)
   have HS := Lib.hid (fun h => HF.out.stop Hb.out h)
   have HSm := Lib.hid (fun h => ask_same (k := Cf.setMem k m) (u := u) (x := b.toNat) h)
   generalize Cf.askT (Cf.setMem k m) u b.toNat = q at *
   obtain ⟨qm, qw, qo⟩ := q
   go_wp2_with fail
   refine HA1.out.mono ?_
   rintro e w2 ⟨rfl, ⟨a2, xs2, ps2, hK2⟩, hg2⟩
   have HK2 := Lib.hid hK2
   have HG2 := Lib.hid (HG.out.trans hg2)
   clear hK2 hg2 HA1 HG r0 rl
   cases qo
   ·have HW := Lib.hid (HS.out rfl)
    have HK3 := Lib.hid (show KSt B wb g a2 xs2 ps2 (Cf.setMem k m) w2 from by have := HSm.out rfl; have h2 := HK2.out; rw [this] at h2; exact h2)
    have HX2 := Lib.hid (HX1.out.trans (HG2.out.kpA HK1.out.box))
    have HM := Lib.hid HF.out.2.2.2
    clear HN HS HSm HK2 HK HF HA HG2
    by_cases h0 : n = 0
    ·subst h0
     rw [if_pos rfl] at HW
     have HK9 := Lib.hid (show KSt B wb g a2 xs2 ps2 k w2 from by have := HM.out rfl; have h2 := HK3.out; rw [this] at h2; exact h2)
     have hw := HD.out.trans HW.out
     subst hw
     clear HW HK3 HM HK1 HX1 HD
     go_wp2_with fail
     refine (refuse_any 14 _).mono ?_
     rintro e w3 ⟨rfl, hb3⟩
     have HK3 := Lib.hid (HK9.out.below hb3)
     have HX3 := Lib.hid (HX2.out.below hb3)
     simp only [encAn]
     clear hb3 HK9 HX2
     have hX9 := HX3.out _ _ HXB.out
     have HFin := Lib.hid (fin_ans HK3.out HX3.out HXw.out HXB.out hlow hroom)
     have p0 := hX9.cell 0
     have p1 := hX9.cell 1
     have p2 := hX9.cell 2
     simp only [List.getElem?_cons_zero, List.getElem?_cons_succ] at p0 p1 p2
     have f0 := hX9.open_
     have hl9 := hX9.lt
     clear hX9 HK3 HX3 HXw HXB
     go_wp2
     refine bodyPost_ret (v := .agg #[.int .i64 14, .int .i64 0, .string ⟨#[]⟩]) (by simp [results, Tryz.results144, go_sem, p0, p1, p2]) rfl ?_
     exact ⟨rfl, by (show ActFin _ _ _ _ k _); with_reducible exact HFin.out _ _ _⟩
    ·rw [if_neg h0] at HW
     have hw := HD.out.trans HW.out
     subst hw
     clear HW HM HK1 HX1 HD
     have hX9 := HX2.out _ _ HXB.out
     have HFin := Lib.hid (fin_ans HK3.out HX2.out HXw.out HXB.out hlow hroom)
     have p0 := hX9.cell 0
     have p1 := hX9.cell 1
     have p2 := hX9.cell 2
     simp only [List.getElem?_cons_zero, List.getElem?_cons_succ] at p0 p1 p2
     have f0 := hX9.open_
     have hl9 := hX9.lt
     clear hX9 HK3 HX2 HXw HXB
     go_wp2
     refine bodyPost_ret (v := .agg #[.int .i64 0, .int .i64 n, .string ⟨#[]⟩]) (by simp [results, Tryz.results144, go_sem, p0, p1, p2]) rfl ?_
     exact ⟨rfl, by (show ActFin _ _ _ _ (Cf.setMem k m) _); with_reducible exact HFin.out _ _ _⟩
   ·have HN2 := Lib.hid (HN.out rfl)
    clear HN HS HSm HK HF HA
    go_wp2
    go_roundw
    case rel => exact ⟨n + 1, qm, by omega, by go_num, by go_num, HN2.out, ⟨_, _, _, HK2.out⟩, HG2.out⟩
    case measure => simp [intOf]; omega
  ·obtain rfl : n = s.length := by omega
   have HW := Lib.hid HF.out.done
   rw [if_neg (by omega)] at HW
   have hw := HD.out.trans HW.out
   subst hw
   have HX2 := Lib.hid (HX1.out.trans (HG.out.kpA HK1.out.box))
   have HK3 := HK
   clear HW HF HA HK1 HX1 HG HK HD
   have h0 : ¬ s.length = 0 := by omega
   have hX9 := HX2.out _ _ HXB.out
   have HFin := Lib.hid (fin_ans HK3.out HX2.out HXw.out HXB.out hlow hroom)
   have p0 := hX9.cell 0
   have p1 := hX9.cell 1
   have p2 := hX9.cell 2
   simp only [List.getElem?_cons_zero, List.getElem?_cons_succ] at p0 p1 p2
   have f0 := hX9.open_
   have hl9 := hX9.lt
   clear hX9 HK3 HX2 HXw HXB
   go_wp2
   refine bodyPost_ret (v := .agg #[.int .i64 0, .int .i64 s.length, .string ⟨#[]⟩]) (by simp [results, Tryz.results144, go_sem, p0, p1, p2]) rfl ?_
   exact ⟨rfl, by (show ActFin _ _ _ _ (Cf.setMem k m) _); with_reducible exact HFin.out _ _ _⟩
end Go.Proofs.YtnnhhbjbdmgpiaaGreatDoor
/- Walks of chapter 5: the program's read and write. (tools/gen/actp.py) -/
namespace Go.Proofs.YtnnhhbjbdmgpiaaGreatDoor
set_option maxRecDepth 100000
open Go.RowKit
theorem end_cases {k : Cf.Kern} (hG : Cf.Good k) {q i : Nat} (hq : q < 4) (hi : i < 6) (h0 : (Cf.endAt k q i).kind ≠ 0) :
  (∃ (n po : Nat) (f : Cf.Node), n < 8 ∧ po ≤ 100 ∧ Cf.endAt k q i = ⟨1, n, po⟩ ∧ Cf.nodeAt k n = f ∧ k.nodes[n]? = some f ∧ f.data.length ≤ 100 ∧ (f.kind = 1 ∨ f.kind = 2 ∧ ∃ u : Nat, f.unit = u ∧ u < k.mods.length)) ∨
  (∃ n : Nat, n < 6 ∧ Cf.endAt k q i = ⟨2, n, 0⟩) ∨ (∃ n : Nat, n < 6 ∧ Cf.endAt k q i = ⟨3, n, 0⟩) := by
 have hk := hG.kinds hq hi h0
 generalize he : Cf.endAt k q i = e at *
 obtain ⟨ek, en, ep⟩ := e
 simp only at hk
 rcases hk with ⟨h1, h2, h3, h4, h5, h6⟩ | ⟨h1, h2, h3, h4⟩
 ·obtain ⟨n, rfl⟩ := Int.eq_ofNat_of_zero_le h2
  obtain ⟨po, rfl⟩ := Int.eq_ofNat_of_zero_le h5
  have hN := hG.nodeK h2 h3 h4
  rw [Int.toNat_natCast] at hN
  refine .inl ⟨n, po, Cf.nodeAt k n, by omega, by omega, by rw [h1], rfl, hG.toPre.nodeM (by omega), ?_, ?_⟩
  ·rcases hN with hN | hN
   ·exact hN.2.2
   ·rw [hN.2.1]; simp
  ·rcases hN with hN | hN
   ·exact .inl hN.1
   ·obtain ⟨u, hu⟩ := Int.eq_ofNat_of_zero_le hN.2.2.1
    exact .inr ⟨hN.1, u, hu, by have := hN.2.2.2; omega⟩
 ·obtain ⟨n, rfl⟩ := Int.eq_ofNat_of_zero_le h2
  subst h4
  rcases h1 with rfl | rfl
  ·exact .inr (.inl ⟨n, by omega, rfl⟩)
  ·exact .inr (.inr ⟨n, by omega, rfl⟩)
set_option maxHeartbeats 1000000 in
theorem read_any {B : Nat} {wb : World} {g : Nat} {a : KA} {xs : List MV} {ps : List PV} (k : Cf.Kern) (q gQ gE ce : Nat) (lv : Bool) (es : List Cf.End) (i : Nat) (z : Int) (w : World) (h : KSt B wb g a xs ps k w) (hG : Cf.Good k) (hP : PAt a ps k q gQ gE ce lv es) (hq : q < 4) (hi : i < 6) (h0 : (Cf.endAt k q i).kind ≠ 0) (hT : Tabs B wb) :
  Calls Tryz.prog 115 #[.pointer (some ⟨g, 0, none⟩), .pointer (some ⟨gE, i * 3, none⟩), .int .i64 z] w (ActPost B wb g w (Cf.readT k q i z)) := by
 obtain ⟨A, ca, M, cm, N, cn, S, cs, Q, cq⟩ := a
 have HXB := Lib.hid (Wb.new w tAns [.int .i64 0, .int .i64 0, .string ⟨#[]⟩])
 have HXw := Lib.hid (KpA.alloc w (.cells #[.int .i64 0, .int .i64 0, .string ⟨#[]⟩] tAns))
 have HX0 := Lib.hid (KpA.refl (w.alloc (.cells #[.int .i64 0, .int .i64 0, .string ⟨#[]⟩] tAns)))
 have HK0 := Lib.hid (h.below ((Below.refl _ _).alloc (Nat.le_refl _) (.cells #[.int .i64 0, .int .i64 0, .string ⟨#[]⟩] tAns)))
 have hroom := h.room
 have hlow : w.heap.size ≤ w.heap.size := Nat.le_refl _
 have HP := Lib.hid hP
 have hes : es[i]? = some (Cf.endAt k q i) := by
  have := hG.toPre.end_ hq hi
  rwa [hP.is_] at this
 rcases end_cases hG hq hi h0 with ⟨n, po, f, hn, hpo, he, hfa, hfn, hfd, hfk⟩ | ⟨n, hn, he⟩ | ⟨n, hn, he⟩
 ·skip
  rw [he] at hes
  have HE := Lib.hid hes
  have HF := Lib.hid hfn
  have hn8 : (n : Int) < 8 := by omega
  obtain ⟨gN, hgN, _⟩ := h.own.nodes.at_ hfn
  simp only at hgN
  subst hgN
  have HNl := Lib.hid hG.nodesL
  by_cases hz1 : z < 1
  ·skip
   have HT := Lib.hid (show Cf.readT k q i z = Cf.refuseT k 2 by unfold Cf.readT; rw [he, if_neg (by simp), if_pos (by simp [Cf.inB]; omega)])
   rw [HT.out]
   clear h hP hes he HT hG hT hfa hfn hfd hfk HF HNl
   go_enter Tryz.func115, Tryz.ntmps115
   go_upto_region 1 with fail
   generalize w.alloc (.cells #[.int .i64 0, .int .i64 0, .string ⟨#[]⟩] tAns) = w0 at *
   have hBe := HK0.out.Be HP.out
   have r0 : w0.cell? ⟨gE, i * 3, none⟩ = _ := hBe.cell HE.out (j := 0) rfl
   have r1 : w0.cell? ⟨gE, i * 3 + 1, none⟩ = _ := hBe.cell HE.out (j := 1) rfl
   have rl := hBe.lt
   clear hBe
   go_wp2_with fail
   refine (refuse_any 2 _).mono ?_
   rintro e w1 ⟨rfl, hb1⟩
   have HK1 := Lib.hid (HK0.out.below hb1)
   have HX1 := Lib.hid (HX0.out.below hb1)
   simp only [encAn]
   clear hb1 HK0 HX0
   have hX9 := HX1.out _ _ HXB.out
   have HFin := Lib.hid (fin_ans HK1.out HX1.out HXw.out HXB.out hlow hroom)
   have p0 := hX9.cell 0
   have p1 := hX9.cell 1
   have p2 := hX9.cell 2
   simp only [List.getElem?_cons_zero, List.getElem?_cons_succ] at p0 p1 p2
   have f0 := hX9.open_
   have hl9 := hX9.lt
   clear hX9 HK1 HX1 HXw HXB
   go_wp2
   refine bodyPost_ret (v := .agg #[.int .i64 2, .int .i64 0, .string ⟨#[]⟩]) (by simp [results, Tryz.results115, go_sem, p0, p1, p2]) rfl ?_
   exact ⟨rfl, by (show ActFin _ _ _ _ k _); with_reducible exact HFin.out _ _ _⟩
  by_cases hz2 : 100 < z
  ·skip
   have HT := Lib.hid (show Cf.readT k q i z = Cf.refuseT k 2 by unfold Cf.readT; rw [he, if_neg (by simp), if_pos (by simp [Cf.inB]; omega)])
   rw [HT.out]
   clear h hP hes he HT hG hT hfa hfn hfd hfk HF HNl
   go_enter Tryz.func115, Tryz.ntmps115
   go_upto_region 1 with fail
   generalize w.alloc (.cells #[.int .i64 0, .int .i64 0, .string ⟨#[]⟩] tAns) = w0 at *
   have hBe := HK0.out.Be HP.out
   have r0 : w0.cell? ⟨gE, i * 3, none⟩ = _ := hBe.cell HE.out (j := 0) rfl
   have r1 : w0.cell? ⟨gE, i * 3 + 1, none⟩ = _ := hBe.cell HE.out (j := 1) rfl
   have rl := hBe.lt
   clear hBe
   go_wp2_with fail
   refine (refuse_any 2 _).mono ?_
   rintro e w1 ⟨rfl, hb1⟩
   have HK1 := Lib.hid (HK0.out.below hb1)
   have HX1 := Lib.hid (HX0.out.below hb1)
   simp only [encAn]
   clear hb1 HK0 HX0
   have hX9 := HX1.out _ _ HXB.out
   have HFin := Lib.hid (fin_ans HK1.out HX1.out HXw.out HXB.out hlow hroom)
   have p0 := hX9.cell 0
   have p1 := hX9.cell 1
   have p2 := hX9.cell 2
   simp only [List.getElem?_cons_zero, List.getElem?_cons_succ] at p0 p1 p2
   have f0 := hX9.open_
   have hl9 := hX9.lt
   clear hX9 HK1 HX1 HXw HXB
   go_wp2
   refine bodyPost_ret (v := .agg #[.int .i64 2, .int .i64 0, .string ⟨#[]⟩]) (by simp [results, Tryz.results115, go_sem, p0, p1, p2]) rfl ?_
   exact ⟨rfl, by (show ActFin _ _ _ _ k _); with_reducible exact HFin.out _ _ _⟩
  obtain ⟨zn, hzn⟩ := Int.eq_ofNat_of_zero_le (show 0 ≤ z by omega)
  subst hzn
  have hin : Cf.inB (zn : Int) 1 100 = true := by simp [Cf.inB]; omega
  obtain ⟨fnm, fkd, fda, fun_⟩ := f
  simp only at hfd hfk
  rcases hfk with rfl | ⟨rfl, u, rfl, hu⟩
  ·skip
   have HT := Lib.hid (show Cf.readT k q i zn = Cf.readFileT k q i zn fda ⟨1, n, po⟩ by
    unfold Cf.readT
    rw [he, if_neg (by simp), if_neg (by rw [hin]; decide), if_neg (by simp)]
    show (if (Cf.nodeAt k (n : Int).toNat).kind = 2 then _ else _) = _
    rw [Int.toNat_natCast, hfa, if_neg (by simp)]
    rw [Int.toNat_natCast])
   have HC := Lib.hid (fun W (hW : KSt B wb g ⟨A, ca, M, cm, some ⟨gN, 0, none⟩, cn, S, cs, Q, cq⟩ xs ps k W) => readFile_any k q gQ gE ce lv es i zn ⟨1, n, po⟩ fda W hW hP hes hfd (by omega) ⟨by show (0 : Int) ≤ (po : Int); omega, by show (po : Int) ≤ 100; omega⟩)
   rw [HT.out]
   clear h hes he HT hG hT hfn hfa hfd hP
   go_enter Tryz.func115, Tryz.ntmps115
   go_upto_region 1 with fail
   generalize w.alloc (.cells #[.int .i64 0, .int .i64 0, .string ⟨#[]⟩] tAns) = w0 at *
   have hBe := HK0.out.Be HP.out
   have r0 : w0.cell? ⟨gE, i * 3, none⟩ = _ := hBe.cell HE.out (j := 0) rfl
   have r1 : w0.cell? ⟨gE, i * 3 + 1, none⟩ = _ := hBe.cell HE.out (j := 1) rfl
   have rl := hBe.lt
   clear hBe
   have hBn := HK0.out.Bn rfl HF.out
   have n0 : w0.cell? ⟨gN, n * 4, none⟩ = _ := hBn.cell HF.out (j := 0) rfl
   have n1 : w0.cell? ⟨gN, n * 4 + 1, none⟩ = _ := hBn.cell HF.out (j := 1) rfl
   have n2 : w0.cell? ⟨gN, n * 4 + 2, none⟩ = _ := hBn.cell HF.out (j := 2) rfl
   have n3 : w0.cell? ⟨gN, n * 4 + 3, none⟩ = _ := hBn.cell HF.out (j := 3) rfl
   have nl := hBn.lt
   clear hBn
   have c2 := HK0.out.ptr.c2
   simp only [HNl.out] at c2
   have kl := HK0.out.box.lt
   go_upto_region 7 with fail
   go_region
   all_goals
    have HK1 := Lib.hid (HK0.out.below (((Below.refl w0.heap.size w0).alloc (Nat.le_refl _) (.cells #[.string ⟨fnm.toArray⟩, .int .i64 1, .string ⟨fda.toArray⟩, .int .i64 fun_] tNode)).drew))
    have HX1 := Lib.hid ((HX0.out.trans (KpA.alloc w0 (.cells #[.string ⟨fnm.toArray⟩, .int .i64 1, .string ⟨fda.toArray⟩, .int .i64 fun_] tNode))).draw 1)
    clear HK0 HX0
    go_wp2_with fail
    clear r0 r1 rl n0 n1 n2 n3 nl c2 kl
    refine (HC.out _ HK1.out).mono ?_
    rintro e w2 ⟨rfl, ⟨a9, xs9, ps9, hK9⟩, hx9⟩
    have HK2 := Lib.hid hK9
    have HX2 := Lib.hid (HX1.out.trans hx9)
    clear hK9 hx9 HK1 HX1
    simp only [encAn]
    generalize Cf.readFileT k q i zn fda ⟨1, n, po⟩ = dd at *
    obtain ⟨dk, dc, dn, ds⟩ := dd
    have hX9 := HX2.out _ _ HXB.out
    have HFin := Lib.hid (fin_ans HK2.out HX2.out HXw.out HXB.out hlow hroom)
    have p0 := hX9.cell 0
    have p1 := hX9.cell 1
    have p2 := hX9.cell 2
    simp only [List.getElem?_cons_zero, List.getElem?_cons_succ] at p0 p1 p2
    have f0 := hX9.open_
    have hl9 := hX9.lt
    clear hX9 HK2 HX2 HXw HXB
    go_wp2
    refine bodyPost_ret (v := .agg #[.int .i64 dc, .int .i64 dn, .string ⟨ds.toArray⟩]) (by simp [results, Tryz.results115, go_sem, p0, p1, p2]) rfl ?_
    exact ⟨rfl, by (show ActFin _ _ _ _ dk _); with_reducible exact HFin.out _ _ _⟩
  ·skip
   have HT := Lib.hid (show Cf.readT k q i zn = Cf.readDevT k u by
    unfold Cf.readT
    rw [he, if_neg (by simp), if_neg (by rw [hin]; decide), if_neg (by simp)]
    show (if (Cf.nodeAt k (n : Int).toNat).kind = 2 then _ else _) = _
    rw [Int.toNat_natCast, hfa, if_pos rfl]
    show Cf.readDevT k (u : Int).toNat = _
    rw [Int.toNat_natCast])
   have HC := Lib.hid (fun W (hW : KSt B wb g ⟨A, ca, M, cm, some ⟨gN, 0, none⟩, cn, S, cs, Q, cq⟩ xs ps k W) => readDevice_any k u W hW hG hu hT)
   rw [HT.out]
   clear h hes he HT hG hT hfn hfa hfd hP
   go_enter Tryz.func115, Tryz.ntmps115
   go_upto_region 1 with fail
   generalize w.alloc (.cells #[.int .i64 0, .int .i64 0, .string ⟨#[]⟩] tAns) = w0 at *
   have hBe := HK0.out.Be HP.out
   have r0 : w0.cell? ⟨gE, i * 3, none⟩ = _ := hBe.cell HE.out (j := 0) rfl
   have r1 : w0.cell? ⟨gE, i * 3 + 1, none⟩ = _ := hBe.cell HE.out (j := 1) rfl
   have rl := hBe.lt
   clear hBe
   have hBn := HK0.out.Bn rfl HF.out
   have n0 : w0.cell? ⟨gN, n * 4, none⟩ = _ := hBn.cell HF.out (j := 0) rfl
   have n1 : w0.cell? ⟨gN, n * 4 + 1, none⟩ = _ := hBn.cell HF.out (j := 1) rfl
   have n2 : w0.cell? ⟨gN, n * 4 + 2, none⟩ = _ := hBn.cell HF.out (j := 2) rfl
   have n3 : w0.cell? ⟨gN, n * 4 + 3, none⟩ = _ := hBn.cell HF.out (j := 3) rfl
   have nl := hBn.lt
   clear hBn
   have c2 := HK0.out.ptr.c2
   simp only [HNl.out] at c2
   have kl := HK0.out.box.lt
   go_upto_region 7 with fail
   go_region
   all_goals
    have HK1 := Lib.hid (HK0.out.below (((Below.refl w0.heap.size w0).alloc (Nat.le_refl _) (.cells #[.string ⟨fnm.toArray⟩, .int .i64 2, .string ⟨fda.toArray⟩, .int .i64 u] tNode)).drew))
    have HX1 := Lib.hid ((HX0.out.trans (KpA.alloc w0 (.cells #[.string ⟨fnm.toArray⟩, .int .i64 2, .string ⟨fda.toArray⟩, .int .i64 u] tNode))).draw 1)
    clear HK0 HX0
    go_wp2_with fail
    clear r0 r1 rl n0 n1 n2 n3 nl c2 kl
    refine (HC.out _ HK1.out).mono ?_
    rintro e w2 ⟨rfl, ⟨a9, xs9, ps9, hK9⟩, hx9⟩
    have HK2 := Lib.hid hK9
    have HX2 := Lib.hid (HX1.out.trans hx9)
    clear hK9 hx9 HK1 HX1
    simp only [encAn]
    generalize Cf.readDevT k u = dd at *
    obtain ⟨dk, dc, dn, ds⟩ := dd
    have hX9 := HX2.out _ _ HXB.out
    have HFin := Lib.hid (fin_ans HK2.out HX2.out HXw.out HXB.out hlow hroom)
    have p0 := hX9.cell 0
    have p1 := hX9.cell 1
    have p2 := hX9.cell 2
    simp only [List.getElem?_cons_zero, List.getElem?_cons_succ] at p0 p1 p2
    have f0 := hX9.open_
    have hl9 := hX9.lt
    clear hX9 HK2 HX2 HXw HXB
    go_wp2
    refine bodyPost_ret (v := .agg #[.int .i64 dc, .int .i64 dn, .string ⟨ds.toArray⟩]) (by simp [results, Tryz.results115, go_sem, p0, p1, p2]) rfl ?_
    exact ⟨rfl, by (show ActFin _ _ _ _ dk _); with_reducible exact HFin.out _ _ _⟩
 ·skip
  rw [he] at hes
  have HE := Lib.hid hes
  by_cases hz1 : z < 1
  ·skip
   have HT := Lib.hid (show Cf.readT k q i z = Cf.refuseT k 2 by unfold Cf.readT; rw [he, if_neg (by simp), if_pos (by simp [Cf.inB]; omega)])
   rw [HT.out]
   clear h hP hes he HT hG hT
   go_enter Tryz.func115, Tryz.ntmps115
   go_upto_region 1 with fail
   generalize w.alloc (.cells #[.int .i64 0, .int .i64 0, .string ⟨#[]⟩] tAns) = w0 at *
   have hBe := HK0.out.Be HP.out
   have r0 : w0.cell? ⟨gE, i * 3, none⟩ = _ := hBe.cell HE.out (j := 0) rfl
   have r1 : w0.cell? ⟨gE, i * 3 + 1, none⟩ = _ := hBe.cell HE.out (j := 1) rfl
   have rl := hBe.lt
   clear hBe
   go_wp2_with fail
   refine (refuse_any 2 _).mono ?_
   rintro e w1 ⟨rfl, hb1⟩
   have HK1 := Lib.hid (HK0.out.below hb1)
   have HX1 := Lib.hid (HX0.out.below hb1)
   simp only [encAn]
   clear hb1 HK0 HX0
   have hX9 := HX1.out _ _ HXB.out
   have HFin := Lib.hid (fin_ans HK1.out HX1.out HXw.out HXB.out hlow hroom)
   have p0 := hX9.cell 0
   have p1 := hX9.cell 1
   have p2 := hX9.cell 2
   simp only [List.getElem?_cons_zero, List.getElem?_cons_succ] at p0 p1 p2
   have f0 := hX9.open_
   have hl9 := hX9.lt
   clear hX9 HK1 HX1 HXw HXB
   go_wp2
   refine bodyPost_ret (v := .agg #[.int .i64 2, .int .i64 0, .string ⟨#[]⟩]) (by simp [results, Tryz.results115, go_sem, p0, p1, p2]) rfl ?_
   exact ⟨rfl, by (show ActFin _ _ _ _ k _); with_reducible exact HFin.out _ _ _⟩
  by_cases hz2 : 100 < z
  ·skip
   have HT := Lib.hid (show Cf.readT k q i z = Cf.refuseT k 2 by unfold Cf.readT; rw [he, if_neg (by simp), if_pos (by simp [Cf.inB]; omega)])
   rw [HT.out]
   clear h hP hes he HT hG hT
   go_enter Tryz.func115, Tryz.ntmps115
   go_upto_region 1 with fail
   generalize w.alloc (.cells #[.int .i64 0, .int .i64 0, .string ⟨#[]⟩] tAns) = w0 at *
   have hBe := HK0.out.Be HP.out
   have r0 : w0.cell? ⟨gE, i * 3, none⟩ = _ := hBe.cell HE.out (j := 0) rfl
   have r1 : w0.cell? ⟨gE, i * 3 + 1, none⟩ = _ := hBe.cell HE.out (j := 1) rfl
   have rl := hBe.lt
   clear hBe
   go_wp2_with fail
   refine (refuse_any 2 _).mono ?_
   rintro e w1 ⟨rfl, hb1⟩
   have HK1 := Lib.hid (HK0.out.below hb1)
   have HX1 := Lib.hid (HX0.out.below hb1)
   simp only [encAn]
   clear hb1 HK0 HX0
   have hX9 := HX1.out _ _ HXB.out
   have HFin := Lib.hid (fin_ans HK1.out HX1.out HXw.out HXB.out hlow hroom)
   have p0 := hX9.cell 0
   have p1 := hX9.cell 1
   have p2 := hX9.cell 2
   simp only [List.getElem?_cons_zero, List.getElem?_cons_succ] at p0 p1 p2
   have f0 := hX9.open_
   have hl9 := hX9.lt
   clear hX9 HK1 HX1 HXw HXB
   go_wp2
   refine bodyPost_ret (v := .agg #[.int .i64 2, .int .i64 0, .string ⟨#[]⟩]) (by simp [results, Tryz.results115, go_sem, p0, p1, p2]) rfl ?_
   exact ⟨rfl, by (show ActFin _ _ _ _ k _); with_reducible exact HFin.out _ _ _⟩
  obtain ⟨zn, hzn⟩ := Int.eq_ofNat_of_zero_le (show 0 ≤ z by omega)
  subst hzn
  have hin : Cf.inB (zn : Int) 1 100 = true := by simp [Cf.inB]; omega
  have HT := Lib.hid (show Cf.readT k q i zn = Cf.readPipeT k n zn by
   unfold Cf.readT
   rw [he, if_neg (by simp), if_neg (by rw [hin]; decide), if_pos (by rfl)]
   show Cf.readPipeT k (n : Int).toNat (zn : Int).toNat = _
   rw [Int.toNat_natCast]
   rw [Int.toNat_natCast])
  have HC := Lib.hid (fun W (hW : KSt B wb g ⟨A, ca, M, cm, N, cn, S, cs, Q, cq⟩ xs ps k W) => readPipe_any k n zn W hW hG hn)
  rw [HT.out]
  clear h hP hes he HT hG hT
  go_enter Tryz.func115, Tryz.ntmps115
  go_upto_region 1 with fail
  generalize w.alloc (.cells #[.int .i64 0, .int .i64 0, .string ⟨#[]⟩] tAns) = w0 at *
  have hBe := HK0.out.Be HP.out
  have r0 : w0.cell? ⟨gE, i * 3, none⟩ = _ := hBe.cell HE.out (j := 0) rfl
  have r1 : w0.cell? ⟨gE, i * 3 + 1, none⟩ = _ := hBe.cell HE.out (j := 1) rfl
  have rl := hBe.lt
  clear hBe
  go_wp2_with fail
  clear r0 r1 rl
  refine (HC.out _ HK0.out).mono ?_
  rintro e w1 ⟨rfl, ⟨a9, xs9, ps9, hK9⟩, hx9⟩
  have HK1 := Lib.hid hK9
  have HX1 := Lib.hid (HX0.out.trans hx9)
  clear hK9 hx9 HK0 HX0
  simp only [encAn]
  generalize Cf.readPipeT k n zn = dd at *
  obtain ⟨dk, dc, dn, ds⟩ := dd
  have hX9 := HX1.out _ _ HXB.out
  have HFin := Lib.hid (fin_ans HK1.out HX1.out HXw.out HXB.out hlow hroom)
  have p0 := hX9.cell 0
  have p1 := hX9.cell 1
  have p2 := hX9.cell 2
  simp only [List.getElem?_cons_zero, List.getElem?_cons_succ] at p0 p1 p2
  have f0 := hX9.open_
  have hl9 := hX9.lt
  clear hX9 HK1 HX1 HXw HXB
  go_wp2
  refine bodyPost_ret (v := .agg #[.int .i64 dc, .int .i64 dn, .string ⟨ds.toArray⟩]) (by simp [results, Tryz.results115, go_sem, p0, p1, p2]) rfl ?_
  exact ⟨rfl, by (show ActFin _ _ _ _ dk _); with_reducible exact HFin.out _ _ _⟩
 ·skip
  rw [he] at hes
  have HE := Lib.hid hes
  have HT := Lib.hid (show Cf.readT k q i z = Cf.refuseT k 3 by unfold Cf.readT; rw [he, if_pos rfl])
  rw [HT.out]
  clear h hP hes he HT hG hT
  go_enter Tryz.func115, Tryz.ntmps115
  go_upto_region 1 with fail
  generalize w.alloc (.cells #[.int .i64 0, .int .i64 0, .string ⟨#[]⟩] tAns) = w0 at *
  have hBe := HK0.out.Be HP.out
  have r0 : w0.cell? ⟨gE, i * 3, none⟩ = _ := hBe.cell HE.out (j := 0) rfl
  have r1 : w0.cell? ⟨gE, i * 3 + 1, none⟩ = _ := hBe.cell HE.out (j := 1) rfl
  have rl := hBe.lt
  clear hBe
  go_wp2_with fail
  refine (refuse_any 3 _).mono ?_
  rintro e w1 ⟨rfl, hb1⟩
  have HK1 := Lib.hid (HK0.out.below hb1)
  have HX1 := Lib.hid (HX0.out.below hb1)
  simp only [encAn]
  clear hb1 HK0 HX0
  have hX9 := HX1.out _ _ HXB.out
  have HFin := Lib.hid (fin_ans HK1.out HX1.out HXw.out HXB.out hlow hroom)
  have p0 := hX9.cell 0
  have p1 := hX9.cell 1
  have p2 := hX9.cell 2
  simp only [List.getElem?_cons_zero, List.getElem?_cons_succ] at p0 p1 p2
  have f0 := hX9.open_
  have hl9 := hX9.lt
  clear hX9 HK1 HX1 HXw HXB
  go_wp2
  refine bodyPost_ret (v := .agg #[.int .i64 3, .int .i64 0, .string ⟨#[]⟩]) (by simp [results, Tryz.results115, go_sem, p0, p1, p2]) rfl ?_
  exact ⟨rfl, by (show ActFin _ _ _ _ k _); with_reducible exact HFin.out _ _ _⟩
set_option maxHeartbeats 1000000 in
theorem write_any {B : Nat} {wb : World} {g : Nat} {a : KA} {xs : List MV} {ps : List PV} (k : Cf.Kern) (q gQ gE ce : Nat) (lv : Bool) (es : List Cf.End) (i : Nat) (z : List UInt8) (w : World) (h : KSt B wb g a xs ps k w) (hG : Cf.Good k) (hP : PAt a ps k q gQ gE ce lv es) (hq : q < 4) (hi : i < 6) (h0 : (Cf.endAt k q i).kind ≠ 0) (hT : Tabs B wb) :
  Calls Tryz.prog 116 #[.pointer (some ⟨g, 0, none⟩), .pointer (some ⟨gE, i * 3, none⟩), .string ⟨z.toArray⟩] w (ActPost B wb g w (Cf.writeT k q i z)) := by
 obtain ⟨A, ca, M, cm, N, cn, S, cs, Q, cq⟩ := a
 have HXB := Lib.hid (Wb.new w tAns [.int .i64 0, .int .i64 0, .string ⟨#[]⟩])
 have HXw := Lib.hid (KpA.alloc w (.cells #[.int .i64 0, .int .i64 0, .string ⟨#[]⟩] tAns))
 have HX0 := Lib.hid (KpA.refl (w.alloc (.cells #[.int .i64 0, .int .i64 0, .string ⟨#[]⟩] tAns)))
 have HK0 := Lib.hid (h.below ((Below.refl _ _).alloc (Nat.le_refl _) (.cells #[.int .i64 0, .int .i64 0, .string ⟨#[]⟩] tAns)))
 have hroom := h.room
 have hlow : w.heap.size ≤ w.heap.size := Nat.le_refl _
 have HP := Lib.hid hP
 have hes : es[i]? = some (Cf.endAt k q i) := by
  have := hG.toPre.end_ hq hi
  rwa [hP.is_] at this
 rcases end_cases hG hq hi h0 with ⟨n, po, f, hn, hpo, he, hfa, hfn, hfd, hfk⟩ | ⟨n, hn, he⟩ | ⟨n, hn, he⟩
 ·skip
  rw [he] at hes
  have HE := Lib.hid hes
  have HF := Lib.hid hfn
  have hn8 : (n : Int) < 8 := by omega
  obtain ⟨gN, hgN, _⟩ := h.own.nodes.at_ hfn
  simp only at hgN
  subst hgN
  have HNl := Lib.hid hG.nodesL
  by_cases hz1 : z = []
  ·skip
   subst hz1
   have HT := Lib.hid (show Cf.writeT k q i [] = Cf.refuseT k 2 by unfold Cf.writeT; rw [he, if_neg (by simp), if_pos (by simp [Cf.inB])])
   rw [HT.out]
   clear h hP hes he HT hG hT hfa hfn hfd hfk HF HNl
   go_enter Tryz.func116, Tryz.ntmps116
   go_upto_region 1 with fail
   generalize w.alloc (.cells #[.int .i64 0, .int .i64 0, .string ⟨#[]⟩] tAns) = w0 at *
   have hBe := HK0.out.Be HP.out
   have r0 : w0.cell? ⟨gE, i * 3, none⟩ = _ := hBe.cell HE.out (j := 0) rfl
   have r1 : w0.cell? ⟨gE, i * 3 + 1, none⟩ = _ := hBe.cell HE.out (j := 1) rfl
   have rl := hBe.lt
   clear hBe
   go_wp2_with fail
   refine (refuse_any 2 _).mono ?_
   rintro e w1 ⟨rfl, hb1⟩
   have HK1 := Lib.hid (HK0.out.below hb1)
   have HX1 := Lib.hid (HX0.out.below hb1)
   simp only [encAn]
   clear hb1 HK0 HX0
   have hX9 := HX1.out _ _ HXB.out
   have HFin := Lib.hid (fin_ans HK1.out HX1.out HXw.out HXB.out hlow hroom)
   have p0 := hX9.cell 0
   have p1 := hX9.cell 1
   have p2 := hX9.cell 2
   simp only [List.getElem?_cons_zero, List.getElem?_cons_succ] at p0 p1 p2
   have f0 := hX9.open_
   have hl9 := hX9.lt
   clear hX9 HK1 HX1 HXw HXB
   go_wp2
   refine bodyPost_ret (v := .agg #[.int .i64 2, .int .i64 0, .string ⟨#[]⟩]) (by simp [results, Tryz.results116, go_sem, p0, p1, p2]) rfl ?_
   exact ⟨rfl, by (show ActFin _ _ _ _ k _); with_reducible exact HFin.out _ _ _⟩
  by_cases hz2 : 100 < z.length
  ·skip
   have HT := Lib.hid (show Cf.writeT k q i z = Cf.refuseT k 2 by unfold Cf.writeT; rw [he, if_neg (by simp), if_pos (by simp [Cf.inB]; omega)])
   have hzz : (⟨z.toArray⟩ : ByteArray).size = z.length := by simp [ByteArray.size]
   have hze : ¬ z.isEmpty = true := by simpa using hz1
   rw [HT.out]
   clear h hP hes he HT hG hT hfa hfn hfd hfk HF HNl
   go_enter Tryz.func116, Tryz.ntmps116
   go_upto_region 1 with fail
   generalize w.alloc (.cells #[.int .i64 0, .int .i64 0, .string ⟨#[]⟩] tAns) = w0 at *
   have hBe := HK0.out.Be HP.out
   have r0 : w0.cell? ⟨gE, i * 3, none⟩ = _ := hBe.cell HE.out (j := 0) rfl
   have r1 : w0.cell? ⟨gE, i * 3 + 1, none⟩ = _ := hBe.cell HE.out (j := 1) rfl
   have rl := hBe.lt
   clear hBe
   go_wp2_with fail
   refine (refuse_any 2 _).mono ?_
   rintro e w1 ⟨rfl, hb1⟩
   have HK1 := Lib.hid (HK0.out.below hb1)
   have HX1 := Lib.hid (HX0.out.below hb1)
   simp only [encAn]
   clear hb1 HK0 HX0
   have hX9 := HX1.out _ _ HXB.out
   have HFin := Lib.hid (fin_ans HK1.out HX1.out HXw.out HXB.out hlow hroom)
   have p0 := hX9.cell 0
   have p1 := hX9.cell 1
   have p2 := hX9.cell 2
   simp only [List.getElem?_cons_zero, List.getElem?_cons_succ] at p0 p1 p2
   have f0 := hX9.open_
   have hl9 := hX9.lt
   clear hX9 HK1 HX1 HXw HXB
   go_wp2
   refine bodyPost_ret (v := .agg #[.int .i64 2, .int .i64 0, .string ⟨#[]⟩]) (by simp [results, Tryz.results116, go_sem, p0, p1, p2]) rfl ?_
   exact ⟨rfl, by (show ActFin _ _ _ _ k _); with_reducible exact HFin.out _ _ _⟩
  have hze : ¬ z.isEmpty = true := by simpa using hz1
  have hzl : 1 ≤ z.length := List.length_pos_iff.2 hz1
  have hzz : (⟨z.toArray⟩ : ByteArray).size = z.length := by simp [ByteArray.size]
  have hin : Cf.inB (z.length : Int) 1 100 = true := by simp [Cf.inB]; omega
  clear hz1
  obtain ⟨fnm, fkd, fda, fun_⟩ := f
  simp only at hfd hfk
  rcases hfk with rfl | ⟨rfl, u, rfl, hu⟩
  ·skip
   have HT := Lib.hid (show Cf.writeT k q i z = Cf.writeFileT k q i z ⟨1, n, po⟩ ⟨fnm, 1, fda, fun_⟩ by
    unfold Cf.writeT
    rw [he, if_neg (by simp), if_neg (by rw [hin]; decide), if_neg (by simp)]
    show (if (Cf.nodeAt k (n : Int).toNat).kind = 2 then _ else _) = _
    rw [Int.toNat_natCast, hfa, if_neg (by simp)])
   have HC := Lib.hid (fun W (hW : KSt B wb g ⟨A, ca, M, cm, some ⟨gN, 0, none⟩, cn, S, cs, Q, cq⟩ xs ps k W) => writeFile_any k q gQ gE ce gN n lv es i ⟨1, n, po⟩ ⟨fnm, 1, fda, fun_⟩ z W hW hP hes rfl hfn rfl hfd (by omega) ⟨by show (0 : Int) ≤ (po : Int); omega, by show (po : Int) ≤ 100; omega⟩)
   rw [HT.out]
   clear h hes he HT hG hT hfn hfa hfd hP
   go_enter Tryz.func116, Tryz.ntmps116
   go_upto_region 1 with fail
   generalize w.alloc (.cells #[.int .i64 0, .int .i64 0, .string ⟨#[]⟩] tAns) = w0 at *
   have hBe := HK0.out.Be HP.out
   have r0 : w0.cell? ⟨gE, i * 3, none⟩ = _ := hBe.cell HE.out (j := 0) rfl
   have r1 : w0.cell? ⟨gE, i * 3 + 1, none⟩ = _ := hBe.cell HE.out (j := 1) rfl
   have rl := hBe.lt
   clear hBe
   have hBn := HK0.out.Bn rfl HF.out
   have n0 : w0.cell? ⟨gN, n * 4, none⟩ = _ := hBn.cell HF.out (j := 0) rfl
   have n1 : w0.cell? ⟨gN, n * 4 + 1, none⟩ = _ := hBn.cell HF.out (j := 1) rfl
   have n2 : w0.cell? ⟨gN, n * 4 + 2, none⟩ = _ := hBn.cell HF.out (j := 2) rfl
   have n3 : w0.cell? ⟨gN, n * 4 + 3, none⟩ = _ := hBn.cell HF.out (j := 3) rfl
   have nl := hBn.lt
   clear hBn
   have c2 := HK0.out.ptr.c2
   simp only [HNl.out] at c2
   have kl := HK0.out.box.lt
   go_upto_region 7 with fail
   go_region
   all_goals
    have HK1 := Lib.hid HK0.out.draw
    have HX1 := Lib.hid (HX0.out.draw 1)
    clear HK0 HX0
    go_wp2_with fail
    clear r0 r1 rl n0 n1 n2 n3 nl c2 kl
    refine (HC.out _ HK1.out).mono ?_
    rintro e w2 ⟨rfl, ⟨a9, xs9, ps9, hK9⟩, hx9⟩
    have HK2 := Lib.hid hK9
    have HX2 := Lib.hid (HX1.out.trans hx9)
    clear hK9 hx9 HK1 HX1
    simp only [encAn]
    generalize Cf.writeFileT k q i z ⟨1, n, po⟩ ⟨fnm, 1, fda, fun_⟩ = dd at *
    obtain ⟨dk, dc, dn, ds⟩ := dd
    have hX9 := HX2.out _ _ HXB.out
    have HFin := Lib.hid (fin_ans HK2.out HX2.out HXw.out HXB.out hlow hroom)
    have p0 := hX9.cell 0
    have p1 := hX9.cell 1
    have p2 := hX9.cell 2
    simp only [List.getElem?_cons_zero, List.getElem?_cons_succ] at p0 p1 p2
    have f0 := hX9.open_
    have hl9 := hX9.lt
    clear hX9 HK2 HX2 HXw HXB
    go_wp2
    refine bodyPost_ret (v := .agg #[.int .i64 dc, .int .i64 dn, .string ⟨ds.toArray⟩]) (by simp [results, Tryz.results116, go_sem, p0, p1, p2]) rfl ?_
    exact ⟨rfl, by (show ActFin _ _ _ _ dk _); with_reducible exact HFin.out _ _ _⟩
  ·skip
   have HT := Lib.hid (show Cf.writeT k q i z = Cf.writeDevT k u z by
    unfold Cf.writeT
    rw [he, if_neg (by simp), if_neg (by rw [hin]; decide), if_neg (by simp)]
    show (if (Cf.nodeAt k (n : Int).toNat).kind = 2 then _ else _) = _
    rw [Int.toNat_natCast, hfa, if_pos rfl]
    show Cf.writeDevT k (u : Int).toNat z = _
    rw [Int.toNat_natCast])
   have HC := Lib.hid (fun W (hW : KSt B wb g ⟨A, ca, M, cm, some ⟨gN, 0, none⟩, cn, S, cs, Q, cq⟩ xs ps k W) => writeDevice_any k u z W hW hG hu hzl (by omega) hT)
   rw [HT.out]
   clear h hes he HT hG hT hfn hfa hfd hP
   go_enter Tryz.func116, Tryz.ntmps116
   go_upto_region 1 with fail
   generalize w.alloc (.cells #[.int .i64 0, .int .i64 0, .string ⟨#[]⟩] tAns) = w0 at *
   have hBe := HK0.out.Be HP.out
   have r0 : w0.cell? ⟨gE, i * 3, none⟩ = _ := hBe.cell HE.out (j := 0) rfl
   have r1 : w0.cell? ⟨gE, i * 3 + 1, none⟩ = _ := hBe.cell HE.out (j := 1) rfl
   have rl := hBe.lt
   clear hBe
   have hBn := HK0.out.Bn rfl HF.out
   have n0 : w0.cell? ⟨gN, n * 4, none⟩ = _ := hBn.cell HF.out (j := 0) rfl
   have n1 : w0.cell? ⟨gN, n * 4 + 1, none⟩ = _ := hBn.cell HF.out (j := 1) rfl
   have n2 : w0.cell? ⟨gN, n * 4 + 2, none⟩ = _ := hBn.cell HF.out (j := 2) rfl
   have n3 : w0.cell? ⟨gN, n * 4 + 3, none⟩ = _ := hBn.cell HF.out (j := 3) rfl
   have nl := hBn.lt
   clear hBn
   have c2 := HK0.out.ptr.c2
   simp only [HNl.out] at c2
   have kl := HK0.out.box.lt
   go_upto_region 7 with fail
   go_region
   all_goals
    have HK1 := Lib.hid HK0.out.draw
    have HX1 := Lib.hid (HX0.out.draw 1)
    clear HK0 HX0
    go_wp2_with fail
    clear r0 r1 rl n0 n1 n2 n3 nl c2 kl
    refine (HC.out _ HK1.out).mono ?_
    rintro e w2 ⟨rfl, ⟨a9, xs9, ps9, hK9⟩, hx9⟩
    have HK2 := Lib.hid hK9
    have HX2 := Lib.hid (HX1.out.trans hx9)
    clear hK9 hx9 HK1 HX1
    simp only [encAn]
    generalize Cf.writeDevT k u z = dd at *
    obtain ⟨dk, dc, dn, ds⟩ := dd
    have hX9 := HX2.out _ _ HXB.out
    have HFin := Lib.hid (fin_ans HK2.out HX2.out HXw.out HXB.out hlow hroom)
    have p0 := hX9.cell 0
    have p1 := hX9.cell 1
    have p2 := hX9.cell 2
    simp only [List.getElem?_cons_zero, List.getElem?_cons_succ] at p0 p1 p2
    have f0 := hX9.open_
    have hl9 := hX9.lt
    clear hX9 HK2 HX2 HXw HXB
    go_wp2
    refine bodyPost_ret (v := .agg #[.int .i64 dc, .int .i64 dn, .string ⟨ds.toArray⟩]) (by simp [results, Tryz.results116, go_sem, p0, p1, p2]) rfl ?_
    exact ⟨rfl, by (show ActFin _ _ _ _ dk _); with_reducible exact HFin.out _ _ _⟩
 ·skip
  rw [he] at hes
  have HE := Lib.hid hes
  have HT := Lib.hid (show Cf.writeT k q i z = Cf.refuseT k 3 by unfold Cf.writeT; rw [he, if_pos rfl])
  rw [HT.out]
  clear h hP hes he HT hG hT
  go_enter Tryz.func116, Tryz.ntmps116
  go_upto_region 1 with fail
  generalize w.alloc (.cells #[.int .i64 0, .int .i64 0, .string ⟨#[]⟩] tAns) = w0 at *
  have hBe := HK0.out.Be HP.out
  have r0 : w0.cell? ⟨gE, i * 3, none⟩ = _ := hBe.cell HE.out (j := 0) rfl
  have r1 : w0.cell? ⟨gE, i * 3 + 1, none⟩ = _ := hBe.cell HE.out (j := 1) rfl
  have rl := hBe.lt
  clear hBe
  go_wp2_with fail
  refine (refuse_any 3 _).mono ?_
  rintro e w1 ⟨rfl, hb1⟩
  have HK1 := Lib.hid (HK0.out.below hb1)
  have HX1 := Lib.hid (HX0.out.below hb1)
  simp only [encAn]
  clear hb1 HK0 HX0
  have hX9 := HX1.out _ _ HXB.out
  have HFin := Lib.hid (fin_ans HK1.out HX1.out HXw.out HXB.out hlow hroom)
  have p0 := hX9.cell 0
  have p1 := hX9.cell 1
  have p2 := hX9.cell 2
  simp only [List.getElem?_cons_zero, List.getElem?_cons_succ] at p0 p1 p2
  have f0 := hX9.open_
  have hl9 := hX9.lt
  clear hX9 HK1 HX1 HXw HXB
  go_wp2
  refine bodyPost_ret (v := .agg #[.int .i64 3, .int .i64 0, .string ⟨#[]⟩]) (by simp [results, Tryz.results116, go_sem, p0, p1, p2]) rfl ?_
  exact ⟨rfl, by (show ActFin _ _ _ _ k _); with_reducible exact HFin.out _ _ _⟩
 ·skip
  rw [he] at hes
  have HE := Lib.hid hes
  by_cases hz1 : z = []
  ·skip
   subst hz1
   have HT := Lib.hid (show Cf.writeT k q i [] = Cf.refuseT k 2 by unfold Cf.writeT; rw [he, if_neg (by simp), if_pos (by simp [Cf.inB])])
   rw [HT.out]
   clear h hP hes he HT hG hT
   go_enter Tryz.func116, Tryz.ntmps116
   go_upto_region 1 with fail
   generalize w.alloc (.cells #[.int .i64 0, .int .i64 0, .string ⟨#[]⟩] tAns) = w0 at *
   have hBe := HK0.out.Be HP.out
   have r0 : w0.cell? ⟨gE, i * 3, none⟩ = _ := hBe.cell HE.out (j := 0) rfl
   have r1 : w0.cell? ⟨gE, i * 3 + 1, none⟩ = _ := hBe.cell HE.out (j := 1) rfl
   have rl := hBe.lt
   clear hBe
   go_wp2_with fail
   refine (refuse_any 2 _).mono ?_
   rintro e w1 ⟨rfl, hb1⟩
   have HK1 := Lib.hid (HK0.out.below hb1)
   have HX1 := Lib.hid (HX0.out.below hb1)
   simp only [encAn]
   clear hb1 HK0 HX0
   have hX9 := HX1.out _ _ HXB.out
   have HFin := Lib.hid (fin_ans HK1.out HX1.out HXw.out HXB.out hlow hroom)
   have p0 := hX9.cell 0
   have p1 := hX9.cell 1
   have p2 := hX9.cell 2
   simp only [List.getElem?_cons_zero, List.getElem?_cons_succ] at p0 p1 p2
   have f0 := hX9.open_
   have hl9 := hX9.lt
   clear hX9 HK1 HX1 HXw HXB
   go_wp2
   refine bodyPost_ret (v := .agg #[.int .i64 2, .int .i64 0, .string ⟨#[]⟩]) (by simp [results, Tryz.results116, go_sem, p0, p1, p2]) rfl ?_
   exact ⟨rfl, by (show ActFin _ _ _ _ k _); with_reducible exact HFin.out _ _ _⟩
  by_cases hz2 : 100 < z.length
  ·skip
   have HT := Lib.hid (show Cf.writeT k q i z = Cf.refuseT k 2 by unfold Cf.writeT; rw [he, if_neg (by simp), if_pos (by simp [Cf.inB]; omega)])
   have hzz : (⟨z.toArray⟩ : ByteArray).size = z.length := by simp [ByteArray.size]
   have hze : ¬ z.isEmpty = true := by simpa using hz1
   rw [HT.out]
   clear h hP hes he HT hG hT
   go_enter Tryz.func116, Tryz.ntmps116
   go_upto_region 1 with fail
   generalize w.alloc (.cells #[.int .i64 0, .int .i64 0, .string ⟨#[]⟩] tAns) = w0 at *
   have hBe := HK0.out.Be HP.out
   have r0 : w0.cell? ⟨gE, i * 3, none⟩ = _ := hBe.cell HE.out (j := 0) rfl
   have r1 : w0.cell? ⟨gE, i * 3 + 1, none⟩ = _ := hBe.cell HE.out (j := 1) rfl
   have rl := hBe.lt
   clear hBe
   go_wp2_with fail
   refine (refuse_any 2 _).mono ?_
   rintro e w1 ⟨rfl, hb1⟩
   have HK1 := Lib.hid (HK0.out.below hb1)
   have HX1 := Lib.hid (HX0.out.below hb1)
   simp only [encAn]
   clear hb1 HK0 HX0
   have hX9 := HX1.out _ _ HXB.out
   have HFin := Lib.hid (fin_ans HK1.out HX1.out HXw.out HXB.out hlow hroom)
   have p0 := hX9.cell 0
   have p1 := hX9.cell 1
   have p2 := hX9.cell 2
   simp only [List.getElem?_cons_zero, List.getElem?_cons_succ] at p0 p1 p2
   have f0 := hX9.open_
   have hl9 := hX9.lt
   clear hX9 HK1 HX1 HXw HXB
   go_wp2
   refine bodyPost_ret (v := .agg #[.int .i64 2, .int .i64 0, .string ⟨#[]⟩]) (by simp [results, Tryz.results116, go_sem, p0, p1, p2]) rfl ?_
   exact ⟨rfl, by (show ActFin _ _ _ _ k _); with_reducible exact HFin.out _ _ _⟩
  have hze : ¬ z.isEmpty = true := by simpa using hz1
  have hzl : 1 ≤ z.length := List.length_pos_iff.2 hz1
  have hzz : (⟨z.toArray⟩ : ByteArray).size = z.length := by simp [ByteArray.size]
  have hin : Cf.inB (z.length : Int) 1 100 = true := by simp [Cf.inB]; omega
  clear hz1
  have HT := Lib.hid (show Cf.writeT k q i z = Cf.writePipeT k n z by
   unfold Cf.writeT
   rw [he, if_neg (by simp), if_neg (by rw [hin]; decide), if_pos (by rfl)]
   show Cf.writePipeT k (n : Int).toNat z = _
   rw [Int.toNat_natCast])
  have HC := Lib.hid (fun W (hW : KSt B wb g ⟨A, ca, M, cm, N, cn, S, cs, Q, cq⟩ xs ps k W) => writePipe_any k n z W hW hG hn (by omega))
  rw [HT.out]
  clear h hP hes he HT hG hT
  go_enter Tryz.func116, Tryz.ntmps116
  go_upto_region 1 with fail
  generalize w.alloc (.cells #[.int .i64 0, .int .i64 0, .string ⟨#[]⟩] tAns) = w0 at *
  have hBe := HK0.out.Be HP.out
  have r0 : w0.cell? ⟨gE, i * 3, none⟩ = _ := hBe.cell HE.out (j := 0) rfl
  have r1 : w0.cell? ⟨gE, i * 3 + 1, none⟩ = _ := hBe.cell HE.out (j := 1) rfl
  have rl := hBe.lt
  clear hBe
  go_wp2_with fail
  clear r0 r1 rl
  refine (HC.out _ HK0.out).mono ?_
  rintro e w1 ⟨rfl, ⟨a9, xs9, ps9, hK9⟩, hx9⟩
  have HK1 := Lib.hid hK9
  have HX1 := Lib.hid (HX0.out.trans hx9)
  clear hK9 hx9 HK0 HX0
  simp only [encAn]
  generalize Cf.writePipeT k n z = dd at *
  obtain ⟨dk, dc, dn, ds⟩ := dd
  have hX9 := HX1.out _ _ HXB.out
  have HFin := Lib.hid (fin_ans HK1.out HX1.out HXw.out HXB.out hlow hroom)
  have p0 := hX9.cell 0
  have p1 := hX9.cell 1
  have p2 := hX9.cell 2
  simp only [List.getElem?_cons_zero, List.getElem?_cons_succ] at p0 p1 p2
  have f0 := hX9.open_
  have hl9 := hX9.lt
  clear hX9 HK1 HX1 HXw HXB
  go_wp2
  refine bodyPost_ret (v := .agg #[.int .i64 dc, .int .i64 dn, .string ⟨ds.toArray⟩]) (by simp [results, Tryz.results116, go_sem, p0, p1, p2]) rfl ?_
  exact ⟨rfl, by (show ActFin _ _ _ _ dk _); with_reducible exact HFin.out _ _ _⟩
end Go.Proofs.YtnnhhbjbdmgpiaaGreatDoor
