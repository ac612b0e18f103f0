/- Texts of the proof of TopApart: CopyW. -/
import Derived.Test.YtnnhhbjbdmgpiaaGreatDoorJ13
import Derived.Test.YtnnhhbjbdmgpiaaGreatDoorJ05
import Derived.Test.YtnnhhbjbdmgpiaaGreatDoorJ08
import Derived.Test.YtnnhhbjbdmgpiaaGreatDoorJ09
import Derived.Test.YtnnhhbjbdmgpiaaGreatDoorJ27
/- Walks of chapter 4: the program's Copy. -/
namespace Go.Proofs.YtnnhhbjbdmgpiaaGreatDoor
set_option maxRecDepth 100000
open Go.RowKit

section
variable {P : Program} {α : Type} {enc : α → List Value}
/-- append onto a slice that has no room at all: it needs to own nothing. -/
theorem run_append_zero (w : World) (t ty e : TypeId) (i : TypeInfo) (z : Value) (size bytes : Nat) (ht : P.underlying t = some (.slice e)) (hi : P.info? e = some i) (hz : i.zero = some z)
    (hsize : i.size = size) (hby : i.bytes = bytes) (henc : ∀ x, (enc x).length = size)
    (b : Addr) (A : Option Addr) (c : Nat) (l : List α) (hr : RdS size enc w A l)
    (h63 : l.length ≤ maxLen) (hbytes : l.length * bytes ≤ 140737488355328) :
    ∃ A' c' w', (Builtin.append_ #[t, t] ty #[.slice (some b) 0 0, .slice A l.length c]).run P w = .ok (.slice A' l.length c') w' ∧ RdS size enc w' A' l ∧ Below w.heap.size w w' ∧ Fresh w.heap.size A' l := by
  rcases Nat.eq_zero_or_pos l.length with h0 | h0
  · have hl : l = [] := List.eq_nil_of_length_eq_zero h0
    subst hl
    refine ⟨some b, 0, w, ?_, .inl rfl, Below.refl _ _, .inl rfl⟩
    cases A with
    | none => simp [Builtin.append_, run_underlying ht, sizeOf, typeInfo, Builtin.lenOf, Builtin.firstCells, storeCells, hi]
    | some a =>
      have h := run_loadCells_list (P := P) w a [] (by simp)
      simp only [List.length_nil] at h
      simp [Builtin.append_, run_underlying ht, sizeOf, typeInfo, Builtin.lenOf, Builtin.firstCells, hi, h, storeCells]
  · rcases hr with rfl | ⟨bb, off, rfl, hbb, hc⟩
    · simp at h0
    have hR : RdS size enc w (some ⟨bb, off, none⟩) l := .inr ⟨bb, off, rfl, hbb, hc⟩
    have hfl : (l.flatMap enc).length = l.length * size := by
      clear h63 hbytes hc hR h0
      induction l with
      | nil => simp
      | cons x l ih => rw [List.flatMap_cons, List.length_append, ih, henc, List.length_cons, Nat.add_mul]; omega
    have h := run_append_grow (P := P) w t ty e i z ht hi hz b 0 0 [] (by simp) (by simp) ⟨bb, off, none⟩ l.length c (l.flatMap enc) (by rw [hsize]; exact hfl) (hR.flat henc) (by omega) (by unfold maxLen at h63; omega) (by rw [hby]; exact growslice_fits (by omega) (by rw [Nat.zero_add]; exact hbytes))
    rw [Nat.zero_add] at h
    refine ⟨_, _, _, h, .inr ⟨w.heap.size, 0, rfl, by simp, fun k x hx j v hv => ?_⟩, (Below.refl _ _).drew.alloc (Nat.le_refl _) _, .inr ⟨_, _, rfl, Nat.le_refl _⟩⟩
    have h1 := flat_at size enc henc l k x j v hx hv
    have hlt := (List.getElem?_eq_some_iff.1 h1).1
    rw [show 0 + k * size + j = k * size + j by omega, World.cell?]
    rw [show w.heap.size = w.drew.heap.size from rfl, heap_alloc_new w.drew _]
    show (_ : Array Value)[k * size + j]? = some v
    rw [Array.getElem?_append_left (by simpa using hlt), ← Array.getElem?_toList]
    simpa using h1
/-- At a step of a region that draws its order. -/
theorem step_append_zero {w : World} {ops : Array Oper} {o : Oper} {a : Act} {K : Act → World → Prop} {Q : Exit → Act → World → Prop} {E : Prop} (hgd : o.guard = none) (s x : Operand) (t : TypeId) (ho : o.op = .call { callee := .builtin .append, args := #[s, x], argTypes := #[t, t] })
    (e : TypeId) (i : TypeInfo) (z : Value) (size bytes : Nat) (ht : P.underlying t = some (.slice e)) (hi : P.info? e = some i) (hz : i.zero = some z)
    (hsize : i.size = size) (hby : i.bytes = bytes) (henc : ∀ x, (enc x).length = size)
    (b : Addr) (hs : a.eval s = .slice (some b) 0 0) (A : Option Addr) (c : Nat) (l : List α) (hx : a.eval x = .slice A l.length c) (hr : RdS size enc w A l)
    (h63 : l.length ≤ maxLen) (hbytes : l.length * bytes ≤ 140737488355328)
    (h : ∀ A' c' w', RdS size enc w' A' l → Below w.heap.size w w' → Fresh w.heap.size A' l → K (a.put o.dst (.slice A' l.length c')) w') :
    if Region.wanted o (yielded ops a.tmps) = true then Oper.wp P o a w K Q else E := by
  rw [if_pos (by simp [Region.wanted, hgd])]
  obtain ⟨A', c', w', hrun, h2, h3, h4⟩ := run_append_zero (P := P) w t o.type e i z size bytes ht hi hz hsize hby henc b A c l hr h63 hbytes
  unfold Oper.wp
  simp [execOp, ho, resolve, invoke, builtin, hs, hx, hrun, Result.andThen]
  exact h A' c' w' h2 h3 h4
end
theorem infoNum : (Tryz.prog.info? 3).map (fun i => (i.zero, i.size, i.bytes)) = some (some (.int .i64 0), 1, 8) := by kernel_rfl
theorem below_more {a w : World} (h : Below a.heap.size a w) (o : Obj) : Below a.heap.size a (w.alloc o) := h.alloc h.size o
theorem below_turn {a w : World} (h : Below a.heap.size a w) : Below a.heap.size a w.drew := h.drew
theorem below_step {a w w' : World} (h : Below a.heap.size a w) (k : Below w.heap.size w w') : Below a.heap.size a w' := h.trans (k.mono h.size)
/-- A module as a call hands it back. -/
def CopyPost (n : List UInt8) (l : List Cf.Ins) (d : List Int) (w : World) (e : Ending) (w' : World) : Prop :=
  ∃ (A B : Option Addr) (ca cb : Nat), e = .returned (.agg #[.string ⟨n.toArray⟩, .slice A l.length ca, .slice B d.length cb]) ∧ Codes w' A l ∧ Ints w' B d ∧ Below w.heap.size w w'
theorem below_size {a w : World} (h : Below a.heap.size a w) : a.heap.size ≤ w.heap.size := h.size
theorem copy_done {n : List UInt8} {l : List Cf.Ins} {d : List Int} {w wb w2 w3 : World} {A2 A3 : Option Addr} (c2 c3 : Nat) (v0 v1 v2 : Value) (hb0 : Below w.heap.size w wb) (hlt : w.heap.size + 1 < wb.heap.size) (h2 : RdS 4 encI w2 A2 l) (h3 : RdS 1 encZ w3 A3 d) (h23 : Below w2.heap.size w2 w3) (hB : Below wb.heap.size wb w3) (f2 : Fresh wb.heap.size A2 l) (f3 : Fresh wb.heap.size A3 d) :
    CopyPost n l d w (.returned (.agg #[.string ⟨n.toArray⟩, .slice A2 l.length c2, .slice A3 d.length c3])) (((w3.setCell ⟨w.heap.size + 1, 0, none⟩ v0).setCell ⟨w.heap.size + 1, 1, none⟩ v1).setCell ⟨w.heap.size + 1, 2, none⟩ v2) :=
  ⟨A2, A3, c2, c3, rfl, rd_set (rd_set (rd_set (h2.below h23) f2 (p := ⟨w.heap.size + 1, 0, none⟩) hlt v0) f2 (p := ⟨w.heap.size + 1, 1, none⟩) hlt v1) f2 (p := ⟨w.heap.size + 1, 2, none⟩) hlt v2,
    rd_set (rd_set (rd_set h3 f3 (p := ⟨w.heap.size + 1, 0, none⟩) hlt v0) f3 (p := ⟨w.heap.size + 1, 1, none⟩) hlt v1) f3 (p := ⟨w.heap.size + 1, 2, none⟩) hlt v2,
    (((hb0.trans (hB.mono hb0.size)).setCell (p := ⟨w.heap.size + 1, 0, none⟩) (by show w.heap.size ≤ w.heap.size + 1; omega) v0).setCell (p := ⟨w.heap.size + 1, 1, none⟩) (by show w.heap.size ≤ w.heap.size + 1; omega) v1).setCell (p := ⟨w.heap.size + 1, 2, none⟩) (by show w.heap.size ≤ w.heap.size + 1; omega) v2⟩

set_option maxRecDepth 100000 in
set_option maxHeartbeats 4000000 in
theorem copy_any (n : List UInt8) (l : List Cf.Ins) (d : List Int) (A B : Option Addr) (ca cb : Nat) (w : World) (hC : Codes w A l) (hD : Ints w B d) (hn : n.length ≤ 140737488355328) (hl : l.length ≤ maxLen) (hd : d.length ≤ maxLen) (hlb : l.length * 32 ≤ 140737488355328) (hdb : d.length * 8 ≤ 140737488355328) :
    Calls Tryz.prog 57 #[.agg #[.string ⟨n.toArray⟩, .slice A l.length ca, .slice B d.length cb]] w (CopyPost n l d w) := by
  obtain ⟨i1, hi1, hy0, hy1, hy2⟩ := info_parts infoNum
  obtain ⟨i0, hi, hz0, hz1, hz2⟩ := info_parts infoIns
  have Hi := Lib.hid hi
  have Hz0 := Lib.hid hz0
  have Hz1 := Lib.hid hz1
  have Hz2 := Lib.hid hz2
  have Hi1 := Lib.hid hi1
  have Hy0 := Lib.hid hy0
  have Hy1 := Lib.hid hy1
  have Hy2 := Lib.hid hy2
  have HCl := Lib.hid (fun W => cloneS_any n W (by omega))
  have HC := Lib.hid hC
  have HD := Lib.hid hD
  clear hi hz0 hz1 hz2 hi1 hy0 hy1 hy2 hC hD
  go_enter Tryz.func57, Tryz.ntmps57
  go_wp2_with fail
  have hb0 : Below w.heap.size w ((w.alloc (.cells #[.string ⟨n.toArray⟩, .slice A l.length ca, .slice B d.length cb] 79)).alloc (.cells #[.string ⟨#[]⟩, .slice none 0 0, .slice none 0 0] 79)) := ((Below.refl _ _).alloc (Nat.le_refl _) _).alloc (by simp) _
  have hx0 := (Wb.new w 79 [.string ⟨n.toArray⟩, .slice A l.length ca, .slice B d.length cb]).alloc (.cells #[.string ⟨#[]⟩, .slice none 0 0, .slice none 0 0] 79)
  have hx1 : Wb ((w.alloc (.cells #[.string ⟨n.toArray⟩, .slice A l.length ca, .slice B d.length cb] 79)).alloc (.cells #[.string ⟨#[]⟩, .slice none 0 0, .slice none 0 0] 79)) (w.heap.size + 1) 79 [.string ⟨#[]⟩, .slice none 0 0, .slice none 0 0] := by
    have := Wb.new (w.alloc (.cells #[.string ⟨n.toArray⟩, .slice A l.length ca, .slice B d.length cb] 79)) 79 [.string ⟨#[]⟩, .slice none 0 0, .slice none 0 0]
    simpa using this
  have HCB := Lib.hid (HC.out.below hb0)
  have HDB := Lib.hid (HD.out.below hb0)
  have HB0 := Lib.hid hb0
  have Hx0 := Lib.hid hx0
  have Hx1 := Lib.hid hx1
  clear hb0 HC HD hx0 hx1
  generalize (w.alloc (.cells #[.string ⟨n.toArray⟩, .slice A l.length ca, .slice B d.length cb] 79)).alloc (.cells #[.string ⟨#[]⟩, .slice none 0 0, .slice none 0 0] 79) = wb at *
  have c0 := Hx0.out.cell 0
  have c1 := Hx0.out.cell 1
  have c2 := Hx0.out.cell 2
  simp only [List.getElem?_cons_zero, List.getElem?_cons_succ] at c0 c1 c2
  have HSk : Hid (∀ W : World, Below wb.heap.size wb W → W.cell? ⟨w.heap.size, 0, none⟩ = some (.string ⟨n.toArray⟩) ∧ W.cell? ⟨w.heap.size, 1, none⟩ = some (.slice A l.length ca) ∧ W.cell? ⟨w.heap.size, 2, none⟩ = some (.slice B d.length cb)) :=
    Lib.hid (fun W hW => ⟨((Hx0.out.below hW Hx0.out.lt).cell 0), ((Hx0.out.below hW Hx0.out.lt).cell 1), ((Hx0.out.below hW Hx0.out.lt).cell 2)⟩)
  have hBr : Below wb.heap.size wb wb := Below.refl _ _
  go_region_held3 (fun W => W.cell? ⟨w.heap.size, 0, none⟩ = some (.string ⟨n.toArray⟩) ∧ W.cell? ⟨w.heap.size, 1, none⟩ = some (.slice A l.length ca) ∧ W.cell? ⟨w.heap.size, 2, none⟩ = some (.slice B d.length cb))
    (first | go_keep | exact HSk.out _ (by repeat (first | assumption | apply below_more | apply below_turn)))
    (first
      | (go_at_call 58
         refine (HCl.out _).mono ?_
         rintro e w1 ⟨rfl, hb1⟩
         have hB1 := below_step (a := wb) (by repeat (first | assumption | apply below_more | apply below_turn)) hb1)
      | (refine step_append_zero (by rfl) (.tmp 6) (.tmp 8) 77 (by rfl) 121 i0 (.agg #[.int .i64 0, .int .i64 0, .int .i64 0, .int .i64 0]) 4 32 Tryz.underlying77 Hi.out Hz0.out Hz1.out Hz2.out encI_len _ (by rfl) A ca l (by rfl) (HCB.out.below (by repeat (first | assumption | apply below_more | apply below_turn))) hl hlb ?_
         intro A2 c2' w2 hR2 hb2 hf2
         have hF2 := hf2.mono (below_size (a := wb) (by repeat (first | assumption | apply below_more | apply below_turn)))
         have hB2 := below_step (a := wb) (by repeat (first | assumption | apply below_more | apply below_turn)) hb2)
      | (refine step_append_zero (by rfl) (.tmp 10) (.tmp 12) 23 (by rfl) 3 i1 (.int .i64 0) 1 8 Tryz.underlying23 Hi1.out Hy0.out Hy1.out Hy2.out encZ_len _ (by rfl) B cb d (by rfl) (HDB.out.below (by repeat (first | assumption | apply below_more | apply below_turn))) hd hdb ?_
         intro A3 c3' w3 hR3 hb3 hf3
         have hF3 := hf3.mono (below_size (a := wb) (by repeat (first | assumption | apply below_more | apply below_turn)))
         have hB3 := below_step (a := wb) (by repeat (first | assumption | apply below_more | apply below_turn)) hb3
         have hx3 := Hx1.out.below hB3 Hx1.out.lt
         have k0 := hx3.cell 0
         have k1 := hx3.cell 1
         have k2 := hx3.cell 2
         have f0 := hx3.open_ 0
         have f1 := hx3.open_ 1
         have f2 := hx3.open_ 2
         simp only [List.getElem?_cons_zero, List.getElem?_cons_succ] at k0 k1 k2
         obtain ⟨m0, m1, m2⟩ := HSk.out _ hB3
         clear hx3)
      | fail)
  all_goals
    go_wp2
    refine bodyPost_ret (v := .agg #[.string ⟨n.toArray⟩, .slice A2 l.length c2', .slice A3 d.length c3']) (by simp [results, Tryz.results57, go_sem, k0, k1, k2]) rfl ?_
    exact copy_done c2' c3' _ _ _ HB0.out Hx1.out.lt hR2 hR3 (below_step (a := w2) (by repeat (first | exact Below.refl _ _ | apply below_more | apply below_turn)) hb3) hB3 hF2 hF3
end Go.Proofs.YtnnhhbjbdmgpiaaGreatDoor
