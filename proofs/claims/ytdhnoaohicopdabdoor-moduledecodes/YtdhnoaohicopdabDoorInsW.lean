/- Walks of chapter 4: the program's reading of an instruction. -/
import Derived.Test.YtdhnoaohicopdabDoorRdrW
namespace Go.Proofs.YtdhnoaohicopdabDoor
open Go.RowKit

def InsPost (g : Nat) (r : Cf.Rdr) (w : World) (e : Ending) (w' : World) : Prop :=
  e = .returned (.agg #[.int .i64 (Cf.insR r).got.op, .int .i64 (Cf.insR r).got.a, .int .i64 (Cf.insR r).got.b, .int .i64 (Cf.insR r).got.c]) ∧ RB w' g (Cf.insR r).rdr ∧ w.grownBy w' (some g)
theorem numR_rest (n : Nat) (r : Cf.Rdr) : (Cf.numR n r).rdr.rest.length ≤ r.rest.length := Cf.takeR_rest n r
theorem grown_new {w w' : World} {row : Option Nat} (h : w.grownBy w' row) {b : Nat} (hb : w.heap.size ≤ b) (i : Nat) (v : Value) : w.grownBy (w'.setCell ⟨b, i, none⟩ v) row :=
  ⟨h.1, h.2, h.3, by rw [show (w'.setCell ⟨b, i, none⟩ v).heap.size = w'.heap.size by simp [World.setCell]]; exact h.4, fun k hk hr => (Below.heap_setCell w' ⟨b, i, none⟩ v k (by show k ≠ b; omega)).trans (h.5 k hk hr)⟩
set_option maxHeartbeats 1000000 in
theorem instr_any (g : Nat) (r : Cf.Rdr) (w : World) (hr : RB w g r) (hl : r.rest.length ≤ maxLen) :
    Calls Tryd.prog 61 #[.pointer (some ⟨g, 0, none⟩)] w (InsPost g r w) := by
  have hb0 : Below w.heap.size w (w.alloc (.cells #[.int .i64 0, .int .i64 0, .int .i64 0, .int .i64 0] 30)) := (Below.refl _ _).alloc (Nat.le_refl _) _
  have hgl := hr.lt
  have hr0 : RB (w.alloc (.cells #[.int .i64 0, .int .i64 0, .int .i64 0, .int .i64 0] 30)) g r := hr.below hb0 hr.lt
  have hx0 := Wb.new w 30 [.int .i64 0, .int .i64 0, .int .i64 0, .int .i64 0]
  have HX0 := Lib.hid hx0
  have H1 := Lib.hid (number_any g 1 r _ (by omega) hr0 hl)
  have HG0 := Lib.hid (grown_below (row := some g) hb0)
  have h1l := numR_rest 1 r
  have h2l := numR_rest 1 (Cf.numR 1 r).rdr
  have hv1 := Cf.numR1_le r
  have hv2 := Cf.numR1_le (Cf.numR 1 r).rdr
  have HI := Lib.hid (show Cf.insR r = ⟨⟨(Cf.numR 1 r).got, (Cf.numR 1 (Cf.numR 1 r).rdr).got / 16, (Cf.numR 1 (Cf.numR 1 r).rdr).got % 16, (Cf.numR 2 (Cf.numR 1 (Cf.numR 1 r).rdr).rdr).got⟩, (Cf.numR 2 (Cf.numR 1 (Cf.numR 1 r).rdr).rdr).rdr⟩ from rfl)
  clear hr hr0 hb0 hx0
  go_enter Tryd.func61, Tryd.ntmps61
  go_wp2_with fail
  refine H1.out.mono ?_
  rintro e w1 ⟨rfl, hr1, hg1⟩
  have hx1 := HX0.out.grown hg1 (by intro e; injection e with e; omega)
  have H2 := Lib.hid (number_any g 1 _ w1 (by omega) hr1 (by omega))
  have HG1 := Lib.hid (grown_trans HG0.out hg1)
  generalize Cf.numR 1 r = n1 at *
  clear hr1 hg1 H1 HX0 HG0
  go_wp2_with fail
  refine H2.out.mono ?_
  rintro e w2 ⟨rfl, hr2, hg2⟩
  have hx2 := hx1.grown hg2 (by intro e; injection e with e; omega)
  have H3 := Lib.hid (number_any g 2 _ w2 (by omega) hr2 (by omega))
  have HG2 := Lib.hid (grown_trans HG1.out hg2)
  generalize Cf.numR 1 n1.rdr = n2 at *
  clear hr2 hg2 H2 hx1 HG1
  go_wp2_with fail
  refine H3.out.mono ?_
  rintro e w3 ⟨rfl, hr3, hg3⟩
  have hx3 := hx2.grown hg3 (by intro e; injection e with e; omega)
  have HG3 := Lib.hid (grown_trans HG2.out hg3)
  have HR3 := Lib.hid hr3
  generalize Cf.numR 2 n2.rdr = n3 at *
  clear hr3 hg3 H3 hx2 HG2
  have q0 := hx3.cell 0
  have q1 := hx3.cell 1
  have q2 := hx3.cell 2
  have q3 := hx3.cell 3
  have f0 := hx3.open_ 0
  have f1 := hx3.open_ 1
  have f2 := hx3.open_ 2
  have f3 := hx3.open_ 3
  simp only [List.getElem?_cons_zero, List.getElem?_cons_succ] at q0 q1 q2 q3
  have hz3 := hx3.lt
  clear hx3
  go_wp2
  refine bodyPost_ret (v := .agg #[.int .i64 (n1.got : Int), .int .i64 ((n2.got : Int) / 16), .int .i64 ((n2.got : Int) % 16), .int .i64 (n3.got : Int)]) (by simp [results, Tryd.results61, go_sem, q0, q1, q2, q3]) rfl ?_
  unfold InsPost
  rw [HI.out]
  refine ⟨rfl, ?_, ?_⟩
  · exact (((HR3.out.off_ (p := ⟨w.heap.size, 0, none⟩) (by show g ≠ w.heap.size; omega) _).off_ (p := ⟨w.heap.size, 1, none⟩) (by show g ≠ w.heap.size; omega) _).off_ (p := ⟨w.heap.size, 2, none⟩) (by show g ≠ w.heap.size; omega) _).off_ (p := ⟨w.heap.size, 3, none⟩) (by show g ≠ w.heap.size; omega) _
  · exact grown_new (grown_new (grown_new (grown_new HG3.out (Nat.le_refl _) 0 _) (Nat.le_refl _) 1 _) (Nat.le_refl _) 2 _) (Nat.le_refl _) 3 _
end Go.Proofs.YtdhnoaohicopdabDoor
