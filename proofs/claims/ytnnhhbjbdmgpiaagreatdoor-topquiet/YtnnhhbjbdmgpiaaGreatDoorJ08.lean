/- Texts of the proofs: NewK, SameK. -/
import Derived.Test.YtnnhhbjbdmgpiaaGreatDoorJ05
import Derived.Test.YtnnhhbjbdmgpiaaGreatDoorJ04
set_option linter.unusedSimpArgs false
set_option linter.unusedVariables false
/- What the program says of a kernel's types. -/
namespace Go.Proofs.YtnnhhbjbdmgpiaaGreatDoor
set_option maxRecDepth 100000
open Go.RowKit
theorem infoI : (Tryz.prog.info? 3).map (fun i => (i.zero, i.size, i.bytes)) = some (some (.int .i64 0), 1, 8) := by kernel_rfl
theorem infoS : (Tryz.prog.info? 9).map (fun i => (i.zero, i.size, i.bytes)) = some (some (.string ⟨#[]⟩), 1, 16) := by kernel_rfl
theorem infoN : (Tryz.prog.info? 57).map (fun i => (i.zero, i.size, i.bytes)) = some (some (.agg #[.string ⟨#[]⟩, .int .i64 0, .string ⟨#[]⟩, .int .i64 0]), 4, 48) := by kernel_rfl
theorem infoE : (Tryz.prog.info? 72).map (fun i => (i.zero, i.size, i.bytes)) = some (some (.agg #[.int .i64 0, .int .i64 0, .int .i64 0]), 3, 24) := by kernel_rfl
theorem infoP : (Tryz.prog.info? 69).map (fun i => (i.zero, i.size, i.bytes)) = some (some (.agg #[.bool false, .slice none 0 0]), 2, 32) := by kernel_rfl
abbrev tNode : TypeId := 57
abbrev tEnd : TypeId := 72
abbrev tProc : TypeId := 69
abbrev tStr : TypeId := 9
def noPv : PV := ⟨false, none, 0, 0⟩
def kz : List Value := [.slice none 0 0, .slice none 0 0, .slice none 0 0, .slice none 0 0, .slice none 0 0]
theorem set_alloc {w : World} {p : Addr} (h : p.block < w.heap.size) {o : Obj} {u : Value} : (w.alloc o).setCell p u = (w.setCell p u).alloc o := by
 simp only [World.alloc, World.setCell]
 congr 1
 apply Array.ext_getElem?
 intro i
 rw [Array.getElem?_modify, Array.getElem?_push, Array.getElem?_push, Array.getElem?_modify, Array.size_modify]
 by_cases h1 : i = w.heap.size
 ·subst h1
  simp [show ¬ p.block = w.heap.size by omega]
 ·simp [h1]
theorem five_of {cs : List Value} (h : cs.length = 5) : ∃ a b c d e, cs = [a, b, c, d, e] := by
 match cs, h with
 | [a, b, c, d, e], _ => exact ⟨a, b, c, d, e, rfl⟩
end Go.Proofs.YtnnhhbjbdmgpiaaGreatDoor
/- Walks of the law's own helper: two kernels that read as one are the same. -/
namespace Go.Proofs.YtnnhhbjbdmgpiaaGreatDoor
set_option maxRecDepth 100000
open Go.RowKit
theorem le_big {n : Nat} (h : n ≤ big) : n ≤ maxLen := Nat.le_trans h (by unfold big maxLen; omega)
def SKs (w : World) (g : Nat) (l1 l2 : List Value) (wr : World) : Prop := Wb wr g tKern l1 ∧ Wb wr (g + 1) tKern l2 ∧ Below w.heap.size w wr
theorem SKs.next {w : World} {g : Nat} {l1 l2 : List Value} {wr w' : World} (h : SKs w g l1 l2 wr) (hb : Below wr.heap.size wr w') : SKs w g l1 l2 w' :=
 ⟨h.1.below hb h.1.lt, h.2.1.below hb h.2.1.lt, h.2.2.trans (hb.mono h.2.2.size)⟩
theorem drop_below {w w' : World} (h : Below w.drew.heap.size w.drew w') : Below w.heap.size w w' := (Below.refl _ _).drew.trans h
end Go.Proofs.YtnnhhbjbdmgpiaaGreatDoor
