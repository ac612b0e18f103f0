/- What the library reads on the road of Read, out of a row's list. -/
import Derived.Test.YthbjeleiiilhlaaDoorTabsK
import Derived.Test.YthbjeleiiilhlaaDoorRead
import Derived.Shelf.LaysM
import Derived.Deep.DeepWitnessRowRef
namespace Go.Proofs.YthbjeleiiilhlaaDoor
open Go.ChangeShapes Go.WideShapes Go.ChangeAt Go.RowKit

theorem gSt : (Tryd.prog.globals[4]?).map (·.type) = some 50 := by kernel_rfl
theorem gRt : (Tryd.prog.globals[5]?).map (·.type) = some 50 := by kernel_rfl
theorem sent_laid {W : World} {laid : List (String × DataW Unit)} (h : laidMetH Tryd.prog laid W) {n nm : String} {d : DataW Unit} {g : Nat} (hm : (n, .iface nm d) ∈ laid) (hh : (DataW.iface nm d).handleName?.isNone = true)
    (hg : Tryd.prog.globalNamed n = some g) (ht : (Tryd.prog.globals[g]?).map (·.type) = some 50) : SentE n g W := by
  obtain ⟨g', t', cs, fuel, p, hg', ht', hvar, hd⟩ := laidH_var h hm hh
  obtain rfl := Option.some.inj (hg.symm.trans hg')
  obtain rfl := Option.some.inj (ht.symm.trans ht')
  obtain ⟨f1, u, v, hcs, _, _⟩ := iface_of_trod Tryd.underlying50 hd
  have hcs' : cs = #[.iface u v] := Array.toList_inj.1 hcs
  subst hcs'
  have hc := World.var?_cell hg hvar 0
  exact ⟨lt_of_cell (hc.trans rfl), u, v, hvar⟩
theorem laidS {W : World} {laid : List (String × DataW Unit)} (h : laidMetH Tryd.prog laid W) (hm : ("strconv.ErrSyntax", Rows.laid_strconv_ErrSyntax) ∈ laid) : SentS W := sent_laid h hm rfl gS gSt
theorem laidR {W : World} {laid : List (String × DataW Unit)} (h : laidMetH Tryd.prog laid W) (hm : ("strconv.ErrRange", Rows.laid_strconv_ErrRange) ∈ laid) : SentR W := sent_laid h hm rfl gR gRt
theorem maxL_of {W : World} (h : W.ShapedOpen Tryd.prog) : MaxL W :=
  Go.Proofs.cell_of_shapedOpen_int (zero := #[.int .i64 0]) (t := 3) h (of_decide_eq_true (by kernel_rfl)) (by kernel_rfl) rfl (by kernel_rfl) (by kernel_rfl) Tryd.underlying3
/-- For a witness. -/
noncomputable def low : Nat := (World.holding Tryd.prog default ⟨#[], #[], []⟩).heap.size
def synS : ByteArray := { data := #[105, 110, 118, 97, 108, 105, 100, 32, 115, 121, 110, 116, 97, 120] }
def rngS : ByteArray := { data := #[118, 97, 108, 117, 101, 32, 111, 117, 116, 32, 111, 102, 32, 114, 97, 110, 103, 101] }
noncomputable def sentBlocks : Array Obj := #[.cells #[.string synS] 132, .cells #[.string rngS] 132]
noncomputable def synCell : List Value := [.iface 130 (.pointer (some ⟨low, 0, none⟩))]
noncomputable def rngCell : List Value := [.iface 130 (.pointer (some ⟨low + 1, 0, none⟩))]
def accR : List Value := ([128, 191, 160, 191, 128, 159, 144, 191, 128, 143, 0, 0, 0, 0, 0, 0, 0, 0, 0, 0, 0, 0, 0, 0, 0, 0, 0, 0, 0, 0, 0, 0] : List Int).map (Value.int .u8)
def firstR : List Value := Go.Pinned.utf8FirstZ.map fun (n : Nat) => Value.int .u8 (n : Int)
end Go.Proofs.YthbjeleiiilhlaaDoor
