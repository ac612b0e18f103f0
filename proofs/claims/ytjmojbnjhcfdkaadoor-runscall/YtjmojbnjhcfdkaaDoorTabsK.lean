/- The listed tables of chapter 1, as the walks ask them. -/
import Derived.Test.YtjmojbnjhcfdkaaDoorKit
import Derived.Test.YtjmojbnjhcfdkaaDoorShow
namespace Go.Proofs.YtjmojbnjhcfdkaaDoor
open Go.ChangeShapes Go.WideShapes Go.ChangeAt Go.RowKit

theorem insFields : fourInts Tryd.prog 35 = true := by kernel_rfl
theorem cellsInt : Tryd.prog.cellsOf 3 = 1 := by kernel_rfl
theorem cellsStr : Tryd.prog.cellsOf 9 = 1 := by kernel_rfl
theorem cellsL : Tryd.prog.cellsOf 104 = 4 := by kernel_rfl
theorem cellsR : Tryd.prog.cellsOf 83 = 3 := by kernel_rfl
theorem cellsPow : Tryd.prog.cellsOf 139 = 20 := by kernel_rfl
theorem cellsU64 : Tryd.prog.cellsOf 98 = 1 := by kernel_rfl
theorem gL : Tryd.prog.globalNamed "curfew/code.largest" = some 2 := by kernel_rfl
theorem gLt : (Tryd.prog.globals[2]?).map (·.type) = some 104 := by kernel_rfl
theorem gF : Tryd.prog.globalNamed "curfew/code.formats" = some 0 := by kernel_rfl
theorem gFt : (Tryd.prog.globals[0]?).map (·.type) = some 85 := by kernel_rfl
theorem gN : Tryd.prog.globalNamed "curfew/code.names" = some 1 := by kernel_rfl
theorem gNt : (Tryd.prog.globals[1]?).map (·.type) = some 86 := by kernel_rfl
theorem gPt : (Tryd.prog.globals[6]?).map (·.type) = some 139 := by kernel_rfl
def deBr32 : List Value := ([0, 1, 28, 2, 29, 14, 24, 3, 30, 22, 20, 15, 25, 17, 4, 8, 31, 27, 13, 23, 21, 19, 16, 7, 26, 12, 18, 6, 11, 5, 10, 9] : List Int).map (Value.int .u8)
def deBr64 : List Value := ([0, 1, 56, 2, 57, 49, 28, 3, 61, 58, 42, 50, 38, 29, 17, 4, 62, 47, 59, 36, 45, 43, 51, 22, 53, 39, 33, 30, 24, 18, 12, 5, 63, 55, 48, 27, 60, 41, 37, 16, 46, 35, 44, 21, 52, 32, 23, 11, 54, 26, 40, 15, 34, 20, 31, 10, 25, 14, 19, 9, 13, 8, 7, 6] : List Int).map (Value.int .u8)

/-- A table of strings. -/
theorem tab_strs {P : Program} {W : World} {laid : List (String × DataW Unit)} (h : laidMetH P laid W) {n : String} {z : List UInt8} {zs : List (List UInt8)} {g : Nat} {t e : TypeId} {m : Nat}
    (hm : (n, .agg ((z :: zs).map fun l => .lit (.string l))) ∈ laid) (hg : P.globalNamed n = some g) (hty : (P.globals[g]?).map (·.type) = some t) (ht : P.underlying t = some (.array m e)) (he : P.underlying e = some .string) (hce : P.cellsOf e = 1) :
    Tab g ((z :: zs).map fun l => Value.string ⟨l.toArray⟩) W := by
  obtain ⟨g', t', cs, fuel, p, hg', ht', hvar, hd⟩ := laidH_var h hm rfl
  obtain rfl := Option.some.inj (hg.symm.trans hg')
  obtain rfl := Option.some.inj (hty.symm.trans ht')
  obtain ⟨xs, f', _, hx, hlen, hxl, hrow⟩ := DataW.trod_array ht hd
  have hx1 : ((z :: zs).map fun l => (DataW.lit (.string l) : DataW Unit)) = xs.map (·.1) := by
    have := congrArg Prod.fst hx
    simpa using this
  have hzl : (z :: zs).length = m := by
    have := congrArg List.length hx1
    simp only [List.length_map] at this
    omega
  have hc : ∀ j v, ((z :: zs).map fun l => Value.string ⟨l.toArray⟩)[j]? = some v → W.cell? ⟨g, j, none⟩ = some v := by
    intro j v hv
    rw [List.getElem?_map, Option.map_eq_some_iff] at hv
    obtain ⟨l, hl, rfl⟩ := hv
    have hj : j < m := by rw [← hzl]; exact (List.getElem?_eq_some_iff.1 hl).1
    have h1 := hrow j hj
    rw [hce] at h1
    have h2 : (xs.map (·.1))[j]? = some (DataW.lit (.string l)) := by rw [← hx1, List.getElem?_map, hl]; rfl
    rw [List.getElem?_map, Option.map_eq_some_iff] at h2
    obtain ⟨⟨d, p'⟩, hxj, hd'⟩ := h2
    rw [hxj] at h1
    obtain ⟨s, hs, hsx, _⟩ := DataW.trod_string he h1
    simp only [Prod.mk.injEq] at hsx
    simp only at hd'
    rw [hd'] at hsx
    have hls : l = s.data.toList := by
      have := hsx.1
      injection this with this
      injection this with this
    have h0 := congrArg (·[0]?) hs
    simp [List.getElem?_drop] at h0
    rw [World.var?_cell hg hvar, h0, hls]
  exact ⟨lt_of_cell (hc 0 _ rfl), hc⟩

section
variable {W : World} {laid : List (String × DataW Unit)} (h : laidMetH Tryd.prog laid W)
include h
theorem laidL (hm : ("curfew/code.largest", Rows.laid_curfew_code_largest) ∈ laid) : TabL W := tab_ints h hm gL gLt Tryd.underlying104 Tryd.underlying3 cellsInt cellsL
theorem laidF (hm : ("curfew/code.formats", Rows.laid_curfew_code_formats) ∈ laid) : TabF W :=
  tab_rows (zss := Cf.fmtTab) h hm gF gFt Tryd.underlying85 Tryd.underlying83 Tryd.underlying3 cellsInt cellsR (by decide) (by decide)
theorem laidN (hm : ("curfew/code.names", Rows.laid_curfew_code_names) ∈ laid) : TabN W := tab_strs h hm gN gNt Tryd.underlying86 Tryd.underlying9 cellsStr
theorem laidP (hm : ("internal/strconv.uint64pow10", Rows.laid_internal_strconv_uint64pow10) ∈ laid) : TabP W := by
  have e : (Rows.laid_internal_strconv_uint64pow10 : DataW Unit) = Lib.tabData .u64 Lib.pow10Tab := rfl
  rw [e] at hm
  obtain ⟨g', t', cs, fuel, p, hg', ht', hvar, hd⟩ := laidH_var h hm rfl
  obtain rfl := Option.some.inj (gP.symm.trans hg')
  obtain rfl := Option.some.inj (gPt.symm.trans ht')
  have hcs := Lib.cells_of_tab Tryd.underlying139 Tryd.underlying98 cellsU64 cellsPow hd
  have hv : Lib.TabIs Tryd.prog W "internal/strconv.uint64pow10" .u64 Lib.pow10Tab := by
    unfold Lib.TabIs
    rw [hvar, ← hcs]
  refine ⟨hv, ?_⟩
  have := World.var?_cell gP hvar 0
  have h0 : cs[0]? = some (.int .u64 1) := by rw [← Array.getElem?_toList, hcs]; rfl
  rw [h0] at this
  exact lt_of_cell this
end
end Go.Proofs.YtjmojbnjhcfdkaaDoor
