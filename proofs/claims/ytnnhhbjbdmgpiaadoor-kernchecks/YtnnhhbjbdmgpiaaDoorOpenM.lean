/- Arguments opened: a module by value. -/
import Derived.Test.YtnnhhbjbdmgpiaaDoorOpenG
import Derived.Test.YtnnhhbjbdmgpiaaDoorModP
namespace Go.Proofs.YtnnhhbjbdmgpiaaDoor
set_option maxRecDepth 100000
open Go.ChangeShapes Go.WideShapes Go.ChangeAt Go.RowKit Go.Deep

theorem insFour : fourInts Tryd.prog 73 = true := by kernel_rfl
theorem insBytes : Tryd.prog.bytesOf 73 = 32 := by kernel_rfl
theorem intBytes : Tryd.prog.bytesOf 3 = 8 := by kernel_rfl
theorem intCells : Tryd.prog.cellsOf 3 = 1 := by kernel_rfl
theorem modCells : Tryd.prog.cellsOf 40 = 3 := by kernel_rfl
theorem strOne : Tryd.prog.cellsOf 9 = 1 := by kernel_rfl
theorem insOne : Tryd.prog.cellsOf 38 = 1 := by kernel_rfl
theorem intsOne : Tryd.prog.cellsOf 23 = 1 := by kernel_rfl
/-- What the cells of a module hold. -/
def ModAt (w : World) (N : Nat) (cs : List Value) (n : List UInt8) (l : List Cf.Ins) (d : List Int) (A : Option Addr) (ca : Nat) (B : Option Addr) (cb : Nat) : Prop :=
  cs = [.string ⟨n.toArray⟩, .slice A l.length ca, .slice B d.length cb] ∧ Codes w A l ∧ Ints w B d ∧ (n.length ≤ maxLen ∧ n.length ≤ N) ∧ (l.length ≤ maxLen ∧ l.length * 32 ≤ N) ∧ (d.length ≤ maxLen ∧ d.length * 8 ≤ N)
theorem open_mod {H : Type} {enc : TypeId × Value → H} {w : World} {fuel : Nat} {cs : List Value} {x : DataW H × List MemPlace} {N : Nat}
    (h : DataW.trod enc Tryd.prog w 0 (fun _ => true) true fuel 40 cs = some x) (hN : Light Tryd.prog 40 N x.1) : ∃ n l d A ca B cb, ModAt w N cs n l d A ca B cb := by
  obtain ⟨c0, c1, c2, rfl⟩ := three_of ((open_len Tryd.underlying40 h).trans modCells)
  obtain ⟨_, _, h0, l0⟩ := open_cell Tryd.underlying40 h hN 0 (ft := 9) (off := 0) rfl strOne rfl
  obtain ⟨_, _, h1, l1⟩ := open_cell Tryd.underlying40 h hN 1 (ft := 38) (off := 1) rfl insOne rfl
  obtain ⟨_, _, h2, l2⟩ := open_cell Tryd.underlying40 h hN 2 (ft := 23) (off := 2) rfl intsOne rfl
  obtain ⟨n, e0, hn1, hn2⟩ := open_text Tryd.underlying9 h0 l0
  obtain ⟨A, ca, l, e1, hl1, hl2, hC⟩ := open_rd_ins Tryd.underlying38 insFour h1 l1
  obtain ⟨B, cb, d, e2, hd1, hd2, hD⟩ := open_rd_nums Tryd.underlying23 Tryd.underlying3 intCells h2 l2
  rw [insBytes] at hl2
  rw [intBytes] at hd2
  simp at e0 e1 e2
  exact ⟨n, l, d, A, ca, B, cb, by rw [e0, e1, e2], hC, hD, ⟨hn1, hn2⟩, ⟨hl1, hl2⟩, ⟨hd1, hd2⟩⟩
theorem open_mod_arg {H : Type} {enc : TypeId × Value → H} {w : World} {r : Reach} {b0 : Nat} {v : Value} {d : DataW H} {ps : List MemPlace} {N : Nat}
    (hv : Value.okWide Tryd.prog w r b0 40 v) (h : DataW.Trod enc Tryd.prog w 0 (fun _ => true) true 40 v d ps) (hN : Light Tryd.prog 40 N d) : ∃ n l da A ca B cb, v = .agg #[.string ⟨n.toArray⟩, .slice A l.length ca, .slice B da.length cb] ∧ ModAt w N [.string ⟨n.toArray⟩, .slice A l.length ca, .slice B da.length cb] n l da A ca B cb := by
  simp only [Value.okWide, Tryd.underlying40] at hv
  obtain ⟨cs, rfl, _, _⟩ := hv
  obtain ⟨fuel, h⟩ := h
  obtain ⟨n, l, da, A, ca, B, cb, hm⟩ := open_mod h hN
  have he : cs.toList = [.string ⟨n.toArray⟩, .slice A l.length ca, .slice B da.length cb] := hm.1
  refine ⟨n, l, da, A, ca, B, cb, ?_, rfl, hm.2⟩
  obtain ⟨cl⟩ := cs
  simp only at he
  rw [he]
end Go.Proofs.YtnnhhbjbdmgpiaaDoor
