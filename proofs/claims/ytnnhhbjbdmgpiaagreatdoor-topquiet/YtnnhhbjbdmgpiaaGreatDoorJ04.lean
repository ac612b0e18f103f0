/- Texts of the proofs: StepK, StrK. -/
import Derived.Deep.RegionLaw
import Derived.Test.YtnnhhbjbdmgpiaaGreatDoorJ03
import Derived.Lib.Strings
set_option linter.unusedSimpArgs false
set_option linter.unusedVariables false
/- A call of a Go function as a step of a region that draws its order. -/
namespace Go.Proofs.YtnnhhbjbdmgpiaaGreatDoor
set_option maxRecDepth 100000
open Go.RowKit
theorem step_call1 {P : Program} {ops : Array Oper} {o : Oper} {a : Act} {w : World} {K : Act → World → Prop} {Q : Exit → Act → World → Prop} {E : Prop} {R : Ending → World → Prop}
  (hg : o.guard = none) (f : FuncId) (x : Operand) (tys : Array TypeId) (ho : o.op = .call { callee := .value (.func f), args := #[x], argTypes := tys }) (v : Value) (hv : a.eval x = v)
  (eg : ∀ args w, (callFunc f args).run P w = .ok (.enter f args) w) (hc : Calls P f #[v] w R) (h : ∀ e w', R e w' → ∃ v, e = .returned v ∧ K (a.put o.dst v) w') :
  if Region.wanted o (yielded ops a.tmps) = true then Oper.wp P o a w K Q else E := by
 rw [if_pos (by simp [Region.wanted, hg])]
 have hex : (execOp a.eval o).run P w = .ok (.enter f #[v]) w := by
  have hfn : a.eval (.func f) = .func (.func f) #[] #[] := rfl
  simp [execOp, ho, resolve, invoke, hv, eg, hfn, Deferred.ofValue]
 unfold Oper.wp
 rw [hex]
 refine hc.mono fun e w' hr => ?_
 obtain ⟨v, rfl, hk⟩ := h e w' hr
 exact hk
theorem step_call2 {P : Program} {ops : Array Oper} {o : Oper} {a : Act} {w : World} {K : Act → World → Prop} {Q : Exit → Act → World → Prop} {E : Prop} {R : Ending → World → Prop}
  (hg : o.guard = none) (f : FuncId) (x y : Operand) (tys : Array TypeId) (ho : o.op = .call { callee := .value (.func f), args := #[x, y], argTypes := tys }) (v u : Value) (hv : a.eval x = v) (hu : a.eval y = u)
  (eg : ∀ args w, (callFunc f args).run P w = .ok (.enter f args) w) (hc : Calls P f #[v, u] w R) (h : ∀ e w', R e w' → ∃ v, e = .returned v ∧ K (a.put o.dst v) w') :
  if Region.wanted o (yielded ops a.tmps) = true then Oper.wp P o a w K Q else E := by
 rw [if_pos (by simp [Region.wanted, hg])]
 have hex : (execOp a.eval o).run P w = .ok (.enter f #[v, u]) w := by
  have hfn : a.eval (.func f) = .func (.func f) #[] #[] := rfl
  simp [execOp, ho, resolve, invoke, hv, hu, eg, hfn, Deferred.ofValue]
 unfold Oper.wp
 rw [hex]
 refine hc.mono fun e w' hr => ?_
 obtain ⟨v, rfl, hk⟩ := h e w' hr
 exact hk
end Go.Proofs.YtnnhhbjbdmgpiaaGreatDoor
/- Strings as lists of bytes: an index, a slice, a sum. -/
namespace Go.Proofs.YtnnhhbjbdmgpiaaGreatDoor
set_option maxRecDepth 100000
open Go.RowKit
theorem ext_of {a b : ByteArray} (h : a.data.toList = b.data.toList) : a = b := by
 apply ByteArray.ext
 exact Array.toList_inj.1 h
theorem str_index (d : List UInt8) (k : Nat) (c : UInt8) (h : d[k]? = some c) : ∀ w, (Instr.index 9 (.string ⟨d.toArray⟩) (.int .i64 (k : Int))).run Tryz.prog w = .ok (.int .u8 (c.toNat : Int)) w := by
 intro w
 have hk : k < d.length := (List.getElem?_eq_some_iff.1 h).1
 have hc : (⟨d.toArray⟩ : ByteArray)[k]? = some c := by
  have hs : (⟨d.toArray⟩ : ByteArray).size = d.length := by simp [ByteArray.size]
  rw [getElem?_pos _ k (by omega)]
  have := (List.getElem?_eq_some_iff.1 h).2
  congr 1
 simp [Instr.index, run_underlying Tryz.underlying9, asIntOf, hc, go_sem]
theorem str_from (d : List UInt8) (f : Nat) (hf : f ≤ d.length) : ∀ w, (Instr.slice 9 (.string ⟨d.toArray⟩) (some (.int .i64 (f : Int))) none none).run Tryz.prog w = .ok (.string ⟨(d.drop f).toArray⟩) w := by
 intro w
 have hs : (⟨d.toArray⟩ : ByteArray).size = d.length := by simp [ByteArray.size]
 rw [run_slice_string_l (P := Tryz.prog) (w := w) 9 ⟨d.toArray⟩ Tryz.underlying9 .i64 f (by omega) (by rw [hs]; omega), hs]
 congr 2
 apply ext_of
 rw [Lib.extract_data]
 simp only [Int.toNat_natCast]
 exact List.take_of_length_le (by simp)
theorem str_append (a b : List UInt8) : (⟨a.toArray⟩ : ByteArray) ++ ⟨b.toArray⟩ = ⟨(a ++ b).toArray⟩ := by
 apply ByteArray.ext
 simp [ByteArray.data_append]
end Go.Proofs.YtnnhhbjbdmgpiaaGreatDoor
