/- Arguments opened: a struct of four numbers by value, a truth value. Of any program. -/
import Derived.Test.YtdhnoaohicopdabDoorRawO
namespace Go.Proofs.YtdhnoaohicopdabDoor
open Go.ChangeShapes Go.WideShapes Go.ChangeAt Go.RowKit Go.Deep

theorem open_raw {H : Type} {enc : TypeId × Value → H} {P : Program} {w : World} {r : Reach} {b0 : Nat} {t : TypeId} {v : Value} {d : DataW H} {ps : List MemPlace}
    (h4 : fourInts P t = true) (hv : Value.okWide P w r b0 t v) (h : DataW.Trod enc P w 0 (fun _ => true) true t v d ps) :
    ∃ k a b c : Int, v = .agg #[.int .i64 k, .int .i64 a, .int .i64 b, .int .i64 c] ∧ Fit k ∧ Fit a ∧ Fit b ∧ Fit c := by
  obtain ⟨fs, he, hn, hC, hf⟩ := fourInts_of h4
  simp only [Value.okWide, he] at hv
  obtain ⟨cs, rfl, hsz, _⟩ := hv
  obtain ⟨fuel, h⟩ := h
  obtain ⟨ys, n', _, _, hlen, hyl, hg⟩ := DataW.trod_struct he h
  have hc : (Value.agg cs).cells.toList = cs.toList := rfl
  rw [hc] at hg
  have one : ∀ j, j < 4 → ∃ z : Int, Fit z ∧ cs.toList[j]? = some (.int .i64 z) := by
    intro j hj
    have hj' := hf j hj
    rw [Option.map_eq_some_iff] at hj'
    obtain ⟨f, hfj, hfe⟩ := hj'
    simp only [Prod.mk.injEq] at hfe
    obtain ⟨ho, hu, hk⟩ := hfe
    have h1 := hg j f hfj
    rw [ho, hk] at h1
    have hys : ys[j]? = some (ys[j]'(by omega)) := List.getElem?_eq_getElem (by omega)
    obtain ⟨z, hz, _, hwf⟩ := DataW.trod_int hu (h1.trans hys)
    refine ⟨z, fit_wf hwf, ?_⟩
    have h0 := congrArg (·[0]?) hz
    simpa [List.getElem?_drop] using h0
  have hl : cs.toList.length = 4 := by rw [Array.length_toList, hsz, hC]
  obtain ⟨l⟩ := cs
  simp only at one hl
  match l, hl with
  | [c0, c1, c2, c3], _ =>
    obtain ⟨r0, f0, e0⟩ := one 0 (by omega)
    obtain ⟨r1, f1, e1⟩ := one 1 (by omega)
    obtain ⟨r2, f2, e2⟩ := one 2 (by omega)
    obtain ⟨r3, f3, e3⟩ := one 3 (by omega)
    simp at e0 e1 e2 e3
    exact ⟨r0, r1, r2, r3, by rw [e0, e1, e2, e3], f0, f1, f2, f3⟩
end Go.Proofs.YtdhnoaohicopdabDoor
