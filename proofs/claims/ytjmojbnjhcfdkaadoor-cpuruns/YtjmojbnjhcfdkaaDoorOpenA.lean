/- Arguments opened: an array of eight numbers, a slice of numbers. Of any program. -/
import Derived.Test.YtjmojbnjhcfdkaaDoorMachW
import Derived.Test.YtjmojbnjhcfdkaaDoorKit
namespace Go.Proofs.YtjmojbnjhcfdkaaDoor
open Go.ChangeShapes Go.WideShapes Go.ChangeAt Go.RowKit Go.Deep

theorem open_arr8 {H : Type} {enc : TypeId × Value → H} {P : Program} {w : World} {r : Reach} {b0 : Nat} {t e : TypeId} {v : Value} {d : DataW H} {ps : List MemPlace}
    (ht : P.underlying t = some (.array 8 e)) (he : P.underlying e = some (.int .i64)) (hce : P.cellsOf e = 1) (hct : P.cellsOf t = 8)
    (hv : Value.okWide P w r b0 t v) (h : DataW.Trod enc P w 0 (fun _ => true) true t v d ps) :
    ∃ r0 r1 r2 r3 r4 r5 r6 r7 : Int, v = .agg #[.int .i64 r0, .int .i64 r1, .int .i64 r2, .int .i64 r3, .int .i64 r4, .int .i64 r5, .int .i64 r6, .int .i64 r7] := by
  simp only [Value.okWide, ht] at hv
  obtain ⟨cs, rfl, hsz, _⟩ := hv
  obtain ⟨fuel, h⟩ := h
  obtain ⟨xs, m, _, _, hlen, hxl, hrow⟩ := DataW.trod_array ht h
  have hc : (Value.agg cs).cells.toList = cs.toList := rfl
  rw [hc] at hrow
  have one : ∀ i, i < 8 → ∃ z : Int, cs.toList[i]? = some (.int .i64 z) := by
    intro i hi
    have h1 := hrow i hi
    rw [hce, Nat.mul_one] at h1
    have hys : xs[i]? = some (xs[i]'(by omega)) := List.getElem?_eq_getElem (by omega)
    obtain ⟨z, hz, _⟩ := DataW.trod_int he (h1.trans hys)
    refine ⟨z, ?_⟩
    have h0 := congrArg (·[0]?) hz
    simpa [List.getElem?_drop] using h0
  have hl : cs.toList.length = 8 := by rw [Array.length_toList, hsz, hct]
  obtain ⟨l⟩ := cs
  simp only at one hl
  match l, hl with
  | [c0, c1, c2, c3, c4, c5, c6, c7], _ =>
    obtain ⟨r0, e0⟩ := one 0 (by omega)
    obtain ⟨r1, e1⟩ := one 1 (by omega)
    obtain ⟨r2, e2⟩ := one 2 (by omega)
    obtain ⟨r3, e3⟩ := one 3 (by omega)
    obtain ⟨r4, e4⟩ := one 4 (by omega)
    obtain ⟨r5, e5⟩ := one 5 (by omega)
    obtain ⟨r6, e6⟩ := one 6 (by omega)
    obtain ⟨r7, e7⟩ := one 7 (by omega)
    simp at e0 e1 e2 e3 e4 e5 e6 e7
    exact ⟨r0, r1, r2, r3, r4, r5, r6, r7, by rw [e0, e1, e2, e3, e4, e5, e6, e7]⟩
/-- A slice of numbers, as a list. -/
theorem open_nums {H : Type} {enc : TypeId × Value → H} {P : Program} {w : World} {r : Reach} {b0 : Nat} {t e : TypeId} {v : Value} {d : DataW H} {ps : List MemPlace}
    (ht : P.underlying t = some (.slice e)) (he : P.underlying e = some (.int .i64)) (hce : P.cellsOf e = 1)
    (hv : Value.okWide P w r b0 t v) (h : DataW.Trod enc P w 0 (fun _ => true) true t v d ps) :
    ∃ (A : Option Addr) (cap : Nat) (l : List Int), v = .slice A l.length cap ∧ Ints w A l ∧ l.length ≤ maxLen ∧ (l = [] ∨ ∃ elems spare, d = .slice elems spare ∧ elems.length = l.length) := by
  obtain ⟨A, len, cap, rfl⟩ := okWide_slice ht hv
  obtain ⟨fuel, h⟩ := h
  rcases open_ints ht he hce h with ⟨hcs, _⟩ | ⟨a, len', cap', zs, hcs, _, hl, hm, hz, hd, hcell, _⟩
  · simp [Value.cells] at hcs
    obtain ⟨rfl, rfl, rfl⟩ := hcs
    exact ⟨none, 0, [], rfl, .inl rfl, by simp, .inl rfl⟩
  · simp [Value.cells] at hcs
    obtain ⟨rfl, rfl, rfl⟩ := hcs
    simp at hz
    have hlen : (zs.take len).length = len := by simp; omega
    simp only [Prod.mk.injEq] at hd
    refine ⟨some a, cap, zs.take len, by rw [hlen], ?_, by rw [hlen]; omega, .inr ⟨_, _, hd.1, by simp [lits]⟩⟩
    rcases Nat.eq_zero_or_pos len with h0 | h0
    · subst h0
      exact .inl (by simp)
    · have hc0 := hcell 0 (by omega)
      obtain ⟨b, off, spot⟩ := a
      have hspot : spot = none := by simpa [Addr.add] using World.cell?_spot hc0
      subst hspot
      refine .inr ⟨b, off, rfl, ?_, fun k x hx j u hu => ?_⟩
      · have := lt_of_cell hc0
        simpa [Addr.add] using this
      · cases j with
        | zero =>
          simp [encZ] at hu
          subst hu
          rw [List.getElem?_take] at hx
          split at hx
          · have hk : k < zs.length := by omega
            have := hcell k hk
            rw [Go.WideShapes.add_plain, List.getD_eq_getElem?_getD, hx] at this
            simpa using this
          · cases hx
        | succ j => simp [encZ] at hu
end Go.Proofs.YtjmojbnjhcfdkaaDoor
