/- The laws' own: a list of raw things opened. -/
import Derived.Test.YtdhnoaohicopdabDoorKeepH
namespace Go.Proofs.YtdhnoaohicopdabDoor
open Go.ChangeShapes Go.WideShapes Go.ChangeAt Go.RowKit Go.Deep

theorem fit_wf {z : Int} (h : (Lit.int .i64 z).wf = true) : Fit z := by
  simp [Lit.wf, IntKind.min, IntKind.max, IntKind.bits, IntKind.signed] at h
  exact ⟨by omega, by omega⟩
/-- A slice of structs of four numbers, as a list of numbers that fit. -/
theorem open_fit {H : Type} {enc : TypeId × Value → H} {P : Program} {w : World} {r : Reach} {b0 : Nat} {t e : TypeId} {v : Value} {d : DataW H} {ps : List MemPlace}
    (ht : P.underlying t = some (.slice e)) (h4 : fourInts P e = true)
    (hv : Value.okWide P w r b0 t v) (h : DataW.Trod enc P w 0 (fun _ => true) true t v d ps) :
    ∃ (A : Option Addr) (cap : Nat) (l : List Cf.Ins), v = .slice A l.length cap ∧ Codes w A l ∧ l.length ≤ maxLen ∧ ∀ x ∈ l, FitI x := by
  obtain ⟨fs, he, hn, hC, hf⟩ := fourInts_of h4
  obtain ⟨A, len, cap, rfl⟩ := okWide_slice ht hv
  obtain ⟨fuel, h⟩ := h
  rcases open_slice ht h with ⟨hcs, _⟩ | ⟨a, len', cap', m, n, D, Pl, hcs, _, hle, hmax, hm, _, hi⟩
  · simp [Value.cells] at hcs
    obtain ⟨rfl, rfl, rfl⟩ := hcs
    exact ⟨none, 0, [], rfl, .inl rfl, by simp, fun x hx => by cases hx⟩
  · simp [Value.cells] at hcs
    obtain ⟨rfl, rfl, rfl⟩ := hcs
    simp at hm
    subst hm
    have hel : ∀ i, i < len → ∃ x : Cf.Ins, FitI x ∧ ∀ j u, (encI x)[j]? = some u → w.cell? (a.add (i * 4 + j)) = some u := by
      intro i hil
      obtain ⟨cs', hc, ht'⟩ := hi i (by omega)
      rw [hC] at hc
      obtain ⟨ys, n', _, _, hlen, hyl, hg⟩ := DataW.trod_struct he ht'
      obtain ⟨_, hcl, hat⟩ := World.cells?_some hc
      have one : ∀ j, j < 4 → ∃ z : Int, Fit z ∧ w.cell? (a.add (i * 4 + j)) = some (.int .i64 z) := by
        intro j hj
        have hj' := hf j hj
        rw [Option.map_eq_some_iff] at hj'
        obtain ⟨f, hfj, hfe⟩ := hj'
        simp only [Prod.mk.injEq] at hfe
        obtain ⟨ho, hu, hk⟩ := hfe
        have h1 := hg j f hfj
        rw [ho, hk] at h1
        have hys : ys[j]? = some (ys[j]'(by omega)) := List.getElem?_eq_getElem (by omega)
        obtain ⟨z, hz, _, hwf⟩ := DataW.trod_int hu (h1.trans hys)
        refine ⟨z, fit_wf hwf, ?_⟩
        have h0 := congrArg (·[0]?) hz
        simp [List.getElem?_drop] at h0
        rw [← Go.Deep.add_add, hat j (by omega)]
        exact h0
      obtain ⟨z0, t0, e0⟩ := one 0 (by omega)
      obtain ⟨z1, t1, e1⟩ := one 1 (by omega)
      obtain ⟨z2, t2, e2⟩ := one 2 (by omega)
      obtain ⟨z3, t3, e3⟩ := one 3 (by omega)
      refine ⟨⟨z0, z1, z2, z3⟩, ⟨t0, t1, t2, t3⟩, fun j u hu => ?_⟩
      match j, hu with
      | 0, hu => simp [encI] at hu; subst hu; exact e0
      | 1, hu => simp [encI] at hu; subst hu; exact e1
      | 2, hu => simp [encI] at hu; subst hu; exact e2
      | 3, hu => simp [encI] at hu; subst hu; exact e3
      | (j + 4), hu => simp [encI] at hu
    have hex : ∃ l : List Cf.Ins, l.length = len ∧ (∀ x ∈ l, FitI x) ∧ ∀ i x, l[i]? = some x → ∀ j u, (encI x)[j]? = some u → w.cell? (a.add (i * 4 + j)) = some u := by
      have : ∀ k, k ≤ len → ∃ l : List Cf.Ins, l.length = k ∧ (∀ x ∈ l, FitI x) ∧ ∀ i x, l[i]? = some x → ∀ j u, (encI x)[j]? = some u → w.cell? (a.add (i * 4 + j)) = some u := by
        intro k
        induction k with
        | zero => intro _; exact ⟨[], rfl, (fun x hx => by cases hx), fun i x hx => by simp at hx⟩
        | succ k ih =>
          intro hk
          obtain ⟨l, hl, hfit, hall⟩ := ih (by omega)
          obtain ⟨x, hxf, hx⟩ := hel k (by omega)
          refine ⟨l ++ [x], by simp [hl], (fun y hy => by rcases List.mem_append.1 hy with h | h; exact hfit y h; simp at h; rw [h]; exact hxf), fun i y hy => ?_⟩
          rw [List.getElem?_append] at hy
          split at hy
          · exact hall i y hy
          · have : i - l.length = 0 := by
              rcases Nat.eq_zero_or_pos (i - l.length) with h | h
              · exact h
              · rw [List.getElem?_eq_none (by simp; omega)] at hy; cases hy
            rw [this] at hy
            simp at hy
            subst hy
            have : i = k := by omega
            subst this
            exact hx
      exact this len (Nat.le_refl _)
    obtain ⟨l, rfl, hfit, hall⟩ := hex
    refine ⟨some a, _, l, rfl, ?_, by omega, hfit⟩
    cases l with
    | nil => exact .inl rfl
    | cons x l =>
      have h0 := hall 0 x rfl 0 _ rfl
      obtain ⟨b, off, spot⟩ := a
      have hspot : spot = none := by simpa [Addr.add] using World.cell?_spot h0
      subst hspot
      refine .inr ⟨b, off, rfl, ?_, fun i y hy j u hu => ?_⟩
      · have := lt_of_cell h0
        simpa [Addr.add] using this
      · have := hall i y hy j u hu
        rw [Go.WideShapes.add_plain] at this
        rwa [Nat.add_assoc]
theorem rawFields : fourInts Tryd.prog 47 = true := by kernel_rfl
end Go.Proofs.YtdhnoaohicopdabDoor
