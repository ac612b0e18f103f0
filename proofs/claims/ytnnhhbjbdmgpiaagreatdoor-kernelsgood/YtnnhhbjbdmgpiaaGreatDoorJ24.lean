/- Texts of the proofs: KeepH, RawO, OpenR. -/
import Derived.Deep.CutRange
import Derived.Deep.CutBlock
import Derived.StillTailTactics
import Derived.Test.YtnnhhbjbdmgpiaaGreatDoorJ16
import Derived.Test.YtnnhhbjbdmgpiaaGreatDoorJ05
set_option linter.unusedSimpArgs false
set_option linter.unusedVariables false
/- Walks of the laws' own helpers: what the makers of code share. -/
namespace Go.Proofs.YtnnhhbjbdmgpiaaGreatDoor
set_option maxRecDepth 100000
open Go.RowKit
theorem new4 (w : World) (a b c d : Value) (t : TypeId) : (w.alloc (Obj.cells #[a, b, c, d] t)).cell? ⟨w.heap.size, 0, none⟩ = some a ∧ (w.alloc (Obj.cells #[a, b, c, d] t)).cell? ⟨w.heap.size, 1, none⟩ = some b ∧
  (w.alloc (Obj.cells #[a, b, c, d] t)).cell? ⟨w.heap.size, 2, none⟩ = some c ∧ (w.alloc (Obj.cells #[a, b, c, d] t)).cell? ⟨w.heap.size, 3, none⟩ = some d := by
 refine ⟨?_, ?_, ?_, ?_⟩ <;> simp
theorem wrap_fit (z : Int) (h1 : -9223372036854775808 ≤ z) (h2 : z ≤ 9223372036854775807) : IntKind.i64.wrap z = z := by
 rw [IntKind.wrap_i64]
 omega
def FitI (x : Cf.Ins) : Prop := Fit x.op ∧ Fit x.a ∧ Fit x.b ∧ Fit x.c
theorem inb {v hi : Int} (h1 : 0 ≤ v) (h2 : v ≤ hi) : Cf.inB v 0 hi = true := by simp [Cf.inB, h1, h2]
theorem chk_reg (op a b c : Int) (h2 : 2 ≤ op) (h7 : op ≤ 7) (a1 : 0 ≤ a) (a2 : a < 8) (b1 : 0 ≤ b) (b2 : b < 8) (c1 : 0 ≤ c) (c2 : c < 8) : Cf.chk ⟨op, a, b, c⟩ = 0 := by
 have hs : Cf.shapeL op = [114, 114, 114] := by
  unfold Cf.shapeL
  rw [if_neg (by omega), if_neg (by omega), if_neg (by omega), if_neg (by omega), if_neg (by omega), if_neg (by omega)]
 exact Cf.chk_zero' _ (by simp [Cf.inB]; omega) hs (inb a1 (by show a ≤ 7; omega)) (inb b1 (by show b ≤ 7; omega)) (inb c1 (by show c ≤ 7; omega))
end Go.Proofs.YtnnhhbjbdmgpiaaGreatDoor
/- The laws' own: a list of raw things opened. -/
namespace Go.Proofs.YtnnhhbjbdmgpiaaGreatDoor
set_option maxRecDepth 100000
open Go.ChangeShapes Go.WideShapes Go.ChangeAt Go.RowKit Go.Deep
theorem fit_wf {z : Int} (h : (Lit.int .i64 z).wf = true) : Fit z := by
 simp [Lit.wf, IntKind.min, IntKind.max, IntKind.bits, IntKind.signed] at h
 exact ⟨by omega, by omega⟩
theorem open_fit {H : Type} {enc : TypeId × Value → H} {P : Program} {w : World} {r : Reach} {b0 : Nat} {t e : TypeId} {v : Value} {d : DataW H} {ps : List MemPlace}
  (ht : P.underlying t = some (.slice e)) (h4 : fourInts P e = true)
  (hv : Value.okWide P w r b0 t v) (h : DataW.Trod enc P w 0 (fun _ => true) true t v d ps) :
  ∃ (A : Option Addr) (cap : Nat) (l : List Cf.Ins), v = .slice A l.length cap ∧ Codes w A l ∧ l.length ≤ maxLen ∧ ∀ x ∈ l, FitI x := by
 obtain ⟨fs, he, hn, hC, hf⟩ := fourInts_of h4
 obtain ⟨A, len, cap, rfl⟩ := okWide_slice ht hv
 obtain ⟨fuel, h⟩ := h
 rcases open_slice ht h with ⟨hcs, _⟩ | ⟨a, len', cap', m, n, D, Pl, hcs, _, hle, hmax, hm, _, hi⟩
 ·simp [Value.cells] at hcs
  obtain ⟨rfl, rfl, rfl⟩ := hcs
  exact ⟨none, 0, [], rfl, .inl rfl, by simp, fun x hx => by cases hx⟩
 ·simp [Value.cells] at hcs
  obtain ⟨rfl, rfl, rfl⟩ := hcs
  simp at hm
  subst hm
  have hel : ∀ i, i < len → ∃ x : Cf.Ins, FitI x ∧ ∀ j u, (encI x)[j]? = some u → w.cell? (a.add (i * 4 + j)) = some u := by
   intro i hil
   obtain ⟨cs', hc, ht'⟩ := hi i (by omega)
   rw [hC] at hc
   obtain ⟨ys, n', _, _, hlen, hyl, hg⟩ := DataW.trod_struct he ht'
   obtain ⟨_, hcl, hat⟩ := World.cells?_some hc
   have one : ∀ j, j < 4 → ∃ z : Int, Fit z ∧ w.cell? (a.add (i * 4 + j)) = some (.int .i64 z) := by
    intro j hj
    have hj' := hf j hj
    rw [Option.map_eq_some_iff] at hj'
    obtain ⟨f, hfj, hfe⟩ := hj'
    simp only [Prod.mk.injEq] at hfe
    obtain ⟨ho, hu, hk⟩ := hfe
    have h1 := hg j f hfj
    rw [ho, hk] at h1
    have hys : ys[j]? = some (ys[j]'(by omega)) := List.getElem?_eq_getElem (by omega)
    obtain ⟨z, hz, _, hwf⟩ := DataW.trod_int hu (h1.trans hys)
    refine ⟨z, fit_wf hwf, ?_⟩
    have h0 := congrArg (·[0]?) hz
    simp [List.getElem?_drop] at h0
    rw [← Go.Deep.add_add, hat j (by omega)]
    exact h0
   obtain ⟨z0, t0, e0⟩ := one 0 (by omega)
   obtain ⟨z1, t1, e1⟩ := one 1 (by omega)
   obtain ⟨z2, t2, e2⟩ := one 2 (by omega)
   obtain ⟨z3, t3, e3⟩ := one 3 (by omega)
   refine ⟨⟨z0, z1, z2, z3⟩, ⟨t0, t1, t2, t3⟩, fun j u hu => ?_⟩
   match j, hu with
   | 0, hu => simp [encI] at hu; subst hu; exact e0
   | 1, hu => simp [encI] at hu; subst hu; exact e1
   | 2, hu => simp [encI] at hu; subst hu; exact e2
   | 3, hu => simp [encI] at hu; subst hu; exact e3
   | (j + 4), hu => simp [encI] at hu
  have hex : ∃ l : List Cf.Ins, l.length = len ∧ (∀ x ∈ l, FitI x) ∧ ∀ i x, l[i]? = some x → ∀ j u, (encI x)[j]? = some u → w.cell? (a.add (i * 4 + j)) = some u := by
   have : ∀ k, k ≤ len → ∃ l : List Cf.Ins, l.length = k ∧ (∀ x ∈ l, FitI x) ∧ ∀ i x, l[i]? = some x → ∀ j u, (encI x)[j]? = some u → w.cell? (a.add (i * 4 + j)) = some u := by
    intro k
    induction k with
    | zero => intro _; exact ⟨[], rfl, (fun x hx => by cases hx), fun i x hx => by simp at hx⟩
    | succ k ih =>
      intro hk
      obtain ⟨l, hl, hfit, hall⟩ := ih (by omega)
      obtain ⟨x, hxf, hx⟩ := hel k (by omega)
      refine ⟨l ++ [x], by simp [hl], (fun y hy => by rcases List.mem_append.1 hy with h | h; exact hfit y h; simp at h; rw [h]; exact hxf), fun i y hy => ?_⟩
      rw [List.getElem?_append] at hy
      split at hy
      ·exact hall i y hy
      ·have : i - l.length = 0 := by
        rcases Nat.eq_zero_or_pos (i - l.length) with h | h
        ·exact h
        ·rw [List.getElem?_eq_none (by simp; omega)] at hy; cases hy
       rw [this] at hy
       simp at hy
       subst hy
       have : i = k := by omega
       subst this
       exact hx
   exact this len (Nat.le_refl _)
  obtain ⟨l, rfl, hfit, hall⟩ := hex
  refine ⟨some a, _, l, rfl, ?_, by omega, hfit⟩
  cases l with
  | nil => exact .inl rfl
  | cons x l =>
    have h0 := hall 0 x rfl 0 _ rfl
    obtain ⟨b, off, spot⟩ := a
    have hspot : spot = none := by simpa [Addr.add] using World.cell?_spot h0
    subst hspot
    refine .inr ⟨b, off, rfl, ?_, fun i y hy j u hu => ?_⟩
    ·have := lt_of_cell h0
     simpa [Addr.add] using this
    ·have := hall i y hy j u hu
     rw [Go.WideShapes.add_plain] at this
     rwa [Nat.add_assoc]
theorem rawFields : fourInts Tryz.prog 45 = true := by kernel_rfl
end Go.Proofs.YtnnhhbjbdmgpiaaGreatDoor
/- Arguments opened: a struct of four numbers by value, a truth value. Of any program. -/
namespace Go.Proofs.YtnnhhbjbdmgpiaaGreatDoor
set_option maxRecDepth 100000
open Go.ChangeShapes Go.WideShapes Go.ChangeAt Go.RowKit Go.Deep
theorem open_raw {H : Type} {enc : TypeId × Value → H} {P : Program} {w : World} {r : Reach} {b0 : Nat} {t : TypeId} {v : Value} {d : DataW H} {ps : List MemPlace}
  (h4 : fourInts P t = true) (hv : Value.okWide P w r b0 t v) (h : DataW.Trod enc P w 0 (fun _ => true) true t v d ps) :
  ∃ k a b c : Int, v = .agg #[.int .i64 k, .int .i64 a, .int .i64 b, .int .i64 c] ∧ Fit k ∧ Fit a ∧ Fit b ∧ Fit c := by
 obtain ⟨fs, he, hn, hC, hf⟩ := fourInts_of h4
 simp only [Value.okWide, he] at hv
 obtain ⟨cs, rfl, hsz, _⟩ := hv
 obtain ⟨fuel, h⟩ := h
 obtain ⟨ys, n', _, _, hlen, hyl, hg⟩ := DataW.trod_struct he h
 have hc : (Value.agg cs).cells.toList = cs.toList := rfl
 rw [hc] at hg
 have one : ∀ j, j < 4 → ∃ z : Int, Fit z ∧ cs.toList[j]? = some (.int .i64 z) := by
  intro j hj
  have hj' := hf j hj
  rw [Option.map_eq_some_iff] at hj'
  obtain ⟨f, hfj, hfe⟩ := hj'
  simp only [Prod.mk.injEq] at hfe
  obtain ⟨ho, hu, hk⟩ := hfe
  have h1 := hg j f hfj
  rw [ho, hk] at h1
  have hys : ys[j]? = some (ys[j]'(by omega)) := List.getElem?_eq_getElem (by omega)
  obtain ⟨z, hz, _, hwf⟩ := DataW.trod_int hu (h1.trans hys)
  refine ⟨z, fit_wf hwf, ?_⟩
  have h0 := congrArg (·[0]?) hz
  simpa [List.getElem?_drop] using h0
 have hl : cs.toList.length = 4 := by rw [Array.length_toList, hsz, hC]
 obtain ⟨l⟩ := cs
 simp only at one hl
 match l, hl with
 | [c0, c1, c2, c3], _ =>
   obtain ⟨r0, f0, e0⟩ := one 0 (by omega)
   obtain ⟨r1, f1, e1⟩ := one 1 (by omega)
   obtain ⟨r2, f2, e2⟩ := one 2 (by omega)
   obtain ⟨r3, f3, e3⟩ := one 3 (by omega)
   simp at e0 e1 e2 e3
   exact ⟨r0, r1, r2, r3, by rw [e0, e1, e2, e3], f0, f1, f2, f3⟩
end Go.Proofs.YtnnhhbjbdmgpiaaGreatDoor
