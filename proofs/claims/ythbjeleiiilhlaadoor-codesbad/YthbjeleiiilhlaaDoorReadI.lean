/- Walks of chapter 1: the program's readInstr. -/
import Derived.Test.YthbjeleiiilhlaaDoorReadW
namespace Go.Proofs.YthbjeleiiilhlaaDoor
open Go.RowKit

def encS (t : List UInt8) : List Value := [.string ⟨t.toArray⟩]
def Words (w : World) (A : Option Addr) (q : List (List UInt8)) : Prop := RdS 1 encS w A q
theorem Words.at0 {w : World} {A : Option Addr} {t : List UInt8} {r : List (List UInt8)} (h : Words w A (t :: r)) : ∃ b off, A = some ⟨b, off, none⟩ ∧ b < w.heap.size ∧ w.cell? ⟨b, off, none⟩ = some (.string ⟨t.toArray⟩) := by
  rcases h with h | ⟨b, off, hA, hb, hc⟩
  · cases h
  · exact ⟨b, off, hA, hb, by simpa using hc 0 t rfl 0 _ rfl⟩
theorem elemStrs : Tryd.prog.underlying 37 = some (.slice (Tryd.prog.elem 37)) := by kernel_rfl
theorem elemStr : Tryd.prog.elem 37 = 9 := by kernel_rfl
theorem cut1 (A : Option Addr) (m cap : Nat) : ∃ A' : Option Addr, (∀ W, (Instr.slice 37 (.slice A (m + 1) cap) (some (.int .i64 1)) none none).run Tryd.prog W = .ok (.slice A' m (cap - 1)) W) ∧
    ∀ (w : World) (t : List UInt8) (r : List (List UInt8)), Words w A (t :: r) → r.length + 1 ≤ cap → Words w A' r := by
  refine ⟨if cap = 1 then A else A.map (·.add 1), fun W => ?_, fun w t r h hc => ?_⟩
  · have h := run_slice_l (P := Tryd.prog) (w := W) 37 A (m + 1) cap elemStrs .i64 1 (by omega) (by omega)
    rw [h]
    rw [elemStr, Tryd.sizeOf9 W]
    simp [sliced, Result.andThen]
  · rcases h with h | ⟨b, off, rfl, hb, hcell⟩
    · cases h
    · cases r with
      | nil => exact .inl rfl
      | cons u r =>
        rw [if_neg (by simp at hc; omega)]
        refine .inr ⟨b, off + 1, rfl, hb, fun k x hx j v hv => ?_⟩
        have := hcell (k + 1) x (by simpa using hx) j v hv
        rw [show off + 1 + k * 1 + j = off + (k + 1) * 1 + j by omega]
        exact this
theorem split_any (s : List UInt8) (hs : s.length ≤ 4000) (m : Int) (w : World) (hm : w.cell? ⟨3, 0, none⟩ = some (.int .i64 m)) :
    Calls Tryd.prog 41 #[.string ⟨s.toArray⟩, .string ⟨#[32]⟩] w fun e w' =>
      e = .returned (.slice (some ⟨w.heap.size, 0, none⟩) (Cf.splitL 32 s).length (Cf.splitL 32 s).length) ∧ w' = w.alloc (.cells ((Cf.splitL 32 s).map fun t => Value.string ⟨t.toArray⟩).toArray 9) := by
  refine (Any.strings_Split lays146 (by kernel_rfl) ⟨s.toArray⟩ ⟨#[32]⟩ m w (by simp [ByteArray.size]; omega) hm (by decide)).mono ?_
  have hk : Lib.countB ⟨s.toArray⟩ ⟨#[32]⟩ = s.count 32 := Lib.count_one 32 s
  have hd := Lib.splitB_data ⟨#[32]⟩ 0 (s.count 32) ⟨s.toArray⟩
  have hd' : (Lib.splitB ⟨#[32]⟩ 0 (s.count 32) ⟨s.toArray⟩).map (·.data.toList) = Cf.splitL 32 s := by
    rw [hd]; exact Cf.splitK_all 32 s.length s (Nat.le_refl _)
  have hlen : Lib.countB ⟨s.toArray⟩ ⟨#[32]⟩ + 1 = (Cf.splitL 32 s).length := by
    rw [← hd', List.length_map, hk]
    exact (Lib.splitB_all ⟨#[32]⟩ (by decide) 0 (s.count 32) ⟨s.toArray⟩ hk).symm
  have hval : (Lib.splitB ⟨#[32]⟩ 0 (Lib.countB ⟨s.toArray⟩ ⟨#[32]⟩) ⟨s.toArray⟩).map Value.string = (Cf.splitL 32 s).map fun t => Value.string ⟨t.toArray⟩ := by
    rw [hk, ← hd', List.map_map]
    refine List.map_congr_left fun b _ => ?_
    simp
  rintro e w' ⟨rfl, rfl⟩
  rw [hlen, hval]
  exact ⟨rfl, rfl⟩
/-- MaxLen, which the library reads: some number. -/
def MaxL (w : World) : Prop := ∃ m : Int, w.cell? ⟨3, 0, none⟩ = some (.int .i64 m)
theorem lt_of_cell' {w : World} {a : Addr} {v : Value} (h : w.cell? a = some v) : a.block < w.heap.size := by
  rcases Nat.lt_or_ge a.block w.heap.size with h' | h'
  · exact h'
  · simp [World.cell?, Array.getElem?_eq_none h'] at h
theorem MaxL.below {w w' : World} (h : MaxL w) (hb : Below w.heap.size w w') : MaxL w' := by
  obtain ⟨m, hm⟩ := h
  exact ⟨m, (hb.cell (lt_of_cell' hm)).trans hm⟩
/-- The three numbers in block g, so far; and the block may be written. -/
def Vals (g : Nat) (vs : List Int) (w : World) : Prop := g < w.heap.size ∧ ∀ j, j < 3 → w.cell? ⟨g, j, none⟩ = some (.int .i64 (vs.getD j 0)) ∧ w.frozen? ⟨g, j, none⟩ = false
theorem Vals.below {g : Nat} {vs : List Int} {w w' : World} (h : Vals g vs w) (hb : Below w.heap.size w w') : Vals g vs w' :=
  ⟨Nat.lt_of_lt_of_le h.1 hb.size, fun j hj => ⟨(hb.cell (p := ⟨g, j, none⟩) h.1).trans (h.2 j hj).1, (hb.frozen (p := ⟨g, j, none⟩) h.1).trans (h.2 j hj).2⟩⟩
theorem Vals.zero {g : Nat} {vs : List Int} {w : World} (h : Vals g vs w) : Vals g (vs ++ [0]) w :=
  ⟨h.1, fun j hj => by
    have h2 := h.2 j hj
    have e : (vs ++ [0]).getD j 0 = vs.getD j 0 := by
      simp only [List.getD_eq_getElem?_getD, List.getElem?_append]
      split
      · rfl
      · rename_i hl
        rw [List.getElem?_eq_none (by omega : vs.length ≤ j)]
        cases hjl : j - vs.length with
        | zero => rfl
        | succ n => rfl
    rw [e]; exact h2⟩
theorem Vals.set {g k : Nat} {vs : List Int} {w : World} (h : Vals g vs w) (hk : vs.length = k) (v : Int) : Vals g (vs ++ [v]) (w.setCell ⟨g, k, none⟩ (.int .i64 v)) := by
  refine ⟨by simpa [World.setCell] using h.1, fun j hj => ?_⟩
  have h2 := h.2 j hj
  constructor
  · by_cases hjk : j = k
    · subst hjk
      have hold := h2.1
      have hs : (w.setCell ⟨g, j, none⟩ (.int .i64 v)).cell? ⟨g, j, none⟩ = some (.int .i64 v) := World.cell?_setCell_same w ⟨g, j, none⟩ _ hold
      rw [hs]
      simp [List.getD_eq_getElem?_getD, hk]
    · rw [World.cell?_setCell_other w ⟨g, k, none⟩ ⟨g, j, none⟩ _ (fun e => hjk (congrArg Addr.off e).symm), h2.1]
      congr 2
      simp only [List.getD_eq_getElem?_getD, List.getElem?_append]
      split
      · rfl
      · rw [List.getElem?_eq_none (by omega : vs.length ≤ j), List.getElem?_eq_none (by simp; omega)]
  · rw [World.frozen?_setCell]; exact h2.2
theorem split_words (s nm : List UInt8) (ps : List (List UInt8)) (hsp : Cf.splitL 32 s = nm :: ps) (hs : s.length ≤ 4000) (w : World) (hm : MaxL w) :
    Calls Tryd.prog 41 #[.string ⟨s.toArray⟩, .string ⟨#[32]⟩] w fun e w' =>
      e = .returned (.slice (some ⟨w.heap.size, 0, none⟩) (ps.length + 1) (ps.length + 1)) ∧ Words w' (some ⟨w.heap.size, 0, none⟩) (nm :: ps) ∧ Below w.heap.size w w' := by
  obtain ⟨m, hm⟩ := hm
  refine (split_any s hs m w hm).mono ?_
  rintro e w' ⟨rfl, rfl⟩
  rw [hsp]
  refine ⟨rfl, .inr ⟨_, 0, rfl, by simp, fun k x hx j v hv => ?_⟩, (Below.refl _ _).alloc (Nat.le_refl _) _⟩
  have hj : j = 0 := by
    rcases Nat.eq_zero_or_pos j with h | h
    · exact h
    · rw [encS, List.getElem?_eq_none (by simp; omega)] at hv; cases hv
  subst hj
  simp [encS] at hv
  subst hv
  have hk : (((nm :: ps).map fun t => Value.string ⟨t.toArray⟩).toArray)[k]? = some (.string ⟨x.toArray⟩) := by
    rw [List.getElem?_toArray, List.getElem?_map, hx]; rfl
  rw [show 0 + k * 1 + 0 = k by omega, World.cell?_alloc_at _ _ _ _ rfl]
  exact hk
def InsPost (o : Option Cf.Ins) (w : World) (e : Ending) (w' : World) : Prop :=
  ∃ x : Cf.Ins, e = .returned (.tuple #[.agg #[.int .i64 x.op, .int .i64 x.a, .int .i64 x.b, .int .i64 x.c], .bool o.isSome]) ∧ (∀ y, o = some y → x = y) ∧ Below w.heap.size w w'
end Go.Proofs.YthbjeleiiilhlaaDoor
