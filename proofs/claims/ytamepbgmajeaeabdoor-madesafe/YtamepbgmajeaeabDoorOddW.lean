/- Memory behind the law MadeSafe's odd pieces. -/
import Derived.Test.YtamepbgmajeaeabDoorMachW
import Derived.Test.YtamepbgmajeaeabDoorSafeB
namespace Go.Proofs.YtamepbgmajeaeabDoor
open Go.RowKit

def oddW0 (w : World) : World := (w).alloc (.cells #[.int .i64 8, .int .i64 1, .int .i64 2, .int .i64 0] 30)
def oddW1 (w : World) : World := (oddW0 w).alloc (.cells #[.int .i64 9, .int .i64 1, .int .i64 0, .int .i64 0] 30)
def oddW2 (w : World) : World := (oddW1 w).alloc (.cells #[.int .i64 1, .int .i64 4, .int .i64 0, .int .i64 3] 30)
def oddW3 (w : World) : World := (oddW2 w).alloc (.cells #[.int .i64 1, .int .i64 5, .int .i64 0, .int .i64 0] 30)
def oddW4 (w : World) : World := (oddW3 w).alloc (.cells #[.int .i64 8, .int .i64 6, .int .i64 4, .int .i64 0] 30)
def oddW5 (w : World) : World := (oddW4 w).alloc (.cells #[.int .i64 8, .int .i64 4, .int .i64 4, .int .i64 0] 30)
def oddW6 (w : World) : World := (oddW5 w).alloc (.cells #[.int .i64 4, .int .i64 4, .int .i64 1, .int .i64 6] 30)
def oddW7 (w : World) : World := (oddW6 w).alloc (.cells #[.int .i64 4, .int .i64 4, .int .i64 1, .int .i64 2, .int .i64 5, .int .i64 4, .int .i64 4, .int .i64 5] 30)
def oddW8 (w : World) : World := (oddW7 w).alloc (.cells #[.int .i64 5, .int .i64 4, .int .i64 1, .int .i64 5] 30)
def oddW9 (w : World) : World := (oddW8 w).alloc (.cells #[.int .i64 10, .int .i64 0, .int .i64 0, .int .i64 199] 30)
def oddW10 (w : World) : World := (oddW9 w).alloc (.cells #[.int .i64 14, .int .i64 0, .int .i64 0, .int .i64 0] 30)
def oddWd (w : World) : World := (oddW10 w).alloc (.cells #[.slice (some ⟨w.heap.size, 0, none⟩) 1 1, .slice (some ⟨w.heap.size + 1, 0, none⟩) 1 1, .slice (some ⟨w.heap.size + 2, 0, none⟩) 1 1, .slice (some ⟨w.heap.size + 3, 0, none⟩) 1 1, .slice (some ⟨w.heap.size + 4, 0, none⟩) 1 1, .slice (some ⟨w.heap.size + 5, 0, none⟩) 1 1, .slice (some ⟨w.heap.size + 6, 0, none⟩) 1 1, .slice (some ⟨w.heap.size + 7, 0, none⟩) 2 2, .slice (some ⟨w.heap.size + 8, 0, none⟩) 1 1, .slice (some ⟨w.heap.size + 9, 0, none⟩) 1 1, .slice (some ⟨w.heap.size + 10, 0, none⟩) 1 1] 23)
theorem oddS0 (w : World) : (oddW0 w).heap.size = w.heap.size + 1 := by unfold oddW0; simp
theorem oddS1 (w : World) : (oddW1 w).heap.size = w.heap.size + 2 := by unfold oddW1; simp [oddS0]
theorem oddS2 (w : World) : (oddW2 w).heap.size = w.heap.size + 3 := by unfold oddW2; simp [oddS1]
theorem oddS3 (w : World) : (oddW3 w).heap.size = w.heap.size + 4 := by unfold oddW3; simp [oddS2]
theorem oddS4 (w : World) : (oddW4 w).heap.size = w.heap.size + 5 := by unfold oddW4; simp [oddS3]
theorem oddS5 (w : World) : (oddW5 w).heap.size = w.heap.size + 6 := by unfold oddW5; simp [oddS4]
theorem oddS6 (w : World) : (oddW6 w).heap.size = w.heap.size + 7 := by unfold oddW6; simp [oddS5]
theorem oddS7 (w : World) : (oddW7 w).heap.size = w.heap.size + 8 := by unfold oddW7; simp [oddS6]
theorem oddS8 (w : World) : (oddW8 w).heap.size = w.heap.size + 9 := by unfold oddW8; simp [oddS7]
theorem oddS9 (w : World) : (oddW9 w).heap.size = w.heap.size + 10 := by unfold oddW9; simp [oddS8]
theorem oddS10 (w : World) : (oddW10 w).heap.size = w.heap.size + 11 := by unfold oddW10; simp [oddS9]
theorem odd_below (w : World) : Below w.heap.size w (oddWd w) := by
  unfold oddWd oddW10 oddW9 oddW8 oddW7 oddW6 oddW5 oddW4 oddW3 oddW2 oddW1 oddW0
  exact (((((((((((((Below.refl _ _).alloc (Nat.le_refl _) _).alloc (by simp) _).alloc (by simp; omega) _).alloc (by simp; omega) _).alloc (by simp; omega) _).alloc (by simp; omega) _).alloc (by simp; omega) _).alloc (by simp; omega) _).alloc (by simp; omega) _).alloc (by simp; omega) _).alloc (by simp; omega) _).alloc (by simp; omega) _)
theorem oddB0 (w : World) : Wb (oddWd w) (w.heap.size + 0) 30 [.int .i64 8, .int .i64 1, .int .i64 2, .int .i64 0] := by
  have h := Wb.new (w) 30 [.int .i64 8, .int .i64 1, .int .i64 2, .int .i64 0]
  exact (Wb.alloc (Wb.alloc (Wb.alloc (Wb.alloc (Wb.alloc (Wb.alloc (Wb.alloc (Wb.alloc (Wb.alloc (Wb.alloc (Wb.alloc h _) _) _) _) _) _) _) _) _) _) _)
theorem oddB1 (w : World) : Wb (oddWd w) (w.heap.size + 1) 30 [.int .i64 9, .int .i64 1, .int .i64 0, .int .i64 0] := by
  have h := Wb.new (oddW0 w) 30 [.int .i64 9, .int .i64 1, .int .i64 0, .int .i64 0]
  rw [oddS0] at h
  exact (Wb.alloc (Wb.alloc (Wb.alloc (Wb.alloc (Wb.alloc (Wb.alloc (Wb.alloc (Wb.alloc (Wb.alloc (Wb.alloc h _) _) _) _) _) _) _) _) _) _)
theorem oddB2 (w : World) : Wb (oddWd w) (w.heap.size + 2) 30 [.int .i64 1, .int .i64 4, .int .i64 0, .int .i64 3] := by
  have h := Wb.new (oddW1 w) 30 [.int .i64 1, .int .i64 4, .int .i64 0, .int .i64 3]
  rw [oddS1] at h
  exact (Wb.alloc (Wb.alloc (Wb.alloc (Wb.alloc (Wb.alloc (Wb.alloc (Wb.alloc (Wb.alloc (Wb.alloc h _) _) _) _) _) _) _) _) _)
theorem oddB3 (w : World) : Wb (oddWd w) (w.heap.size + 3) 30 [.int .i64 1, .int .i64 5, .int .i64 0, .int .i64 0] := by
  have h := Wb.new (oddW2 w) 30 [.int .i64 1, .int .i64 5, .int .i64 0, .int .i64 0]
  rw [oddS2] at h
  exact (Wb.alloc (Wb.alloc (Wb.alloc (Wb.alloc (Wb.alloc (Wb.alloc (Wb.alloc (Wb.alloc h _) _) _) _) _) _) _) _)
theorem oddB4 (w : World) : Wb (oddWd w) (w.heap.size + 4) 30 [.int .i64 8, .int .i64 6, .int .i64 4, .int .i64 0] := by
  have h := Wb.new (oddW3 w) 30 [.int .i64 8, .int .i64 6, .int .i64 4, .int .i64 0]
  rw [oddS3] at h
  exact (Wb.alloc (Wb.alloc (Wb.alloc (Wb.alloc (Wb.alloc (Wb.alloc (Wb.alloc h _) _) _) _) _) _) _)
theorem oddB5 (w : World) : Wb (oddWd w) (w.heap.size + 5) 30 [.int .i64 8, .int .i64 4, .int .i64 4, .int .i64 0] := by
  have h := Wb.new (oddW4 w) 30 [.int .i64 8, .int .i64 4, .int .i64 4, .int .i64 0]
  rw [oddS4] at h
  exact (Wb.alloc (Wb.alloc (Wb.alloc (Wb.alloc (Wb.alloc (Wb.alloc h _) _) _) _) _) _)
theorem oddB6 (w : World) : Wb (oddWd w) (w.heap.size + 6) 30 [.int .i64 4, .int .i64 4, .int .i64 1, .int .i64 6] := by
  have h := Wb.new (oddW5 w) 30 [.int .i64 4, .int .i64 4, .int .i64 1, .int .i64 6]
  rw [oddS5] at h
  exact (Wb.alloc (Wb.alloc (Wb.alloc (Wb.alloc (Wb.alloc h _) _) _) _) _)
theorem oddB7 (w : World) : Wb (oddWd w) (w.heap.size + 7) 30 [.int .i64 4, .int .i64 4, .int .i64 1, .int .i64 2, .int .i64 5, .int .i64 4, .int .i64 4, .int .i64 5] := by
  have h := Wb.new (oddW6 w) 30 [.int .i64 4, .int .i64 4, .int .i64 1, .int .i64 2, .int .i64 5, .int .i64 4, .int .i64 4, .int .i64 5]
  rw [oddS6] at h
  exact (Wb.alloc (Wb.alloc (Wb.alloc (Wb.alloc h _) _) _) _)
theorem oddB8 (w : World) : Wb (oddWd w) (w.heap.size + 8) 30 [.int .i64 5, .int .i64 4, .int .i64 1, .int .i64 5] := by
  have h := Wb.new (oddW7 w) 30 [.int .i64 5, .int .i64 4, .int .i64 1, .int .i64 5]
  rw [oddS7] at h
  exact (Wb.alloc (Wb.alloc (Wb.alloc h _) _) _)
theorem oddB9 (w : World) : Wb (oddWd w) (w.heap.size + 9) 30 [.int .i64 10, .int .i64 0, .int .i64 0, .int .i64 199] := by
  have h := Wb.new (oddW8 w) 30 [.int .i64 10, .int .i64 0, .int .i64 0, .int .i64 199]
  rw [oddS8] at h
  exact (Wb.alloc (Wb.alloc h _) _)
theorem oddB10 (w : World) : Wb (oddWd w) (w.heap.size + 10) 30 [.int .i64 14, .int .i64 0, .int .i64 0, .int .i64 0] := by
  have h := Wb.new (oddW9 w) 30 [.int .i64 14, .int .i64 0, .int .i64 0, .int .i64 0]
  rw [oddS9] at h
  exact (Wb.alloc h _)
/-- What the walk asks of the piece p. -/
structure OddAt (w : World) (p : Nat) (x : List Cf.Ins) (o : Int) : Prop where
  cell : (oddWd w).cell? ⟨w.heap.size + 11, p, none⟩ = some (.slice (some ⟨w.heap.size + p, 0, none⟩) x.length x.length)
  code : Codes (oddWd w) (some ⟨w.heap.size + p, 0, none⟩) x
  op : (oddWd w).cell? ⟨w.heap.size + p, 0, none⟩ = some (.int .i64 o)
  len : 1 ≤ x.length ∧ x.length ≤ 2
theorem codes_of_wb {w : World} {g : Nat} {x : List Cf.Ins} (h : Wb w g 30 (x.flatMap encI)) : Codes w (some ⟨g, 0, none⟩) x :=
  .inr ⟨g, 0, rfl, h.lt, fun k y hy j v hv => by
    have := flat_at 4 encI encI_len x k y j v hy hv
    rw [show 0 + k * 4 + j = k * 4 + j by omega, h.cell]
    exact this⟩
theorem odd_cells (w : World) : Wb (oddWd w) (w.heap.size + 11) 23 [.slice (some ⟨w.heap.size, 0, none⟩) 1 1, .slice (some ⟨w.heap.size + 1, 0, none⟩) 1 1, .slice (some ⟨w.heap.size + 2, 0, none⟩) 1 1, .slice (some ⟨w.heap.size + 3, 0, none⟩) 1 1, .slice (some ⟨w.heap.size + 4, 0, none⟩) 1 1, .slice (some ⟨w.heap.size + 5, 0, none⟩) 1 1, .slice (some ⟨w.heap.size + 6, 0, none⟩) 1 1, .slice (some ⟨w.heap.size + 7, 0, none⟩) 2 2, .slice (some ⟨w.heap.size + 8, 0, none⟩) 1 1, .slice (some ⟨w.heap.size + 9, 0, none⟩) 1 1, .slice (some ⟨w.heap.size + 10, 0, none⟩) 1 1] := by
  have h := Wb.new (oddW10 w) 23 [.slice (some ⟨w.heap.size, 0, none⟩) 1 1, .slice (some ⟨w.heap.size + 1, 0, none⟩) 1 1, .slice (some ⟨w.heap.size + 2, 0, none⟩) 1 1, .slice (some ⟨w.heap.size + 3, 0, none⟩) 1 1, .slice (some ⟨w.heap.size + 4, 0, none⟩) 1 1, .slice (some ⟨w.heap.size + 5, 0, none⟩) 1 1, .slice (some ⟨w.heap.size + 6, 0, none⟩) 1 1, .slice (some ⟨w.heap.size + 7, 0, none⟩) 2 2, .slice (some ⟨w.heap.size + 8, 0, none⟩) 1 1, .slice (some ⟨w.heap.size + 9, 0, none⟩) 1 1, .slice (some ⟨w.heap.size + 10, 0, none⟩) 1 1]
  rw [oddS10] at h
  exact h
theorem oddA0 (w : World) : OddAt w 0 [⟨8, 1, 2, 0⟩] 8 := ⟨(odd_cells w).cell 0, codes_of_wb (oddB0 w), (oddB0 w).cell 0, by decide⟩
theorem oddA1 (w : World) : OddAt w 1 [⟨9, 1, 0, 0⟩] 9 := ⟨(odd_cells w).cell 1, codes_of_wb (oddB1 w), (oddB1 w).cell 0, by decide⟩
theorem oddA2 (w : World) : OddAt w 2 [⟨1, 4, 0, 3⟩] 1 := ⟨(odd_cells w).cell 2, codes_of_wb (oddB2 w), (oddB2 w).cell 0, by decide⟩
theorem oddA3 (w : World) : OddAt w 3 [⟨1, 5, 0, 0⟩] 1 := ⟨(odd_cells w).cell 3, codes_of_wb (oddB3 w), (oddB3 w).cell 0, by decide⟩
theorem oddA4 (w : World) : OddAt w 4 [⟨8, 6, 4, 0⟩] 8 := ⟨(odd_cells w).cell 4, codes_of_wb (oddB4 w), (oddB4 w).cell 0, by decide⟩
theorem oddA5 (w : World) : OddAt w 5 [⟨8, 4, 4, 0⟩] 8 := ⟨(odd_cells w).cell 5, codes_of_wb (oddB5 w), (oddB5 w).cell 0, by decide⟩
theorem oddA6 (w : World) : OddAt w 6 [⟨4, 4, 1, 6⟩] 4 := ⟨(odd_cells w).cell 6, codes_of_wb (oddB6 w), (oddB6 w).cell 0, by decide⟩
theorem oddA7 (w : World) : OddAt w 7 [⟨4, 4, 1, 2⟩, ⟨5, 4, 4, 5⟩] 4 := ⟨(odd_cells w).cell 7, codes_of_wb (oddB7 w), (oddB7 w).cell 0, by decide⟩
theorem oddA8 (w : World) : OddAt w 8 [⟨5, 4, 1, 5⟩] 5 := ⟨(odd_cells w).cell 8, codes_of_wb (oddB8 w), (oddB8 w).cell 0, by decide⟩
theorem oddA9 (w : World) : OddAt w 9 [⟨10, 0, 0, 199⟩] 10 := ⟨(odd_cells w).cell 9, codes_of_wb (oddB9 w), (oddB9 w).cell 0, by decide⟩
theorem oddA10 (w : World) : OddAt w 10 [⟨14, 0, 0, 0⟩] 14 := ⟨(odd_cells w).cell 10, codes_of_wb (oddB10 w), (oddB10 w).cell 0, by decide⟩
theorem odd_at (w : World) (p : Nat) (hp : p < 10) : ∃ x ∈ Cf.oddC, ∃ o : Int, o ≠ 14 ∧ OddAt w p x o := by
  have h : p = 0 ∨ p = 1 ∨ p = 2 ∨ p = 3 ∨ p = 4 ∨ p = 5 ∨ p = 6 ∨ p = 7 ∨ p = 8 ∨ p = 9 := by omega
  rcases h with rfl | rfl | rfl | rfl | rfl | rfl | rfl | rfl | rfl | rfl
  · exact ⟨[⟨8, 1, 2, 0⟩], by simp [Cf.oddC], 8, by decide, oddA0 w⟩
  · exact ⟨[⟨9, 1, 0, 0⟩], by simp [Cf.oddC], 9, by decide, oddA1 w⟩
  · exact ⟨[⟨1, 4, 0, 3⟩], by simp [Cf.oddC], 1, by decide, oddA2 w⟩
  · exact ⟨[⟨1, 5, 0, 0⟩], by simp [Cf.oddC], 1, by decide, oddA3 w⟩
  · exact ⟨[⟨8, 6, 4, 0⟩], by simp [Cf.oddC], 8, by decide, oddA4 w⟩
  · exact ⟨[⟨8, 4, 4, 0⟩], by simp [Cf.oddC], 8, by decide, oddA5 w⟩
  · exact ⟨[⟨4, 4, 1, 6⟩], by simp [Cf.oddC], 4, by decide, oddA6 w⟩
  · exact ⟨[⟨4, 4, 1, 2⟩, ⟨5, 4, 4, 5⟩], by simp [Cf.oddC], 4, by decide, oddA7 w⟩
  · exact ⟨[⟨5, 4, 1, 5⟩], by simp [Cf.oddC], 5, by decide, oddA8 w⟩
  · exact ⟨[⟨10, 0, 0, 199⟩], by simp [Cf.oddC], 10, by decide, oddA9 w⟩
end Go.Proofs.YtamepbgmajeaeabDoor
