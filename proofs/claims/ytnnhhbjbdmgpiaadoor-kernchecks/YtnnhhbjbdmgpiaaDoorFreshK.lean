/- Slices in new memory. Of any program. -/
import Derived.Test.YtnnhhbjbdmgpiaaDoorOwnK
namespace Go.Proofs.YtnnhhbjbdmgpiaaDoor
set_option maxRecDepth 100000
open Go.RowKit

/-- A slice without elements, or in memory from there on. -/
def Fresh {α : Type} (B : Nat) (A : Option Addr) (l : List α) : Prop := l = [] ∨ ∃ b off, A = some ⟨b, off, none⟩ ∧ B ≤ b
theorem rd_set {α : Type} {sz : Nat} {enc : α → List Value} {w : World} {A : Option Addr} {l : List α} {B : Nat} (h : RdS sz enc w A l) (hf : Fresh B A l) {p : Addr} (hp : p.block < B) (u : Value) : RdS sz enc (w.setCell p u) A l := by
  rcases h with h | ⟨b, off, rfl, hb, hc⟩
  · exact .inl h
  · rcases hf with hf | ⟨b', off', he, hle⟩
    · exact .inl hf
    · cases he
      refine .inr ⟨b, off, rfl, by rw [show (w.setCell p u).heap.size = w.heap.size by simp [World.setCell]]; exact hb, fun k x hx j v hv => ?_⟩
      rw [World.cell?_of_block (w := w) (Below.heap_setCell w p u b (by omega))]
      exact hc k x hx j v hv
theorem Fresh.mono {α : Type} {B B' : Nat} {A : Option Addr} {l : List α} (h : Fresh B A l) (hB : B' ≤ B) : Fresh B' A l := by
  rcases h with h | ⟨b, off, he, hle⟩
  · exact .inl h
  · exact .inr ⟨b, off, he, Nat.le_trans hB hle⟩
theorem own_fresh {α : Type} {w : World} {base n size : Nat} {e : TypeId} {A : Option Addr} {cap : Nat} {xs : List Value} {l : List α} (h : w.ownsRow base e size (.slice A n cap) n xs) (hl : l.length = n) : Fresh base A l := by
  rcases h.2 with ⟨_, h0⟩ | ⟨g, cap', cur, hv, hb, _⟩
  · exact .inl (List.eq_nil_of_length_eq_zero (hl.trans h0))
  · injection hv with hA _ _
    exact .inr ⟨g, 0, hA, hb⟩
end Go.Proofs.YtnnhhbjbdmgpiaaDoor
