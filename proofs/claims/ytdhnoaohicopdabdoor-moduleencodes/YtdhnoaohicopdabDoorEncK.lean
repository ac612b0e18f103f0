/- Rows of bytes that grow beside a module that lies boxed. -/
import Derived.Test.YtdhnoaohicopdabDoorEncP
import Derived.Test.YtdhnoaohicopdabDoorSumW
namespace Go.Proofs.YtdhnoaohicopdabDoor
open Go.RowKit

theorem modNeByte : (5 : TypeId) ≠ 37 := by decide
theorem brow_of {w' : World} {base k : Nat} {v' : Value} {xs : List Value} {l : List UInt8} (h : w'.ownsRow base 5 1 v' k xs) (hk : k = l.length) (hx : xs = l.flatMap encB) : BRow w' base v' l := by
  subst hk
  subst hx
  exact h
/-- What holds at the head of the loops. -/
def EncRel (w : World) (vs : List Value) (b : Value) (bytes : List UInt8) (wr : World) : Prop := BRow wr w.heap.size b bytes ∧ Below w.heap.size w wr ∧ Wb wr w.heap.size 37 vs
theorem EncRel.alloc {w : World} {vs : List Value} {b : Value} {bytes : List UInt8} {wr : World} (h : EncRel w vs b bytes wr) (o : Obj) : EncRel w vs b bytes (wr.alloc o) :=
  ⟨h.1.alloc o, h.2.1.alloc h.2.1.size o, h.2.2.alloc o⟩
theorem EncRel.drew {w : World} {vs : List Value} {b : Value} {bytes : List UInt8} {wr : World} (h : EncRel w vs b bytes wr) : EncRel w vs b bytes wr.drew := ⟨World.ownsRow.drew h.1, h.2.1.drew, h.2.2⟩
theorem EncRel.app {w : World} {vs : List Value} {b b' : Value} {l l' : List UInt8} {wr w' : World} (h : EncRel w vs b l wr) (hr : BRow w' w.heap.size b' l') (hg : wr.grownBy w' b.ownBlock) : EncRel w vs b' l' w' :=
  ⟨hr, below_own h.2.1 h.1 hg h.2.1.size, h.2.2.grown hg (own_off h.1 h.2.2 modNeByte)⟩
end Go.Proofs.YtdhnoaohicopdabDoor
