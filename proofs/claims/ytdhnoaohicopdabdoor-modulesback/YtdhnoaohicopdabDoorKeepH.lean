/- Walks of the laws' own helpers: what the makers of code share. -/
import Derived.Test.YtdhnoaohicopdabDoorPickC
import Derived.Test.YtdhnoaohicopdabDoorInsK
import Derived.Deep.CutRange
import Derived.Deep.CutBlock
import Derived.StillTailTactics
namespace Go.Proofs.YtdhnoaohicopdabDoor
open Go.RowKit

theorem still_pick {n m p : Int} {w : World} (hn : Fit n) (hp : p = Cf.pick n m) (h0 : 0 < m) (h1 : m ≤ 1000000) :
    Calls Tryd.prog 11 #[.int .i64 n, .int .i64 m] w fun e w' => e = .returned (.int .i64 p) ∧ w' = w := by
  subst hp
  exact (picked_any n m w hn h0 h1).mono fun _ _ h => ⟨h.1, h.2.symm⟩
theorem new4 (w : World) (a b c d : Value) (t : TypeId) : (w.alloc (Obj.cells #[a, b, c, d] t)).cell? ⟨w.heap.size, 0, none⟩ = some a ∧ (w.alloc (Obj.cells #[a, b, c, d] t)).cell? ⟨w.heap.size, 1, none⟩ = some b ∧
    (w.alloc (Obj.cells #[a, b, c, d] t)).cell? ⟨w.heap.size, 2, none⟩ = some c ∧ (w.alloc (Obj.cells #[a, b, c, d] t)).cell? ⟨w.heap.size, 3, none⟩ = some d := by
  refine ⟨?_, ?_, ?_, ?_⟩ <;> simp
theorem wrap_fit (z : Int) (h1 : -9223372036854775808 ≤ z) (h2 : z ≤ 9223372036854775807) : IntKind.i64.wrap z = z := by
  rw [IntKind.wrap_i64]
  omega
def FitI (x : Cf.Ins) : Prop := Fit x.op ∧ Fit x.a ∧ Fit x.b ∧ Fit x.c
theorem inb {v hi : Int} (h1 : 0 ≤ v) (h2 : v ≤ hi) : Cf.inB v 0 hi = true := by simp [Cf.inB, h1, h2]
theorem chk_reg (op a b c : Int) (h2 : 2 ≤ op) (h7 : op ≤ 7) (a1 : 0 ≤ a) (a2 : a < 8) (b1 : 0 ≤ b) (b2 : b < 8) (c1 : 0 ≤ c) (c2 : c < 8) : Cf.chk ⟨op, a, b, c⟩ = 0 := by
  have hs : Cf.shapeL op = [114, 114, 114] := by
    unfold Cf.shapeL
    rw [if_neg (by omega), if_neg (by omega), if_neg (by omega), if_neg (by omega), if_neg (by omega), if_neg (by omega)]
  exact Cf.chk_zero' _ (by simp [Cf.inB]; omega) hs (inb a1 (by show a ≤ 7; omega)) (inb b1 (by show b ≤ 7; omega)) (inb c1 (by show c ≤ 7; omega))
end Go.Proofs.YtdhnoaohicopdabDoor
