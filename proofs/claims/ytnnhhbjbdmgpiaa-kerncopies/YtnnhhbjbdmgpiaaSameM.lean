/- Walks of the law's own helper: two modules that read as one are the same. -/
import Derived.Test.YtnnhhbjbdmgpiaaSameC
import Derived.Test.YtnnhhbjbdmgpiaaSameJ
namespace Go.Proofs.Ytnnhhbjbdmgpiaa
open Go.RowKit

set_option maxHeartbeats 1000000 in
theorem sameModule_same (n : List UInt8) (l : List Cf.Ins) (d : List Int) (A B A' B' : Option Addr) (ca cb ca' cb' : Nat) (w : World) (hA : Codes w A l) (hB : Ints w B d) (hA' : Codes w A' l) (hB' : Ints w B' d) (hl : l.length ≤ maxLen) (hd : d.length ≤ maxLen) :
    Calls Try.prog 10 #[.agg #[.string ⟨n.toArray⟩, .slice A l.length ca, .slice B d.length cb], .agg #[.string ⟨n.toArray⟩, .slice A' l.length ca', .slice B' d.length cb']] w fun e w' => e = .returned (.bool true) ∧ Below w.heap.size w w' := by
  have hb0 := fun (o1 o2 : Obj) => ((Below.refl w.heap.size w).alloc (Nat.le_refl _) o1).alloc (by simp) o2
  go_enter Try.func10, Try.ntmps10
  go_wp2_with fail
  refine (sameCode_same l A A' ca ca' _ (hA.below (hb0 _ _)) (hA'.below (hb0 _ _)) hl).mono ?_
  rintro e w1 ⟨rfl, hb1⟩
  have hbw := (hb0 _ _).trans (hb1.mono (by simp; omega))
  have r1 := hb1.cell (p := ⟨w.heap.size, 2, none⟩) (by simp; omega)
  have r2 := hb1.cell (p := ⟨w.heap.size + 1, 2, none⟩) (by simp)
  simp at r1 r2
  clear hb1 hb0
  go_wp2_with fail
  refine (sameInts_same d B B' cb cb' _ (hB.below hbw) (hB'.below hbw) hd).mono ?_
  rintro e w2 ⟨rfl, hb2⟩
  have hbx := hbw.trans (hb2.mono hbw.size)
  clear hb2 hbw r1 r2
  go_wp2
  go_ret
  exact ⟨rfl, hbx⟩
end Go.Proofs.Ytnnhhbjbdmgpiaa
