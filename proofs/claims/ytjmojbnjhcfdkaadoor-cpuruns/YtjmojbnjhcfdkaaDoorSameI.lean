/- Walks of the law's own helpers: two slices of numbers that read as one list are the same, and so are two outcomes. -/
import Derived.Test.YtjmojbnjhcfdkaaDoorCpuJ
import Derived.Test.YtjmojbnjhcfdkaaDoorArrEq
namespace Go.Proofs.YtjmojbnjhcfdkaaDoor
open Go.RowKit

set_option maxHeartbeats 1000000 in
theorem sameInts_same (l : List Int) (A B : Option Addr) (ca cb : Nat) (w : World) (hA : Ints w A l) (hB : Ints w B l) (hm : l.length ≤ maxLen) :
    Calls Tryd.prog 26 #[.slice A l.length ca, .slice B l.length cb] w fun e w' => e = .returned (.bool true) ∧ Below w.heap.size w w' := by
  unfold maxLen at hm
  by_cases hl : l = []
  · subst hl
    go_enter Tryd.func26, Tryd.ntmps26
    go_wp2
    refine wp_loop_rounds 1 ?_
    rw [rounds_succ]
    go_wp2
    go_ret
    exact ⟨rfl, Below.refl _ _⟩
  · obtain ⟨b1, o1, rfl, hb1, hc1⟩ := hA.at_ hl
    obtain ⟨b2, o2, rfl, hb2, hc2⟩ := hB.at_ hl
    have H1 := Lib.hid hc1
    have H2 := Lib.hid hc2
    clear hc1 hc2
    go_enter Tryd.func26, Tryd.ntmps26
    go_wp2
    go_loopw [5] (fun i wr => ∃ k m : Nat, k ≤ l.length ∧ i = .int .i64 k ∧ wr = w.drewN m) (fun i _ => l.length - (intOf i).toNat)
    case atStart => exact ⟨0, 0, by omega, rfl, rfl⟩
    case round =>
      obtain ⟨k, m, hk, rfl, rfl⟩ := hrel
      by_cases hlt : k < l.length
      · obtain ⟨z, hx⟩ : ∃ z, l[k]? = some z := ⟨_, List.getElem?_eq_getElem hlt⟩
        have p0 := H1.out k z hx
        have q0 := H2.out k z hx
        clear hx
        go_wp2_with fail
        go_quiet (fail)
        go_wp2
        go_roundw
        case rel => exact ⟨k + 1, _, by omega, by go_num, rfl⟩
        case measure => simp [intOf]; omega
      · go_wp2
        go_ret
        exact ⟨rfl, below_drewN (Below.refl _ _) m⟩
/-- An outcome's cells. -/
def outV (r s0 s1 s2 s3 s4 s5 s6 s7 : Int) (vt vm : Value) : Value := .agg #[.int .i64 r, .int .i64 s0, .int .i64 s1, .int .i64 s2, .int .i64 s3, .int .i64 s4, .int .i64 s5, .int .i64 s6, .int .i64 s7, vt, vm]
set_option maxHeartbeats 2000000 in
set_option maxRecDepth 100000 in
theorem sameOutcome_same (r s0 s1 s2 s3 s4 s5 s6 s7 : Int) (told mem : List Int) (T1 M1 T2 M2 : Option Addr) (t1 m1 t2 m2 : Nat) (w : World) (hT1 : Ints w T1 told) (hT2 : Ints w T2 told) (hM1 : Ints w M1 mem) (hM2 : Ints w M2 mem) (ht : told.length ≤ maxLen) (hm : mem.length ≤ maxLen) :
    Calls Tryd.prog 25 #[.agg #[.int .i64 r, .int .i64 s0, .int .i64 s1, .int .i64 s2, .int .i64 s3, .int .i64 s4, .int .i64 s5, .int .i64 s6, .int .i64 s7, .slice T1 told.length t1, .slice M1 mem.length m1], .agg #[.int .i64 r, .int .i64 s0, .int .i64 s1, .int .i64 s2, .int .i64 s3, .int .i64 s4, .int .i64 s5, .int .i64 s6, .int .i64 s7, .slice T2 told.length t2, .slice M2 mem.length m2]] w fun e w' => e = .returned (.bool true) ∧ Below w.heap.size w w' := by
  have hEq : ∀ W : World, (Op.equalIn 10000 41 (.agg #[.int .i64 s0, .int .i64 s1, .int .i64 s2, .int .i64 s3, .int .i64 s4, .int .i64 s5, .int .i64 s6, .int .i64 s7]) (.agg #[.int .i64 s0, .int .i64 s1, .int .i64 s2, .int .i64 s3, .int .i64 s4, .int .i64 s5, .int .i64 s6, .int .i64 s7])).run Tryd.prog W = .ok true W := fun W => same8 W _ _ _ _ _ _ _ _
  have hb0 := fun (o1 o2 : Obj) => ((Below.refl w.heap.size w).alloc (Nat.le_refl _) o1).alloc (by simp) o2
  go_enter Tryd.func25, Tryd.ntmps25
  go_wp2_with fail
  refine (sameInts_same told T1 T2 t1 t2 _ (hT1.below (hb0 _ _)) (hT2.below (hb0 _ _)) ht).mono ?_
  rintro e w1 ⟨rfl, hb1⟩
  have hbw := (hb0 _ _).trans (hb1.mono (by simp; omega))
  have r1 := hb1.cell (p := ⟨w.heap.size, 10, none⟩) (by simp; omega)
  have r2 := hb1.cell (p := ⟨w.heap.size + 1, 10, none⟩) (by simp)
  simp at r1 r2
  clear hb1 hb0 hEq
  go_wp2_with fail
  refine (sameInts_same mem M1 M2 m1 m2 _ (hM1.below hbw) (hM2.below hbw) hm).mono ?_
  rintro e w2 ⟨rfl, hb2⟩
  have hbx := hbw.trans (hb2.mono hbw.size)
  clear hb2 hbw r1 r2
  go_wp2
  go_ret
  exact ⟨rfl, hbx⟩
end Go.Proofs.YtjmojbnjhcfdkaaDoor
