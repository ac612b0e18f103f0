/- Texts of the proof of KernelsGood: EqX. -/
import Derived.BigQuiet
import Derived.Test.YtnnhhbjbdmgpiaaGreatDoorJ37
set_option linter.unusedSimpArgs false
set_option linter.unusedVariables false
/- Walks of the laws' own helpers: slices.Equal of two slices that read as one list: answers, files, contents of pipes. (tools/gen/eqx.py) -/
namespace Go.Proofs.YtnnhhbjbdmgpiaaGreatDoor
set_option maxRecDepth 100000
open Go.RowKit
set_option maxHeartbeats 1000000 in
theorem equalA_same (l : List Cf.Ans) (A B : Option Addr) (ca cb : Nat) (w : World) (hA : RdS 3 encAn w A l) (hB : RdS 3 encAn w B l) (hm : l.length ≤ maxLen) :
  Calls Tryz.prog 35 #[.slice A l.length ca, .slice B l.length cb] w fun e w' => e = .returned (.bool true) ∧ ∃ k, w' = w.drewN k := by
 unfold maxLen at hm
 rcases hA with rfl | ⟨b1, o1, rfl, hb1, hc1⟩
 ·go_enter Tryz.func35, Tryz.ntmps35
  go_wp2
  refine wp_loop_rounds 1 ?_
  rw [rounds_succ]
  go_wp2
  go_ret
  exact ⟨rfl, 0, rfl⟩
 ·rcases hB with rfl | ⟨b2, o2, rfl, hb2, hc2⟩
  ·go_enter Tryz.func35, Tryz.ntmps35
   go_wp2
   refine wp_loop_rounds 1 ?_
   rw [rounds_succ]
   go_wp2
   go_ret
   exact ⟨rfl, 0, rfl⟩
  have H1 := Lib.hid hc1
  have H2 := Lib.hid hc2
  clear hc1 hc2
  go_enter Tryz.func35, Tryz.ntmps35
  go_wp2
  go_loopw [13] (fun i wr => ∃ k m : Nat, k ≤ l.length ∧ i = .int .i64 k ∧ wr = w.drewN m) (fun i _ => l.length - (intOf i).toNat)
  case atStart => exact ⟨0, 0, by omega, rfl, rfl⟩
  case round =>
   obtain ⟨k, m, hk, rfl, rfl⟩ := hrel
   by_cases hlt : k < l.length
   ·obtain ⟨z0, z1, z2, hx⟩ : ∃ z0 z1 z2, l[k]? = some ⟨z0, z1, z2⟩ := ⟨_, _, _, List.getElem?_eq_getElem hlt⟩
    have p0 : w.cell? ⟨b1, o1 + k * 3, none⟩ = _ := H1.out k _ hx 0 _ rfl
    have q0 : w.cell? ⟨b2, o2 + k * 3, none⟩ = _ := H2.out k _ hx 0 _ rfl
    have p1 : w.cell? ⟨b1, o1 + k * 3 + 1, none⟩ = _ := H1.out k _ hx 1 _ rfl
    have q1 : w.cell? ⟨b2, o2 + k * 3 + 1, none⟩ = _ := H2.out k _ hx 1 _ rfl
    have p2 : w.cell? ⟨b1, o1 + k * 3 + 2, none⟩ = _ := H1.out k _ hx 2 _ rfl
    have q2 : w.cell? ⟨b2, o2 + k * 3 + 2, none⟩ = _ := H2.out k _ hx 2 _ rfl
    clear hx
    go_wp2_with fail
    go_quiet (fail)
    go_wp2
    go_roundw
    case rel => exact ⟨k + 1, _, by omega, by go_num, rfl⟩
    case measure => simp [intOf]; omega
   ·go_wp2
    go_ret
    exact ⟨rfl, m, rfl⟩
set_option maxHeartbeats 1000000 in
theorem equalN_same (l : List Cf.Node) (A B : Option Addr) (ca cb : Nat) (w : World) (hA : RdS 4 encNd w A l) (hB : RdS 4 encNd w B l) (hm : l.length ≤ maxLen) :
  Calls Tryz.prog 23 #[.slice A l.length ca, .slice B l.length cb] w fun e w' => e = .returned (.bool true) ∧ ∃ k, w' = w.drewN k := by
 unfold maxLen at hm
 rcases hA with rfl | ⟨b1, o1, rfl, hb1, hc1⟩
 ·go_enter Tryz.func23, Tryz.ntmps23
  go_wp2
  refine wp_loop_rounds 1 ?_
  rw [rounds_succ]
  go_wp2
  go_ret
  exact ⟨rfl, 0, rfl⟩
 ·rcases hB with rfl | ⟨b2, o2, rfl, hb2, hc2⟩
  ·go_enter Tryz.func23, Tryz.ntmps23
   go_wp2
   refine wp_loop_rounds 1 ?_
   rw [rounds_succ]
   go_wp2
   go_ret
   exact ⟨rfl, 0, rfl⟩
  have H1 := Lib.hid hc1
  have H2 := Lib.hid hc2
  clear hc1 hc2
  go_enter Tryz.func23, Tryz.ntmps23
  go_wp2
  go_loopw [13] (fun i wr => ∃ k m : Nat, k ≤ l.length ∧ i = .int .i64 k ∧ wr = w.drewN m) (fun i _ => l.length - (intOf i).toNat)
  case atStart => exact ⟨0, 0, by omega, rfl, rfl⟩
  case round =>
   obtain ⟨k, m, hk, rfl, rfl⟩ := hrel
   by_cases hlt : k < l.length
   ·obtain ⟨z0, z1, z2, z3, hx⟩ : ∃ z0 z1 z2 z3, l[k]? = some ⟨z0, z1, z2, z3⟩ := ⟨_, _, _, _, List.getElem?_eq_getElem hlt⟩
    have p0 : w.cell? ⟨b1, o1 + k * 4, none⟩ = _ := H1.out k _ hx 0 _ rfl
    have q0 : w.cell? ⟨b2, o2 + k * 4, none⟩ = _ := H2.out k _ hx 0 _ rfl
    have p1 : w.cell? ⟨b1, o1 + k * 4 + 1, none⟩ = _ := H1.out k _ hx 1 _ rfl
    have q1 : w.cell? ⟨b2, o2 + k * 4 + 1, none⟩ = _ := H2.out k _ hx 1 _ rfl
    have p2 : w.cell? ⟨b1, o1 + k * 4 + 2, none⟩ = _ := H1.out k _ hx 2 _ rfl
    have q2 : w.cell? ⟨b2, o2 + k * 4 + 2, none⟩ = _ := H2.out k _ hx 2 _ rfl
    have p3 : w.cell? ⟨b1, o1 + k * 4 + 3, none⟩ = _ := H1.out k _ hx 3 _ rfl
    have q3 : w.cell? ⟨b2, o2 + k * 4 + 3, none⟩ = _ := H2.out k _ hx 3 _ rfl
    clear hx
    go_wp2_with fail
    go_quiet (fail)
    go_wp2
    go_roundw
    case rel => exact ⟨k + 1, _, by omega, by go_num, rfl⟩
    case measure => simp [intOf]; omega
   ·go_wp2
    go_ret
    exact ⟨rfl, m, rfl⟩
set_option maxHeartbeats 1000000 in
theorem equalS_same (l : List (List UInt8)) (A B : Option Addr) (ca cb : Nat) (w : World) (hA : RdS 1 encSt w A l) (hB : RdS 1 encSt w B l) (hm : l.length ≤ maxLen) :
  Calls Tryz.prog 24 #[.slice A l.length ca, .slice B l.length cb] w fun e w' => e = .returned (.bool true) ∧ ∃ k, w' = w.drewN k := by
 unfold maxLen at hm
 rcases hA with rfl | ⟨b1, o1, rfl, hb1, hc1⟩
 ·go_enter Tryz.func24, Tryz.ntmps24
  go_wp2
  refine wp_loop_rounds 1 ?_
  rw [rounds_succ]
  go_wp2
  go_ret
  exact ⟨rfl, 0, rfl⟩
 ·rcases hB with rfl | ⟨b2, o2, rfl, hb2, hc2⟩
  ·go_enter Tryz.func24, Tryz.ntmps24
   go_wp2
   refine wp_loop_rounds 1 ?_
   rw [rounds_succ]
   go_wp2
   go_ret
   exact ⟨rfl, 0, rfl⟩
  have H1 := Lib.hid hc1
  have H2 := Lib.hid hc2
  clear hc1 hc2
  go_enter Tryz.func24, Tryz.ntmps24
  go_wp2
  go_loopw [13] (fun i wr => ∃ k m : Nat, k ≤ l.length ∧ i = .int .i64 k ∧ wr = w.drewN m) (fun i _ => l.length - (intOf i).toNat)
  case atStart => exact ⟨0, 0, by omega, rfl, rfl⟩
  case round =>
   obtain ⟨k, m, hk, rfl, rfl⟩ := hrel
   by_cases hlt : k < l.length
   ·obtain ⟨z0, hx⟩ : ∃ z0, l[k]? = some z0 := ⟨_, List.getElem?_eq_getElem hlt⟩
    have p0 : w.cell? ⟨b1, o1 + k, none⟩ = some (.string ⟨z0.toArray⟩) := by have := H1.out k _ hx 0 _ rfl; simpa using this
    have q0 : w.cell? ⟨b2, o2 + k, none⟩ = some (.string ⟨z0.toArray⟩) := by have := H2.out k _ hx 0 _ rfl; simpa using this
    clear hx
    go_wp2_with fail
    go_quiet (fail)
    go_wp2
    go_roundw
    case rel => exact ⟨k + 1, _, by omega, by go_num, rfl⟩
    case measure => simp [intOf]; omega
   ·go_wp2
    go_ret
    exact ⟨rfl, m, rfl⟩
end Go.Proofs.YtnnhhbjbdmgpiaaGreatDoor
