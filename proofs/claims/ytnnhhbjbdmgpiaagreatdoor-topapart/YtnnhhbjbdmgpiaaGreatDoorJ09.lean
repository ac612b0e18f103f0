/- Texts of the proof of TopApart: InsK, SameC. -/
import Derived.OwnWalk
import Derived.Test.YtnnhhbjbdmgpiaaGreatDoorJ05
import Derived.WalkSmall
/- Slices of instructions: opened, and what the program says of their type. -/
namespace Go.Proofs.YtnnhhbjbdmgpiaaGreatDoor
set_option maxRecDepth 100000
open Go.RowKit

theorem infoIns : (Tryz.prog.info? 121).map (fun i => (i.zero, i.size, i.bytes)) = some (some (.agg #[.int .i64 0, .int .i64 0, .int .i64 0, .int .i64 0]), 4, 32) := by kernel_rfl
theorem Codes.at_ {w : World} {A : Option Addr} {l : List Cf.Ins} (h : Codes w A l) (hl : l ≠ []) : ∃ b off, A = some ⟨b, off, none⟩ ∧ b < w.heap.size ∧ ∀ (k : Nat) (op a b' c : Int), l[k]? = some ⟨op, a, b', c⟩ →
    w.cell? ⟨b, off + k * 4, none⟩ = some (.int .i64 op) ∧ w.cell? ⟨b, off + k * 4 + 1, none⟩ = some (.int .i64 a) ∧ w.cell? ⟨b, off + k * 4 + 2, none⟩ = some (.int .i64 b') ∧ w.cell? ⟨b, off + k * 4 + 3, none⟩ = some (.int .i64 c) := by
  rcases h with h | ⟨b, off, hA, hb, hc⟩
  · exact absurd h hl
  · exact ⟨b, off, hA, hb, fun k op a b' c hx => ⟨hc k _ hx 0 _ rfl, hc k _ hx 1 _ rfl, hc k _ hx 2 _ rfl, hc k _ hx 3 _ rfl⟩⟩
end Go.Proofs.YtnnhhbjbdmgpiaaGreatDoor
/- Walks of the law's own helper: two slices that read as one list are the same code. -/
namespace Go.Proofs.YtnnhhbjbdmgpiaaGreatDoor
set_option maxRecDepth 100000
open Go.RowKit

set_option maxHeartbeats 1000000 in
theorem sameCode_same (l : List Cf.Ins) (A B : Option Addr) (ca cb : Nat) (w : World) (hA : Codes w A l) (hB : Codes w B l) (hm : l.length ≤ maxLen) :
    Calls Tryz.prog 83 #[.slice A l.length ca, .slice B l.length cb] w fun e w' => e = .returned (.bool true) ∧ Below w.heap.size w w' := by
  unfold maxLen at hm
  by_cases hl : l = []
  · subst hl
    go_enter Tryz.func83, Tryz.ntmps83
    go_wp2
    refine wp_loop_rounds 1 ?_
    rw [rounds_succ]
    go_wp2
    go_ret
    exact ⟨rfl, Below.refl _ _⟩
  · obtain ⟨b1, o1, rfl, hb1, hc1⟩ := hA.at_ hl
    obtain ⟨b2, o2, rfl, hb2, hc2⟩ := hB.at_ hl
    have H1 := Lib.hid hc1
    have H2 := Lib.hid hc2
    clear hc1 hc2
    go_enter Tryz.func83, Tryz.ntmps83
    go_wp2
    go_loopw [5] (fun i wr => ∃ k m : Nat, k ≤ l.length ∧ i = .int .i64 k ∧ wr = w.drewN m) (fun i _ => l.length - (intOf i).toNat)
    case atStart => exact ⟨0, 0, by omega, rfl, rfl⟩
    case round =>
      obtain ⟨k, m, hk, rfl, rfl⟩ := hrel
      by_cases hlt : k < l.length
      · obtain ⟨op, a, b', c', hx⟩ : ∃ op a b' c', l[k]? = some ⟨op, a, b', c'⟩ := ⟨_, _, _, _, List.getElem?_eq_getElem hlt⟩
        obtain ⟨p0, p1, p2, p3⟩ := H1.out k op a b' c' hx
        obtain ⟨q0, q1, q2, q3⟩ := H2.out k op a b' c' hx
        clear hx
        go_wp2_with fail
        go_quiet (fail)
        go_wp2
        go_roundw
        case rel => exact ⟨k + 1, _, by omega, by go_num, rfl⟩
        case measure => simp [intOf]; omega
      · go_wp2
        go_ret
        exact ⟨rfl, below_drewN (Below.refl _ _) m⟩
end Go.Proofs.YtnnhhbjbdmgpiaaGreatDoor
