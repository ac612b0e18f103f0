/- Walks of chapter 1: the reference's CodeFault. -/
import Derived.Test.YtnnhhbjbdmgpiaaDoorCodeV
import Derived.WalkSmall
namespace Go.Proofs.YtnnhhbjbdmgpiaaDoor
set_option maxRecDepth 100000
open Go.RowKit

theorem quiet_eq {P : Program} {f : FuncId} {args : Array Value} {w : World} {n : Nat} {v : Value}
    (h : Calls P f args (w.drewN n) fun e w' => e = .returned v ∧ w.drewN n = w') : Calls P f args (w.drewN n) fun e w'' => e = .returned v ∧ ∃ m, w'' = w.drewN m :=
  h.mono fun _ _ ⟨he, hm⟩ => ⟨he, n, hm.symm⟩

set_option maxHeartbeats 800000 in
theorem codeFault_any (l : List Cf.Ins) (A : Option Addr) (cap : Nat) (w : World) (hR : Codes w A l) (hm : l.length ≤ maxLen) :
    Calls Tryd.prog 44 #[.slice A l.length cap] w fun e w' => e = .returned (.int .i64 (Cf.fault l)) ∧ Below w.heap.size w w' := by
  unfold maxLen at hm
  by_cases hlen : 200 < l.length
  · have H1 := Lib.hid (show Cf.fault l = 1 by simp [Cf.fault, hlen])
    go_enter Tryd.func44, Tryd.ntmps44
    go_wp2
    go_ret
    exact ⟨by rw [H1.out]; rfl, Below.refl _ _⟩
  · rcases hR with rfl | ⟨b, off, rfl, hb, hc⟩
    · go_enter Tryd.func44, Tryd.ntmps44
      go_wp2
      refine wp_loop_rounds 1 ?_
      rw [rounds_succ]
      go_wp2
      go_ret
      exact ⟨rfl, Below.refl _ _⟩
    · have Hc := Lib.hid hc
      clear hc
      go_enter Tryd.func44, Tryd.ntmps44
      go_wp2
      go_loopw [3] (fun i wr => ∃ k : Nat, k ≤ l.length ∧ i = .int .i64 k ∧ Cf.faultIn (l.take k) = 0 ∧ Below w.heap.size w wr) (fun i _ => l.length - (intOf i).toNat)
      case atStart => exact ⟨0, by omega, rfl, rfl, Below.refl _ _⟩
      case round =>
        obtain ⟨k, hk, rfl, hz, hbw⟩ := hrel
        have Hz := Lib.hid hz
        clear hz
        by_cases hlt : k < l.length
        · obtain ⟨op, a, b', c', hx⟩ : ∃ op a b' c', l[k]? = some ⟨op, a, b', c'⟩ := ⟨_, _, _, _, List.getElem?_eq_getElem hlt⟩
          have hc0 : wr.cell? ⟨b, off + k * 4, none⟩ = some (.int .i64 op) := (hbw.cell hb).trans (Hc.out k _ hx 0 _ rfl)
          have hc1 : wr.cell? ⟨b, off + k * 4 + 1, none⟩ = some (.int .i64 a) := (hbw.cell hb).trans (Hc.out k _ hx 1 _ rfl)
          have hc2 : wr.cell? ⟨b, off + k * 4 + 2, none⟩ = some (.int .i64 b') := (hbw.cell hb).trans (Hc.out k _ hx 2 _ rfl)
          have hc3 : wr.cell? ⟨b, off + k * 4 + 3, none⟩ = some (.int .i64 c') := (hbw.cell hb).trans (Hc.out k _ hx 3 _ rfl)
          have Hx := Lib.hid hx
          clear hx
          go_wp2_with fail
          refine (in_any op 1 15 _).mono ?_
          rintro e w1 ⟨rfl, rfl⟩
          cases hq : Cf.inB op 1 15
          · have HZ := Lib.hid (Cf.fault_at l k _ hlen hlt Hx.out Hz.out 3 (by decide) (Cf.chk_three _ hq))
            go_wp2
            go_ret
            exact ⟨by rw [HZ.out]; rfl, hbw.alloc hbw.size _⟩
          · obtain ⟨x, y, z, hs⟩ := Cf.shape_three op
            go_wp2_with fail
            refine (shape_any op _).mono ?_
            rintro e w1 ⟨rfl, rfl⟩
            rw [show Cf.shape op = ⟨#[x, y, z]⟩ by rw [Cf.shape, hs]]
            have hi0 : ∀ w, (Instr.index 9 (.string ⟨#[x, y, z]⟩) (.int .i64 0)).run Tryd.prog w = .ok (.int .u8 (x.toNat : Int)) w := fun _ => by kernel_rfl
            have hi1 : ∀ w, (Instr.index 9 (.string ⟨#[x, y, z]⟩) (.int .i64 1)).run Tryd.prog w = .ok (.int .u8 (y.toNat : Int)) w := fun _ => by kernel_rfl
            have hi2 : ∀ w, (Instr.index 9 (.string ⟨#[x, y, z]⟩) (.int .i64 2)).run Tryd.prog w = .ok (.int .u8 (z.toNat : Int)) w := fun _ => by kernel_rfl
            have Hs := Lib.hid hs
            clear hs
            clear hc0 hc1 hc2 hc3
            cases g0 : Cf.inB a 0 (Cf.most x.toNat)
            · have HZ := Lib.hid (Cf.fault_at l k _ hlen hlt Hx.out Hz.out 2 (by decide) (Cf.chk_two' _ hq Hs.out (Or.inl g0)))
              go_wp2_with fail
              go_quiet ((first | (go_at_call 60; exact quiet_eq (most_any _ _)) | (go_at_call 32; exact quiet_eq (in_any _ _ _ _))))
              go_wp2
              go_ret
              exact ⟨by rw [HZ.out]; rfl, below_drewN (hbw.alloc hbw.size _) _⟩
            · cases g1 : Cf.inB b' 0 (Cf.most y.toNat)
              · have HZ := Lib.hid (Cf.fault_at l k _ hlen hlt Hx.out Hz.out 2 (by decide) (Cf.chk_two' _ hq Hs.out (Or.inr (Or.inl g1))))
                go_wp2_with fail
                go_quiet ((first | (go_at_call 60; exact quiet_eq (most_any _ _)) | (go_at_call 32; exact quiet_eq (in_any _ _ _ _))))
                go_wp2
                go_ret
                exact ⟨by rw [HZ.out]; rfl, below_drewN (hbw.alloc hbw.size _) _⟩
              · cases g2 : Cf.inB c' 0 (Cf.most z.toNat)
                · have HZ := Lib.hid (Cf.fault_at l k _ hlen hlt Hx.out Hz.out 2 (by decide) (Cf.chk_two' _ hq Hs.out (Or.inr (Or.inr g2))))
                  go_wp2_with fail
                  go_quiet ((first | (go_at_call 60; exact quiet_eq (most_any _ _)) | (go_at_call 32; exact quiet_eq (in_any _ _ _ _))))
                  go_wp2
                  go_ret
                  exact ⟨by rw [HZ.out]; rfl, below_drewN (hbw.alloc hbw.size _) _⟩
                · have HZ := Lib.hid (Cf.fault_on l k _ Hx.out Hz.out (Cf.chk_zero' _ hq Hs.out g0 g1 g2))
                  go_wp2_with fail
                  go_quiet ((first | (go_at_call 60; exact quiet_eq (most_any _ _)) | (go_at_call 32; exact quiet_eq (in_any _ _ _ _))))
                  go_wp2
                  go_roundw
                  case rel => exact ⟨k + 1, by omega, by go_num, HZ.out, below_drewN (hbw.alloc hbw.size _) _⟩
                  case measure => simp [intOf]; omega
        · have HZ := Lib.hid (Cf.fault_end l k hlen hlt Hz.out)
          go_wp2
          go_ret
          exact ⟨by rw [HZ.out]; rfl, hbw⟩
end Go.Proofs.YtnnhhbjbdmgpiaaDoor
