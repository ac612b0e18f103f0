/- Walks of chapter 2: an instruction of the program's machine, and a step. -/
import Derived.Test.YtamepbgmajeaeacDoorCpuE
namespace Go.Proofs.YtamepbgmajeaeacDoor
open Go.RowKit

section
variable (m : Cf.Mach) (hok : Cf.MOk m) (a b c : Nat) (ha : a < 8) (hb : b < 8) (hc : c < 8) (w : World) (base g : Nat) (A : Option Addr) (n cp : Nat) (fuel : Int) (hP : PM w base g A n cp m fuel)
include hok hP
set_option maxRecDepth 100000 in
set_option maxHeartbeats 1000000 in
theorem execute_call :
    Calls Tryd.prog 33 #[.pointer (some ⟨g, 0, none⟩), .agg #[.int .i64 12, .int .i64 (a : Int), .int .i64 (b : Int), .int .i64 (c : Int)]] w (StepPost (Cf.exec ⟨12, a, b, c⟩ m) base g A n cp fuel w) := by
  have hwz : g < w.heap.size := by obtain ⟨vm, vt, vr, hs⟩ := hP; exact hs.blk.lt
  have hlo : base ≤ g := by obtain ⟨vm, vt, vr, hs⟩ := hP; exact hs.lo
  have HS := Lib.hid (show Cf.exec ⟨12, a, b, c⟩ m = callS m c by simp [Cf.exec, callS])
  go_enter Tryd.func33, Tryd.ntmps33
  go_wp2_with fail
  refine (call_any m hok c _ base g A n cp fuel (hP.alloc _)).mono ?_
  rintro e w1 ⟨rfl, h2, h3⟩
  go_wp2
  go_ret
  rw [HS.out]
  exact ⟨rfl, h2, ((Below.refl base w).alloc (by omega) _).trans h3⟩
set_option maxRecDepth 100000 in
set_option maxHeartbeats 1000000 in
theorem execute_ret :
    Calls Tryd.prog 33 #[.pointer (some ⟨g, 0, none⟩), .agg #[.int .i64 13, .int .i64 (a : Int), .int .i64 (b : Int), .int .i64 (c : Int)]] w (StepPost (Cf.exec ⟨13, a, b, c⟩ m) base g A n cp fuel w) := by
  have hwz : g < w.heap.size := by obtain ⟨vm, vt, vr, hs⟩ := hP; exact hs.blk.lt
  have hlo : base ≤ g := by obtain ⟨vm, vt, vr, hs⟩ := hP; exact hs.lo
  have HS := Lib.hid (show Cf.exec ⟨13, a, b, c⟩ m = comeS m by simp [Cf.exec, comeS])
  go_enter Tryd.func33, Tryd.ntmps33
  go_wp2_with fail
  refine (come_any m hok _ base g A n cp fuel (hP.alloc _)).mono ?_
  rintro e w1 ⟨rfl, h2, h3⟩
  go_wp2
  go_ret
  rw [HS.out]
  exact ⟨rfl, h2, ((Below.refl base w).alloc (by omega) _).trans h3⟩
omit hok in
set_option maxRecDepth 100000 in
set_option maxHeartbeats 1000000 in
theorem execute_halt :
    Calls Tryd.prog 33 #[.pointer (some ⟨g, 0, none⟩), .agg #[.int .i64 15, .int .i64 (a : Int), .int .i64 (b : Int), .int .i64 (c : Int)]] w (StepPost (Cf.exec ⟨15, a, b, c⟩ m) base g A n cp fuel w) := by
  have hwz : g < w.heap.size := by obtain ⟨vm, vt, vr, hs⟩ := hP; exact hs.blk.lt
  have hlo : base ≤ g := by obtain ⟨vm, vt, vr, hs⟩ := hP; exact hs.lo
  have HS := Lib.hid (show Cf.exec ⟨15, a, b, c⟩ m = .fin 1 m by simp [Cf.exec])
  go_enter Tryd.func33, Tryd.ntmps33
  go_wp2
  go_ret
  rw [HS.out]
  exact ⟨rfl, hP.alloc _, (Below.refl base w).alloc (by omega) _⟩
include ha
set_option maxRecDepth 100000 in
set_option maxHeartbeats 1000000 in
theorem execute_tell :
    Calls Tryd.prog 33 #[.pointer (some ⟨g, 0, none⟩), .agg #[.int .i64 14, .int .i64 (a : Int), .int .i64 (b : Int), .int .i64 (c : Int)]] w (StepPost (Cf.exec ⟨14, a, b, c⟩ m) base g A n cp fuel w) := by
  have hwz : g < w.heap.size := by obtain ⟨vm, vt, vr, hs⟩ := hP; exact hs.blk.lt
  have hlo : base ≤ g := by obtain ⟨vm, vt, vr, hs⟩ := hP; exact hs.lo
  obtain ⟨z, hz⟩ : ∃ z, z = m.rg (a : Int) := ⟨_, rfl⟩
  have ca : w.cell? ⟨g, 1 + a, none⟩ = some (.int .i64 z) := by
    obtain ⟨vm, vt, vr, hs⟩ := hP
    rw [hz, rg_nat]
    exact (hs.blk.cell (1 + a)).trans (progT_reg hok.regs a ha)
  have HS := Lib.hid (show Cf.exec ⟨14, a, b, c⟩ m = tellS m z by simp [Cf.exec, tellS, hz])
  clear hz
  go_enter Tryd.func33, Tryd.ntmps33
  go_wp2_with fail
  have q1 : (w.alloc (.cells #[.int .i64 14, .int .i64 (a : Int), .int .i64 (b : Int), .int .i64 (c : Int)] 47)).cell? ⟨w.heap.size, 1, none⟩ = some (.int .i64 (a : Int)) := by simp
  have q2 : (w.alloc (.cells #[.int .i64 14, .int .i64 (a : Int), .int .i64 (b : Int), .int .i64 (c : Int)] 47)).cell? ⟨g, 1 + a, none⟩ = some (.int .i64 z) := (World.cell?_alloc_lt _ _ _ hwz).trans ca
  have hP1 := Lib.hid (hP.alloc (.cells #[.int .i64 14, .int .i64 (a : Int), .int .i64 (b : Int), .int .i64 (c : Int)] 47))
  have hB1 := Lib.hid ((Below.refl base w).alloc (by omega) (.cells #[.int .i64 14, .int .i64 (a : Int), .int .i64 (b : Int), .int .i64 (c : Int)] 47))
  generalize w.alloc (.cells #[.int .i64 14, .int .i64 (a : Int), .int .i64 (b : Int), .int .i64 (c : Int)] 47) = w1 at *
  clear hP ca
  have ia : (a : Int) < 8 := by omega
  go_still_tail 8, (by kernel_rfl)
  change wpList _ _ _ _ _ w1.drew
  have hP2 := Lib.hid (hP1.out.draw 1)
  have hB2 := Lib.hid hB1.out.drew
  change Hid (PM w1.drew base g A n cp m fuel) at hP2
  clear hP1 hB1 q1 q2
  generalize w1.drew = w2 at *
  go_wp2_with fail
  refine (tell_any m hok z _ base g A n cp fuel hP2.out).mono ?_
  rintro e w3 ⟨rfl, h2, h3⟩
  go_wp2
  go_ret
  rw [HS.out]
  exact ⟨rfl, h2, hB2.out.trans h3⟩
include hb hc
set_option maxRecDepth 100000 in
set_option maxHeartbeats 4000000 in
theorem execute_alu (op : Int) (h1 : 2 ≤ op) (h7 : op ≤ 7) :
    Calls Tryd.prog 33 #[.pointer (some ⟨g, 0, none⟩), .agg #[.int .i64 op, .int .i64 (a : Int), .int .i64 (b : Int), .int .i64 (c : Int)]] w (StepPost (Cf.exec ⟨op, a, b, c⟩ m) base g A n cp fuel w) := by
  obtain ⟨vm, vt, vr, hs⟩ := hP
  have hwz := hs.blk.lt
  have hlo := hs.lo
  have hB := hok.rg (b : Int)
  have hC := hok.rg (c : Int)
  obtain ⟨x, hx⟩ : ∃ z, z = m.rg (b : Int) := ⟨_, rfl⟩
  obtain ⟨y, hy⟩ : ∃ z, z = m.rg (c : Int) := ⟨_, rfl⟩
  have cb : w.cell? ⟨g, 1 + b, none⟩ = some (.int .i64 x) := by
    rw [hx, rg_nat]
    exact (hs.blk.cell (1 + b)).trans (progT_reg hok.regs b hb)
  have cc : w.cell? ⟨g, 1 + c, none⟩ = some (.int .i64 y) := by
    rw [hy, rg_nat]
    exact (hs.blk.cell (1 + c)).trans (progT_reg hok.regs c hc)
  have ca : w.cell? ⟨g, 1 + a, none⟩ = some (.int .i64 (m.regs.getD a 0)) := (hs.blk.cell (1 + a)).trans (progT_reg hok.regs a ha)
  have fa := hs.blk.open_ (1 + a)
  rw [← hx] at hB
  rw [← hy] at hC
  obtain ⟨hx1, hB2⟩ := hB
  obtain ⟨hC1, hC2⟩ := hC
  have HS := Lib.hid (show Cf.exec ⟨op, a, b, c⟩ m = .on (m.setR a (Cf.alu op x y c)) by simp [Cf.exec, h7, hx, hy])
  have Hs := Lib.hid hs
  have e1 : (op == 1) = false := by rw [beq_eq_false_iff_ne]; omega
  have e8 : (op == 8) = false := by rw [beq_eq_false_iff_ne]; omega
  have e9 : (op == 9) = false := by rw [beq_eq_false_iff_ne]; omega
  clear hs hx hy
  go_enter Tryd.func33, Tryd.ntmps33
  go_wp2_with fail
  have hwz1 : g < (w.alloc (.cells #[.int .i64 op, .int .i64 (a : Int), .int .i64 (b : Int), .int .i64 (c : Int)] 47)).heap.size := by simp; omega
  have q0 : (w.alloc (.cells #[.int .i64 op, .int .i64 (a : Int), .int .i64 (b : Int), .int .i64 (c : Int)] 47)).cell? ⟨w.heap.size, 0, none⟩ = some (.int .i64 op) := by simp
  have q1 : (w.alloc (.cells #[.int .i64 op, .int .i64 (a : Int), .int .i64 (b : Int), .int .i64 (c : Int)] 47)).cell? ⟨w.heap.size, 1, none⟩ = some (.int .i64 (a : Int)) := by simp
  have q2 : (w.alloc (.cells #[.int .i64 op, .int .i64 (a : Int), .int .i64 (b : Int), .int .i64 (c : Int)] 47)).cell? ⟨w.heap.size, 2, none⟩ = some (.int .i64 (b : Int)) := by simp
  have q3 : (w.alloc (.cells #[.int .i64 op, .int .i64 (a : Int), .int .i64 (b : Int), .int .i64 (c : Int)] 47)).cell? ⟨w.heap.size, 3, none⟩ = some (.int .i64 (c : Int)) := by simp
  have qa := (World.cell?_alloc_lt w (.cells #[.int .i64 op, .int .i64 (a : Int), .int .i64 (b : Int), .int .i64 (c : Int)] 47) ⟨g, 1 + a, none⟩ hwz).trans ca
  have qb := (World.cell?_alloc_lt w (.cells #[.int .i64 op, .int .i64 (a : Int), .int .i64 (b : Int), .int .i64 (c : Int)] 47) ⟨g, 1 + b, none⟩ hwz).trans cb
  have qc := (World.cell?_alloc_lt w (.cells #[.int .i64 op, .int .i64 (a : Int), .int .i64 (b : Int), .int .i64 (c : Int)] 47) ⟨g, 1 + c, none⟩ hwz).trans cc
  have hs1 := Hs.out.alloc (.cells #[.int .i64 op, .int .i64 (a : Int), .int .i64 (b : Int), .int .i64 (c : Int)] 47)
  have qf := hs1.blk.open_ (1 + a)
  have hB1 := Lib.hid ((Below.refl base w).alloc (by omega) (.cells #[.int .i64 op, .int .i64 (a : Int), .int .i64 (b : Int), .int .i64 (c : Int)] 47))
  have Hs1 := Lib.hid hs1
  clear hs1 Hs ca cb cc fa
  generalize w.alloc (.cells #[.int .i64 op, .int .i64 (a : Int), .int .i64 (b : Int), .int .i64 (c : Int)] 47) = w1 at *
  have ia : (a : Int) < 8 := by omega
  have ib : (b : Int) < 8 := by omega
  have ic : (c : Int) < 8 := by omega
  refine wp_region_still_tail 22 (by kernel_rfl) (by kernel_rfl) ?_
  simp only [List.take_succ_cons, List.take_zero, List.drop_succ_cons, List.drop_zero]
  iterate 19 still_step
  still_call ((compute_any op x y c _ h1 h7 ⟨hx1, hB2⟩ ⟨hC1, hC2⟩).mono fun e w' ⟨he, hw⟩ => ⟨he, hw.symm⟩)
  iterate 2 still_step
  refine wpStill_nil ?_
  change wpList _ _ _ _ _ w1.drew
  go_wp2
  go_ret
  rw [HS.out]
  exact ⟨rfl, (PM.setR hok.regs Hs1.out a ha _).draw 1, (hB1.out.setCell (p := ⟨g, 1 + a, none⟩) hlo _).drew⟩
end
end Go.Proofs.YtamepbgmajeaeacDoor
