/- Walks of chapter 2: an instruction of the program's machine. -/
import Derived.Test.YtamepbgmajeaeacDoorCpuC
import Derived.StillTailTactics
namespace Go.Proofs.YtamepbgmajeaeacDoor
open Go.RowKit

section
variable (m : Cf.Mach) (hok : Cf.MOk m) (a b c : Nat) (ha : a < 8) (hb : b < 8) (w : World) (base g : Nat) (A : Option Addr) (n cp : Nat) (fuel : Int) (hP : PM w base g A n cp m fuel)
include hok ha hP

set_option maxRecDepth 100000 in
set_option maxHeartbeats 1000000 in
theorem execute_li :
    Calls Tryd.prog 33 #[.pointer (some ⟨g, 0, none⟩), .agg #[.int .i64 1, .int .i64 (a : Int), .int .i64 (b : Int), .int .i64 (c : Int)]] w (StepPost (Cf.exec ⟨1, a, b, c⟩ m) base g A n cp fuel w) := by
  obtain ⟨vm, vt, vr, hs⟩ := hP
  have ca : w.cell? ⟨g, 1 + a, none⟩ = some (.int .i64 (m.regs.getD a 0)) := (hs.blk.cell (1 + a)).trans (progT_reg hok.regs a ha)
  have fa := hs.blk.open_ (1 + a)
  have hlo := hs.lo
  have hwz := hs.blk.lt
  have HS := Lib.hid (show Cf.exec ⟨1, a, b, c⟩ m = .on (m.setR a c) by simp [Cf.exec, Cf.alu])
  have Hs := Lib.hid hs
  clear hs
  go_enter Tryd.func33, Tryd.ntmps33
  go_wp2_with fail
  go_region
  all_goals go_wp2
  all_goals go_ret
  all_goals
    rw [HS.out]
    exact ⟨rfl, ((PM.setR hok.regs Hs.out a ha c).alloc _).draw 1, (((Below.refl base w).setCell (p := ⟨g, 1 + a, none⟩) hlo _).alloc (by simp; omega) _).drew⟩

include hb in
set_option maxRecDepth 100000 in
set_option maxHeartbeats 1000000 in
theorem execute_ld :
    Calls Tryd.prog 33 #[.pointer (some ⟨g, 0, none⟩), .agg #[.int .i64 8, .int .i64 (a : Int), .int .i64 (b : Int), .int .i64 (c : Int)]] w (StepPost (Cf.exec ⟨8, a, b, c⟩ m) base g A n cp fuel w) := by
  obtain ⟨vm, vt, vr, hs⟩ := hP
  have hwz := hs.blk.lt
  have hlo := hs.lo
  have hP1 : PM (w.alloc (.cells #[.int .i64 8, .int .i64 (a : Int), .int .i64 (b : Int), .int .i64 (c : Int)] 47)) base g A n cp m fuel := ⟨_, _, _, hs.alloc _⟩
  have hb1 : Below base w (w.alloc (.cells #[.int .i64 8, .int .i64 (a : Int), .int .i64 (b : Int), .int .i64 (c : Int)] 47)) := (Below.refl base w).alloc (by omega) _
  clear hs
  go_enter Tryd.func33, Tryd.ntmps33
  go_wp2_with fail
  refine (access_ld m hok a b c ha hb _ base g A n cp fuel hP1).mono ?_
  rintro e w1 ⟨rfl, h2, h3⟩
  go_wp2
  go_ret
  exact ⟨rfl, h2, hb1.trans h3⟩
include hb in
set_option maxRecDepth 100000 in
set_option maxHeartbeats 1000000 in
theorem execute_st :
    Calls Tryd.prog 33 #[.pointer (some ⟨g, 0, none⟩), .agg #[.int .i64 9, .int .i64 (a : Int), .int .i64 (b : Int), .int .i64 (c : Int)]] w (StepPost (Cf.exec ⟨9, a, b, c⟩ m) base g A n cp fuel w) := by
  obtain ⟨vm, vt, vr, hs⟩ := hP
  have hwz := hs.blk.lt
  have hlo := hs.lo
  have hP1 : PM (w.alloc (.cells #[.int .i64 9, .int .i64 (a : Int), .int .i64 (b : Int), .int .i64 (c : Int)] 47)) base g A n cp m fuel := ⟨_, _, _, hs.alloc _⟩
  have hb1 : Below base w (w.alloc (.cells #[.int .i64 9, .int .i64 (a : Int), .int .i64 (b : Int), .int .i64 (c : Int)] 47)) := (Below.refl base w).alloc (by omega) _
  clear hs
  go_enter Tryd.func33, Tryd.ntmps33
  go_wp2_with fail
  refine (access_st m hok a b c ha hb _ base g A n cp fuel hP1).mono ?_
  rintro e w1 ⟨rfl, h2, h3⟩
  go_wp2
  go_ret
  exact ⟨rfl, h2, hb1.trans h3⟩
end
/-- A store of the place. -/
theorem PM.setPc {w : World} {base g : Nat} {A : Option Addr} {n cp : Nat} {m : Cf.Mach} {fuel : Int} {vm vt vr : Value} (hr : m.regs.length = 8)
    (hs : St w base g 51 (progC A n cp m.regs vm vt vr m.pc fuel) m.mem m.told m.back vm vt vr) (c : Nat) :
    PM (w.setCell ⟨g, 12, none⟩ (.int .i64 (c : Int))) base g A n cp ⟨m.regs, m.mem, m.told, m.back, c⟩ fuel := by
  have h := hs.put tMach_ne 12 (.int .i64 (c : Int))
  rw [show (12 : Nat) = 9 + 3 from rfl, progT_set hr 3] at h
  exact ⟨vm, vt, vr, h⟩
section
variable (m : Cf.Mach) (hok : Cf.MOk m) (a b c : Nat) (ha : a < 8) (w : World) (base g : Nat) (A : Option Addr) (n cp : Nat) (fuel : Int) (hP : PM w base g A n cp m fuel)
include hok hP
set_option maxRecDepth 100000 in
set_option maxHeartbeats 1000000 in
theorem execute_jmp :
    Calls Tryd.prog 33 #[.pointer (some ⟨g, 0, none⟩), .agg #[.int .i64 10, .int .i64 (a : Int), .int .i64 (b : Int), .int .i64 (c : Int)]] w (StepPost (Cf.exec ⟨10, a, b, c⟩ m) base g A n cp fuel w) := by
  obtain ⟨vm, vt, vr, hs⟩ := hP
  have c12 : w.cell? ⟨g, 12, none⟩ = some (.int .i64 (m.pc : Int)) := (hs.blk.cell 12).trans (progT_at hok.regs 3)
  have f12 := hs.blk.open_ 12
  have hlo := hs.lo
  have hwz := hs.blk.lt
  have HS := Lib.hid (show Cf.exec ⟨10, a, b, c⟩ m = .on ⟨m.regs, m.mem, m.told, m.back, c⟩ by simp [Cf.exec])
  have Hs := Lib.hid hs
  clear hs
  go_enter Tryd.func33, Tryd.ntmps33
  go_wp2
  go_ret
  rw [HS.out]
  exact ⟨rfl, (PM.setPc hok.regs Hs.out c).alloc _, ((Below.refl base w).setCell (p := ⟨g, 12, none⟩) hlo _).alloc (by simp; omega) _⟩
include ha in
set_option maxRecDepth 100000 in
set_option maxHeartbeats 1000000 in
theorem execute_jz :
    Calls Tryd.prog 33 #[.pointer (some ⟨g, 0, none⟩), .agg #[.int .i64 11, .int .i64 (a : Int), .int .i64 (b : Int), .int .i64 (c : Int)]] w (StepPost (Cf.exec ⟨11, a, b, c⟩ m) base g A n cp fuel w) := by
  obtain ⟨vm, vt, vr, hs⟩ := hP
  have c12 : w.cell? ⟨g, 12, none⟩ = some (.int .i64 (m.pc : Int)) := (hs.blk.cell 12).trans (progT_at hok.regs 3)
  have f12 := hs.blk.open_ 12
  have hlo := hs.lo
  have hwz := hs.blk.lt
  obtain ⟨z, hz⟩ : ∃ z, z = m.rg (a : Int) := ⟨_, rfl⟩
  have ca : w.cell? ⟨g, 1 + a, none⟩ = some (.int .i64 z) := by
    rw [hz, rg_nat]
    exact (hs.blk.cell (1 + a)).trans (progT_reg hok.regs a ha)
  by_cases h0 : z = 0
  · have HS := Lib.hid (show Cf.exec ⟨11, a, b, c⟩ m = .on ⟨m.regs, m.mem, m.told, m.back, c⟩ by simp [Cf.exec, ← hz, h0])
    have h0' : (z == 0) = true := by rw [beq_iff_eq]; exact h0
    have Hs := Lib.hid hs
    clear hs h0 hz
    go_enter Tryd.func33, Tryd.ntmps33
    go_wp2_with fail
    go_quiet (fail)
    go_wp2
    go_ret
    rw [HS.out]
    exact ⟨rfl, PM.setPc hok.regs ((Hs.out.alloc _).draw _) c, (below_drewN ((Below.refl base w).alloc (by omega) _) _).setCell (p := ⟨g, 12, none⟩) hlo _⟩
  · have HS := Lib.hid (show Cf.exec ⟨11, a, b, c⟩ m = .on m by simp [Cf.exec, ← hz, h0])
    have h0' : (z == 0) = false := by rw [beq_eq_false_iff_ne]; exact h0
    have Hs := Lib.hid hs
    clear hs h0 hz
    go_enter Tryd.func33, Tryd.ntmps33
    go_wp2_with fail
    go_quiet (fail)
    go_wp2
    go_ret
    rw [HS.out]
    exact ⟨rfl, ⟨_, _, _, (Hs.out.alloc _).draw _⟩, below_drewN ((Below.refl base w).alloc (by omega) _) _⟩
end
end Go.Proofs.YtamepbgmajeaeacDoor
