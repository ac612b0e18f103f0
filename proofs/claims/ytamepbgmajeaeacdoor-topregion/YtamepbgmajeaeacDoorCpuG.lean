/- Walks of chapter 2: a step of the program's machine. -/
import Derived.Test.YtamepbgmajeaeacDoorCpuF
namespace Go.Proofs.YtamepbgmajeaeacDoor
open Go.RowKit

theorem execute_any (x : Cf.Ins) (hx : Cf.chk x = 0) (m : Cf.Mach) (hok : Cf.MOk m) (w : World) (base g : Nat) (A : Option Addr) (n cp : Nat) (fuel : Int) (hP : PM w base g A n cp m fuel) :
    Calls Tryd.prog 33 #[.pointer (some ⟨g, 0, none⟩), .agg #[.int .i64 x.op, .int .i64 x.a, .int .i64 x.b, .int .i64 x.c]] w (StepPost (Cf.exec x m) base g A n cp fuel w) := by
  obtain ⟨ho, hA, hB, hC, hj, h7⟩ := Cf.chk_parts x hx
  obtain ⟨op, xa, xb, xc⟩ := x
  dsimp only at ho hA hB hC hj h7 ⊢
  obtain ⟨a, rfl⟩ := Int.eq_ofNat_of_zero_le hA.1
  obtain ⟨b, rfl⟩ := Int.eq_ofNat_of_zero_le hB.1
  obtain ⟨c, rfl⟩ := Int.eq_ofNat_of_zero_le hC.1
  have ha : a < 8 := by omega
  have hb : b < 8 := by omega
  by_cases halu : 2 ≤ op ∧ op ≤ 7
  · exact execute_alu m hok a b c ha hb (by have := h7 (by omega); omega) w base g A n cp fuel hP op halu.1 halu.2
  · have h9 : op = 1 ∨ op = 8 ∨ op = 9 ∨ op = 10 ∨ op = 11 ∨ op = 12 ∨ op = 13 ∨ op = 14 ∨ op = 15 := by omega
    rcases h9 with rfl | rfl | rfl | rfl | rfl | rfl | rfl | rfl | rfl
    · exact execute_li m hok a b c ha w base g A n cp fuel hP
    · exact execute_ld m hok a b c ha hb w base g A n cp fuel hP
    · exact execute_st m hok a b c ha hb w base g A n cp fuel hP
    · exact execute_jmp m hok a b c w base g A n cp fuel hP
    · exact execute_jz m hok a b c ha w base g A n cp fuel hP
    · exact execute_call m hok a b c w base g A n cp fuel hP
    · exact execute_ret m hok a b c w base g A n cp fuel hP
    · exact execute_tell m hok a b c ha w base g A n cp fuel hP
    · exact execute_halt m a b c w base g A n cp fuel hP
theorem step_zero (m : Cf.Mach) (hok : Cf.MOk m) (w : World) (base g : Nat) (A : Option Addr) (n cp : Nat) (hP : PM w base g A n cp m 0) :
    Calls Tryd.prog 18 #[.pointer (some ⟨g, 0, none⟩)] w (StepPost (.fin 2 m) base g A n cp 0 w) := by
  have c13 : w.cell? ⟨g, 13, none⟩ = some (.int .i64 0) := by
    obtain ⟨vm, vt, vr, hs⟩ := hP
    exact (hs.blk.cell 13).trans (progT_at hok.regs 4)
  go_enter Tryd.func18, Tryd.ntmps18
  go_wp2
  go_ret
  exact ⟨rfl, hP, Below.refl _ _⟩
theorem PM.setFuel {w : World} {base g : Nat} {A : Option Addr} {n cp : Nat} {m : Cf.Mach} {fuel : Int} {vm vt vr : Value} (hr : m.regs.length = 8)
    (hs : St w base g 51 (progC A n cp m.regs vm vt vr m.pc fuel) m.mem m.told m.back vm vt vr) (z : Int) :
    St (w.setCell ⟨g, 13, none⟩ (.int .i64 z)) base g 51 (progC A n cp m.regs vm vt vr m.pc z) m.mem m.told m.back vm vt vr := by
  have h := hs.put tMach_ne 13 (.int .i64 z)
  rw [show (13 : Nat) = 9 + 4 from rfl, progT_set hr 4] at h
  exact h
set_option maxRecDepth 100000 in
set_option maxHeartbeats 2000000 in
theorem step_succ (l : List Cf.Ins) (hz : Cf.faultIn l = 0) (hl : l.length ≤ 200) (m : Cf.Mach) (hok : Cf.MOk m) (k : Nat) (hk : k < 20000) (w0 w : World) (g : Nat) (A : Option Addr) (cp : Nat) (hC : Codes w0 A l) (hb0 : Below w0.heap.size w0 w) (hP : PM w w0.heap.size g A l.length cp m ((k : Int) + 1)) :
    Calls Tryd.prog 18 #[.pointer (some ⟨g, 0, none⟩)] w (StepPost (Cf.step l m) w0.heap.size g A l.length cp k w) := by
  obtain ⟨vm, vt, vr, hs⟩ := hP
  have hwz := hs.blk.lt
  have hlo := hs.lo
  have hpc := hok.pc
  have c0 : w.cell? ⟨g, 0, none⟩ = some (.slice A l.length cp) := hs.blk.cell 0
  have c12 : w.cell? ⟨g, 12, none⟩ = some (.int .i64 (m.pc : Int)) := (hs.blk.cell 12).trans (progT_at hok.regs 3)
  have c13 : w.cell? ⟨g, 13, none⟩ = some (.int .i64 ((k : Int) + 1)) := (hs.blk.cell 13).trans (progT_at hok.regs 4)
  have f12 := hs.blk.open_ 12
  have f13 := hs.blk.open_ 13
  have hs1 := PM.setFuel hok.regs hs k
  have Hs1 := Lib.hid hs1
  have hB1 := Lib.hid ((Below.refl w0.heap.size w).setCell (p := ⟨g, 13, none⟩) hlo (.int .i64 (k : Int)))
  clear hs
  by_cases hlt : m.pc < l.length
  · obtain ⟨op, a, b', c', hx⟩ : ∃ op a b' c', l[m.pc]? = some ⟨op, a, b', c'⟩ := ⟨_, _, _, _, List.getElem?_eq_getElem hlt⟩
    have HS := Lib.hid (show Cf.step l m = Cf.exec ⟨op, a, b', c'⟩ ⟨m.regs, m.mem, m.told, m.back, m.pc + 1⟩ by unfold Cf.step; rw [hx])
    have hck := Cf.faultIn_mem l hz m.pc _ hx
    rcases hC with rfl | ⟨b, off, rfl, hbw, hc⟩
    · simp at hlt
    have hbw' : b < w.heap.size := Nat.lt_of_lt_of_le hbw hb0.size
    have hbg : b ≠ g := by omega
    have d0 : w.cell? ⟨b, off + m.pc * 4, none⟩ = some (.int .i64 op) := (hb0.cell hbw).trans (hc m.pc _ hx 0 _ rfl)
    have d1 : w.cell? ⟨b, off + m.pc * 4 + 1, none⟩ = some (.int .i64 a) := (hb0.cell hbw).trans (hc m.pc _ hx 1 _ rfl)
    have d2 : w.cell? ⟨b, off + m.pc * 4 + 2, none⟩ = some (.int .i64 b') := (hb0.cell hbw).trans (hc m.pc _ hx 2 _ rfl)
    have d3 : w.cell? ⟨b, off + m.pc * 4 + 3, none⟩ = some (.int .i64 c') := (hb0.cell hbw).trans (hc m.pc _ hx 3 _ rfl)
    have Hck := Lib.hid hck
    clear hx hc hck hs1
    go_enter Tryd.func18, Tryd.ntmps18
    go_wp2_with fail
    go_quiet (fail)
    go_wp2_with fail
    go_region
    all_goals go_wp2_with fail
    have hok1 : Cf.MOk ⟨m.regs, m.mem, m.told, m.back, m.pc + 1⟩ := ⟨hok.regs, hok.words, hok.mem, hok.told, hok.toldW, hok.back, hok.backs, by show m.pc + 1 ≤ 200; omega⟩
    have hP2 := (PM.setPc hok.regs (Hs1.out.draw (nq + 1)) (m.pc + 1)).alloc (.cells #[.int .i64 op, .int .i64 a, .int .i64 b', .int .i64 c'] 47)
    rw [show ((m.pc + 1 : Nat) : Int) = (m.pc : Int) + 1 by omega] at hP2
    refine (execute_any ⟨op, a, b', c'⟩ Hck.out _ hok1 _ _ g _ _ cp k hP2).mono ?_
    rintro e w1 ⟨rfl, h2, h3⟩
    go_wp2
    go_ret
    rw [HS.out]
    exact ⟨rfl, h2, (((below_drewN hB1.out _).setCell (p := ⟨g, 12, none⟩) hlo _).alloc (by simp; omega) _).trans h3⟩
  · have HS := Lib.hid (show Cf.step l m = .fin 3 m by unfold Cf.step; rw [List.getElem?_eq_none (by omega)])
    clear hs1 hC
    go_enter Tryd.func18, Tryd.ntmps18
    go_wp2_with fail
    go_quiet (fail)
    go_wp2
    go_ret
    rw [HS.out]
    exact ⟨rfl, ⟨_, _, _, Hs1.out.draw _⟩, below_drewN hB1.out _⟩
end Go.Proofs.YtamepbgmajeaeacDoor
