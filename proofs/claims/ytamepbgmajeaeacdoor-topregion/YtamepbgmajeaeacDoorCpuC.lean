/- Walks of chapter 2: accesses of the program's machine. -/
import Derived.Test.YtamepbgmajeaeacDoorCpuB
namespace Go.Proofs.YtamepbgmajeaeacDoor
open Go.RowKit

theorem rg_nat (m : Cf.Mach) (i : Nat) : m.rg (i : Int) = m.regs.getD i 0 := by simp [Cf.Mach.rg]
theorem PM.alloc {w : World} {base g : Nat} {A : Option Addr} {n cp : Nat} {m : Cf.Mach} {fuel : Int} (h : PM w base g A n cp m fuel) (o : Obj) : PM (w.alloc o) base g A n cp m fuel := by
  obtain ⟨vm, vt, vr, h⟩ := h
  exact ⟨vm, vt, vr, h.alloc o⟩
theorem PM.draw {w : World} {base g : Nat} {A : Option Addr} {n cp : Nat} {m : Cf.Mach} {fuel : Int} (h : PM w base g A n cp m fuel) (k : Nat) : PM (w.drewN k) base g A n cp m fuel := by
  obtain ⟨vm, vt, vr, h⟩ := h
  exact ⟨vm, vt, vr, h.draw k⟩
theorem PM.setR {w : World} {base g : Nat} {A : Option Addr} {n cp : Nat} {m : Cf.Mach} {fuel : Int} {vm vt vr : Value} (hr : m.regs.length = 8)
    (hs : St w base g 51 (progC A n cp m.regs vm vt vr m.pc fuel) m.mem m.told m.back vm vt vr) (i : Nat) (hi : i < 8) (z : Int) :
    PM (w.setCell ⟨g, 1 + i, none⟩ (.int .i64 z)) base g A n cp (m.setR (i : Int) z) fuel := by
  have h := hs.put tMach_ne (1 + i) (.int .i64 z)
  rw [progT_setR hr i hi] at h
  refine ⟨vm, vt, vr, ?_⟩
  simpa [Cf.Mach.setR] using h
set_option maxRecDepth 100000 in
set_option maxHeartbeats 1000000 in
theorem access_ld (m : Cf.Mach) (hok : Cf.MOk m) (a b : Nat) (c : Int) (ha : a < 8) (hb : b < 8) (w : World) (base g : Nat) (A : Option Addr) (n cp : Nat) (fuel : Int) (hP : PM w base g A n cp m fuel) :
    Calls Tryd.prog 37 #[.pointer (some ⟨g, 0, none⟩), .agg #[.int .i64 8, .int .i64 (a : Int), .int .i64 (b : Int), .int .i64 c]] w (StepPost (Cf.exec ⟨8, a, b, c⟩ m) base g A n cp fuel w) := by
  obtain ⟨vm, vt, vr, hs⟩ := hP
  obtain ⟨M, cm, rfl⟩ := hs.mem.form
  obtain ⟨ad, had⟩ := Int.eq_ofNat_of_zero_le (hok.rg (b : Int)).1
  have h65 := (hok.rg (b : Int)).2
  rw [had] at h65
  have c9 : w.cell? ⟨g, 9, none⟩ = some (.slice M m.mem.length cm) := (hs.blk.cell 9).trans (progT_at hok.regs 0)
  have cb : w.cell? ⟨g, 1 + b, none⟩ = some (.int .i64 (ad : Int)) := by
    rw [← had, rg_nat]
    exact (hs.blk.cell (1 + b)).trans (progT_reg hok.regs b hb)
  have ca : w.cell? ⟨g, 1 + a, none⟩ = some (.int .i64 (m.regs.getD a 0)) := (hs.blk.cell (1 + a)).trans (progT_reg hok.regs a ha)
  have fa := hs.blk.open_ (1 + a)
  have hlo := hs.lo
  have hwz := hs.blk.lt
  by_cases hlt : ad < m.mem.length
  · have HS := Lib.hid (show Cf.exec ⟨8, a, b, c⟩ m = .on (m.setR a (m.mem.getD ad 0)) by simp [Cf.exec, had, hlt])
    obtain ⟨gm, rfl, hgm, hgm2, _, hcm⟩ := hs.mem.cells (by intro h; rw [h] at hlt; simp at hlt)
    have cx : w.cell? ⟨gm, ad, none⟩ = some (.int .i64 (m.mem.getD ad 0)) := hcm ad _ (by rw [List.getD_eq_getElem?_getD, List.getElem?_eq_getElem hlt]; rfl)
    obtain ⟨z, hz⟩ : ∃ z, z = m.mem.getD ad 0 := ⟨_, rfl⟩
    rw [← hz] at cx HS
    have Hs := Lib.hid hs
    clear hs hcm had hz
    go_enter Tryd.func37, Tryd.ntmps37
    go_wp2_with fail
    go_quiet (fail)
    go_wp2_with fail
    go_region
    all_goals go_wp2
    all_goals go_ret
    all_goals
      rw [HS.out]
      exact ⟨rfl, PM.setR hok.regs ((Hs.out.alloc _).draw _) a ha z, (below_drewN ((Below.refl base w).alloc (by omega) _) _).setCell (p := ⟨g, 1 + a, none⟩) hlo _⟩
  · have HS := Lib.hid (show Cf.exec ⟨8, a, b, c⟩ m = .fin 3 m by simp [Cf.exec, had, hlt])
    have Hs := Lib.hid hs
    clear hs had
    go_enter Tryd.func37, Tryd.ntmps37
    go_wp2_with fail
    go_quiet (fail)
    go_wp2
    go_ret
    rw [HS.out]
    exact ⟨rfl, ⟨_, _, _, (Hs.out.alloc _).draw _⟩, below_drewN ((Below.refl base w).alloc (by omega) _) _⟩
set_option maxRecDepth 100000 in
set_option maxHeartbeats 1000000 in
theorem access_st (m : Cf.Mach) (hok : Cf.MOk m) (a b : Nat) (c : Int) (ha : a < 8) (hb : b < 8) (w : World) (base g : Nat) (A : Option Addr) (n cp : Nat) (fuel : Int) (hP : PM w base g A n cp m fuel) :
    Calls Tryd.prog 37 #[.pointer (some ⟨g, 0, none⟩), .agg #[.int .i64 9, .int .i64 (a : Int), .int .i64 (b : Int), .int .i64 c]] w (StepPost (Cf.exec ⟨9, a, b, c⟩ m) base g A n cp fuel w) := by
  obtain ⟨vm, vt, vr, hs⟩ := hP
  obtain ⟨M, cm, rfl⟩ := hs.mem.form
  obtain ⟨ad, had⟩ := Int.eq_ofNat_of_zero_le (hok.rg (b : Int)).1
  have h65 := (hok.rg (b : Int)).2
  rw [had] at h65
  have c9 : w.cell? ⟨g, 9, none⟩ = some (.slice M m.mem.length cm) := (hs.blk.cell 9).trans (progT_at hok.regs 0)
  have cb : w.cell? ⟨g, 1 + b, none⟩ = some (.int .i64 (ad : Int)) := by
    rw [← had, rg_nat]
    exact (hs.blk.cell (1 + b)).trans (progT_reg hok.regs b hb)
  obtain ⟨z, hz⟩ : ∃ z, z = m.rg (a : Int) := ⟨_, rfl⟩
  have ca : w.cell? ⟨g, 1 + a, none⟩ = some (.int .i64 z) := by
    rw [hz, rg_nat]
    exact (hs.blk.cell (1 + a)).trans (progT_reg hok.regs a ha)
  have hlo := hs.lo
  have hwz := hs.blk.lt
  by_cases hlt : ad < m.mem.length
  · have HS := Lib.hid (show Cf.exec ⟨9, a, b, c⟩ m = .on ⟨m.regs, m.mem.set ad z, m.told, m.back, m.pc⟩ by simp [Cf.exec, had, hlt, hz])
    obtain ⟨gm, rfl, hgm, hgm2, hfm, hcm⟩ := hs.mem.cells (by intro h; rw [h] at hlt; simp at hlt)
    have cx : w.cell? ⟨gm, ad, none⟩ = some (.int .i64 (m.mem.getD ad 0)) := hcm ad _ (by rw [List.getD_eq_getElem?_getD, List.getElem?_eq_getElem hlt]; rfl)
    have fx : w.frozen? ⟨gm, ad, none⟩ = false := (hfm ad).resolve_left (by rw [cx]; simp)
    have Hs := Lib.hid hs
    clear hs hcm had hz hfm
    go_enter Tryd.func37, Tryd.ntmps37
    go_wp2_with fail
    go_quiet (fail)
    go_wp2_with fail
    go_region
    all_goals go_wp2
    all_goals go_ret
    all_goals
      rw [HS.out]
      exact ⟨rfl, ⟨_, _, _, ((Hs.out.alloc _).draw _).memSet tMach_ne z⟩, (below_drewN ((Below.refl base w).alloc (by omega) _) _).setCell (p := ⟨gm, ad, none⟩) hgm _⟩
  · have HS := Lib.hid (show Cf.exec ⟨9, a, b, c⟩ m = .fin 3 m by simp [Cf.exec, had, hlt])
    have Hs := Lib.hid hs
    clear hs had hz
    go_enter Tryd.func37, Tryd.ntmps37
    go_wp2_with fail
    go_quiet (fail)
    go_wp2
    go_ret
    rw [HS.out]
    exact ⟨rfl, ⟨_, _, _, (Hs.out.alloc _).draw _⟩, below_drewN ((Below.refl base w).alloc (by omega) _) _⟩
end Go.Proofs.YtamepbgmajeaeacDoor
