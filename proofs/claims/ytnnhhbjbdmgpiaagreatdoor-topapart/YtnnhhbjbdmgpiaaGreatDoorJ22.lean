/- Texts of the proof of TopApart: CpuB, CpuC. -/
import Derived.Deep.AppendLies
import Derived.Deep.RegionLaw
import Derived.Test.YtnnhhbjbdmgpiaaGreatDoorJ17
/- Walks of chapter 2: calls and returns of the program's machine. -/
namespace Go.Proofs.YtnnhhbjbdmgpiaaGreatDoor
set_option maxRecDepth 100000
open Go.RowKit

theorem Row.cap_ {w : World} {base n cap : Nat} {A : Option Addr} {l : List Int} (h : Row w base (.slice A n cap) l) : l.length ≤ cap := by
  rcases h.2 with ⟨hv, h0⟩ | ⟨g, cap', cur, hv, _, _, hn, _⟩
  · omega
  · injection hv with _ _ hc
    omega
def comeS (m : Cf.Mach) : Cf.Step := if m.back = [] then .fin 1 m else .on ⟨m.regs, m.mem, m.told, m.back.dropLast, m.back.getLastD 0⟩
theorem come_any (m : Cf.Mach) (hok : Cf.MOk m) (w : World) (base g : Nat) (A : Option Addr) (n cp : Nat) (fuel : Int) (hP : PM w base g A n cp m fuel) :
    Calls Tryz.prog 176 #[.pointer (some ⟨g, 0, none⟩)] w (StepPost (comeS m) base g A n cp fuel w) := by
  obtain ⟨vm, vt, vr, hs⟩ := hP
  obtain ⟨R, cr, hvr⟩ := hs.back.form
  rw [natI_len] at hvr
  subst hvr
  have c11 : w.cell? ⟨g, 11, none⟩ = some (.slice R m.back.length cr) := (hs.blk.cell 11).trans (progT_at hok.regs 2)
  have hbl := hok.back
  have hlo := hs.lo
  by_cases hl : m.back = []
  · have HS := Lib.hid (show comeS m = .fin 1 m by unfold comeS; rw [if_pos hl])
    have h0 : m.back.length = 0 := by rw [hl]; rfl
    rw [h0] at c11
    have Hs := Lib.hid hs
    clear hs hl h0 hbl
    go_enter Tryz.func176, Tryz.ntmps176
    go_wp2
    go_ret
    rw [HS.out]
    exact ⟨rfl, ⟨_, _, _, Hs.out⟩, Below.refl _ _⟩
  · have HS := Lib.hid (show comeS m = .on ⟨m.regs, m.mem, m.told, m.back.dropLast, m.back.getLastD 0⟩ by unfold comeS; rw [if_neg hl])
    obtain ⟨k, hk⟩ : ∃ k, m.back.length = k + 1 := ⟨m.back.length - 1, by have := List.length_pos_iff.2 hl; omega⟩
    obtain ⟨gr, rfl, hgr, hgr2, hfr, hcr⟩ := hs.back.cells (by intro h; exact hl (by simpa [natI] using h))
    have hcap := hs.back.cap_
    rw [natI_len] at hcap
    obtain ⟨b, hb⟩ : ∃ b, m.back[k]? = some b := ⟨_, List.getElem?_eq_getElem (by omega)⟩
    have hbl2 : m.back.getLastD 0 = b := by
      rw [List.getLastD_eq_getLast?, List.getLast?_eq_getElem?, hk]
      simp [hb]
    have cb : w.cell? ⟨gr, k, none⟩ = some (.int .i64 (b : Int)) := hcr k b (by simp [natI, hb])
    have c12 : w.cell? ⟨g, 12, none⟩ = some (.int .i64 (m.pc : Int)) := (hs.blk.cell 12).trans (progT_at hok.regs 3)
    have f11 := hs.blk.open_ 11
    have f12 := hs.blk.open_ 12
    have hne : gr ≠ g := fun he => own_off hs.back hs.blk tMach_ne (by simp [Value.ownBlock, he])
    rw [hk] at c11 hcap hbl
    have h1 := (hs.pop hl rfl).put tMach_ne 12 (.int .i64 (b : Int))
    have h2 := h1.put tMach_ne 11 (.slice (some ⟨gr, 0, none⟩) k cr)
    have Hk := Lib.hid hk
    have Hb := Lib.hid hbl2
    have H2 := Lib.hid h2
    clear hs hl hk hcr hfr hb hbl2 h1 h2
    go_enter Tryz.func176, Tryz.ntmps176
    go_wp2
    go_ret
    rw [HS.out]
    refine ⟨rfl, ⟨vm, vt, .slice (some ⟨gr, 0, none⟩) k cr, ?_⟩, ((Below.refl base w).setCell (p := ⟨g, 12, none⟩) hlo _).setCell (p := ⟨g, 11, none⟩) hlo _⟩
    have h2 := H2.out
    rw [Hk.out] at h2
    rw [show (12 : Nat) = 9 + 3 from rfl, progT_set hok.regs 3, show (11 : Nat) = 9 + 2 from rfl, progT_set hok.regs 2] at h2
    simp only [Cf.Step.mach]
    rw [Hb.out]
    exact h2

def callS (m : Cf.Mach) (c : Nat) : Cf.Step := if 16 ≤ m.back.length then .fin 4 m else .on ⟨m.regs, m.mem, m.told, m.back ++ [m.pc], c⟩
theorem natI_snoc (l : List Nat) (b : Nat) : natI (l ++ [b]) = natI l ++ [(b : Int)] := by simp [natI]
theorem call_done {m : Cf.Mach} (hr : m.regs.length = 8) {w w1 : World} {base g : Nat} {A : Option Addr} {n cp : Nat} {fuel : Int} {vm vt : Value} {R : Option Addr} {cr gg cap c : Nat} {o : Obj}
    (hs : St w base g 194 (progC A n cp m.regs vm vt (.slice R m.back.length cr) m.pc fuel) m.mem m.told m.back vm vt (.slice R m.back.length cr))
    (hown : w1.ownsRow base 3 1 (.slice (some ⟨gg, 0, none⟩) (m.back.length + 1) cap) (m.back.length + 1) ((natI m.back).map (Value.int .i64) ++ [.int .i64 (m.pc : Int)]))
    (hgr : (w.alloc o).drew.grownBy w1 (Value.slice R m.back.length cr).ownBlock) (hat : (Value.slice R m.back.length cr).ownBlock = some gg ∨ gg = w.heap.size + 1) :
    PM ((w1.setCell ⟨g, 11, none⟩ (.slice (some ⟨gg, 0, none⟩) (m.back.length + 1) cap)).setCell ⟨g, 12, none⟩ (.int .i64 (c : Int))) base g A n cp ⟨m.regs, m.mem, m.told, m.back ++ [m.pc], c⟩ fuel ∧
    Below base w ((w1.setCell ⟨g, 11, none⟩ (.slice (some ⟨gg, 0, none⟩) (m.back.length + 1) cap)).setCell ⟨g, 12, none⟩ (.int .i64 (c : Int))) := by
  have hlo := hs.lo
  have hwz := hs.blk.lt
  have hrow : Row w1 base (.slice (some ⟨gg, 0, none⟩) (m.back.length + 1) cap) (natI (m.back ++ [m.pc])) := by
    unfold Row
    rw [natI_snoc, List.length_append, natI_len, List.map_append]
    exact hown
  have h0 : St (w.alloc o).drew base g 194 (progC A n cp m.regs vm vt (.slice R m.back.length cr) m.pc fuel) m.mem m.told m.back vm vt (.slice R m.back.length cr) := (hs.alloc o).draw 1
  have h1 := h0.call tMach_ne hrow hgr (hat.imp (fun h => h.symm) fun h => ⟨gg, rfl, by simp; omega⟩)
  have h2 := (h1.put tMach_ne 11 (.slice (some ⟨gg, 0, none⟩) (m.back.length + 1) cap)).put tMach_ne 12 (.int .i64 (c : Int))
  rw [show (11 : Nat) = 9 + 2 from rfl, progT_set hr 2, show (12 : Nat) = 9 + 3 from rfl, progT_set hr 3] at h2
  refine ⟨⟨_, _, _, h2⟩, ?_⟩
  have hb0 : Below base w (w.alloc o).drew := ((Below.refl base w).alloc (by omega) o).drew
  exact ((hb0.grown hgr (by simp; omega) (fun k hk => (hs.back.lt k hk).1)).setCell (p := ⟨g, 11, none⟩) hlo _).setCell (p := ⟨g, 12, none⟩) hlo _
set_option maxRecDepth 100000 in
set_option maxHeartbeats 1000000 in
theorem call_any (m : Cf.Mach) (hok : Cf.MOk m) (c : Nat) (w : World) (base g : Nat) (A : Option Addr) (n cp : Nat) (fuel : Int) (hP : PM w base g A n cp m fuel) :
    Calls Tryz.prog 175 #[.pointer (some ⟨g, 0, none⟩), .int .i64 (c : Int)] w (StepPost (callS m c) base g A n cp fuel w) := by
  obtain ⟨vm, vt, vr, hs⟩ := hP
  obtain ⟨R, cr, hvr⟩ := hs.back.form
  rw [natI_len] at hvr
  subst hvr
  have c11 : w.cell? ⟨g, 11, none⟩ = some (.slice R m.back.length cr) := (hs.blk.cell 11).trans (progT_at hok.regs 2)
  have c12 : w.cell? ⟨g, 12, none⟩ = some (.int .i64 (m.pc : Int)) := (hs.blk.cell 12).trans (progT_at hok.regs 3)
  have hbl := hok.back
  have hlo := hs.lo
  have hwz := hs.blk.lt
  obtain ⟨i0, hi, hz0, hz1, hz2⟩ := info_parts infoInt
  have Hi := Lib.hid hi
  have Hz0 := Lib.hid hz0
  have Hz1 := Lib.hid hz1
  have Hz2 := Lib.hid hz2
  clear hi hz0 hz1 hz2
  by_cases hl : 16 ≤ m.back.length
  · have HS := Lib.hid (show callS m c = .fin 4 m by unfold callS; rw [if_pos hl])
    have h16 : ((m.back.length : Int) == 16) = true := by rw [beq_iff_eq]; omega
    go_enter Tryz.func175, Tryz.ntmps175
    go_wp2
    go_ret
    rw [HS.out]
    exact ⟨rfl, ⟨_, _, _, hs⟩, Below.refl _ _⟩
  · have HS := Lib.hid (show callS m c = .on ⟨m.regs, m.mem, m.told, m.back ++ [m.pc], c⟩ by unfold callS; rw [if_neg hl])
    have h16 : ((m.back.length : Int) == 16) = false := by rw [beq_eq_false_iff_ne]; omega
    have Hs := Lib.hid hs
    clear hs
    go_enter Tryz.func175, Tryz.ntmps175
    go_wp2_with fail
    have hOwn : (w.alloc (.cells #[.int .i64 (m.pc : Int)] 3)).drew.ownsRow base 3 1 (.slice R m.back.length cr) m.back.length ((natI m.back).map (Value.int .i64)) := by
      have := (World.ownsRow.alloc Hs.out.back (.cells #[.int .i64 (m.pc : Int)] 3)).drew
      rw [natI_len] at this
      exact this
    have hoff := Lib.hid (own_off Hs.out.back Hs.out.blk tMach_ne)
    have HOwn := Lib.hid hOwn
    clear hOwn
    have HF := Lib.hid (show (w.alloc (.cells #[.int .i64 (m.pc : Int)] 3)).drew.frozen? ⟨g, 11, none⟩ = false from (Hs.out.alloc (.cells #[.int .i64 (m.pc : Int)] 3)).blk.open_ 11)
    have HF2 := Lib.hid (show (w.alloc (.cells #[.int .i64 (m.pc : Int)] 3)).drew.frozen? ⟨g, 12, none⟩ = false from (Hs.out.alloc (.cells #[.int .i64 (m.pc : Int)] 3)).blk.open_ 12)
    have HC := Lib.hid (show (w.alloc (.cells #[.int .i64 (m.pc : Int)] 3)).drew.cell? ⟨g, 11, none⟩ = some (.slice R m.back.length cr) from ((Hs.out.alloc (.cells #[.int .i64 (m.pc : Int)] 3)).blk.cell 11).trans (progT_at hok.regs 2))
    have HC2 := Lib.hid (show (w.alloc (.cells #[.int .i64 (m.pc : Int)] 3)).drew.cell? ⟨g, 12, none⟩ = some (.int .i64 (m.pc : Int)) from ((Hs.out.alloc (.cells #[.int .i64 (m.pc : Int)] 3)).blk.cell 12).trans (progT_at hok.regs 3))
    have HW := Lib.hid (show g < (w.alloc (.cells #[.int .i64 (m.pc : Int)] 3)).drew.heap.size by simp; omega)
    go_region_law ((refine step_append_lies _ (by rfl) _ _ _ (by rfl) base 3 i0 (.int .i64 0) 1 8 Tryz.underlying23 Hi.out Hz0.out Hz1.out Hz2.out rfl (by omega) (.slice R m.back.length cr) m.back.length ((natI m.back).map (Value.int .i64)) (by rfl) HOwn.out ⟨w.heap.size, 0, none⟩ 1 1 [.int .i64 (m.pc : Int)] (by rfl) (by rfl) (World.news_of_block (cs := #[.int .i64 (m.pc : Int)]) (t := 3) (fr := (0, 0)) (heap_alloc_new w _)) (by simp [Value.oneCell']) (by omega) (by unfold maxLen; omega) (by omega) (by simp; omega) (w.heap.size + 1) (by simp) ?_; intro gg cap w1 hown1 hgrow hat hlt; have kf := (hgrow.frozen_far ⟨g, 11, none⟩ HW.out (Ne.symm hoff.out)).trans HF.out; have kf2 := (hgrow.frozen_far ⟨g, 12, none⟩ HW.out (Ne.symm hoff.out)).trans HF2.out; have k11 := (hgrow.cell_far ⟨g, 11, none⟩ HW.out (Ne.symm hoff.out)).trans HC.out; have k12 := (hgrow.cell_far ⟨g, 12, none⟩ HW.out (Ne.symm hoff.out)).trans HC2.out; have HX1 := Lib.hid hown1; have HX2 := Lib.hid hgrow; have HX3 := Lib.hid hat; clear hown1 hgrow hat))
    all_goals go_wp2
    all_goals go_ret
    all_goals
      rw [HS.out]
      exact ⟨rfl, call_done hok.regs Hs.out HX1.out HX2.out HX3.out⟩
end Go.Proofs.YtnnhhbjbdmgpiaaGreatDoor
/- Walks of chapter 2: accesses of the program's machine. -/
namespace Go.Proofs.YtnnhhbjbdmgpiaaGreatDoor
set_option maxRecDepth 100000
open Go.RowKit

theorem rg_nat (m : Cf.Mach) (i : Nat) : m.rg (i : Int) = m.regs.getD i 0 := by simp [Cf.Mach.rg]
theorem PM.alloc {w : World} {base g : Nat} {A : Option Addr} {n cp : Nat} {m : Cf.Mach} {fuel : Int} (h : PM w base g A n cp m fuel) (o : Obj) : PM (w.alloc o) base g A n cp m fuel := by
  obtain ⟨vm, vt, vr, h⟩ := h
  exact ⟨vm, vt, vr, h.alloc o⟩
theorem PM.draw {w : World} {base g : Nat} {A : Option Addr} {n cp : Nat} {m : Cf.Mach} {fuel : Int} (h : PM w base g A n cp m fuel) (k : Nat) : PM (w.drewN k) base g A n cp m fuel := by
  obtain ⟨vm, vt, vr, h⟩ := h
  exact ⟨vm, vt, vr, h.draw k⟩
theorem PM.setR {w : World} {base g : Nat} {A : Option Addr} {n cp : Nat} {m : Cf.Mach} {fuel : Int} {vm vt vr : Value} (hr : m.regs.length = 8)
    (hs : St w base g 194 (progC A n cp m.regs vm vt vr m.pc fuel) m.mem m.told m.back vm vt vr) (i : Nat) (hi : i < 8) (z : Int) :
    PM (w.setCell ⟨g, 1 + i, none⟩ (.int .i64 z)) base g A n cp (m.setR (i : Int) z) fuel := by
  have h := hs.put tMach_ne (1 + i) (.int .i64 z)
  rw [progT_setR hr i hi] at h
  refine ⟨vm, vt, vr, ?_⟩
  simpa [Cf.Mach.setR] using h
set_option maxRecDepth 100000 in
set_option maxHeartbeats 1000000 in
theorem access_ld (m : Cf.Mach) (hok : Cf.MOk m) (a b : Nat) (c : Int) (ha : a < 8) (hb : b < 8) (w : World) (base g : Nat) (A : Option Addr) (n cp : Nat) (fuel : Int) (hP : PM w base g A n cp m fuel) :
    Calls Tryz.prog 174 #[.pointer (some ⟨g, 0, none⟩), .agg #[.int .i64 8, .int .i64 (a : Int), .int .i64 (b : Int), .int .i64 c]] w (StepPost (Cf.exec ⟨8, a, b, c⟩ m) base g A n cp fuel w) := by
  obtain ⟨vm, vt, vr, hs⟩ := hP
  obtain ⟨M, cm, rfl⟩ := hs.mem.form
  obtain ⟨ad, had⟩ := Int.eq_ofNat_of_zero_le (hok.rg (b : Int)).1
  have h65 := (hok.rg (b : Int)).2
  rw [had] at h65
  have c9 : w.cell? ⟨g, 9, none⟩ = some (.slice M m.mem.length cm) := (hs.blk.cell 9).trans (progT_at hok.regs 0)
  have cb : w.cell? ⟨g, 1 + b, none⟩ = some (.int .i64 (ad : Int)) := by
    rw [← had, rg_nat]
    exact (hs.blk.cell (1 + b)).trans (progT_reg hok.regs b hb)
  have ca : w.cell? ⟨g, 1 + a, none⟩ = some (.int .i64 (m.regs.getD a 0)) := (hs.blk.cell (1 + a)).trans (progT_reg hok.regs a ha)
  have fa := hs.blk.open_ (1 + a)
  have hlo := hs.lo
  have hwz := hs.blk.lt
  by_cases hlt : ad < m.mem.length
  · have HS := Lib.hid (show Cf.exec ⟨8, a, b, c⟩ m = .on (m.setR a (m.mem.getD ad 0)) by simp [Cf.exec, had, hlt])
    obtain ⟨gm, rfl, hgm, hgm2, _, hcm⟩ := hs.mem.cells (by intro h; rw [h] at hlt; simp at hlt)
    have cx : w.cell? ⟨gm, ad, none⟩ = some (.int .i64 (m.mem.getD ad 0)) := hcm ad _ (by rw [List.getD_eq_getElem?_getD, List.getElem?_eq_getElem hlt]; rfl)
    obtain ⟨z, hz⟩ : ∃ z, z = m.mem.getD ad 0 := ⟨_, rfl⟩
    rw [← hz] at cx HS
    have Hs := Lib.hid hs
    clear hs hcm had hz
    go_enter Tryz.func174, Tryz.ntmps174
    go_wp2_with fail
    go_quiet (fail)
    go_wp2_with fail
    go_region
    all_goals go_wp2
    all_goals go_ret
    all_goals
      rw [HS.out]
      exact ⟨rfl, PM.setR hok.regs ((Hs.out.alloc _).draw _) a ha z, (below_drewN ((Below.refl base w).alloc (by omega) _) _).setCell (p := ⟨g, 1 + a, none⟩) hlo _⟩
  · have HS := Lib.hid (show Cf.exec ⟨8, a, b, c⟩ m = .fin 3 m by simp [Cf.exec, had, hlt])
    have Hs := Lib.hid hs
    clear hs had
    go_enter Tryz.func174, Tryz.ntmps174
    go_wp2_with fail
    go_quiet (fail)
    go_wp2
    go_ret
    rw [HS.out]
    exact ⟨rfl, ⟨_, _, _, (Hs.out.alloc _).draw _⟩, below_drewN ((Below.refl base w).alloc (by omega) _) _⟩
set_option maxRecDepth 100000 in
set_option maxHeartbeats 1000000 in
theorem access_st (m : Cf.Mach) (hok : Cf.MOk m) (a b : Nat) (c : Int) (ha : a < 8) (hb : b < 8) (w : World) (base g : Nat) (A : Option Addr) (n cp : Nat) (fuel : Int) (hP : PM w base g A n cp m fuel) :
    Calls Tryz.prog 174 #[.pointer (some ⟨g, 0, none⟩), .agg #[.int .i64 9, .int .i64 (a : Int), .int .i64 (b : Int), .int .i64 c]] w (StepPost (Cf.exec ⟨9, a, b, c⟩ m) base g A n cp fuel w) := by
  obtain ⟨vm, vt, vr, hs⟩ := hP
  obtain ⟨M, cm, rfl⟩ := hs.mem.form
  obtain ⟨ad, had⟩ := Int.eq_ofNat_of_zero_le (hok.rg (b : Int)).1
  have h65 := (hok.rg (b : Int)).2
  rw [had] at h65
  have c9 : w.cell? ⟨g, 9, none⟩ = some (.slice M m.mem.length cm) := (hs.blk.cell 9).trans (progT_at hok.regs 0)
  have cb : w.cell? ⟨g, 1 + b, none⟩ = some (.int .i64 (ad : Int)) := by
    rw [← had, rg_nat]
    exact (hs.blk.cell (1 + b)).trans (progT_reg hok.regs b hb)
  obtain ⟨z, hz⟩ : ∃ z, z = m.rg (a : Int) := ⟨_, rfl⟩
  have ca : w.cell? ⟨g, 1 + a, none⟩ = some (.int .i64 z) := by
    rw [hz, rg_nat]
    exact (hs.blk.cell (1 + a)).trans (progT_reg hok.regs a ha)
  have hlo := hs.lo
  have hwz := hs.blk.lt
  by_cases hlt : ad < m.mem.length
  · have HS := Lib.hid (show Cf.exec ⟨9, a, b, c⟩ m = .on ⟨m.regs, m.mem.set ad z, m.told, m.back, m.pc⟩ by simp [Cf.exec, had, hlt, hz])
    obtain ⟨gm, rfl, hgm, hgm2, hfm, hcm⟩ := hs.mem.cells (by intro h; rw [h] at hlt; simp at hlt)
    have cx : w.cell? ⟨gm, ad, none⟩ = some (.int .i64 (m.mem.getD ad 0)) := hcm ad _ (by rw [List.getD_eq_getElem?_getD, List.getElem?_eq_getElem hlt]; rfl)
    have fx : w.frozen? ⟨gm, ad, none⟩ = false := (hfm ad).resolve_left (by rw [cx]; simp)
    have Hs := Lib.hid hs
    clear hs hcm had hz hfm
    go_enter Tryz.func174, Tryz.ntmps174
    go_wp2_with fail
    go_quiet (fail)
    go_wp2_with fail
    go_region
    all_goals go_wp2
    all_goals go_ret
    all_goals
      rw [HS.out]
      exact ⟨rfl, ⟨_, _, _, ((Hs.out.alloc _).draw _).memSet tMach_ne z⟩, (below_drewN ((Below.refl base w).alloc (by omega) _) _).setCell (p := ⟨gm, ad, none⟩) hgm _⟩
  · have HS := Lib.hid (show Cf.exec ⟨9, a, b, c⟩ m = .fin 3 m by simp [Cf.exec, had, hlt])
    have Hs := Lib.hid hs
    clear hs had hz
    go_enter Tryz.func174, Tryz.ntmps174
    go_wp2_with fail
    go_quiet (fail)
    go_wp2
    go_ret
    rw [HS.out]
    exact ⟨rfl, ⟨_, _, _, (Hs.out.alloc _).draw _⟩, below_drewN ((Below.refl base w).alloc (by omega) _) _⟩
end Go.Proofs.YtnnhhbjbdmgpiaaGreatDoor
