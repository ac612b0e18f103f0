/- Texts of the proof of TopApart: CpuO, CpuQ, EqI. -/
import Derived.Test.YtnnhhbjbdmgpiaaGreatDoorJ25
import Derived.Test.YtnnhhbjbdmgpiaaGreatDoorJ01
import Derived.Test.YtnnhhbjbdmgpiaaGreatDoorJ24
import Derived.Test.YtnnhhbjbdmgpiaaGreatDoorJ21
import Derived.Test.YtnnhhbjbdmgpiaaGreatDoorJ08
/- What the laws of chapter 2 need besides: literal code, opened arguments, the answers of three programs. -/
namespace Go.Proofs.YtnnhhbjbdmgpiaaGreatDoor
set_option maxRecDepth 100000
open Go.RowKit

theorem Wb.codes {w : World} {g : Nat} {t : TypeId} {l : List Cf.Ins} (h : Wb w g t (l.flatMap encI)) : Codes w (some ⟨g, 0, none⟩) l :=
  .inr ⟨g, 0, rfl, h.lt, fun k x hx j v hv => by
    rw [show 0 + k * 4 + j = k * 4 + j by omega, h.cell]
    exact flat_at 4 encI encI_len l k x j v hx hv⟩
theorem fit_of {z : Int} (h : (Lit.int .i64 z).wf = true) : Fit z := by
  simp [Lit.wf, IntKind.min, IntKind.max, IntKind.bits, IntKind.signed] at h
  exact ⟨by omega, by omega⟩
theorem reck_T (x y : Int) (hx : 0 ≤ x ∧ x ≤ 65535) (hy : 0 ≤ y ∧ y ≤ 65535) : Cf.runT Cf.reckL [x, y, 0, 0, 0, 0, 0, 0] [] 100 = ⟨1, [x, y, (x + y) % 65536, x, Cf.andI x y, Cf.xorI x y, Cf.orI x y, if x < y then 1 else 0], [], [], 0⟩ := by
  obtain ⟨p, hp⟩ := Cf.reck_run x y hx
  have he : Cf.runE Cf.reckL [x, y, 0, 0, 0, 0, 0, 0] [] 100 = 0 := by
    unfold Cf.runE
    rw [if_pos Cf.reck_fault, if_pos (by decide), if_pos]
    simp [Cf.inB, Cf.wordB, hx.1, hx.2, hy.1, hy.2]
  obtain ⟨_, _, _, _, _, hr⟩ := runT_good _ _ _ _ he
  rw [hr, show (100 : Int).toNat = 100 from rfl, hp]
theorem zeros_T (l : List Cf.Ins) (hf : Cf.fault l = 0) (fuel : Int) (h : 0 ≤ fuel ∧ fuel ≤ 20000) : Cf.runT l [0, 0, 0, 0, 0, 0, 0, 0] [] fuel = ⟨(Cf.runM l fuel.toNat ⟨Cf.zeros, [], [], [], 0⟩).1, (Cf.runM l fuel.toNat ⟨Cf.zeros, [], [], [], 0⟩).2.regs, (Cf.runM l fuel.toNat ⟨Cf.zeros, [], [], [], 0⟩).2.told, (Cf.runM l fuel.toNat ⟨Cf.zeros, [], [], [], 0⟩).2.mem, 0⟩ := by
  have he : Cf.runE l [0, 0, 0, 0, 0, 0, 0, 0] [] fuel = 0 := by
    unfold Cf.runE
    rw [if_pos hf, if_pos (by decide), if_pos]
    simp [Cf.inB, Cf.wordB, h.1, h.2]
  exact (runT_good _ _ _ _ he).2.2.2.2.2
/-- A run leaves eight registers. -/
theorem runM_regs (l : List Cf.Ins) (hz : Cf.faultIn l = 0) (hl : l.length ≤ 200) : ∀ (n : Nat) (m : Cf.Mach), Cf.MOk m → Cf.MOk (Cf.runM l n m).2 := by
  intro n
  induction n with
  | zero => intro m hm; exact hm
  | succ n ih =>
    intro m hm
    rw [Cf.runM]
    cases hs : Cf.step l m with
    | on m' => exact ih m' (Cf.step_ok hz hl hm hs)
    | fin r m' => exact (step_end hl hm hs).1
/-- A run from nothing, its registers by name. -/
theorem zeros_8 (l : List Cf.Ins) (hf : Cf.fault l = 0) (fuel : Int) (h : 0 ≤ fuel ∧ fuel ≤ 20000) : ∃ s0 s1 s2 s3 s4 s5 s6 s7 told mem, Cf.runT l [0, 0, 0, 0, 0, 0, 0, 0] [] fuel = ⟨(Cf.runM l fuel.toNat ⟨Cf.zeros, [], [], [], 0⟩).1, [s0, s1, s2, s3, s4, s5, s6, s7], told, mem, 0⟩ ∧
    (Cf.runM l fuel.toNat ⟨Cf.zeros, [], [], [], 0⟩).2.regs = [s0, s1, s2, s3, s4, s5, s6, s7] := by
  have hz : Cf.faultIn l = 0 := by have := hf; unfold Cf.fault at this; rwa [if_neg (by have := Cf.fault_len l hf; omega)] at this
  have hm : Cf.MOk ⟨Cf.zeros, [], [], [], 0⟩ := ⟨rfl, by simp [Cf.zeros], by simp, by simp, by simp, by simp, by simp, by simp⟩
  have h8 := (runM_regs l hz (Cf.fault_len l hf) fuel.toNat _ hm).regs
  rw [zeros_T l hf fuel h]
  match hr : (Cf.runM l fuel.toNat ⟨Cf.zeros, [], [], [], 0⟩).2.regs, h8 with
  | [s0, s1, s2, s3, s4, s5, s6, s7], _ => exact ⟨s0, s1, s2, s3, s4, s5, s6, s7, _, _, rfl, rfl⟩
theorem cnt_T (k : Nat) (hk : k < 100) : ∃ s0 s2 s3 s4 s5 s6 s7 told mem, Cf.runT (Cf.cntL (1 + (k : Int))) [0, 0, 0, 0, 0, 0, 0, 0] [] (2 + 3 * (1 + (k : Int))) = ⟨1, [s0, 0, s2, s3, s4, s5, s6, s7], told, mem, 0⟩ := by
  obtain ⟨_, h1, h2⟩ := Cf.cnt_all k hk
  rw [show ((k + 1 : Nat) : Int) = 1 + (k : Int) by omega] at h1 h2
  obtain ⟨s0, s1, s2, s3, s4, s5, s6, s7, told, mem, hT, hr⟩ := zeros_8 (Cf.cntL (1 + (k : Int))) (Cf.cnt_fault _ (by omega)) (2 + 3 * (1 + (k : Int))) (by omega)
  rw [show (2 + 3 * (1 + (k : Int))).toNat = 5 + 3 * k by omega] at hT hr
  rw [hr] at h2
  rw [h1] at hT
  have h2' : s1 = 0 := h2
  exact ⟨s0, s2, s3, s4, s5, s6, s7, told, mem, by rw [hT, h2']⟩
theorem cnt_T2 (k : Nat) (hk : k < 100) (f : Int) (h0 : 0 ≤ f) (h1 : f < 2 + 3 * (1 + (k : Int))) : ∃ s0 s1 s2 s3 s4 s5 s6 s7 told mem, Cf.runT (Cf.cntL (1 + (k : Int))) [0, 0, 0, 0, 0, 0, 0, 0] [] f = ⟨2, [s0, s1, s2, s3, s4, s5, s6, s7], told, mem, 0⟩ := by
  obtain ⟨ho, _, _⟩ := Cf.cnt_all k hk
  have h2 := Cf.on_spent _ _ _ ho f.toNat (by omega)
  rw [show ((k + 1 : Nat) : Int) = 1 + (k : Int) by omega] at h2
  obtain ⟨s0, s1, s2, s3, s4, s5, s6, s7, told, mem, hT, _⟩ := zeros_8 (Cf.cntL (1 + (k : Int))) (Cf.cnt_fault _ (by omega)) f (by omega)
  rw [h2] at hT
  exact ⟨s0, s1, s2, s3, s4, s5, s6, s7, told, mem, hT⟩
theorem call_T (k : Nat) (hk : k < 32) : if 16 < 1 + (k : Int) then ∃ s0 s1 s2 s3 s4 s5 s6 s7 told mem, Cf.runT (Cf.callL (1 + (k : Int))) [0, 0, 0, 0, 0, 0, 0, 0] [] 2000 = ⟨4, [s0, s1, s2, s3, s4, s5, s6, s7], told, mem, 0⟩
    else ∃ s0 s3 s4 s5 s6 s7 told mem, Cf.runT (Cf.callL (1 + (k : Int))) [0, 0, 0, 0, 0, 0, 0, 0] [] 2000 = ⟨1, [s0, 0, 1 + (k : Int), s3, s4, s5, s6, s7], told, mem, 0⟩ := by
  have h := Cf.call_all k hk
  rw [show ((k + 1 : Nat) : Int) = 1 + (k : Int) by omega] at h
  obtain ⟨s0, s1, s2, s3, s4, s5, s6, s7, told, mem, hT, hr⟩ := zeros_8 (Cf.callL (1 + (k : Int))) (Cf.call_fault _ (by omega)) 2000 (by omega)
  rw [show (2000 : Int).toNat = 2000 from rfl] at hT hr
  by_cases h16 : 16 < k + 1
  · rw [if_pos h16] at h
    rw [if_pos (by omega)]
    rw [h] at hT
    exact ⟨s0, s1, s2, s3, s4, s5, s6, s7, told, mem, hT⟩
  · rw [if_neg h16] at h
    rw [if_neg (by omega)]
    obtain ⟨h1, h2, h3⟩ := h
    rw [hr] at h2 h3
    rw [h1] at hT
    have e2 : s2 = 1 + (k : Int) := h2
    have e1 : s1 = 0 := h3
    exact ⟨s0, s3, s4, s5, s6, s7, told, mem, by rw [hT, e1, e2]⟩
end Go.Proofs.YtnnhhbjbdmgpiaaGreatDoor
/- What a run answers has eight registers, and is not long. -/
namespace Go.Proofs.YtnnhhbjbdmgpiaaGreatDoor
set_option maxRecDepth 100000

theorem exec_mem (x : Cf.Ins) (m : Cf.Mach) : (Cf.exec x m).mach.mem.length = m.mem.length := by
  unfold Cf.exec
  repeat' split
  all_goals simp [Cf.Step.mach, Cf.Mach.setR]
theorem step_mem (l : List Cf.Ins) (m : Cf.Mach) : (Cf.step l m).mach.mem.length = m.mem.length := by
  unfold Cf.step
  split
  · rfl
  · rw [exec_mem]
theorem runM_mem (l : List Cf.Ins) : ∀ (n : Nat) (m : Cf.Mach), (Cf.runM l n m).2.mem.length = m.mem.length := by
  intro n
  induction n with
  | zero => intro m; rfl
  | succ n ih =>
    intro m
    have h := step_mem l m
    rw [Cf.runM]
    cases hs : Cf.step l m with
    | on m' => rw [hs] at h; exact (ih m').trans h
    | fin r m' => rw [hs] at h; exact h
theorem runT_8 (l : List Cf.Ins) (r0 r1 r2 r3 r4 r5 r6 r7 : Int) (mem : List Int) (fuel : Int) : ∃ z s0 s1 s2 s3 s4 s5 s6 s7 told mem' er, Cf.runT l [r0, r1, r2, r3, r4, r5, r6, r7] mem fuel = ⟨z, [s0, s1, s2, s3, s4, s5, s6, s7], told, mem', er⟩ ∧ told.length ≤ 100 ∧ mem'.length ≤ mem.length := by
  by_cases he : Cf.runE l [r0, r1, r2, r3, r4, r5, r6, r7] mem fuel = 0
  · obtain ⟨hf, _, hfu, hrw, hmw, hT⟩ := runT_good l _ mem fuel he
    have hz : Cf.faultIn l = 0 := by have := hf; unfold Cf.fault at this; rwa [if_neg (by have := Cf.fault_len l hf; omega)] at this
    have hm : Cf.MOk ⟨[r0, r1, r2, r3, r4, r5, r6, r7], mem, [], [], 0⟩ := ⟨rfl, hrw, hmw, by simp, by simp, by simp, by simp, by simp⟩
    have hk := runM_regs l hz (Cf.fault_len l hf) fuel.toNat _ hm
    have hml := runM_mem l fuel.toNat ⟨[r0, r1, r2, r3, r4, r5, r6, r7], mem, [], [], 0⟩
    rw [hT]
    have h8 := hk.regs
    have ht := hk.told
    match hr : (Cf.runM l fuel.toNat ⟨[r0, r1, r2, r3, r4, r5, r6, r7], mem, [], [], 0⟩).2.regs, h8 with
    | [s0, s1, s2, s3, s4, s5, s6, s7], _ => exact ⟨_, s0, s1, s2, s3, s4, s5, s6, s7, _, _, _, rfl, ht, by rw [hml]; exact Nat.le_refl _⟩
  · rw [runT_bad l _ mem fuel he]
    exact ⟨_, _, _, _, _, _, _, _, _, _, _, _, rfl, by simp, by simp⟩
end Go.Proofs.YtnnhhbjbdmgpiaaGreatDoor
/- Walks of the laws' own helpers: slices.Equal of two slices of numbers that read as one list; a number picked; the registers of a region. -/
namespace Go.Proofs.YtnnhhbjbdmgpiaaGreatDoor
set_option maxRecDepth 100000
open Go.RowKit

theorem Picked_any (n m : Int) (w : World) (hn : Fit n) (h0 : 0 < m) (h1 : m ≤ 1000000) :
    Calls Tryz.prog 34 #[.int .i64 n, .int .i64 m] w fun e w' => e = .returned (.int .i64 (Cf.pick n m)) ∧ w = w' := by
  go_enter Tryz.func34, Tryz.ntmps34
  go_wp2_with fail
  refine (picked_any n m _ hn h0 h1).mono ?_
  rintro e w' ⟨rfl, rfl⟩
  go_wp2
  go_ret
  exact ⟨rfl, rfl⟩
theorem enter_good (r x : Int) (w : World) (h0 : 0 ≤ r) (h1 : r ≤ 15) (h2 : 0 ≤ x) (h3 : x ≤ 65535) :
    Calls Tryz.prog 168 #[.int .i64 r, .int .i64 x] w fun e w' => e = .returned (.tuple #[.agg #[.int .i64 x, .int .i64 0, .int .i64 0, .int .i64 0, .int .i64 (64 * r), .int .i64 (64 * r), .int .i64 63, .int .i64 0], .int .i64 0]) ∧ Below w.heap.size w w' := by
  go_enter Tryz.func168, Tryz.ntmps168
  go_wp2
  exact bodyPost_ret (v := .tuple #[.agg #[.int .i64 x, .int .i64 0, .int .i64 0, .int .i64 0, .int .i64 (64 * r), .int .i64 (64 * r), .int .i64 63, .int .i64 0], .int .i64 0]) (by simp [results, Tryz.results168, go_sem, Int.mul_comm]) rfl ⟨rfl, (Below.refl _ _).alloc (Nat.le_refl _) _⟩
end Go.Proofs.YtnnhhbjbdmgpiaaGreatDoor
