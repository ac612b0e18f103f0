/- Texts of the proofs: CpuO, CpuQ, EqI. -/
import Derived.Test.YtnnhhbjbdmgpiaaGreatDoorJ16
import Derived.Test.YtnnhhbjbdmgpiaaGreatDoorJ01
import Derived.Test.YtnnhhbjbdmgpiaaGreatDoorJ15
import Derived.Test.YtnnhhbjbdmgpiaaGreatDoorJ13
import Derived.Test.YtnnhhbjbdmgpiaaGreatDoorJ05
set_option linter.unusedSimpArgs false
set_option linter.unusedVariables false
/- What the laws of chapter 2 need besides: literal code, opened arguments, the answers of three programs. -/
namespace Go.Proofs.YtnnhhbjbdmgpiaaGreatDoor
set_option maxRecDepth 100000
open Go.RowKit
theorem runM_regs (l : List Cf.Ins) (hz : Cf.faultIn l = 0) (hl : l.length ≤ 200) : ∀ (n : Nat) (m : Cf.Mach), Cf.MOk m → Cf.MOk (Cf.runM l n m).2 := by
 intro n
 induction n with
 | zero => intro m hm; exact hm
 | succ n ih =>
   intro m hm
   rw [Cf.runM]
   cases hs : Cf.step l m with
   | on m' => exact ih m' (Cf.step_ok hz hl hm hs)
   | fin r m' => exact (step_end hl hm hs).1
end Go.Proofs.YtnnhhbjbdmgpiaaGreatDoor
/- What a run answers has eight registers, and is not long. -/
namespace Go.Proofs.YtnnhhbjbdmgpiaaGreatDoor
set_option maxRecDepth 100000
theorem exec_mem (x : Cf.Ins) (m : Cf.Mach) : (Cf.exec x m).mach.mem.length = m.mem.length := by
 unfold Cf.exec
 repeat' split
 all_goals simp [Cf.Step.mach, Cf.Mach.setR]
theorem step_mem (l : List Cf.Ins) (m : Cf.Mach) : (Cf.step l m).mach.mem.length = m.mem.length := by
 unfold Cf.step
 split
 ·rfl
 ·rw [exec_mem]
theorem runM_mem (l : List Cf.Ins) : ∀ (n : Nat) (m : Cf.Mach), (Cf.runM l n m).2.mem.length = m.mem.length := by
 intro n
 induction n with
 | zero => intro m; rfl
 | succ n ih =>
   intro m
   have h := step_mem l m
   rw [Cf.runM]
   cases hs : Cf.step l m with
   | on m' => rw [hs] at h; exact (ih m').trans h
   | fin r m' => rw [hs] at h; exact h
theorem runT_8 (l : List Cf.Ins) (r0 r1 r2 r3 r4 r5 r6 r7 : Int) (mem : List Int) (fuel : Int) : ∃ z s0 s1 s2 s3 s4 s5 s6 s7 told mem' er, Cf.runT l [r0, r1, r2, r3, r4, r5, r6, r7] mem fuel = ⟨z, [s0, s1, s2, s3, s4, s5, s6, s7], told, mem', er⟩ ∧ told.length ≤ 100 ∧ mem'.length ≤ mem.length := by
 by_cases he : Cf.runE l [r0, r1, r2, r3, r4, r5, r6, r7] mem fuel = 0
 ·obtain ⟨hf, _, hfu, hrw, hmw, hT⟩ := runT_good l _ mem fuel he
  have hz : Cf.faultIn l = 0 := by have := hf; unfold Cf.fault at this; rwa [if_neg (by have := Cf.fault_len l hf; omega)] at this
  have hm : Cf.MOk ⟨[r0, r1, r2, r3, r4, r5, r6, r7], mem, [], [], 0⟩ := ⟨rfl, hrw, hmw, by simp, by simp, by simp, by simp, by simp⟩
  have hk := runM_regs l hz (Cf.fault_len l hf) fuel.toNat _ hm
  have hml := runM_mem l fuel.toNat ⟨[r0, r1, r2, r3, r4, r5, r6, r7], mem, [], [], 0⟩
  rw [hT]
  have h8 := hk.regs
  have ht := hk.told
  match hr : (Cf.runM l fuel.toNat ⟨[r0, r1, r2, r3, r4, r5, r6, r7], mem, [], [], 0⟩).2.regs, h8 with
  | [s0, s1, s2, s3, s4, s5, s6, s7], _ => exact ⟨_, s0, s1, s2, s3, s4, s5, s6, s7, _, _, _, rfl, ht, by rw [hml]; exact Nat.le_refl _⟩
 ·rw [runT_bad l _ mem fuel he]
  exact ⟨_, _, _, _, _, _, _, _, _, _, _, _, rfl, by simp, by simp⟩
end Go.Proofs.YtnnhhbjbdmgpiaaGreatDoor
/- Walks of the laws' own helpers: slices.Equal of two slices of numbers that read as one list; a number picked; the registers of a region. -/
namespace Go.Proofs.YtnnhhbjbdmgpiaaGreatDoor
set_option maxRecDepth 100000
open Go.RowKit
end Go.Proofs.YtnnhhbjbdmgpiaaGreatDoor
