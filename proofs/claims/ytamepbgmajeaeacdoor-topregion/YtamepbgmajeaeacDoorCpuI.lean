/- Walks of chapter 2: the program's check of a run's arguments. -/
import Derived.Test.YtamepbgmajeaeacDoorCpuH
namespace Go.Proofs.YtamepbgmajeaeacDoor
open Go.RowKit

/-- Which error a run has. -/
def Cf.runE (l : List Cf.Ins) (regs mem : List Int) (fuel : Int) : Int :=
  if Cf.fault l = 0 then (if mem.length ≤ 1024 then (if Cf.inB fuel 0 20000 && (regs.all Cf.wordB && mem.all Cf.wordB) then 0 else 2) else 1) else Cf.fault l
set_option maxRecDepth 100000 in
set_option maxHeartbeats 2000000 in
theorem check_run (l : List Cf.Ins) (A : Option Addr) (cl : Nat) (r0 r1 r2 r3 r4 r5 r6 r7 : Int) (mem : List Int) (M : Option Addr) (cm : Nat) (fuel : Int) (w : World)
    (hC : Codes w A l) (hL : TabL w) (hF : TabF w) (hl : l.length ≤ maxLen) (hI : Ints w M mem) (hm : mem.length ≤ maxLen) :
    Calls Tryd.prog 17 #[.slice A l.length cl, .agg #[.int .i64 r0, .int .i64 r1, .int .i64 r2, .int .i64 r3, .int .i64 r4, .int .i64 r5, .int .i64 r6, .int .i64 r7], .slice M mem.length cm, .int .i64 fuel] w
      fun e w' => e = .returned (.int .i64 (Cf.runE l [r0, r1, r2, r3, r4, r5, r6, r7] mem fuel)) ∧ Below w.heap.size w w' := by
  have hm' := hm
  unfold maxLen at hm'
  obtain ⟨o, ho⟩ : ∃ o : Obj, o = .cells #[.int .i64 r0, .int .i64 r1, .int .i64 r2, .int .i64 r3, .int .i64 r4, .int .i64 r5, .int .i64 r6, .int .i64 r7] 29 := ⟨_, rfl⟩
  have hb1 : Below w.heap.size w (w.alloc o) := (Below.refl _ _).alloc (Nat.le_refl _) _
  have hwr : Wb (w.alloc o) w.heap.size 29 ([r0, r1, r2, r3, r4, r5, r6, r7].map (Value.int .i64)) := by
    rw [ho]
    exact Wb.new w 29 ([r0, r1, r2, r3, r4, r5, r6, r7].map (Value.int .i64))
  have HCk := Lib.hid (check_any l A cl (w.alloc o) (hC.below hb1) (hL.below hb1) (hF.below hb1) hl)
  have hz1 : w.heap.size < (w.alloc o).heap.size := by simp
  have Ho := Lib.hid ho
  clear ho
  by_cases hf : Cf.fault l = 0
  · rw [hf] at HCk
    by_cases hml : 1024 < mem.length
    · have HE := Lib.hid (show Cf.runE l [r0, r1, r2, r3, r4, r5, r6, r7] mem fuel = 1 by unfold Cf.runE; rw [if_pos hf, if_neg (by omega)])
      clear hf
      go_enter Tryd.func17, Tryd.ntmps17
      go_wp2_with fail
      rw [← Ho.out]
      refine HCk.out.mono ?_
      rintro e w1 ⟨rfl, hb2⟩
      have hb3 := hb1.trans (hb2.mono (by simp))
      clear hb1 hb2 hwr
      go_wp2
      go_ret
      exact ⟨by rw [HE.out]; rfl, hb3⟩
    · by_cases hfu : fuel < 0 ∨ 20000 < fuel
      · have HE := Lib.hid (show Cf.runE l [r0, r1, r2, r3, r4, r5, r6, r7] mem fuel = 2 by unfold Cf.runE; rw [if_pos hf, if_pos (by omega), if_neg]; simp [Cf.inB]; omega)
        clear hf
        rcases hfu with hfu | hfu
        · go_enter Tryd.func17, Tryd.ntmps17
          go_wp2_with fail
          rw [← Ho.out]
          refine HCk.out.mono ?_
          rintro e w1 ⟨rfl, hb2⟩
          have hb3 := hb1.trans (hb2.mono (by simp))
          clear hb1 hb2 hwr
          go_wp2
          go_ret
          exact ⟨by rw [HE.out]; rfl, hb3⟩
        · have hfu' : ¬ fuel < 0 := by omega
          go_enter Tryd.func17, Tryd.ntmps17
          go_wp2_with fail
          rw [← Ho.out]
          refine HCk.out.mono ?_
          rintro e w1 ⟨rfl, hb2⟩
          have hb3 := hb1.trans (hb2.mono (by simp))
          clear hb1 hb2 hwr
          go_wp2
          go_ret
          exact ⟨by rw [HE.out]; rfl, hb3⟩
      · have hfu1 : ¬ fuel < 0 := by omega
        have hfu2 : ¬ 20000 < fuel := by omega
        have hIn : Cf.inB fuel 0 20000 = true := by simp [Cf.inB]; omega
        clear hfu
        cases hr : [r0, r1, r2, r3, r4, r5, r6, r7].all Cf.wordB
        · have HE := Lib.hid (show Cf.runE l [r0, r1, r2, r3, r4, r5, r6, r7] mem fuel = 2 by unfold Cf.runE; rw [if_pos hf, if_pos (by omega), if_neg]; rw [hr]; simp)
          have Hr := Lib.hid hr
          clear hf hIn hr
          go_enter Tryd.func17, Tryd.ntmps17
          go_wp2_with fail
          rw [← Ho.out]
          refine HCk.out.mono ?_
          rintro e w1 ⟨rfl, hb2⟩
          have hb3 := hb1.trans (hb2.mono (by simp))
          have hwr1 := hwr.below hb2 hz1
          have hI8 : Ints w1 (some ⟨w.heap.size, 0, none⟩) [r0, r1, r2, r3, r4, r5, r6, r7] := hwr1.ints
          have HC := Lib.hid (containsFunc_any _ _ 8 w1 hI8 (by unfold maxLen; simp))
          rw [Hr.out] at HC
          clear hb1 hb2 hwr hwr1 hI8
          go_wp2_with fail
          refine HC.out.mono ?_
          rintro e w2 ⟨rfl, rfl⟩
          go_wp2
          go_ret
          exact ⟨by rw [HE.out]; rfl, hb3⟩
        · have HE := Lib.hid (show Cf.runE l [r0, r1, r2, r3, r4, r5, r6, r7] mem fuel = if mem.all Cf.wordB = true then 0 else 2 by unfold Cf.runE; rw [if_pos hf, if_pos (by omega), hr, hIn]; rfl)
          have Hr := Lib.hid hr
          clear hf hIn hr
          go_enter Tryd.func17, Tryd.ntmps17
          go_wp2_with fail
          rw [← Ho.out]
          refine HCk.out.mono ?_
          rintro e w1 ⟨rfl, hb2⟩
          have hb3 := hb1.trans (hb2.mono (by simp))
          have hwr1 := hwr.below hb2 hz1
          have hI8 : Ints w1 (some ⟨w.heap.size, 0, none⟩) [r0, r1, r2, r3, r4, r5, r6, r7] := hwr1.ints
          have HC := Lib.hid (containsFunc_any _ _ 8 w1 hI8 (by unfold maxLen; simp))
          have HD := Lib.hid (containsFunc_any mem M cm w1 (hI.below hb3) hm)
          rw [Hr.out] at HC
          clear hb1 hb2 hwr hwr1 hI8
          go_wp2_with fail
          refine HC.out.mono ?_
          rintro e w2 ⟨rfl, rfl⟩
          go_wp2_with fail
          refine HD.out.mono ?_
          rintro e w2 ⟨rfl, rfl⟩
          cases hma : mem.all Cf.wordB
          · have HE2 := Lib.hid (show Cf.runE l [r0, r1, r2, r3, r4, r5, r6, r7] mem fuel = 2 by rw [HE.out, hma]; rfl)
            clear HC HD
            go_wp2
            go_ret
            exact ⟨by rw [HE2.out]; rfl, hb3⟩
          · have HE2 := Lib.hid (show Cf.runE l [r0, r1, r2, r3, r4, r5, r6, r7] mem fuel = 0 by rw [HE.out, hma]; rfl)
            clear HC HD
            go_wp2
            go_ret
            exact ⟨by rw [HE2.out]; rfl, hb3⟩
  · have HE := Lib.hid (show Cf.runE l [r0, r1, r2, r3, r4, r5, r6, r7] mem fuel = Cf.fault l by unfold Cf.runE; rw [if_neg hf])
    have hq : (Cf.fault l != 0) = true := by rw [bne_iff_ne]; exact hf
    clear hf
    go_enter Tryd.func17, Tryd.ntmps17
    go_wp2_with fail
    rw [← Ho.out]
    refine HCk.out.mono ?_
    rintro e w1 ⟨rfl, hb2⟩
    have hb3 := hb1.trans (hb2.mono (by simp))
    clear hb1 hb2 hwr
    go_wp2
    go_ret
    exact ⟨by rw [HE.out]; rfl, hb3⟩
end Go.Proofs.YtamepbgmajeaeacDoor
