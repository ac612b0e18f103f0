/- Walks of chapter 2: the reference's RunOf. -/
import Derived.Test.YtjmojbnjhcfdkaaDoorCpuN
namespace Go.Proofs.YtjmojbnjhcfdkaaDoor
open Go.RowKit

set_option maxRecDepth 100000 in
set_option maxHeartbeats 40000000 in
theorem runOf_any (l : List Cf.Ins) (A : Option Addr) (cl : Nat) (r0 r1 r2 r3 r4 r5 r6 r7 : Int) (mem : List Int) (M : Option Addr) (cm : Nat) (fuel : Int) (w : World)
    (hC : Codes w A l) (hl : l.length ≤ maxLen) (hI : Ints w M mem) (hm : mem.length ≤ maxLen) :
    Calls Tryd.prog 24 #[.slice A l.length cl, .agg #[.int .i64 r0, .int .i64 r1, .int .i64 r2, .int .i64 r3, .int .i64 r4, .int .i64 r5, .int .i64 r6, .int .i64 r7], .slice M mem.length cm, .int .i64 fuel] w
      (RunPost (Cf.runT l [r0, r1, r2, r3, r4, r5, r6, r7] mem fuel) w) := by
  have hm' := hm
  unfold maxLen at hm'
  obtain ⟨w2, hw2⟩ : ∃ w2 : World, w2 = (w.alloc (.cells #[.int .i64 r0, .int .i64 r1, .int .i64 r2, .int .i64 r3, .int .i64 r4, .int .i64 r5, .int .i64 r6, .int .i64 r7] 41)).alloc (.cells #[.int .i64 0, .int .i64 0, .int .i64 0, .int .i64 0, .int .i64 0, .int .i64 0, .int .i64 0, .int .i64 0, .int .i64 0, .slice none 0 0, .slice none 0 0] 44) := ⟨_, rfl⟩
  have hz2 : w2.heap.size = w.heap.size + 2 := by rw [hw2]; simp
  have hb2 : Below w.heap.size w w2 := by rw [hw2]; exact ((Below.refl _ _).alloc (Nat.le_refl _) _).alloc (by simp) _
  have k5 : Wb w2 w.heap.size 41 [.int .i64 r0, .int .i64 r1, .int .i64 r2, .int .i64 r3, .int .i64 r4, .int .i64 r5, .int .i64 r6, .int .i64 r7] := by rw [hw2]; exact (Wb.new w _ [_, _, _, _, _, _, _, _]).alloc _
  have k8 : Wb w2 (w.heap.size + 1) 44 [.int .i64 0, .int .i64 0, .int .i64 0, .int .i64 0, .int .i64 0, .int .i64 0, .int .i64 0, .int .i64 0, .int .i64 0, .slice none 0 0, .slice none 0 0] := by
    rw [hw2]
    have := Wb.new (w.alloc (.cells #[.int .i64 r0, .int .i64 r1, .int .i64 r2, .int .i64 r3, .int .i64 r4, .int .i64 r5, .int .i64 r6, .int .i64 r7] 41)) 44 [.int .i64 0, .int .i64 0, .int .i64 0, .int .i64 0, .int .i64 0, .int .i64 0, .int .i64 0, .int .i64 0, .int .i64 0, .slice none 0 0, .slice none 0 0]
    simpa using this
  have Hw2 := Lib.hid hw2
  have Hz2 := Lib.hid hz2
  have HCk := Lib.hid (codeFault_any l A cl w2 (hC.below hb2) hl)
  clear hw2 hz2
  by_cases hf : Cf.fault l = 0
  · rw [hf] at HCk
    by_cases hml : 1024 < mem.length
    · have HE : Cf.runE l [r0, r1, r2, r3, r4, r5, r6, r7] mem fuel = 1 := by unfold Cf.runE; rw [if_pos hf, if_neg (by omega)]
      have HR := Lib.hid (runT_bad l [r0, r1, r2, r3, r4, r5, r6, r7] mem fuel (by rw [HE]; decide))
      rw [HE] at HR
      clear HE hf
      go_enter Tryd.func24, Tryd.ntmps24
      go_wp2_with fail
      rw [← Hw2.out]
      refine HCk.out.mono ?_
      rintro e w3 ⟨rfl, hb3⟩
      have hb4 := hb2.trans (hb3.mono hb2.size)
      have hz3 : w.heap.size + 2 ≤ w3.heap.size := by have := hb3.size; rw [Hz2.out] at this; exact this
      have k8' := k8.below hb3 (by rw [Hz2.out]; omega)
      have q0 := k8'.cell 0
      have q1 := k8'.cell 1
      have q2 := k8'.cell 2
      have q3 := k8'.cell 3
      have q4 := k8'.cell 4
      have q5 := k8'.cell 5
      have q6 := k8'.cell 6
      have q7 := k8'.cell 7
      have q8 := k8'.cell 8
      have q9 := k8'.cell 9
      have q10 := k8'.cell 10
      simp only [List.getElem?_cons_zero, List.getElem?_cons_succ] at q0 q1 q2 q3 q4 q5 q6 q7 q8 q9 q10
      have qf := k8'.open_
      clear k5 k8 hb3 hb2 k8'
      go_wp2
      refine bodyPost_ret (v := .tuple #[.agg #[.int .i64 0, .int .i64 0, .int .i64 0, .int .i64 0, .int .i64 0, .int .i64 0, .int .i64 0, .int .i64 0, .int .i64 0, .slice none 0 0, .slice none 0 0], .int .i64 1]) (by simp [results, Tryd.results24, go_sem, q0, q1, q2, q3, q4, q5, q6, q7, q8, q9, q10]) rfl ?_
      rw [HR.out]
      refine ⟨none, none, 0, 0, rfl, .inl rfl, .inl rfl, ?_⟩
      iterate 11 refine Below.setCell ?_ (by simp) _
      exact hb4
    · cases hIn : Cf.inB fuel 0 20000
      · have HE : Cf.runE l [r0, r1, r2, r3, r4, r5, r6, r7] mem fuel = 2 := by unfold Cf.runE; rw [if_pos hf, if_pos (by omega), hIn]; simp
        have HR := Lib.hid (runT_bad l [r0, r1, r2, r3, r4, r5, r6, r7] mem fuel (by rw [HE]; decide))
        rw [HE] at HR
        clear HE hf
        go_enter Tryd.func24, Tryd.ntmps24
        go_wp2_with fail
        rw [← Hw2.out]
        refine HCk.out.mono ?_
        rintro e w3 ⟨rfl, hb3⟩
        have hb4 := hb2.trans (hb3.mono hb2.size)
        have hz3 : w.heap.size + 2 ≤ w3.heap.size := by have := hb3.size; rw [Hz2.out] at this; exact this
        have k8' := k8.below hb3 (by rw [Hz2.out]; omega)
        have q0 := k8'.cell 0
        have q1 := k8'.cell 1
        have q2 := k8'.cell 2
        have q3 := k8'.cell 3
        have q4 := k8'.cell 4
        have q5 := k8'.cell 5
        have q6 := k8'.cell 6
        have q7 := k8'.cell 7
        have q8 := k8'.cell 8
        have q9 := k8'.cell 9
        have q10 := k8'.cell 10
        simp only [List.getElem?_cons_zero, List.getElem?_cons_succ] at q0 q1 q2 q3 q4 q5 q6 q7 q8 q9 q10
        have qf := k8'.open_
        clear k5 k8 hb3 hb2 k8'
        go_wp2_with fail
        refine (in_any fuel 0 20000 _).mono ?_
        rintro e w' ⟨rfl, rfl⟩
        rw [hIn]
        go_wp2
        refine bodyPost_ret (v := .tuple #[.agg #[.int .i64 0, .int .i64 0, .int .i64 0, .int .i64 0, .int .i64 0, .int .i64 0, .int .i64 0, .int .i64 0, .int .i64 0, .slice none 0 0, .slice none 0 0], .int .i64 2]) (by simp [results, Tryd.results24, go_sem, q0, q1, q2, q3, q4, q5, q6, q7, q8, q9, q10]) rfl ?_
        rw [HR.out]
        refine ⟨none, none, 0, 0, rfl, .inl rfl, .inl rfl, ?_⟩
        iterate 11 refine Below.setCell ?_ (by simp) _
        exact hb4
      · cases hr : [r0, r1, r2, r3, r4, r5, r6, r7].all Cf.wordB
        · have HE : Cf.runE l [r0, r1, r2, r3, r4, r5, r6, r7] mem fuel = 2 := by unfold Cf.runE; rw [if_pos hf, if_pos (by omega), hIn, hr]; simp
          have HR := Lib.hid (runT_bad l [r0, r1, r2, r3, r4, r5, r6, r7] mem fuel (by rw [HE]; decide))
          rw [HE] at HR
          have Hr := Lib.hid hr
          clear HE hf hr
          go_enter Tryd.func24, Tryd.ntmps24
          go_wp2_with fail
          rw [← Hw2.out]
          refine HCk.out.mono ?_
          rintro e w3 ⟨rfl, hb3⟩
          have hb4 := hb2.trans (hb3.mono hb2.size)
          have hz3 : w.heap.size + 2 ≤ w3.heap.size := by have := hb3.size; rw [Hz2.out] at this; exact this
          have k8' := k8.below hb3 (by rw [Hz2.out]; omega)
          have q0 := k8'.cell 0
          have q1 := k8'.cell 1
          have q2 := k8'.cell 2
          have q3 := k8'.cell 3
          have q4 := k8'.cell 4
          have q5 := k8'.cell 5
          have q6 := k8'.cell 6
          have q7 := k8'.cell 7
          have q8 := k8'.cell 8
          have q9 := k8'.cell 9
          have q10 := k8'.cell 10
          simp only [List.getElem?_cons_zero, List.getElem?_cons_succ] at q0 q1 q2 q3 q4 q5 q6 q7 q8 q9 q10
          have qf := k8'.open_
          have k5' := k5.below hb3 (by rw [Hz2.out]; omega)
          have HA8 := Lib.hid (allWords_any [r0, r1, r2, r3, r4, r5, r6, r7] (some ⟨w.heap.size, 0, none⟩) 8 w3 (Wb.ints (l := [r0, r1, r2, r3, r4, r5, r6, r7]) k5') (by unfold maxLen; simp))
          rw [Hr.out] at HA8
          clear k5 k8 hb3 hb2 k8' k5'
          go_wp2_with fail
          refine (in_any fuel 0 20000 _).mono ?_
          rintro e w' ⟨rfl, rfl⟩
          rw [hIn]
          go_wp2_with fail
          refine HA8.out.mono ?_
          rintro e w' ⟨rfl, rfl⟩
          go_wp2
          refine bodyPost_ret (v := .tuple #[.agg #[.int .i64 0, .int .i64 0, .int .i64 0, .int .i64 0, .int .i64 0, .int .i64 0, .int .i64 0, .int .i64 0, .int .i64 0, .slice none 0 0, .slice none 0 0], .int .i64 2]) (by simp [results, Tryd.results24, go_sem, q0, q1, q2, q3, q4, q5, q6, q7, q8, q9, q10]) rfl ?_
          rw [HR.out]
          refine ⟨none, none, 0, 0, rfl, .inl rfl, .inl rfl, ?_⟩
          iterate 11 refine Below.setCell ?_ (by simp) _
          exact hb4
        · cases hma : mem.all Cf.wordB
          · have HE : Cf.runE l [r0, r1, r2, r3, r4, r5, r6, r7] mem fuel = 2 := by unfold Cf.runE; rw [if_pos hf, if_pos (by omega), hIn, hr, hma]; simp
            have HR := Lib.hid (runT_bad l [r0, r1, r2, r3, r4, r5, r6, r7] mem fuel (by rw [HE]; decide))
            rw [HE] at HR
            have Hr := Lib.hid hr
            have Hma := Lib.hid hma
            clear HE hf hr hma
            go_enter Tryd.func24, Tryd.ntmps24
            go_wp2_with fail
            rw [← Hw2.out]
            refine HCk.out.mono ?_
            rintro e w3 ⟨rfl, hb3⟩
            have hb4 := hb2.trans (hb3.mono hb2.size)
            have hz3 : w.heap.size + 2 ≤ w3.heap.size := by have := hb3.size; rw [Hz2.out] at this; exact this
            have k8' := k8.below hb3 (by rw [Hz2.out]; omega)
            have q0 := k8'.cell 0
            have q1 := k8'.cell 1
            have q2 := k8'.cell 2
            have q3 := k8'.cell 3
            have q4 := k8'.cell 4
            have q5 := k8'.cell 5
            have q6 := k8'.cell 6
            have q7 := k8'.cell 7
            have q8 := k8'.cell 8
            have q9 := k8'.cell 9
            have q10 := k8'.cell 10
            simp only [List.getElem?_cons_zero, List.getElem?_cons_succ] at q0 q1 q2 q3 q4 q5 q6 q7 q8 q9 q10
            have qf := k8'.open_
            have k5' := k5.below hb3 (by rw [Hz2.out]; omega)
            have HA8 := Lib.hid (allWords_any [r0, r1, r2, r3, r4, r5, r6, r7] (some ⟨w.heap.size, 0, none⟩) 8 w3 (Wb.ints (l := [r0, r1, r2, r3, r4, r5, r6, r7]) k5') (by unfold maxLen; simp))
            have HAm := Lib.hid (allWords_any mem M cm w3 (hI.below hb4) hm)
            rw [Hr.out] at HA8
            rw [Hma.out] at HAm
            clear k5 k8 hb3 hb2 k8' k5'
            go_wp2_with fail
            refine (in_any fuel 0 20000 _).mono ?_
            rintro e w' ⟨rfl, rfl⟩
            rw [hIn]
            go_wp2_with fail
            refine HA8.out.mono ?_
            rintro e w' ⟨rfl, rfl⟩
            go_wp2_with fail
            refine HAm.out.mono ?_
            rintro e w' ⟨rfl, rfl⟩
            go_wp2
            refine bodyPost_ret (v := .tuple #[.agg #[.int .i64 0, .int .i64 0, .int .i64 0, .int .i64 0, .int .i64 0, .int .i64 0, .int .i64 0, .int .i64 0, .int .i64 0, .slice none 0 0, .slice none 0 0], .int .i64 2]) (by simp [results, Tryd.results24, go_sem, q0, q1, q2, q3, q4, q5, q6, q7, q8, q9, q10]) rfl ?_
            rw [HR.out]
            refine ⟨none, none, 0, 0, rfl, .inl rfl, .inl rfl, ?_⟩
            iterate 11 refine Below.setCell ?_ (by simp) _
            exact hb4
          · exact runOf_good l A cl r0 r1 r2 r3 r4 r5 r6 r7 mem M cm fuel w hC hl hI hm hf hml hIn hr hma
  · have HE : Cf.runE l [r0, r1, r2, r3, r4, r5, r6, r7] mem fuel = Cf.fault l := by unfold Cf.runE; rw [if_neg hf]
    have HR := Lib.hid (runT_bad l [r0, r1, r2, r3, r4, r5, r6, r7] mem fuel (by rw [HE]; exact hf))
    rw [HE] at HR
    have hq : (Cf.fault l == 0) = false := by rw [beq_eq_false_iff_ne]; exact hf
    have hq' : (Cf.fault l != 0) = true := by rw [bne_iff_ne]; exact hf
    clear HE hf
    generalize Cf.fault l = er at *
    go_enter Tryd.func24, Tryd.ntmps24
    go_wp2_with fail
    rw [← Hw2.out]
    refine HCk.out.mono ?_
    rintro e w3 ⟨rfl, hb3⟩
    have hb4 := hb2.trans (hb3.mono hb2.size)
    have hz3 : w.heap.size + 2 ≤ w3.heap.size := by have := hb3.size; rw [Hz2.out] at this; exact this
    have k8' := k8.below hb3 (by rw [Hz2.out]; omega)
    have q0 := k8'.cell 0
    have q1 := k8'.cell 1
    have q2 := k8'.cell 2
    have q3 := k8'.cell 3
    have q4 := k8'.cell 4
    have q5 := k8'.cell 5
    have q6 := k8'.cell 6
    have q7 := k8'.cell 7
    have q8 := k8'.cell 8
    have q9 := k8'.cell 9
    have q10 := k8'.cell 10
    simp only [List.getElem?_cons_zero, List.getElem?_cons_succ] at q0 q1 q2 q3 q4 q5 q6 q7 q8 q9 q10
    have qf := k8'.open_
    clear k5 k8 hb3 hb2 k8'
    go_wp2
    refine bodyPost_ret (v := .tuple #[.agg #[.int .i64 0, .int .i64 0, .int .i64 0, .int .i64 0, .int .i64 0, .int .i64 0, .int .i64 0, .int .i64 0, .int .i64 0, .slice none 0 0, .slice none 0 0], .int .i64 er]) (by simp [results, Tryd.results24, go_sem, q0, q1, q2, q3, q4, q5, q6, q7, q8, q9, q10]) rfl ?_
    rw [HR.out]
    refine ⟨none, none, 0, 0, rfl, .inl rfl, .inl rfl, ?_⟩
    iterate 11 refine Below.setCell ?_ (by simp) _
    exact hb4
end Go.Proofs.YtjmojbnjhcfdkaaDoor
