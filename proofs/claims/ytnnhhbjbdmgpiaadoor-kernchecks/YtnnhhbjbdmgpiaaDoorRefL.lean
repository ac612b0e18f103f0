/- Walks of chapter 5: the reference's endMay and nodeMay. -/
import Derived.Test.YtnnhhbjbdmgpiaaDoorRefK
import Derived.Test.YtnnhhbjbdmgpiaaDoorStepK
namespace Go.Proofs.YtnnhhbjbdmgpiaaDoor
set_option maxRecDepth 100000
open Go.RowKit

theorem Cf.within_in (v : Int) (n : Nat) : Cf.withinB v (n + 1) = Cf.inB v 0 n := by
  rw [Bool.eq_iff_iff]
  simp [Cf.withinB, Cf.inB]
  omega
set_option maxHeartbeats 2000000 in
theorem endMay_any (k : Cf.Kern) (a : KA) (x : Cf.End) (w : World) (hR : KRd w a k) (h8 : k.nodes.length = 8) (h6 : k.pipes.length = 6) :
    Calls Tryd.prog 16 #[.agg (kcells a k).toArray, .agg (encEn x).toArray] w fun e w' => e = .returned (.bool (Cf.endB k x)) ∧ Below w.heap.size w w' := by
  obtain ⟨kd, nd, po⟩ := x
  obtain ⟨A, ca, M, cm, N, cn, S, cs, Q, cq⟩ := a
  have hb0 : ∀ o o' : Obj, Below w.heap.size w ((w.alloc o).alloc o') := fun o o' => ((Below.refl _ _).alloc (Nat.le_refl _) o).alloc (by simp) o'
  have HW := Lib.hid (fun v lo hi W => in_any v lo hi W)
  rcases hR.nodes with h | ⟨b, off, hA, hb, hc⟩
  · rw [h] at h8; simp at h8
  simp only at hA
  subst hA
  have HC := Lib.hid hc
  simp only [kcells, encEn, h8, h6]
  clear hR hc
  by_cases h0 : kd = 0
  · have HZ := Lib.hid (show Cf.endB k ⟨kd, nd, po⟩ = (decide (nd = 0) && decide (po = 0)) by
      unfold Cf.endB
      rw [if_neg (by show ¬ kd = 1; omega), if_neg (by show ¬ (kd = 2 ∨ kd = 3); omega)]
      simp [Cf.noEnd, h0])
    rw [HZ.out]
    subst h0
    by_cases hn : nd = 0
    · subst hn
      go_enter Tryd.func16, Tryd.ntmps16
      go_wp2
      go_ret
      exact ⟨retB (by rw [Bool.eq_iff_iff]; simp), hb0 _ _⟩
    · go_enter Tryd.func16, Tryd.ntmps16
      go_wp2
      go_ret
      exact ⟨retB (by simp [hn]), hb0 _ _⟩
  · by_cases h1 : kd = 1
    · have HZ := Lib.hid (show Cf.endB k ⟨kd, nd, po⟩ = (Cf.inB nd 0 7 && (Cf.fullAt k.nodes nd && Cf.inB po 0 100)) by
        unfold Cf.endB
        rw [if_pos h1, h8, Cf.within_in nd 7, Cf.within_in po 100]
        rfl)
      rw [HZ.out]
      subst h1
      cases hw : Cf.inB nd 0 7
      · have HW1 := Lib.hid (fun W => HW.out nd 0 7 W)
        rw [hw] at HW1
        clear hw HZ HW
        go_enter Tryd.func16, Tryd.ntmps16
        go_wp2_with fail
        refine (HW1.out _).mono ?_
        rintro e w' ⟨rfl, rfl⟩
        go_wp2
        go_ret
        exact ⟨rfl, hb0 _ _⟩
      · have HW1 := Lib.hid (fun W => HW.out nd 0 7 W)
        rw [hw] at HW1
        have HW2 := Lib.hid (fun W => HW.out po 0 100 W)
        obtain ⟨hw0, hw1⟩ : 0 ≤ nd ∧ nd ≤ 7 := by simpa [Cf.inB] using hw
        obtain ⟨m, rfl⟩ : ∃ m : Nat, nd = m := ⟨nd.toNat, by omega⟩
        obtain ⟨n, hx⟩ : ∃ n, k.nodes[m]? = some n := ⟨_, List.getElem?_eq_getElem (by omega)⟩
        have HU := Lib.hid (show Cf.fullAt k.nodes (m : Int) = !decide (n.kind = 0) by unfold Cf.fullAt; rw [Int.toNat_natCast, hx]; rfl)
        rw [HU.out]
        have r1 : ∀ o o' : Obj, ((w.alloc o).alloc o').cell? ⟨b, off + m * 4 + 1, none⟩ = some (.int .i64 n.kind) := fun o o' => ((hb0 o o').cell (p := ⟨b, off + m * 4 + 1, none⟩) hb).trans (HC.out m n hx 1 _ rfl)
        clear hw HZ HU hx HW HC
        generalize n.kind = nk at *
        generalize Cf.inB po 0 100 = q at *
        by_cases hk : nk = 0
        · subst hk
          go_enter Tryd.func16, Tryd.ntmps16
          go_wp2_with fail
          refine (HW1.out _).mono ?_
          rintro e w' ⟨rfl, rfl⟩
          go_wp2
          go_ret
          exact ⟨rfl, hb0 _ _⟩
        · go_enter Tryd.func16, Tryd.ntmps16
          go_wp2_with fail
          refine (HW1.out _).mono ?_
          rintro e w' ⟨rfl, rfl⟩
          go_wp2_with fail
          refine (HW2.out _).mono ?_
          rintro e w' ⟨rfl, rfl⟩
          go_wp2
          go_ret
          exact ⟨retB (by simp [hk]), hb0 _ _⟩
    · by_cases h2 : kd = 2 ∨ kd = 3
      · have HZ := Lib.hid (show Cf.endB k ⟨kd, nd, po⟩ = (Cf.inB nd 0 5 && decide (po = 0)) by
          unfold Cf.endB
          rw [if_neg (by show ¬ kd = 1; omega), if_pos h2, h6, Cf.within_in nd 5]
          rfl)
        rw [HZ.out]
        clear HZ h0 h1
        have HW1 := Lib.hid (fun W => HW.out nd 0 5 W)
        generalize Cf.inB nd 0 5 = q at *
        have key : ∀ kk : Int, kk = 2 ∨ kk = 3 → kd = kk → Calls Tryd.prog 16 #[.agg #[.slice A k.mods.length ca, .slice M k.mem.length cm, .slice (some ⟨b, off, none⟩) 8 cn, .slice S 6 cs, .slice Q k.procs.length cq], .agg #[.int .i64 kd, .int .i64 nd, .int .i64 po]] w fun e w' => e = .returned (.bool (q && decide (po = 0))) ∧ Below w.heap.size w w' := by
          rintro kk (rfl | rfl) rfl
          all_goals
            clear h2 HW
            cases q
            · go_enter Tryd.func16, Tryd.ntmps16
              go_wp2_with fail
              refine (HW1.out _).mono ?_
              rintro e w' ⟨rfl, rfl⟩
              go_wp2
              go_ret
              exact ⟨rfl, hb0 _ _⟩
            · go_enter Tryd.func16, Tryd.ntmps16
              go_wp2_with fail
              refine (HW1.out _).mono ?_
              rintro e w' ⟨rfl, rfl⟩
              go_wp2
              go_ret
              exact ⟨retB (by rw [Bool.true_and, Bool.eq_iff_iff]; simp), hb0 _ _⟩
        exact key kd h2 rfl
      · have HZ := Lib.hid (show Cf.endB k ⟨kd, nd, po⟩ = false by
          unfold Cf.endB
          rw [if_neg (by show ¬ kd = 1; omega), if_neg h2]
          simp [Cf.noEnd, h0])
        rw [HZ.out]
        have h3 : ¬ kd = 2 := fun h => h2 (.inl h)
        have h4 : ¬ kd = 3 := fun h => h2 (.inr h)
        clear h2 HZ
        go_enter Tryd.func16, Tryd.ntmps16
        go_wp2
        go_ret
        exact ⟨rfl, hb0 _ _⟩
end Go.Proofs.YtnnhhbjbdmgpiaaDoor
