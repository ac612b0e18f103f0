/- Walks of chapter 5: the program's Check of descriptors, and Check whole. -/
import Derived.Test.YtnnhhbjbdmgpiaaDoorChkV
namespace Go.Proofs.YtnnhhbjbdmgpiaaDoor
set_option maxRecDepth 100000
open Go.RowKit

set_option maxHeartbeats 2000000 in
theorem validEnd_any (k : Cf.Kern) (a : KA) (g : Nat) (x : Cf.End) (w : World) (hP : KPtr w g a k) (hf : KFit k) :
    Calls Tryd.prog 25 #[.pointer (some ⟨g, 0, none⟩), .agg (encEn x).toArray] w fun e w' => e = .returned (.bool (Cf.endB k x)) ∧ Below w.heap.size w w' := by
  have hl := hP.1.lt
  have hb0 : ∀ o : Obj, Below w.heap.size w (w.alloc o) := fun o => (Below.refl _ _).alloc (Nat.le_refl _) _
  have c2 : ∀ o : Obj, (w.alloc o).cell? ⟨g, 2, none⟩ = some (.slice a.N k.nodes.length a.cn) := fun o => ((hb0 o).cell (p := ⟨g, 2, none⟩) hl).trans hP.c2
  have c3 : ∀ o : Obj, (w.alloc o).cell? ⟨g, 3, none⟩ = some (.slice a.S k.pipes.length a.cs) := fun o => ((hb0 o).cell (p := ⟨g, 3, none⟩) hl).trans hP.c3
  have hml := le_maxLen hf.nodes
  unfold maxLen at hml
  have HP := Lib.hid hP
  clear hP hf
  obtain ⟨kd, nd, po⟩ := x
  simp only [encEn]
  by_cases h1 : kd = 1
  · subst h1
    have HZ := Lib.hid (show Cf.endB k ⟨1, nd, po⟩ = (Cf.withinB nd k.nodes.length && (Cf.fullAt k.nodes nd && Cf.withinB po 101)) from rfl)
    have HW1 := Lib.hid (fun W => within_any nd k.nodes.length W)
    have HW2 := Lib.hid (fun W => within_any po 101 W)
    cases hw : Cf.withinB nd k.nodes.length
    · rw [hw] at HW1
      have HZ' := Lib.hid (show Cf.endB k ⟨1, nd, po⟩ = false by rw [HZ.out, hw]; rfl)
      clear hw HZ HW2
      go_enter Tryd.func25, Tryd.ntmps25
      go_wp2_with fail
      go_quiet ((go_at_call 38; exact quietE (HW1.out _)))
      go_wp2
      go_ret
      exact ⟨retB HZ'.out.symm, below_drewN (hb0 _) _⟩
    · obtain ⟨hw0, hw1⟩ : 0 ≤ nd ∧ nd < k.nodes.length := by simpa [Cf.withinB] using hw
      rw [hw] at HW1
      obtain ⟨m, rfl⟩ : ∃ m : Nat, nd = m := ⟨nd.toNat, by omega⟩
      obtain ⟨n, hx⟩ : ∃ n, k.nodes[m]? = some n := ⟨_, List.getElem?_eq_getElem (by omega)⟩
      have HU := Lib.hid (show Cf.fullAt k.nodes (m : Int) = !decide (n.kind = 0) by unfold Cf.fullAt; rw [Int.toNat_natCast, hx]; rfl)
      rcases HP.out.2.nodes with h | ⟨b, off, hA, hb, hc⟩
      · rw [h] at hx; simp at hx
      have r1 : ∀ o : Obj, (w.alloc o).cell? ⟨b, off + m * 4 + 1, none⟩ = some (.int .i64 n.kind) := fun o => ((hb0 o).cell (p := ⟨b, off + m * 4 + 1, none⟩) hb).trans (hc m n hx 1 _ rfl)
      rw [hA] at c2
      have HZ' := Lib.hid (show Cf.endB k ⟨1, (m : Int), po⟩ = (!decide (n.kind = 0) && Cf.withinB po 101) by rw [HZ.out, hw, HU.out]; rfl)
      clear hw HZ HU hc hx hA
      generalize n.kind = nk at *
      by_cases hk : nk = 0
      · subst hk
        have HZ2 := Lib.hid (show Cf.endB k ⟨1, (m : Int), po⟩ = false by rw [HZ'.out]; rfl)
        go_enter Tryd.func25, Tryd.ntmps25
        go_wp2_with fail
        go_quiet ((go_at_call 38; exact quietE (HW1.out _)))
        go_wp2
        go_ret
        exact ⟨retB HZ2.out.symm, below_drewN (hb0 _) _⟩
      · have HZ2 := Lib.hid (show Cf.endB k ⟨1, (m : Int), po⟩ = Cf.withinB po 101 by rw [HZ'.out]; simp [hk])
        generalize Cf.withinB po 101 = q at *
        go_enter Tryd.func25, Tryd.ntmps25
        go_wp2_with fail
        go_quiet ((go_at_call 38; first | with_reducible exact quietE (HW1.out _) | with_reducible exact quietE (HW2.out _)))
        go_wp2
        go_ret
        exact ⟨retB (by rw [HZ2.out]; simp [hk]), below_drewN (hb0 _) _⟩
  · by_cases h2 : kd = 2 ∨ kd = 3
    · have HZ := Lib.hid (show Cf.endB k ⟨kd, nd, po⟩ = (Cf.withinB nd k.pipes.length && decide (po = 0)) by simp only [Cf.endB, h1, h2, if_false, if_true])
      have HW1 := Lib.hid (fun W => within_any nd k.pipes.length W)
      have key : ∀ kk : Int, kk = 2 ∨ kk = 3 → kd = kk → Calls Tryd.prog 25 #[.pointer (some ⟨g, 0, none⟩), .agg #[.int .i64 kd, .int .i64 nd, .int .i64 po]] w fun e w' => e = .returned (.bool (Cf.endB k ⟨kd, nd, po⟩)) ∧ Below w.heap.size w w' := by
        rintro kk (rfl | rfl) rfl
        all_goals
          rw [HZ.out]
          clear h2 h1 HZ
          cases hw : Cf.withinB nd k.pipes.length
          · rw [hw] at HW1
            clear hw
            go_enter Tryd.func25, Tryd.ntmps25
            go_wp2_with fail
            go_quiet ((go_at_call 38; exact quietE (HW1.out _)))
            go_wp2
            go_ret
            exact ⟨rfl, below_drewN (hb0 _) _⟩
          · rw [hw] at HW1
            clear hw
            go_enter Tryd.func25, Tryd.ntmps25
            go_wp2_with fail
            go_quiet ((go_at_call 38; exact quietE (HW1.out _)))
            go_wp2
            go_ret
            exact ⟨retB (by rw [Bool.true_and, Bool.eq_iff_iff]; simp), below_drewN (hb0 _) _⟩
      exact key kd h2 rfl
    · have HZ := Lib.hid (show Cf.endB k ⟨kd, nd, po⟩ = decide (Cf.End.mk kd nd po = Cf.noEnd) by simp only [Cf.endB, h1, h2, if_false])
      have h3 : ¬ kd = 2 := fun h => h2 (.inl h)
      have h4 : ¬ kd = 3 := fun h => h2 (.inr h)
      clear h2
      go_enter Tryd.func25, Tryd.ntmps25
      go_wp2
      all_goals
        go_ret
        exact ⟨retB (by rw [HZ.out]; simp_all [Cf.noEnd]), hb0 _⟩
/-- A descriptor that is wrong. -/
def wrongE (k : Cf.Kern) (live : Bool) (e : Cf.End) : Bool := !(Cf.endB k e && (live || Cf.freeB e))
theorem wrongEnd_any (k : Cf.Kern) (a : KA) (g g1 g2 : Nat) (x : Cf.End) (lv : Bool) (w : World) (hP : KPtr w g a k) (hf : KFit k) (h1 : w.cell? ⟨g1, 0, none⟩ = some (.pointer (some ⟨g, 0, none⟩))) (h2 : w.cell? ⟨g2, 0, none⟩ = some (.bool lv)) :
    Calls Tryd.prog 24 #[.agg (encEn x).toArray, .pointer (some ⟨g1, 0, none⟩), .pointer (some ⟨g2, 0, none⟩)] w fun e w' => e = .returned (.bool (wrongE k lv x)) ∧ Below w.heap.size w w' := by
  have l1 : g1 < w.heap.size := lt_of_cell h1
  have l2 : g2 < w.heap.size := lt_of_cell h2
  have hb0 : ∀ o : Obj, Below w.heap.size w (w.alloc o) := fun o => (Below.refl _ _).alloc (Nat.le_refl _) _
  have c1 : ∀ o : Obj, (w.alloc o).cell? ⟨g1, 0, none⟩ = some (.pointer (some ⟨g, 0, none⟩)) := fun o => ((hb0 o).cell (p := ⟨g1, 0, none⟩) l1).trans h1
  have HV := Lib.hid (fun o => validEnd_any k a g x (w.alloc o) (hP.below (hb0 o)) hf)
  have Hc2 := Lib.hid h2
  have HZ := Lib.hid (show wrongE k lv x = !(Cf.endB k x && (lv || decide (x.kind = 0))) from rfl)
  have Hb0 := Lib.hid hb0
  obtain ⟨kd, nd, po⟩ := x
  have hbx := Wb.new w 48 [.int .i64 kd, .int .i64 nd, .int .i64 po]
  have Hbx := Lib.hid hbx
  simp only [encEn] at HV ⊢
  simp only at HZ
  clear hP hf h1 h2 hbx
  generalize Cf.endB k ⟨kd, nd, po⟩ = q at *
  go_enter Tryd.func24, Tryd.ntmps24
  go_wp2_with fail
  refine (HV.out _).mono ?_
  rintro e w1 ⟨rfl, hb1⟩
  have hbw := (Hb0.out (.cells #[.int .i64 kd, .int .i64 nd, .int .i64 po] 48)).trans (hb1.mono (by simp))
  have hbx1 := Hbx.out.below hb1 Hbx.out.lt
  have p0 := hbx1.cell 0
  have pl := hbx1.lt
  simp only [List.getElem?_cons_zero] at p0
  have d2 : w1.cell? ⟨g2, 0, none⟩ = some (.bool lv) := (hbw.cell (p := ⟨g2, 0, none⟩) l2).trans Hc2.out
  have l2' : g2 < w1.heap.size := Nat.lt_of_lt_of_le l2 hbw.size
  clear hb1 hbx1 Hbx HV c1 hb0
  cases q
  · go_wp2
    go_ret
    exact ⟨retB (by rw [HZ.out]; rfl), hbw⟩
  · cases lv
    · go_wp2
      go_ret
      exact ⟨retB (by rw [HZ.out, Bool.eq_iff_iff]; simp), hbw⟩
    · go_wp2
      go_ret
      exact ⟨retB (by rw [HZ.out]; rfl), hbw⟩
theorem procB_eq (k : Cf.Kern) (p : Cf.Proc) : Cf.procB k p = !(!decide (p.ends.length = 6) || p.ends.any (wrongE k p.live)) := by
  have h : p.ends.any (wrongE k p.live) = !p.ends.all (fun e => Cf.endB k e && (p.live || Cf.freeB e)) := Cf.all_not
  rw [h]
  simp [Cf.procB]
theorem wrongProc_any (k : Cf.Kern) (a : KA) (g g1 : Nat) (p : Cf.Proc) (A : Option Addr) (cap : Nat) (w : World) (hP : KPtr w g a k) (hf : KFit k) (hR : Ends w A p.ends) (hm : p.ends.length ≤ maxLen) (h1 : w.cell? ⟨g1, 0, none⟩ = some (.pointer (some ⟨g, 0, none⟩))) :
    Calls Tryd.prog 23 #[.agg #[.bool p.live, .slice A p.ends.length cap], .pointer (some ⟨g1, 0, none⟩)] w fun e w' => e = .returned (.bool (!Cf.procB k p)) ∧ Below w.heap.size w w' := by
  have hmf : ∀ (fn : Fn) (first cap : Array Value) (w : World), (Instr.makeFunc fn first cap).run Tryd.prog w = .ok (.func fn first cap) w := fun _ _ _ _ => rfl
  have l1 : g1 < w.heap.size := lt_of_cell h1
  have hb0 : ∀ o : Obj, Below w.heap.size w (w.alloc o) := fun o => (Below.refl _ _).alloc (Nat.le_refl _) _
  have hbx := Wb.new w 45 [.bool p.live, .slice A p.ends.length cap]
  have HV := Lib.hid (enHas_any p.ends A cap (w.alloc (.cells #[.bool p.live, .slice A p.ends.length cap] 45)) (RdS.below hR (hb0 _)) hm p.ends rfl (wrongE k p.live) 24 #[.pointer (some ⟨g1, 0, none⟩), .pointer (some ⟨w.heap.size, 0, none⟩)]
    (fun i x y w' hx hy hb => by
      obtain rfl := Option.some.inj (hx.symm.trans hy)
      exact wrongEnd_any k a g g1 w.heap.size x p.live w' ((hP.below (hb0 _)).below hb) hf ((hb.cell (p := ⟨g1, 0, none⟩) (by show g1 < _; simp; omega)).trans (((hb0 _).cell (p := ⟨g1, 0, none⟩) l1).trans h1)) ((hbx.below hb hbx.lt).cell 0)) (fun args w => by simp [go_sem]))
  have HZ := Lib.hid (show (!Cf.procB k p) = (!decide (p.ends.length = 6) || p.ends.any (wrongE k p.live)) by rw [procB_eq, Bool.not_not])
  rw [HZ.out]
  clear hP hf hR h1 hbx HZ
  generalize p.ends.any (wrongE k p.live) = q at *
  generalize p.live = lv at *
  by_cases h6 : p.ends.length = 6
  · rw [h6] at HV ⊢
    clear h6 hm
    go_enter Tryd.func23, Tryd.ntmps23
    go_wp2_with fail
    refine HV.out.mono ?_
    rintro e w1 ⟨rfl, hb1⟩
    have hbw := (hb0 (.cells #[.bool lv, .slice A 6 cap] 45)).trans (hb1.mono (by simp))
    clear hb1 hb0 HV
    go_wp2
    go_ret
    exact ⟨retB (by simp), hbw⟩
  · generalize p.ends.length = n at *
    have h6' : ¬ (n : Int) = 6 := by omega
    go_enter Tryd.func23, Tryd.ntmps23
    go_wp2
    go_ret
    exact ⟨retB (by simp [h6]), hb0 _⟩
theorem validProcs_any (k : Cf.Kern) (a : KA) (g : Nat) (w : World) (hP : KPtr w g a k) (hf : KFit k) :
    Calls Tryd.prog 11 #[.pointer (some ⟨g, 0, none⟩)] w fun e w' => e = .returned (.bool (Cf.procsB k)) ∧ Below w.heap.size w w' := by
  have hmf : ∀ (fn : Fn) (first cap : Array Value) (w : World), (Instr.makeFunc fn first cap).run Tryd.prog w = .ok (.func fn first cap) w := fun _ _ _ _ => rfl
  have hl := hP.1.lt
  have hb0 : ∀ o : Obj, Below w.heap.size w (w.alloc o) := fun o => (Below.refl _ _).alloc (Nat.le_refl _) _
  obtain ⟨ps, hps, hpp⟩ := hP.2.procs
  have hc := hP.c4
  rw [← hpp.1] at hc
  have c4 : ∀ o : Obj, (w.alloc o).cell? ⟨g, 4, none⟩ = some (.slice a.Q ps.length a.cq) := fun o => ((hb0 o).cell (p := ⟨g, 4, none⟩) hl).trans hc
  have hbx := Wb.new w 33 [.pointer (some ⟨g, 0, none⟩)]
  have HV := Lib.hid (pvHas_any ps a.Q a.cq (w.alloc (.cells #[.pointer (some ⟨g, 0, none⟩)] 33)) (RdS.below hps (hb0 _)) (by rw [hpp.1]; exact le_maxLen hf.procs) k.procs hpp.1 (fun p => !Cf.procB k p) 23 #[.pointer (some ⟨w.heap.size, 0, none⟩)]
    (fun i x y w' hx hy hb => by
      obtain ⟨h1, h2, h3⟩ := hpp.2 i x y hx hy
      obtain ⟨lv, A1, le, ce⟩ := x
      simp only at h1 h2 h3
      subst h1 h2
      exact wrongProc_any k a g w.heap.size y A1 ce w' ((hP.below (hb0 _)).below hb) hf (RdS.below (RdS.below h3 (hb0 _)) hb) (le_maxLen (hf.proc y (List.mem_of_getElem? hy))) ((hbx.below hb hbx.lt).cell 0)) (fun args w => by simp [go_sem]))
  have HZ := Lib.hid (show k.procs.any (fun p => !Cf.procB k p) = !Cf.procsB k from Cf.all_not)
  rw [HZ.out] at HV
  clear hP hf hps hpp hc hbx HZ
  generalize Cf.procsB k = q at *
  go_enter Tryd.func11, Tryd.ntmps11
  go_wp2_with fail
  refine HV.out.mono ?_
  rintro e w1 ⟨rfl, hb1⟩
  have hbw := (hb0 (.cells #[.pointer (some ⟨g, 0, none⟩)] 33)).trans (hb1.mono (by simp))
  clear hb1 hb0 HV c4
  go_wp2
  go_ret
  exact ⟨retB (by simp), hbw⟩
set_option maxHeartbeats 2000000 in
theorem check_kern (k : Cf.Kern) (a : KA) (w : World) (hR : KRd w a k) (hf : KFit k) (hL : TabL w) (hF : TabF w) :
    Calls Tryd.prog 4 #[.agg (kcells a k).toArray] w fun e w' => e = .returned (.int .i64 (Cf.kernT k)) ∧ Below w.heap.size w w' := by
  have hb0 : Below w.heap.size w (w.alloc (.cells (kcells a k).toArray tKern)) := (Below.refl _ _).alloc (Nat.le_refl _) _
  have hP : KPtr (w.alloc (.cells (kcells a k).toArray tKern)) w.heap.size a k := ⟨Wb.new w tKern (kcells a k), hR.below hb0⟩
  have HT := Lib.hid (show Cf.kernT k = if Cf.sizedB k then (if Cf.modsE k.mods = 0 then (if k.mem.all Cf.wordB then (if Cf.filesB k && (Cf.procsB k && Cf.pipesB k) then 0 else 9) else 2) else Cf.modsE k.mods) else 1 from rfl)
  rw [HT.out]
  obtain ⟨xs, hxs, hxm⟩ := hP.2.mods
  have HS := Lib.hid (sized_any k a w.heap.size _ hP)
  have HM := Lib.hid (checkModules_any xs k.mods a.A a.ca _ hxs hxm (le_maxLen hf.mods) hR.capA (fun m hm => by
    obtain ⟨h1, h2, h3⟩ := hf.each m hm
    exact ⟨le_maxLen h1, le_maxLen h2, le_maxLen h3⟩) (hL.below hb0) (hF.below hb0))
  have HW := Lib.hid (fun W (hW : Below w.heap.size w W) => zHas_any k.mem a.M a.cm W (RdS.below hR.mem hW) (le_maxLen hf.mem) k.mem rfl (fun v => !Cf.wordB v) 8 #[]
    (fun i x y w' hx hy hb => by
      obtain rfl := Option.some.inj (hx.symm.trans hy)
      exact noWord_any x w') (fun args w => by simp [go_sem]))
  have HWn := Lib.hid (show k.mem.any (fun v => !Cf.wordB v) = !k.mem.all Cf.wordB from Cf.all_not)
  rw [HWn.out] at HW
  have HV1 := Lib.hid (fun W (hW : KPtr W w.heap.size a k) => validFiles_any k a w.heap.size W hW hf)
  have HV2 := Lib.hid (fun W (hW : KPtr W w.heap.size a k) => validProcs_any k a w.heap.size W hW hf)
  have HV3 := Lib.hid (fun W (hW : KPtr W w.heap.size a k) => validPipes_any k a w.heap.size W hW hf)
  have HP := Lib.hid hP
  have c0 := hP.c0
  have hl := hP.1.lt
  have Hb0 := Lib.hid hb0
  clear hR hf hL hF hxs hxm hP hb0 HWn HT
  generalize Cf.sizedB k = q0 at *
  generalize Cf.modsE k.mods = q1 at *
  generalize k.mem.all Cf.wordB = q2 at *
  generalize Cf.filesB k = q3 at *
  generalize Cf.procsB k = q4 at *
  generalize Cf.pipesB k = q5 at *
  simp only [kcells] at *
  go_enter Tryd.func4, Tryd.ntmps4
  go_wp2_with fail
  refine HS.out.mono ?_
  rintro e w' ⟨rfl, rfl⟩
  clear HS
  cases q0
  · go_wp2
    go_ret
    exact ⟨rfl, Hb0.out⟩
  · go_wp2_with fail
    refine HM.out.mono ?_
    rintro e w1 ⟨rfl, hb1⟩
    have hbw1 := Hb0.out.trans (hb1.mono Hb0.out.size)
    have hP1 := HP.out.below hb1
    have d1 := hP1.c1
    have hl1 := hP1.1.lt
    have HP1 := Lib.hid hP1
    clear HM hb1 c0 hP1
    by_cases hq1 : q1 = 0
    · subst hq1
      go_wp2_with fail
      refine (HW.out _ hbw1).mono ?_
      rintro e w2 ⟨rfl, hb2⟩
      have hbw2 := hbw1.trans (hb2.mono hbw1.size)
      have HP2 := Lib.hid (HP1.out.below hb2)
      clear HW hb2 d1
      cases q2
      · go_wp2
        go_ret
        exact ⟨rfl, hbw2⟩
      · go_wp2_with fail
        refine (HV1.out _ HP2.out).mono ?_
        rintro e w3 ⟨rfl, hb3⟩
        have hbw3 := hbw2.trans (hb3.mono hbw2.size)
        have HP3 := Lib.hid (HP2.out.below hb3)
        clear HV1 hb3
        cases q3
        · go_wp2
          go_ret
          exact ⟨rfl, hbw3⟩
        · go_wp2_with fail
          refine (HV2.out _ HP3.out).mono ?_
          rintro e w4 ⟨rfl, hb4⟩
          have hbw4 := hbw3.trans (hb4.mono hbw3.size)
          have HP4 := Lib.hid (HP3.out.below hb4)
          clear HV2 hb4
          cases q4
          · go_wp2
            go_ret
            exact ⟨rfl, hbw4⟩
          · go_wp2_with fail
            refine (HV3.out _ HP4.out).mono ?_
            rintro e w5 ⟨rfl, hb5⟩
            have hbw5 := hbw4.trans (hb5.mono hbw4.size)
            clear HV3 hb5
            cases q5
            · go_wp2
              go_ret
              exact ⟨rfl, hbw5⟩
            · go_wp2
              go_ret
              exact ⟨rfl, hbw5⟩
    · clear HW HV1 HV2 HV3
      go_wp2
      go_ret
      exact ⟨by simp, hbw1⟩
end Go.Proofs.YtnnhhbjbdmgpiaaDoor
