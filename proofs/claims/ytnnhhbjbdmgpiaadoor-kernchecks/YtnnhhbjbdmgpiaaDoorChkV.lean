/- Walks of chapter 5: the program's Check of files, processes and pipes. -/
import Derived.Test.YtnnhhbjbdmgpiaaDoorChkW
namespace Go.Proofs.YtnnhhbjbdmgpiaaDoor
set_option maxRecDepth 100000
open Go.RowKit

theorem le_maxLen {n : Nat} (h : n ≤ big) : n ≤ maxLen := Nat.le_trans h (by unfold big maxLen; omega)
set_option maxHeartbeats 1000000 in
theorem validContent_any (k : Cf.Kern) (a : KA) (g : Nat) (n : Cf.Node) (w : World) (hP : KPtr w g a k) :
    Calls Tryd.prog 21 #[.pointer (some ⟨g, 0, none⟩), .agg (encNd n).toArray] w fun e w' => e = .returned (.bool (Cf.contentB k.mods.length n)) ∧ Below w.heap.size w w' := by
  have c0 := hP.c0
  have hl := hP.1.lt
  have hc : ∀ o : Obj, (w.alloc o).cell? ⟨g, 0, none⟩ = some (.slice a.A k.mods.length a.ca) := fun o => (((Below.refl w.heap.size w).alloc (Nat.le_refl _) o).cell (p := ⟨g, 0, none⟩) hl).trans c0
  clear hP c0
  obtain ⟨nm, kd, da, un⟩ := n
  have hb0 : ∀ o : Obj, Below w.heap.size w (w.alloc o) := fun o => (Below.refl _ _).alloc (Nat.le_refl _) _
  simp only [encNd]
  by_cases h1 : kd = 1
  · subst h1
    have HZ := Lib.hid (show Cf.contentB k.mods.length ⟨nm, 1, da, un⟩ = (decide (un = 0) && decide (da.length ≤ 100)) from rfl)
    by_cases hu : un = 0
    · subst hu
      go_enter Tryd.func21, Tryd.ntmps21
      go_wp2
      go_ret
      exact ⟨retB (by rw [HZ.out]; simp; omega), hb0 _⟩
    · go_enter Tryd.func21, Tryd.ntmps21
      go_wp2
      go_ret
      exact ⟨retB (by rw [HZ.out]; simp [hu]), hb0 _⟩
  · by_cases h2 : kd = 2
    · subst h2
      have HZ := Lib.hid (show Cf.contentB k.mods.length ⟨nm, 2, da, un⟩ = (decide (da = []) && Cf.withinB un k.mods.length) from rfl)
      by_cases hd : da = []
      · subst hd
        go_enter Tryd.func21, Tryd.ntmps21
        go_wp2_with fail
        go_quiet ((go_at_call 38; exact quietE (within_any un k.mods.length _)))
        go_wp2
        go_ret
        exact ⟨retB (by rw [HZ.out]; simp), below_drewN (hb0 _) _⟩
      · go_enter Tryd.func21, Tryd.ntmps21
        go_wp2_with fail
        go_quiet ((go_at_call 38; exact quietE (within_any un k.mods.length _)))
        go_wp2
        go_ret
        exact ⟨retB (by rw [HZ.out]; simp [hd]), below_drewN (hb0 _) _⟩
    · have HZ := Lib.hid (show Cf.contentB k.mods.length ⟨nm, kd, da, un⟩ = decide (Cf.Node.mk nm kd da un = Cf.noNode) by simp only [Cf.contentB, h1, h2, if_false])
      go_enter Tryd.func21, Tryd.ntmps21
      go_wp2
      all_goals
        go_ret
        exact ⟨retB (by rw [HZ.out]; simp_all [Cf.noNode]), hb0 _⟩
set_option maxHeartbeats 1000000 in
theorem validName_any (k : Cf.Kern) (a : KA) (g i : Nat) (n : Cf.Node) (w : World) (hP : KPtr w g a k) (hi : k.nodes[i]? = some n) (hf : KFit k) :
    Calls Tryd.prog 22 #[.pointer (some ⟨g, 0, none⟩), .int .i64 i] w fun e w' => e = .returned (.bool (Cf.nameOk k n.name i)) ∧ Below w.heap.size w w' := by
  have c2 := hP.c2
  have hl := hP.1.lt
  have hilt : i < k.nodes.length := (List.getElem?_eq_some_iff.1 hi).1
  have hnl := (hf.node n (List.mem_of_getElem? hi)).1
  have HH := Lib.hid (hasEnd_any k a g 1 i w hP (le_maxLen hf.procs) (fun p hp => le_maxLen (hf.proc p hp)))
  have HN := Lib.hid (pname_any n.name (le_maxLen hnl) w)
  have HFf := Lib.hid (fun W (hW : Below w.heap.size w W) => findFile_any k a g n.name W (hP.below hW) (le_maxLen hf.nodes))
  have hml := le_maxLen hf.nodes
  unfold maxLen at hml
  rcases hP.2.nodes with h | ⟨b, off, hA, hb, hc⟩
  · rw [h] at hi; simp at hi
  have r0 : w.cell? ⟨b, off + i * 4, none⟩ = some (.string ⟨n.name.toArray⟩) := hc i n hi 0 _ rfl
  rw [hA] at c2
  clear hc hP hi hf hnl hA
  by_cases hn : n.name = []
  · have HZ := Lib.hid (show Cf.nameOk k n.name i = Cf.hasB k.procs 1 i by simp [Cf.nameOk, hn])
    rw [HZ.out]
    rw [hn] at r0
    clear HFf HN HZ
    generalize Cf.hasB k.procs 1 i = z at *
    go_enter Tryd.func22, Tryd.ntmps22
    go_wp2_with fail
    refine HH.out.mono ?_
    rintro e w1 ⟨rfl, hb1⟩
    clear HH c2 r0
    go_wp2
    go_ret
    exact ⟨rfl, hb1⟩
  · have HZ := Lib.hid (show Cf.nameOk k n.name i = (Cf.nameB n.name && decide (Cf.idxT (Cf.namedB n.name) k.nodes = i)) by simp [Cf.nameOk, hn])
    rw [HZ.out]
    clear HH HZ
    generalize Cf.idxT (Cf.namedB n.name) k.nodes = z at *
    generalize n.name = s at *
    have hs : ¬ s.isEmpty = true := by simpa using hn
    generalize Cf.nameB s = q at *
    go_enter Tryd.func22, Tryd.ntmps22
    go_wp2_with fail
    refine HN.out.mono ?_
    rintro e w1 ⟨rfl, hb1⟩
    clear HN c2 r0
    cases q
    · clear HFf
      go_wp2
      go_ret
      exact ⟨rfl, hb1⟩
    · go_wp2_with fail
      refine (HFf.out _ hb1).mono ?_
      rintro e w2 ⟨rfl, hb2⟩
      have hb3 := hb1.trans (hb2.mono hb1.size)
      clear HFf hb1 hb2
      go_wp2
      go_ret
      exact ⟨retB (by rw [Bool.true_and, Bool.eq_iff_iff]; simp), hb3⟩
set_option maxHeartbeats 1000000 in
theorem validFiles_any (k : Cf.Kern) (a : KA) (g : Nat) (w : World) (hP : KPtr w g a k) (hf : KFit k) :
    Calls Tryd.prog 10 #[.pointer (some ⟨g, 0, none⟩)] w fun e w' => e = .returned (.bool (Cf.filesB k)) ∧ Below w.heap.size w w' := by
  have c2 := hP.c2
  have hl := hP.1.lt
  have HP := Lib.hid hP
  have HF := Lib.hid hf
  have hml := le_maxLen hf.nodes
  unfold maxLen at hml
  rcases hP.2.nodes with h | ⟨b, off, hA, hb, hc⟩
  · have HZ := Lib.hid (show Cf.filesB k = true by simp [Cf.filesB, h])
    rw [HZ.out]
    rw [h] at c2
    clear h hP hf
    go_enter Tryd.func10, Tryd.ntmps10
    go_wp2
    refine wp_loop_rounds 1 ?_
    rw [rounds_succ]
    go_wp2
    go_ret
    exact ⟨rfl, Below.refl _ _⟩
  · rw [hA] at c2
    have Hc := Lib.hid hc
    have HZ := Lib.hid (show Cf.filesB k = (List.range k.nodes.length).all (Cf.fileB k) from rfl)
    clear hc hP hf hA
    go_enter Tryd.func10, Tryd.ntmps10
    go_wp2
    go_loopw [10] (fun i wr => ∃ n : Nat, n ≤ k.nodes.length ∧ i = .int .i64 n ∧ (∀ j, j < n → Cf.fileB k j = true) ∧ Below w.heap.size w wr) (fun i _ => k.nodes.length - (intOf i).toNat)
    case atStart => exact ⟨0, by omega, rfl, fun j hj => by omega, Below.refl _ _⟩
    case round =>
      obtain ⟨n, hn, rfl, hok, hbw⟩ := hrel
      have Hok := Lib.hid hok
      clear hok c2
      have hsz := hbw.size
      by_cases hlt : n < k.nodes.length
      · obtain ⟨nm, kd, da, un, hx⟩ : ∃ nm kd da un, k.nodes[n]? = some ⟨nm, kd, da, un⟩ := ⟨_, _, _, _, List.getElem?_eq_getElem hlt⟩
        have r0 : wr.cell? ⟨b, off + n * 4, none⟩ = _ := (hbw.cell hb).trans (Hc.out n _ hx 0 _ rfl)
        have r1 : wr.cell? ⟨b, off + n * 4 + 1, none⟩ = _ := (hbw.cell hb).trans (Hc.out n _ hx 1 _ rfl)
        have r2 : wr.cell? ⟨b, off + n * 4 + 2, none⟩ = _ := (hbw.cell hb).trans (Hc.out n _ hx 2 _ rfl)
        have r3 : wr.cell? ⟨b, off + n * 4 + 3, none⟩ = _ := (hbw.cell hb).trans (Hc.out n _ hx 3 _ rfl)
        have hb9 : ∀ o : Obj, Below w.heap.size w (wr.alloc o) := fun o => hbw.alloc hsz o
        have HC1 := Lib.hid (fun o => validContent_any k a g ⟨nm, kd, da, un⟩ (wr.alloc o) (HP.out.below (hb9 o)))
        simp only [encNd] at HC1
        have HC2 := Lib.hid (fun W (hW : Below w.heap.size w W) => validName_any k a g n ⟨nm, kd, da, un⟩ W (HP.out.below hW) hx HF.out)
        have HfE := Lib.hid (show Cf.fileB k n = (Cf.contentB k.mods.length ⟨nm, kd, da, un⟩ && (decide (kd = 0) || Cf.nameOk k nm n)) by unfold Cf.fileB; rw [hx]; rfl)
        have hbx := Wb.new wr 53 [.string ⟨nm.toArray⟩, .int .i64 kd, .string ⟨da.toArray⟩, .int .i64 un]
        have Hbx := Lib.hid hbx
        clear hx hbx
        simp only at HC2
        generalize Cf.contentB k.mods.length ⟨nm, kd, da, un⟩ = q1 at *
        generalize Cf.nameOk k nm n = q2 at *
        go_wp2_with fail
        refine (HC1.out _).mono ?_
        rintro e w1 ⟨rfl, hb1⟩
        have hbw1 := (hb9 (.cells #[.string ⟨nm.toArray⟩, .int .i64 kd, .string ⟨da.toArray⟩, .int .i64 un] 53)).trans (hb1.mono (by simp; omega))
        have hbx1 := Hbx.out.below hb1 Hbx.out.lt
        have p1 := hbx1.cell 1
        have pl := hbx1.lt
        simp only [List.getElem?_cons_zero, List.getElem?_cons_succ] at p1
        clear hb9 hb1 hbx1 HC1 Hbx r0 r1 r2 r3
        cases q1
        · have HFi := Lib.hid (show Cf.filesB k = false by rw [HZ.out]; exact Cf.range_bad hlt (by rw [HfE.out]; rfl))
          clear HC2
          go_wp2
          go_ret
          exact ⟨retB HFi.out.symm, hbw1⟩
        · by_cases hk0 : kd = 0
          · have HOn := Lib.hid (Cf.range_on Hok.out (show Cf.fileB k n = true by rw [HfE.out]; simp [hk0]))
            subst hk0
            clear HC2
            go_wp2
            go_roundw
            case rel => exact ⟨n + 1, by omega, by go_num, HOn.out, hbw1⟩
            case measure => simp [intOf]; omega
          · have hk1 : ¬ (kd == 0) = true := by simpa using hk0
            go_wp2_with fail
            refine (HC2.out _ hbw1).mono ?_
            rintro e w2 ⟨rfl, hb2⟩
            have hbw2 := hbw1.trans (hb2.mono hbw1.size)
            clear HC2 hb2 p1
            cases q2
            · have HFi := Lib.hid (show Cf.filesB k = false by rw [HZ.out]; exact Cf.range_bad hlt (by rw [HfE.out]; simp [hk0]))
              go_wp2
              go_ret
              exact ⟨retB HFi.out.symm, hbw2⟩
            · have HOn := Lib.hid (Cf.range_on Hok.out (show Cf.fileB k n = true by rw [HfE.out]; simp))
              go_wp2
              go_roundw
              case rel => exact ⟨n + 1, by omega, by go_num, HOn.out, hbw2⟩
              case measure => simp [intOf]; omega
      · have HFi := Lib.hid (show Cf.filesB k = true by rw [HZ.out]; exact Cf.range_all fun j hj => Hok.out j (by omega))
        go_wp2
        go_ret
        exact ⟨retB HFi.out.symm, hbw⟩
set_option maxHeartbeats 1000000 in
theorem validPipes_any (k : Cf.Kern) (a : KA) (g : Nat) (w : World) (hP : KPtr w g a k) (hf : KFit k) :
    Calls Tryd.prog 12 #[.pointer (some ⟨g, 0, none⟩)] w fun e w' => e = .returned (.bool (Cf.pipesB k)) ∧ Below w.heap.size w w' := by
  have c2 := hP.c3
  have hl := hP.1.lt
  have HP := Lib.hid hP
  have HF := Lib.hid hf
  have hml := le_maxLen hf.pipes
  unfold maxLen at hml
  rcases hP.2.pipes with h | ⟨b, off, hA, hb, hc⟩
  · have HZ := Lib.hid (show Cf.pipesB k = true by simp [Cf.pipesB, h])
    rw [HZ.out]
    rw [h] at c2
    clear h hP hf
    go_enter Tryd.func12, Tryd.ntmps12
    go_wp2
    refine wp_loop_rounds 1 ?_
    rw [rounds_succ]
    go_wp2
    go_ret
    exact ⟨rfl, Below.refl _ _⟩
  · rw [hA] at c2
    have Hc := Lib.hid hc
    have HZ := Lib.hid (show Cf.pipesB k = (List.range k.pipes.length).all (Cf.pipeB k) from rfl)
    clear hc hP hf hA
    go_enter Tryd.func12, Tryd.ntmps12
    go_wp2
    go_loopw [10] (fun i wr => ∃ n : Nat, n ≤ k.pipes.length ∧ i = .int .i64 n ∧ (∀ j, j < n → Cf.pipeB k j = true) ∧ Below w.heap.size w wr) (fun i _ => k.pipes.length - (intOf i).toNat)
    case atStart => exact ⟨0, by omega, rfl, fun j hj => by omega, Below.refl _ _⟩
    case round =>
      obtain ⟨n, hn, rfl, hok, hbw⟩ := hrel
      have Hok := Lib.hid hok
      clear hok c2
      have hsz := hbw.size
      by_cases hlt : n < k.pipes.length
      · obtain ⟨s, hx⟩ : ∃ s, k.pipes[n]? = some s := ⟨_, List.getElem?_eq_getElem hlt⟩
        have r0 : wr.cell? ⟨b, off + n, none⟩ = some (.string ⟨s.toArray⟩) := (hbw.cell hb).trans (by have := Hc.out n _ hx 0 _ rfl; simpa using this)
        have HC2 := Lib.hid (hasEnd_any k a g 2 n wr (HP.out.below hbw) (le_maxLen HF.out.procs) (fun p hp => le_maxLen (HF.out.proc p hp)))
        have HfE := Lib.hid (show Cf.pipeB k n = (decide (s.length ≤ 20) && (decide (s = []) || Cf.hasB k.procs 2 n)) by unfold Cf.pipeB; rw [hx])
        clear hx
        generalize Cf.hasB k.procs 2 n = q2 at *
        by_cases h20 : 20 < s.length
        · have HFi := Lib.hid (show Cf.pipesB k = false by rw [HZ.out]; exact Cf.range_bad hlt (by rw [HfE.out]; simp; omega))
          clear HC2
          go_wp2
          go_ret
          exact ⟨retB HFi.out.symm, hbw⟩
        · by_cases hs0 : s = []
          · have HOn := Lib.hid (Cf.range_on Hok.out (show Cf.pipeB k n = true by rw [HfE.out]; simp [hs0]))
            subst hs0
            clear HC2
            go_wp2
            go_roundw
            case rel => exact ⟨n + 1, by omega, by go_num, HOn.out, hbw⟩
            case measure => simp [intOf]; omega
          · have hs1 : ¬ s.isEmpty = true := by simpa using hs0
            have Hs0 := Lib.hid hs0
            clear hs0
            go_wp2_with fail
            refine HC2.out.mono ?_
            rintro e w2 ⟨rfl, hb2⟩
            have hbw2 := hbw.trans (hb2.mono hbw.size)
            clear HC2 hb2
            cases q2
            · have HFi := Lib.hid (show Cf.pipesB k = false by rw [HZ.out]; exact Cf.range_bad hlt (by rw [HfE.out]; simp [Hs0.out]))
              go_wp2
              go_ret
              exact ⟨retB HFi.out.symm, hbw2⟩
            · have HOn := Lib.hid (Cf.range_on Hok.out (show Cf.pipeB k n = true by rw [HfE.out]; simp; omega))
              go_wp2
              go_roundw
              case rel => exact ⟨n + 1, by omega, by go_num, HOn.out, hbw2⟩
              case measure => simp [intOf]; omega
      · have HFi := Lib.hid (show Cf.pipesB k = true by rw [HZ.out]; exact Cf.range_all fun j hj => Hok.out j (by omega))
        go_wp2
        go_ret
        exact ⟨retB HFi.out.symm, hbw⟩
end Go.Proofs.YtnnhhbjbdmgpiaaDoor
