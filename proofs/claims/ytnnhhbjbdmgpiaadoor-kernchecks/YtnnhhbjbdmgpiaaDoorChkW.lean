/- Walks of chapter 5: the program's Check of a kernel. -/
import Derived.Test.YtnnhhbjbdmgpiaaDoorFindW
import Derived.Test.YtnnhhbjbdmgpiaaDoorModW
import Derived.Test.YtnnhhbjbdmgpiaaDoorQuietK
import Derived.Test.YtnnhhbjbdmgpiaaDoorStepK
namespace Go.Proofs.YtnnhhbjbdmgpiaaDoor
set_option maxRecDepth 100000
open Go.RowKit

set_option maxHeartbeats 1000000 in
theorem sized_any (k : Cf.Kern) (a : KA) (g : Nat) (w : World) (hP : KPtr w g a k) :
    Calls Tryd.prog 6 #[.pointer (some ⟨g, 0, none⟩)] w fun e w' => e = .returned (.bool (Cf.sizedB k)) ∧ w = w' := by
  have c0 := hP.c0
  have c1 := hP.c1
  have c2 := hP.c2
  have c3 := hP.c3
  have c4 := hP.c4
  have hl := hP.1.lt
  obtain ⟨mods, mem, nodes, pipes, procs⟩ := k
  simp only at c0 c1 c2 c3 c4
  clear hP
  by_cases h0 : mods.length ≤ 8
  · by_cases h1 : mem.length = 1024
    · by_cases h2 : nodes.length = 8
      · by_cases h3 : pipes.length = 6
        · have HZ := Lib.hid (show Cf.sizedB ⟨mods, mem, nodes, pipes, procs⟩ = decide (procs.length = 4) by simp [Cf.sizedB, h0, h1, h2, h3])
          rw [h1] at c1
          rw [h2] at c2
          rw [h3] at c3
          clear h1 h2 h3
          go_enter Tryd.func6, Tryd.ntmps6
          go_wp2
          go_ret
          refine ⟨retB (by rw [HZ.out, Bool.eq_iff_iff]; simp; omega), rfl⟩
        · have HZ := Lib.hid (show Cf.sizedB ⟨mods, mem, nodes, pipes, procs⟩ = false by simp [Cf.sizedB, h3])
          rw [h1] at c1
          rw [h2] at c2
          clear h1 h2
          have h3' : ¬ (pipes.length : Int) = 6 := by omega
          clear h3
          go_enter Tryd.func6, Tryd.ntmps6
          go_wp2
          go_ret
          exact ⟨retB HZ.out.symm, rfl⟩
      · have HZ := Lib.hid (show Cf.sizedB ⟨mods, mem, nodes, pipes, procs⟩ = false by simp [Cf.sizedB, h2])
        rw [h1] at c1
        clear h1
        have h3' : ¬ (nodes.length : Int) = 8 := by omega
        clear h2
        go_enter Tryd.func6, Tryd.ntmps6
        go_wp2
        go_ret
        exact ⟨retB HZ.out.symm, rfl⟩
    · have HZ := Lib.hid (show Cf.sizedB ⟨mods, mem, nodes, pipes, procs⟩ = false by simp [Cf.sizedB, h1])
      have h3' : ¬ (mem.length : Int) = 1024 := by omega
      clear h1
      go_enter Tryd.func6, Tryd.ntmps6
      go_wp2
      go_ret
      exact ⟨retB HZ.out.symm, rfl⟩
  · have HZ := Lib.hid (show Cf.sizedB ⟨mods, mem, nodes, pipes, procs⟩ = false by simp [Cf.sizedB, h0])
    go_enter Tryd.func6, Tryd.ntmps6
    go_wp2
    go_ret
    exact ⟨retB HZ.out.symm, rfl⟩
theorem noWord_any (v : Int) (w : World) :
    Calls Tryd.prog 8 #[.int .i64 v] w fun e w' => e = .returned (.bool (!Cf.wordB v)) ∧ Below w.heap.size w w' := by
  by_cases h1 : v < 0
  · go_enter Tryd.func8, Tryd.ntmps8
    go_wp2
    go_ret
    exact ⟨by simp [Cf.wordB, Cf.inB, h1], Below.refl _ _⟩
  · by_cases h2 : 65535 < v
    · go_enter Tryd.func8, Tryd.ntmps8
      go_wp2
      go_ret
      exact ⟨by simp [Cf.wordB, Cf.inB, h2], Below.refl _ _⟩
    · go_enter Tryd.func8, Tryd.ntmps8
      go_wp2
      go_ret
      exact ⟨by simp [Cf.wordB, Cf.inB, h1, h2], Below.refl _ _⟩
theorem RdS.take {α : Type} {sz : Nat} {enc : α → List Value} {w : World} {A : Option Addr} {l : List α} (h : RdS sz enc w A l) (n : Nat) : RdS sz enc w A (l.take n) := by
  rcases h with rfl | ⟨b, off, hA, hb, hc⟩
  · exact .inl (by simp)
  · refine .inr ⟨b, off, hA, hb, fun k x hx => hc k x ?_⟩
    rw [List.getElem?_take] at hx
    split at hx
    · exact hx
    · cases hx
theorem Each.take {α β : Type} {R : α → β → Prop} {xs : List α} {ys : List β} (h : Each R xs ys) (n : Nat) : Each R (xs.take n) (ys.take n) :=
  ⟨by simp [h.1], fun i a b hi hb => by
    rw [List.getElem?_take] at hi hb
    split at hi
    · rename_i hik
      rw [if_pos hik] at hb
      exact h.2 i a b hi hb
    · cases hi⟩
/-- What checkModules knows of the modules ahead. -/
def ModsOk (l : List Cf.Mod) (n : Nat) : Prop := ∀ j, j < n → Cf.modE l j = 0
set_option maxHeartbeats 1000000 in
theorem checkModules_any (xs : List MV) (l : List Cf.Mod) (A : Option Addr) (cap : Nat) (w : World) (hR : RdS 3 encMv w A xs) (hE : Each (IsM w) xs l) (hm : l.length ≤ maxLen) (hcap : l.length ≤ cap) (hz : ∀ m ∈ l, m.name.length ≤ maxLen ∧ m.code.length ≤ maxLen ∧ m.data.length ≤ maxLen) (hL : TabL w) (hF : TabF w) :
    Calls Tryd.prog 7 #[.slice A l.length cap] w fun e w' => e = .returned (.int .i64 (Cf.modsE l)) ∧ Below w.heap.size w w' := by
  have hmf : ∀ (fn : Fn) (first cap : Array Value) (w : World), (Instr.makeFunc fn first cap).run Tryd.prog w = .ok (.func fn first cap) w := fun _ _ _ _ => rfl
  have HE := Lib.hid hE
  have HR := Lib.hid hR
  have HZ := Lib.hid hz
  have HL := Lib.hid hL
  have HF := Lib.hid hF
  unfold maxLen at hm
  have Heg := Lib.hid (fun args w => show (callFunc 19 args).run Tryd.prog w = .ok (.enter 19 args) w by simp [go_sem])
  rcases hR with h0 | ⟨b, off, rfl, hb, hc⟩
  · obtain rfl : l = [] := List.eq_nil_of_length_eq_zero (by rw [← hE.1, h0]; rfl)
    clear hE hz hL hF
    go_enter Tryd.func7, Tryd.ntmps7
    go_wp2
    refine wp_loop_rounds 1 ?_
    rw [rounds_succ]
    go_wp2
    go_ret
    exact ⟨rfl, Below.refl _ _⟩
  · have Hc := Lib.hid hc
    clear hE hz hL hF hc
    go_enter Tryd.func7, Tryd.ntmps7
    go_wp2
    go_loopw [8] (fun i wr => ∃ n : Nat, n ≤ l.length ∧ i = .int .i64 n ∧ ModsOk l n ∧ Below w.heap.size w wr) (fun i _ => l.length - (intOf i).toNat)
    case atStart => exact ⟨0, by omega, rfl, fun j hj => by omega, Below.refl _ _⟩
    case round =>
      obtain ⟨n, hn, rfl, hok, hbw⟩ := hrel
      have Hok := Lib.hid hok
      clear hok
      have hsz := hbw.size
      by_cases hlt : n < l.length
      · have hncap : n ≤ cap := by omega
        obtain ⟨nm, code, data, hx2⟩ : ∃ nm code data, l[n]? = some ⟨nm, code, data⟩ := ⟨_, _, _, List.getElem?_eq_getElem hlt⟩
        obtain ⟨nm1, A1, l1, c1, B1, d1, e1, hx⟩ : ∃ nm1 A1 l1 c1 B1 d1 e1, xs[n]? = some ⟨nm1, A1, l1, c1, B1, d1, e1⟩ := ⟨_, _, _, _, _, _, _, List.getElem?_eq_getElem (by rw [HE.out.1]; exact hlt)⟩
        obtain ⟨h1, h2, h3, hC1, hD1⟩ := HE.out.2 n _ _ hx hx2
        obtain ⟨hnl, hcl, hdl⟩ := HZ.out _ (List.mem_of_getElem? hx2)
        simp only at h1 h2 h3 hC1 hD1 hnl hcl hdl
        subst h1 h2 h3
        have r0 : wr.cell? ⟨b, off + n * 3, none⟩ = _ := (hbw.cell hb).trans (Hc.out n _ hx 0 _ rfl)
        have r1 : wr.cell? ⟨b, off + n * 3 + 1, none⟩ = _ := (hbw.cell hb).trans (Hc.out n _ hx 1 _ rfl)
        have r2 : wr.cell? ⟨b, off + n * 3 + 2, none⟩ = _ := (hbw.cell hb).trans (Hc.out n _ hx 2 _ rfl)
        have hb9 : ∀ o : Obj, Below w.heap.size w (wr.alloc o) := fun o => hbw.alloc hsz o
        have HM := Lib.hid (fun o => modCheck_any nm1 code data A1 B1 c1 e1 (wr.alloc o) (hC1.below (hb9 o)) (hD1.below (hb9 o)) (HL.out.below (hb9 o)) (HF.out.below (hb9 o)) hnl hcl hdl)
        have HmE := Lib.hid (show Cf.modE l n = if Cf.modT ⟨nm1, code, data⟩ = 0 then (if (l.take n).any (Cf.modIs nm1) then 7 else 0) else Cf.modT ⟨nm1, code, data⟩ by unfold Cf.modE; rw [hx2])
        have hbx := Wb.new wr 40 [.string ⟨nm1.toArray⟩, .slice A1 code.length c1, .slice B1 data.length e1]
        have Hbx := Lib.hid hbx
        have hlt0 : (l.take n).length = n := by simp; omega
        have HLt := Lib.hid hlt0
        clear hx hx2 hC1 hD1 hnl hcl hdl hbx hlt0
        generalize Cf.modT ⟨nm1, code, data⟩ = z at *
        go_wp2_with fail
        refine (HM.out _).mono ?_
        rintro e w1 ⟨rfl, hb1⟩
        have hbw1 := (hb9 (.cells #[.string ⟨nm1.toArray⟩, .slice A1 code.length c1, .slice B1 data.length e1] 40)).trans (hb1.mono (by simp; omega))
        have hbx1 := Hbx.out.below hb1 Hbx.out.lt
        have p0 := hbx1.cell 0
        have pl := hbx1.lt
        simp only [List.getElem?_cons_zero] at p0
        clear hb9 hb1 hbx1 HM Hbx
        by_cases hz0 : z = 0
        · subst hz0
          have HFm := Lib.hid (fun W (hW : Below w.heap.size w W) => findModule_any (xs.take n) (l.take n) (some ⟨b, off, none⟩) cap nm1 W ((RdS.take HR.out n).below hW) ((HE.out.take n).mono fun _ _ h => h.below hW) (by rw [HLt.out]; unfold maxLen; omega))
          rw [HLt.out] at HFm
          have Hpos := Lib.hid (Cf.idx_pos (p := Cf.modIs nm1) (l := l.take n))
          generalize Cf.idxT (Cf.modIs nm1) (l.take n) = q at *
          by_cases hq : 0 ≤ q
          · have HFi := Lib.hid (show Cf.modsE l = 7 by
              have h7 : Cf.modE l n = 7 := by
                rw [HmE.out, if_pos rfl, ← Hpos.out, if_pos (by simpa using hq)]
              unfold Cf.modsE
              rw [Cf.first_at Hok.out (by rw [h7]; decide) hlt, h7])
            go_wp2_with fail
            go_region_law (first
              | (refine step_call2 (by rfl) 19 (.tmp 20) (.tmp 22) #[22, 9] (by rfl) (.slice (some ⟨b, off, none⟩) n cap) (.string ⟨nm1.toArray⟩) (by rfl) (by rfl) Heg.out (HFm.out _ hbw1.drew) ?_
                 rintro e w5 ⟨rfl, hb5⟩
                 refine ⟨_, rfl, ?_⟩
                 have hbw5 := hbw1.drew.trans (hb5.mono hbw1.drew.size)
                 clear hb5)
              | fail)
            all_goals
              go_wp2
              go_ret
              exact ⟨by rw [HFi.out]; rfl, hbw5⟩
          · have HOn := Lib.hid (show ModsOk l (n + 1) from fun j hj => by
              rcases Nat.lt_succ_iff_lt_or_eq.1 hj with h | h
              · exact Hok.out j h
              · rw [h, HmE.out, if_pos rfl, ← Hpos.out, if_neg (by simpa using hq)])
            go_wp2_with fail
            go_region_law (first
              | (refine step_call2 (by rfl) 19 (.tmp 20) (.tmp 22) #[22, 9] (by rfl) (.slice (some ⟨b, off, none⟩) n cap) (.string ⟨nm1.toArray⟩) (by rfl) (by rfl) Heg.out (HFm.out _ hbw1.drew) ?_
                 rintro e w5 ⟨rfl, hb5⟩
                 refine ⟨_, rfl, ?_⟩
                 have hbw5 := hbw1.drew.trans (hb5.mono hbw1.drew.size)
                 clear hb5)
              | fail)
            all_goals
              go_wp2
              go_roundw
              case rel => exact ⟨n + 1, by omega, by go_num, HOn.out, hbw5⟩
              case measure => simp [intOf]; omega
        · have HFi := Lib.hid (show Cf.modsE l = z by unfold Cf.modsE; rw [Cf.first_at Hok.out (by rw [HmE.out, if_neg hz0]; exact hz0) hlt, HmE.out, if_neg hz0])
          go_wp2
          go_ret
          exact ⟨by rw [HFi.out]; rfl, hbw1⟩
      · have HFi := Lib.hid (show Cf.modsE l = 0 from Cf.first_all fun j hj => Hok.out j (by omega))
        go_wp2
        go_ret
        exact ⟨by rw [HFi.out]; rfl, hbw⟩
end Go.Proofs.YtnnhhbjbdmgpiaaDoor
