/- Texts of the proof of TopApart: FindX. -/
import Derived.Test.YtnnhhbjbdmgpiaaGreatDoorJ28
import Derived.Test.YtnnhhbjbdmgpiaaGreatDoorJ27
/- Walks of chapter 5: what else the program finds in a kernel; answers. -/
namespace Go.Proofs.YtnnhhbjbdmgpiaaGreatDoor
set_option maxRecDepth 100000
open Go.RowKit

/-- An answer, as its cells. -/
def encAn (x : Cf.Ans) : List Value := [.int .i64 x.code, .int .i64 x.n, .string ⟨x.data.toArray⟩]
theorem refuse_any (z : Int) (w : World) :
    Calls Tryz.prog 48 #[.int .i64 z] w fun e w' => e = .returned (.agg (encAn ⟨z, 0, []⟩).toArray) ∧ Below w.heap.size w w' := by
  go_enter Tryz.func48, Tryz.ntmps48
  go_wp2
  exact bodyPost_ret (v := .agg #[.int .i64 z, .int .i64 0, .string ⟨#[]⟩]) (by simp [results, Tryz.results48, go_sem]) rfl ⟨rfl, (Below.refl _ _).alloc (by simp) _⟩
theorem answerWith_any (s : List UInt8) (w : World) (hl : s.length ≤ 281474976710656) :
    Calls Tryz.prog 161 #[.string ⟨s.toArray⟩] w fun e w' => e = .returned (.agg (encAn ⟨0, s.length, s⟩).toArray) ∧ Below w.heap.size w w' := by
  have HC := Lib.hid (fun W => cloneS_any s W hl)
  have hb0 : ∀ o : Obj, Below w.heap.size w (w.alloc o) := fun o => (Below.refl _ _).alloc (Nat.le_refl _) _
  have hbx := Wb.new w 34 [.int .i64 0, .int .i64 0, .string ⟨#[]⟩]
  have Hbx := Lib.hid hbx
  clear hbx
  go_enter Tryz.func161, Tryz.ntmps161
  go_wp2_with fail
  refine (HC.out _).mono ?_
  rintro e w1 ⟨rfl, hb1⟩
  have hbx1 := Hbx.out.below hb1 Hbx.out.lt
  have hbw := (hb0 (.cells #[.int .i64 0, .int .i64 0, .string ⟨#[]⟩] 34)).trans (hb1.mono (by simp))
  have p0 := hbx1.cell 0
  have p1 := hbx1.cell 1
  have p2 := hbx1.cell 2
  simp only [List.getElem?_cons_zero, List.getElem?_cons_succ] at p0 p1 p2
  have f0 := hbx1.open_
  have hl1 := hbx1.lt
  clear hb1 hbx1 Hbx HC hb0
  go_wp2
  refine bodyPost_ret (v := .agg #[.int .i64 0, .int .i64 s.length, .string ⟨s.toArray⟩]) (by simp [results, Tryz.results161, go_sem, p0, p1, p2]) rfl ⟨rfl, ?_⟩
  exact ((hbw.setCell (p := ⟨w.heap.size, 0, none⟩) (Nat.le_refl _) _).setCell (p := ⟨w.heap.size, 1, none⟩) (Nat.le_refl _) _).setCell (p := ⟨w.heap.size, 2, none⟩) (Nat.le_refl _) _
theorem slot1_any (x : Cf.Node) (w : World) :
    Calls Tryz.prog 136 #[.agg (encNd x).toArray] w fun e w' => e = .returned (.bool (Cf.emptyB x)) ∧ Below w.heap.size w w' := by
  obtain ⟨nm, kd, da, un⟩ := x
  simp only [encNd]
  go_enter Tryz.func136, Tryz.ntmps136
  go_wp2
  go_ret
  exact ⟨retB (beqI kd 0), (Below.refl _ _).alloc (Nat.le_refl _) _⟩
theorem free1_any (x : Cf.End) (w : World) :
    Calls Tryz.prog 159 #[.agg (encEn x).toArray] w fun e w' => e = .returned (.bool (Cf.freeB x)) ∧ Below w.heap.size w w' := by
  obtain ⟨kd, nd, po⟩ := x
  simp only [encEn]
  go_enter Tryz.func159, Tryz.ntmps159
  go_wp2
  go_ret
  exact ⟨retB (beqI kd 0), (Below.refl _ _).alloc (Nat.le_refl _) _⟩
theorem proc1_any (x : PV) (w : World) :
    Calls Tryz.prog 160 #[.agg (encPv x).toArray] w fun e w' => e = .returned (.bool (!x.live)) ∧ Below w.heap.size w w' := by
  obtain ⟨lv, A1, le, ce⟩ := x
  simp only [encPv]
  go_enter Tryz.func160, Tryz.ntmps160
  go_wp2
  go_ret
  exact ⟨rfl, (Below.refl _ _).alloc (Nat.le_refl _) _⟩
theorem findSlot_any (k : Cf.Kern) (a : KA) (g : Nat) (w : World) (hP : KPtr w g a k) (hm : k.nodes.length ≤ maxLen) :
    Calls Tryz.prog 109 #[.pointer (some ⟨g, 0, none⟩)] w fun e w' => e = .returned (.int .i64 (Cf.idxT Cf.emptyB k.nodes)) ∧ Below w.heap.size w w' := by
  have H := Lib.hid (ndIdx_any k.nodes a.N a.cn w hP.2.nodes hm k.nodes rfl Cf.emptyB 136 #[]
    (fun i x y w' hx hy hb => by
      obtain rfl := Option.some.inj (hx.symm.trans hy)
      exact slot1_any x w') (fun args w => by simp [go_sem]))
  have hc := hP.c2
  have hl := hP.1.lt
  clear hP
  generalize Cf.idxT Cf.emptyB k.nodes = z at *
  go_enter Tryz.func109, Tryz.ntmps109
  go_wp2_with fail
  refine H.out.mono ?_
  rintro e w1 ⟨rfl, hb⟩
  clear H hc
  go_wp2
  go_ret
  exact ⟨rfl, hb⟩
theorem findFree_any (l : List Cf.End) (A : Option Addr) (cap : Nat) (w : World) (hR : Ends w A l) (hm : l.length ≤ maxLen) :
    Calls Tryz.prog 137 #[.slice A l.length cap] w fun e w' => e = .returned (.int .i64 (Cf.idxT Cf.freeB l)) ∧ Below w.heap.size w w' := by
  have H := Lib.hid (enIdx_any l A cap w hR hm l rfl Cf.freeB 159 #[]
    (fun i x y w' hx hy hb => by
      obtain rfl := Option.some.inj (hx.symm.trans hy)
      exact free1_any x w') (fun args w => by simp [go_sem]))
  clear hR
  generalize Cf.idxT Cf.freeB l = z at *
  go_enter Tryz.func137, Tryz.ntmps137
  go_wp2_with fail
  refine H.out.mono ?_
  rintro e w1 ⟨rfl, hb⟩
  clear H
  go_wp2
  go_ret
  exact ⟨rfl, hb⟩
theorem findProc_any (k : Cf.Kern) (a : KA) (g : Nat) (w : World) (hP : KPtr w g a k) (hm : k.procs.length ≤ maxLen) :
    Calls Tryz.prog 139 #[.pointer (some ⟨g, 0, none⟩)] w fun e w' => e = .returned (.int .i64 (Cf.idxT Cf.deadB k.procs)) ∧ Below w.heap.size w w' := by
  obtain ⟨ps, hps, hpp⟩ := hP.2.procs
  have H := Lib.hid (pvIdx_any ps a.Q a.cq w hps (by rw [hpp.1]; exact hm) k.procs hpp.1 Cf.deadB 160 #[]
    (fun i x y w' hx hy hb => by
      have h := proc1_any x w'
      rw [(hpp.2 i x y hx hy).1] at h
      exact h) (fun args w => by simp [go_sem]))
  have hc := hP.c4
  rw [← hpp.1] at hc
  have hl := hP.1.lt
  clear hP hps hpp
  generalize Cf.idxT Cf.deadB k.procs = z at *
  go_enter Tryz.func139, Tryz.ntmps139
  go_wp2_with fail
  refine H.out.mono ?_
  rintro e w1 ⟨rfl, hb⟩
  clear H hc
  go_wp2
  go_ret
  exact ⟨rfl, hb⟩
set_option maxHeartbeats 1000000 in
theorem findPipe_any (k : Cf.Kern) (a : KA) (g : Nat) (w : World) (hP : KPtr w g a k) (hm : k.pipes.length ≤ maxLen) (hp : k.procs.length ≤ maxLen) (he : ∀ p ∈ k.procs, p.ends.length ≤ maxLen) :
    Calls Tryz.prog 138 #[.pointer (some ⟨g, 0, none⟩)] w fun e w' => e = .returned (.int .i64 (Cf.pipeT' k)) ∧ Below w.heap.size w w' := by
  unfold maxLen at hm
  have hc := hP.c3
  have hl := hP.1.lt
  have HH := Lib.hid (fun W (hW : Below w.heap.size w W) kd nd => hasEnd_any k a g kd nd W (hP.below hW) hp he)
  have HZ := Lib.hid (show Cf.pipeT' k = Cf.idxT (Cf.noEnds k.procs) (List.range k.pipes.length) from rfl)
  clear hP hp he
  go_enter Tryz.func138, Tryz.ntmps138
  go_wp2
  go_loopw [9] (fun i wr => ∃ n : Nat, n ≤ k.pipes.length ∧ i = .int .i64 n ∧ ((List.range k.pipes.length).take n).any (Cf.noEnds k.procs) = false ∧ Below w.heap.size w wr) (fun i _ => k.pipes.length - (intOf i).toNat)
  case atStart => exact ⟨0, by omega, rfl, rfl, Below.refl _ _⟩
  case round =>
    obtain ⟨n, hn, rfl, hall, hbw⟩ := hrel
    have Hall := Lib.hid hall
    clear hall hc
    by_cases hlt : n < k.pipes.length
    · have hx : (List.range k.pipes.length)[n]? = some n := by rw [List.getElem?_range hlt]
      have HX := Lib.hid hx
      have H2 := Lib.hid (HH.out wr hbw 2 n)
      have H3 := Lib.hid (fun W hW => HH.out W hW 3 n)
      have HN := Lib.hid (show Cf.noEnds k.procs n = (!Cf.hasB k.procs 2 n && !Cf.hasB k.procs 3 n) from rfl)
      clear hx
      generalize Cf.hasB k.procs 2 n = q2 at *
      generalize Cf.hasB k.procs 3 n = q3 at *
      go_wp2_with fail
      refine H2.out.mono ?_
      rintro e w1 ⟨rfl, hb1⟩
      have hbw1 := hbw.trans (hb1.mono hbw.size)
      clear hb1 H2
      cases q2
      · go_wp2_with fail
        refine (H3.out _ hbw1).mono ?_
        rintro e w2 ⟨rfl, hb2⟩
        have hbw2 := hbw1.trans (hb2.mono hbw1.size)
        clear hb2 H3
        cases q3
        · have HI := Lib.hid (show Cf.pipeT' k = n by rw [HZ.out]; exact Cf.idx_at HX.out (by rw [HN.out]; rfl) Hall.out)
          go_wp2
          go_ret
          exact ⟨by rw [HI.out]; rfl, hbw2⟩
        · have HA := Lib.hid (Cf.any_on HX.out Hall.out (by rw [HN.out]; rfl))
          go_wp2
          go_roundw
          case rel => exact ⟨n + 1, by omega, by go_num, HA.out, hbw2⟩
          case measure => simp [intOf]; omega
      · have HA := Lib.hid (Cf.any_on HX.out Hall.out (by rw [HN.out]; rfl))
        clear H3
        go_wp2
        go_roundw
        case rel => exact ⟨n + 1, by omega, by go_num, HA.out, hbw1⟩
        case measure => simp [intOf]; omega
    · have HI := Lib.hid (show Cf.pipeT' k = -1 by rw [HZ.out]; exact Cf.idx_none (by have := Hall.out; rwa [List.take_of_length_le (by simp; omega)] at this))
      go_wp2
      go_ret
      exact ⟨by rw [HI.out]; rfl, hbw⟩
end Go.Proofs.YtnnhhbjbdmgpiaaGreatDoor
