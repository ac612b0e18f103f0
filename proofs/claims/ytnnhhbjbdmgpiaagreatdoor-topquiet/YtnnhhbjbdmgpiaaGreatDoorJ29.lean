/- Texts of the proofs: FindX, RelW, ActW, ActX. -/
import Derived.Test.YtnnhhbjbdmgpiaaGreatDoorJ20
import Derived.Test.YtnnhhbjbdmgpiaaGreatDoorJ19
import Derived.Test.YtnnhhbjbdmgpiaaGreatDoorJ23
import Derived.Test.YtnnhhbjbdmgpiaaGreatDoorJ01
import Derived.Test.YtnnhhbjbdmgpiaaGreatDoorJ06
set_option linter.unusedSimpArgs false
set_option linter.unusedVariables false
/- Walks of chapter 5: what else the program finds in a kernel; answers. -/
namespace Go.Proofs.YtnnhhbjbdmgpiaaGreatDoor
set_option maxRecDepth 100000
open Go.RowKit
def encAn (x : Cf.Ans) : List Value := [.int .i64 x.code, .int .i64 x.n, .string ⟨x.data.toArray⟩]
theorem refuse_any (z : Int) (w : World) :
  Calls Tryz.prog 48 #[.int .i64 z] w fun e w' => e = .returned (.agg (encAn ⟨z, 0, []⟩).toArray) ∧ Below w.heap.size w w' := by
 go_enter Tryz.func48, Tryz.ntmps48
 go_wp2
 exact bodyPost_ret (v := .agg #[.int .i64 z, .int .i64 0, .string ⟨#[]⟩]) (by simp [results, Tryz.results48, go_sem]) rfl ⟨rfl, (Below.refl _ _).alloc (by simp) _⟩
theorem answerWith_any (s : List UInt8) (w : World) (hl : s.length ≤ 281474976710656) :
  Calls Tryz.prog 161 #[.string ⟨s.toArray⟩] w fun e w' => e = .returned (.agg (encAn ⟨0, s.length, s⟩).toArray) ∧ Below w.heap.size w w' := by
 have HC := Lib.hid (fun W => cloneS_any s W hl)
 have hb0 : ∀ o : Obj, Below w.heap.size w (w.alloc o) := fun o => (Below.refl _ _).alloc (Nat.le_refl _) _
 have hbx := Wb.new w 34 [.int .i64 0, .int .i64 0, .string ⟨#[]⟩]
 have Hbx := Lib.hid hbx
 clear hbx
 go_enter Tryz.func161, Tryz.ntmps161
 go_wp2_with fail
 refine (HC.out _).mono ?_
 rintro e w1 ⟨rfl, hb1⟩
 have hbx1 := Hbx.out.below hb1 Hbx.out.lt
 have hbw := (hb0 (.cells #[.int .i64 0, .int .i64 0, .string ⟨#[]⟩] 34)).trans (hb1.mono (by simp))
 have p0 := hbx1.cell 0
 have p1 := hbx1.cell 1
 have p2 := hbx1.cell 2
 simp only [List.getElem?_cons_zero, List.getElem?_cons_succ] at p0 p1 p2
 have f0 := hbx1.open_
 have hl1 := hbx1.lt
 clear hb1 hbx1 Hbx HC hb0
 go_wp2
 refine bodyPost_ret (v := .agg #[.int .i64 0, .int .i64 s.length, .string ⟨s.toArray⟩]) (by simp [results, Tryz.results161, go_sem, p0, p1, p2]) rfl ⟨rfl, ?_⟩
 exact ((hbw.setCell (p := ⟨w.heap.size, 0, none⟩) (Nat.le_refl _) _).setCell (p := ⟨w.heap.size, 1, none⟩) (Nat.le_refl _) _).setCell (p := ⟨w.heap.size, 2, none⟩) (Nat.le_refl _) _
theorem slot1_any (x : Cf.Node) (w : World) :
  Calls Tryz.prog 136 #[.agg (encNd x).toArray] w fun e w' => e = .returned (.bool (Cf.emptyB x)) ∧ Below w.heap.size w w' := by
 obtain ⟨nm, kd, da, un⟩ := x
 simp only [encNd]
 go_enter Tryz.func136, Tryz.ntmps136
 go_wp2
 go_ret
 exact ⟨retB (beqI kd 0), (Below.refl _ _).alloc (Nat.le_refl _) _⟩
theorem free1_any (x : Cf.End) (w : World) :
  Calls Tryz.prog 159 #[.agg (encEn x).toArray] w fun e w' => e = .returned (.bool (Cf.freeB x)) ∧ Below w.heap.size w w' := by
 obtain ⟨kd, nd, po⟩ := x
 simp only [encEn]
 go_enter Tryz.func159, Tryz.ntmps159
 go_wp2
 go_ret
 exact ⟨retB (beqI kd 0), (Below.refl _ _).alloc (Nat.le_refl _) _⟩
theorem proc1_any (x : PV) (w : World) :
  Calls Tryz.prog 160 #[.agg (encPv x).toArray] w fun e w' => e = .returned (.bool (!x.live)) ∧ Below w.heap.size w w' := by
 obtain ⟨lv, A1, le, ce⟩ := x
 simp only [encPv]
 go_enter Tryz.func160, Tryz.ntmps160
 go_wp2
 go_ret
 exact ⟨rfl, (Below.refl _ _).alloc (Nat.le_refl _) _⟩
theorem findSlot_any (k : Cf.Kern) (a : KA) (g : Nat) (w : World) (hP : KPtr w g a k) (hm : k.nodes.length ≤ maxLen) :
  Calls Tryz.prog 109 #[.pointer (some ⟨g, 0, none⟩)] w fun e w' => e = .returned (.int .i64 (Cf.idxT Cf.emptyB k.nodes)) ∧ Below w.heap.size w w' := by
 have H := Lib.hid (ndIdx_any k.nodes a.N a.cn w hP.2.nodes hm k.nodes rfl Cf.emptyB 136 #[]
  (fun i x y w' hx hy hb => by
    obtain rfl := Option.some.inj (hx.symm.trans hy)
    exact slot1_any x w') (fun args w => by simp [go_sem]))
 have hc := hP.c2
 have hl := hP.1.lt
 clear hP
 generalize Cf.idxT Cf.emptyB k.nodes = z at *
 go_enter Tryz.func109, Tryz.ntmps109
 go_wp2_with fail
 refine H.out.mono ?_
 rintro e w1 ⟨rfl, hb⟩
 clear H hc
 go_wp2
 go_ret
 exact ⟨rfl, hb⟩
theorem findFree_any (l : List Cf.End) (A : Option Addr) (cap : Nat) (w : World) (hR : Ends w A l) (hm : l.length ≤ maxLen) :
  Calls Tryz.prog 137 #[.slice A l.length cap] w fun e w' => e = .returned (.int .i64 (Cf.idxT Cf.freeB l)) ∧ Below w.heap.size w w' := by
 have H := Lib.hid (enIdx_any l A cap w hR hm l rfl Cf.freeB 159 #[]
  (fun i x y w' hx hy hb => by
    obtain rfl := Option.some.inj (hx.symm.trans hy)
    exact free1_any x w') (fun args w => by simp [go_sem]))
 clear hR
 generalize Cf.idxT Cf.freeB l = z at *
 go_enter Tryz.func137, Tryz.ntmps137
 go_wp2_with fail
 refine H.out.mono ?_
 rintro e w1 ⟨rfl, hb⟩
 clear H
 go_wp2
 go_ret
 exact ⟨rfl, hb⟩
theorem findProc_any (k : Cf.Kern) (a : KA) (g : Nat) (w : World) (hP : KPtr w g a k) (hm : k.procs.length ≤ maxLen) :
  Calls Tryz.prog 139 #[.pointer (some ⟨g, 0, none⟩)] w fun e w' => e = .returned (.int .i64 (Cf.idxT Cf.deadB k.procs)) ∧ Below w.heap.size w w' := by
 obtain ⟨ps, hps, hpp⟩ := hP.2.procs
 have H := Lib.hid (pvIdx_any ps a.Q a.cq w hps (by rw [hpp.1]; exact hm) k.procs hpp.1 Cf.deadB 160 #[]
  (fun i x y w' hx hy hb => by
    have h := proc1_any x w'
    rw [(hpp.2 i x y hx hy).1] at h
    exact h) (fun args w => by simp [go_sem]))
 have hc := hP.c4
 rw [← hpp.1] at hc
 have hl := hP.1.lt
 clear hP hps hpp
 generalize Cf.idxT Cf.deadB k.procs = z at *
 go_enter Tryz.func139, Tryz.ntmps139
 go_wp2_with fail
 refine H.out.mono ?_
 rintro e w1 ⟨rfl, hb⟩
 clear H hc
 go_wp2
 go_ret
 exact ⟨rfl, hb⟩
set_option maxHeartbeats 1000000 in
theorem findPipe_any (k : Cf.Kern) (a : KA) (g : Nat) (w : World) (hP : KPtr w g a k) (hm : k.pipes.length ≤ maxLen) (hp : k.procs.length ≤ maxLen) (he : ∀ p ∈ k.procs, p.ends.length ≤ maxLen) :
  Calls Tryz.prog 138 #[.pointer (some ⟨g, 0, none⟩)] w fun e w' => e = .returned (.int .i64 (Cf.pipeT' k)) ∧ Below w.heap.size w w' := by
 unfold maxLen at hm
 have hc := hP.c3
 have hl := hP.1.lt
 have HH := Lib.hid (fun W (hW : Below w.heap.size w W) kd nd => hasEnd_any k a g kd nd W (hP.below hW) hp he)
 have HZ := Lib.hid (show Cf.pipeT' k = Cf.idxT (Cf.noEnds k.procs) (List.range k.pipes.length) from rfl)
 clear hP hp he
 go_enter Tryz.func138, Tryz.ntmps138
 go_wp2
 go_loopw [9] (fun i wr => ∃ n : Nat, n ≤ k.pipes.length ∧ i = .int .i64 n ∧ ((List.range k.pipes.length).take n).any (Cf.noEnds k.procs) = false ∧ Below w.heap.size w wr) (fun i _ => k.pipes.length - (intOf i).toNat)
 case atStart => exact ⟨0, by omega, rfl, rfl, Below.refl _ _⟩
 case round =>
  obtain ⟨n, hn, rfl, hall, hbw⟩ := hrel
  have Hall := Lib.hid hall
  clear hall hc
  by_cases hlt : n < k.pipes.length
  ·have hx : (List.range k.pipes.length)[n]? = some n := by rw [List.getElem?_range hlt]
   have HX := Lib.hid hx
   have H2 := Lib.hid (HH.out wr hbw 2 n)
   have H3 := Lib.hid (fun W hW => HH.out W hW 3 n)
   have HN := Lib.hid (show Cf.noEnds k.procs n = (!Cf.hasB k.procs 2 n && !Cf.hasB k.procs 3 n) from rfl)
   clear hx
   generalize Cf.hasB k.procs 2 n = q2 at *
   generalize Cf.hasB k.procs 3 n = q3 at *
   go_wp2_with fail
   refine H2.out.mono ?_
   rintro e w1 ⟨rfl, hb1⟩
   have hbw1 := hbw.trans (hb1.mono hbw.size)
   clear hb1 H2
   cases q2
   ·go_wp2_with fail
    refine (H3.out _ hbw1).mono ?_
    rintro e w2 ⟨rfl, hb2⟩
    have hbw2 := hbw1.trans (hb2.mono hbw1.size)
    clear hb2 H3
    cases q3
    ·have HI := Lib.hid (show Cf.pipeT' k = n by rw [HZ.out]; exact Cf.idx_at HX.out (by rw [HN.out]; rfl) Hall.out)
     go_wp2
     go_ret
     exact ⟨by rw [HI.out]; rfl, hbw2⟩
    ·have HA := Lib.hid (Cf.any_on HX.out Hall.out (by rw [HN.out]; rfl))
     go_wp2
     go_roundw
     case rel => exact ⟨n + 1, by omega, by go_num, HA.out, hbw2⟩
     case measure => simp [intOf]; omega
   ·have HA := Lib.hid (Cf.any_on HX.out Hall.out (by rw [HN.out]; rfl))
    clear H3
    go_wp2
    go_roundw
    case rel => exact ⟨n + 1, by omega, by go_num, HA.out, hbw1⟩
    case measure => simp [intOf]; omega
  ·have HI := Lib.hid (show Cf.pipeT' k = -1 by rw [HZ.out]; exact Cf.idx_none (by have := Hall.out; rwa [List.take_of_length_le (by simp; omega)] at this))
   go_wp2
   go_ret
   exact ⟨by rw [HI.out]; rfl, hbw⟩
end Go.Proofs.YtnnhhbjbdmgpiaaGreatDoor
/- Walks of chapter 5: the program's release. -/
namespace Go.Proofs.YtnnhhbjbdmgpiaaGreatDoor
set_option maxRecDepth 100000
open Go.RowKit
def tidN (k : Cf.Kern) (n : Nat) : List Cf.Node := k.nodes.mapIdx fun i x => if i < n then Cf.tidyN k.procs i x else x
def tidS (k : Cf.Kern) (n : Nat) : List (List UInt8) := k.pipes.mapIdx fun i x => if i < n then Cf.tidyP k.procs i x else x
theorem mapIdx_id {α : Type} (l : List α) : l.mapIdx (fun _ x => x) = l := by
 apply List.ext_getElem?
 intro i
 rw [List.getElem?_mapIdx]
 simp
theorem tidN_zero (k : Cf.Kern) : tidN k 0 = k.nodes := by
 unfold tidN
 simp [mapIdx_id]
theorem tidS_zero (k : Cf.Kern) : tidS k 0 = k.pipes := by
 unfold tidS
 simp [mapIdx_id]
theorem tidN_at {k : Cf.Kern} {n i : Nat} : (tidN k n)[i]? = (k.nodes[i]?).map fun x => if i < n then Cf.tidyN k.procs i x else x := List.getElem?_mapIdx
theorem tidS_at {k : Cf.Kern} {n i : Nat} : (tidS k n)[i]? = (k.pipes[i]?).map fun x => if i < n then Cf.tidyP k.procs i x else x := List.getElem?_mapIdx
theorem tidN_len {k : Cf.Kern} {n : Nat} : (tidN k n).length = k.nodes.length := List.length_mapIdx
theorem tidS_len {k : Cf.Kern} {n : Nat} : (tidS k n).length = k.pipes.length := List.length_mapIdx
theorem tidN_next {k : Cf.Kern} {n : Nat} {x : Cf.Node} (hx : k.nodes[n]? = some x) : tidN k (n + 1) = (tidN k n).set n (Cf.tidyN k.procs n x) := by
 apply List.ext_getElem?
 intro i
 rw [tidN_at, List.getElem?_set, tidN_len]
 by_cases h : n = i
 ·subst h
  have := (List.getElem?_eq_some_iff.1 hx).1
  rw [hx]
  simp [this]
 ·rw [if_neg h, tidN_at]
  cases k.nodes[i]? with
  | none => rfl
  | some y =>
    simp only [Option.map_some]
    congr 1
    by_cases h2 : i < n
    ·rw [if_pos h2, if_pos (by omega)]
    ·rw [if_neg h2, if_neg (by omega)]
theorem tidS_next {k : Cf.Kern} {n : Nat} {x : List UInt8} (hx : k.pipes[n]? = some x) : tidS k (n + 1) = (tidS k n).set n (Cf.tidyP k.procs n x) := by
 apply List.ext_getElem?
 intro i
 rw [tidS_at, List.getElem?_set, tidS_len]
 by_cases h : n = i
 ·subst h
  have := (List.getElem?_eq_some_iff.1 hx).1
  rw [hx]
  simp [this]
 ·rw [if_neg h, tidS_at]
  cases k.pipes[i]? with
  | none => rfl
  | some y =>
    simp only [Option.map_some]
    congr 1
    by_cases h2 : i < n
    ·rw [if_pos h2, if_pos (by omega)]
    ·rw [if_neg h2, if_neg (by omega)]
theorem tidN_all (k : Cf.Kern) : tidN k k.nodes.length = k.nodes.mapIdx (Cf.tidyN k.procs) := by
 apply List.ext_getElem?
 intro i
 rw [tidN_at, List.getElem?_mapIdx]
 cases hx : k.nodes[i]? with
 | none => rfl
 | some y => simp [(List.getElem?_eq_some_iff.1 hx).1]
theorem tidS_all (k : Cf.Kern) : tidS k k.pipes.length = k.pipes.mapIdx (Cf.tidyP k.procs) := by
 apply List.ext_getElem?
 intro i
 rw [tidS_at, List.getElem?_mapIdx]
 cases hx : k.pipes[i]? with
 | none => rfl
 | some y => simp [(List.getElem?_eq_some_iff.1 hx).1]
section
variable {B : Nat} {wb : World} {g : Nat} {a : KA} {xs : List MV} {ps : List PV} {k : Cf.Kern} {w : World}
theorem KSt.putNode (h : KSt B wb g a xs ps k w) {gN : Nat} (ha : a.N = some ⟨gN, 0, none⟩) {i : Nat} {x : Cf.Node} (x' : Cf.Node) (hx : k.nodes[i]? = some x) :
  KSt B wb g a xs ps ⟨k.mods, k.mem, k.nodes.set i x', k.pipes, k.procs⟩ ((((w.setCell ⟨gN, i * 4, none⟩ (.string ⟨x'.name.toArray⟩)).setCell ⟨gN, i * 4 + 1, none⟩ (.int .i64 x'.kind)).setCell ⟨gN, i * 4 + 2, none⟩ (.string ⟨x'.data.toArray⟩)).setCell ⟨gN, i * 4 + 3, none⟩ (.int .i64 x'.unit)) := by
 have hi := (List.getElem?_eq_some_iff.1 hx).1
 have at_ : ∀ (l : List Cf.Node) (y : Cf.Node), l.length = k.nodes.length → (l.set i y)[i]? = some y := fun l y hl => by rw [List.getElem?_set, if_pos rfl, if_pos (by omega)]
 have h1 := h.putN ha (j := 0) (x' := ⟨x'.name, x.kind, x.data, x.unit⟩) (u := .string ⟨x'.name.toArray⟩) hx (by omega) rfl
 have h2 := h1.putN ha (j := 1) (x' := ⟨x'.name, x'.kind, x.data, x.unit⟩) (u := .int .i64 x'.kind) (at_ _ _ rfl) (by omega) rfl
 have h3 := h2.putN ha (j := 2) (x' := ⟨x'.name, x'.kind, x'.data, x.unit⟩) (u := .string ⟨x'.data.toArray⟩) (at_ _ _ (by simp)) (by omega) rfl
 have h4 := h3.putN ha (j := 3) (x' := ⟨x'.name, x'.kind, x'.data, x'.unit⟩) (u := .int .i64 x'.unit) (at_ _ _ (by simp)) (by omega) rfl
 simp only [List.set_set] at h4
 exact h4
end
def Kp (w w' : World) : Prop := ∀ (b : Nat) (t : TypeId) (cs : List Value), t ≠ tNode → t ≠ tStr → Wb w b t cs → Wb w' b t cs
theorem Kp.refl (w : World) : Kp w w := fun _ _ _ _ _ h => h
theorem Kp.below {w w' w2 : World} (h : Kp w w') (hb : Below w'.heap.size w' w2) : Kp w w2 := fun b t cs h1 h2 hw => (h b t cs h1 h2 hw).below hb (h b t cs h1 h2 hw).lt
theorem Kp.setN {w w' : World} (h : Kp w w') {gN : Nat} {ds : List Value} {t' : TypeId} (hg : Wb w' gN t' ds) (ht : t' = tNode ∨ t' = tStr) (i : Nat) (u : Value) : Kp w (w'.setCell ⟨gN, i, none⟩ u) := fun b t cs h1 h2 hw => by
 have hb := h b t cs h1 h2 hw
 refine hb.off_ (p := ⟨gN, i, none⟩) (hb.other hg ?_) u
 rcases ht with rfl | rfl
 ·exact h1
 ·exact h2
theorem Kp.set4 {w w' : World} (h : Kp w w') {gN : Nat} {ds : List Value} (hg : Wb w' gN tNode ds) (i0 i1 i2 i3 : Nat) (u0 u1 u2 u3 : Value) : Kp w ((((w'.setCell ⟨gN, i0, none⟩ u0).setCell ⟨gN, i1, none⟩ u1).setCell ⟨gN, i2, none⟩ u2).setCell ⟨gN, i3, none⟩ u3) :=
 (((h.setN hg (.inl rfl) i0 u0).setN (hg.put i0 u0) (.inl rfl) i1 u1).setN ((hg.put i0 u0).put i1 u1) (.inl rfl) i2 u2).setN (((hg.put i0 u0).put i1 u1).put i2 u2) (.inl rfl) i3 u3
set_option maxHeartbeats 4000000 in
theorem release_any {B : Nat} {wb : World} {g : Nat} {a : KA} {xs : List MV} {ps : List PV} (k : Cf.Kern) (w : World) (h : KSt B wb g a xs ps k w) (h8 : k.nodes.length = 8) (h6 : k.pipes.length = 6) (hp : k.procs.length ≤ big) (he : ∀ p ∈ k.procs, p.ends.length ≤ big) :
  Calls Tryz.prog 110 #[.pointer (some ⟨g, 0, none⟩)] w fun e w' => e = .returned (.tuple #[]) ∧ KSt B wb g a xs ps (Cf.tidyT k) w' ∧ Kp w w' := by
 obtain ⟨A, ca, M, cm, N, cn, S, cs, Q, cq⟩ := a
 obtain ⟨gN, hgN, _⟩ := h.own.nodes.at_ (i := 0) (List.getElem?_eq_getElem (by omega))
 obtain ⟨gS, hgS, _⟩ := h.own.pipes.at_ (i := 0) (List.getElem?_eq_getElem (by omega))
 simp only at hgN hgS
 subst hgN hgS
 have HH := Lib.hid (fun (k' : Cf.Kern) (hk : k'.procs = k.procs) W (hW : KSt B wb g ⟨A, ca, M, cm, some ⟨gN, 0, none⟩, cn, some ⟨gS, 0, none⟩, cs, Q, cq⟩ xs ps k' W) kd nd => show Calls Tryz.prog 94 #[.pointer (some ⟨g, 0, none⟩), .int .i64 kd, .int .i64 nd] W fun e w' => e = .returned (.bool (Cf.hasB k.procs kd nd)) ∧ Below W.heap.size W w' by
  have := hasEnd_any k' _ g kd nd W hW.ptr (by rw [hk]; exact Nat.le_trans hp (by unfold big maxLen; omega)) (by rw [hk]; exact fun p hp => Nat.le_trans (he p hp) (by unfold big maxLen; omega))
  rw [hk] at this
  exact this)
 have H0 := Lib.hid (show KSt B wb g ⟨A, ca, M, cm, some ⟨gN, 0, none⟩, cn, some ⟨gS, 0, none⟩, cs, Q, cq⟩ xs ps ⟨k.mods, k.mem, tidN k 0, k.pipes, k.procs⟩ w by rw [tidN_zero]; exact h)
 have HZ := Lib.hid (show Cf.tidyT k = ⟨k.mods, k.mem, tidN k 8, tidS k 6, k.procs⟩ by unfold Cf.tidyT; rw [← h8, ← h6, tidN_all, tidS_all])
 have c2 := h.ptr.c2
 simp only [h8] at c2
 have hl := h.box.lt
 have H8 := Lib.hid h8
 have H6 := Lib.hid h6
 clear h hp he h8 h6
 go_enter Tryz.func110, Tryz.ntmps110
 go_wp2
 clear c2 hl
 go_loopw [10] (fun i wr => ∃ n : Nat, n ≤ 8 ∧ i = .int .i64 n ∧ KSt B wb g ⟨A, ca, M, cm, some ⟨gN, 0, none⟩, cn, some ⟨gS, 0, none⟩, cs, Q, cq⟩ xs ps ⟨k.mods, k.mem, tidN k n, k.pipes, k.procs⟩ wr ∧ Kp w wr) (fun i _ => 8 - (intOf i).toNat)
 case atStart => exact ⟨0, by omega, rfl, H0.out, Kp.refl w⟩
 case round =>
  obtain ⟨n, hnn, rfl, hK, hkp⟩ := hrel
  clear H0
  have HKp := Lib.hid hkp
  clear hkp
  have HK := Lib.hid hK
  have c2 := hK.ptr.c2
  have c3 := hK.ptr.c3
  simp only [tidN_len, H8.out, H6.out] at c2 c3
  have hl := hK.box.lt
  by_cases hlt : n < 8
  ·obtain ⟨nm, kd, da, un, hx⟩ : ∃ nm kd da un, k.nodes[n]? = some ⟨nm, kd, da, un⟩ := ⟨_, _, _, _, List.getElem?_eq_getElem (by rw [H8.out]; exact hlt)⟩
   have hx' : (tidN k n)[n]? = some ⟨nm, kd, da, un⟩ := by rw [tidN_at, hx]; simp
   obtain ⟨gN', hgN, hBN, hNlt, hBk⟩ := hK.own.nodes.at_ hx'
   cases hgN
   have r0 : wr.cell? ⟨gN, n * 4, none⟩ = some (.string ⟨nm.toArray⟩) := hBk.cell hx' (j := 0) rfl
   have r1 : wr.cell? ⟨gN, n * 4 + 1, none⟩ = some (.int .i64 kd) := hBk.cell hx' (j := 1) rfl
   have r2 : wr.cell? ⟨gN, n * 4 + 2, none⟩ = some (.string ⟨da.toArray⟩) := hBk.cell hx' (j := 2) rfl
   have r3 : wr.cell? ⟨gN, n * 4 + 3, none⟩ = some (.int .i64 un) := hBk.cell hx' (j := 3) rfl
   have HK2 := Lib.hid (fun o => hK.below ((Below.refl _ _).alloc (Nat.le_refl _) o))
   have HN := Lib.hid (tidN_next hx)
   have HX := Lib.hid hx'
   have HV := Lib.hid (fun W hW => HH.out ⟨k.mods, k.mem, tidN k n, k.pipes, k.procs⟩ rfl W hW 1 n)
   clear hBk hx hx' hK
   by_cases hm : nm = []
   ·subst hm
    have HT := Lib.hid (show Cf.tidyN k.procs n ⟨[], kd, da, un⟩ = if Cf.hasB k.procs 1 n = false then Cf.noNode else ⟨[], kd, da, un⟩ by unfold Cf.tidyN; simp)
    generalize Cf.hasB k.procs 1 n = q at *
    go_wp2_with fail
    refine (HV.out _ (HK2.out _)).mono ?_
    rintro e w1 ⟨rfl, hb1⟩
    have hK3 := (HK2.out (.cells #[.string ⟨#[]⟩, .int .i64 kd, .string ⟨da.toArray⟩, .int .i64 un] 57)).below hb1
    have HK3 := Lib.hid hK3
    have HKp3 := Lib.hid ((HKp.out.below ((Below.refl _ _).alloc (Nat.le_refl _) (.cells #[.string ⟨#[]⟩, .int .i64 kd, .string ⟨da.toArray⟩, .int .i64 un] 57))).below hb1)
    have d2 := hK3.ptr.c2
    simp only [tidN_len, H8.out] at d2
    have dl := hK3.box.lt
    obtain ⟨gN', hgN, _, hNlt1, hBk1⟩ := hK3.own.nodes.at_ HX.out
    cases hgN
    have s0 : w1.cell? ⟨gN, n * 4, none⟩ = _ := hBk1.cell HX.out (j := 0) rfl
    have s1 : w1.cell? ⟨gN, n * 4 + 1, none⟩ = _ := hBk1.cell HX.out (j := 1) rfl
    have s2 : w1.cell? ⟨gN, n * 4 + 2, none⟩ = _ := hBk1.cell HX.out (j := 2) rfl
    have s3 : w1.cell? ⟨gN, n * 4 + 3, none⟩ = _ := hBk1.cell HX.out (j := 3) rfl
    have sf := hBk1.open_
    obtain ⟨dsN, HwN⟩ : ∃ ds, Hid (Wb w1 gN tNode ds) := hBk1.2.elim fun q hq => ⟨_, Lib.hid hq⟩
    clear hK3 hBk1 hb1 HV HK2 r0 r1 r2 r3
    cases q
    ·have HFin := Lib.hid (HK3.out.putNode rfl Cf.noNode HX.out)
     have HF2 := Lib.hid (show KSt B wb g ⟨A, ca, M, cm, some ⟨gN, 0, none⟩, cn, some ⟨gS, 0, none⟩, cs, Q, cq⟩ xs ps ⟨k.mods, k.mem, tidN k (n + 1), k.pipes, k.procs⟩ _ by rw [HN.out, HT.out]; exact HFin.out)
     clear HFin
     simp only [Cf.noNode] at HF2
     go_wp2
     go_roundw
     case rel => exact ⟨n + 1, by omega, by go_num, HF2.out, HKp3.out.set4 HwN.out _ _ _ _ _ _ _ _⟩
     case measure => simp [intOf]; omega
    ·have HF2 := Lib.hid (show KSt B wb g ⟨A, ca, M, cm, some ⟨gN, 0, none⟩, cn, some ⟨gS, 0, none⟩, cs, Q, cq⟩ xs ps ⟨k.mods, k.mem, tidN k (n + 1), k.pipes, k.procs⟩ w1 by rw [HN.out, HT.out, set_same (by simpa using HX.out)]; exact HK3.out)
     go_wp2
     go_roundw
     case rel => exact ⟨n + 1, by omega, by go_num, HF2.out, HKp3.out⟩
     case measure => simp [intOf]; omega
   ·have hs : ¬ nm.isEmpty = true := by simpa using hm
    have HF2 := Lib.hid (show ∀ o, KSt B wb g ⟨A, ca, M, cm, some ⟨gN, 0, none⟩, cn, some ⟨gS, 0, none⟩, cs, Q, cq⟩ xs ps ⟨k.mods, k.mem, tidN k (n + 1), k.pipes, k.procs⟩ (wr.alloc o) by
     intro o
     have ht : Cf.tidyN k.procs n ⟨nm, kd, da, un⟩ = ⟨nm, kd, da, un⟩ := by unfold Cf.tidyN; simp [hm]
     rw [HN.out, ht, set_same HX.out]
     exact HK2.out o)
    clear hm HV HK2
    go_wp2
    go_roundw
    case rel => exact ⟨n + 1, by omega, by go_num, HF2.out _, HKp.out.below ((Below.refl _ _).alloc (Nat.le_refl _) _)⟩
    case measure => simp [intOf]; omega
  ·obtain rfl : n = 8 := by omega
   have H1 := Lib.hid (show KSt B wb g ⟨A, ca, M, cm, some ⟨gN, 0, none⟩, cn, some ⟨gS, 0, none⟩, cs, Q, cq⟩ xs ps ⟨k.mods, k.mem, tidN k 8, tidS k 0, k.procs⟩ wr by rw [tidS_zero]; exact hK)
   clear hK HK hlt hnn c2
   rw [show ((8 : Nat) : Int) = 8 from rfl]
   go_wp2
   clear c3 hl
   go_loopw [37] (fun i wr => ∃ n : Nat, n ≤ 6 ∧ i = .int .i64 n ∧ KSt B wb g ⟨A, ca, M, cm, some ⟨gN, 0, none⟩, cn, some ⟨gS, 0, none⟩, cs, Q, cq⟩ xs ps ⟨k.mods, k.mem, tidN k 8, tidS k n, k.procs⟩ wr ∧ Kp w wr) (fun i _ => 6 - (intOf i).toNat)
   case atStart => exact ⟨0, by omega, rfl, H1.out, HKp.out⟩
   case round =>
    obtain ⟨n, hnn, rfl, hK, hkp⟩ := hrel
    clear H1 HKp
    have HKp := Lib.hid hkp
    clear hkp
    have HK := Lib.hid hK
    have hl := hK.box.lt
    by_cases hlt : n < 6
    ·obtain ⟨str, hx⟩ : ∃ str, k.pipes[n]? = some str := ⟨_, List.getElem?_eq_getElem (by rw [H6.out]; exact hlt)⟩
     have hx' : (tidS k n)[n]? = some str := by rw [tidS_at, hx]; simp
     have HN := Lib.hid (tidS_next hx)
     have HX := Lib.hid hx'
     have HV := Lib.hid (HH.out ⟨k.mods, k.mem, tidN k 8, tidS k n, k.procs⟩ rfl wr hK 2 n)
     have HT := Lib.hid (show Cf.tidyP k.procs n str = if Cf.hasB k.procs 2 n = false then [] else str from rfl)
     clear hx hx' hK
     generalize Cf.hasB k.procs 2 n = q at *
     go_wp2_with fail
     refine HV.out.mono ?_
     rintro e w1 ⟨rfl, hb1⟩
     have hK3 := HK.out.below hb1
     have HK3 := Lib.hid hK3
     have HKp3 := Lib.hid (HKp.out.below hb1)
     have d3 := hK3.ptr.c3
     simp only [tidS_len, H6.out] at d3
     have dl := hK3.box.lt
     obtain ⟨gS', hgS, _, hSlt1, hBk1⟩ := hK3.own.pipes.at_ HX.out
     cases hgS
     have s0 : w1.cell? ⟨gS, n, none⟩ = some (.string ⟨str.toArray⟩) := by have := hBk1.cell HX.out (j := 0) rfl; simpa using this
     have sf := hBk1.open_
     obtain ⟨dsS, HwS⟩ : ∃ ds, Hid (Wb w1 gS tStr ds) := hBk1.2.elim fun q hq => ⟨_, Lib.hid hq⟩
     clear hK3 hBk1 hb1 HV
     cases q
     ·have HF2 := Lib.hid (show KSt B wb g ⟨A, ca, M, cm, some ⟨gN, 0, none⟩, cn, some ⟨gS, 0, none⟩, cs, Q, cq⟩ xs ps ⟨k.mods, k.mem, tidN k 8, tidS k (n + 1), k.procs⟩ (w1.setCell ⟨gS, n, none⟩ (.string ⟨#[]⟩)) by rw [HN.out, HT.out]; exact HK3.out.putP rfl [] HX.out)
      go_wp2
      go_roundw
      case rel => exact ⟨n + 1, by omega, by go_num, HF2.out, HKp3.out.setN HwS.out (.inr rfl) _ _⟩
      case measure => simp [intOf]; omega
     ·have HF2 := Lib.hid (show KSt B wb g ⟨A, ca, M, cm, some ⟨gN, 0, none⟩, cn, some ⟨gS, 0, none⟩, cs, Q, cq⟩ xs ps ⟨k.mods, k.mem, tidN k 8, tidS k (n + 1), k.procs⟩ w1 by rw [HN.out, HT.out, if_neg (by decide), set_same HX.out]; exact HK3.out)
      go_wp2
      go_roundw
      case rel => exact ⟨n + 1, by omega, by go_num, HF2.out, HKp3.out⟩
      case measure => simp [intOf]; omega
    ·obtain rfl : n = 6 := by omega
     clear hK
     go_wp2
     go_end0
     exact ⟨rfl, by rw [HZ.out]; exact HK.out, HKp.out⟩
end Go.Proofs.YtnnhhbjbdmgpiaaGreatDoor
/- Walks of chapter 5: the program's unlink. -/
namespace Go.Proofs.YtnnhhbjbdmgpiaaGreatDoor
set_option maxRecDepth 100000
open Go.RowKit
abbrev tAns : TypeId := 34
def KpA (w w' : World) : Prop := ∀ (b : Nat) (cs : List Value), Wb w b tAns cs → Wb w' b tAns cs
theorem KpA.refl (w : World) : KpA w w := fun _ _ h => h
theorem KpA.alloc (w : World) (o : Obj) : KpA w (w.alloc o) := fun _ _ h => h.alloc o
theorem KpA.trans {w w1 w2 : World} (h : KpA w w1) (h' : KpA w1 w2) : KpA w w2 := fun b cs hb => h' b cs (h b cs hb)
theorem KpA.below {w w1 w2 : World} (h : KpA w w1) (hb : Below w1.heap.size w1 w2) : KpA w w2 := fun b cs hw => (h b cs hw).below hb (h b cs hw).lt
theorem KpA.draw {w w1 : World} (h : KpA w w1) (n : Nat) : KpA w (w1.drewN n) := fun b cs hw => (h b cs hw).draw n
theorem KpA.offX {w w1 : World} {g : Nat} {t : TypeId} (h : KpA w w1) (hg : ∃ ds, Wb w1 g t ds) (hne : tAns ≠ t) (i : Nat) (u : Value) : KpA w (w1.setCell ⟨g, i, none⟩ u) := fun b cs hw => by
 obtain ⟨ds, hg⟩ := hg
 exact (h b cs hw).off_ (p := ⟨g, i, none⟩) ((h b cs hw).other hg hne) u
theorem KpA.offX3 {w w1 : World} {g : Nat} {t : TypeId} (h : KpA w w1) (hg : ∃ ds, Wb w1 g t ds) (hne : tAns ≠ t) (i j l : Nat) (u v x : Value) : KpA w (((w1.setCell ⟨g, i, none⟩ u).setCell ⟨g, j, none⟩ v).setCell ⟨g, l, none⟩ x) := by
 obtain ⟨ds, hg⟩ := hg
 exact ((h.offX ⟨ds, hg⟩ hne i u).offX ⟨_, hg.put i u⟩ hne j v).offX ⟨_, (hg.put i u).put j v⟩ hne l x
theorem KpA.offX4 {w w1 : World} {g : Nat} {t : TypeId} (h : KpA w w1) (hg : ∃ ds, Wb w1 g t ds) (hne : tAns ≠ t) (i j l m : Nat) (u v x y : Value) : KpA w ((((w1.setCell ⟨g, i, none⟩ u).setCell ⟨g, j, none⟩ v).setCell ⟨g, l, none⟩ x).setCell ⟨g, m, none⟩ y) := by
 obtain ⟨ds, hg⟩ := hg
 exact (h.offX3 ⟨ds, hg⟩ hne i j l u v x).offX ⟨_, ((hg.put i u).put j v).put l x⟩ hne m y
def ActFin (B : Nat) (wb : World) (g : Nat) (w : World) (k : Cf.Kern) (w' : World) : Prop := (∃ a xs ps, KSt B wb g a xs ps k w') ∧ KpA w w'
theorem ActFin.draw {B : Nat} {wb : World} {g : Nat} {w w' : World} {k : Cf.Kern} (h : ActFin B wb g w k w') : ActFin B wb g w k w'.drew := by
 obtain ⟨⟨a, xs, ps, h⟩, hk⟩ := h
 exact ⟨⟨a, xs, ps, h.below (Below.refl _ _).drew⟩, hk.draw 1⟩
def ActPost (B : Nat) (wb : World) (g : Nat) (w : World) (d : Cf.Did) (e : Ending) (w' : World) : Prop := e = .returned (.agg (encAn d.ans).toArray) ∧ ActFin B wb g w d.kern w'
theorem lim_max {n : Nat} (h : n ≤ 1024) : n ≤ maxLen := by unfold maxLen; omega
theorem lim_big {n : Nat} (h : n ≤ 1024) : n ≤ big := by unfold big; omega
section
variable {B : Nat} {wb : World} {g : Nat} {a : KA} {xs : List MV} {ps : List PV} {k : Cf.Kern} {w : World}
theorem KSt.offT (h : KSt B wb g a xs ps k w) {b : Nat} {t : TypeId} {cs : List Value} (hb : Wb w b t cs) (hB : B ≤ b) (n1 : tKern ≠ t) (n2 : tMod ≠ t) (n3 : tIns ≠ t) (n4 : tInt ≠ t) (n5 : tNode ≠ t) (n6 : tStr ≠ t) (n7 : tProc ≠ t) (n8 : tEnd ≠ t) (i : Nat) (u : Value) : KSt B wb g a xs ps k (w.setCell ⟨b, i, none⟩ u) :=
 ⟨h.box.off_ (p := ⟨b, i, none⟩) (h.box.other hb n1) u, ⟨own_setCell h.own.row (own_off h.own.row hb n2) u, h.own.each.offM hb n3 n4 i u, h.own.mem.offW hb n4 i u, h.own.nodes.offW hb n5 i u, h.own.pipes.offW hb n6 i u, h.own.procs.offW hb n7 i u, h.own.ends.offE hb n8 i u, h.own.apart, h.own.dat, h.own.capM⟩, h.lo, h.keep.setCell hB u⟩
theorem KSt.ans (h : KSt B wb g a xs ps k w) {b : Nat} {cs : List Value} (hb : Wb w b tAns cs) (hB : B ≤ b) (v0 v1 v2 : Value) : KSt B wb g a xs ps k (((w.setCell ⟨b, 0, none⟩ v0).setCell ⟨b, 1, none⟩ v1).setCell ⟨b, 2, none⟩ v2) :=
 ((h.offT hb hB (by decide) (by decide) (by decide) (by decide) (by decide) (by decide) (by decide) (by decide) 0 v0).offT (hb.put 0 v0) hB (by decide) (by decide) (by decide) (by decide) (by decide) (by decide) (by decide) (by decide) 1 v1).offT ((hb.put 0 v0).put 1 v1) hB (by decide) (by decide) (by decide) (by decide) (by decide) (by decide) (by decide) (by decide) 2 v2
end
theorem fin_ans {B : Nat} {wb : World} {g : Nat} {a : KA} {xs : List MV} {ps : List PV} {k : Cf.Kern} {w w0 W : World} {b : Nat} {cs : List Value} (h : KSt B wb g a xs ps k W) (hA : KpA w0 W) (hw : KpA w w0) (hb : Wb w0 b tAns cs) (hl : w.heap.size ≤ b) (hB : B ≤ b) (v0 v1 v2 : Value) :
  ActFin B wb g w k (((W.setCell ⟨b, 0, none⟩ v0).setCell ⟨b, 1, none⟩ v1).setCell ⟨b, 2, none⟩ v2) := by
 refine ⟨⟨a, xs, ps, h.ans (hA b cs hb) hB v0 v1 v2⟩, fun b' cs' hb' => ?_⟩
 have hne : b' ≠ b := by have := hb'.lt; omega
 exact (((hA b' cs' (hw b' cs' hb')).off_ (p := ⟨b, 0, none⟩) hne v0).off_ (p := ⟨b, 1, none⟩) hne v1).off_ (p := ⟨b, 2, none⟩) hne v2
set_option maxHeartbeats 2000000 in
theorem unlink_any {B : Nat} {wb : World} {g : Nat} {a : KA} {xs : List MV} {ps : List PV} (k : Cf.Kern) (w : World) (name : List UInt8) (h : KSt B wb g a xs ps k w) (hG : Cf.Good k) :
  Calls Tryz.prog 69 #[.pointer (some ⟨g, 0, none⟩), .string ⟨name.toArray⟩] w (ActPost B wb g w (Cf.unlinkT k name)) := by
 obtain ⟨A, ca, M, cm, N, cn, S, cs, Q, cq⟩ := a
 obtain ⟨gN, hgN, _⟩ := h.own.nodes.at_ (i := 0) (List.getElem?_eq_getElem (by rw [hG.nodesL]; omega))
 simp only at hgN
 subst hgN
 have H := Lib.hid h
 have HW0 := Lib.hid (show Below w.heap.size w (w.alloc (.cells #[.int .i64 0, .int .i64 0, .string ⟨#[]⟩] tAns)) from (Below.refl _ _).alloc (Nat.le_refl _) _)
 have HXB := Lib.hid (Wb.new w tAns [.int .i64 0, .int .i64 0, .string ⟨#[]⟩])
 have HXw := Lib.hid (KpA.alloc w (.cells #[.int .i64 0, .int .i64 0, .string ⟨#[]⟩] tAns))
 have HX0 := Lib.hid (KpA.refl (w.alloc (.cells #[.int .i64 0, .int .i64 0, .string ⟨#[]⟩] tAns)))
 have hroom := h.room
 have hlow : w.heap.size ≤ w.heap.size := Nat.le_refl _
 have HG := Lib.hid hG
 have HE := Lib.hid (show ∀ p ∈ k.procs, p.ends.length ≤ big from fun p hp => lim_big (by rw [hG.ends p hp]; omega))
 have HF := Lib.hid (fun W (hW : Below w.heap.size w W) => findFile_any k _ g name W (h.below hW).ptr (lim_max (by rw [hG.nodesL]; omega)))
 clear h hG
 rcases Cf.idx_cases (Cf.namedB name) k.nodes with ⟨_, hz⟩ | ⟨i, x, hz, hx, hn, _⟩
 ·have HD := Lib.hid (show Cf.unlinkT k name = Cf.refuseT k 6 by unfold Cf.unlinkT; rw [hz, if_pos (by omega)])
  rw [HD.out]
  rw [hz] at HF
  clear hz HD HG HE
  go_enter Tryz.func69, Tryz.ntmps69
  go_wp2_with fail
  refine (HF.out _ HW0.out).mono ?_
  rintro e w1 ⟨rfl, hb1⟩
  have HW1 := Lib.hid (HW0.out.trans (hb1.mono (HW0.out).size))
  have HX1 := Lib.hid (HX0.out.below hb1)
  clear hb1 HW0 HX0 HF
  go_wp2_with fail
  refine (refuse_any 6 _).mono ?_
  rintro e w2 ⟨rfl, hb2⟩
  have HW2 := Lib.hid (HW1.out.trans (hb2.mono (HW1.out).size))
  have HX2 := Lib.hid (HX1.out.below hb2)
  simp only [encAn]
  clear hb2 HW1 HX1
  have HK2 := Lib.hid (H.out.below HW2.out)
  have hX9 := HX2.out _ _ HXB.out
  have HFin := Lib.hid (fin_ans HK2.out HX2.out HXw.out HXB.out hlow hroom)
  have p0 := hX9.cell 0
  have p1 := hX9.cell 1
  have p2 := hX9.cell 2
  simp only [List.getElem?_cons_zero, List.getElem?_cons_succ] at p0 p1 p2
  have f0 := hX9.open_
  have hl9 := hX9.lt
  clear hX9 HK2 HX2 HXw HXB   HW2
  go_wp2
  refine bodyPost_ret (v := .agg #[.int .i64 6, .int .i64 0, .string ⟨#[]⟩]) (by simp [results, Tryz.results69, go_sem, p0, p1, p2]) rfl ?_
  exact ⟨rfl, by (show ActFin _ _ _ _ k _); with_reducible exact HFin.out _ _ _⟩
 ·have hnd : Cf.nodeAt k i = x := by rw [Cf.nodeAt, List.getD_eq_getElem?_getD, hx]; rfl
  obtain ⟨k2, hk2⟩ : ∃ k2 : Cf.Kern, k2 = ⟨k.mods, k.mem, k.nodes.set i ⟨[], x.kind, x.data, x.unit⟩, k.pipes, k.procs⟩ := ⟨_, rfl⟩
  have HD := Lib.hid (show Cf.unlinkT k name = ⟨Cf.tidyT k2, Cf.noAns⟩ by
   unfold Cf.unlinkT
   rw [hz, if_neg (by omega), Int.toNat_natCast, hnd, hk2]
   rfl)
  rw [HD.out]
  rw [hz] at HF
  have hi8 : i < 8 := by rw [← HG.out.nodesL]; exact (List.getElem?_eq_some_iff.1 hx).1
  have HX := Lib.hid hx
  have HE2 := Lib.hid hk2
  clear hz HD hnd hx hn hk2
  go_enter Tryz.func69, Tryz.ntmps69
  go_wp2_with fail
  refine (HF.out _ HW0.out).mono ?_
  rintro e w1 ⟨rfl, hb1⟩
  have HW1 := Lib.hid (HW0.out.trans (hb1.mono (HW0.out).size))
  have HX1 := Lib.hid (HX0.out.below hb1)
  clear hb1 HW0 HX0 HF
  have HK1 := Lib.hid (H.out.below HW1.out)
  have c2 := HK1.out.ptr.c2
  simp only [HG.out.nodesL] at c2
  have hl := HK1.out.box.lt
  obtain ⟨gN', hgN, _, hNlt, hBk⟩ := HK1.out.own.nodes.at_ HX.out
  cases hgN
  have r0 : w1.cell? ⟨gN, i * 4, none⟩ = _ := hBk.cell HX.out (j := 0) rfl
  have sf := hBk.open_
  have HwN := Lib.hid (hBk.2.elim fun q hq => (⟨_, hq⟩ : ∃ ds, Wb w1 gN tNode ds))
  have hK2 := HK1.out.putN rfl (j := 0) (x' := ⟨[], x.kind, x.data, x.unit⟩) (u := .string ⟨#[]⟩) HX.out (by omega) rfl
  rw [← HE2.out] at hK2
  have HK2 := Lib.hid hK2
  have HX2 := Lib.hid (HX1.out.offX HwN.out (by decide) (i * 4) (.string ⟨#[]⟩))
  have HR := Lib.hid (release_any _ _ HK2.out (by rw [HE2.out]; simp [HG.out.nodesL]) (by rw [HE2.out]; exact HG.out.pipesL) (lim_big (by rw [HE2.out]; show k.procs.length ≤ 1024; rw [HG.out.procsL]; omega)) (by rw [HE2.out]; exact HE.out))
  clear hBk HwN HX1 hK2 HK2 HE2 HK1
  go_wp2_with fail
  refine HR.out.mono ?_
  rintro e w3 ⟨rfl, hK3, hkp⟩
  have HK3 := Lib.hid hK3
  have HX3 := Lib.hid (HX2.out.trans fun b cs hb => hkp b tAns cs (by decide) (by decide) hb)
  clear hK3 hkp HX2 HR c2 hl r0 sf
  have hX9 := HX3.out _ _ HXB.out
  have HFin := Lib.hid (fin_ans HK3.out HX3.out HXw.out HXB.out hlow hroom)
  have p0 := hX9.cell 0
  have p1 := hX9.cell 1
  have p2 := hX9.cell 2
  simp only [List.getElem?_cons_zero, List.getElem?_cons_succ] at p0 p1 p2
  have f0 := hX9.open_
  have hl9 := hX9.lt
  clear hX9 HK3 HX3 HXw HXB
  go_wp2
  refine bodyPost_ret (v := .agg #[.int .i64 0, .int .i64 0, .string ⟨#[]⟩]) (by simp [results, Tryz.results69, go_sem, p0, p1, p2]) rfl ?_
  exact ⟨rfl, by (show ActFin _ _ _ _ (Cf.tidyT k2) _); with_reducible exact HFin.out _ _ _⟩
end Go.Proofs.YtnnhhbjbdmgpiaaGreatDoor
/- Walks of chapter 5: the program's openFile. (tools/gen/actx.py) -/
namespace Go.Proofs.YtnnhhbjbdmgpiaaGreatDoor
set_option maxRecDepth 100000
open Go.RowKit
section
variable {B : Nat} {wb : World} {g : Nat} {a : KA} {xs : List MV} {ps : List PV} {k : Cf.Kern} {w : World}
theorem KSt.putEnd (h : KSt B wb g a xs ps k w) {q i : Nat} {x : PV} {p : Cf.Proc} (hx : ps[q]? = some x) (hp : k.procs[q]? = some p) {gE : Nat} (ha : x.A = some ⟨gE, 0, none⟩) {e : Cf.End} (e' : Cf.End) (he : p.ends[i]? = some e) :
  KSt B wb g a xs ps ⟨k.mods, k.mem, k.nodes, k.pipes, k.procs.set q ⟨p.live, p.ends.set i e'⟩⟩ (((w.setCell ⟨gE, i * 3, none⟩ (.int .i64 e'.kind)).setCell ⟨gE, i * 3 + 1, none⟩ (.int .i64 e'.node)).setCell ⟨gE, i * 3 + 2, none⟩ (.int .i64 e'.pos)) := by
 have hq := (List.getElem?_eq_some_iff.1 hp).1
 have hi := (List.getElem?_eq_some_iff.1 he).1
 have atP : ∀ (l : List Cf.Proc) (y : Cf.Proc), l.length = k.procs.length → (l.set q y)[q]? = some y := fun l y hl => by rw [List.getElem?_set, if_pos rfl, if_pos (by omega)]
 have atE : ∀ (l : List Cf.End) (y : Cf.End), l.length = p.ends.length → (l.set i y)[i]? = some y := fun l y hl => by rw [List.getElem?_set, if_pos rfl, if_pos (by omega)]
 have h1 := h.putE hx hp ha (j := 0) (e' := ⟨e'.kind, e.node, e.pos⟩) (u := .int .i64 e'.kind) he (by omega) rfl
 have h2 := h1.putE hx (atP _ _ rfl) ha (j := 1) (e' := ⟨e'.kind, e'.node, e.pos⟩) (u := .int .i64 e'.node) (atE _ _ rfl) (by omega) rfl
 have h3 := h2.putE hx (atP _ _ (by simp)) ha (j := 2) (e' := ⟨e'.kind, e'.node, e'.pos⟩) (u := .int .i64 e'.pos) (atE _ _ (by simp)) (by omega) rfl
 simp only [List.set_set] at h3
 exact h3
structure PAt (a : KA) (ps : List PV) (k : Cf.Kern) (q gQ gE ce : Nat) (lv : Bool) (es : List Cf.End) : Prop where
 Q : a.Q = some ⟨gQ, 0, none⟩
 pv : ps[q]? = some ⟨lv, some ⟨gE, 0, none⟩, 6, ce⟩
 proc : k.procs[q]? = some ⟨lv, es⟩
 len : es.length = 6
 is_ : Cf.procAt k q = ⟨lv, es⟩
 cap : 6 ≤ ce
theorem KSt.pat (h : KSt B wb g a xs ps k w) (hG : Cf.Pre k) {q gQ : Nat} (hq : q < 4) (hQ : a.Q = some ⟨gQ, 0, none⟩) : ∃ gE ce lv es, PAt a ps k q gQ gE ce lv es := by
 have hl : q < ps.length := by rw [h.own.ends.1, hG.procsL]; exact hq
 have hx : ps[q]? = some ps[q] := List.getElem?_eq_getElem hl
 obtain ⟨e1, e2, e3, e4⟩ := h.own.ends.2 q _ _ hx (hG.at_ hq)
 have h6 := hG.ends _ (hG.mem_ hq)
 obtain ⟨gE, hE, _, _, _⟩ := e3.at_ (i := 0) (List.getElem?_eq_getElem (by rw [h6]; omega))
 rw [h6] at e2
 refine ⟨gE, ps[q].ce, (Cf.procAt k q).live, (Cf.procAt k q).ends, hQ, ?_, hG.at_ hq, h6, rfl, by rw [e2] at e4; exact e4⟩
 rw [hx, ← e1, ← hE, ← e2]
theorem KSt.Bp (h : KSt B wb g a xs ps k w) {q gQ gE ce : Nat} {lv : Bool} {es : List Cf.End} (hP : PAt a ps k q gQ gE ce lv es) : Bk 2 encPv w gQ tProc ps := by
 obtain ⟨g', h1, _, _, h2⟩ := h.own.procs.at_ hP.pv
 rw [hP.Q] at h1
 cases h1
 exact h2
theorem KSt.Be (h : KSt B wb g a xs ps k w) {q gQ gE ce : Nat} {lv : Bool} {es : List Cf.End} (hP : PAt a ps k q gQ gE ce lv es) : Bk 3 encEn w gE tEnd es := by
 obtain ⟨_, _, e3, _⟩ := h.own.ends.2 q _ _ hP.pv hP.proc
 obtain ⟨g', h1, _, _, h2⟩ := e3.at_ (i := 0) (List.getElem?_eq_getElem (by show 0 < es.length; rw [hP.len]; omega))
 cases h1
 exact h2
theorem KSt.p1 (h : KSt B wb g a xs ps k w) {q gQ gE ce : Nat} {lv : Bool} {es : List Cf.End} (hP : PAt a ps k q gQ gE ce lv es) : w.cell? ⟨gQ, q * 2 + 1, none⟩ = some (.slice (some ⟨gE, 0, none⟩) 6 ce) := (h.Bp hP).cell hP.pv rfl
theorem KSt.Bn (h : KSt B wb g a xs ps k w) {gN i : Nat} {x : Cf.Node} (hN : a.N = some ⟨gN, 0, none⟩) (hx : k.nodes[i]? = some x) : Bk 4 encNd w gN tNode k.nodes := by
 obtain ⟨g', h1, _, _, h2⟩ := h.own.nodes.at_ hx
 rw [hN] at h1
 cases h1
 exact h2
theorem KSt.Bs (h : KSt B wb g a xs ps k w) {gS i : Nat} {x : List UInt8} (hS : a.S = some ⟨gS, 0, none⟩) (hx : k.pipes[i]? = some x) : Bk 1 encSt w gS tStr k.pipes := by
 obtain ⟨g', h1, _, _, h2⟩ := h.own.pipes.at_ hx
 rw [hS] at h1
 cases h1
 exact h2
theorem Bk.box {α : Type} {sz : Nat} {enc : α → List Value} {w : World} {g : Nat} {t : TypeId} {l : List α} (h : Bk sz enc w g t l) : ∃ ds, Wb w g t ds := h.2.elim fun q hq => ⟨_, hq⟩
end
set_option maxHeartbeats 1000000 in
theorem openFile_any {B : Nat} {wb : World} {g : Nat} {a : KA} {xs : List MV} {ps : List PV} (k : Cf.Kern) (q gQ : Nat) (w : World) (name : List UInt8) (h : KSt B wb g a xs ps k w) (hG : Cf.Good k) (hq : q < 4) (hQ : a.Q = some ⟨gQ, 0, none⟩) (hnl : name.length ≤ maxLen) :
  Calls Tryz.prog 111 #[.pointer (some ⟨g, 0, none⟩), .pointer (some ⟨gQ, q * 2, none⟩), .string ⟨name.toArray⟩] w (ActPost B wb g w (Cf.openT k q name)) := by
 obtain ⟨A, ca, M, cm, N, cn, S, cs, Q, cq⟩ := a
 simp only at hQ
 subst hQ
 obtain ⟨gE, ce, lv, es, hP⟩ := h.pat hG.toPre hq rfl
 have hb0 : ∀ o : Obj, Below w.heap.size w (w.alloc o) := fun o => (Below.refl _ _).alloc (Nat.le_refl _) _
 have HXB := Lib.hid (Wb.new w tAns [.int .i64 0, .int .i64 0, .string ⟨#[]⟩])
 have HXw := Lib.hid (KpA.alloc w (.cells #[.int .i64 0, .int .i64 0, .string ⟨#[]⟩] tAns))
 have HX0 := Lib.hid (KpA.refl (w.alloc (.cells #[.int .i64 0, .int .i64 0, .string ⟨#[]⟩] tAns)))
 have HK0 := Lib.hid (h.below (hb0 (.cells #[.int .i64 0, .int .i64 0, .string ⟨#[]⟩] tAns)))
 have hroom := h.room
 have hlow : w.heap.size ≤ w.heap.size := Nat.le_refl _
 have HG := Lib.hid hG
 have HP := Lib.hid hP
 have HNm := Lib.hid (fun W => pname_any name hnl W)
 have HFf := Lib.hid (fun W (hW : KSt B wb g ⟨A, ca, M, cm, N, cn, S, cs, some ⟨gQ, 0, none⟩, cq⟩ xs ps k W) => findFile_any k _ g name W hW.ptr (lim_max (by rw [hG.nodesL]; omega)))
 have HFr := Lib.hid (fun W (hW : KSt B wb g ⟨A, ca, M, cm, N, cn, S, cs, some ⟨gQ, 0, none⟩, cq⟩ xs ps k W) => show Calls Tryz.prog 137 #[.slice (some ⟨gE, 0, none⟩) 6 ce] W (fun e w' => e = .returned (.int .i64 (Cf.idxT Cf.freeB es)) ∧ Below W.heap.size W w') by
  have := findFree_any es (some ⟨gE, 0, none⟩) ce W (hW.Be hP).rd (by rw [hP.len]; unfold maxLen; omega)
  rw [hP.len] at this
  exact this)
 have HT := Lib.hid (show Cf.openT k q name = if Cf.nameB name = false then Cf.refuseT k 4 else if Cf.idxT (Cf.namedB name) k.nodes < 0 then Cf.refuseT k 6 else if Cf.idxT Cf.freeB es < 0 then Cf.refuseT k 8
  else ⟨⟨k.mods, k.mem, k.nodes, k.pipes, k.procs.set q ⟨lv, es.set (Cf.idxT Cf.freeB es).toNat ⟨1, Cf.idxT (Cf.namedB name) k.nodes, 0⟩⟩⟩, ⟨0, Cf.idxT Cf.freeB es, []⟩⟩ by
  unfold Cf.openT Cf.setEnd Cf.setProc
  rw [hP.is_])
 have HI := Lib.hid (Cf.idx_cases Cf.freeB es)
 clear h hG hP hb0 hnl
 generalize Cf.nameB name = b at *
 generalize Cf.idxT (Cf.namedB name) k.nodes = z1 at *
 generalize Cf.idxT Cf.freeB es = z2 at *
 cases b
 ·rw [HT.out, if_pos rfl]
  clear HT HFf HFr HI HG HP
  go_enter Tryz.func111, Tryz.ntmps111
  go_wp2_with fail
  refine (HNm.out _).mono ?_
  rintro e w1 ⟨rfl, hb1⟩
  have HK1 := Lib.hid (HK0.out.below hb1)
  have HX1 := Lib.hid (HX0.out.below hb1)
  clear hb1 HK0 HX0 HNm
  go_wp2_with fail
  refine (refuse_any 4 _).mono ?_
  rintro e w2 ⟨rfl, hb2⟩
  have HK2 := Lib.hid (HK1.out.below hb2)
  have HX2 := Lib.hid (HX1.out.below hb2)
  simp only [encAn]
  clear hb2 HK1 HX1
  have hX9 := HX2.out _ _ HXB.out
  have HFin := Lib.hid (fin_ans HK2.out HX2.out HXw.out HXB.out hlow hroom)
  have p0 := hX9.cell 0
  have p1 := hX9.cell 1
  have p2 := hX9.cell 2
  simp only [List.getElem?_cons_zero, List.getElem?_cons_succ] at p0 p1 p2
  have f0 := hX9.open_
  have hl9 := hX9.lt
  clear hX9 HK2 HX2 HXw HXB
  go_wp2
  refine bodyPost_ret (v := .agg #[.int .i64 4, .int .i64 0, .string ⟨#[]⟩]) (by simp [results, Tryz.results111, go_sem, p0, p1, p2]) rfl ?_
  exact ⟨rfl, by (show ActFin _ _ _ _ k _); with_reducible exact HFin.out _ _ _⟩
 ·rw [HT.out, if_neg (by decide)]
  by_cases hz1 : z1 < 0
  ·rw [if_pos hz1]
   clear HT HFr HI HG HP
   go_enter Tryz.func111, Tryz.ntmps111
   go_wp2_with fail
   refine (HNm.out _).mono ?_
   rintro e w1 ⟨rfl, hb1⟩
   have HK1 := Lib.hid (HK0.out.below hb1)
   have HX1 := Lib.hid (HX0.out.below hb1)
   clear hb1 HK0 HX0 HNm
   go_wp2_with fail
   refine (HFf.out _ HK1.out).mono ?_
   rintro e w2 ⟨rfl, hb2⟩
   have HK2 := Lib.hid (HK1.out.below hb2)
   have HX2 := Lib.hid (HX1.out.below hb2)
   clear hb2 HK1 HX1 HFf
   go_wp2_with fail
   refine (refuse_any 6 _).mono ?_
   rintro e w3 ⟨rfl, hb3⟩
   have HK3 := Lib.hid (HK2.out.below hb3)
   have HX3 := Lib.hid (HX2.out.below hb3)
   simp only [encAn]
   clear hb3 HK2 HX2
   have hX9 := HX3.out _ _ HXB.out
   have HFin := Lib.hid (fin_ans HK3.out HX3.out HXw.out HXB.out hlow hroom)
   have p0 := hX9.cell 0
   have p1 := hX9.cell 1
   have p2 := hX9.cell 2
   simp only [List.getElem?_cons_zero, List.getElem?_cons_succ] at p0 p1 p2
   have f0 := hX9.open_
   have hl9 := hX9.lt
   clear hX9 HK3 HX3 HXw HXB
   go_wp2
   refine bodyPost_ret (v := .agg #[.int .i64 6, .int .i64 0, .string ⟨#[]⟩]) (by simp [results, Tryz.results111, go_sem, p0, p1, p2]) rfl ?_
   exact ⟨rfl, by (show ActFin _ _ _ _ k _); with_reducible exact HFin.out _ _ _⟩
  ·rw [if_neg hz1]
   by_cases hz2 : z2 < 0
   ·rw [if_pos hz2]
    clear HT HI HG
    go_enter Tryz.func111, Tryz.ntmps111
    go_wp2_with fail
    refine (HNm.out _).mono ?_
    rintro e w1 ⟨rfl, hb1⟩
    have HK1 := Lib.hid (HK0.out.below hb1)
    have HX1 := Lib.hid (HX0.out.below hb1)
    clear hb1 HK0 HX0 HNm
    go_wp2_with fail
    refine (HFf.out _ HK1.out).mono ?_
    rintro e w2 ⟨rfl, hb2⟩
    have HK2 := Lib.hid (HK1.out.below hb2)
    have HX2 := Lib.hid (HX1.out.below hb2)
    clear hb2 HK1 HX1 HFf
    have q1 := HK2.out.p1 HP.out
    have ql := (HK2.out.Bp HP.out).lt
    go_wp2_with fail
    refine (HFr.out _ HK2.out).mono ?_
    rintro e w3 ⟨rfl, hb3⟩
    have HK3 := Lib.hid (HK2.out.below hb3)
    have HX3 := Lib.hid (HX2.out.below hb3)
    clear hb3 HK2 HX2 HFr q1 ql
    go_wp2_with fail
    refine (refuse_any 8 _).mono ?_
    rintro e w4 ⟨rfl, hb4⟩
    have HK4 := Lib.hid (HK3.out.below hb4)
    have HX4 := Lib.hid (HX3.out.below hb4)
    simp only [encAn]
    clear hb4 HK3 HX3 HP
    have hX9 := HX4.out _ _ HXB.out
    have HFin := Lib.hid (fin_ans HK4.out HX4.out HXw.out HXB.out hlow hroom)
    have p0 := hX9.cell 0
    have p1 := hX9.cell 1
    have p2 := hX9.cell 2
    simp only [List.getElem?_cons_zero, List.getElem?_cons_succ] at p0 p1 p2
    have f0 := hX9.open_
    have hl9 := hX9.lt
    clear hX9 HK4 HX4 HXw HXB
    go_wp2
    refine bodyPost_ret (v := .agg #[.int .i64 8, .int .i64 0, .string ⟨#[]⟩]) (by simp [results, Tryz.results111, go_sem, p0, p1, p2]) rfl ?_
    exact ⟨rfl, by (show ActFin _ _ _ _ k _); with_reducible exact HFin.out _ _ _⟩
   ·rw [if_neg hz2]
    obtain ⟨_, hzz⟩ | ⟨i, x, hzi, hxi, hfr, _⟩ := HI.out
    ·omega
    have hi6 : i < 6 := by rw [← HP.out.len]; exact (List.getElem?_eq_some_iff.1 hxi).1
    have HXi := Lib.hid hxi
    subst hzi
    rw [Int.toNat_natCast]
    clear HT HI HG hxi hfr hz2
    go_enter Tryz.func111, Tryz.ntmps111
    go_wp2_with fail
    refine (HNm.out _).mono ?_
    rintro e w1 ⟨rfl, hb1⟩
    have HK1 := Lib.hid (HK0.out.below hb1)
    have HX1 := Lib.hid (HX0.out.below hb1)
    clear hb1 HK0 HX0 HNm
    go_wp2_with fail
    refine (HFf.out _ HK1.out).mono ?_
    rintro e w2 ⟨rfl, hb2⟩
    have HK2 := Lib.hid (HK1.out.below hb2)
    have HX2 := Lib.hid (HX1.out.below hb2)
    clear hb2 HK1 HX1 HFf
    have q1 := HK2.out.p1 HP.out
    have ql := (HK2.out.Bp HP.out).lt
    go_wp2_with fail
    refine (HFr.out _ HK2.out).mono ?_
    rintro e w3 ⟨rfl, hb3⟩
    have HK3 := Lib.hid (HK2.out.below hb3)
    have HX3 := Lib.hid (HX2.out.below hb3)
    clear hb3 HK2 HX2 HFr q1 ql
    have q1 := HK3.out.p1 HP.out
    have ql := (HK3.out.Bp HP.out).lt
    have hBe := HK3.out.Be HP.out
    have r0 : w3.cell? ⟨gE, i * 3, none⟩ = _ := hBe.cell HXi.out (j := 0) rfl
    have r1 : w3.cell? ⟨gE, i * 3 + 1, none⟩ = _ := hBe.cell HXi.out (j := 1) rfl
    have r2 : w3.cell? ⟨gE, i * 3 + 2, none⟩ = _ := hBe.cell HXi.out (j := 2) rfl
    have rf := hBe.open_
    have rl := hBe.lt
    have HK4 := Lib.hid (HK3.out.putEnd HP.out.pv HP.out.proc rfl ⟨1, z1, 0⟩ HXi.out)
    have HX4 := Lib.hid (HX3.out.offX3 hBe.box (by decide) (i * 3) (i * 3 + 1) (i * 3 + 2) (.int .i64 1) (.int .i64 z1) (.int .i64 0))
    have HX3' := HX3.out _ _ HXB.out
    have s0 := HX3'.cell 0
    have s1 := HX3'.cell 1
    have s2 := HX3'.cell 2
    simp only [List.getElem?_cons_zero, List.getElem?_cons_succ] at s0 s1 s2
    have sf := HX3'.open_
    have sl := HX3'.lt
    have hne : gE ≠ w.heap.size := Ne.symm (hBe.box.elim fun ds hd => HX3'.other hd (by decide))
    clear hBe HX3' HK3 HX3
    have hX9 := HX4.out _ _ HXB.out
    have HFin := Lib.hid (fin_ans HK4.out HX4.out HXw.out HXB.out hlow hroom)
    have p0 := hX9.cell 0
    have p1 := hX9.cell 1
    have p2 := hX9.cell 2
    simp only [List.getElem?_cons_zero, List.getElem?_cons_succ] at p0 p1 p2
    have f0 := hX9.open_
    have hl9 := hX9.lt
    clear hX9 HK4 HX4 HXw HXB
    go_wp2
    refine bodyPost_ret (v := .agg #[.int .i64 0, .int .i64 i, .string ⟨#[]⟩]) (by simp [results, Tryz.results111, go_sem, p0, p1, p2]) rfl ?_
    exact ⟨rfl, by (show ActFin _ _ _ _ ⟨_, _, _, _, _⟩ _); with_reducible exact HFin.out _ _ _⟩
end Go.Proofs.YtnnhhbjbdmgpiaaGreatDoor
