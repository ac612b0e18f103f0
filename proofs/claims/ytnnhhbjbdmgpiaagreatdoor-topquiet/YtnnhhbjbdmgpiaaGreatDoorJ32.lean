/- Texts of the proofs: ActV, ActU, ActT, ActS, DataK. -/
import Derived.Lib.SliceRun
import Derived.Test.YtnnhhbjbdmgpiaaGreatDoorJ31
import Derived.Test.YtnnhhbjbdmgpiaaGreatDoorJ25
import Derived.Test.YtnnhhbjbdmgpiaaGreatDoorJ04
import Derived.Test.YtnnhhbjbdmgpiaaGreatDoorJ12
import Derived.Lib.LazyBuf
import Derived.Test.YtnnhhbjbdmgpiaaGreatDoorJ10
import Derived.Test.YtnnhhbjbdmgpiaaGreatDoorJ22
set_option linter.unusedSimpArgs false
set_option linter.unusedVariables false
/- Walks of chapter 5: the program's fork. (tools/gen/actv.py) -/
namespace Go.Proofs.YtnnhhbjbdmgpiaaGreatDoor
set_option maxRecDepth 100000
open Go.RowKit
theorem PAt.live {a : KA} {ps : List PV} {k : Cf.Kern} {q gQ gE ce : Nat} {lv : Bool} {es : List Cf.End} (h : PAt a ps k q gQ gE ce lv es) (b : Bool) : PAt a (ps.set q ⟨b, some ⟨gE, 0, none⟩, 6, ce⟩) ⟨k.mods, k.mem, k.nodes, k.pipes, k.procs.set q ⟨b, es⟩⟩ q gQ gE ce b es := by
 have hq : (k.procs.set q ⟨b, es⟩)[q]? = some ⟨b, es⟩ := by rw [List.getElem?_set, if_pos rfl, if_pos (List.getElem?_eq_some_iff.1 h.proc).1]
 have hv : (ps.set q ⟨b, some ⟨gE, 0, none⟩, 6, ce⟩)[q]? = some ⟨b, some ⟨gE, 0, none⟩, 6, ce⟩ := by rw [List.getElem?_set, if_pos rfl, if_pos (List.getElem?_eq_some_iff.1 h.pv).1]
 exact ⟨h.Q, hv, hq, h.len, by show (k.procs.set q ⟨b, es⟩).getD q Cf.noProc = _; rw [List.getD_eq_getElem?_getD, hq]; rfl, h.cap⟩
def z18 : List Value := (List.replicate 6 Cf.noEnd).flatMap encEn
section
variable {B : Nat} {wb : World} {g : Nat} {a : KA} {xs : List MV} {ps : List PV} {k : Cf.Kern} {w : World}
theorem KSt.clearE (h : KSt B wb g a xs ps k w) {q gQ gE ce : Nat} {lv : Bool} {es : List Cf.End} (hP : PAt a ps k q gQ gE ce lv es) :
  KSt B wb g a xs ps ⟨k.mods, k.mem, k.nodes, k.pipes, k.procs.set q ⟨lv, List.replicate 6 Cf.noEnd⟩⟩ (w.setCells gE 0 z18) := by
 obtain ⟨hQ, hv, hp, h6, hi, hc⟩ := hP
 match es, h6 with
 | [e0, e1, e2, e3, e4, e5], _ =>
   have P0 : PAt a ps k q gQ gE ce lv [e0, e1, e2, e3, e4, e5] := ⟨hQ, hv, hp, rfl, hi, hc⟩
   have h0 := h.putEnd P0.pv P0.proc rfl Cf.noEnd (i := 0) (e := e0) rfl
   have P1 := P0.set 0 Cf.noEnd
   have h1 := h0.putEnd P1.pv P1.proc rfl Cf.noEnd (i := 1) (e := e1) rfl
   have P2 := P1.set 1 Cf.noEnd
   have h2 := h1.putEnd P2.pv P2.proc rfl Cf.noEnd (i := 2) (e := e2) rfl
   have P3 := P2.set 2 Cf.noEnd
   have h3 := h2.putEnd P3.pv P3.proc rfl Cf.noEnd (i := 3) (e := e3) rfl
   have P4 := P3.set 3 Cf.noEnd
   have h4 := h3.putEnd P4.pv P4.proc rfl Cf.noEnd (i := 4) (e := e4) rfl
   have P5 := P4.set 4 Cf.noEnd
   have h5 := h4.putEnd P5.pv P5.proc rfl Cf.noEnd (i := 5) (e := e5) rfl
   simp only [List.set_set] at h5
   exact h5
theorem KpA.clearE {w0 : World} {gE : Nat} (h : KpA w0 w) (hg : ∃ ds, Wb w gE tEnd ds) (vs : List Value) : KpA w0 (w.setCells gE 0 vs) := by
 have key : ∀ (vs : List Value) (o : Nat) (w : World), KpA w0 w → (∃ ds, Wb w gE tEnd ds) → KpA w0 (w.setCells gE o vs) := by
  intro vs
  induction vs with
  | nil => intro o w h _; exact h
  | cons v vs ih =>
    intro o w h hg
    obtain ⟨ds, hg⟩ := hg
    exact ih (o + 1) (w.setCell ⟨gE, o, none⟩ v) (h.offX ⟨ds, hg⟩ (by decide) o v) ⟨_, hg.put o v⟩
 exact key vs 0 w h hg
theorem KSt.putProc {w1 : World} (h : KSt B wb g a xs ps k w) (hb : Below w.heap.size w w1) {gQ : Nat} (ha : a.Q = some ⟨gQ, 0, none⟩) {i : Nat} {x : PV} {p : Cf.Proc} (hx : ps[i]? = some x) (hp : k.procs[i]? = some p) {A' : Option Addr} {c' : Nat} {es : List Cf.End} (b : Bool) (hN : Nw 3 encEn w1 tEnd w.heap.size A' es) (hc : es.length ≤ c') :
  KSt B wb g a xs (ps.set i ⟨b, A', es.length, c'⟩) ⟨k.mods, k.mem, k.nodes, k.pipes, k.procs.set i ⟨b, es⟩⟩ ((w1.setCell ⟨gQ, i * 2, none⟩ (.bool b)).setCell ⟨gQ, i * 2 + 1, none⟩ (.slice A' es.length c')) := by
 have h1 := (h.below hb).putL ha b hx hp
 have hx1 : (ps.set i ⟨b, x.A, x.le, x.ce⟩)[i]? = some ⟨b, x.A, x.le, x.ce⟩ := by rw [List.getElem?_set, if_pos rfl, if_pos (List.getElem?_eq_some_iff.1 hx).1]
 have hn := h1.own.procs
 rw [ha] at hn
 obtain ⟨hB, cs, hw⟩ := hn.box_ hx1
 have hne : g ≠ gQ := h1.box.other hw (by decide)
 have hN1 : Nw 3 encEn (w1.setCell ⟨gQ, i * 2, none⟩ (.bool b)) tEnd w.heap.size A' es := by
  have hn0 := (h.below hb).own.procs
  rw [ha] at hn0
  obtain ⟨_, cs0, hw0⟩ := hn0.box_ hx
  exact hN.offW hw0 (by decide) _ _
 have hset : ∀ (y : PV), (ps.set i ⟨b, x.A, x.le, x.ce⟩).set i y = ps.set i y := fun y => by rw [List.set_set]
 have hset2 : ∀ (y : Cf.Proc), (k.procs.set i ⟨b, p.ends⟩).set i y = k.procs.set i y := fun y => by rw [List.set_set]
 refine ⟨?_, ⟨own_setCell h1.own.row (own_off h1.own.row hw (by decide)) _, h1.own.each.offM hw (by decide) (by decide) _ _, h1.own.mem.offW hw (by decide) _ _, h1.own.nodes.offW hw (by decide) _ _, h1.own.pipes.offW hw (by decide) _ _, ?_, ?_, ?_, h1.own.dat, h1.own.capM⟩, h.lo, h1.keep.setCell hB _⟩
 ·have e : kcells a ⟨k.mods, k.mem, k.nodes, k.pipes, k.procs.set i ⟨b, es⟩⟩ = kcells a ⟨k.mods, k.mem, k.nodes, k.pipes, k.procs.set i ⟨b, p.ends⟩⟩ := by unfold kcells; simp
  rw [e]
  exact h1.box.off_ hne _
 ·rw [ha, ← hset]
  exact hn.put (j := 1) (x' := ⟨b, A', es.length, c'⟩) hx1 (by omega) rfl
 ·have he := h1.own.ends.offE hw (by decide) (i * 2 + 1) (.slice A' es.length c')
  have := he.set i (x := ⟨b, A', es.length, c'⟩) (y := ⟨b, es⟩) ⟨rfl, rfl, (hN1.mono h.room).offW hw (by decide) _ _, hc⟩
  rw [hset, hset2] at this
  exact this
 ·have key : ∀ (j : Nat) (y : PV), ps[j]? = some y → y.le = 0 ∨ es.length = 0 ∨ y.A ≠ A' := by
   intro j y hy
   obtain ⟨r, hr⟩ : ∃ r, k.procs[j]? = some r := ⟨_, List.getElem?_eq_getElem (by rw [← h.own.ends.1]; exact (List.getElem?_eq_some_iff.1 hy).1)⟩
   obtain ⟨_, f2, f3, _⟩ := h.own.ends.2 j y r hy hr
   rcases f3 with f3 | ⟨b1, f3, _, f4⟩
   ·exact .inl (by rw [f2, f3]; rfl)
   ·rcases hN with hN | ⟨b', hN, hb', _⟩
    ·exact .inr (.inl (by rw [hN]; rfl))
    ·refine .inr (.inr ?_)
     rw [f3, hN]
     intro he
     cases he
     have := f4.lt
     omega
  intro i1 j1 y z hy hz hij
  rw [List.getElem?_set] at hy hz
  split at hy
  ·rename_i hni
   subst hni
   rw [if_neg hij] at hz
   split at hy
   ·simp at hy
    subst hy
    rcases key j1 z hz with h0 | h0 | h0
    ·exact .inr (.inl h0)
    ·exact .inl h0
    ·exact .inr (.inr (Ne.symm h0))
   ·cases hy
  ·split at hz
   ·split at hz
    ·simp at hz
     subst hz
     exact key i1 y hy
    ·cases hz
   ·exact h.own.apart i1 j1 y z hy hz hij
theorem KSt.p0 (h : KSt B wb g a xs ps k w) {q gQ gE ce : Nat} {lv : Bool} {es : List Cf.End} (hP : PAt a ps k q gQ gE ce lv es) : w.cell? ⟨gQ, q * 2, none⟩ = some (.bool lv) := (h.Bp hP).cell (j := 0) hP.pv rfl
theorem zero_end {P : Program} (t : TypeId) (i : TypeInfo) (hi : P.info? t = some i) (hz : i.zero = some (.agg #[.int .i64 0, .int .i64 0, .int .i64 0])) : ∀ w, (zeroValue t).run P w = .ok (.agg #[.int .i64 0, .int .i64 0, .int .i64 0]) w := by
 intro w
 simp [zeroValue, run_typeInfo, hi, hz, Result.andThen]
end
theorem Bk.there {α : Type} {sz : Nat} {enc : α → List Value} {w : World} {g : Nat} {t : TypeId} {l : List α} (h : Bk sz enc w g t l) (j : Nat) (hj : j < l.length * sz) : (w.cell? ⟨g, 0 + j, none⟩).isSome = true := by
 obtain ⟨hsz, pad, h⟩ := h
 rw [Nat.zero_add, h.cell, List.getElem?_append_left (by rw [flat_lenG hsz]; exact hj), List.getElem?_eq_getElem (by rw [flat_lenG hsz]; exact hj)]
 rfl
theorem z18_len : z18.length = 18 := by rfl
theorem z18_one : ∀ v ∈ z18, v.oneCell' = true := by
 intro v hv
 simp [z18, encEn, Cf.noEnd, List.replicate] at hv
 subst hv
 rfl
theorem run_clear6 (w : World) (ty : TypeId) (b c : Nat) (hc : ∀ j, j < z18.length → (w.cell? ⟨b, 0 + j, none⟩).isSome = true) (hf : ∀ j, j < z18.length → w.frozen? ⟨b, 0 + j, none⟩ = false) :
  (Builtin.clear_ #[67] ty #[.slice (some ⟨b, 0, none⟩) 6 c]).run Tryz.prog w = .ok (.tuple #[]) (w.setCells b 0 z18) := by
 obtain ⟨i0, hi0, hy0, hy1, hy2⟩ := info_parts infoE
 have hv := zero_end (P := Tryz.prog) 72 i0 hi0 hy0
 have hst := run_storeCells_cells (P := Tryz.prog) b 0 z18 0 w hc hf z18_one
 simp only [Nat.add_zero] at hst
 have hzc : (Builtin.zeroCells (Value.agg #[.int .i64 0, .int .i64 0, .int .i64 0]).cells 6).toList = z18 := by simp [Builtin.zeroCells, z18, Value.cells, Array.range, encEn, Cf.noEnd, List.replicate]
 simp only [Builtin.clear_, Sem.run_bind, run_underlying Tryz.underlying67, hv, hzc, Result.andThen]
 simp [hst, hv, hzc, Result.andThen]
set_option maxHeartbeats 1000000 in
theorem fork_any {B : Nat} {wb : World} {g : Nat} {a : KA} {xs : List MV} {ps : List PV} (k : Cf.Kern) (q gQ : Nat) (w : World) (h : KSt B wb g a xs ps k w) (hG : Cf.Good k) (hq : q < 4) (hQ : a.Q = some ⟨gQ, 0, none⟩) :
  Calls Tryz.prog 113 #[.pointer (some ⟨g, 0, none⟩), .pointer (some ⟨gQ, q * 2, none⟩)] w (ActPost B wb g w (Cf.forkT k q)) := by
 obtain ⟨A, ca, M, cm, N, cn, S, cs, Q, cq⟩ := a
 simp only at hQ
 subst hQ
 obtain ⟨gE, ce, lv, es, hP⟩ := h.pat hG.toPre hq rfl
 have H := Lib.hid h
 have hb0 : Below w.heap.size w (w.alloc (.cells #[.int .i64 0, .int .i64 0, .string ⟨#[]⟩] tAns)) := (Below.refl _ _).alloc (Nat.le_refl _) _
 have HW0 := Lib.hid hb0
 have HXB := Lib.hid (Wb.new w tAns [.int .i64 0, .int .i64 0, .string ⟨#[]⟩])
 have HXw := Lib.hid (KpA.alloc w (.cells #[.int .i64 0, .int .i64 0, .string ⟨#[]⟩] tAns))
 have HX0 := Lib.hid (KpA.refl (w.alloc (.cells #[.int .i64 0, .int .i64 0, .string ⟨#[]⟩] tAns)))
 have hroom := h.room
 have hlow : w.heap.size ≤ w.heap.size := Nat.le_refl _
 have HG := Lib.hid hG
 have HP := Lib.hid hP
 have HFp := Lib.hid (fun W (hW : Below w.heap.size w W) => findProc_any k _ g W (h.below hW).ptr (lim_max (by rw [hG.procsL]; omega)))
 have HCp := Lib.hid (fun W (hW : Below w.heap.size w W) => show Calls Tryz.prog 59 #[.slice (some ⟨gE, 0, none⟩) 6 ce] W (fun e w' => ∃ A' c', e = .returned (.slice A' 6 c') ∧ Nw 3 encEn w' tEnd W.heap.size A' es ∧ Below W.heap.size W w' ∧ 6 ≤ c') by
  have := copyEnds_any es (some ⟨gE, 0, none⟩) ce W ((h.below hW).Be hP).rd (by rw [hP.len]; unfold big; omega) (by rw [hP.len]; unfold big; omega)
  unfold EndsNw at this
  rw [hP.len] at this
  exact this)
 have Heg := Lib.hid (fun args w => show (callFunc 59 args).run Tryz.prog w = .ok (.enter 59 args) w by simp [go_sem])
 have HT := Lib.hid (show Cf.forkT k q = if Cf.idxT Cf.deadB k.procs < 0 then Cf.refuseT k 8 else ⟨⟨k.mods, k.mem, k.nodes, k.pipes, k.procs.set (Cf.idxT Cf.deadB k.procs).toNat ⟨true, es⟩⟩, ⟨0, Cf.idxT Cf.deadB k.procs, []⟩⟩ by
  unfold Cf.forkT Cf.setProc
  rw [hP.is_])
 have HI := Lib.hid (Cf.idx_cases Cf.deadB k.procs)
 clear h hG hP hb0
 generalize Cf.idxT Cf.deadB k.procs = z1 at *
 rw [HT.out]
 by_cases hz1 : z1 < 0
 ·rw [if_pos hz1]
  clear HT HI HCp HP HG
  go_enter Tryz.func113, Tryz.ntmps113
  go_wp2_with fail
  refine (HFp.out _ HW0.out).mono ?_
  rintro e w1 ⟨rfl, hb1⟩
  have HW1 := Lib.hid (HW0.out.trans (hb1.mono (HW0.out).size))
  have HX1 := Lib.hid (HX0.out.below hb1)
  clear hb1 HW0 HX0 HFp
  go_wp2_with fail
  refine (refuse_any 8 _).mono ?_
  rintro e w2 ⟨rfl, hb2⟩
  have HW2 := Lib.hid (HW1.out.trans (hb2.mono (HW1.out).size))
  have HX2 := Lib.hid (HX1.out.below hb2)
  simp only [encAn]
  clear hb2 HW1 HX1
  have HK2 := Lib.hid (H.out.below HW2.out)
  have hX9 := HX2.out _ _ HXB.out
  have HFin := Lib.hid (fin_ans HK2.out HX2.out HXw.out HXB.out hlow hroom)
  have p0 := hX9.cell 0
  have p1 := hX9.cell 1
  have p2 := hX9.cell 2
  simp only [List.getElem?_cons_zero, List.getElem?_cons_succ] at p0 p1 p2
  have f0 := hX9.open_
  have hl9 := hX9.lt
  clear hX9 HK2 HX2 HXw HXB   HW2
  go_wp2
  refine bodyPost_ret (v := .agg #[.int .i64 8, .int .i64 0, .string ⟨#[]⟩]) (by simp [results, Tryz.results113, go_sem, p0, p1, p2]) rfl ?_
  exact ⟨rfl, by (show ActFin _ _ _ _ k _); with_reducible exact HFin.out _ _ _⟩
 ·rw [if_neg hz1]
  obtain ⟨_, hzz⟩ | ⟨i, x, hzi, hxi, _, _⟩ := HI.out
  ·omega
  have hi4 : i < 4 := by rw [← HG.out.procsL]; exact (List.getElem?_eq_some_iff.1 hxi).1
  have hi4' : (i : Int) < 4 := by omega
  obtain ⟨v, hvi⟩ : ∃ v, ps[i]? = some v := ⟨_, List.getElem?_eq_getElem (by rw [H.out.own.ends.1, HG.out.procsL]; exact hi4)⟩
  have HXi := Lib.hid hxi
  have HVi := Lib.hid hvi
  subst hzi
  rw [Int.toNat_natCast]
  clear HT HI hxi hvi hz1
  go_enter Tryz.func113, Tryz.ntmps113
  go_wp2_with fail
  refine (HFp.out _ HW0.out).mono ?_
  rintro e w1 ⟨rfl, hb1⟩
  have HW1 := Lib.hid (HW0.out.trans (hb1.mono (HW0.out).size))
  have HX1 := Lib.hid (HX0.out.below hb1)
  clear hb1 HW0 HX0 HFp
  have hK1 := H.out.below HW1.out
  have c4 := hK1.ptr.c4
  simp only [HG.out.procsL] at c4
  have kl := hK1.box.lt
  have q1 := hK1.p1 HP.out
  have ql := (hK1.Bp HP.out).lt
  have hd1 : Below w.heap.size w w1.drew := HW1.out.drew
  clear hK1
  go_wp2_with fail
  go_region_law (first
   | (refine step_call1 (by rfl) 59 (.tmp 19) #[67] (by rfl) (.slice (some ⟨gE, 0, none⟩) 6 ce) (by rfl) Heg.out (HCp.out _ hd1) ?_
      rintro e w2 ⟨A', c', rfl, hN, hb2, hcp⟩
      refine ⟨_, rfl, ?_⟩
      have HK1 := Lib.hid (H.out.below hd1)
      have HX2 := Lib.hid ((HX1.out.draw 1).below hb2)
      have hK2 := HK1.out.below hb2
      have d4 := hK2.ptr.c4
      simp only [HG.out.procsL] at d4
      have dl := hK2.box.lt
      have d1 := hK2.p1 HP.out
      have hBp := hK2.Bp HP.out
      have dq := hBp.lt
      have s0 : w2.cell? ⟨gQ, i * 2, none⟩ = _ := hBp.cell HVi.out (j := 0) rfl
      have s1 : w2.cell? ⟨gQ, i * 2 + 1, none⟩ = _ := hBp.cell HVi.out (j := 1) rfl
      have sf := hBp.open_
      have HK3 := Lib.hid (HK1.out.putProc hb2 rfl HVi.out HXi.out true hN (by rw [HP.out.len]; exact hcp))
      rw [HP.out.len] at HK3
      have HX3 := Lib.hid (((HX2.out.offX hBp.box (by decide) (i * 2) (.bool true)).offX (hBp.box.elim fun ds hd => ⟨_, hd.put (i * 2) (.bool true)⟩) (by decide) (i * 2 + 1) (.slice A' 6 c')))
      have hX2 := HX2.out _ _ HXB.out
      have t0 := hX2.cell 0
      have t1 := hX2.cell 1
      have t2 := hX2.cell 2
      simp only [List.getElem?_cons_zero, List.getElem?_cons_succ] at t0 t1 t2
      have tf := hX2.open_
      have tl := hX2.lt
      have hne : gQ ≠ w.heap.size := Ne.symm (hBp.box.elim fun ds hd => hX2.other hd (by decide))
      clear hX2 HX2 hBp hK2 HK1 hb2 hN)
   | fail)
  all_goals
   have hX9 := HX3.out _ _ HXB.out
   have HFin := Lib.hid (fin_ans HK3.out HX3.out HXw.out HXB.out hlow hroom)
   have p0 := hX9.cell 0
   have p1 := hX9.cell 1
   have p2 := hX9.cell 2
   simp only [List.getElem?_cons_zero, List.getElem?_cons_succ] at p0 p1 p2
   have f0 := hX9.open_
   have hl9 := hX9.lt
   clear hX9 HK3 HX3 HXw HXB
   go_wp2
   refine bodyPost_ret (v := .agg #[.int .i64 0, .int .i64 i, .string ⟨#[]⟩]) (by simp [results, Tryz.results113, go_sem, p0, p1, p2]) rfl ?_
   exact ⟨rfl, by (show ActFin _ _ _ _ ⟨_, _, _, _, _⟩ _); with_reducible exact HFin.out _ _ _⟩
end Go.Proofs.YtnnhhbjbdmgpiaaGreatDoor
/- Walks of chapter 5: the program's exit. (tools/gen/actv.py) -/
namespace Go.Proofs.YtnnhhbjbdmgpiaaGreatDoor
set_option maxRecDepth 100000
open Go.RowKit
set_option maxHeartbeats 1000000 in
theorem exit_any {B : Nat} {wb : World} {g : Nat} {a : KA} {xs : List MV} {ps : List PV} (k : Cf.Kern) (q gQ : Nat) (w : World) (h : KSt B wb g a xs ps k w) (hG : Cf.Good k) (hq : q < 4) (hQ : a.Q = some ⟨gQ, 0, none⟩) :
  Calls Tryz.prog 114 #[.pointer (some ⟨g, 0, none⟩), .pointer (some ⟨gQ, q * 2, none⟩)] w (ActPost B wb g w (Cf.exitT k q)) := by
 obtain ⟨A, ca, M, cm, N, cn, S, cs, Q, cq⟩ := a
 simp only at hQ
 subst hQ
 obtain ⟨gE, ce, lv, es, hP⟩ := h.pat hG.toPre hq rfl
 have H := Lib.hid h
 have hb0 : Below w.heap.size w (w.alloc (.cells #[.int .i64 0, .int .i64 0, .string ⟨#[]⟩] tAns)) := (Below.refl _ _).alloc (Nat.le_refl _) _
 have HW0 := Lib.hid hb0
 have HXB := Lib.hid (Wb.new w tAns [.int .i64 0, .int .i64 0, .string ⟨#[]⟩])
 have HXw := Lib.hid (KpA.alloc w (.cells #[.int .i64 0, .int .i64 0, .string ⟨#[]⟩] tAns))
 have HX0 := Lib.hid (KpA.refl (w.alloc (.cells #[.int .i64 0, .int .i64 0, .string ⟨#[]⟩] tAns)))
 have hroom := h.room
 have hlow : w.heap.size ≤ w.heap.size := Nat.le_refl _
 have HG := Lib.hid hG
 have HP := Lib.hid hP
 obtain ⟨k2, hk2⟩ : ∃ k2 : Cf.Kern, k2 = ⟨k.mods, k.mem, k.nodes, k.pipes, k.procs.set q ⟨false, List.replicate 6 Cf.noEnd⟩⟩ := ⟨_, rfl⟩
 have HT := Lib.hid (show Cf.exitT k q = ⟨Cf.tidyT k2, Cf.noAns⟩ by
  rw [hk2]
  unfold Cf.exitT Cf.setProc
  rw [hP.is_]
  have : es.map (fun _ => Cf.noEnd) = List.replicate 6 Cf.noEnd := by rw [List.map_const', hP.len]
  rw [this])
 have HK0 := Lib.hid (h.below hb0)
 have HE2 := Lib.hid hk2
 clear h hG hb0 hk2
 rw [HT.out]
 go_enter Tryz.func114, Tryz.ntmps114
 go_upto_region 1 with fail
 generalize hw0 : w.alloc (.cells #[.int .i64 0, .int .i64 0, .string ⟨#[]⟩] tAns) = w0 at *
 have HW00 := Lib.hid hw0
 clear hw0 HW0 HT hP H
 have q0 := HK0.out.p0 HP.out
 have hBp := HK0.out.Bp HP.out
 have ql := hBp.lt
 have qf := hBp.open_
 have HK1 := Lib.hid (HK0.out.putL rfl false HP.out.pv HP.out.proc)
 have HX1 := Lib.hid (HX0.out.offX (HK0.out.Bp HP.out).box (by decide) (q * 2) (.bool false))
 have HP1 := Lib.hid (HP.out.live false)
 clear hBp HX0 HK0
 go_upto_region 2 with fail
 generalize hw1 : w0.setCell ⟨gQ, q * 2, none⟩ (.bool false) = w1 at *
 clear hw1 q0 ql qf HW00
 have q1 := HK1.out.p1 HP1.out
 have ql := (HK1.out.Bp HP1.out).lt
 have hBe := HK1.out.Be HP1.out
 have hcl := fun ty => run_clear6 w1 ty gE ce (fun j hj => hBe.there j (by rw [HP1.out.len]; rw [z18_len] at hj; omega)) (fun j _ => hBe.open_ _)
 have hK2 := HK1.out.clearE HP1.out
 simp only [List.set_set] at hK2
 rw [← HE2.out] at hK2
 have HK2 := Lib.hid hK2
 clear hK2
 have HX2 := Lib.hid (HX1.out.clearE hBe.box z18)
 clear hBe
 have HR := Lib.hid (release_any _ _ HK2.out (by rw [HE2.out]; exact HG.out.nodesL) (by rw [HE2.out]; exact HG.out.pipesL) (lim_big (by rw [HE2.out]; simp [HG.out.procsL])) (by
  rw [HE2.out]
  intro p hp
  rcases List.mem_or_eq_of_mem_set hp with hp | rfl
  ·exact lim_big (by rw [HG.out.ends p hp]; omega)
  ·exact lim_big (by show (List.replicate 6 Cf.noEnd).length ≤ 1024; simp)))
 clear HE2
 go_upto_region 3 with fail
 generalize hw2 : w1.setCells gE 0 z18 = w2 at *
 clear hw2 q1 ql hcl HK2
 go_wp2_with fail
 refine HR.out.mono ?_
 rintro e w3 ⟨rfl, hK3, hkp⟩
 have HX3 := Lib.hid (HX2.out.trans fun b cs hb => hkp b tAns cs (by decide) (by decide) hb)
 have HK3 := Lib.hid hK3
 clear hK3 hkp HR HX2
 have hX9 := HX3.out _ _ HXB.out
 have HFin := Lib.hid (fin_ans HK3.out HX3.out HXw.out HXB.out hlow hroom)
 have p0 := hX9.cell 0
 have p1 := hX9.cell 1
 have p2 := hX9.cell 2
 simp only [List.getElem?_cons_zero, List.getElem?_cons_succ] at p0 p1 p2
 have f0 := hX9.open_
 have hl9 := hX9.lt
 clear hX9 HK3 HX3 HXw HXB
 go_wp2
 refine bodyPost_ret (v := .agg #[.int .i64 0, .int .i64 0, .string ⟨#[]⟩]) (by simp [results, Tryz.results114, go_sem, p0, p1, p2]) rfl ?_
 exact ⟨rfl, by (show ActFin _ _ _ _ (Cf.tidyT k2) _); with_reducible exact HFin.out _ _ _⟩
end Go.Proofs.YtnnhhbjbdmgpiaaGreatDoor
/- Walks of chapter 5: the program's readPipe, readFile, writePipe. (tools/gen/actt.py) -/
namespace Go.Proofs.YtnnhhbjbdmgpiaaGreatDoor
set_option maxRecDepth 100000
open Go.RowKit
theorem min_run (x y : Nat) (ats : Array TypeId) (ty : TypeId) (w : World) : (Builtin.min_ ats ty #[.int .i64 (x : Int), .int .i64 (y : Int)]).run Tryz.prog w = .ok (.int .i64 ((min x y : Nat) : Int)) w := by
 simp only [Builtin.min_]
 simp [Builtin.min2]
 split <;> omega
theorem take_min {α : Type} (s : List α) (n : Nat) : s.take (min n s.length) = s.take n := by
 rcases Nat.le_total n s.length with h | h
 ·rw [Nat.min_eq_left h]
 ·rw [Nat.min_eq_right h, List.take_length, List.take_of_length_le h]
theorem drop_min {α : Type} (s : List α) (n : Nat) : s.drop (min n s.length) = s.drop n := by
 rcases Nat.le_total n s.length with h | h
 ·rw [Nat.min_eq_left h]
 ·rw [Nat.min_eq_right h, List.drop_length, List.drop_eq_nil_of_le h]
section
variable {B : Nat} {wb : World} {g : Nat} {a : KA} {xs : List MV} {ps : List PV} {k : Cf.Kern} {w : World}
theorem KSt.s0 (h : KSt B wb g a xs ps k w) {gS i : Nat} {x : List UInt8} (hS : a.S = some ⟨gS, 0, none⟩) (hx : k.pipes[i]? = some x) : w.cell? ⟨gS, i, none⟩ = some (.string ⟨x.toArray⟩) := by
 have := (h.Bs hS hx).cell hx (j := 0) rfl
 simpa using this
end
theorem pipe_at {k : Cf.Kern} (hG : Cf.Pre k) {i : Nat} (hi : i < 6) : ∃ s, k.pipes[i]? = some s ∧ Cf.pipeAt k i = s ∧ s.length ≤ 20 := by
 have hl : i < k.pipes.length := by rw [hG.pipesL]; exact hi
 refine ⟨k.pipes[i], List.getElem?_eq_getElem hl, ?_, hG.pipe _ (List.getElem_mem ..)⟩
 rw [Cf.pipeAt, List.getD_eq_getElem?_getD, List.getElem?_eq_getElem hl]
 rfl
set_option maxHeartbeats 1000000 in
theorem readPipe_any {B : Nat} {wb : World} {g : Nat} {a : KA} {xs : List MV} {ps : List PV} (k : Cf.Kern) (i n : Nat) (w : World) (h : KSt B wb g a xs ps k w) (hG : Cf.Good k) (hi : i < 6) :
  Calls Tryz.prog 140 #[.pointer (some ⟨g, 0, none⟩), .int .i64 i, .int .i64 n] w (ActPost B wb g w (Cf.readPipeT k i n)) := by
 obtain ⟨A, ca, M, cm, N, cn, S, cs, Q, cq⟩ := a
 obtain ⟨s, hs, hsp, hs20⟩ := pipe_at hG.toPre hi
 obtain ⟨gS, hgS, _⟩ := h.own.pipes.at_ hs
 simp only at hgS
 subst hgS
 have HXB := Lib.hid (Wb.new w tAns [.int .i64 0, .int .i64 0, .string ⟨#[]⟩])
 have HXw := Lib.hid (KpA.alloc w (.cells #[.int .i64 0, .int .i64 0, .string ⟨#[]⟩] tAns))
 have HX0 := Lib.hid (KpA.refl (w.alloc (.cells #[.int .i64 0, .int .i64 0, .string ⟨#[]⟩] tAns)))
 have HK0 := Lib.hid (h.below ((Below.refl _ _).alloc (Nat.le_refl _) (.cells #[.int .i64 0, .int .i64 0, .string ⟨#[]⟩] tAns)))
 have hroom := h.room
 have hlow : w.heap.size ≤ w.heap.size := Nat.le_refl _
 have HG := Lib.hid hG
 have HS := Lib.hid hs
 have hi6 : (i : Int) < 6 := by omega
 have HH := Lib.hid (fun W (hW : KSt B wb g ⟨A, ca, M, cm, N, cn, some ⟨gS, 0, none⟩, cs, Q, cq⟩ xs ps k W) kd => hasEnd_any k _ g kd i W hW.ptr (lim_max (by rw [hG.procsL]; omega)) (fun p hp => lim_max (by rw [hG.ends p hp]; omega)))
 clear h
 by_cases h0 : s = []
 ·have HT := Lib.hid (show Cf.readPipeT k i n = Cf.refuseT k (if Cf.hasB k.procs 3 i then 13 else 12) by unfold Cf.readPipeT; rw [hsp, if_pos h0])
  rw [HT.out]
  subst h0
  have HH3 := Lib.hid (fun W hW => HH.out W hW 3)
  clear hs hsp hs20 HH HT hG
  generalize Cf.hasB k.procs 3 i = b at *
  cases b
  ·skip
   go_enter Tryz.func140, Tryz.ntmps140
   go_upto_region 1 with fail
   generalize w.alloc (.cells #[.int .i64 0, .int .i64 0, .string ⟨#[]⟩] tAns) = w0 at *
   have hK0 := HK0.out
   have c3 := hK0.ptr.c3
   simp only [HG.out.pipesL] at c3
   have kl := hK0.box.lt
   have s0 := hK0.s0 rfl HS.out
   have sl := (hK0.Bs rfl HS.out).lt
   have sf := (hK0.Bs rfl HS.out).open_
   clear hK0
   go_wp2_with fail
   refine (HH3.out _ HK0.out).mono ?_
   rintro e w1 ⟨rfl, hb1⟩
   have HK1 := Lib.hid (HK0.out.below hb1)
   have HX1 := Lib.hid (HX0.out.below hb1)
   clear hb1 HK0 HX0 HH3 c3 kl s0 sl sf HS
   go_wp2_with fail
   refine (refuse_any 12 _).mono ?_
   rintro e w2 ⟨rfl, hb2⟩
   have HK2 := Lib.hid (HK1.out.below hb2)
   have HX2 := Lib.hid (HX1.out.below hb2)
   simp only [encAn]
   clear hb2 HK1 HX1
   have hX9 := HX2.out _ _ HXB.out
   have HFin := Lib.hid (fin_ans HK2.out HX2.out HXw.out HXB.out hlow hroom)
   have p0 := hX9.cell 0
   have p1 := hX9.cell 1
   have p2 := hX9.cell 2
   simp only [List.getElem?_cons_zero, List.getElem?_cons_succ] at p0 p1 p2
   have f0 := hX9.open_
   have hl9 := hX9.lt
   clear hX9 HK2 HX2 HXw HXB
   go_wp2
   refine bodyPost_ret (v := .agg #[.int .i64 12, .int .i64 0, .string ⟨#[]⟩]) (by simp [results, Tryz.results140, go_sem, p0, p1, p2]) rfl ?_
   exact ⟨rfl, by (show ActFin _ _ _ _ k _); with_reducible exact HFin.out _ _ _⟩
  ·skip
   go_enter Tryz.func140, Tryz.ntmps140
   go_upto_region 1 with fail
   generalize w.alloc (.cells #[.int .i64 0, .int .i64 0, .string ⟨#[]⟩] tAns) = w0 at *
   have hK0 := HK0.out
   have c3 := hK0.ptr.c3
   simp only [HG.out.pipesL] at c3
   have kl := hK0.box.lt
   have s0 := hK0.s0 rfl HS.out
   have sl := (hK0.Bs rfl HS.out).lt
   have sf := (hK0.Bs rfl HS.out).open_
   clear hK0
   go_wp2_with fail
   refine (HH3.out _ HK0.out).mono ?_
   rintro e w1 ⟨rfl, hb1⟩
   have HK1 := Lib.hid (HK0.out.below hb1)
   have HX1 := Lib.hid (HX0.out.below hb1)
   clear hb1 HK0 HX0 HH3 c3 kl s0 sl sf HS
   go_wp2_with fail
   refine (refuse_any 13 _).mono ?_
   rintro e w2 ⟨rfl, hb2⟩
   have HK2 := Lib.hid (HK1.out.below hb2)
   have HX2 := Lib.hid (HX1.out.below hb2)
   simp only [encAn]
   clear hb2 HK1 HX1
   have hX9 := HX2.out _ _ HXB.out
   have HFin := Lib.hid (fin_ans HK2.out HX2.out HXw.out HXB.out hlow hroom)
   have p0 := hX9.cell 0
   have p1 := hX9.cell 1
   have p2 := hX9.cell 2
   simp only [List.getElem?_cons_zero, List.getElem?_cons_succ] at p0 p1 p2
   have f0 := hX9.open_
   have hl9 := hX9.lt
   clear hX9 HK2 HX2 HXw HXB
   go_wp2
   refine bodyPost_ret (v := .agg #[.int .i64 13, .int .i64 0, .string ⟨#[]⟩]) (by simp [results, Tryz.results140, go_sem, p0, p1, p2]) rfl ?_
   exact ⟨rfl, by (show ActFin _ _ _ _ k _); with_reducible exact HFin.out _ _ _⟩
 ·have HT := Lib.hid (show Cf.readPipeT k i n = ⟨⟨k.mods, k.mem, k.nodes, k.pipes.set i (s.drop (min n s.length)), k.procs⟩, ⟨0, (s.take (min n s.length)).length, s.take (min n s.length)⟩⟩ by unfold Cf.readPipeT; rw [hsp, if_neg h0, drop_min, take_min]; rfl)
  rw [HT.out]
  have hmin := min_run n s.length
  have s1 := str_from s (min n s.length) (Nat.min_le_right _ _)
  have s2 := str_upto s (min n s.length) (Nat.min_le_right _ _)
  have HAw := Lib.hid (fun W => answerWith_any (s.take (min n s.length)) W (by rw [List.length_take]; omega))
  have hne : ¬ s.isEmpty = true := by simpa using h0
  have hsz : (⟨s.toArray⟩ : ByteArray).size = s.length := by simp [ByteArray.size]
  clear hs hsp hs20 HH HT hG h0
  generalize s.take (min n s.length) = t at *
  generalize s.drop (min n s.length) = d at *
  generalize min n s.length = m at *
  go_enter Tryz.func140, Tryz.ntmps140
  go_upto_region 1 with fail
  generalize w.alloc (.cells #[.int .i64 0, .int .i64 0, .string ⟨#[]⟩] tAns) = w0 at *
  have hK0 := HK0.out
  have c3 := hK0.ptr.c3
  simp only [HG.out.pipesL] at c3
  have kl := hK0.box.lt
  have s0 := hK0.s0 rfl HS.out
  have sl := (hK0.Bs rfl HS.out).lt
  have sf := (hK0.Bs rfl HS.out).open_
  clear hK0
  have HK1 := Lib.hid (HK0.out.putP rfl d HS.out)
  have HX1 := Lib.hid (HX0.out.offX (HK0.out.Bs rfl HS.out).box (by decide) i (.string ⟨d.toArray⟩))
  clear HK0 HX0
  go_wp2_with fail
  go_region
  go_wp2_with fail
  refine (HAw.out _).mono ?_
  rintro e w2 ⟨rfl, hb2⟩
  simp only [encAn]
  have HK2 := Lib.hid (HK1.out.draw.below hb2)
  have HX2 := Lib.hid ((HX1.out.draw 1).below hb2)
  clear hb2 HK1 HX1 HAw c3 kl s0 sl sf
  have hX9 := HX2.out _ _ HXB.out
  have HFin := Lib.hid (fin_ans HK2.out HX2.out HXw.out HXB.out hlow hroom)
  have p0 := hX9.cell 0
  have p1 := hX9.cell 1
  have p2 := hX9.cell 2
  simp only [List.getElem?_cons_zero, List.getElem?_cons_succ] at p0 p1 p2
  have f0 := hX9.open_
  have hl9 := hX9.lt
  clear hX9 HK2 HX2 HXw HXB
  go_wp2
  refine bodyPost_ret (v := .agg #[.int .i64 0, .int .i64 t.length, .string ⟨t.toArray⟩]) (by simp [results, Tryz.results140, go_sem, p0, p1, p2]) rfl ?_
  exact ⟨rfl, by (show ActFin _ _ _ _ ⟨_, _, _, _, _⟩ _); with_reducible exact HFin.out _ _ _⟩
set_option maxHeartbeats 1000000 in
theorem readFile_any {B : Nat} {wb : World} {g : Nat} {a : KA} {xs : List MV} {ps : List PV} (k : Cf.Kern) (q gQ gE ce : Nat) (lv : Bool) (es : List Cf.End) (i n : Nat) (e : Cf.End) (data : List UInt8) (w : World) (h : KSt B wb g a xs ps k w) (hP : PAt a ps k q gQ gE ce lv es) (he : es[i]? = some e) (hd : data.length ≤ 100) (hn : n ≤ 100) (hp : 0 ≤ e.pos ∧ e.pos ≤ 100) :
  Calls Tryz.prog 142 #[.string ⟨data.toArray⟩, .pointer (some ⟨gE, i * 3, none⟩), .int .i64 n] w (ActPost B wb g w (Cf.readFileT k q i n data e)) := by
 have HXB := Lib.hid (Wb.new w tAns [.int .i64 0, .int .i64 0, .string ⟨#[]⟩])
 have HXw := Lib.hid (KpA.alloc w (.cells #[.int .i64 0, .int .i64 0, .string ⟨#[]⟩] tAns))
 have HX0 := Lib.hid (KpA.refl (w.alloc (.cells #[.int .i64 0, .int .i64 0, .string ⟨#[]⟩] tAns)))
 have HK0 := Lib.hid (h.below ((Below.refl _ _).alloc (Nat.le_refl _) (.cells #[.int .i64 0, .int .i64 0, .string ⟨#[]⟩] tAns)))
 have hroom := h.room
 have hlow : w.heap.size ≤ w.heap.size := Nat.le_refl _
 have HP := Lib.hid hP
 have HE := Lib.hid he
 obtain ⟨po, hpo⟩ := Int.eq_ofNat_of_zero_le hp.1
 obtain ⟨ek, en, ep⟩ := e
 simp only at hpo hp
 subst hpo
 have hm1 := min_run po data.length
 have s1 := str_from data (min po data.length) (Nat.min_le_right _ _)
 have hT1 : data.drop (min po data.length) = data.drop po := drop_min _ _
 have hrl : (data.drop po).length ≤ 100 := by rw [List.length_drop]; omega
 rw [hT1] at s1
 have hsz : (⟨data.toArray⟩ : ByteArray).size = data.length := by simp [ByteArray.size]
 have HT := Lib.hid (show Cf.readFileT k q i n data ⟨ek, en, po⟩ = if data.drop po = [] then Cf.refuseT k 12 else ⟨⟨k.mods, k.mem, k.nodes, k.pipes, k.procs.set q ⟨lv, es.set i ⟨ek, en, (po : Int) + ((data.drop po).take n).length⟩⟩⟩, ⟨0, ((data.drop po).take n).length, (data.drop po).take n⟩⟩ by
  unfold Cf.readFileT Cf.gaveT Cf.setEnd Cf.setProc
  simp only [Int.toNat_natCast, hP.is_])
 rw [HT.out]
 clear h hP he hT1 HT
 generalize min po data.length = m1 at *
 generalize data.drop po = r at *
 by_cases h0 : r = []
 ·rw [if_pos h0]
  subst h0
  go_enter Tryz.func142, Tryz.ntmps142
  go_upto_region 1 with fail
  generalize w.alloc (.cells #[.int .i64 0, .int .i64 0, .string ⟨#[]⟩] tAns) = w0 at *
  have hBe := HK0.out.Be HP.out
  have r2 : w0.cell? ⟨gE, i * 3 + 2, none⟩ = _ := hBe.cell HE.out (j := 2) rfl
  have rf := hBe.open_
  have rl := hBe.lt
  clear hBe
  go_wp2_with fail
  refine (refuse_any 12 _).mono ?_
  rintro e w1 ⟨rfl, hb1⟩
  have HK1 := Lib.hid (HK0.out.below hb1)
  have HX1 := Lib.hid (HX0.out.below hb1)
  simp only [encAn]
  clear hb1 HK0 HX0
  have hX9 := HX1.out _ _ HXB.out
  have HFin := Lib.hid (fin_ans HK1.out HX1.out HXw.out HXB.out hlow hroom)
  have p0 := hX9.cell 0
  have p1 := hX9.cell 1
  have p2 := hX9.cell 2
  simp only [List.getElem?_cons_zero, List.getElem?_cons_succ] at p0 p1 p2
  have f0 := hX9.open_
  have hl9 := hX9.lt
  clear hX9 HK1 HX1 HXw HXB
  go_wp2
  refine bodyPost_ret (v := .agg #[.int .i64 12, .int .i64 0, .string ⟨#[]⟩]) (by simp [results, Tryz.results142, go_sem, p0, p1, p2]) rfl ?_
  exact ⟨rfl, by (show ActFin _ _ _ _ k _); with_reducible exact HFin.out _ _ _⟩
 ·rw [if_neg h0]
  have hm2 := min_run n r.length
  have s2 := str_upto r (min n r.length) (Nat.min_le_right _ _)
  have hne : ¬ r.isEmpty = true := by simpa using h0
  have hsz2 : (⟨r.toArray⟩ : ByteArray).size = r.length := by simp [ByteArray.size]
  rw [take_min] at s2
  have hml : min n r.length = (r.take n).length := by rw [List.length_take]
  rw [hml] at hm2 s2
  have htl : (r.take n).length ≤ 100 := by rw [List.length_take]; omega
  have HAw := Lib.hid (fun W => answerWith_any (r.take n) W (by omega))
  clear hml h0
  generalize r.take n = t at *
  go_enter Tryz.func142, Tryz.ntmps142
  go_upto_region 1 with fail
  generalize w.alloc (.cells #[.int .i64 0, .int .i64 0, .string ⟨#[]⟩] tAns) = w0 at *
  have hBe := HK0.out.Be HP.out
  have r2 : w0.cell? ⟨gE, i * 3 + 2, none⟩ = _ := hBe.cell HE.out (j := 2) rfl
  have rf := hBe.open_
  have rl := hBe.lt
  clear hBe
  have HK1 := Lib.hid (HK0.out.putE HP.out.pv HP.out.proc rfl (i := i) (j := 2) (e' := ⟨ek, en, (po : Int) + t.length⟩) (u := .int .i64 ((po : Int) + t.length)) HE.out (by omega) rfl)
  have HX1 := Lib.hid (HX0.out.offX (HK0.out.Be HP.out).box (by decide) (i * 3 + 2) (.int .i64 ((po : Int) + t.length)))
  clear HK0 HX0
  go_wp2_with fail
  refine (HAw.out _).mono ?_
  rintro e w2 ⟨rfl, hb2⟩
  simp only [encAn]
  have HK2 := Lib.hid (HK1.out.below hb2)
  have HX2 := Lib.hid (HX1.out.below hb2)
  clear hb2 HK1 HX1 HAw r2 rf rl
  have hX9 := HX2.out _ _ HXB.out
  have HFin := Lib.hid (fin_ans HK2.out HX2.out HXw.out HXB.out hlow hroom)
  have p0 := hX9.cell 0
  have p1 := hX9.cell 1
  have p2 := hX9.cell 2
  simp only [List.getElem?_cons_zero, List.getElem?_cons_succ] at p0 p1 p2
  have f0 := hX9.open_
  have hl9 := hX9.lt
  clear hX9 HK2 HX2 HXw HXB
  go_wp2
  refine bodyPost_ret (v := .agg #[.int .i64 0, .int .i64 t.length, .string ⟨t.toArray⟩]) (by simp [results, Tryz.results142, go_sem, p0, p1, p2]) rfl ?_
  exact ⟨rfl, by (show ActFin _ _ _ _ ⟨_, _, _, _, _⟩ _); with_reducible exact HFin.out _ _ _⟩
theorem cat_bytes (a b : List UInt8) : (⟨a.toArray⟩ : ByteArray) ++ ⟨b.toArray⟩ = ⟨(a ++ b).toArray⟩ := by
 apply ext_of
 simp
theorem add_run (a b : List UInt8) (h : a.length + b.length ≤ 1000) : ∀ W : World, (Op.stringOp .add ⟨a.toArray⟩ ⟨b.toArray⟩).run Tryz.prog W = .ok (.string ⟨(a ++ b).toArray⟩) W := fun W => by
 rw [run_string_add_sum _ _ _ (by simp [ByteArray.size]; omega), cat_bytes]
set_option maxHeartbeats 1000000 in
theorem writePipe_any {B : Nat} {wb : World} {g : Nat} {a : KA} {xs : List MV} {ps : List PV} (k : Cf.Kern) (i : Nat) (c : List UInt8) (w : World) (h : KSt B wb g a xs ps k w) (hG : Cf.Good k) (hi : i < 6) (hc : c.length ≤ 100) :
  Calls Tryz.prog 143 #[.pointer (some ⟨g, 0, none⟩), .int .i64 i, .string ⟨c.toArray⟩] w (ActPost B wb g w (Cf.writePipeT k i c)) := by
 obtain ⟨A, ca, M, cm, N, cn, S, cs, Q, cq⟩ := a
 obtain ⟨s, hs, hsp, hs20⟩ := pipe_at hG.toPre hi
 obtain ⟨gS, hgS, _⟩ := h.own.pipes.at_ hs
 simp only at hgS
 subst hgS
 have HXB := Lib.hid (Wb.new w tAns [.int .i64 0, .int .i64 0, .string ⟨#[]⟩])
 have HXw := Lib.hid (KpA.alloc w (.cells #[.int .i64 0, .int .i64 0, .string ⟨#[]⟩] tAns))
 have HX0 := Lib.hid (KpA.refl (w.alloc (.cells #[.int .i64 0, .int .i64 0, .string ⟨#[]⟩] tAns)))
 have HK0 := Lib.hid (h.below ((Below.refl _ _).alloc (Nat.le_refl _) (.cells #[.int .i64 0, .int .i64 0, .string ⟨#[]⟩] tAns)))
 have hroom := h.room
 have hlow : w.heap.size ≤ w.heap.size := Nat.le_refl _
 have HG := Lib.hid hG
 have HS := Lib.hid hs
 have hi6 : (i : Int) < 6 := by omega
 have HH := Lib.hid (fun W (hW : KSt B wb g ⟨A, ca, M, cm, N, cn, some ⟨gS, 0, none⟩, cs, Q, cq⟩ xs ps k W) kd => hasEnd_any k _ g kd i W hW.ptr (lim_max (by rw [hG.procsL]; omega)) (fun p hp => lim_max (by rw [hG.ends p hp]; omega)))
 have HT := Lib.hid (show Cf.writePipeT k i c = if Cf.hasB k.procs 2 i = false then Cf.refuseT k 12 else if c.take (min c.length (20 - s.length)) = [] then Cf.refuseT k 13 else ⟨⟨k.mods, k.mem, k.nodes, k.pipes.set i (s ++ c.take (min c.length (20 - s.length))), k.procs⟩, ⟨0, (c.take (min c.length (20 - s.length))).length, []⟩⟩ by
  have e : c.take (min c.length (20 - s.length)) = c.take (20 - s.length) := by rw [Nat.min_comm, take_min]
  unfold Cf.writePipeT Cf.setPipe
  rw [hsp, e])
 have HH3 := Lib.hid (fun W hW => HH.out W hW 2)
 rw [HT.out]
 have hmin : ∀ ats ty w, (Builtin.min_ ats ty #[.int .i64 c.length, .int .i64 (20 - (s.length : Int))]).run Tryz.prog w = .ok (.int .i64 ((min c.length (20 - s.length) : Nat) : Int)) w := by
  intro ats ty w
  have := min_run c.length (20 - s.length) ats ty w
  rwa [show ((20 - s.length : Nat) : Int) = 20 - (s.length : Int) by omega] at this
 have s2 := str_upto c (min c.length (20 - s.length)) (Nat.min_le_left _ _)
 have hsz : (⟨s.toArray⟩ : ByteArray).size = s.length := by simp [ByteArray.size]
 have hcz : (⟨c.toArray⟩ : ByteArray).size = c.length := by simp [ByteArray.size]
 have htl : (c.take (min c.length (20 - s.length))).length ≤ 100 := by rw [List.length_take]; omega
 clear h hs hsp HH HT hG
 generalize Cf.hasB k.procs 2 i = b at *
 generalize c.take (min c.length (20 - s.length)) = t at *
 generalize min c.length (20 - s.length) = m at *
 cases b
 ·rw [if_pos rfl]
  go_enter Tryz.func143, Tryz.ntmps143
  go_upto_region 1 with fail
  generalize w.alloc (.cells #[.int .i64 0, .int .i64 0, .string ⟨#[]⟩] tAns) = w0 at *
  go_wp2_with fail
  refine (HH3.out _ HK0.out).mono ?_
  rintro e w1 ⟨rfl, hb1⟩
  have HK1 := Lib.hid (HK0.out.below hb1)
  have HX1 := Lib.hid (HX0.out.below hb1)
  clear hb1 HK0 HX0 HH3 HS
  go_wp2_with fail
  refine (refuse_any 12 _).mono ?_
  rintro e w2 ⟨rfl, hb2⟩
  have HK2 := Lib.hid (HK1.out.below hb2)
  have HX2 := Lib.hid (HX1.out.below hb2)
  simp only [encAn]
  clear hb2 HK1 HX1
  have hX9 := HX2.out _ _ HXB.out
  have HFin := Lib.hid (fin_ans HK2.out HX2.out HXw.out HXB.out hlow hroom)
  have p0 := hX9.cell 0
  have p1 := hX9.cell 1
  have p2 := hX9.cell 2
  simp only [List.getElem?_cons_zero, List.getElem?_cons_succ] at p0 p1 p2
  have f0 := hX9.open_
  have hl9 := hX9.lt
  clear hX9 HK2 HX2 HXw HXB
  go_wp2
  refine bodyPost_ret (v := .agg #[.int .i64 12, .int .i64 0, .string ⟨#[]⟩]) (by simp [results, Tryz.results143, go_sem, p0, p1, p2]) rfl ?_
  exact ⟨rfl, by (show ActFin _ _ _ _ k _); with_reducible exact HFin.out _ _ _⟩
 ·rw [if_neg (by decide)]
  by_cases h0 : t = []
  ·rw [if_pos h0]
   subst h0
   go_enter Tryz.func143, Tryz.ntmps143
   go_upto_region 1 with fail
   generalize w.alloc (.cells #[.int .i64 0, .int .i64 0, .string ⟨#[]⟩] tAns) = w0 at *
   go_wp2_with fail
   refine (HH3.out _ HK0.out).mono ?_
   rintro e w1 ⟨rfl, hb1⟩
   have HK1 := Lib.hid (HK0.out.below hb1)
   have HX1 := Lib.hid (HX0.out.below hb1)
   clear hb1 HK0 HX0 HH3
   have hK1 := HK1.out
   have c3 := hK1.ptr.c3
   simp only [HG.out.pipesL] at c3
   have kl := hK1.box.lt
   have s0 := hK1.s0 rfl HS.out
   have sl := (hK1.Bs rfl HS.out).lt
   have sf := (hK1.Bs rfl HS.out).open_
   clear hK1
   go_wp2_with fail
   refine (refuse_any 13 _).mono ?_
   rintro e w2 ⟨rfl, hb2⟩
   have HK2 := Lib.hid (HK1.out.below hb2)
   have HX2 := Lib.hid (HX1.out.below hb2)
   simp only [encAn]
   clear hb2 HK1 HX1
   have hX9 := HX2.out _ _ HXB.out
   have HFin := Lib.hid (fin_ans HK2.out HX2.out HXw.out HXB.out hlow hroom)
   have p0 := hX9.cell 0
   have p1 := hX9.cell 1
   have p2 := hX9.cell 2
   simp only [List.getElem?_cons_zero, List.getElem?_cons_succ] at p0 p1 p2
   have f0 := hX9.open_
   have hl9 := hX9.lt
   clear hX9 HK2 HX2 HXw HXB
   go_wp2
   refine bodyPost_ret (v := .agg #[.int .i64 13, .int .i64 0, .string ⟨#[]⟩]) (by simp [results, Tryz.results143, go_sem, p0, p1, p2]) rfl ?_
   exact ⟨rfl, by (show ActFin _ _ _ _ k _); with_reducible exact HFin.out _ _ _⟩
  ·rw [if_neg h0]
   have hadd := add_run s t (by omega)
   have hns : ¬ (9223372036854775807 < s.length + t.length) := by omega
   have hne : ¬ t.isEmpty = true := by simpa using h0
   have htz : (⟨t.toArray⟩ : ByteArray).size = t.length := by simp [ByteArray.size]
   have HCl := Lib.hid (fun W => cloneS_any t W (by omega))
   have Heg := Lib.hid (fun args w => show (callFunc 58 args).run Tryz.prog w = .ok (.enter 58 args) w by simp [go_sem])
   clear h0
   go_enter Tryz.func143, Tryz.ntmps143
   go_upto_region 1 with fail
   generalize w.alloc (.cells #[.int .i64 0, .int .i64 0, .string ⟨#[]⟩] tAns) = w0 at *
   go_wp2_with fail
   refine (HH3.out _ HK0.out).mono ?_
   rintro e w1 ⟨rfl, hb1⟩
   have HK1 := Lib.hid (HK0.out.below hb1)
   have HX1 := Lib.hid (HX0.out.below hb1)
   clear hb1 HK0 HX0 HH3
   have hK1 := HK1.out
   have c3 := hK1.ptr.c3
   simp only [HG.out.pipesL] at c3
   have kl := hK1.box.lt
   have s0 := hK1.s0 rfl HS.out
   have sl := (hK1.Bs rfl HS.out).lt
   have sf := (hK1.Bs rfl HS.out).open_
   clear hK1
   go_wp2_with fail
   go_region_law (first
    | (refine step_call1 (by rfl) 58 (.tmp 36) #[9] (by rfl) (.string ⟨t.toArray⟩) (by rfl) Heg.out (HCl.out _) ?_
       rintro e w2 ⟨rfl, hb2⟩
       refine ⟨_, rfl, ?_⟩
       have HK2 := Lib.hid (HK1.out.draw.below hb2)
       have HX2 := Lib.hid ((HX1.out.draw 1).below hb2)
       have hK2 := HK2.out
       have d3 := hK2.ptr.c3
       simp only [HG.out.pipesL] at d3
       have dl := hK2.box.lt
       have e0 := hK2.s0 rfl HS.out
       have el := (hK2.Bs rfl HS.out).lt
       have ef := (hK2.Bs rfl HS.out).open_
       have HK3 := Lib.hid (hK2.putP rfl (s ++ t) HS.out)
       have HX3 := Lib.hid (HX2.out.offX (hK2.Bs rfl HS.out).box (by decide) i (.string ⟨(s ++ t).toArray⟩))
       have hX2 := HX2.out _ _ HXB.out
       have t0 := hX2.cell 0
       have t1 := hX2.cell 1
       have t2 := hX2.cell 2
       simp only [List.getElem?_cons_zero, List.getElem?_cons_succ] at t0 t1 t2
       have tf := hX2.open_
       have tl := hX2.lt
       have hng : gS ≠ w.heap.size := Ne.symm ((hK2.Bs rfl HS.out).box.elim fun ds hd => hX2.other hd (by decide))
       clear hX2 HX2 hK2 HK2 hb2)
    | fail)
   all_goals
    clear HK1 HX1
    have hX9 := HX3.out _ _ HXB.out
    have HFin := Lib.hid (fin_ans HK3.out HX3.out HXw.out HXB.out hlow hroom)
    have p0 := hX9.cell 0
    have p1 := hX9.cell 1
    have p2 := hX9.cell 2
    simp only [List.getElem?_cons_zero, List.getElem?_cons_succ] at p0 p1 p2
    have f0 := hX9.open_
    have hl9 := hX9.lt
    clear hX9 HK3 HX3 HXw HXB
    go_wp2
    refine bodyPost_ret (v := .agg #[.int .i64 0, .int .i64 t.length, .string ⟨#[]⟩]) (by simp [results, Tryz.results143, go_sem, p0, p1, p2]) rfl ?_
    exact ⟨rfl, by (show ActFin _ _ _ _ ⟨_, _, _, _, _⟩ _); with_reducible exact HFin.out _ _ _⟩
end Go.Proofs.YtnnhhbjbdmgpiaaGreatDoor
/- Walks of chapter 5: the program's writeFile. (tools/gen/acts.py) -/
namespace Go.Proofs.YtnnhhbjbdmgpiaaGreatDoor
set_option maxRecDepth 100000
open Go.RowKit
theorem max_run (x y : Nat) (ats : Array TypeId) (ty : TypeId) (w : World) : (Builtin.max_ ats ty #[.int .i64 (x : Int), .int .i64 (y : Int)]).run Tryz.prog w = .ok (.int .i64 ((max x y : Nat) : Int)) w := by
 simp only [Builtin.max_]
 simp [Builtin.max2]
 split <;> omega
abbrev tU8 : TypeId := 5
def bc (l : List UInt8) : List Value := l.map fun x => .int .u8 (x.toNat : Int)
theorem bc_len (l : List UInt8) : (bc l).length = l.length := by simp [bc]
theorem bc_app (a b : List UInt8) : bc (a ++ b) = bc a ++ bc b := by simp [bc]
theorem bc_take (l : List UInt8) (n : Nat) : (bc l).take n = bc (l.take n) := by simp [bc, List.map_take]
theorem bc_drop (l : List UInt8) (n : Nat) : (bc l).drop n = bc (l.drop n) := by simp [bc, List.map_drop]
theorem Wb.lay {g : Nat} {t : TypeId} : ∀ (vs : List Value) (o : Nat) (w : World) (cs : List Value), Wb w g t cs → o + vs.length ≤ cs.length → Wb (w.setCells g o vs) g t (cs.take o ++ vs ++ cs.drop (o + vs.length))
 | [], o, w, cs, h, _ => by simpa [World.setCells] using h
 | v :: vs, o, w, cs, h, hl => by
   simp only [List.length_cons] at hl
   have h1 := Wb.lay vs (o + 1) (w.setCell ⟨g, o, none⟩ v) (cs.set o v) (h.put o v) (by simp; omega)
   have e : (cs.set o v).take (o + 1) ++ vs ++ (cs.set o v).drop (o + 1 + vs.length) = cs.take o ++ (v :: vs) ++ cs.drop (o + (v :: vs).length) := by
    have ho : o < cs.length := by omega
    rw [List.take_add_one, List.getElem?_set_self ho, List.take_set_of_le (Nat.le_refl o), List.drop_set_of_lt (by omega), List.length_cons, show o + 1 + vs.length = o + (vs.length + 1) by omega]
    simp
   rw [e] at h1
   exact h1
theorem Wb.is_there {w : World} {g : Nat} {t : TypeId} {cs : List Value} (h : Wb w g t cs) {j : Nat} (hj : j < cs.length) : (w.cell? ⟨g, j, none⟩).isSome = true := by
 rw [h.cell, List.getElem?_eq_getElem hj]
 rfl
theorem wb_byts {w : World} {g : Nat} {l : List UInt8} (h : Wb w g tU8 (bc l)) : Byts w (some ⟨g, 0, none⟩) l :=
 .inr ⟨g, 0, rfl, h.lt, fun k x hx j v hv => by
  have h0 : j = 0 := by
   cases j with
   | zero => rfl
   | succ j => simp [encB] at hv
  subst h0
  simp [encB] at hv
  subst hv
  rw [show 0 + k * 1 + 0 = k by omega, h.cell]
  simp [bc, hx]⟩
theorem size1 : ∀ w, (Go.sizeOf tU8).run Tryz.prog w = .ok 1 w := by
 obtain ⟨i1, hi1, hy0, hy1, hy2⟩ := info_parts infoByte
 intro w
 simp [sizeOf, typeInfo, hi1, hy1]
theorem copy_bytes {w : World} {g n c o : Nat} {l s : List UInt8} (h : Wb w g tU8 (bc l)) (hl : o + s.length ≤ l.length) (hn : s.length ≤ n) (ty : TypeId) :
  (Builtin.copy_ #[92, 9] ty #[.slice (some ⟨g, o, none⟩) n c, .string ⟨s.toArray⟩]).run Tryz.prog w = .ok (goInt s.length) (w.setCells g o (bc s)) := by
 have hs : (⟨s.toArray⟩ : ByteArray).size = s.length := by simp [ByteArray.size]
 have := run_copy_string (P := Tryz.prog) w 92 9 ty tU8 g o n c ⟨s.toArray⟩ Tryz.underlying92 size1 (by rw [hs]; exact hn) (fun j hj => h.is_there (by rw [hs] at hj; rw [bc_len]; omega)) (fun j _ => h.open_ _)
 rw [hs] at this
 exact this
theorem made_bytes (w : World) (n : Nat) (hn : n ≤ 100) : ∃ c, (Instr.makeSlice 92 (.int .i64 (n : Int)) (.int .i64 (n : Int))).run Tryz.prog w = .ok (.slice (some ⟨w.heap.size, 0, none⟩) n n) (w.alloc (.cells c tU8)) ∧ c.toList = bc (List.replicate n 0) := by
 obtain ⟨i1, hi1, hy0, hy1, hy2⟩ := info_parts infoByte
 have := run_make (P := Tryz.prog) w 92 tU8 i1 _ Tryz.underlying92 hi1 hy0 .i64 .i64 (n : Int) (n : Int) (by omega) (by omega) (by rw [hy2]; omega) (by omega)
 rw [Int.toNat_natCast] at this
 refine ⟨_, this, ?_⟩
 have h1 := made_flat (Value.int .u8 0).cells (0 : UInt8) (enc := encB) rfl n
 have hsz : (Value.int .u8 0).cells.size = 1 := rfl
 rw [hsz] at h1
 rw [hy1, h1]
 simp [bc, encB, List.flatMap_replicate]
theorem over_is (d t : List UInt8) (po : Nat) : (d ++ List.replicate (max d.length (po + t.length) - d.length) 0).take po ++ t ++ (d ++ List.replicate (max d.length (po + t.length) - d.length) 0).drop (po + t.length) = Cf.overT d t po := by
 unfold Cf.overT
 have h1 : (d ++ List.replicate (max d.length (po + t.length) - d.length) (0 : UInt8)).take po = (d ++ List.replicate (po - d.length) 0).take po := by
  rw [List.take_append, List.take_append, List.take_replicate, List.take_replicate]
  congr 2
  omega
 have h2 : (d ++ List.replicate (max d.length (po + t.length) - d.length) (0 : UInt8)).drop (po + t.length) = d.drop (po + t.length) := by
  rw [List.drop_append, List.drop_replicate]
  rw [show max d.length (po + t.length) - d.length - (po + t.length - d.length) = 0 by omega]
  simp
 rw [h1, h2]
theorem PAt.node {a : KA} {ps : List PV} {k : Cf.Kern} {q gQ gE ce : Nat} {lv : Bool} {es : List Cf.End} (h : PAt a ps k q gQ gE ce lv es) (ns : List Cf.Node) : PAt a ps ⟨k.mods, k.mem, ns, k.pipes, k.procs⟩ q gQ gE ce lv es := ⟨h.Q, h.pv, h.proc, h.len, h.is_, h.cap⟩
set_option maxHeartbeats 1000000 in
theorem writeFile_any {B : Nat} {wb : World} {g : Nat} {a : KA} {xs : List MV} {ps : List PV} (k : Cf.Kern) (q gQ gE ce gN j : Nat) (lv : Bool) (es : List Cf.End) (i : Nat) (e : Cf.End) (f : Cf.Node) (c : List UInt8) (w : World) (h : KSt B wb g a xs ps k w) (hP : PAt a ps k q gQ gE ce lv es) (he : es[i]? = some e) (hN : a.N = some ⟨gN, 0, none⟩) (hf : k.nodes[j]? = some f) (hj : e.node.toNat = j) (hd : f.data.length ≤ 100) (hc : c.length ≤ 100) (hp : 0 ≤ e.pos ∧ e.pos ≤ 100) :
  Calls Tryz.prog 145 #[.pointer (some ⟨gN, j * 4, none⟩), .pointer (some ⟨gE, i * 3, none⟩), .string ⟨c.toArray⟩] w (ActPost B wb g w (Cf.writeFileT k q i c e f)) := by
 have HXB := Lib.hid (Wb.new w tAns [.int .i64 0, .int .i64 0, .string ⟨#[]⟩])
 have HXw := Lib.hid (KpA.alloc w (.cells #[.int .i64 0, .int .i64 0, .string ⟨#[]⟩] tAns))
 have HX0 := Lib.hid (KpA.refl (w.alloc (.cells #[.int .i64 0, .int .i64 0, .string ⟨#[]⟩] tAns)))
 have HK0 := Lib.hid (h.below ((Below.refl _ _).alloc (Nat.le_refl _) (.cells #[.int .i64 0, .int .i64 0, .string ⟨#[]⟩] tAns)))
 have hroom := h.room
 have hlow : w.heap.size ≤ w.heap.size := Nat.le_refl _
 have HP := Lib.hid hP
 have HE := Lib.hid he
 have HN := Lib.hid hN
 have HF := Lib.hid hf
 obtain ⟨po, hpo⟩ := Int.eq_ofNat_of_zero_le hp.1
 obtain ⟨ek, en, ep⟩ := e
 obtain ⟨fn, fk, d, fu⟩ := f
 simp only at hpo hp hd hj
 subst hpo
 have hmin : ∀ ats ty w, (Builtin.min_ ats ty #[.int .i64 c.length, .int .i64 (100 - (po : Int))]).run Tryz.prog w = .ok (.int .i64 ((min c.length (100 - po) : Nat) : Int)) w := by
  intro ats ty w
  have := min_run c.length (100 - po) ats ty w
  rwa [show ((100 - po : Nat) : Int) = 100 - (po : Int) by omega] at this
 have s2 := str_upto c (min c.length (100 - po)) (Nat.min_le_left _ _)
 have hcz : (⟨c.toArray⟩ : ByteArray).size = c.length := by simp [ByteArray.size]
 have hdz : (⟨d.toArray⟩ : ByteArray).size = d.length := by simp [ByteArray.size]
 have htl : po + (c.take (min c.length (100 - po))).length ≤ 100 := by rw [List.length_take]; omega
 have HT := Lib.hid (show Cf.writeFileT k q i c ⟨ek, en, po⟩ ⟨fn, fk, d, fu⟩ = if c.take (min c.length (100 - po)) = [] then Cf.refuseT k 8 else ⟨⟨k.mods, k.mem, k.nodes.set j ⟨fn, fk, Cf.overT d (c.take (min c.length (100 - po))) po, fu⟩, k.pipes, k.procs.set q ⟨lv, es.set i ⟨ek, en, (po : Int) + (c.take (min c.length (100 - po))).length⟩⟩⟩, ⟨0, (c.take (min c.length (100 - po))).length, []⟩⟩ by
  have e : c.take (min c.length (100 - po)) = c.take (100 - po) := by rw [Nat.min_comm, take_min]
  have e2 : ∀ n : Cf.Node, Cf.procAt (Cf.setNode k j n) q = ⟨lv, es⟩ := fun n => hP.is_
  unfold Cf.writeFileT Cf.setEnd
  simp only [Int.toNat_natCast, hj, e2, e]
  rfl)
 rw [HT.out]
 clear h hP he hN hf hj HT
 generalize c.take (min c.length (100 - po)) = t at *
 generalize min c.length (100 - po) = m at *
 by_cases h0 : t = []
 ·rw [if_pos h0]
  subst h0
  go_enter Tryz.func145, Tryz.ntmps145
  go_upto_region 1 with fail
  generalize w.alloc (.cells #[.int .i64 0, .int .i64 0, .string ⟨#[]⟩] tAns) = w0 at *
  have hBe := HK0.out.Be HP.out
  have r2 : w0.cell? ⟨gE, i * 3 + 2, none⟩ = _ := hBe.cell HE.out (j := 2) rfl
  have rf := hBe.open_
  have rl := hBe.lt
  have hBn := HK0.out.Bn HN.out HF.out
  have n2 : w0.cell? ⟨gN, j * 4 + 2, none⟩ = _ := hBn.cell HF.out (j := 2) rfl
  have nf := hBn.open_
  have nl := hBn.lt
  have hne2 : gN ≠ gE := hBn.other hBe (by decide)
  clear hBe hBn
  go_wp2_with fail
  refine (refuse_any 8 _).mono ?_
  rintro e w1 ⟨rfl, hb1⟩
  have HK1 := Lib.hid (HK0.out.below hb1)
  have HX1 := Lib.hid (HX0.out.below hb1)
  simp only [encAn]
  clear hb1 HK0 HX0
  have hX9 := HX1.out _ _ HXB.out
  have HFin := Lib.hid (fin_ans HK1.out HX1.out HXw.out HXB.out hlow hroom)
  have p0 := hX9.cell 0
  have p1 := hX9.cell 1
  have p2 := hX9.cell 2
  simp only [List.getElem?_cons_zero, List.getElem?_cons_succ] at p0 p1 p2
  have f0 := hX9.open_
  have hl9 := hX9.lt
  clear hX9 HK1 HX1 HXw HXB
  go_wp2
  refine bodyPost_ret (v := .agg #[.int .i64 8, .int .i64 0, .string ⟨#[]⟩]) (by simp [results, Tryz.results145, go_sem, p0, p1, p2]) rfl ?_
  exact ⟨rfl, by (show ActFin _ _ _ _ k _); with_reducible exact HFin.out _ _ _⟩
 ·rw [if_neg h0]
  have hne : ¬ t.isEmpty = true := by simpa using h0
  have htz : (⟨t.toArray⟩ : ByteArray).size = t.length := by simp [ByteArray.size]
  have htp : 0 < t.length := List.length_pos_iff.2 h0
  have hmax : ∀ ats ty w, (Builtin.max_ ats ty #[.int .i64 d.length, .int .i64 ((po : Int) + (t.length : Int))]).run Tryz.prog w = .ok (.int .i64 ((max d.length (po + t.length) : Nat) : Int)) w := by
   intro ats ty w
   have := max_run d.length (po + t.length) ats ty w
   rwa [show ((po + t.length : Nat) : Int) = (po : Int) + (t.length : Int) by omega] at this
  have hnp : ¬ max d.length (po + t.length) = po := by omega
  have hpm : po ≤ max d.length (po + t.length) := by omega
  have hR := over_is d t po
  have hRl : (Cf.overT d t po).length = max d.length (po + t.length) := by rw [← hR]; simp; omega
  have hRn : Cf.overT d t po ≠ [] := by intro h; rw [h] at hRl; simp at hRl; omega
  have hmx : max d.length (po + t.length) ≤ 100 := by omega
  have hL1 : d.length ≤ max d.length (po + t.length) := by omega
  have hL2 : po + t.length ≤ max d.length (po + t.length) := by omega
  generalize max d.length (po + t.length) = mx at *
  have HR := Lib.hid hR
  have HRl := Lib.hid hRl
  have HRn := Lib.hid hRn
  generalize Cf.overT d t po = R at *
  clear h0 hR hRl hRn
  go_enter Tryz.func145, Tryz.ntmps145
  go_upto_region 1 with fail
  generalize w.alloc (.cells #[.int .i64 0, .int .i64 0, .string ⟨#[]⟩] tAns) = w0 at *
  have hBe := HK0.out.Be HP.out
  have r2 : w0.cell? ⟨gE, i * 3 + 2, none⟩ = _ := hBe.cell HE.out (j := 2) rfl
  have rf := hBe.open_
  have rl := hBe.lt
  have hBn := HK0.out.Bn HN.out HF.out
  have n2 : w0.cell? ⟨gN, j * 4 + 2, none⟩ = _ := hBn.cell HF.out (j := 2) rfl
  have nf := hBn.open_
  have nl := hBn.lt
  have hne2 : gN ≠ gE := hBn.other hBe (by decide)
  clear hBe hBn
  obtain ⟨cz, hmk, hcz2⟩ := made_bytes w0 mx hmx
  go_upto_region 6 with fail
  have HM1 := Lib.hid (show Wb (w0.alloc (.cells cz tU8)) w0.heap.size tU8 (bc (List.replicate mx 0)) by
   have := Wb.new w0 tU8 cz.toList
   rw [hcz2] at this
   have e : (bc (List.replicate mx 0)).toArray = cz := by rw [← hcz2]
   rwa [e] at this)
  have hb1 : Below w0.heap.size w0 (w0.alloc (.cells cz tU8)) := (Below.refl _ _).alloc (Nat.le_refl _) _
  clear hmk hcz2 r2 rf rl n2 nf nl hne2
  generalize w0.alloc (.cells cz tU8) = w1 at *
  have HK1 := Lib.hid (HK0.out.below hb1)
  have HX1 := Lib.hid (HX0.out.below hb1)
  have Hb1 := Lib.hid hb1
  clear hb1
  have hBe := HK1.out.Be HP.out
  have r2 : w1.cell? ⟨gE, i * 3 + 2, none⟩ = _ := hBe.cell HE.out (j := 2) rfl
  have rf := hBe.open_
  have rl := hBe.lt
  have hBn := HK1.out.Bn HN.out HF.out
  have n2 : w1.cell? ⟨gN, j * 4 + 2, none⟩ = _ := hBn.cell HF.out (j := 2) rfl
  have nf := hBn.open_
  have nl := hBn.lt
  have hne2 : gN ≠ gE := hBn.other hBe (by decide)
  clear hBe hBn
  have hcp := fun ty => copy_bytes (o := 0) (n := mx) (c := mx) (s := d) HM1.out (by rw [List.length_replicate]; omega) (by omega) ty
  go_upto_region 7 with fail
  have HM2 := Lib.hid (show Wb (w1.setCells w0.heap.size 0 (bc d)) w0.heap.size tU8 (bc (d ++ List.replicate (mx - d.length) 0)) by
   have := Wb.lay (bc d) 0 w1 _ HM1.out (by rw [bc_len, bc_len, List.length_replicate]; omega)
   rw [bc_take, bc_drop, bc_len, ← bc_app, ← bc_app] at this
   simpa using this)
  have Hb2 := Lib.hid (Go.below_setCells (B := w0.heap.size) (Nat.le_refl _) (bc d) 0 w1 Hb1.out)
  clear HK1 HX1 hcp HM1 Hb1 r2 rf rl n2 nf nl hne2
  generalize w1.setCells w0.heap.size 0 (bc d) = w2 at *
  have HK2 := Lib.hid (HK0.out.below Hb2.out)
  have hBe := HK2.out.Be HP.out
  have r2 : w2.cell? ⟨gE, i * 3 + 2, none⟩ = _ := hBe.cell HE.out (j := 2) rfl
  have rf := hBe.open_
  have rl := hBe.lt
  have hBn := HK2.out.Bn HN.out HF.out
  have n2 : w2.cell? ⟨gN, j * 4 + 2, none⟩ = _ := hBn.cell HF.out (j := 2) rfl
  have nf := hBn.open_
  have nl := hBn.lt
  have hne2 : gN ≠ gE := hBn.other hBe (by decide)
  clear hBe hBn
  have hcp := fun ty => copy_bytes (o := po) (n := mx - po) (c := mx - po) (s := t) HM2.out (by rw [List.length_append, List.length_replicate]; omega) (by omega) ty
  go_upto_region 8 with fail
  have HM3 := Lib.hid (show Wb (w2.setCells w0.heap.size po (bc t)) w0.heap.size tU8 (bc R) by
   have := Wb.lay (bc t) po w2 _ HM2.out (by rw [bc_len, bc_len, List.length_append, List.length_replicate]; omega)
   rw [bc_take, bc_drop, bc_len, ← bc_app, ← bc_app, HR.out] at this
   exact this)
  have Hb3 := Lib.hid (Go.below_setCells (B := w0.heap.size) (Nat.le_refl _) (bc t) po w2 Hb2.out)
  clear HK2 hcp HM2 Hb2 r2 rf rl n2 nf nl hne2
  generalize w2.setCells w0.heap.size po (bc t) = w3 at *
  have HK3 := Lib.hid (HK0.out.below Hb3.out)
  have HX3 := Lib.hid (HX0.out.below Hb3.out)
  have hBe := HK3.out.Be HP.out
  have r2 : w3.cell? ⟨gE, i * 3 + 2, none⟩ = _ := hBe.cell HE.out (j := 2) rfl
  have rf := hBe.open_
  have rl := hBe.lt
  have hBn := HK3.out.Bn HN.out HF.out
  have n2 : w3.cell? ⟨gN, j * 4 + 2, none⟩ = _ := hBn.cell HF.out (j := 2) rfl
  have nf := hBn.open_
  have nl := hBn.lt
  have hne2 : gN ≠ gE := hBn.other hBe (by decide)
  clear hBe hBn
  have hcv := bytes_back (wb_byts HM3.out) HRn.out mx
  rw [HRl.out] at hcv
  have HK4 := Lib.hid (HK3.out.putN HN.out (i := j) (j := 2) (x' := ⟨fn, fk, R, fu⟩) (u := .string ⟨R.toArray⟩) HF.out (by omega) rfl)
  have HX4 := Lib.hid (HX3.out.offX (HK3.out.Bn HN.out HF.out).box (by decide) (j * 4 + 2) (.string ⟨R.toArray⟩))
  have HP4 := Lib.hid (HP.out.node (k.nodes.set j ⟨fn, fk, R, fu⟩))
  clear HK0 HX0 HK3 HX3 Hb3 HM3
  go_upto_region 9 with fail
  clear hcv r2 rf rl n2 nf nl hne2
  generalize w3.setCell ⟨gN, j * 4 + 2, none⟩ (.string ⟨R.toArray⟩) = w4 at *
  have hBe := HK4.out.Be HP4.out
  have r2 : w4.cell? ⟨gE, i * 3 + 2, none⟩ = _ := hBe.cell HE.out (j := 2) rfl
  have rf := hBe.open_
  have rl := hBe.lt
  clear hBe
  have HK5 := Lib.hid (HK4.out.putE HP4.out.pv HP4.out.proc rfl (i := i) (j := 2) (e' := ⟨ek, en, (po : Int) + t.length⟩) (u := .int .i64 ((po : Int) + t.length)) HE.out (by omega) rfl)
  have HX5 := Lib.hid (HX4.out.offX (HK4.out.Be HP4.out).box (by decide) (i * 3 + 2) (.int .i64 ((po : Int) + t.length)))
  clear HK4 HX4
  go_upto_region 10 with fail
  clear r2 rf rl
  generalize w4.setCell ⟨gE, i * 3 + 2, none⟩ (.int .i64 ((po : Int) + t.length)) = w5 at *
  have hX9 := HX5.out _ _ HXB.out
  have HFin := Lib.hid (fin_ans HK5.out HX5.out HXw.out HXB.out hlow hroom)
  have p0 := hX9.cell 0
  have p1 := hX9.cell 1
  have p2 := hX9.cell 2
  simp only [List.getElem?_cons_zero, List.getElem?_cons_succ] at p0 p1 p2
  have f0 := hX9.open_
  have hl9 := hX9.lt
  clear hX9 HK5 HX5 HXw HXB
  go_wp2
  refine bodyPost_ret (v := .agg #[.int .i64 0, .int .i64 t.length, .string ⟨#[]⟩]) (by simp [results, Tryz.results145, go_sem, p0, p1, p2]) rfl ?_
  exact ⟨rfl, by (show ActFin _ _ _ _ ⟨_, _, _, _, _⟩ _); with_reducible exact HFin.out _ _ _⟩
end Go.Proofs.YtnnhhbjbdmgpiaaGreatDoor
/- Walks of the laws' own helpers: bytes of a raw thing. -/
namespace Go.Proofs.YtnnhhbjbdmgpiaaGreatDoor
set_option maxRecDepth 100000
open Go.RowKit
def DataPost (n : Nat) (w : World) (e : Ending) (w' : World) : Prop := ∃ l : List UInt8, l.length = n ∧ e = .returned (.string ⟨l.toArray⟩) ∧ Below w.heap.size w w'
theorem byte_of {z : Int} (h1 : 0 ≤ z) (h2 : z ≤ 255) : ((UInt8.ofNat z.toNat).toNat : Int) = z := by
 rw [UInt8.toNat_ofNat']
 omega
theorem bc_get {l : List UInt8} {k : Nat} {c : UInt8} (h : l[k]? = some c) : (bc l)[k]? = some (.int .u8 (c.toNat : Int)) := by simp [bc, h]
theorem bc_set (l : List UInt8) (k : Nat) (c : UInt8) : (bc l).set k (.int .u8 (c.toNat : Int)) = bc (l.set k c) := by simp [bc]
set_option maxRecDepth 100000 in
set_option maxHeartbeats 1000000 in
theorem data_any (kr ra rb rc : Int) (n : Nat) (w : World) (f1 : Fit ra) (f2 : Fit rb) (hn : (n : Int) = 1 + Cf.pick ra 30) :
  Calls Tryz.prog 17 #[.agg #[.int .i64 kr, .int .i64 ra, .int .i64 rb, .int .i64 rc]] w (DataPost n w) := by
 have Hbox := Lib.hid (Wb.new w 45 [.int .i64 kr, .int .i64 ra, .int .i64 rb, .int .i64 rc])
 have hb0 : Below w.heap.size w (w.alloc (.cells #[.int .i64 kr, .int .i64 ra, .int .i64 rb, .int .i64 rc] 45)) := (Below.refl _ _).alloc (Nat.le_refl _) _
 obtain ⟨n1, n2⟩ := Cf.pick_range ra 30 (by omega)
 have hn30 : n ≤ 30 := by omega
 have hn1 : 1 ≤ n := by omega
 have Hn := Lib.hid hn
 clear hn
 go_enter Tryz.func17, Tryz.ntmps17
 go_wp2_with fail
 refine (picked_any ra 30 _ f1 (by omega) (by omega)).mono ?_
 rintro e w' ⟨rfl, rfl⟩
 have hpk : Cf.pick ra 30 = (n : Int) - 1 := by have := Hn.out; omega
 rw [hpk]
 clear hpk n1 n2 Hn
 obtain ⟨cz, hmk, hcz2⟩ := made_bytes (w.alloc (.cells #[.int .i64 kr, .int .i64 ra, .int .i64 rb, .int .i64 rc] 45)) n (by omega)
 go_upto_region 2 with fail
 rw [show (1 : Int) + ((n : Int) - 1) = (n : Int) by omega]
 have HM0 := Lib.hid (show Wb ((w.alloc (.cells #[.int .i64 kr, .int .i64 ra, .int .i64 rb, .int .i64 rc] 45)).alloc (.cells cz tU8)) (w.heap.size + 1) tU8 (bc (List.replicate n 0)) by
  have := Wb.new (w.alloc (.cells #[.int .i64 kr, .int .i64 ra, .int .i64 rb, .int .i64 rc] 45)) tU8 cz.toList
  rw [hcz2] at this
  have e : (bc (List.replicate n 0)).toArray = cz := by rw [← hcz2]
  rw [e] at this
  simpa using this)
 have HB0 := Lib.hid (Hbox.out.alloc (.cells cz tU8))
 have hbw0 := hb0.alloc (by simp) (.cells cz tU8)
 rw [show (w.alloc (.cells #[.int .i64 kr, .int .i64 ra, .int .i64 rb, .int .i64 rc] 45)).heap.size = w.heap.size + 1 by simp] at hmk
 clear hcz2 Hbox hb0
 rw [hmk]
 clear hmk
 go_upto_region 2 with fail
 generalize (w.alloc (.cells #[.int .i64 kr, .int .i64 ra, .int .i64 rb, .int .i64 rc] 45)).alloc (.cells cz tU8) = w1 at *
 go_wp2
 go_loopw [12] (fun iv wr => ∃ (k : Nat) (l : List UInt8), k ≤ n ∧ iv = .int .i64 k ∧ l.length = n ∧ Wb wr (w.heap.size + 1) tU8 (bc l) ∧ Wb wr w.heap.size 45 [.int .i64 kr, .int .i64 ra, .int .i64 rb, .int .i64 rc] ∧ Below w.heap.size w wr) (fun iv _ => n - (intOf iv).toNat)
 case atStart => exact ⟨0, _, by omega, rfl, by simp, HM0.out, HB0.out, hbw0⟩
 case round =>
  obtain ⟨k, l, hk, rfl, hl, hm, hx, hbw⟩ := hrel
  have Hl := Lib.hid hl
  have Hm := Lib.hid hm
  have Hx := Lib.hid hx
  clear hl hm hx HM0 HB0 hbw0
  by_cases hlt : k < n
  ·have q2 := Hx.out.cell 2
   simp at q2
   obtain ⟨p1, p2⟩ := Cf.pick_range rb 26 (by omega)
   obtain ⟨c0, hc0⟩ : ∃ c, l[k]? = some c := ⟨_, List.getElem?_eq_getElem (by rw [Hl.out]; exact hlt)⟩
   have mc : wr.cell? ⟨w.heap.size + 1, k, none⟩ = _ := (Hm.out.cell k).trans (bc_get hc0)
   have mf := Hm.out.open_
   have ml := Hm.out.lt
   go_wp2_with fail
   refine (picked_any rb 26 _ f2 (by omega) (by omega)).mono ?_
   rintro e w' ⟨rfl, rfl⟩
   generalize Cf.pick rb 26 = pb at p1 p2 ⊢
   have hz1 : 0 ≤ ((k : Int) + pb) % 26 := by omega
   have hz2 : ((k : Int) + pb) % 26 < 26 := by omega
   have HM1 := Lib.hid (show Wb (wr.setCell ⟨w.heap.size + 1, k, none⟩ (.int .u8 (97 + ((k : Int) + pb) % 26))) (w.heap.size + 1) tU8 (bc (l.set k (UInt8.ofNat (97 + ((k : Int) + pb) % 26).toNat))) by
    rw [← bc_set, byte_of (by omega) (by omega)]
    exact Hm.out.put k _)
   have HB1 := Lib.hid (Hx.out.off_ (p := ⟨w.heap.size + 1, k, none⟩) (by simp) (.int .u8 (97 + ((k : Int) + pb) % 26)))
   have hbw1 := hbw.setCell (p := ⟨w.heap.size + 1, k, none⟩) (by simp) (.int .u8 (97 + ((k : Int) + pb) % 26))
   clear Hm Hx hc0
   go_wp2
   go_roundw
   case rel => exact ⟨k + 1, _, by omega, by go_num, by rw [List.length_set]; exact Hl.out, HM1.out, HB1.out, hbw1⟩
   case measure => simp [intOf]; omega
  ·have hcv := bytes_back (wb_byts Hm.out) (by intro e; have h8 := Hl.out; rw [e] at h8; simp at h8; omega) n
   rw [Hl.out] at hcv
   go_wp2
   go_ret
   exact ⟨l, Hl.out, rfl, hbw⟩
end Go.Proofs.YtnnhhbjbdmgpiaaGreatDoor
