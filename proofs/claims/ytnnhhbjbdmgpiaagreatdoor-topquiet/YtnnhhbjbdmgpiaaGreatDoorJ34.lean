/- Texts of the proofs: ActO. -/
import Derived.Test.YtnnhhbjbdmgpiaaGreatDoorJ33
set_option linter.unusedSimpArgs false
set_option linter.unusedVariables false
/- Walks of chapter 5: the program's performOf. (tools/gen/acto.py) -/
namespace Go.Proofs.YtnnhhbjbdmgpiaaGreatDoor
set_option maxRecDepth 100000
open Go.RowKit
abbrev tAct : TypeId := 30
theorem KSt.drawN {B : Nat} {wb : World} {g : Nat} {a : KA} {xs : List MV} {ps : List PV} {k : Cf.Kern} {w : World} (h : KSt B wb g a xs ps k w) (n : Nat) : KSt B wb g a xs ps k (w.drewN n) := h.below (below_drewN (Below.refl _ _) n)
theorem KpA.draw1 {w w1 : World} (h : KpA w w1) : KpA w w1.drew := h.draw 1
theorem draws_gen {w0 : World} {P R : World → Prop} (n : Nat) (h : R (w0.drewN n)) (hk : ∀ w1, R w1 → P w1) : P (w0.drewN n) := hk _ h
def encAc (x : Cf.Actn) : List Value := [.int .i64 x.kind, .int .i64 x.p, .int .i64 x.n, .int .i64 x.m, .string ⟨x.name.toArray⟩, .string ⟨x.data.toArray⟩]
set_option maxHeartbeats 2000000 in
theorem performOf_any {B : Nat} {wb : World} {g : Nat} {a : KA} {xs : List MV} {ps : List PV} (k : Cf.Kern) (q gQ : Nat) (kd pp nn mm : Int) (nm da : List UInt8) (w : World) (h : KSt B wb g a xs ps k w) (hG : Cf.Good k) (hq : q < 4) (hQ : a.Q = some ⟨gQ, 0, none⟩) (hnl : nm.length ≤ maxLen) (hT : Tabs B wb) (hk : 5 ≤ kd ∧ kd ≤ 11) :
  Calls Tryz.prog 71 #[.pointer (some ⟨g, 0, none⟩), .pointer (some ⟨gQ, q * 2, none⟩), .agg #[.int .i64 kd, .int .i64 pp, .int .i64 nn, .int .i64 mm, .string ⟨nm.toArray⟩, .string ⟨da.toArray⟩]] w (ActPost B wb g w (Cf.byProcT k q ⟨kd, pp, nn, mm, nm, da⟩)) := by
 obtain ⟨A, ca, M, cm, N, cn, S, cs, Q, cq⟩ := a
 simp only at hQ
 subst hQ
 obtain ⟨gE, ce, lv, es, hP⟩ := h.pat hG.toPre hq rfl
 obtain ⟨w0, hw0⟩ : ∃ w0 : World, w0 = (w.alloc (.cells #[.int .i64 kd, .int .i64 pp, .int .i64 nn, .int .i64 mm, .string ⟨nm.toArray⟩, .string ⟨da.toArray⟩] tAct)).alloc (.cells #[.int .i64 0, .int .i64 0, .string ⟨#[]⟩] tAns) := ⟨_, rfl⟩
 have HAc := Lib.hid (show Wb w0 w.heap.size tAct [.int .i64 kd, .int .i64 pp, .int .i64 nn, .int .i64 mm, .string ⟨nm.toArray⟩, .string ⟨da.toArray⟩] by rw [hw0]; exact (Wb.new w tAct [.int .i64 kd, .int .i64 pp, .int .i64 nn, .int .i64 mm, .string ⟨nm.toArray⟩, .string ⟨da.toArray⟩]).alloc _)
 have HXB := Lib.hid (show Wb w0 (w.heap.size + 1) tAns [.int .i64 0, .int .i64 0, .string ⟨#[]⟩] by
  rw [hw0]
  have := Wb.new (w.alloc (.cells #[.int .i64 kd, .int .i64 pp, .int .i64 nn, .int .i64 mm, .string ⟨nm.toArray⟩, .string ⟨da.toArray⟩] tAct)) tAns [.int .i64 0, .int .i64 0, .string ⟨#[]⟩]
  rwa [show (w.alloc (.cells #[.int .i64 kd, .int .i64 pp, .int .i64 nn, .int .i64 mm, .string ⟨nm.toArray⟩, .string ⟨da.toArray⟩] tAct)).heap.size = w.heap.size + 1 by simp] at this)
 have HXw := Lib.hid (show KpA w w0 by rw [hw0]; exact (KpA.alloc w _).trans (KpA.alloc _ _))
 have HX0 := Lib.hid (KpA.refl w0)
 have HK0 := Lib.hid (show KSt B wb g ⟨A, ca, M, cm, N, cn, S, cs, some ⟨gQ, 0, none⟩, cq⟩ xs ps k w0 by rw [hw0]; exact h.below (((Below.refl _ _).alloc (Nat.le_refl _) (.cells #[.int .i64 kd, .int .i64 pp, .int .i64 nn, .int .i64 mm, .string ⟨nm.toArray⟩, .string ⟨da.toArray⟩] tAct)).alloc (by simp) (.cells #[.int .i64 0, .int .i64 0, .string ⟨#[]⟩] tAns)))
 have Hw0 := Lib.hid hw0
 clear hw0
 have hroom : B ≤ w.heap.size + 1 := Nat.le_succ_of_le h.room
 have hlow : w.heap.size ≤ w.heap.size + 1 := Nat.le_succ _
 have HP := Lib.hid hP
 have hpre := HP.out
 by_cases h5 : kd = 5
 ·skip
  subst h5
  have HT := Lib.hid (show Cf.byProcT k q ⟨5, pp, nn, mm, nm, da⟩ = Cf.openT k q nm from rfl)
  have HC := Lib.hid (fun W (hW : KSt B wb g ⟨A, ca, M, cm, N, cn, S, cs, some ⟨gQ, 0, none⟩, cq⟩ xs ps k W) => openFile_any k q gQ W nm hW hG hq rfl hnl)
  rw [HT.out]
  clear h hG hP HT hT hnl hk hpre
  go_enter Tryz.func71, Tryz.ntmps71
  go_upto_region 1 with fail
  rw [← Hw0.out]
  clear Hw0
  have hA0 := HAc.out
  have a0 := hA0.cell 0
  have a2 := hA0.cell 2
  have a3 := hA0.cell 3
  have a4 := hA0.cell 4
  have a5 := hA0.cell 5
  simp only [List.getElem?_cons_zero, List.getElem?_cons_succ] at a0 a2 a3 a4 a5
  have al := hA0.lt
  clear hA0
  go_wp2_with fail
  refine (HC.out _ HK0.out).mono ?_
  rintro e w1 ⟨rfl, ⟨a9, xs9, ps9, hK9⟩, hx9⟩
  have HK1 := Lib.hid hK9
  have HX1 := Lib.hid (KpA.trans (w1 := _) (by repeat (first | exact HX0.out | apply KpA.draw1 | apply KpA.draw)) hx9)
  clear hK9 hx9 HK0 HX0 a0 a2 a3 a4 a5 al HAc
  simp only [encAn]
  generalize Cf.openT k q nm = dd at *
  obtain ⟨dk, dc, dn, ds⟩ := dd
  have hX9 := HX1.out _ _ HXB.out
  have HFin := Lib.hid (fin_ans HK1.out HX1.out HXw.out HXB.out hlow hroom)
  have p0 := hX9.cell 0
  have p1 := hX9.cell 1
  have p2 := hX9.cell 2
  simp only [List.getElem?_cons_zero, List.getElem?_cons_succ] at p0 p1 p2
  have f0 := hX9.open_
  have hl9 := hX9.lt
  clear hX9 HK1 HX1 HXw HXB
  go_wp2
  refine bodyPost_ret (v := .agg #[.int .i64 dc, .int .i64 dn, .string ⟨ds.toArray⟩]) (by simp [results, Tryz.results71, go_sem, p0, p1, p2]) rfl ?_
  exact ⟨rfl, by (show ActFin _ _ _ _ dk _); with_reducible exact HFin.out _ _ _⟩
 by_cases h9 : kd = 9
 ·skip
  subst h9
  have HT := Lib.hid (show Cf.byProcT k q ⟨9, pp, nn, mm, nm, da⟩ = Cf.pipeT k q from rfl)
  have HC := Lib.hid (fun W (hW : KSt B wb g ⟨A, ca, M, cm, N, cn, S, cs, some ⟨gQ, 0, none⟩, cq⟩ xs ps k W) => openPipe_any k q gQ W hW hG hq rfl)
  rw [HT.out]
  clear h hG hP HT hT hnl hk hpre
  go_enter Tryz.func71, Tryz.ntmps71
  go_upto_region 1 with fail
  rw [← Hw0.out]
  clear Hw0
  have hA0 := HAc.out
  have a0 := hA0.cell 0
  have a2 := hA0.cell 2
  have a3 := hA0.cell 3
  have a4 := hA0.cell 4
  have a5 := hA0.cell 5
  simp only [List.getElem?_cons_zero, List.getElem?_cons_succ] at a0 a2 a3 a4 a5
  have al := hA0.lt
  clear hA0
  go_wp2_with fail
  refine (HC.out _ HK0.out).mono ?_
  rintro e w1 ⟨rfl, ⟨a9, xs9, ps9, hK9⟩, hx9⟩
  have HK1 := Lib.hid hK9
  have HX1 := Lib.hid (KpA.trans (w1 := _) (by repeat (first | exact HX0.out | apply KpA.draw1 | apply KpA.draw)) hx9)
  clear hK9 hx9 HK0 HX0 a0 a2 a3 a4 a5 al HAc
  simp only [encAn]
  generalize Cf.pipeT k q = dd at *
  obtain ⟨dk, dc, dn, ds⟩ := dd
  have hX9 := HX1.out _ _ HXB.out
  have HFin := Lib.hid (fin_ans HK1.out HX1.out HXw.out HXB.out hlow hroom)
  have p0 := hX9.cell 0
  have p1 := hX9.cell 1
  have p2 := hX9.cell 2
  simp only [List.getElem?_cons_zero, List.getElem?_cons_succ] at p0 p1 p2
  have f0 := hX9.open_
  have hl9 := hX9.lt
  clear hX9 HK1 HX1 HXw HXB
  go_wp2
  refine bodyPost_ret (v := .agg #[.int .i64 dc, .int .i64 dn, .string ⟨ds.toArray⟩]) (by simp [results, Tryz.results71, go_sem, p0, p1, p2]) rfl ?_
  exact ⟨rfl, by (show ActFin _ _ _ _ dk _); with_reducible exact HFin.out _ _ _⟩
 by_cases h10 : kd = 10
 ·skip
  subst h10
  have HT := Lib.hid (show Cf.byProcT k q ⟨10, pp, nn, mm, nm, da⟩ = Cf.forkT k q from rfl)
  have HC := Lib.hid (fun W (hW : KSt B wb g ⟨A, ca, M, cm, N, cn, S, cs, some ⟨gQ, 0, none⟩, cq⟩ xs ps k W) => fork_any k q gQ W hW hG hq rfl)
  rw [HT.out]
  clear h hG hP HT hT hnl hk hpre
  go_enter Tryz.func71, Tryz.ntmps71
  go_upto_region 1 with fail
  rw [← Hw0.out]
  clear Hw0
  have hA0 := HAc.out
  have a0 := hA0.cell 0
  have a2 := hA0.cell 2
  have a3 := hA0.cell 3
  have a4 := hA0.cell 4
  have a5 := hA0.cell 5
  simp only [List.getElem?_cons_zero, List.getElem?_cons_succ] at a0 a2 a3 a4 a5
  have al := hA0.lt
  clear hA0
  go_wp2_with fail
  refine (HC.out _ HK0.out).mono ?_
  rintro e w1 ⟨rfl, ⟨a9, xs9, ps9, hK9⟩, hx9⟩
  have HK1 := Lib.hid hK9
  have HX1 := Lib.hid (KpA.trans (w1 := _) (by repeat (first | exact HX0.out | apply KpA.draw1 | apply KpA.draw)) hx9)
  clear hK9 hx9 HK0 HX0 a0 a2 a3 a4 a5 al HAc
  simp only [encAn]
  generalize Cf.forkT k q = dd at *
  obtain ⟨dk, dc, dn, ds⟩ := dd
  have hX9 := HX1.out _ _ HXB.out
  have HFin := Lib.hid (fin_ans HK1.out HX1.out HXw.out HXB.out hlow hroom)
  have p0 := hX9.cell 0
  have p1 := hX9.cell 1
  have p2 := hX9.cell 2
  simp only [List.getElem?_cons_zero, List.getElem?_cons_succ] at p0 p1 p2
  have f0 := hX9.open_
  have hl9 := hX9.lt
  clear hX9 HK1 HX1 HXw HXB
  go_wp2
  refine bodyPost_ret (v := .agg #[.int .i64 dc, .int .i64 dn, .string ⟨ds.toArray⟩]) (by simp [results, Tryz.results71, go_sem, p0, p1, p2]) rfl ?_
  exact ⟨rfl, by (show ActFin _ _ _ _ dk _); with_reducible exact HFin.out _ _ _⟩
 by_cases h11 : kd = 11
 ·skip
  subst h11
  have HT := Lib.hid (show Cf.byProcT k q ⟨11, pp, nn, mm, nm, da⟩ = Cf.exitT k q from rfl)
  have HC := Lib.hid (fun W (hW : KSt B wb g ⟨A, ca, M, cm, N, cn, S, cs, some ⟨gQ, 0, none⟩, cq⟩ xs ps k W) => exit_any k q gQ W hW hG hq rfl)
  rw [HT.out]
  clear h hG hP HT hT hnl hk hpre
  go_enter Tryz.func71, Tryz.ntmps71
  go_upto_region 1 with fail
  rw [← Hw0.out]
  clear Hw0
  have hA0 := HAc.out
  have a0 := hA0.cell 0
  have a2 := hA0.cell 2
  have a3 := hA0.cell 3
  have a4 := hA0.cell 4
  have a5 := hA0.cell 5
  simp only [List.getElem?_cons_zero, List.getElem?_cons_succ] at a0 a2 a3 a4 a5
  have al := hA0.lt
  clear hA0
  go_wp2_with fail
  refine (HC.out _ HK0.out).mono ?_
  rintro e w1 ⟨rfl, ⟨a9, xs9, ps9, hK9⟩, hx9⟩
  have HK1 := Lib.hid hK9
  have HX1 := Lib.hid (KpA.trans (w1 := _) (by repeat (first | exact HX0.out | apply KpA.draw1 | apply KpA.draw)) hx9)
  clear hK9 hx9 HK0 HX0 a0 a2 a3 a4 a5 al HAc
  simp only [encAn]
  generalize Cf.exitT k q = dd at *
  obtain ⟨dk, dc, dn, ds⟩ := dd
  have hX9 := HX1.out _ _ HXB.out
  have HFin := Lib.hid (fin_ans HK1.out HX1.out HXw.out HXB.out hlow hroom)
  have p0 := hX9.cell 0
  have p1 := hX9.cell 1
  have p2 := hX9.cell 2
  simp only [List.getElem?_cons_zero, List.getElem?_cons_succ] at p0 p1 p2
  have f0 := hX9.open_
  have hl9 := hX9.lt
  clear hX9 HK1 HX1 HXw HXB
  go_wp2
  refine bodyPost_ret (v := .agg #[.int .i64 dc, .int .i64 dn, .string ⟨ds.toArray⟩]) (by simp [results, Tryz.results71, go_sem, p0, p1, p2]) rfl ?_
  exact ⟨rfl, by (show ActFin _ _ _ _ dk _); with_reducible exact HFin.out _ _ _⟩
 have HT0 := Lib.hid (show Cf.byProcT k q ⟨kd, pp, nn, mm, nm, da⟩ = if Cf.withinB nn 6 = true ∧ (Cf.endAt k q nn.toNat).kind ≠ 0 then Cf.byEndT k q nn.toNat ⟨kd, pp, nn, mm, nm, da⟩ else Cf.refuseT k 6 by
  unfold Cf.byProcT
  rw [if_neg (by exact h5), if_neg (by exact h9), if_neg (by exact h10), if_neg (by exact h11), hP.is_]
  show (if Cf.withinB nn es.length = true ∧ _ then _ else _) = _
  rw [hP.len])
 have HWi := Lib.hid (fun W => within_any nn 6 W)
 by_cases hw : Cf.withinB nn 6 = false
 ·skip
  rw [HT0.out, if_neg (fun hh => by rw [hw] at hh; exact absurd hh.1 (by decide))]
  rw [hw] at HWi
  clear h hG hP HT0 hT hnl hk hpre
  go_enter Tryz.func71, Tryz.ntmps71
  go_upto_region 1 with fail
  rw [← Hw0.out]
  clear Hw0
  have hA0 := HAc.out
  have a0 := hA0.cell 0
  have a2 := hA0.cell 2
  have a3 := hA0.cell 3
  have a4 := hA0.cell 4
  have a5 := hA0.cell 5
  simp only [List.getElem?_cons_zero, List.getElem?_cons_succ] at a0 a2 a3 a4 a5
  have al := hA0.lt
  clear hA0
  have p1 := HK0.out.p1 HP.out
  have pl := (HK0.out.Bp HP.out).lt
  go_wp2_with fail
  go_quiet ((go_at_call 70; exact quietE (HWi.out _)))
  clear p1 pl
  go_wp2_with fail
  refine (refuse_any 6 _).mono ?_
  rintro e w1 ⟨rfl, hb1⟩
  have HK1 := Lib.hid (KSt.below (w := _) (by repeat (first | exact HK0.out | apply KSt.draw | apply KSt.drawN)) hb1)
  have HX1 := Lib.hid (KpA.below (w1 := _) (by repeat (first | exact HX0.out | apply KpA.draw1 | apply KpA.draw)) hb1)
  simp only [encAn]
  clear hb1 HK0 HX0 a0 a2 a3 a4 a5 al HAc
  have hX9 := HX1.out _ _ HXB.out
  have HFin := Lib.hid (fin_ans HK1.out HX1.out HXw.out HXB.out hlow hroom)
  have p0 := hX9.cell 0
  have p1 := hX9.cell 1
  have p2 := hX9.cell 2
  simp only [List.getElem?_cons_zero, List.getElem?_cons_succ] at p0 p1 p2
  have f0 := hX9.open_
  have hl9 := hX9.lt
  clear hX9 HK1 HX1 HXw HXB
  go_wp2
  refine bodyPost_ret (v := .agg #[.int .i64 6, .int .i64 0, .string ⟨#[]⟩]) (by simp [results, Tryz.results71, go_sem, p0, p1, p2]) rfl ?_
  exact ⟨rfl, by (show ActFin _ _ _ _ k _); with_reducible exact HFin.out _ _ _⟩
 rw [Bool.not_eq_false] at hw
 rw [hw] at HWi
 obtain ⟨hn0, hn6⟩ := Cf.within_iff.1 hw
 obtain ⟨i, hi⟩ := Int.eq_ofNat_of_zero_le hn0
 subst hi
 have hi6 : i < 6 := by omega
 have hiI : (i : Int) < 6 := by omega
 have hes : es[i]? = some (Cf.endAt k q i) := by
  have := hG.toPre.end_ hq hi6
  rwa [hP.is_] at this
 rw [Int.toNat_natCast, hw] at HT0
 have HE := Lib.hid hes
 clear hes hw
 by_cases h0 : (Cf.endAt k q i).kind = 0
 ·skip
  rw [HT0.out, if_neg (fun hh => hh.2 h0)]
  clear h hG hP HT0 hT hnl hk hpre
  go_enter Tryz.func71, Tryz.ntmps71
  go_upto_region 1 with fail
  rw [← Hw0.out]
  clear Hw0
  have hA0 := HAc.out
  have a0 := hA0.cell 0
  have a2 := hA0.cell 2
  have a3 := hA0.cell 3
  have a4 := hA0.cell 4
  have a5 := hA0.cell 5
  simp only [List.getElem?_cons_zero, List.getElem?_cons_succ] at a0 a2 a3 a4 a5
  have al := hA0.lt
  clear hA0
  have p1 := HK0.out.p1 HP.out
  have pl := (HK0.out.Bp HP.out).lt
  have hBe := HK0.out.Be HP.out
  have r0 : w0.cell? ⟨gE, i * 3, none⟩ = _ := hBe.cell HE.out (j := 0) rfl
  have rl := hBe.lt
  clear hBe
  rw [h0] at r0
  go_wp2_with fail
  go_quiet ((go_at_call 70; exact quietE (HWi.out _)))
  clear p1 pl r0 rl
  go_wp2_with fail
  refine (refuse_any 6 _).mono ?_
  rintro e w1 ⟨rfl, hb1⟩
  have HK1 := Lib.hid (KSt.below (w := _) (by repeat (first | exact HK0.out | apply KSt.draw | apply KSt.drawN)) hb1)
  have HX1 := Lib.hid (KpA.below (w1 := _) (by repeat (first | exact HX0.out | apply KpA.draw1 | apply KpA.draw)) hb1)
  simp only [encAn]
  clear hb1 HK0 HX0 a0 a2 a3 a4 a5 al HAc
  have hX9 := HX1.out _ _ HXB.out
  have HFin := Lib.hid (fin_ans HK1.out HX1.out HXw.out HXB.out hlow hroom)
  have p0 := hX9.cell 0
  have p1 := hX9.cell 1
  have p2 := hX9.cell 2
  simp only [List.getElem?_cons_zero, List.getElem?_cons_succ] at p0 p1 p2
  have f0 := hX9.open_
  have hl9 := hX9.lt
  clear hX9 HK1 HX1 HXw HXB
  go_wp2
  refine bodyPost_ret (v := .agg #[.int .i64 6, .int .i64 0, .string ⟨#[]⟩]) (by simp [results, Tryz.results71, go_sem, p0, p1, p2]) rfl ?_
  exact ⟨rfl, by (show ActFin _ _ _ _ k _); with_reducible exact HFin.out _ _ _⟩
 have HT1 := Lib.hid (HT0.out.trans (if_pos ⟨rfl, h0⟩))
 by_cases h7 : kd = 7
 ·skip
  subst h7
  have HT := Lib.hid (show Cf.byEndT k q i ⟨7, pp, i, mm, nm, da⟩ = Cf.readT k q i mm from rfl)
  have HC := Lib.hid (fun W (hW : KSt B wb g ⟨A, ca, M, cm, N, cn, S, cs, some ⟨gQ, 0, none⟩, cq⟩ xs ps k W) => read_any k q gQ gE ce lv es i mm W hW hG hP hq hi6 h0 hT)
  rw [HT1.out, HT.out]
  clear h hG hP HT HT0 HT1 hT hnl hk hpre
  go_enter Tryz.func71, Tryz.ntmps71
  go_upto_region 1 with fail
  rw [← Hw0.out]
  clear Hw0
  have hA0 := HAc.out
  have a0 := hA0.cell 0
  have a2 := hA0.cell 2
  have a3 := hA0.cell 3
  have a4 := hA0.cell 4
  have a5 := hA0.cell 5
  simp only [List.getElem?_cons_zero, List.getElem?_cons_succ] at a0 a2 a3 a4 a5
  have al := hA0.lt
  clear hA0
  have p1 := HK0.out.p1 HP.out
  have pl := (HK0.out.Bp HP.out).lt
  have hBe := HK0.out.Be HP.out
  have r0 : w0.cell? ⟨gE, i * 3, none⟩ = _ := hBe.cell HE.out (j := 0) rfl
  have rl := hBe.lt
  clear hBe
  go_wp2_with fail
  go_quiet ((go_at_call 70; exact quietE (HWi.out _)))
  go_wp2_with fail
  go_quiet (fail)
  go_wp2_with fail
  clear p1 pl r0 rl
  refine (HC.out _ (by repeat (first | exact HK0.out | apply KSt.draw | apply KSt.drawN))).mono ?_
  rintro e w1 ⟨rfl, ⟨a9, xs9, ps9, hK9⟩, hx9⟩
  have HK1 := Lib.hid hK9
  have HX1 := Lib.hid (KpA.trans (w1 := _) (by repeat (first | exact HX0.out | apply KpA.draw1 | apply KpA.draw)) hx9)
  clear hK9 hx9 HK0 HX0 a0 a2 a3 a4 a5 al HAc
  simp only [encAn]
  generalize Cf.readT k q i mm = dd at *
  obtain ⟨dk, dc, dn, ds⟩ := dd
  have hX9 := HX1.out _ _ HXB.out
  have HFin := Lib.hid (fin_ans HK1.out HX1.out HXw.out HXB.out hlow hroom)
  have p0 := hX9.cell 0
  have p1 := hX9.cell 1
  have p2 := hX9.cell 2
  simp only [List.getElem?_cons_zero, List.getElem?_cons_succ] at p0 p1 p2
  have f0 := hX9.open_
  have hl9 := hX9.lt
  clear hX9 HK1 HX1 HXw HXB
  go_wp2
  refine bodyPost_ret (v := .agg #[.int .i64 dc, .int .i64 dn, .string ⟨ds.toArray⟩]) (by simp [results, Tryz.results71, go_sem, p0, p1, p2]) rfl ?_
  exact ⟨rfl, by (show ActFin _ _ _ _ dk _); with_reducible exact HFin.out _ _ _⟩
 by_cases h8 : kd = 8
 ·skip
  subst h8
  have HT := Lib.hid (show Cf.byEndT k q i ⟨8, pp, i, mm, nm, da⟩ = Cf.writeT k q i da from rfl)
  have HC := Lib.hid (fun W (hW : KSt B wb g ⟨A, ca, M, cm, N, cn, S, cs, some ⟨gQ, 0, none⟩, cq⟩ xs ps k W) => write_any k q gQ gE ce lv es i da W hW hG hP hq hi6 h0 hT)
  rw [HT1.out, HT.out]
  clear h hG hP HT HT0 HT1 hT hnl hk hpre
  go_enter Tryz.func71, Tryz.ntmps71
  go_upto_region 1 with fail
  rw [← Hw0.out]
  clear Hw0
  have hA0 := HAc.out
  have a0 := hA0.cell 0
  have a2 := hA0.cell 2
  have a3 := hA0.cell 3
  have a4 := hA0.cell 4
  have a5 := hA0.cell 5
  simp only [List.getElem?_cons_zero, List.getElem?_cons_succ] at a0 a2 a3 a4 a5
  have al := hA0.lt
  clear hA0
  have p1 := HK0.out.p1 HP.out
  have pl := (HK0.out.Bp HP.out).lt
  have hBe := HK0.out.Be HP.out
  have r0 : w0.cell? ⟨gE, i * 3, none⟩ = _ := hBe.cell HE.out (j := 0) rfl
  have rl := hBe.lt
  clear hBe
  go_wp2_with fail
  go_quiet ((go_at_call 70; exact quietE (HWi.out _)))
  go_wp2_with fail
  go_quiet (fail)
  go_wp2_with fail
  clear p1 pl r0 rl
  refine (HC.out _ (by repeat (first | exact HK0.out | apply KSt.draw | apply KSt.drawN))).mono ?_
  rintro e w1 ⟨rfl, ⟨a9, xs9, ps9, hK9⟩, hx9⟩
  have HK1 := Lib.hid hK9
  have HX1 := Lib.hid (KpA.trans (w1 := _) (by repeat (first | exact HX0.out | apply KpA.draw1 | apply KpA.draw)) hx9)
  clear hK9 hx9 HK0 HX0 a0 a2 a3 a4 a5 al HAc
  simp only [encAn]
  generalize Cf.writeT k q i da = dd at *
  obtain ⟨dk, dc, dn, ds⟩ := dd
  have hX9 := HX1.out _ _ HXB.out
  have HFin := Lib.hid (fin_ans HK1.out HX1.out HXw.out HXB.out hlow hroom)
  have p0 := hX9.cell 0
  have p1 := hX9.cell 1
  have p2 := hX9.cell 2
  simp only [List.getElem?_cons_zero, List.getElem?_cons_succ] at p0 p1 p2
  have f0 := hX9.open_
  have hl9 := hX9.lt
  clear hX9 HK1 HX1 HXw HXB
  go_wp2
  refine bodyPost_ret (v := .agg #[.int .i64 dc, .int .i64 dn, .string ⟨ds.toArray⟩]) (by simp [results, Tryz.results71, go_sem, p0, p1, p2]) rfl ?_
  exact ⟨rfl, by (show ActFin _ _ _ _ dk _); with_reducible exact HFin.out _ _ _⟩
 obtain ⟨k2, hk2⟩ : ∃ k2 : Cf.Kern, k2 = ⟨k.mods, k.mem, k.nodes, k.pipes, k.procs.set q ⟨lv, es.set i Cf.noEnd⟩⟩ := ⟨_, rfl⟩
 have HT := Lib.hid (show Cf.byEndT k q i ⟨kd, pp, i, mm, nm, da⟩ = ⟨Cf.tidyT k2, Cf.noAns⟩ by
  rw [hk2]
  unfold Cf.byEndT
  rw [if_neg (by exact h7), if_neg (by exact h8)]
  unfold Cf.closeT Cf.setEnd Cf.setProc
  rw [hP.is_])
 have HE2 := Lib.hid hk2
 have HG := Lib.hid hG
 rw [HT1.out, HT.out]
 clear h hG hP HT HT0 HT1 hT hnl hpre hk2
 go_enter Tryz.func71, Tryz.ntmps71
 go_upto_region 1 with fail
 rw [← Hw0.out]
 clear Hw0
 have hA0 := HAc.out
 have a0 := hA0.cell 0
 have a2 := hA0.cell 2
 have a3 := hA0.cell 3
 have a4 := hA0.cell 4
 have a5 := hA0.cell 5
 simp only [List.getElem?_cons_zero, List.getElem?_cons_succ] at a0 a2 a3 a4 a5
 have al := hA0.lt
 clear hA0
 have p1 := HK0.out.p1 HP.out
 have pl := (HK0.out.Bp HP.out).lt
 have hBe := HK0.out.Be HP.out
 have r0 : w0.cell? ⟨gE, i * 3, none⟩ = _ := hBe.cell HE.out (j := 0) rfl
 have rl := hBe.lt
 clear hBe
 go_wp2_with fail
 go_quiet ((go_at_call 70; exact quietE (HWi.out _)))
 go_wp2_with fail
 go_quiet (fail)
 go_upto_region 18 with fail
 refine draws_gen (R := fun W => KSt B wb g ⟨A, ca, M, cm, N, cn, S, cs, some ⟨gQ, 0, none⟩, cq⟩ xs ps k W ∧ KpA w0 W) _ ⟨HK0.out.drawN _, HX0.out.draw _⟩ ?_
 rintro w1 ⟨hK1, hX1⟩
 have hBe := hK1.Be HP.out
 have r0 : w1.cell? ⟨gE, i * 3, none⟩ = _ := hBe.cell HE.out (j := 0) rfl
 have r1 : w1.cell? ⟨gE, i * 3 + 1, none⟩ = _ := hBe.cell HE.out (j := 1) rfl
 have r2 : w1.cell? ⟨gE, i * 3 + 2, none⟩ = _ := hBe.cell HE.out (j := 2) rfl
 have rl := hBe.lt
 have rf := hBe.open_
 have hK2 := hK1.putEnd HP.out.pv HP.out.proc rfl Cf.noEnd HE.out
 have hX2 := hX1.offX3 hBe.box (by decide) (i * 3) (i * 3 + 1) (i * 3 + 2) (.int .i64 0) (.int .i64 0) (.int .i64 0)
 rw [← HE2.out] at hK2
 have HK2 := Lib.hid hK2
 have HX2 := Lib.hid hX2
 clear hK1 hX1 hBe hK2 hX2 HK0 HX0 p1 pl a0 a2 a3 a4 a5 al HAc
 simp only [Cf.noEnd] at HK2
 go_upto_region 19 with fail
 generalize ((w1.setCell ⟨gE, i * 3, none⟩ (.int .i64 0)).setCell ⟨gE, i * 3 + 1, none⟩ (.int .i64 0)).setCell ⟨gE, i * 3 + 2, none⟩ (.int .i64 0) = w2 at *
 clear r0 r1 r2 rl rf
 have HR := Lib.hid (release_any _ _ HK2.out (by rw [HE2.out]; exact HG.out.nodesL) (by rw [HE2.out]; exact HG.out.pipesL) (lim_big (by rw [HE2.out]; simp [HG.out.procsL])) (by
  rw [HE2.out]
  intro p hp
  rcases List.mem_or_eq_of_mem_set hp with hp | rfl
  ·exact lim_big (by rw [HG.out.ends p hp]; omega)
  ·exact lim_big (by show (es.set i Cf.noEnd).length ≤ 1024; rw [List.length_set, HP.out.len]; omega)))
 clear HE2 HK2
 go_wp2_with fail
 refine HR.out.mono ?_
 rintro e w3 ⟨rfl, hK3, hkp⟩
 have HK3 := Lib.hid hK3
 have HX3 := Lib.hid (HX2.out.trans fun b cs hb => hkp b tAns cs (by decide) (by decide) hb)
 clear hK3 hkp HX2 HR
 have hX9 := HX3.out _ _ HXB.out
 have HFin := Lib.hid (fin_ans HK3.out HX3.out HXw.out HXB.out hlow hroom)
 have p0 := hX9.cell 0
 have p1 := hX9.cell 1
 have p2 := hX9.cell 2
 simp only [List.getElem?_cons_zero, List.getElem?_cons_succ] at p0 p1 p2
 have f0 := hX9.open_
 have hl9 := hX9.lt
 clear hX9 HK3 HX3 HXw HXB
 go_wp2
 refine bodyPost_ret (v := .agg #[.int .i64 0, .int .i64 0, .string ⟨#[]⟩]) (by simp [results, Tryz.results71, go_sem, p0, p1, p2]) rfl ?_
 exact ⟨rfl, by (show ActFin _ _ _ _ (Cf.tidyT k2) _); with_reducible exact HFin.out _ _ _⟩
end Go.Proofs.YtnnhhbjbdmgpiaaGreatDoor
