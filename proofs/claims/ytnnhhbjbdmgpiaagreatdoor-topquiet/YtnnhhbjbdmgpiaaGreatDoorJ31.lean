/- Texts of the proofs: ActY, ActZ. -/
import Derived.Deep.QuietTactic
import Derived.BigQuiet
import Derived.RegionTactic
import Derived.Test.YtnnhhbjbdmgpiaaGreatDoorJ29
import Derived.Test.YtnnhhbjbdmgpiaaGreatDoorJ03
import Derived.Deep.CutRange
import Derived.Test.YtnnhhbjbdmgpiaaGreatDoorJ04
set_option linter.unusedSimpArgs false
set_option linter.unusedVariables false
/- Walks of chapter 5: the program's addFile. (tools/gen/acty.py) -/
namespace Go.Proofs.YtnnhhbjbdmgpiaaGreatDoor
set_option maxRecDepth 100000
open Go.RowKit
theorem KSt.draw {B : Nat} {wb : World} {g : Nat} {a : KA} {xs : List MV} {ps : List PV} {k : Cf.Kern} {w : World} (h : KSt B wb g a xs ps k w) : KSt B wb g a xs ps k w.drew := h.below (Below.refl _ _).drew
set_option maxHeartbeats 1000000 in
theorem addFile_any {B : Nat} {wb : World} {g : Nat} {a : KA} {xs : List MV} {ps : List PV} (k : Cf.Kern) (w : World) (nm : List UInt8) (kd un : Int) (h : KSt B wb g a xs ps k w) (hG : Cf.Good k) (hnl : nm.length ≤ maxLen) (hkd : kd = 1 ∨ kd = 2) :
  Calls Tryz.prog 68 #[.pointer (some ⟨g, 0, none⟩), .agg #[.string ⟨nm.toArray⟩, .int .i64 kd, .string ⟨#[]⟩, .int .i64 un]] w (ActPost B wb g w (Cf.addT k ⟨nm, kd, [], un⟩)) := by
 obtain ⟨A, ca, M, cm, N, cn, S, cs, Q, cq⟩ := a
 obtain ⟨gN, hgN, hNB, hNlt, _⟩ := h.own.nodes.at_ (i := 0) (List.getElem?_eq_getElem (by rw [hG.nodesL]; omega))
 simp only at hgN
 subst hgN
 have H := Lib.hid h
 have HW0 := Lib.hid (show Below w.heap.size w ((w.alloc (.cells #[.string ⟨nm.toArray⟩, .int .i64 kd, .string ⟨#[]⟩, .int .i64 un] tNode)).alloc (.cells #[.int .i64 0, .int .i64 0, .string ⟨#[]⟩] tAns)) from ((Below.refl _ _).alloc (Nat.le_refl _) _).alloc (by simp) _)
 have HF0 := Lib.hid (show Wb ((w.alloc (.cells #[.string ⟨nm.toArray⟩, .int .i64 kd, .string ⟨#[]⟩, .int .i64 un] tNode)).alloc (.cells #[.int .i64 0, .int .i64 0, .string ⟨#[]⟩] tAns)) w.heap.size tNode [.string ⟨nm.toArray⟩, .int .i64 kd, .string ⟨#[]⟩, .int .i64 un] from (Wb.new w tNode [.string ⟨nm.toArray⟩, .int .i64 kd, .string ⟨#[]⟩, .int .i64 un]).alloc _)
 have HXw := Lib.hid (show KpA w ((w.alloc (.cells #[.string ⟨nm.toArray⟩, .int .i64 kd, .string ⟨#[]⟩, .int .i64 un] tNode)).alloc (.cells #[.int .i64 0, .int .i64 0, .string ⟨#[]⟩] tAns)) from (KpA.alloc w _).trans (KpA.alloc _ _))
 have HX0 := Lib.hid (KpA.refl ((w.alloc (.cells #[.string ⟨nm.toArray⟩, .int .i64 kd, .string ⟨#[]⟩, .int .i64 un] tNode)).alloc (.cells #[.int .i64 0, .int .i64 0, .string ⟨#[]⟩] tAns)))
 have HXB := Lib.hid (show Wb ((w.alloc (.cells #[.string ⟨nm.toArray⟩, .int .i64 kd, .string ⟨#[]⟩, .int .i64 un] tNode)).alloc (.cells #[.int .i64 0, .int .i64 0, .string ⟨#[]⟩] tAns)) (w.heap.size + 1) tAns [.int .i64 0, .int .i64 0, .string ⟨#[]⟩] by
  have := Wb.new (w.alloc (.cells #[.string ⟨nm.toArray⟩, .int .i64 kd, .string ⟨#[]⟩, .int .i64 un] tNode)) tAns [.int .i64 0, .int .i64 0, .string ⟨#[]⟩]
  rwa [show (w.alloc (.cells #[.string ⟨nm.toArray⟩, .int .i64 kd, .string ⟨#[]⟩, .int .i64 un] tNode)).heap.size = w.heap.size + 1 by simp] at this)
 have hroom : B ≤ w.heap.size + 1 := Nat.le_succ_of_le h.room
 have hlow : w.heap.size ≤ w.heap.size + 1 := Nat.le_succ _
 have HG := Lib.hid hG
 have HNm := Lib.hid (fun W => pname_any nm hnl W)
 have HCl := Lib.hid (fun (hb : Cf.nameB nm = true) W => cloneS_any nm W (by rw [name_len] at hb; simp only [Bool.and_eq_true, decide_eq_true_eq] at hb; omega))
 have HFf := Lib.hid (fun W (hW : Below w.heap.size w W) => findFile_any k _ g nm W (h.below hW).ptr (lim_max (by rw [hG.nodesL]; omega)))
 have HFs := Lib.hid (fun W (hW : Below w.heap.size w W) => findSlot_any k _ g W (h.below hW).ptr (lim_max (by rw [hG.nodesL]; omega)))
 have HT := Lib.hid (show Cf.addT k ⟨nm, kd, [], un⟩ = if Cf.nameB nm = false then Cf.refuseT k 4 else if 0 ≤ Cf.idxT (Cf.namedB nm) k.nodes then Cf.refuseT k 7 else if kd = 2 ∧ Cf.withinB un k.mods.length = false then Cf.refuseT k 6
  else if Cf.idxT Cf.emptyB k.nodes < 0 then Cf.refuseT k 8 else ⟨⟨k.mods, k.mem, k.nodes.set (Cf.idxT Cf.emptyB k.nodes).toNat ⟨nm, kd, [], un⟩, k.pipes, k.procs⟩, ⟨0, Cf.idxT Cf.emptyB k.nodes, []⟩⟩ from rfl)
 have HI := Lib.hid (Cf.idx_cases Cf.emptyB k.nodes)
 have hml : k.mods.length ≤ 8 := hG.modsL
 clear h hG hnl
 generalize Cf.nameB nm = b at *
 generalize Cf.idxT (Cf.namedB nm) k.nodes = z1 at *
 generalize Cf.idxT Cf.emptyB k.nodes = z2 at *
 cases b
 ·rw [HT.out, if_pos rfl]
  clear HT HFf HFs HI HG HCl
  go_enter Tryz.func68, Tryz.ntmps68
  go_wp2_with fail
  refine (HNm.out _).mono ?_
  rintro e w1 ⟨rfl, hb1⟩
  have HW1 := Lib.hid (HW0.out.trans (hb1.mono (HW0.out).size))
  have HX1 := Lib.hid (HX0.out.below hb1)
  have HF1 := Lib.hid (HF0.out.below hb1 HF0.out.lt)
  clear hb1 HW0 HX0 HF0 HNm
  go_wp2_with fail
  refine (refuse_any 4 _).mono ?_
  rintro e w2 ⟨rfl, hb2⟩
  have HW2 := Lib.hid (HW1.out.trans (hb2.mono (HW1.out).size))
  have HX2 := Lib.hid (HX1.out.below hb2)
  have HF2 := Lib.hid (HF1.out.below hb2 HF1.out.lt)
  simp only [encAn]
  clear hb2 HW1 HX1 HF1
  have HK2 := Lib.hid (H.out.below HW2.out)
  have hX9 := HX2.out _ _ HXB.out
  have HFin := Lib.hid (fin_ans HK2.out HX2.out HXw.out HXB.out hlow hroom)
  have p0 := hX9.cell 0
  have p1 := hX9.cell 1
  have p2 := hX9.cell 2
  simp only [List.getElem?_cons_zero, List.getElem?_cons_succ] at p0 p1 p2
  have f0 := hX9.open_
  have hl9 := hX9.lt
  clear hX9 HK2 HX2 HXw HXB  HF2 HW2
  go_wp2
  refine bodyPost_ret (v := .agg #[.int .i64 4, .int .i64 0, .string ⟨#[]⟩]) (by simp [results, Tryz.results68, go_sem, p0, p1, p2]) rfl ?_
  exact ⟨rfl, by (show ActFin _ _ _ _ k _); with_reducible exact HFin.out _ _ _⟩
 ·rw [HT.out, if_neg (by decide)]
  by_cases hz1 : 0 ≤ z1
  ·rw [if_pos hz1]
   clear HT HFs HI HG HCl
   go_enter Tryz.func68, Tryz.ntmps68
   go_wp2_with fail
   refine (HNm.out _).mono ?_
   rintro e w1 ⟨rfl, hb1⟩
   have HW1 := Lib.hid (HW0.out.trans (hb1.mono (HW0.out).size))
   have HX1 := Lib.hid (HX0.out.below hb1)
   have HF1 := Lib.hid (HF0.out.below hb1 HF0.out.lt)
   clear hb1 HW0 HX0 HF0 HNm
   have hF1 := HF1.out
   have t0 := hF1.cell 0
   simp only [List.getElem?_cons_zero, List.getElem?_cons_succ] at t0
   have tl := hF1.lt
   clear hF1
   go_wp2_with fail
   refine (HFf.out _ HW1.out).mono ?_
   rintro e w2 ⟨rfl, hb2⟩
   have HW2 := Lib.hid (HW1.out.trans (hb2.mono (HW1.out).size))
   have HX2 := Lib.hid (HX1.out.below hb2)
   have HF2 := Lib.hid (HF1.out.below hb2 HF1.out.lt)
   clear hb2 HW1 HX1 HF1 HFf t0 tl
   go_wp2_with fail
   refine (refuse_any 7 _).mono ?_
   rintro e w3 ⟨rfl, hb3⟩
   have HW3 := Lib.hid (HW2.out.trans (hb3.mono (HW2.out).size))
   have HX3 := Lib.hid (HX2.out.below hb3)
   have HF3 := Lib.hid (HF2.out.below hb3 HF2.out.lt)
   simp only [encAn]
   clear hb3 HW2 HX2 HF2
   have HK3 := Lib.hid (H.out.below HW3.out)
   have hX9 := HX3.out _ _ HXB.out
   have HFin := Lib.hid (fin_ans HK3.out HX3.out HXw.out HXB.out hlow hroom)
   have p0 := hX9.cell 0
   have p1 := hX9.cell 1
   have p2 := hX9.cell 2
   simp only [List.getElem?_cons_zero, List.getElem?_cons_succ] at p0 p1 p2
   have f0 := hX9.open_
   have hl9 := hX9.lt
   clear hX9 HK3 HX3 HXw HXB  HF3 HW3
   go_wp2
   refine bodyPost_ret (v := .agg #[.int .i64 7, .int .i64 0, .string ⟨#[]⟩]) (by simp [results, Tryz.results68, go_sem, p0, p1, p2]) rfl ?_
   exact ⟨rfl, by (show ActFin _ _ _ _ k _); with_reducible exact HFin.out _ _ _⟩
  ·rw [if_neg hz1]
   have HWi := Lib.hid (fun W => within_any un k.mods.length W)
   rcases hkd with rfl | rfl
   ·rw [if_neg (by omega)]
    by_cases hz2 : z2 < 0
    ·rw [if_pos hz2]
     clear HT HI HG HCl
     go_enter Tryz.func68, Tryz.ntmps68
     go_wp2_with fail
     refine (HNm.out _).mono ?_
     rintro e w1 ⟨rfl, hb1⟩
     have HW1 := Lib.hid (HW0.out.trans (hb1.mono (HW0.out).size))
     have HX1 := Lib.hid (HX0.out.below hb1)
     have HF1 := Lib.hid (HF0.out.below hb1 HF0.out.lt)
     clear hb1 HW0 HX0 HF0 HNm
     have hF1 := HF1.out
     have t0 := hF1.cell 0
     simp only [List.getElem?_cons_zero, List.getElem?_cons_succ] at t0
     have tl := hF1.lt
     clear hF1
     go_wp2_with fail
     refine (HFf.out _ HW1.out).mono ?_
     rintro e w2 ⟨rfl, hb2⟩
     have HW2 := Lib.hid (HW1.out.trans (hb2.mono (HW1.out).size))
     have HX2 := Lib.hid (HX1.out.below hb2)
     have HF2 := Lib.hid (HF1.out.below hb2 HF1.out.lt)
     clear hb2 HW1 HX1 HF1 HFf t0 tl
     have HK2 := Lib.hid (H.out.below HW2.out)
     have hK2 := HK2.out
     have c0 := hK2.ptr.c0
     have hl2 := hK2.box.lt
     clear hK2
     have hF2 := HF2.out
     have t0 := hF2.cell 0
     have t1 := hF2.cell 1
     have t3 := hF2.cell 3
     simp only [List.getElem?_cons_zero, List.getElem?_cons_succ] at t0 t1 t3
     have tl := hF2.lt
     clear hF2
     go_wp2_with fail
     go_quiet ((go_at_call 70; exact quietE (HWi.out _)))
     clear c0 hl2 t0 t1 t3 tl HK2 HWi
     go_wp2_with fail
     refine (HFs.out _ (below_drewN HW2.out _)).mono ?_
     rintro e w3 ⟨rfl, hb3⟩
     have HW3 := Lib.hid ((below_drewN HW2.out _).trans (hb3.mono ((below_drewN HW2.out _)).size))
     have HX3 := Lib.hid ((HX2.out.draw _).below hb3)
     have HF3 := Lib.hid ((HF2.out.draw _).below hb3 HF2.out.lt)
     clear hb3 HW2 HX2 HF2 HFs
     go_wp2_with fail
     refine (refuse_any 8 _).mono ?_
     rintro e w4 ⟨rfl, hb4⟩
     have HW4 := Lib.hid (HW3.out.trans (hb4.mono (HW3.out).size))
     have HX4 := Lib.hid (HX3.out.below hb4)
     have HF4 := Lib.hid (HF3.out.below hb4 HF3.out.lt)
     simp only [encAn]
     clear hb4 HW3 HX3 HF3
     have HK4 := Lib.hid (H.out.below HW4.out)
     have hX9 := HX4.out _ _ HXB.out
     have HFin := Lib.hid (fin_ans HK4.out HX4.out HXw.out HXB.out hlow hroom)
     have p0 := hX9.cell 0
     have p1 := hX9.cell 1
     have p2 := hX9.cell 2
     simp only [List.getElem?_cons_zero, List.getElem?_cons_succ] at p0 p1 p2
     have f0 := hX9.open_
     have hl9 := hX9.lt
     clear hX9 HK4 HX4 HXw HXB  HF4 HW4
     go_wp2
     refine bodyPost_ret (v := .agg #[.int .i64 8, .int .i64 0, .string ⟨#[]⟩]) (by simp [results, Tryz.results68, go_sem, p0, p1, p2]) rfl ?_
     exact ⟨rfl, by (show ActFin _ _ _ _ k _); with_reducible exact HFin.out _ _ _⟩
    ·rw [if_neg hz2]
     obtain ⟨_, hzz⟩ | ⟨i, x, hzi, hxi, hfr, _⟩ := HI.out
     ·omega
     have hi8 : i < 8 := by rw [← HG.out.nodesL]; exact (List.getElem?_eq_some_iff.1 hxi).1
     have HXi := Lib.hid hxi
     subst hzi
     rw [Int.toNat_natCast]
     clear HT HI hxi hfr hz2
     go_enter Tryz.func68, Tryz.ntmps68
     go_wp2_with fail
     refine (HNm.out _).mono ?_
     rintro e w1 ⟨rfl, hb1⟩
     have HW1 := Lib.hid (HW0.out.trans (hb1.mono (HW0.out).size))
     have HX1 := Lib.hid (HX0.out.below hb1)
     have HF1 := Lib.hid (HF0.out.below hb1 HF0.out.lt)
     clear hb1 HW0 HX0 HF0 HNm
     have hF1 := HF1.out
     have t0 := hF1.cell 0
     simp only [List.getElem?_cons_zero, List.getElem?_cons_succ] at t0
     have tl := hF1.lt
     clear hF1
     go_wp2_with fail
     refine (HFf.out _ HW1.out).mono ?_
     rintro e w2 ⟨rfl, hb2⟩
     have HW2 := Lib.hid (HW1.out.trans (hb2.mono (HW1.out).size))
     have HX2 := Lib.hid (HX1.out.below hb2)
     have HF2 := Lib.hid (HF1.out.below hb2 HF1.out.lt)
     clear hb2 HW1 HX1 HF1 HFf t0 tl
     have HK2 := Lib.hid (H.out.below HW2.out)
     have hK2 := HK2.out
     have c0 := hK2.ptr.c0
     have hl2 := hK2.box.lt
     clear hK2
     have hF2 := HF2.out
     have t0 := hF2.cell 0
     have t1 := hF2.cell 1
     have t3 := hF2.cell 3
     simp only [List.getElem?_cons_zero, List.getElem?_cons_succ] at t0 t1 t3
     have tl := hF2.lt
     clear hF2
     go_wp2_with fail
     go_quiet ((go_at_call 70; exact quietE (HWi.out _)))
     clear c0 hl2 t0 t1 t3 tl HK2 HWi
     go_wp2_with fail
     refine (HFs.out _ (below_drewN HW2.out _)).mono ?_
     rintro e w3 ⟨rfl, hb3⟩
     have HW3 := Lib.hid ((below_drewN HW2.out _).trans (hb3.mono ((below_drewN HW2.out _)).size))
     have HX3 := Lib.hid ((HX2.out.draw _).below hb3)
     have HF3 := Lib.hid ((HF2.out.draw _).below hb3 HF2.out.lt)
     clear hb3 HW2 HX2 HF2 HFs
     have hF3 := HF3.out
     have t0 := hF3.cell 0
     simp only [List.getElem?_cons_zero, List.getElem?_cons_succ] at t0
     have tl := hF3.lt
     clear hF3
     go_wp2_with fail
     refine (HCl.out trivial _).mono ?_
     rintro e w4 ⟨rfl, hb4⟩
     have HW4 := Lib.hid (HW3.out.trans (hb4.mono (HW3.out).size))
     have HX4 := Lib.hid (HX3.out.below hb4)
     have HF4 := Lib.hid (HF3.out.below hb4 HF3.out.lt)
     clear hb4 HW3 HX3 HF3 HCl t0 tl
     have HK4 := Lib.hid (H.out.below HW4.out)
     have hF4 := HF4.out
     have t0 := hF4.cell 0
     have t1 := hF4.cell 1
     have t2 := hF4.cell 2
     have t3 := hF4.cell 3
     simp only [List.getElem?_cons_zero, List.getElem?_cons_succ] at t0 t1 t2 t3
     have tl := hF4.lt
     have tf := hF4.open_
     have hne1 : gN ≠ w.heap.size := Nat.ne_of_lt hNlt
     have HW5 := Lib.hid (HW4.out.setCell (p := ⟨w.heap.size, 0, none⟩) (Nat.le_refl _) (.string ⟨nm.toArray⟩))
     have HK5 := Lib.hid (H.out.below HW5.out)
     have hX4 := HX4.out _ _ HXB.out
     have hne2 : w.heap.size ≠ w.heap.size + 1 := by omega
     have hne3 : gN ≠ w.heap.size + 1 := by omega
     have HX5 := Lib.hid (HX4.out.offX ⟨_, hF4⟩ (by decide) 0 (.string ⟨nm.toArray⟩))
     clear hX4 HX4 hF4 HF4
     have hK5 := HK4.out
     have c2 := hK5.ptr.c2
     simp only [HG.out.nodesL] at c2
     have hl5 := hK5.box.lt
     have hBn := hK5.Bn rfl HXi.out
     have r0 : w4.cell? ⟨gN, i * 4, none⟩ = _ := hBn.cell HXi.out (j := 0) rfl
     have r1 := hBn.cell HXi.out (j := 1) rfl
     have r2 := hBn.cell HXi.out (j := 2) rfl
     have r3 := hBn.cell HXi.out (j := 3) rfl
     have rf := hBn.open_
     have rl := hBn.lt
     have HK6 := Lib.hid (HK5.out.putNode rfl ⟨nm, 1, [], un⟩ HXi.out)
     have HX6 := Lib.hid (HX5.out.offX4 (HK5.out.Bn rfl HXi.out).box (by decide) (i * 4) (i * 4 + 1) (i * 4 + 2) (i * 4 + 3) (.string ⟨nm.toArray⟩) (.int .i64 1) (.string ⟨#[]⟩) (.int .i64 un))
     clear hK5 HK5 hBn HX5 HW4 HW5 H HK4
     go_wp2
     go_region
     have hX9 := HX6.out _ _ HXB.out
     have HFin := Lib.hid (fin_ans HK6.out HX6.out HXw.out HXB.out hlow hroom)
     have p0 := hX9.cell 0
     have p1 := hX9.cell 1
     have p2 := hX9.cell 2
     simp only [List.getElem?_cons_zero, List.getElem?_cons_succ] at p0 p1 p2
     have f0 := hX9.open_
     have hl9 := hX9.lt
     clear hX9 HK6 HX6 HXw HXB
     go_wp2
     refine bodyPost_ret (v := .agg #[.int .i64 0, .int .i64 i, .string ⟨#[]⟩]) (by simp [results, Tryz.results68, go_sem, p0, p1, p2]) rfl ?_
     exact ⟨rfl, by (show ActFin _ _ _ _ ⟨_, _, _, _, _⟩ _); with_reducible exact (HFin.out _ _ _).draw⟩
   ·by_cases hq : Cf.withinB un k.mods.length = false
    ·rw [if_pos ⟨rfl, hq⟩]
     rw [hq] at HWi
     clear HT HFs HI HG HCl
     go_enter Tryz.func68, Tryz.ntmps68
     go_wp2_with fail
     refine (HNm.out _).mono ?_
     rintro e w1 ⟨rfl, hb1⟩
     have HW1 := Lib.hid (HW0.out.trans (hb1.mono (HW0.out).size))
     have HX1 := Lib.hid (HX0.out.below hb1)
     have HF1 := Lib.hid (HF0.out.below hb1 HF0.out.lt)
     clear hb1 HW0 HX0 HF0 HNm
     have hF1 := HF1.out
     have t0 := hF1.cell 0
     simp only [List.getElem?_cons_zero, List.getElem?_cons_succ] at t0
     have tl := hF1.lt
     clear hF1
     go_wp2_with fail
     refine (HFf.out _ HW1.out).mono ?_
     rintro e w2 ⟨rfl, hb2⟩
     have HW2 := Lib.hid (HW1.out.trans (hb2.mono (HW1.out).size))
     have HX2 := Lib.hid (HX1.out.below hb2)
     have HF2 := Lib.hid (HF1.out.below hb2 HF1.out.lt)
     clear hb2 HW1 HX1 HF1 HFf t0 tl
     have HK2 := Lib.hid (H.out.below HW2.out)
     have hK2 := HK2.out
     have c0 := hK2.ptr.c0
     have hl2 := hK2.box.lt
     clear hK2
     have hF2 := HF2.out
     have t0 := hF2.cell 0
     have t1 := hF2.cell 1
     have t3 := hF2.cell 3
     simp only [List.getElem?_cons_zero, List.getElem?_cons_succ] at t0 t1 t3
     have tl := hF2.lt
     clear hF2
     go_wp2_with fail
     go_quiet ((go_at_call 70; exact quietE (HWi.out _)))
     clear c0 hl2 t0 t1 t3 tl HK2 HWi
     go_wp2_with fail
     refine (refuse_any 6 _).mono ?_
     rintro e w3 ⟨rfl, hb3⟩
     have HW3 := Lib.hid ((below_drewN HW2.out _).trans (hb3.mono ((below_drewN HW2.out _)).size))
     have HX3 := Lib.hid ((HX2.out.draw _).below hb3)
     have HF3 := Lib.hid ((HF2.out.draw _).below hb3 HF2.out.lt)
     simp only [encAn]
     clear hb3 HW2 HX2 HF2
     have HK3 := Lib.hid (H.out.below HW3.out)
     have hX9 := HX3.out _ _ HXB.out
     have HFin := Lib.hid (fin_ans HK3.out HX3.out HXw.out HXB.out hlow hroom)
     have p0 := hX9.cell 0
     have p1 := hX9.cell 1
     have p2 := hX9.cell 2
     simp only [List.getElem?_cons_zero, List.getElem?_cons_succ] at p0 p1 p2
     have f0 := hX9.open_
     have hl9 := hX9.lt
     clear hX9 HK3 HX3 HXw HXB  HF3 HW3
     go_wp2
     refine bodyPost_ret (v := .agg #[.int .i64 6, .int .i64 0, .string ⟨#[]⟩]) (by simp [results, Tryz.results68, go_sem, p0, p1, p2]) rfl ?_
     exact ⟨rfl, by (show ActFin _ _ _ _ k _); with_reducible exact HFin.out _ _ _⟩
    ·rw [if_neg (fun hh => hq hh.2)]
     rw [Bool.not_eq_false] at hq
     rw [hq] at HWi
     by_cases hz2 : z2 < 0
     ·rw [if_pos hz2]
      clear HT HI HG HCl
      go_enter Tryz.func68, Tryz.ntmps68
      go_wp2_with fail
      refine (HNm.out _).mono ?_
      rintro e w1 ⟨rfl, hb1⟩
      have HW1 := Lib.hid (HW0.out.trans (hb1.mono (HW0.out).size))
      have HX1 := Lib.hid (HX0.out.below hb1)
      have HF1 := Lib.hid (HF0.out.below hb1 HF0.out.lt)
      clear hb1 HW0 HX0 HF0 HNm
      have hF1 := HF1.out
      have t0 := hF1.cell 0
      simp only [List.getElem?_cons_zero, List.getElem?_cons_succ] at t0
      have tl := hF1.lt
      clear hF1
      go_wp2_with fail
      refine (HFf.out _ HW1.out).mono ?_
      rintro e w2 ⟨rfl, hb2⟩
      have HW2 := Lib.hid (HW1.out.trans (hb2.mono (HW1.out).size))
      have HX2 := Lib.hid (HX1.out.below hb2)
      have HF2 := Lib.hid (HF1.out.below hb2 HF1.out.lt)
      clear hb2 HW1 HX1 HF1 HFf t0 tl
      have HK2 := Lib.hid (H.out.below HW2.out)
      have hK2 := HK2.out
      have c0 := hK2.ptr.c0
      have hl2 := hK2.box.lt
      clear hK2
      have hF2 := HF2.out
      have t0 := hF2.cell 0
      have t1 := hF2.cell 1
      have t3 := hF2.cell 3
      simp only [List.getElem?_cons_zero, List.getElem?_cons_succ] at t0 t1 t3
      have tl := hF2.lt
      clear hF2
      go_wp2_with fail
      go_quiet ((go_at_call 70; exact quietE (HWi.out _)))
      clear c0 hl2 t0 t1 t3 tl HK2 HWi
      go_wp2_with fail
      refine (HFs.out _ (below_drewN HW2.out _)).mono ?_
      rintro e w3 ⟨rfl, hb3⟩
      have HW3 := Lib.hid ((below_drewN HW2.out _).trans (hb3.mono ((below_drewN HW2.out _)).size))
      have HX3 := Lib.hid ((HX2.out.draw _).below hb3)
      have HF3 := Lib.hid ((HF2.out.draw _).below hb3 HF2.out.lt)
      clear hb3 HW2 HX2 HF2 HFs
      go_wp2_with fail
      refine (refuse_any 8 _).mono ?_
      rintro e w4 ⟨rfl, hb4⟩
      have HW4 := Lib.hid (HW3.out.trans (hb4.mono (HW3.out).size))
      have HX4 := Lib.hid (HX3.out.below hb4)
      have HF4 := Lib.hid (HF3.out.below hb4 HF3.out.lt)
      simp only [encAn]
      clear hb4 HW3 HX3 HF3
      have HK4 := Lib.hid (H.out.below HW4.out)
      have hX9 := HX4.out _ _ HXB.out
      have HFin := Lib.hid (fin_ans HK4.out HX4.out HXw.out HXB.out hlow hroom)
      have p0 := hX9.cell 0
      have p1 := hX9.cell 1
      have p2 := hX9.cell 2
      simp only [List.getElem?_cons_zero, List.getElem?_cons_succ] at p0 p1 p2
      have f0 := hX9.open_
      have hl9 := hX9.lt
      clear hX9 HK4 HX4 HXw HXB  HF4 HW4
      go_wp2
      refine bodyPost_ret (v := .agg #[.int .i64 8, .int .i64 0, .string ⟨#[]⟩]) (by simp [results, Tryz.results68, go_sem, p0, p1, p2]) rfl ?_
      exact ⟨rfl, by (show ActFin _ _ _ _ k _); with_reducible exact HFin.out _ _ _⟩
     ·rw [if_neg hz2]
      obtain ⟨_, hzz⟩ | ⟨i, x, hzi, hxi, hfr, _⟩ := HI.out
      ·omega
      have hi8 : i < 8 := by rw [← HG.out.nodesL]; exact (List.getElem?_eq_some_iff.1 hxi).1
      have HXi := Lib.hid hxi
      subst hzi
      rw [Int.toNat_natCast]
      clear HT HI hxi hfr hz2
      go_enter Tryz.func68, Tryz.ntmps68
      go_wp2_with fail
      refine (HNm.out _).mono ?_
      rintro e w1 ⟨rfl, hb1⟩
      have HW1 := Lib.hid (HW0.out.trans (hb1.mono (HW0.out).size))
      have HX1 := Lib.hid (HX0.out.below hb1)
      have HF1 := Lib.hid (HF0.out.below hb1 HF0.out.lt)
      clear hb1 HW0 HX0 HF0 HNm
      have hF1 := HF1.out
      have t0 := hF1.cell 0
      simp only [List.getElem?_cons_zero, List.getElem?_cons_succ] at t0
      have tl := hF1.lt
      clear hF1
      go_wp2_with fail
      refine (HFf.out _ HW1.out).mono ?_
      rintro e w2 ⟨rfl, hb2⟩
      have HW2 := Lib.hid (HW1.out.trans (hb2.mono (HW1.out).size))
      have HX2 := Lib.hid (HX1.out.below hb2)
      have HF2 := Lib.hid (HF1.out.below hb2 HF1.out.lt)
      clear hb2 HW1 HX1 HF1 HFf t0 tl
      have HK2 := Lib.hid (H.out.below HW2.out)
      have hK2 := HK2.out
      have c0 := hK2.ptr.c0
      have hl2 := hK2.box.lt
      clear hK2
      have hF2 := HF2.out
      have t0 := hF2.cell 0
      have t1 := hF2.cell 1
      have t3 := hF2.cell 3
      simp only [List.getElem?_cons_zero, List.getElem?_cons_succ] at t0 t1 t3
      have tl := hF2.lt
      clear hF2
      go_wp2_with fail
      go_quiet ((go_at_call 70; exact quietE (HWi.out _)))
      clear c0 hl2 t0 t1 t3 tl HK2 HWi
      go_wp2_with fail
      refine (HFs.out _ (below_drewN HW2.out _)).mono ?_
      rintro e w3 ⟨rfl, hb3⟩
      have HW3 := Lib.hid ((below_drewN HW2.out _).trans (hb3.mono ((below_drewN HW2.out _)).size))
      have HX3 := Lib.hid ((HX2.out.draw _).below hb3)
      have HF3 := Lib.hid ((HF2.out.draw _).below hb3 HF2.out.lt)
      clear hb3 HW2 HX2 HF2 HFs
      have hF3 := HF3.out
      have t0 := hF3.cell 0
      simp only [List.getElem?_cons_zero, List.getElem?_cons_succ] at t0
      have tl := hF3.lt
      clear hF3
      go_wp2_with fail
      refine (HCl.out trivial _).mono ?_
      rintro e w4 ⟨rfl, hb4⟩
      have HW4 := Lib.hid (HW3.out.trans (hb4.mono (HW3.out).size))
      have HX4 := Lib.hid (HX3.out.below hb4)
      have HF4 := Lib.hid (HF3.out.below hb4 HF3.out.lt)
      clear hb4 HW3 HX3 HF3 HCl t0 tl
      have HK4 := Lib.hid (H.out.below HW4.out)
      have hF4 := HF4.out
      have t0 := hF4.cell 0
      have t1 := hF4.cell 1
      have t2 := hF4.cell 2
      have t3 := hF4.cell 3
      simp only [List.getElem?_cons_zero, List.getElem?_cons_succ] at t0 t1 t2 t3
      have tl := hF4.lt
      have tf := hF4.open_
      have hne1 : gN ≠ w.heap.size := Nat.ne_of_lt hNlt
      have HW5 := Lib.hid (HW4.out.setCell (p := ⟨w.heap.size, 0, none⟩) (Nat.le_refl _) (.string ⟨nm.toArray⟩))
      have HK5 := Lib.hid (H.out.below HW5.out)
      have hX4 := HX4.out _ _ HXB.out
      have hne2 : w.heap.size ≠ w.heap.size + 1 := by omega
      have hne3 : gN ≠ w.heap.size + 1 := by omega
      have HX5 := Lib.hid (HX4.out.offX ⟨_, hF4⟩ (by decide) 0 (.string ⟨nm.toArray⟩))
      clear hX4 HX4 hF4 HF4
      have hK5 := HK4.out
      have c2 := hK5.ptr.c2
      simp only [HG.out.nodesL] at c2
      have hl5 := hK5.box.lt
      have hBn := hK5.Bn rfl HXi.out
      have r0 : w4.cell? ⟨gN, i * 4, none⟩ = _ := hBn.cell HXi.out (j := 0) rfl
      have r1 := hBn.cell HXi.out (j := 1) rfl
      have r2 := hBn.cell HXi.out (j := 2) rfl
      have r3 := hBn.cell HXi.out (j := 3) rfl
      have rf := hBn.open_
      have rl := hBn.lt
      have HK6 := Lib.hid (HK5.out.putNode rfl ⟨nm, 2, [], un⟩ HXi.out)
      have HX6 := Lib.hid (HX5.out.offX4 (HK5.out.Bn rfl HXi.out).box (by decide) (i * 4) (i * 4 + 1) (i * 4 + 2) (i * 4 + 3) (.string ⟨nm.toArray⟩) (.int .i64 2) (.string ⟨#[]⟩) (.int .i64 un))
      clear hK5 HK5 hBn HX5 HW4 HW5 H HK4
      go_wp2
      go_region
      have hX9 := HX6.out _ _ HXB.out
      have HFin := Lib.hid (fin_ans HK6.out HX6.out HXw.out HXB.out hlow hroom)
      have p0 := hX9.cell 0
      have p1 := hX9.cell 1
      have p2 := hX9.cell 2
      simp only [List.getElem?_cons_zero, List.getElem?_cons_succ] at p0 p1 p2
      have f0 := hX9.open_
      have hl9 := hX9.lt
      clear hX9 HK6 HX6 HXw HXB
      go_wp2
      refine bodyPost_ret (v := .agg #[.int .i64 0, .int .i64 i, .string ⟨#[]⟩]) (by simp [results, Tryz.results68, go_sem, p0, p1, p2]) rfl ?_
      exact ⟨rfl, by (show ActFin _ _ _ _ ⟨_, _, _, _, _⟩ _); with_reducible exact (HFin.out _ _ _).draw⟩
end Go.Proofs.YtnnhhbjbdmgpiaaGreatDoor
/- Walks of chapter 5: the program's openPipe. (tools/gen/actz.py) -/
namespace Go.Proofs.YtnnhhbjbdmgpiaaGreatDoor
set_option maxRecDepth 100000
open Go.RowKit
theorem Bk.from {α : Type} {sz : Nat} {enc : α → List Value} {w : World} {g : Nat} {t : TypeId} {l : List α} (h : Bk sz enc w g t l) (n : Nat) : RdS sz enc w (some ⟨g, n * sz, none⟩) (l.drop n) :=
 .inr ⟨g, n * sz, rfl, h.lt, fun k x hx j v hv => by
  rw [List.getElem?_drop] at hx
  have := h.cell hx hv
  rw [Nat.add_mul] at this
  exact this⟩
theorem pipe_is {k : Cf.Kern} {q : Nat} {lv : Bool} {es : List Cf.End} (hq : k.procs[q]? = some ⟨lv, es⟩) : Cf.pipeT k q = if Cf.pipeT' k < 0 ∨ Cf.idxT Cf.freeB es < 0 then Cf.refuseT k 8 else if Cf.idxT Cf.freeB (es.drop ((Cf.idxT Cf.freeB es).toNat + 1)) < 0 then Cf.refuseT k 8
 else ⟨⟨k.mods, k.mem, k.nodes, k.pipes, k.procs.set q ⟨lv, (es.set (Cf.idxT Cf.freeB es).toNat ⟨2, Cf.pipeT' k, 0⟩).set ((Cf.idxT Cf.freeB es).toNat + 1 + (Cf.idxT Cf.freeB (es.drop ((Cf.idxT Cf.freeB es).toNat + 1))).toNat) ⟨3, Cf.pipeT' k, 0⟩⟩⟩, ⟨0, Cf.idxT Cf.freeB es, []⟩⟩ := by
 have hP : Cf.procAt k q = ⟨lv, es⟩ := by rw [Cf.procAt, List.getD_eq_getElem?_getD, hq]; rfl
 have hS : ∀ i e, Cf.procAt (Cf.setEnd k q i e) q = ⟨lv, es.set i e⟩ := by
  intro i e
  unfold Cf.setEnd
  rw [hP]
  show (k.procs.set q ⟨lv, es.set i e⟩).getD q Cf.noProc = _
  rw [List.getD_eq_getElem?_getD, List.getElem?_set, if_pos rfl, if_pos (List.getElem?_eq_some_iff.1 hq).1]
  rfl
 have hD : ∀ i e j e', Cf.setEnd (Cf.setEnd k q i e) q j e' = ⟨k.mods, k.mem, k.nodes, k.pipes, k.procs.set q ⟨lv, (es.set i e).set j e'⟩⟩ := by
  intro i e j e'
  rw [Cf.setEnd, hS]
  unfold Cf.setEnd
  rw [hP]
  unfold Cf.setProc
  simp only [List.set_set]
 unfold Cf.pipeT
 rw [hP]
 simp only [hD]
theorem PAt.set {a : KA} {ps : List PV} {k : Cf.Kern} {q gQ gE ce : Nat} {lv : Bool} {es : List Cf.End} (h : PAt a ps k q gQ gE ce lv es) (i : Nat) (e : Cf.End) : PAt a ps ⟨k.mods, k.mem, k.nodes, k.pipes, k.procs.set q ⟨lv, es.set i e⟩⟩ q gQ gE ce lv (es.set i e) := by
 have hq : (k.procs.set q ⟨lv, es.set i e⟩)[q]? = some ⟨lv, es.set i e⟩ := by rw [List.getElem?_set, if_pos rfl, if_pos (List.getElem?_eq_some_iff.1 h.proc).1]
 exact ⟨h.Q, h.pv, hq, by rw [List.length_set]; exact h.len, by show (k.procs.set q ⟨lv, es.set i e⟩).getD q Cf.noProc = _; rw [List.getD_eq_getElem?_getD, hq]; rfl, h.cap⟩
set_option maxHeartbeats 1000000 in
theorem openPipe_any {B : Nat} {wb : World} {g : Nat} {a : KA} {xs : List MV} {ps : List PV} (k : Cf.Kern) (q gQ : Nat) (w : World) (h : KSt B wb g a xs ps k w) (hG : Cf.Good k) (hq : q < 4) (hQ : a.Q = some ⟨gQ, 0, none⟩) :
  Calls Tryz.prog 112 #[.pointer (some ⟨g, 0, none⟩), .pointer (some ⟨gQ, q * 2, none⟩)] w (ActPost B wb g w (Cf.pipeT k q)) := by
 obtain ⟨A, ca, M, cm, N, cn, S, cs, Q, cq⟩ := a
 simp only at hQ
 subst hQ
 obtain ⟨gE, ce, lv, es, hP⟩ := h.pat hG.toPre hq rfl
 have H := Lib.hid h
 have HXB := Lib.hid (Wb.new w tAns [.int .i64 0, .int .i64 0, .string ⟨#[]⟩])
 have HXw := Lib.hid (KpA.alloc w (.cells #[.int .i64 0, .int .i64 0, .string ⟨#[]⟩] tAns))
 have HX0 := Lib.hid (KpA.refl (w.alloc (.cells #[.int .i64 0, .int .i64 0, .string ⟨#[]⟩] tAns)))
 have hd0 : Below w.heap.size w (w.alloc (.cells #[.int .i64 0, .int .i64 0, .string ⟨#[]⟩] tAns)).drew := ((Below.refl _ _).alloc (Nat.le_refl _) _).drew
 have hroom := h.room
 have hlow : w.heap.size ≤ w.heap.size := Nat.le_refl _
 have HG := Lib.hid hG
 have HP := Lib.hid hP
 have q1 := h.p1 hP
 have ql := (h.Bp hP).lt
 have HFp := Lib.hid (fun W (hW : Below w.heap.size w W) => findPipe_any k _ g W (h.below hW).ptr (lim_max (by rw [hG.pipesL]; omega)) (lim_max (by rw [hG.procsL]; omega)) (fun p hp => lim_max (by rw [hG.ends p hp]; omega)))
 have HFr := Lib.hid (fun W (hW : Below w.heap.size w W) => show Calls Tryz.prog 137 #[.slice (some ⟨gE, 0, none⟩) 6 ce] W (fun e w' => e = .returned (.int .i64 (Cf.idxT Cf.freeB es)) ∧ Below W.heap.size W w') by
  have := findFree_any es (some ⟨gE, 0, none⟩) ce W ((h.below hW).Be hP).rd (by rw [hP.len]; unfold maxLen; omega)
  rw [hP.len] at this
  exact this)
 have HFd := Lib.hid (fun (n : Nat) W (hW : Below w.heap.size w W) => show Calls Tryz.prog 137 #[.slice (some ⟨gE, n * 3, none⟩) (6 - n) (ce - n)] W (fun e w' => e = .returned (.int .i64 (Cf.idxT Cf.freeB (es.drop n))) ∧ Below W.heap.size W w') by
  have := findFree_any (es.drop n) (some ⟨gE, n * 3, none⟩) (ce - n) W (((h.below hW).Be hP).from n) (by rw [List.length_drop, hP.len]; unfold maxLen; omega)
  rw [List.length_drop, hP.len] at this
  exact this)
 have Heg1 := Lib.hid (fun args w => show (callFunc 138 args).run Tryz.prog w = .ok (.enter 138 args) w by simp [go_sem])
 have Heg2 := Lib.hid (fun args w => show (callFunc 137 args).run Tryz.prog w = .ok (.enter 137 args) w by simp [go_sem])
 have HT := Lib.hid (pipe_is hP.proc)
 have HI := Lib.hid (Cf.idx_cases Cf.freeB es)
 clear h hG hP
 generalize Cf.pipeT' k = z1 at *
 generalize Cf.idxT Cf.freeB es = z2 at *
 by_cases hz1 : z1 < 0
 ·rw [HT.out, if_pos (.inl hz1)]
  clear HT HI HFd
  go_enter Tryz.func112, Tryz.ntmps112
  go_wp2_with fail
  go_region_law (first
   | (refine step_call1 (by rfl) 138 (.tmp 8) #[82] (by rfl) (.pointer (some ⟨g, 0, none⟩)) (by rfl) Heg1.out (HFp.out _ hwb) ?_
      rintro e w1 ⟨rfl, hb1⟩
      refine ⟨_, rfl, ?_⟩
      have HW1 := Lib.hid (hwb.trans (hb1.mono hwb.size))
      have HX1 := Lib.hid (HXb.out.below hb1)
      clear hb1 hwb HXb)
   | (refine step_call1 (by rfl) 137 (.tmp 13) #[67] (by rfl) (.slice (some ⟨gE, 0, none⟩) 6 _) (by rfl) Heg2.out (HFr.out _ hwa) ?_
      rintro e w1 ⟨rfl, hb1⟩
      refine ⟨_, rfl, ?_⟩
      have HW1 := Lib.hid (hwa.trans (hb1.mono hwa.size))
      have HX1 := Lib.hid (HXa.out.below hb1)
      clear hb1 hwa HXa)
   | (refine step_call1 (by rfl) 138 (.tmp 8) #[82] (by rfl) (.pointer (some ⟨g, 0, none⟩)) (by rfl) Heg1.out (HFp.out _ hd0) ?_
      rintro e wa ⟨rfl, hb1⟩
      refine ⟨_, rfl, ?_⟩
      have hwa := hd0.trans (hb1.mono hd0.size)
      have HXa := Lib.hid ((HX0.out.draw 1).below hb1)
      have q3 := (H.out.below hwa).p1 HP.out
      have ql3 := ((H.out.below hwa).Bp HP.out).lt
      clear hb1)
   | (refine step_call1 (by rfl) 137 (.tmp 13) #[67] (by rfl) (.slice (some ⟨gE, 0, none⟩) 6 _) (by rfl) Heg2.out (HFr.out _ hd0) ?_
      rintro e wb ⟨rfl, hb1⟩
      refine ⟨_, rfl, ?_⟩
      have hwb := hd0.trans (hb1.mono hd0.size)
      have HXb := Lib.hid ((HX0.out.draw 1).below hb1)
      clear hb1)
   | fail)
  all_goals
   go_wp2_with fail
   refine (refuse_any 8 _).mono ?_
   rintro e w2 ⟨rfl, hb2⟩
   have HW2 := Lib.hid (HW1.out.trans (hb2.mono (HW1.out).size))
   have HX2 := Lib.hid (HX1.out.below hb2)
   simp only [encAn]
   clear hb2 HW1 HX1
   have HK2 := Lib.hid (H.out.below HW2.out)
   have hX9 := HX2.out _ _ HXB.out
   have HFin := Lib.hid (fin_ans HK2.out HX2.out HXw.out HXB.out hlow hroom)
   have p0 := hX9.cell 0
   have p1 := hX9.cell 1
   have p2 := hX9.cell 2
   simp only [List.getElem?_cons_zero, List.getElem?_cons_succ] at p0 p1 p2
   have f0 := hX9.open_
   have hl9 := hX9.lt
   clear hX9 HK2 HX2 HXw HXB   HW2
   go_wp2
   refine bodyPost_ret (v := .agg #[.int .i64 8, .int .i64 0, .string ⟨#[]⟩]) (by simp [results, Tryz.results112, go_sem, p0, p1, p2]) rfl ?_
   exact ⟨rfl, by (show ActFin _ _ _ _ k _); with_reducible exact HFin.out _ _ _⟩
 ·by_cases hz2 : z2 < 0
  ·rw [HT.out, if_pos (.inr hz2)]
   clear HT HI HFd
   go_enter Tryz.func112, Tryz.ntmps112
   go_wp2_with fail
   go_region_law (first
    | (refine step_call1 (by rfl) 138 (.tmp 8) #[82] (by rfl) (.pointer (some ⟨g, 0, none⟩)) (by rfl) Heg1.out (HFp.out _ hwb) ?_
       rintro e w1 ⟨rfl, hb1⟩
       refine ⟨_, rfl, ?_⟩
       have HW1 := Lib.hid (hwb.trans (hb1.mono hwb.size))
       have HX1 := Lib.hid (HXb.out.below hb1)
       clear hb1 hwb HXb)
    | (refine step_call1 (by rfl) 137 (.tmp 13) #[67] (by rfl) (.slice (some ⟨gE, 0, none⟩) 6 _) (by rfl) Heg2.out (HFr.out _ hwa) ?_
       rintro e w1 ⟨rfl, hb1⟩
       refine ⟨_, rfl, ?_⟩
       have HW1 := Lib.hid (hwa.trans (hb1.mono hwa.size))
       have HX1 := Lib.hid (HXa.out.below hb1)
       clear hb1 hwa HXa)
    | (refine step_call1 (by rfl) 138 (.tmp 8) #[82] (by rfl) (.pointer (some ⟨g, 0, none⟩)) (by rfl) Heg1.out (HFp.out _ hd0) ?_
       rintro e wa ⟨rfl, hb1⟩
       refine ⟨_, rfl, ?_⟩
       have hwa := hd0.trans (hb1.mono hd0.size)
       have HXa := Lib.hid ((HX0.out.draw 1).below hb1)
       have q3 := (H.out.below hwa).p1 HP.out
       have ql3 := ((H.out.below hwa).Bp HP.out).lt
       clear hb1)
    | (refine step_call1 (by rfl) 137 (.tmp 13) #[67] (by rfl) (.slice (some ⟨gE, 0, none⟩) 6 _) (by rfl) Heg2.out (HFr.out _ hd0) ?_
       rintro e wb ⟨rfl, hb1⟩
       refine ⟨_, rfl, ?_⟩
       have hwb := hd0.trans (hb1.mono hd0.size)
       have HXb := Lib.hid ((HX0.out.draw 1).below hb1)
       clear hb1)
    | fail)
   all_goals
    go_wp2_with fail
    refine (refuse_any 8 _).mono ?_
    rintro e w2 ⟨rfl, hb2⟩
    have HW2 := Lib.hid (HW1.out.trans (hb2.mono (HW1.out).size))
    have HX2 := Lib.hid (HX1.out.below hb2)
    simp only [encAn]
    clear hb2 HW1 HX1
    have HK2 := Lib.hid (H.out.below HW2.out)
    have hX9 := HX2.out _ _ HXB.out
    have HFin := Lib.hid (fin_ans HK2.out HX2.out HXw.out HXB.out hlow hroom)
    have p0 := hX9.cell 0
    have p1 := hX9.cell 1
    have p2 := hX9.cell 2
    simp only [List.getElem?_cons_zero, List.getElem?_cons_succ] at p0 p1 p2
    have f0 := hX9.open_
    have hl9 := hX9.lt
    clear hX9 HK2 HX2 HXw HXB   HW2
    go_wp2
    refine bodyPost_ret (v := .agg #[.int .i64 8, .int .i64 0, .string ⟨#[]⟩]) (by simp [results, Tryz.results112, go_sem, p0, p1, p2]) rfl ?_
    exact ⟨rfl, by (show ActFin _ _ _ _ k _); with_reducible exact HFin.out _ _ _⟩
  ·rw [HT.out, if_neg (by omega)]
   obtain ⟨_, hzz⟩ | ⟨i, x, hzi, hxi, hfr, _⟩ := HI.out
   ·omega
   have hi6 : i < 6 := by rw [← HP.out.len]; exact (List.getElem?_eq_some_iff.1 hxi).1
   have HXi := Lib.hid hxi
   subst hzi
   rw [Int.toNat_natCast]
   have HFd1 := Lib.hid (fun W (hW : Below w.heap.size w W) => show Calls Tryz.prog 137 #[.slice (some ⟨gE, (i + 1) * 3, none⟩) (5 - i) (ce - (i + 1))] W (fun e w' => e = .returned (.int .i64 (Cf.idxT Cf.freeB (es.drop (i + 1)))) ∧ Below W.heap.size W w') by
    have := HFd.out (i + 1) W hW
    rw [show 6 - (i + 1) = 5 - i by omega] at this
    exact this)
   have HJ := Lib.hid (Cf.idx_cases Cf.freeB (es.drop (i + 1)))
   have hc6 := HP.out.cap
   clear HT HI hxi hfr hz2 HFd
   by_cases h5 : i = 5
   ·have HF0 := Lib.hid (fun A c W (n : Nat) (hn : n = 0) => show Calls Tryz.prog 137 #[.slice A n c] W (fun e w' => e = .returned (.int .i64 (-1)) ∧ Below W.heap.size W w') by
     subst hn
     exact findFree_any [] A c W (.inl rfl) (by decide))
    have hd : es.drop (i + 1) = [] := List.drop_eq_nil_of_le (by rw [HP.out.len]; omega)
    rw [if_pos (by rw [hd]; decide)]
    have H5 := Lib.hid h5
    clear HJ HFd1 hd h5
    by_cases hnc : ce = i + 1
    ·subst hnc
     go_enter Tryz.func112, Tryz.ntmps112
     go_wp2_with fail
     go_region_law (first
      | (refine step_call1 (by rfl) 138 (.tmp 8) #[82] (by rfl) (.pointer (some ⟨g, 0, none⟩)) (by rfl) Heg1.out (HFp.out _ hwb) ?_
         rintro e w1 ⟨rfl, hb1⟩
         refine ⟨_, rfl, ?_⟩
         have HW1 := Lib.hid (hwb.trans (hb1.mono hwb.size))
         have HX1 := Lib.hid (HXb.out.below hb1)
         clear hb1 hwb HXb)
      | (refine step_call1 (by rfl) 137 (.tmp 13) #[67] (by rfl) (.slice (some ⟨gE, 0, none⟩) 6 _) (by rfl) Heg2.out (HFr.out _ hwa) ?_
         rintro e w1 ⟨rfl, hb1⟩
         refine ⟨_, rfl, ?_⟩
         have HW1 := Lib.hid (hwa.trans (hb1.mono hwa.size))
         have HX1 := Lib.hid (HXa.out.below hb1)
         clear hb1 hwa HXa)
      | (refine step_call1 (by rfl) 138 (.tmp 8) #[82] (by rfl) (.pointer (some ⟨g, 0, none⟩)) (by rfl) Heg1.out (HFp.out _ hd0) ?_
         rintro e wa ⟨rfl, hb1⟩
         refine ⟨_, rfl, ?_⟩
         have hwa := hd0.trans (hb1.mono hd0.size)
         have HXa := Lib.hid ((HX0.out.draw 1).below hb1)
         have q3 := (H.out.below hwa).p1 HP.out
         have ql3 := ((H.out.below hwa).Bp HP.out).lt
         clear hb1)
      | (refine step_call1 (by rfl) 137 (.tmp 13) #[67] (by rfl) (.slice (some ⟨gE, 0, none⟩) 6 _) (by rfl) Heg2.out (HFr.out _ hd0) ?_
         rintro e wb ⟨rfl, hb1⟩
         refine ⟨_, rfl, ?_⟩
         have hwb := hd0.trans (hb1.mono hd0.size)
         have HXb := Lib.hid ((HX0.out.draw 1).below hb1)
         clear hb1)
      | fail)
     all_goals
      have hK1 := H.out.below HW1.out
      have qa1 := hK1.p1 HP.out
      have qb1 := (hK1.Bp HP.out).lt
      clear hK1
      go_wp2_with fail
      refine (HF0.out _ _ _ _ (by have := H5.out; omega)).mono ?_
      rintro e w2 ⟨rfl, hb2⟩
      have HW2 := Lib.hid (HW1.out.trans (hb2.mono (HW1.out).size))
      have HX2 := Lib.hid (HX1.out.below hb2)
      clear hb2 HW1 HX1 qa1 qb1 HF0
      go_wp2_with fail
      refine (refuse_any 8 _).mono ?_
      rintro e w3 ⟨rfl, hb3⟩
      have HW3 := Lib.hid (HW2.out.trans (hb3.mono (HW2.out).size))
      have HX3 := Lib.hid (HX2.out.below hb3)
      simp only [encAn]
      clear hb3 HW2 HX2
      have HK3 := Lib.hid (H.out.below HW3.out)
      have hX9 := HX3.out _ _ HXB.out
      have HFin := Lib.hid (fin_ans HK3.out HX3.out HXw.out HXB.out hlow hroom)
      have p0 := hX9.cell 0
      have p1 := hX9.cell 1
      have p2 := hX9.cell 2
      simp only [List.getElem?_cons_zero, List.getElem?_cons_succ] at p0 p1 p2
      have f0 := hX9.open_
      have hl9 := hX9.lt
      clear hX9 HK3 HX3 HXw HXB   HW3
      go_wp2
      refine bodyPost_ret (v := .agg #[.int .i64 8, .int .i64 0, .string ⟨#[]⟩]) (by simp [results, Tryz.results112, go_sem, p0, p1, p2]) rfl ?_
      exact ⟨rfl, by (show ActFin _ _ _ _ k _); with_reducible exact HFin.out _ _ _⟩
    ·skip
     go_enter Tryz.func112, Tryz.ntmps112
     go_wp2_with fail
     go_region_law (first
      | (refine step_call1 (by rfl) 138 (.tmp 8) #[82] (by rfl) (.pointer (some ⟨g, 0, none⟩)) (by rfl) Heg1.out (HFp.out _ hwb) ?_
         rintro e w1 ⟨rfl, hb1⟩
         refine ⟨_, rfl, ?_⟩
         have HW1 := Lib.hid (hwb.trans (hb1.mono hwb.size))
         have HX1 := Lib.hid (HXb.out.below hb1)
         clear hb1 hwb HXb)
      | (refine step_call1 (by rfl) 137 (.tmp 13) #[67] (by rfl) (.slice (some ⟨gE, 0, none⟩) 6 _) (by rfl) Heg2.out (HFr.out _ hwa) ?_
         rintro e w1 ⟨rfl, hb1⟩
         refine ⟨_, rfl, ?_⟩
         have HW1 := Lib.hid (hwa.trans (hb1.mono hwa.size))
         have HX1 := Lib.hid (HXa.out.below hb1)
         clear hb1 hwa HXa)
      | (refine step_call1 (by rfl) 138 (.tmp 8) #[82] (by rfl) (.pointer (some ⟨g, 0, none⟩)) (by rfl) Heg1.out (HFp.out _ hd0) ?_
         rintro e wa ⟨rfl, hb1⟩
         refine ⟨_, rfl, ?_⟩
         have hwa := hd0.trans (hb1.mono hd0.size)
         have HXa := Lib.hid ((HX0.out.draw 1).below hb1)
         have q3 := (H.out.below hwa).p1 HP.out
         have ql3 := ((H.out.below hwa).Bp HP.out).lt
         clear hb1)
      | (refine step_call1 (by rfl) 137 (.tmp 13) #[67] (by rfl) (.slice (some ⟨gE, 0, none⟩) 6 _) (by rfl) Heg2.out (HFr.out _ hd0) ?_
         rintro e wb ⟨rfl, hb1⟩
         refine ⟨_, rfl, ?_⟩
         have hwb := hd0.trans (hb1.mono hd0.size)
         have HXb := Lib.hid ((HX0.out.draw 1).below hb1)
         clear hb1)
      | fail)
     all_goals
      have hK1 := H.out.below HW1.out
      have qa1 := hK1.p1 HP.out
      have qb1 := (hK1.Bp HP.out).lt
      clear hK1
      go_wp2_with fail
      refine (HF0.out _ _ _ _ (by have := H5.out; omega)).mono ?_
      rintro e w2 ⟨rfl, hb2⟩
      have HW2 := Lib.hid (HW1.out.trans (hb2.mono (HW1.out).size))
      have HX2 := Lib.hid (HX1.out.below hb2)
      clear hb2 HW1 HX1 qa1 qb1 HF0
      go_wp2_with fail
      refine (refuse_any 8 _).mono ?_
      rintro e w3 ⟨rfl, hb3⟩
      have HW3 := Lib.hid (HW2.out.trans (hb3.mono (HW2.out).size))
      have HX3 := Lib.hid (HX2.out.below hb3)
      simp only [encAn]
      clear hb3 HW2 HX2
      have HK3 := Lib.hid (H.out.below HW3.out)
      have hX9 := HX3.out _ _ HXB.out
      have HFin := Lib.hid (fin_ans HK3.out HX3.out HXw.out HXB.out hlow hroom)
      have p0 := hX9.cell 0
      have p1 := hX9.cell 1
      have p2 := hX9.cell 2
      simp only [List.getElem?_cons_zero, List.getElem?_cons_succ] at p0 p1 p2
      have f0 := hX9.open_
      have hl9 := hX9.lt
      clear hX9 HK3 HX3 HXw HXB   HW3
      go_wp2
      refine bodyPost_ret (v := .agg #[.int .i64 8, .int .i64 0, .string ⟨#[]⟩]) (by simp [results, Tryz.results112, go_sem, p0, p1, p2]) rfl ?_
      exact ⟨rfl, by (show ActFin _ _ _ _ k _); with_reducible exact HFin.out _ _ _⟩
   ·have hnc : ¬ ce = i + 1 := by omega
    generalize Cf.idxT Cf.freeB (es.drop (i + 1)) = z3 at *
    by_cases hz3 : z3 < 0
    ·rw [if_pos hz3]
     clear HJ
     go_enter Tryz.func112, Tryz.ntmps112
     go_wp2_with fail
     go_region_law (first
      | (refine step_call1 (by rfl) 138 (.tmp 8) #[82] (by rfl) (.pointer (some ⟨g, 0, none⟩)) (by rfl) Heg1.out (HFp.out _ hwb) ?_
         rintro e w1 ⟨rfl, hb1⟩
         refine ⟨_, rfl, ?_⟩
         have HW1 := Lib.hid (hwb.trans (hb1.mono hwb.size))
         have HX1 := Lib.hid (HXb.out.below hb1)
         clear hb1 hwb HXb)
      | (refine step_call1 (by rfl) 137 (.tmp 13) #[67] (by rfl) (.slice (some ⟨gE, 0, none⟩) 6 _) (by rfl) Heg2.out (HFr.out _ hwa) ?_
         rintro e w1 ⟨rfl, hb1⟩
         refine ⟨_, rfl, ?_⟩
         have HW1 := Lib.hid (hwa.trans (hb1.mono hwa.size))
         have HX1 := Lib.hid (HXa.out.below hb1)
         clear hb1 hwa HXa)
      | (refine step_call1 (by rfl) 138 (.tmp 8) #[82] (by rfl) (.pointer (some ⟨g, 0, none⟩)) (by rfl) Heg1.out (HFp.out _ hd0) ?_
         rintro e wa ⟨rfl, hb1⟩
         refine ⟨_, rfl, ?_⟩
         have hwa := hd0.trans (hb1.mono hd0.size)
         have HXa := Lib.hid ((HX0.out.draw 1).below hb1)
         have q3 := (H.out.below hwa).p1 HP.out
         have ql3 := ((H.out.below hwa).Bp HP.out).lt
         clear hb1)
      | (refine step_call1 (by rfl) 137 (.tmp 13) #[67] (by rfl) (.slice (some ⟨gE, 0, none⟩) 6 _) (by rfl) Heg2.out (HFr.out _ hd0) ?_
         rintro e wb ⟨rfl, hb1⟩
         refine ⟨_, rfl, ?_⟩
         have hwb := hd0.trans (hb1.mono hd0.size)
         have HXb := Lib.hid ((HX0.out.draw 1).below hb1)
         clear hb1)
      | fail)
     all_goals
      have hK1 := H.out.below HW1.out
      have qa1 := hK1.p1 HP.out
      have qb1 := (hK1.Bp HP.out).lt
      clear hK1
      go_wp2_with fail
      refine (HFd1.out _ HW1.out).mono ?_
      rintro e w2 ⟨rfl, hb2⟩
      have HW2 := Lib.hid (HW1.out.trans (hb2.mono (HW1.out).size))
      have HX2 := Lib.hid (HX1.out.below hb2)
      clear hb2 HW1 HX1 qa1 qb1 HFd1
      go_wp2_with fail
      refine (refuse_any 8 _).mono ?_
      rintro e w3 ⟨rfl, hb3⟩
      have HW3 := Lib.hid (HW2.out.trans (hb3.mono (HW2.out).size))
      have HX3 := Lib.hid (HX2.out.below hb3)
      simp only [encAn]
      clear hb3 HW2 HX2
      have HK3 := Lib.hid (H.out.below HW3.out)
      have hX9 := HX3.out _ _ HXB.out
      have HFin := Lib.hid (fin_ans HK3.out HX3.out HXw.out HXB.out hlow hroom)
      have p0 := hX9.cell 0
      have p1 := hX9.cell 1
      have p2 := hX9.cell 2
      simp only [List.getElem?_cons_zero, List.getElem?_cons_succ] at p0 p1 p2
      have f0 := hX9.open_
      have hl9 := hX9.lt
      clear hX9 HK3 HX3 HXw HXB   HW3
      go_wp2
      refine bodyPost_ret (v := .agg #[.int .i64 8, .int .i64 0, .string ⟨#[]⟩]) (by simp [results, Tryz.results112, go_sem, p0, p1, p2]) rfl ?_
      exact ⟨rfl, by (show ActFin _ _ _ _ k _); with_reducible exact HFin.out _ _ _⟩
    ·rw [if_neg hz3]
     obtain ⟨_, hzz⟩ | ⟨j, y, hzj, hyj, _, _⟩ := HJ.out
     ·omega
     rw [List.getElem?_drop] at hyj
     have hj6 : i + 1 + j < 6 := by rw [← HP.out.len]; exact (List.getElem?_eq_some_iff.1 hyj).1
     have HYj := Lib.hid hyj
     subst hzj
     rw [Int.toNat_natCast]
     clear HJ hyj hz3
     go_enter Tryz.func112, Tryz.ntmps112
     go_wp2_with fail
     go_region_law (first
      | (refine step_call1 (by rfl) 138 (.tmp 8) #[82] (by rfl) (.pointer (some ⟨g, 0, none⟩)) (by rfl) Heg1.out (HFp.out _ hwb) ?_
         rintro e w1 ⟨rfl, hb1⟩
         refine ⟨_, rfl, ?_⟩
         have HW1 := Lib.hid (hwb.trans (hb1.mono hwb.size))
         have HX1 := Lib.hid (HXb.out.below hb1)
         clear hb1 hwb HXb)
      | (refine step_call1 (by rfl) 137 (.tmp 13) #[67] (by rfl) (.slice (some ⟨gE, 0, none⟩) 6 _) (by rfl) Heg2.out (HFr.out _ hwa) ?_
         rintro e w1 ⟨rfl, hb1⟩
         refine ⟨_, rfl, ?_⟩
         have HW1 := Lib.hid (hwa.trans (hb1.mono hwa.size))
         have HX1 := Lib.hid (HXa.out.below hb1)
         clear hb1 hwa HXa)
      | (refine step_call1 (by rfl) 138 (.tmp 8) #[82] (by rfl) (.pointer (some ⟨g, 0, none⟩)) (by rfl) Heg1.out (HFp.out _ hd0) ?_
         rintro e wa ⟨rfl, hb1⟩
         refine ⟨_, rfl, ?_⟩
         have hwa := hd0.trans (hb1.mono hd0.size)
         have HXa := Lib.hid ((HX0.out.draw 1).below hb1)
         have q3 := (H.out.below hwa).p1 HP.out
         have ql3 := ((H.out.below hwa).Bp HP.out).lt
         clear hb1)
      | (refine step_call1 (by rfl) 137 (.tmp 13) #[67] (by rfl) (.slice (some ⟨gE, 0, none⟩) 6 _) (by rfl) Heg2.out (HFr.out _ hd0) ?_
         rintro e wb ⟨rfl, hb1⟩
         refine ⟨_, rfl, ?_⟩
         have hwb := hd0.trans (hb1.mono hd0.size)
         have HXb := Lib.hid ((HX0.out.draw 1).below hb1)
         clear hb1)
      | fail)
     all_goals
      have hK1 := H.out.below HW1.out
      have qa1 := hK1.p1 HP.out
      have qb1 := (hK1.Bp HP.out).lt
      clear hK1
      go_wp2_with fail
      refine (HFd1.out _ HW1.out).mono ?_
      rintro e w2 ⟨rfl, hb2⟩
      have HW2 := Lib.hid (HW1.out.trans (hb2.mono (HW1.out).size))
      have HX2 := Lib.hid (HX1.out.below hb2)
      clear hb2 HW1 HX1 qa1 qb1 HFd1
      have HK2 := Lib.hid (H.out.below HW2.out)
      have qa2 := HK2.out.p1 HP.out
      have qb2 := (HK2.out.Bp HP.out).lt
      have hBe := HK2.out.Be HP.out
      have r0 : w2.cell? ⟨gE, i * 3, none⟩ = _ := hBe.cell HXi.out (j := 0) rfl
      have r1 : w2.cell? ⟨gE, i * 3 + 1, none⟩ = _ := hBe.cell HXi.out (j := 1) rfl
      have r2 : w2.cell? ⟨gE, i * 3 + 2, none⟩ = _ := hBe.cell HXi.out (j := 2) rfl
      have rf := hBe.open_
      have rl := hBe.lt
      have HK3 := Lib.hid (HK2.out.putEnd HP.out.pv HP.out.proc rfl ⟨2, z1, 0⟩ HXi.out)
      have HX3 := Lib.hid (HX2.out.offX3 hBe.box (by decide) (i * 3) (i * 3 + 1) (i * 3 + 2) (.int .i64 2) (.int .i64 z1) (.int .i64 0))
      have HP3 := Lib.hid (HP.out.set i ⟨2, z1, 0⟩)
      clear hBe HK2 HX2 HW2
      go_upto_region 8 with fail
      generalize hw3 : (((w2.setCell ⟨gE, i * 3, none⟩ (.int .i64 2)).setCell ⟨gE, i * 3 + 1, none⟩ (.int .i64 z1)).setCell ⟨gE, i * 3 + 2, none⟩ (.int .i64 0)) = w3 at *
      clear hw3 r0 r1 r2 rf rl qa2 qb2
      have HYj3 := Lib.hid (show (es.set i ⟨2, z1, 0⟩)[i + 1 + j]? = some y by rw [List.getElem?_set, if_neg (by omega)]; exact HYj.out)
      have qa3 := HK3.out.p1 HP3.out
      have qb3 := (HK3.out.Bp HP3.out).lt
      have hBe := HK3.out.Be HP3.out
      have r0 : w3.cell? ⟨gE, (i + 1 + j) * 3, none⟩ = _ := hBe.cell HYj3.out (j := 0) rfl
      have r1 : w3.cell? ⟨gE, (i + 1 + j) * 3 + 1, none⟩ = _ := hBe.cell HYj3.out (j := 1) rfl
      have r2 : w3.cell? ⟨gE, (i + 1 + j) * 3 + 2, none⟩ = _ := hBe.cell HYj3.out (j := 2) rfl
      have rf := hBe.open_
      have rl := hBe.lt
      have HK4 := Lib.hid (HK3.out.putEnd HP3.out.pv HP3.out.proc rfl ⟨3, z1, 0⟩ HYj3.out)
      have HX4 := Lib.hid (HX3.out.offX3 hBe.box (by decide) ((i + 1 + j) * 3) ((i + 1 + j) * 3 + 1) ((i + 1 + j) * 3 + 2) (.int .i64 3) (.int .i64 z1) (.int .i64 0))
      simp only [List.set_set] at HK4
      have HX3' := HX3.out _ _ HXB.out
      have s0 := HX3'.cell 0
      have s1 := HX3'.cell 1
      have s2 := HX3'.cell 2
      simp only [List.getElem?_cons_zero, List.getElem?_cons_succ] at s0 s1 s2
      have sf := HX3'.open_
      have sl := HX3'.lt
      have hne : gE ≠ w.heap.size := Ne.symm (hBe.box.elim fun ds hd => HX3'.other hd (by decide))
      clear hBe HX3' HK3 HX3
      have hX9 := HX4.out _ _ HXB.out
      have HFin := Lib.hid (fin_ans HK4.out HX4.out HXw.out HXB.out hlow hroom)
      have p0 := hX9.cell 0
      have p1 := hX9.cell 1
      have p2 := hX9.cell 2
      simp only [List.getElem?_cons_zero, List.getElem?_cons_succ] at p0 p1 p2
      have f0 := hX9.open_
      have hl9 := hX9.lt
      clear hX9 HK4 HX4 HXw HXB
      go_wp2
      refine bodyPost_ret (v := .agg #[.int .i64 0, .int .i64 i, .string ⟨#[]⟩]) (by simp [results, Tryz.results112, go_sem, p0, p1, p2]) rfl ?_
      exact ⟨rfl, by (show ActFin _ _ _ _ ⟨_, _, _, _, _⟩ _); with_reducible exact HFin.out _ _ _⟩
end Go.Proofs.YtnnhhbjbdmgpiaaGreatDoor
