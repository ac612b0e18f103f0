/- Walks of chapter 4: the reference's ModuleBytes. -/
import Derived.Test.YtdhnoaohicopdabDoorEncK
import Derived.Test.YtdhnoaohicopdabDoorModR
import Derived.Test.YtdhnoaohicopdabDoorSumR
import Derived.Test.YtdhnoaohicopdabDoorInsK
import Derived.IntWalk
import Derived.Deep.RegionWith
namespace Go.Proofs.YtdhnoaohicopdabDoor
open Go.RowKit

theorem wrap64 (z : Int) (h0 : 0 ≤ z) (h1 : z ≤ 65535) : IntKind.i64.wrap z = z := IntWalk.i64_in _ (by omega)
theorem wrap8 (z : Int) (h0 : 0 ≤ z) (h1 : z ≤ 255) : IntKind.u8.wrap z = z := IntWalk.u8_in _ ⟨h0, h1⟩
theorem word_wraps (c : Nat) (hc : c ≤ 65535) : [Value.int .u8 (IntKind.u8.wrap (IntKind.i64.wrap ((c : Int) / 256))), Value.int .u8 (IntKind.u8.wrap ((c : Int).tmod 256))] = (Cf.encW c).flatMap encB := by
  have h : (c : Int).tmod 256 = (c : Int) % 256 := Int.tmod_eq_emod_of_nonneg (by omega)
  rw [← word_cells c hc, wrap64 _ (by omega) (by omega), wrap8 _ (by omega) (by omega), h, wrap8 _ (by omega) (by omega)]
set_option maxRecDepth 100000 in
set_option maxHeartbeats 4000000 in
theorem moduleBytes_good (n : List UInt8) (l : List Cf.Ins) (d : List Int) (A B : Option Addr) (ca cb : Nat) (w : World) (hC : Codes w A l) (hD : Ints w B d) (hn : n.length ≤ maxLen) (hl : l.length ≤ maxLen) (hd : d.length ≤ maxLen) (hm : Cf.modT ⟨n, l, d⟩ = 0) :
    Calls Tryd.prog 16 #[.agg #[.string ⟨n.toArray⟩, .slice A l.length ca, .slice B d.length cb]] w fun e w' => e = .returned (.tuple #[.string ⟨(Cf.encL ⟨n, l, d⟩).toArray⟩, .int .i64 0]) ∧ Below w.heap.size w w' := by
  obtain ⟨hn6, hl200, hd64, hli, hdw⟩ := Cf.good_parts hm
  have Hli := Lib.hid hli
  have Hdw := Lib.hid hdw
  have hb0 : Below w.heap.size w (w.alloc (.cells #[.string ⟨n.toArray⟩, .slice A l.length ca, .slice B d.length cb] 37)) := (Below.refl _ _).alloc (Nat.le_refl _) _
  have hbox : Wb (w.alloc (.cells #[.string ⟨n.toArray⟩, .slice A l.length ca, .slice B d.length cb] 37)) w.heap.size 37 [.string ⟨n.toArray⟩, .slice A l.length ca, .slice B d.length cb] := Wb.new w 37 [.string ⟨n.toArray⟩, .slice A l.length ca, .slice B d.length cb]
  have HV := Lib.hid (moduleFault_any n l d A B ca cb _ (hC.below hb0) (hD.below hb0) hn hl hd)
  rw [hm] at HV
  have HC := Lib.hid hC
  have HD := Lib.hid hD
  have Hbox := Lib.hid hbox
  obtain ⟨i0, hi, hz0, hz1, hz2⟩ := info_parts infoByte
  have Hi := Lib.hid hi
  have Hz0 := Lib.hid hz0
  have Hz1 := Lib.hid hz1
  have Hz2 := Lib.hid hz2
  have HO1 := Lib.hid (one_cells n.length (by omega))
  have HO2 := Lib.hid (one_cells l.length (by omega))
  have HO3 := Lib.hid (one_cells d.length (by omega))
  have HSz := Lib.hid (show (⟨n.toArray⟩ : ByteArray).size = n.length by simp [ByteArray.size])
  clear hC hD hbox hn hl hd hi hz0 hz1 hz2 hli hdw hm
  go_enter Tryd.func16, Tryd.ntmps16
  go_wp2_with fail
  refine HV.out.mono ?_
  rintro e w1 ⟨rfl, hb1⟩
  have hbw1 := hb0.trans (hb1.mono (by simp))
  have hbox1 := Hbox.out.below hb1 (by simp)
  clear HV Hbox hb0 hb1
  have p0 := hbox1.cell 0
  have p1 := hbox1.cell 1
  have p2 := hbox1.cell 2
  simp only [List.getElem?_cons_zero, List.getElem?_cons_succ] at p0 p1 p2
  have hr1 := brow_new w1 w.heap.size #[.int .u8 (n.length : Int)] [UInt8.ofNat n.length] HO1.out hbw1.size (by simp) 1 rfl
  have HE1 := Lib.hid (show EncRel w [.string ⟨n.toArray⟩, .slice A l.length ca, .slice B d.length cb] _ _ (w1.alloc _) from ⟨hr1, hbw1.alloc hbw1.size _, hbox1.alloc _⟩)
  have hz1 := hbox1.lt
  clear hr1
  go_wp2_with (at_builtin; refine Lib.wpList_append_own_string _ rfl _ _ 49 9 rfl w.heap.size 5 i0 Tryd.underlying49 Tryd.underlying9 Hi.out Hz0.out Hz1.out Hz2.out _ 1 _ rfl HE1.out.1 ⟨n.toArray⟩ rfl (by rw [HSz.out]; unfold maxLen; omega) (by rw [HSz.out]; omega) HE1.out.2.1.size ?_)
  intro v2 w2 hown hgr _
  have HE2 := Lib.hid (HE1.out.app (brow_of (l := [UInt8.ofNat n.length] ++ n) hown (by simp; omega) (by simp [str_cells])) hgr)
  obtain ⟨A2, c2, rfl⟩ := own_form hown
  clear hown hgr HE1 p0 p1 p2 hz1 hbox1 hbw1 HO1
  have q1 := HE2.out.2.2.cell 1
  have q2 := HE2.out.2.2.cell 2
  simp only [List.getElem?_cons_zero, List.getElem?_cons_succ] at q1 q2
  have hz2 := HE2.out.2.2.lt
  go_wp2_with (at_builtin; refine wpList_append_src rfl _ _ 49 rfl w.heap.size 5 i0 (.int .u8 0) 1 1 Tryd.underlying49 Hi.out Hz0.out Hz1.out Hz2.out rfl (by decide) encB_len one_b _ _ _ rfl (HE2.out.alloc _).1 (some ⟨w2.heap.size, 0, none⟩) 1 [UInt8.ofNat l.length] rfl (byts_new w2 _ _ _ HO2.out) (by unfold maxLen; simp; omega) (by simp; omega) (HE2.out.alloc _).2.1.size ?_)
  intro v3 w3 hown hgr _
  have HE3 := Lib.hid ((HE2.out.alloc _).app (brow_of (l := Cf.bodyC n l 0) hown (by simp [Cf.bodyC, Cf.headC]) (by simp [Cf.bodyC, Cf.headC])) hgr)
  clear hown hgr HE2 q1 q2 hz2 HO2
  have q1 := HE3.out.2.2.cell 1
  have q2 := HE3.out.2.2.cell 2
  simp only [List.getElem?_cons_zero, List.getElem?_cons_succ] at q1 q2
  have hz3 := HE3.out.2.2.lt
  go_wp2
  go_loopw [5, 6] (fun b i wr => ∃ k : Nat, k ≤ l.length ∧ i = .int .i64 k ∧ EncRel w [.string ⟨n.toArray⟩, .slice A l.length ca, .slice B d.length cb] b (Cf.bodyC n l k) wr) (fun _ i _ => l.length - (intOf i).toNat)
  case atStart => exact ⟨0, by omega, rfl, HE3.out⟩
  case round =>
    obtain ⟨k, hk, rfl, hE⟩ := hrel
    have HE := Lib.hid hE
    have hbl := Cf.bodyC_len n l k
    clear hE HE3 q1 q2 hz3
    by_cases hlt : k < l.length
    · obtain ⟨⟨op, a, b', c'⟩, hx⟩ : ∃ x, l[k]? = some x := ⟨_, List.getElem?_eq_getElem hlt⟩
      obtain ⟨⟨ho1, ho2⟩, ⟨ha1, ha2⟩, ⟨hb1, hb2⟩, ⟨hc1, hc2⟩, _, _⟩ := Cf.chk_parts _ (Hli.out k _ hx)
      dsimp only at ho1 ho2 ha1 ha2 hb1 hb2 hc1 hc2
      obtain ⟨c, rfl⟩ := Int.eq_ofNat_of_zero_le hc1
      obtain ⟨b, off, rfl, hbA, hcA⟩ := (HC.out.below HE.out.2.1).at_ (by intro e; rw [e] at hlt; simp at hlt)
      obtain ⟨x0, x1, x2, x3⟩ := hcA k op a b' c hx
      have HT := Lib.hid (four_cells op a b' c (by omega) (by omega) ha1 ha2 hb1 hb2 (by omega))
      have HN := Lib.hid (Cf.bodyC_next4 n l k _ hx)
      clear hcA hx hbA
      obtain ⟨A4, c4, rfl⟩ := HE.out.1.form
      have q1 := HE.out.2.2.cell 1
      simp only [List.getElem?_cons_zero, List.getElem?_cons_succ] at q1
      go_wp2_with (at_builtin; refine wpList_append_src rfl _ _ 49 rfl w.heap.size 5 i0 (.int .u8 0) 1 1 Tryd.underlying49 Hi.out Hz0.out Hz1.out Hz2.out rfl (by decide) encB_len one_b _ _ _ rfl ((HE.out.alloc _).alloc _).1 (some ⟨wr.heap.size + 1, 0, none⟩) 4 (Cf.encIns ⟨op, a, b', c⟩) rfl (byts_new_at (wr.alloc _) _ (by simp) _ _ _ HT.out) (by unfold maxLen; simp [Cf.encIns]; omega) (by simp [Cf.encIns]; omega) ((HE.out.alloc _).alloc _).2.1.size ?_)
      intro v5 w5 hown hgr _
      have HE5 := Lib.hid (((HE.out.alloc _).alloc _).app (brow_of (l := Cf.bodyC n l (k + 1)) hown (by rw [HN.out]; simp) (by rw [HN.out]; simp)) hgr)
      clear hown hgr HE x0 x1 x2 x3 HT HN q1
      go_wp2
      go_roundw
      case rel => exact ⟨k + 1, by omega, by go_num, HE5.out⟩
      case measure => simp [intOf]; omega
    · obtain rfl : k = l.length := by omega
      have q1 := HE.out.2.2.cell 1
      have q2 := HE.out.2.2.cell 2
      simp only [List.getElem?_cons_zero, List.getElem?_cons_succ] at q1 q2
      have hz4 := HE.out.2.2.lt
      obtain ⟨A4, c4, rfl⟩ := HE.out.1.form
      clear hlt hk
      go_wp2_with (at_builtin; refine wpList_append_src rfl _ _ 49 rfl w.heap.size 5 i0 (.int .u8 0) 1 1 Tryd.underlying49 Hi.out Hz0.out Hz1.out Hz2.out rfl (by decide) encB_len one_b _ _ _ rfl (HE.out.alloc _).1 (some ⟨wr.heap.size, 0, none⟩) 1 [UInt8.ofNat d.length] rfl (byts_new wr _ _ _ HO3.out) (by unfold maxLen; simp; omega) (by simp; omega) (HE.out.alloc _).2.1.size ?_)
      intro v7 w7 hown hgr _
      have HE7 := Lib.hid ((HE.out.alloc _).app (brow_of (l := Cf.bodyD n l d 0) hown (by simp [Cf.bodyD, Cf.bodyC]; omega) (by simp [Cf.bodyD, Cf.bodyC])) hgr)
      clear hown hgr HE q1 q2 hz4 HO3 hbl
      have q2 := HE7.out.2.2.cell 2
      simp only [List.getElem?_cons_zero, List.getElem?_cons_succ] at q2
      go_wp2
      go_loopw [5, 8] (fun b i wr => ∃ k : Nat, k ≤ d.length ∧ i = .int .i64 k ∧ EncRel w [.string ⟨n.toArray⟩, .slice A l.length ca, .slice B d.length cb] b (Cf.bodyD n l d k) wr) (fun _ i _ => d.length - (intOf i).toNat)
      case atStart => exact ⟨0, by omega, rfl, HE7.out⟩
      case round =>
        obtain ⟨k, hk, rfl, hE⟩ := hrel
        have HE := Lib.hid hE
        have hbl := Cf.bodyD_len n l d k
        clear hE HE7 q2
        by_cases hlt : k < d.length
        · obtain ⟨v, hx⟩ : ∃ v, d[k]? = some v := ⟨_, List.getElem?_eq_getElem hlt⟩
          obtain ⟨hv1, hv2⟩ := Hdw.out k v hx
          obtain ⟨c, rfl⟩ := Int.eq_ofNat_of_zero_le hv1
          obtain ⟨b, off, rfl, hbw, hcA⟩ := HD.out.at_ (by intro e; rw [e] at hlt; simp at hlt)
          have x0 := (HE.out.2.1.cell (p := ⟨b, off + k, none⟩) hbw).trans (hcA k _ hx)
          have HN := Lib.hid (Cf.bodyD_next n l d k _ hx)
          clear hcA hx
          obtain ⟨A4, c4, rfl⟩ := HE.out.1.form
          have q2 := HE.out.2.2.cell 2
          simp only [List.getElem?_cons_zero, List.getElem?_cons_succ] at q2
          go_wp2_with fail
          have HWc := Lib.hid (word_wraps c (by omega))
          have hoffB := Lib.hid (show (Value.slice A4 (Cf.bodyD n l d k).length c4).ownBlock ≠ some w.heap.size from own_off HE.out.1 HE.out.2.2 modNeByte)
          have hoffb := Lib.hid (show (Value.slice A4 (Cf.bodyD n l d k).length c4).ownBlock ≠ some b from fun e => by have := own_blocks HE.out.1 _ e; omega)
          have hzr := HE.out.2.2.lt
          go_region_held3 (fun W => W.cell? ⟨w.heap.size, 2, none⟩ = some (.slice (some ⟨b, off, none⟩) d.length cb) ∧ W.cell? ⟨b, off + k, none⟩ = some (.int .i64 (c : Int)))
            (first
              | go_keep
              | (go_split_ands
                 refine ⟨?_, ?_⟩
                 · (rw [hgr.cell_far _ (by simp; omega) (Ne.symm hoffB.out)]; assumption)
                 · (rw [hgr.cell_far _ (by simp; omega) (Ne.symm hoffb.out)]; assumption)))
            ((refine step_append_src (by rfl) _ _ 49 (by rfl) w.heap.size 5 i0 (.int .u8 0) 1 1 Tryd.underlying49 Hi.out Hz0.out Hz1.out Hz2.out rfl (by decide) encB_len one_b (.slice A4 (Cf.bodyD n l d k).length c4) _ _ (by rfl) (World.ownsRow.drew (HE.out.alloc _).1) (some ⟨wr.heap.size, 0, none⟩) 2 (Cf.encW c) (by rfl) (byts_new wr _ _ _ HWc.out) (by unfold maxLen; simp [Cf.encW]; omega) (by simp [Cf.encW]; omega) (HE.out.alloc _).2.1.size ?_; intro v6 w6 hown hgr hat))
          have HE6 := Lib.hid ((HE.out.alloc _).drew.app (brow_of (l := Cf.bodyD n l d (k + 1)) hown (by rw [HN.out]; simp) (by rw [HN.out]; simp)) hgr)
          clear hown hgr hat HE HN HWc hoffB hoffb hzr
          go_wp2
          go_roundw
          case rel => exact ⟨k + 1, by omega, by go_num, HE6.out⟩
          case measure => simp [intOf]; omega
        · have hB := Cf.bodyD_all n l d k (by omega)
          have q2 := HE.out.2.2.cell 2
          simp only [List.getElem?_cons_zero, List.getElem?_cons_succ] at q2
          rw [hB] at HE hbl
          clear hB
          obtain ⟨A4, c4, rfl⟩ := HE.out.1.form
          have HB := Lib.hid (fun (W : World) (h : Below wr.heap.size wr W) => bytes_back (RdS.below HE.out.1.byts h) (by simp [Cf.bodyL]) c4)
          have hcv4 := HB.out wr (Below.refl _ _)
          have HCat := Lib.hid (str_append (Cf.sealL (Cf.bodyL ⟨n, l, d⟩)) (Cf.bodyL ⟨n, l, d⟩))
          have HE' := Lib.hid (show Cf.encL ⟨n, l, d⟩ = Cf.sealL (Cf.bodyL ⟨n, l, d⟩) ++ Cf.bodyL ⟨n, l, d⟩ from rfl)
          have HS := Lib.hid (fun W => sealOf_any (Cf.bodyL ⟨n, l, d⟩) (by unfold maxLen; omega) W)
          have hb4 := HE.out.2.1
          have hsl : (Cf.sealL (Cf.bodyL ⟨n, l, d⟩)).length ≤ 4 := by simp [Cf.sealL]
          clear HE
          generalize Cf.sealL (Cf.bodyL ⟨n, l, d⟩) = sl at *
          generalize Cf.bodyL ⟨n, l, d⟩ = bl at *
          have hadd : ∀ W : World, (Op.stringOp .add ⟨sl.toArray⟩ ⟨bl.toArray⟩).run Tryd.prog W = .ok (.string ⟨(sl ++ bl).toArray⟩) W := fun W => by
            rw [run_string_add_sum _ _ _ (by simp [ByteArray.size]; omega), HCat.out]
          have hns : ¬ (9223372036854775807 < sl.length + bl.length) := by omega
          go_wp2_with fail
          go_region_held3 (fun W => (convert 49 9 (.slice A4 bl.length c4)).run Tryd.prog W = .ok (.string ⟨bl.toArray⟩) W)
            (first | exact HB.out _ (Below.refl _ _) | exact HB.out _ (Below.refl _ _).drew | exact HB.out _ ((Below.refl _ _).drew.trans hb8) | go_keep)
            (first | (go_at_call 42; refine (HS.out _).mono ?_; rintro e w8 ⟨rfl, hb8⟩))
          have hb8' : Below w.heap.size w w8 := hb4.drew.trans (hb8.mono hb4.size)
          clear hb8 HB HS hcv4
          go_wp2
          go_ret2
          exact ⟨by rw [HE'.out]; rfl, hb8'⟩
set_option maxHeartbeats 1000000 in
theorem moduleBytes_any (n : List UInt8) (l : List Cf.Ins) (d : List Int) (A B : Option Addr) (ca cb : Nat) (w : World) (hC : Codes w A l) (hD : Ints w B d) (hn : n.length ≤ maxLen) (hl : l.length ≤ maxLen) (hd : d.length ≤ maxLen) :
    Calls Tryd.prog 16 #[.agg #[.string ⟨n.toArray⟩, .slice A l.length ca, .slice B d.length cb]] w fun e w' => e = .returned (.tuple #[.string ⟨(Cf.encT ⟨n, l, d⟩).toArray⟩, .int .i64 (Cf.modT ⟨n, l, d⟩)]) ∧ Below w.heap.size w w' := by
  by_cases hm : Cf.modT ⟨n, l, d⟩ = 0
  · rw [Cf.encT, if_pos hm, hm]
    exact moduleBytes_good n l d A B ca cb w hC hD hn hl hd hm
  · rw [Cf.encT, if_neg hm]
    have hb0 : Below w.heap.size w (w.alloc (.cells #[.string ⟨n.toArray⟩, .slice A l.length ca, .slice B d.length cb] 37)) := (Below.refl _ _).alloc (Nat.le_refl _) _
    have HV := Lib.hid (moduleFault_any n l d A B ca cb _ (hC.below hb0) (hD.below hb0) hn hl hd)
    have hm' : (Cf.modT ⟨n, l, d⟩ != 0) = true := by simp [hm]
    clear hC hD hn hl hd hm
    generalize Cf.modT ⟨n, l, d⟩ = er at *
    go_enter Tryd.func16, Tryd.ntmps16
    go_wp2_with fail
    refine HV.out.mono ?_
    rintro e w1 ⟨rfl, hb1⟩
    have hbw1 := hb0.trans (hb1.mono (by simp))
    clear HV hb0 hb1
    go_wp2
    go_ret2
    exact ⟨rfl, hbw1⟩
end Go.Proofs.YtdhnoaohicopdabDoor
