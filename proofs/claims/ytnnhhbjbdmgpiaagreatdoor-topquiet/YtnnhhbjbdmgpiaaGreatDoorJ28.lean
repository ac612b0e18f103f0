/- Texts of the proofs: EncW. -/
import Derived.Test.YtnnhhbjbdmgpiaaGreatDoorJ12
import Derived.Test.YtnnhhbjbdmgpiaaGreatDoorJ26
set_option linter.unusedSimpArgs false
set_option linter.unusedVariables false
/- Walks of chapter 4: the program's Encode. -/
namespace Go.Proofs.YtnnhhbjbdmgpiaaGreatDoor
set_option maxRecDepth 100000
open Go.RowKit
set_option maxRecDepth 100000 in
set_option maxHeartbeats 4000000 in
theorem encode_good (n : List UInt8) (l : List Cf.Ins) (d : List Int) (A B : Option Addr) (ca cb : Nat) (w : World) (hC : Codes w A l) (hD : Ints w B d) (hL : TabL w) (hF : TabF w) (hn : n.length ≤ maxLen) (hl : l.length ≤ maxLen) (hd : d.length ≤ maxLen) (hm : Cf.modT ⟨n, l, d⟩ = 0) :
  Calls Tryz.prog 63 #[.agg #[.string ⟨n.toArray⟩, .slice A l.length ca, .slice B d.length cb]] w fun e w' => e = .returned (.tuple #[.string ⟨(Cf.encL ⟨n, l, d⟩).toArray⟩, .int .i64 0]) ∧ Below w.heap.size w w' := by
 obtain ⟨hn6, hl200, hd64, hli, hdw⟩ := Cf.good_parts hm
 have Hli := Lib.hid hli
 have Hdw := Lib.hid hdw
 have hb0 : Below w.heap.size w (w.alloc (.cells #[.string ⟨n.toArray⟩, .slice A l.length ca, .slice B d.length cb] 79)) := (Below.refl _ _).alloc (Nat.le_refl _) _
 have hbox : Wb (w.alloc (.cells #[.string ⟨n.toArray⟩, .slice A l.length ca, .slice B d.length cb] 79)) w.heap.size 79 [.string ⟨n.toArray⟩, .slice A l.length ca, .slice B d.length cb] := Wb.new w 79 [.string ⟨n.toArray⟩, .slice A l.length ca, .slice B d.length cb]
 have HV := Lib.hid (modCheck_any n l d A B ca cb _ (hC.below hb0) (hD.below hb0) (hL.below hb0) (hF.below hb0) hn hl hd)
 rw [hm] at HV
 have HC := Lib.hid hC
 have HD := Lib.hid hD
 have Hbox := Lib.hid hbox
 obtain ⟨i0, hi, hz0, hz1, hz2⟩ := info_parts infoByte
 have Hi := Lib.hid hi
 have Hz0 := Lib.hid hz0
 have Hz1 := Lib.hid hz1
 have Hz2 := Lib.hid hz2
 have HO1 := Lib.hid (one_cells n.length (by omega))
 have HO2 := Lib.hid (one_cells l.length (by omega))
 have HO3 := Lib.hid (one_cells d.length (by omega))
 have HSz := Lib.hid (show (⟨n.toArray⟩ : ByteArray).size = n.length by simp [ByteArray.size])
 clear hL hF hC hD hbox hn hl hd hi hz0 hz1 hz2 hli hdw hm
 go_enter Tryz.func63, Tryz.ntmps63
 go_wp2_with fail
 refine HV.out.mono ?_
 rintro e w1 ⟨rfl, hb1⟩
 have hbw1 := hb0.trans (hb1.mono (by simp))
 have hbox1 := Hbox.out.below hb1 (by simp)
 clear HV Hbox hb0 hb1
 have p0 := hbox1.cell 0
 have p1 := hbox1.cell 1
 have p2 := hbox1.cell 2
 simp only [List.getElem?_cons_zero, List.getElem?_cons_succ] at p0 p1 p2
 have hr1 := brow_new w1 w.heap.size #[.int .u8 (n.length : Int)] [UInt8.ofNat n.length] HO1.out hbw1.size (by simp) 1 rfl
 have HE1 := Lib.hid (show EncRel w [.string ⟨n.toArray⟩, .slice A l.length ca, .slice B d.length cb] _ _ (w1.alloc _) from ⟨hr1, hbw1.alloc hbw1.size _, hbox1.alloc _⟩)
 have hz1 := hbox1.lt
 clear hr1
 go_wp2_with (at_builtin; refine Lib.wpList_append_own_string _ rfl _ _ 92 9 rfl w.heap.size 5 i0 Tryz.underlying92 Tryz.underlying9 Hi.out Hz0.out Hz1.out Hz2.out _ 1 _ rfl HE1.out.1 ⟨n.toArray⟩ rfl (by rw [HSz.out]; unfold maxLen; omega) (by rw [HSz.out]; omega) HE1.out.2.1.size ?_)
 intro v2 w2 hown hgr _
 have HE2 := Lib.hid (HE1.out.app (brow_of (l := [UInt8.ofNat n.length] ++ n) hown (by simp; omega) (by simp [str_cells])) hgr)
 obtain ⟨A2, c2, rfl⟩ := own_form hown
 clear hown hgr HE1 p0 p1 p2 hz1 hbox1 hbw1 HO1
 have q1 := HE2.out.2.2.cell 1
 have q2 := HE2.out.2.2.cell 2
 simp only [List.getElem?_cons_zero, List.getElem?_cons_succ] at q1 q2
 have hz2 := HE2.out.2.2.lt
 go_wp2_with (at_builtin; refine wpList_append_src rfl _ _ 92 rfl w.heap.size 5 i0 (.int .u8 0) 1 1 Tryz.underlying92 Hi.out Hz0.out Hz1.out Hz2.out rfl (by decide) encB_len one_b _ _ _ rfl (HE2.out.alloc _).1 (some ⟨w2.heap.size, 0, none⟩) 1 [UInt8.ofNat l.length] rfl (byts_new w2 _ _ _ HO2.out) (by unfold maxLen; simp; omega) (by simp; omega) (HE2.out.alloc _).2.1.size ?_)
 intro v3 w3 hown hgr _
 have HE3 := Lib.hid ((HE2.out.alloc _).app (brow_of (l := Cf.bodyC n l 0) hown (by simp [Cf.bodyC, Cf.headC]) (by simp [Cf.bodyC, Cf.headC])) hgr)
 clear hown hgr HE2 q1 q2 hz2 HO2
 have q1 := HE3.out.2.2.cell 1
 have q2 := HE3.out.2.2.cell 2
 simp only [List.getElem?_cons_zero, List.getElem?_cons_succ] at q1 q2
 have hz3 := HE3.out.2.2.lt
 go_wp2
 go_loopw [5, 35] (fun b i wr => ∃ k : Nat, k ≤ l.length ∧ i = .int .i64 k ∧ EncRel w [.string ⟨n.toArray⟩, .slice A l.length ca, .slice B d.length cb] b (Cf.bodyC n l k) wr) (fun _ i _ => l.length - (intOf i).toNat)
 case atStart => exact ⟨0, by omega, rfl, HE3.out⟩
 case round =>
  obtain ⟨k, hk, rfl, hE⟩ := hrel
  have HE := Lib.hid hE
  have hbl := Cf.bodyC_len n l k
  clear hE HE3 q1 q2 hz3
  by_cases hlt : k < l.length
  ·obtain ⟨⟨op, a, b', c'⟩, hx⟩ : ∃ x, l[k]? = some x := ⟨_, List.getElem?_eq_getElem hlt⟩
   obtain ⟨⟨ho1, ho2⟩, ⟨ha1, ha2⟩, ⟨hb1, hb2⟩, ⟨hc1, hc2⟩, _, _⟩ := Cf.chk_parts _ (Hli.out k _ hx)
   dsimp only at ho1 ho2 ha1 ha2 hb1 hb2 hc1 hc2
   obtain ⟨c, rfl⟩ := Int.eq_ofNat_of_zero_le hc1
   obtain ⟨b, off, rfl, hbA, hcA⟩ := (HC.out.below HE.out.2.1).at_ (by intro e; rw [e] at hlt; simp at hlt)
   obtain ⟨x0, x1, x2, x3⟩ := hcA k op a b' c hx
   have HT := Lib.hid (two_cells op a b' (by omega) (by omega) ha1 ha2 hb1 hb2)
   have HN := Lib.hid (Cf.bodyC_next n l k _ hx)
   dsimp only at HN
   clear hcA hx hbA
   obtain ⟨A4, c4, rfl⟩ := HE.out.1.form
   go_wp2_with (at_builtin; refine wpList_append_src rfl _ _ 92 rfl w.heap.size 5 i0 (.int .u8 0) 1 1 Tryz.underlying92 Hi.out Hz0.out Hz1.out Hz2.out rfl (by decide) encB_len one_b _ _ _ rfl ((HE.out.alloc _).alloc _).1 (some ⟨wr.heap.size + 1, 0, none⟩) 2 [UInt8.ofNat op.toNat, UInt8.ofNat (16 * a.toNat + b'.toNat)] rfl (byts_new_at (wr.alloc _) _ (by simp) _ _ _ HT.out) (by unfold maxLen; simp; omega) (by simp; omega) ((HE.out.alloc _).alloc _).2.1.size ?_)
   intro v5 w5 hown hgr _
   have HE5 := Lib.hid (((HE.out.alloc _).alloc _).app (brow_of (l := Cf.bodyC n l k ++ [UInt8.ofNat op.toNat, UInt8.ofNat (16 * a.toNat + b'.toNat)]) hown (by simp) (by simp)) hgr)
   have hx5 := ((Wb.new wr 121 [.int .i64 op, .int .i64 a, .int .i64 b', .int .i64 c]).alloc _).grown hgr (fun e => by have := (World.ownsRow.lt HE.out.1 _ e).2; omega)
   have hc5 := hx5.cell 3
   simp only [List.getElem?_cons_zero, List.getElem?_cons_succ] at hc5
   clear hx5
   have HW := Lib.hid (appendWord_any v5 _ c (by omega) w5 w.heap.size HE5.out.1 HE5.out.2.1.size (by simp; omega))
   clear hown hgr HE x0 x1 x2 x3 HT
   go_wp2_with fail
   refine HW.out.mono ?_
   rintro e w6 ⟨v6, rfl, hr6, hg6⟩
   have HE6 := Lib.hid (HE5.out.app hr6 hg6)
   rw [← HN.out] at HE6
   clear HE5 HW hr6 hg6 hc5 HN
   go_wp2
   go_roundw
   case rel => exact ⟨k + 1, by omega, by go_num, HE6.out⟩
   case measure => simp [intOf]; omega
  ·obtain rfl : k = l.length := by omega
   have q2 := HE.out.2.2.cell 2
   simp only [List.getElem?_cons_zero, List.getElem?_cons_succ] at q2
   have hz4 := HE.out.2.2.lt
   obtain ⟨A4, c4, rfl⟩ := HE.out.1.form
   clear hlt hk
   go_wp2_with (at_builtin; refine wpList_append_src rfl _ _ 92 rfl w.heap.size 5 i0 (.int .u8 0) 1 1 Tryz.underlying92 Hi.out Hz0.out Hz1.out Hz2.out rfl (by decide) encB_len one_b _ _ _ rfl (HE.out.alloc _).1 (some ⟨wr.heap.size, 0, none⟩) 1 [UInt8.ofNat d.length] rfl (byts_new wr _ _ _ HO3.out) (by unfold maxLen; simp; omega) (by simp; omega) (HE.out.alloc _).2.1.size ?_)
   intro v7 w7 hown hgr _
   have HE7 := Lib.hid ((HE.out.alloc _).app (brow_of (l := Cf.bodyD n l d 0) hown (by simp [Cf.bodyD, Cf.bodyC]; omega) (by simp [Cf.bodyD, Cf.bodyC])) hgr)
   clear hown hgr HE q2 hz4 HO3 hbl
   have q2 := HE7.out.2.2.cell 2
   simp only [List.getElem?_cons_zero, List.getElem?_cons_succ] at q2
   go_wp2
   go_loopw [5, 67] (fun b i wr => ∃ k : Nat, k ≤ d.length ∧ i = .int .i64 k ∧ EncRel w [.string ⟨n.toArray⟩, .slice A l.length ca, .slice B d.length cb] b (Cf.bodyD n l d k) wr) (fun _ i _ => d.length - (intOf i).toNat)
   case atStart => exact ⟨0, by omega, rfl, HE7.out⟩
   case round =>
    obtain ⟨k, hk, rfl, hE⟩ := hrel
    have HE := Lib.hid hE
    have hbl := Cf.bodyD_len n l d k
    clear hE HE7 q2
    by_cases hlt : k < d.length
    ·obtain ⟨v, hx⟩ : ∃ v, d[k]? = some v := ⟨_, List.getElem?_eq_getElem hlt⟩
     obtain ⟨hv1, hv2⟩ := Hdw.out k v hx
     obtain ⟨c, rfl⟩ := Int.eq_ofNat_of_zero_le hv1
     obtain ⟨b, off, rfl, hbA, hcA⟩ := (HD.out.below HE.out.2.1).at_ (by intro e; rw [e] at hlt; simp at hlt)
     have x0 := hcA k _ hx
     have HN := Lib.hid (Cf.bodyD_next n l d k _ hx)
     have HW := Lib.hid (fun (bv : Value) (h : BRow wr w.heap.size bv (Cf.bodyD n l d k)) => appendWord_any bv _ c (by omega) wr w.heap.size h HE.out.2.1.size (by omega))
     clear hcA hx hbA
     go_wp2_with fail
     refine (HW.out _ HE.out.1).mono ?_
     rintro e w6 ⟨v6, rfl, hr6, hg6⟩
     have HE6 := Lib.hid (HE.out.app hr6 hg6)
     rw [← HN.out] at HE6
     clear HE HW hr6 hg6 HN x0
     go_wp2
     go_roundw
     case rel => exact ⟨k + 1, by omega, by go_num, HE6.out⟩
     case measure => simp [intOf]; omega
    ·have hB := Cf.bodyD_all n l d k (by omega)
     rw [hB] at HE hbl
     clear hB
     have hcv := fun (A : Option Addr) (cap : Nat) (h : BRow wr w.heap.size (.slice A (Cf.bodyL ⟨n, l, d⟩).length cap) (Cf.bodyL ⟨n, l, d⟩)) => bytes_back h.byts (by simp [Cf.bodyL]) cap
     obtain ⟨A4, c4, rfl⟩ := HE.out.1.form
     have hcv4 := hcv A4 c4 HE.out.1
     have HS := Lib.hid (checksum_any (Cf.bodyL ⟨n, l, d⟩) (by unfold maxLen; omega) wr)
     have HCat := Lib.hid (str_append (Cf.sealL (Cf.bodyL ⟨n, l, d⟩)) (Cf.bodyL ⟨n, l, d⟩))
     have hb4 := HE.out.2.1
     clear hcv HE
     have HE' := Lib.hid (show Cf.encL ⟨n, l, d⟩ = Cf.sealL (Cf.bodyL ⟨n, l, d⟩) ++ Cf.bodyL ⟨n, l, d⟩ from rfl)
     have hsl : (Cf.sealL (Cf.bodyL ⟨n, l, d⟩)).length = 4 := rfl
     have HSL := Lib.hid hsl
     clear hsl
     generalize Cf.sealL (Cf.bodyL ⟨n, l, d⟩) = sl at *
     generalize Cf.bodyL ⟨n, l, d⟩ = bl at *
     go_wp2_with fail
     refine HS.out.mono ?_
     rintro e w8 ⟨rfl, hb8⟩
     have hbw8 := hb4.trans (hb8.mono hb4.size)
     have hsl4 : sl.length ≤ 4 := by rw [HSL.out]; omega
     clear HS hb8 hb4 hcv4
     go_wp2
     go_ret2
     exact ⟨by rw [HE'.out]; first | rfl | (rw [← HCat.out]; rfl), hbw8⟩
set_option maxHeartbeats 1000000 in
theorem encode_any (n : List UInt8) (l : List Cf.Ins) (d : List Int) (A B : Option Addr) (ca cb : Nat) (w : World) (hC : Codes w A l) (hD : Ints w B d) (hL : TabL w) (hF : TabF w) (hn : n.length ≤ maxLen) (hl : l.length ≤ maxLen) (hd : d.length ≤ maxLen) :
  Calls Tryz.prog 63 #[.agg #[.string ⟨n.toArray⟩, .slice A l.length ca, .slice B d.length cb]] w fun e w' => e = .returned (.tuple #[.string ⟨(Cf.encT ⟨n, l, d⟩).toArray⟩, .int .i64 (Cf.modT ⟨n, l, d⟩)]) ∧ Below w.heap.size w w' := by
 by_cases hm : Cf.modT ⟨n, l, d⟩ = 0
 ·rw [Cf.encT, if_pos hm, hm]
  exact encode_good n l d A B ca cb w hC hD hL hF hn hl hd hm
 ·rw [Cf.encT, if_neg hm]
  have hb0 : Below w.heap.size w (w.alloc (.cells #[.string ⟨n.toArray⟩, .slice A l.length ca, .slice B d.length cb] 79)) := (Below.refl _ _).alloc (Nat.le_refl _) _
  have HV := Lib.hid (modCheck_any n l d A B ca cb _ (hC.below hb0) (hD.below hb0) (hL.below hb0) (hF.below hb0) hn hl hd)
  have hm' : (Cf.modT ⟨n, l, d⟩ != 0) = true := by simp [hm]
  clear hC hD hL hF hn hl hd hm
  generalize Cf.modT ⟨n, l, d⟩ = er at *
  go_enter Tryz.func63, Tryz.ntmps63
  go_wp2_with fail
  refine HV.out.mono ?_
  rintro e w1 ⟨rfl, hb1⟩
  have hbw1 := hb0.trans (hb1.mono (by simp))
  clear HV hb0 hb1
  go_wp2
  go_ret2
  exact ⟨rfl, hbw1⟩
end Go.Proofs.YtnnhhbjbdmgpiaaGreatDoor
