/- Texts of the proof of PipesFlow: FlowK. -/
import Derived.BigRegion
import Derived.BigQuiet
import Derived.Test.YtnnhhbjbdmgpiaaGreatDoorPFW01
import Derived.Test.YtnnhhbjbdmgpiaaGreatDoorJ33
import Derived.Test.YtnnhhbjbdmgpiaaGreatDoorPFW00
import Derived.Test.YtnnhhbjbdmgpiaaGreatDoorJ13
set_option linter.unusedSimpArgs false
set_option linter.unusedVariables false
/- Walks of the law PipesFlow. -/
namespace Go.Proofs.YtnnhhbjbdmgpiaaGreatDoor
set_option maxRecDepth 100000
open Go.RowKit
def PfRel (n : Nat) (w : World) (v iv : Value) (wr : World) : Prop := ∃ (k : Nat) (body : List Cf.Actn), k ≤ n ∧ iv = .int .i64 k ∧ body.length = k ∧ (∀ a ∈ body, Cf.FlowAct a) ∧ wr.ownsRow w.heap.size tAct 6 v (k + 1) ((Cf.aPipe :: body).flatMap encAc) ∧ Below w.heap.size w wr
theorem flow_fit {body : List Cf.Actn} (h : ∀ a ∈ body, Cf.FlowAct a) : ∀ x ∈ Cf.flowActs body, x.name.length ≤ maxLen ∧ x.data.length ≤ maxLen := by
 intro x hx
 unfold maxLen
 simp only [Cf.flowActs, List.mem_append, List.mem_cons, List.not_mem_nil, or_false] at hx
 rcases hx with (rfl | hx) | rfl | rfl | rfl
 ·simp [Cf.aPipe]
 ·cases h x hx with
  | write s hs hl => simp [Cf.aWrite1]; omega
  | read m h1 h2 => simp [Cf.aRead]
 ·simp [Cf.aClose1]
 ·simp [Cf.aRead]
 ·simp [Cf.aRead]
theorem flow_snoc {body : List Cf.Actn} {a : Cf.Actn} (h : ∀ a ∈ body, Cf.FlowAct a) (ha : Cf.FlowAct a) : ∀ b ∈ body ++ [a], Cf.FlowAct b := by
 intro b hb
 rcases List.mem_append.1 hb with h' | h'
 ·exact h b h'
 ·rw [List.mem_singleton.1 h']
  exact ha
set_option maxRecDepth 100000 in
set_option maxHeartbeats 4000000 in
theorem flow_walk (l : List Cf.Ins) (hf : ∀ x ∈ l, FitI x) (A0 : Option Addr) (c0 : Nat) (w : World) (hR : Codes w A0 l) (hm : l.length ≤ maxLen) (hL : TabL w) (hF : TabF w) :
  Calls Tryz.prog 6 #[.slice A0 l.length c0] w fun e w' => e = .returned (.bool true) ∧ Below w.heap.size w w' := by
 unfold maxLen at hm
 obtain ⟨i0, hi, hz0, hz1, hz2⟩ := info_parts infoAct
 have Hi := Lib.hid hi
 have H0 := Lib.hid hz0
 have H1 := Lib.hid hz1
 have H2 := Lib.hid hz2
 have Hf := Lib.hid hf
 have HR := Lib.hid hR
 have HT := Lib.hid (fun (W : World) (h : Below w.heap.size w W) => show TabL W ∧ TabF W from ⟨hL.below h, hF.below h⟩)
 obtain ⟨n, hn⟩ : ∃ n, n = min l.length 30 := ⟨_, rfl⟩
 have HN := Lib.hid hn
 have hn1 : n ≤ l.length := by omega
 have hn2 : n ≤ 30 := by omega
 clear hi hz0 hz1 hz2 hf hR hn hL hF
 go_enter Tryz.func6, Tryz.ntmps6
 go_wp2
 go_loopw [3, 4] (fun v iv wr => PfRel n w v iv wr) (fun _ iv _ => n - (intOf iv).toNat)
 case atStart => exact ⟨0, [], by omega, rfl, rfl, (fun a ha => by cases ha), own_lit w w.heap.size _ _ [Cf.aPipe] rfl (Nat.le_refl _) (by simp), (Below.refl _ _).alloc (Nat.le_refl _) _⟩
 case round =>
  obtain ⟨k, body, hk, rfl, hacc, hoks, hown, hbw⟩ := hrel
  have Hacc := Lib.hid hacc
  have Hoks := Lib.hid hoks
  have hwz := hbw.size
  obtain ⟨Av, cv, hAv⟩ := own_form hown
  subst hAv
  have Hown := Lib.hid hown
  clear hacc hoks hown
  by_cases hlt : k < n
  ·obtain ⟨kr, ra, rb, rc, hx⟩ : ∃ op a b' c', l[k]? = some ⟨op, a, b', c'⟩ := ⟨_, _, _, _, List.getElem?_eq_getElem (by omega)⟩
   obtain ⟨f0, f1, f2, f3⟩ := Hf.out _ (List.mem_of_getElem? hx)
   change Fit kr at f0
   change Fit ra at f1
   change Fit rb at f2
   change Fit rc at f3
   obtain ⟨b, off, rfl, hb, hc⟩ := HR.out.at_ (by intro e; rw [e] at hx; simp at hx)
   obtain ⟨p0, p1, p2, p3⟩ := hc k kr ra rb rc hx
   have q0 := (hbw.cell hb).trans p0
   have q1 := (hbw.cell hb).trans p1
   have q2 := (hbw.cell hb).trans p2
   have q3 := (hbw.cell hb).trans p3
   clear hc hx p0 p1 p2 p3
   have hk1 : k < l.length := by omega
   have hk2 : (k : Int) < 30 := by omega
   obtain ⟨y1, y2⟩ := Cf.pick_range kr 2 (by omega)
   go_wp2_with fail
   refine (picked_any kr 2 _ f0 (by omega) (by omega)).mono ?_
   rintro e w' ⟨rfl, rfl⟩
   generalize Cf.pick kr 2 = pz at y1 y2 ⊢
   obtain rfl | rfl : pz = 0 ∨ pz = 1 := by omega
   ·obtain ⟨da, hda⟩ : ∃ d : Nat, (d : Int) = 1 + Cf.pick ra 30 := ⟨(1 + Cf.pick ra 30).toNat, by have := Cf.pick_range ra 30 (by omega); omega⟩
    have hda1 : 1 ≤ da ∧ da ≤ 30 := by have := Cf.pick_range ra 30 (by omega); omega
    have HD := Lib.hid (data_any kr ra rb rc da wr f1 f2 hda)
    clear hda
    go_wp2_with fail
    refine HD.out.mono ?_
    rintro e w7 ⟨ld, hld, rfl, hb7⟩
    have Hown7 := Lib.hid (own_below Hown.out hb7)
    have Hbw7 := Lib.hid (hbw.trans (hb7.mono hbw.size))
    have hs7 := Hbw7.out.size
    have HFA := Lib.hid (show Cf.FlowAct (Cf.aWrite1 ld) from .write ld (by rintro rfl; simp at hld; omega) (by omega))
    clear HD hb7 hbw Hown q0 q1 q2 q3 hld hwz
    go_wp2_with (at_builtin; refine wpList_append_src rfl _ _ 39 rfl w.heap.size 30 i0 (.agg #[.int .i64 0, .int .i64 0, .int .i64 0, .int .i64 0, .string ⟨#[]⟩, .string ⟨#[]⟩]) 6 64 Tryz.underlying39 Hi.out H0.out H1.out H2.out rfl (by decide) encAc_len one_ac _ (k + 1) _ rfl (World.ownsRow.alloc Hown7.out _) (some ⟨w7.heap.size, 0, none⟩) 1 [Cf.aWrite1 ld] rfl (acts_lit w7 _ _ _ rfl) (by unfold maxLen; simp <;> omega) (by simp <;> omega) (by simp <;> omega) ?_)
    intro v' w9 hown9 hgr hat
    have HO9 := Lib.hid (show w9.ownsRow w.heap.size tAct 6 v' (k + 1 + 1) ((Cf.aPipe :: (body ++ [Cf.aWrite1 ld])).flatMap encAc) by
     rw [← List.cons_append, List.flatMap_append]
     exact hown9)
    have Hb9 := Lib.hid ((Hbw7.out.alloc Hbw7.out.size _).grown hgr (Nat.le_trans Hbw7.out.size (by simp)) (fun r hr => own_blocks Hown7.out r hr))
    clear hown9 hgr hat
    go_wp2
    go_roundw
    case rel => exact ⟨k + 1, body ++ [Cf.aWrite1 ld], by omega, by go_num, by rw [List.length_append, Hacc.out]; rfl, flow_snoc Hoks.out HFA.out, HO9.out, Hb9.out⟩
    case measure => simp [intOf]; omega
   ·obtain ⟨q, hq, hq2⟩ : ∃ q : Nat, Cf.pick ra 25 = q ∧ q ≤ 24 := by
     obtain ⟨h1, h2⟩ := Cf.pick_range ra 25 (by omega)
     exact ⟨(Cf.pick ra 25).toNat, by omega, by omega⟩
    have HP := Lib.hid (picked_any ra 25 wr f1 (by omega) (by omega))
    rw [hq] at HP
    clear hq
    go_wp2_with fail
    refine HP.out.mono ?_
    rintro e w' ⟨rfl, rfl⟩
    have HFA := Lib.hid (show Cf.FlowAct (Cf.aRead 0 0 (1 + q)) from .read (1 + q) (by omega) (by omega))
    clear HP q0 q1 q2 q3
    go_wp2_with (at_builtin; refine wpList_append_src rfl _ _ 39 rfl w.heap.size 30 i0 (.agg #[.int .i64 0, .int .i64 0, .int .i64 0, .int .i64 0, .string ⟨#[]⟩, .string ⟨#[]⟩]) 6 64 Tryz.underlying39 Hi.out H0.out H1.out H2.out rfl (by decide) encAc_len one_ac _ (k + 1) _ rfl (World.ownsRow.alloc Hown.out _) (some ⟨wr.heap.size, 0, none⟩) 1 [Cf.aRead 0 0 (1 + q)] rfl (acts_lit wr _ _ _ rfl) (by unfold maxLen; simp <;> omega) (by simp <;> omega) (by simp <;> omega) ?_)
    intro v' w9 hown9 hgr hat
    have HO9 := Lib.hid (show w9.ownsRow w.heap.size tAct 6 v' (k + 1 + 1) ((Cf.aPipe :: (body ++ [Cf.aRead 0 0 (1 + q)])).flatMap encAc) by
     rw [← List.cons_append, List.flatMap_append]
     exact hown9)
    have Hb9 := Lib.hid ((hbw.alloc hbw.size _).grown hgr (Nat.le_trans hbw.size (by simp)) (fun r hr => own_blocks Hown.out r hr))
    clear hown9 hgr hat
    go_wp2
    go_roundw
    case rel => exact ⟨k + 1, body ++ [Cf.aRead 0 0 (1 + q)], by omega, by go_num, by rw [List.length_append, Hacc.out]; rfl, flow_snoc Hoks.out HFA.out, HO9.out, Hb9.out⟩
    case measure => simp [intOf]; omega
  ·obtain rfl : k = n := by omega
   go_upto_region 3 with fail
   go_cut [24] from 17 to 25 (fun v wx => v = .bool false ∧ wr = wx)
   case first =>
    by_cases h : k < l.length
    ·have h' : ¬ ((k : Int) < 30) := by have := HN.out; omega
     go_wp2_with fail
     go_meet
     exact ⟨rfl, rfl⟩
    ·go_wp2_with fail
     go_meet
     exact ⟨rfl, rfl⟩
   case rest =>
    obtain ⟨rfl, rfl⟩ := hcut
    have hs7 := hbw.size
    clear HN hlt hn1 HR Hf
    go_wp2_with (at_builtin; refine wpList_append_src rfl _ _ 39 rfl w.heap.size 30 i0 (.agg #[.int .i64 0, .int .i64 0, .int .i64 0, .int .i64 0, .string ⟨#[]⟩, .string ⟨#[]⟩]) 6 64 Tryz.underlying39 Hi.out H0.out H1.out H2.out rfl (by decide) encAc_len one_ac _ (k + 1) _ rfl (World.ownsRow.alloc Hown.out _) (some ⟨wr.heap.size, 0, none⟩) 3 [Cf.aClose1, Cf.aRead 0 0 100, Cf.aRead 0 0 1] rfl (acts_lit wr _ _ _ rfl) (by unfold maxLen; simp <;> omega) (by simp <;> omega) (by simp <;> omega) ?_)
    intro v' w8 hown8 hgr hat
    have Hb8 := Lib.hid ((hbw.alloc hbw.size _).grown hgr (Nat.le_trans hbw.size (by simp)) (fun r hr => own_blocks Hown.out r hr))
    have hTl : (Cf.flowActs body).length = k + 4 := by
     show ((Cf.aPipe :: body) ++ [_, _, _]).length = _
     rw [List.length_append, List.length_cons, Hacc.out]
     rfl
    have hown : w8.ownsRow w.heap.size tAct 6 v' (Cf.flowActs body).length ((Cf.flowActs body).flatMap encAc) := by
     rw [hTl]
     show w8.ownsRow w.heap.size tAct 6 v' (k + 4) (((Cf.aPipe :: body) ++ [_, _, _]).flatMap encAc)
     rw [List.flatMap_append]
     exact hown8
    clear hown8 hgr hat Hown hbw hs7 hwz
    obtain ⟨A8, c8, hA8⟩ := own_form hown
    subst hA8
    have hcap := own_cap hown
    have hAc := own_rd encAc_len hown
    have hb9 : Below w8.heap.size w8 (w8.alloc (.cells #[.slice A8 (Cf.flowActs body).length c8] 39)) := (Below.refl _ _).alloc (Nat.le_refl _) _
    have Hb9 := Lib.hid (Hb8.out.trans (hb9.mono Hb8.out.size))
    have hran := ran_any [⟨A8, c8, Cf.flowActs body⟩] (some ⟨w8.heap.size, 0, none⟩) 1 _ (row_one w8 39 A8 c8 (Cf.flowActs body)) (fun x hx => by rw [List.mem_singleton.1 hx]; exact hAc.below hb9) (by simp) (by rw [cat_one]; omega) (by rw [cat_one]; exact flow_fit Hoks.out) (HT.out _ Hb9.out).1 (HT.out _ Hb9.out).2
    rw [cat_one] at hran
    have Hran := Lib.hid hran
    have HAc9 := Lib.hid (hAc.below hb9)
    clear hran hb9 hAc Hb8 HT hown
    simp only [hTl] at Hran Hb9 HAc9 ⊢
    go_wp2_with fail
    refine Hran.out.mono ?_
    rintro e w10 ⟨R, cr, ⟨A2, ca2, M2, cm2, N2, cn2, S2, cs2, Q2, cq2⟩, rfl, hrd, hcr, -, hb2⟩
    simp only [kcells, hTl] at hcr ⊢
    have Hb10 := Lib.hid (Hb9.out.trans (hb2.mono Hb9.out.size))
    have Hrd := Lib.hid hrd
    have HAc10 := Lib.hid (HAc9.out.below hb2)
    clear hrd hb2 Hran Hb9 HAc9
    generalize (Cf.ranT Cf.newKern (Cf.flowActs body)).kern = kn at *
    go_upto_region 14 with fail
    generalize hw11 : w10.alloc _ = w11
    have hb11 : Below w10.heap.size w10 w11 := by rw [← hw11]; exact (Below.refl _ _).alloc (Nat.le_refl _) _
    clear hw11
    have HRd := Lib.hid (Hrd.out.below hb11)
    have HAc := Lib.hid (HAc10.out.below hb11)
    have Hb11 := Lib.hid (Hb10.out.trans (hb11.mono Hb10.out.size))
    have HTl := Lib.hid hTl
    clear hb11 Hrd HAc10 Hb10 hTl
    simp only [HTl.out] at hcap
    have hc1 : (k : Int) + 1 + 2 ≤ (c8 : Int) := by omega
    have hc2 : k + 3 ≤ c8 := by omega
    have hc3 : k + 1 + 2 ≤ c8 := by omega
    rcases HRd.out with h0 | ⟨bx, ox, rfl, hbxl, hcx⟩
    ·have := Cf.ran_len (Cf.flowActs body) Cf.newKern
     rw [h0, HTl.out] at this
     simp at this
    rcases HAc.out with h0 | ⟨ba, oa, rfl, hbal, hca⟩
    ·have := HTl.out
     rw [h0] at this
     simp at this
    have HCX := Lib.hid hcx
    have HCA := Lib.hid hca
    clear hcx hca HRd HAc
    go_wp2
    go_loopw [9, 10, 76] (fun inv outv iv wr => ∃ (j : Nat) (is os : List UInt8), j ≤ k + 3 ∧ iv = .int .i64 j ∧ inv = .string ⟨is.toArray⟩ ∧ outv = .string ⟨os.toArray⟩ ∧ Cf.FlowAt body j is os ∧ os.length ≤ is.length ∧ Below w11.heap.size w11 wr) (fun _ _ iv _ => k + 3 - (intOf iv).toNat)
    case atStart => exact ⟨0, [], [], by omega, rfl, rfl, rfl, Cf.flow_at0 body, by simp, Below.refl _ _⟩
    case round =>
     obtain ⟨j, is, os, hj, rfl, rfl, rfl, hflow, hle, hbr⟩ := hrel
     have his := hflow.len
     have HFl := Lib.hid hflow
     clear hflow
     by_cases hlt2 : j < k + 3
     ·obtain ⟨kd, pp, nn, mm, nm, da, ha⟩ : ∃ kd pp nn mm nm da, (Cf.flowActs body)[j]? = some ⟨kd, pp, nn, mm, nm, da⟩ := ⟨_, _, _, _, _, _, List.getElem?_eq_getElem (by rw [HTl.out]; omega)⟩
      obtain ⟨⟨xc, xn, xd⟩, hx, hstep⟩ := Cf.flow_step Hoks.out HFl.out ha (by rw [Hacc.out]; exact hlt2)
      have a0 : wr.cell? ⟨ba, oa + j * 6, none⟩ = some (.int .i64 kd) := (hbr.cell hbal).trans (HCA.out j _ ha 0 _ rfl)
      have a1 : wr.cell? ⟨ba, oa + j * 6 + 1, none⟩ = some (.int .i64 pp) := (hbr.cell hbal).trans (HCA.out j _ ha 1 _ rfl)
      have a2 : wr.cell? ⟨ba, oa + j * 6 + 2, none⟩ = some (.int .i64 nn) := (hbr.cell hbal).trans (HCA.out j _ ha 2 _ rfl)
      have a3 : wr.cell? ⟨ba, oa + j * 6 + 3, none⟩ = some (.int .i64 mm) := (hbr.cell hbal).trans (HCA.out j _ ha 3 _ rfl)
      have a4 : wr.cell? ⟨ba, oa + j * 6 + 4, none⟩ = some (.string ⟨nm.toArray⟩) := (hbr.cell hbal).trans (HCA.out j _ ha 4 _ rfl)
      have a5 : wr.cell? ⟨ba, oa + j * 6 + 5, none⟩ = some (.string ⟨da.toArray⟩) := (hbr.cell hbal).trans (HCA.out j _ ha 5 _ rfl)
      have x0 : wr.cell? ⟨bx, ox + j * 3, none⟩ = some (.int .i64 xc) := (hbr.cell hbxl).trans (HCX.out j _ hx 0 _ rfl)
      have x1 : wr.cell? ⟨bx, ox + j * 3 + 1, none⟩ = some (.int .i64 xn) := (hbr.cell hbxl).trans (HCX.out j _ hx 1 _ rfl)
      have x2 : wr.cell? ⟨bx, ox + j * 3 + 2, none⟩ = some (.string ⟨xd.toArray⟩) := (hbr.cell hbxl).trans (HCX.out j _ hx 2 _ rfl)
      have hxl : bx < wr.heap.size := Nat.lt_of_lt_of_le hbxl hbr.size
      have hj4 : j < k + 4 := by omega
      have hbx : ∀ o, Below w11.heap.size w11 (wr.alloc o) := fun o => hbr.alloc hbr.size o
      clear ha hx
      cases hstep with
      | none hk9 h =>
        have HF := Lib.hid h
        clear h HFl
        simp only at hk9
        rcases hk9 with rfl | rfl
        ·go_wp2
         go_roundw
         case rel => exact ⟨j + 1, is, os, by omega, by go_num, rfl, rfl, HF.out, hle, hbx _⟩
         case measure => simp [intOf]; omega
        ·go_wp2
         go_roundw
         case rel => exact ⟨j + 1, is, os, by omega, by go_num, rfl, rfl, HF.out, hle, hbx _⟩
         case measure => simp [intOf]; omega
      | full hk8 hf2 hc h =>
        have HF := Lib.hid h
        simp only at hk8 hc
        subst hk8 hc
        have hfb : ((is.length : Int) - (os.length : Int) == 20) = true := by rw [hf2]; rfl
        clear h HFl hf2
        go_wp2
        go_roundw
        case rel => exact ⟨j + 1, is, os, by omega, by go_num, rfl, rfl, HF.out, hle, hbx _⟩
        case measure => simp [intOf]; omega
      | write hk8 hf2 hc n hn hl2 hd2 h =>
        have HF := Lib.hid h
        simp only at hk8 hc hn hl2 hd2
        subst hk8 hc hn
        have hfb : ((is.length : Int) - (os.length : Int) == 20) = false := by rw [beq_eq_false_iff_ne]; exact hf2
        have S1 := str_upto da n hl2
        have htl : (da.take n).length ≤ 30 := by rw [List.length_take]; omega
        have hadd := add_run is (da.take n) (by omega)
        have hns : ¬ (9223372036854775807 < is.length + (da.take n).length) := by omega
        have hle2 : os.length ≤ (is ++ da.take n).length := by rw [List.length_append]; omega
        simp only at HF
        clear h HFl hf2
        generalize da.take n = t at *
        go_wp2_with fail
        go_quiet (fail)
        go_wp2
        go_roundw
        case rel => exact ⟨j + 1, is ++ t, os, by omega, by go_num, rfl, rfl, HF.out, hle2, below_drewN (hbx _) _⟩
        case measure => simp [intOf]; omega
      | empty hk7 he hc hd h =>
        have HF := Lib.hid h
        simp only at hk7 hc hd
        subst hk7 hd
        have hfb : ((is.length : Int) - (os.length : Int) == 20) = false := by rw [beq_eq_false_iff_ne]; omega
        have heb : ((is.length : Int) == (os.length : Int)) = true := by rw [beq_iff_eq]; omega
        have hadd := add_run os [] (by simp; omega)
        have hns : ¬ (9223372036854775807 < os.length + ([] : List UInt8).length) := by simp; omega
        clear h HFl he
        rcases hc with rfl | rfl
        ·go_wp2
         go_roundw
         case rel => exact ⟨j + 1, is, os, by omega, by go_num, rfl, by simp, HF.out, hle, hbx _⟩
         case measure => simp [intOf]; omega
        ·go_wp2
         go_roundw
         case rel => exact ⟨j + 1, is, os, by omega, by go_num, rfl, by simp, HF.out, hle, hbx _⟩
         case measure => simp [intOf]; omega
      | read hk7 he hc hl2 h =>
        have HF := Lib.hid h
        simp only at hk7 hc hl2
        subst hk7 hc
        simp only at HF
        have hl3 : os.length + xd.length ≤ is.length := by rw [← List.length_append]; exact hl2
        have hfb : 0 ≤ (is.length : Int) - (os.length : Int) := by omega
        have heb : ((is.length : Int) == (os.length : Int)) = false := by rw [beq_eq_false_iff_ne]; omega
        have hadd := add_run os xd (by omega)
        have hns : ¬ (9223372036854775807 < os.length + xd.length) := by omega
        clear h HFl he
        go_wp2
        go_roundw
        case rel => exact ⟨j + 1, is, os ++ xd, by omega, by go_num, rfl, rfl, HF.out, hl2, hbx _⟩
        case measure => simp [intOf]; omega
     ·obtain rfl : j = k + 3 := by omega
      have hflow := HFl.out
      rw [← Hacc.out] at hflow
      obtain ⟨rfl, ⟨xc, xn, xd⟩, hx, hc⟩ := Cf.flow_end hflow
      simp only at hc
      subst hc
      rw [Hacc.out] at hx
      have x0 : wr.cell? ⟨bx, ox + (k + 3) * 3, none⟩ = some (.int .i64 12) := (hbr.cell hbxl).trans (HCX.out (k + 3) _ hx 0 _ rfl)
      have hb12 := Hb11.out.trans (hbr.mono Hb11.out.size)
      have u1 : (k : Int) + 1 + 2 < ((k + 4 : Nat) : Int) := by omega
      have u2 : 0 ≤ (k : Int) + 1 + 2 := by omega
      have u3 : k + 1 + 2 < k + 4 := by omega
      have u4 : k + 3 < k + 4 := by omega
      clear hx hflow HFl hbr HCX HCA
      go_wp2
      go_ret
      exact ⟨rfl, hb12⟩
end Go.Proofs.YtnnhhbjbdmgpiaaGreatDoor
