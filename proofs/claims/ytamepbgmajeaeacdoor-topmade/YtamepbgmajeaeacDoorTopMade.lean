/- TopMade: for every list of raw numbers, every word and every raw number, plain code that stays in its region has the same effect after the transformation. Conditions: the package-level tables that the road reads hold what the program's text lays (the card ties them). -/
import Derived.Test.YtamepbgmajeaeacDoorCards
import Derived.Test.YtamepbgmajeaeacDoorTie
import Derived.Test.YtamepbgmajeaeacDoorTrustedK
import Derived.Test.YtamepbgmajeaeacDoorMemK
import Derived.Test.YtamepbgmajeaeacDoorEqI
import Derived.Test.YtamepbgmajeaeacDoorTopP
import Derived.Test.YtamepbgmajeaeacDoorOpenR
import Derived.Test.YtamepbgmajeaeacDoorTabsL
import Derived.Test.YtamepbgmajeaeacDoorKit
import Derived.Deep.QuietTactic
namespace Go.Proofs.YtamepbgmajeaeacDoor.TopMadeLaw
open Go.ChangeShapes Go.WideShapes Go.ChangeAt Go.RowKit

theorem own : ownKnob Tryd.prog.godebug = none := by kernel_rfl
theorem laidOut : laidOutB Tryd.prog = true := by kernel_rfl
theorem regs4 {W : World} {g : Nat} {ty : TypeId} {z s0 s1 s2 s3 s4 s5 s6 s7 : Int} {x y : Value} (h : Wb W g ty [.int .i64 z, .int .i64 s0, .int .i64 s1, .int .i64 s2, .int .i64 s3, .int .i64 s4, .int .i64 s5, .int .i64 s6, .int .i64 s7, x, y]) : Ints W (some ⟨g, 1, none⟩) [s0, s1, s2, s3] := by
  refine .inr ⟨g, 1, rfl, h.lt, fun k u hu j v hv => ?_⟩
  match j, hv with
  | 0, hv =>
    simp [encZ] at hv
    subst hv
    match k, hu with
    | 0, hu => simp at hu; subst hu; exact h.cell 1
    | 1, hu => simp at hu; subst hu; exact h.cell 2
    | 2, hu => simp at hu; subst hu; exact h.cell 3
    | 3, hu => simp at hu; subst hu; exact h.cell 4
    | (k + 4), hu => simp at hu
  | (j + 1), hv => simp [encZ] at hv
theorem ints_draw {W : World} {A : Option Addr} {l : List Int} (h : Ints W A l) (n : Nat) : Ints (W.drewN n) A l := h
set_option maxRecDepth 100000 in
set_option maxHeartbeats 4000000 in
theorem walk (l : List Cf.Ins) (hf : ∀ x ∈ l, FitI x) (A0 : Option Addr) (c0 : Nat) (word : Int) (hwo : Fit word) (kr ra rb rc : Int) (f1 : Fit ra) (f2 : Fit rb) (w : World) (hR : Codes w A0 l) (hm : l.length ≤ maxLen) (hL : TabL w) (hF : TabF w) :
    Calls Tryd.prog 5 #[.slice A0 l.length c0, .int .i64 word, .agg #[.int .i64 kr, .int .i64 ra, .int .i64 rb, .int .i64 rc]] w fun e w' => e = .returned (.bool true) ∧ Below w.heap.size w w' := by
  obtain ⟨n1, n2⟩ := Cf.pick_range word 65536 (by omega)
  have HPk := Lib.hid (fun w => Picked_any word 65536 w hwo (by omega) (by omega))
  generalize Cf.pick word 65536 = n at n1 n2 HPk
  have hb0 : Below w.heap.size w (w.alloc (.cells #[.int .i64 kr, .int .i64 ra, .int .i64 rb, .int .i64 rc] 24)) := (Below.refl _ _).alloc (Nat.le_refl _) _
  have hbox := Wb.new w 24 [.int .i64 kr, .int .i64 ra, .int .i64 rb, .int .i64 rc]
  have Hbox := Lib.hid hbox
  have HP := Lib.hid (keepPlain_any l hf A0 c0 _ (hR.below hb0) hm)
  have HL := Lib.hid hL
  have HF := Lib.hid hF
  clear hL hF hR hbox
  go_enter Tryd.func5, Tryd.ntmps5
  go_wp2_with fail
  refine HP.out.mono ?_
  rintro e w1 ⟨A, cp, pl, rfl, hpl, hpf, hpp, hpc, hb1⟩
  have hps := place_small hpl
  have hbw1 := hb0.trans (hb1.mono (by simp))
  have HMT := Lib.hid (show Cf.madeT pl = ⟨Cf.madeL pl, 0⟩ by unfold Cf.madeT; rw [if_pos hpf, if_pos hpp, if_pos (by omega)])
  have HMk := Lib.hid (make_any pl A cp w1 hpc (HL.out.below hbw1) (HF.out.below hbw1) (by unfold maxLen; omega))
  rw [HMT.out] at HMk
  have Hbox1 := Lib.hid (Hbox.out.below hb1 Hbox.out.lt)
  have Hpf := Lib.hid hpf
  have Hpp := Lib.hid hpp
  have HC1 := Lib.hid hpc
  clear hpf hpp hpc HMT HP hb0 hb1 Hbox
  go_wp2_with fail
  refine HMk.out.mono ?_
  rintro e w2 ⟨X, cx, rfl, hX, hb2⟩
  dsimp only at hX ⊢
  have hbw2 := hbw1.trans (hb2.mono hbw1.size)
  have Hbox2 := Lib.hid (Hbox1.out.below hb2 Hbox1.out.lt)
  have HC2 := Lib.hid (HC1.out.below hb2)
  have HX2 := Lib.hid hX
  have q0 := Hbox2.out.cell 0
  have q1 := Hbox2.out.cell 1
  have q2 := Hbox2.out.cell 2
  have q3 := Hbox2.out.cell 3
  simp at q0 q1 q2 q3
  have Hmem := Lib.hid (mem_any kr ra rb rc 64 w2 f1 f2 (by omega) (by omega))
  clear hX hb2 HMk HC1 Hbox1 hbw1
  go_wp2_with fail
  refine Hmem.out.mono ?_
  rintro e w3 ⟨Mx, cmx, x, rfl, hxl, hxw, hxr, hb3⟩
  have hbw3 := hbw2.trans (hb3.mono hbw2.size)
  have HC3 := Lib.hid (HC2.out.below hb3)
  have HX3 := Lib.hid (HX2.out.below hb3)
  have HI3 := Lib.hid (show Ints w3 Mx x from Row.ints (by rw [hxl]; exact hxr))
  obtain ⟨z, s0, s1, s2, s3, s4, s5, s6, s7, t, mm, z', s0', s1', s2', s3', s4', s5', s6', s7', t', mm', e1, e2, hz0, htl, hmml, hsame⟩ := Cf.top_made Hpf.out Hpp.out (by omega) n ⟨n1, by omega⟩ x hxl hxw
  have HR1 := Lib.hid (run_any pl A cp n 0 0 0 0 0 0 0 x Mx cmx 1000 w3 HC3.out (HL.out.below hbw3) (HF.out.below hbw3) (by unfold maxLen; omega) HI3.out (by unfold maxLen; omega))
  rw [e1, hxl] at HR1
  have HE2 := Lib.hid e2
  have Hxl := Lib.hid hxl
  have Hsame := Lib.hid hsame
  clear hb3 hxl hxw hxr e1 e2 hsame Hmem Hbox2 HC2 HX2 hbw2 q0 q1 q2 q3
  go_wp2_with fail
  refine (HPk.out _).mono ?_
  rintro e w' ⟨rfl, rfl⟩
  go_wp2_with fail
  refine HR1.out.mono ?_
  rintro e w4 ⟨T, M, ct, cm, rfl, hT, hM, hb4⟩
  dsimp only at hT hM ⊢
  simp only [List.map_cons, List.map_nil, List.cons_append, List.nil_append]
  have hbw4 := hbw3.trans (hb4.mono hbw3.size)
  have Hal4 := Lib.hid ((Below.refl w4.heap.size w4).alloc (Nat.le_refl _) (.cells #[.int .i64 z, .int .i64 s0, .int .i64 s1, .int .i64 s2, .int .i64 s3, .int .i64 s4, .int .i64 s5, .int .i64 s6, .int .i64 s7, .slice T t.length ct, .slice M mm.length cm] 36))
  have Hg1 := Lib.hid (Wb.new w4 36 [.int .i64 z, .int .i64 s0, .int .i64 s1, .int .i64 s2, .int .i64 s3, .int .i64 s4, .int .i64 s5, .int .i64 s6, .int .i64 s7, .slice T t.length ct, .slice M mm.length cm])
  have HX4 := Lib.hid ((HX3.out.below hb4).below Hal4.out)
  have HI4 := Lib.hid ((HI3.out.below hb4).below Hal4.out)
  have HT4 := Lib.hid (hT.below Hal4.out)
  have HM4 := Lib.hid (hM.below Hal4.out)
  have hbw4' := hbw4.trans (Hal4.out.mono hbw4.size)
  have hg4 := hbw4.size
  clear hb4 HR1 hT hM hbw3 HC3 HX3 HI3 hbw4 Hal4
  go_wp2_with fail
  refine (enter_good 0 n _ (by omega) (by omega) n1 (by omega)).mono ?_
  rintro e w5 ⟨rfl, hb5⟩
  have hbw5 := hbw4'.trans (hb5.mono hbw4'.size)
  have Hg5 := Lib.hid (Hg1.out.below hb5 Hg1.out.lt)
  have HX5 := Lib.hid (HX4.out.below hb5)
  have HI5 := Lib.hid (HI4.out.below hb5)
  have HT5 := Lib.hid (HT4.out.below hb5)
  have HM5 := Lib.hid (HM4.out.below hb5)
  have Hal5 := Lib.hid ((Below.refl w5.heap.size w5).alloc (Nat.le_refl _) (.cells #[.int .i64 n, .int .i64 0, .int .i64 0, .int .i64 0, .int .i64 0, .int .i64 0, .int .i64 63, .int .i64 0] 29))
  have hbw5' := hbw5.trans (Hal5.out.mono hbw5.size)
  have HR2 := Lib.hid (run_any (Cf.madeL pl) X cx n 0 0 0 0 0 63 0 x Mx cmx 3000 (w5.alloc (.cells #[.int .i64 n, .int .i64 0, .int .i64 0, .int .i64 0, .int .i64 0, .int .i64 0, .int .i64 63, .int .i64 0] 29)) (HX5.out.below Hal5.out) (HL.out.below hbw5') (HF.out.below hbw5') (by unfold maxLen; omega) (HI5.out.below Hal5.out) (by unfold maxLen; rw [Hxl.out]; omega))
  rw [HE2.out, Hxl.out] at HR2
  clear hb5 Hg1 HX4 HI4 HT4 HM4 hbw4'
  go_wp2_with fail
  refine HR2.out.mono ?_
  rintro e w6 ⟨T', M', ct', cm', rfl, hT', hM', hb6⟩
  dsimp only at hT' hM' ⊢
  simp only [List.map_cons, List.map_nil, List.cons_append, List.nil_append]
  have hbw6 := hbw5'.trans (hb6.mono hbw5'.size)
  have Hg5b := Lib.hid (Hg5.out.below Hal5.out Hg5.out.lt)
  have Hg6 := Lib.hid (Hg5b.out.below hb6 Hg5b.out.lt)
  have Hal6 := Lib.hid ((Below.refl w6.heap.size w6).alloc (Nat.le_refl _) (.cells #[.int .i64 z', .int .i64 s0', .int .i64 s1', .int .i64 s2', .int .i64 s3', .int .i64 s4', .int .i64 s5', .int .i64 s6', .int .i64 s7', .slice T' t'.length ct', .slice M' mm'.length cm'] 36))
  have HA1 := Lib.hid (Hg6.out.alloc (.cells #[.int .i64 z', .int .i64 s0', .int .i64 s1', .int .i64 s2', .int .i64 s3', .int .i64 s4', .int .i64 s5', .int .i64 s6', .int .i64 s7', .slice T' t'.length ct', .slice M' mm'.length cm'] 36))
  have HA2 := Lib.hid (Wb.new w6 36 [.int .i64 z', .int .i64 s0', .int .i64 s1', .int .i64 s2', .int .i64 s3', .int .i64 s4', .int .i64 s5', .int .i64 s6', .int .i64 s7', .slice T' t'.length ct', .slice M' mm'.length cm'])
  have HT1 := Lib.hid (((HT5.out.below Hal5.out).below hb6).below Hal6.out)
  have HM1 := Lib.hid (((HM5.out.below Hal5.out).below hb6).below Hal6.out)
  have HT2 := Lib.hid (hT'.below Hal6.out)
  have HM2 := Lib.hid (hM'.below Hal6.out)
  have hbw7 := hbw6.trans (Hal6.out.mono hbw6.size)
  have a0 := Hg6.out.cell 0
  simp only [List.getElem?_cons_zero] at a0
  have e0 := neb hz0
  have hlt6 := Hg6.out.lt
  clear hb6 hT' hM' HR2 HE2 Hg5 Hg5b HT5 HM5 HX5 HI5 Hal5 hbw5 hbw5' hz0
  by_cases h3 : z = 3
  · have e3 := eqb h3
    clear h3
    go_wp2
    go_ret
    exact ⟨rfl, hbw7⟩
  · have e3 := neb h3
    by_cases h2 : z = 2
    · have e2 := eqb h2
      clear h2 h3
      go_wp2
      go_ret
      exact ⟨rfl, hbw7⟩
    · have e2 := neb h2
      obtain ⟨rfl, rfl, rfl, rfl, rfl, rfl, rfl⟩ := Hsame.out h3 h2
      clear h2 h3
      go_upto_region 12 with fail
      clear a0 Hg6 hbw6
      generalize w6.alloc _ = W at *
      have a0 := HA1.out.cell 0
      have a9 := HA1.out.cell 9
      have a10 := HA1.out.cell 10
      have b0 := HA2.out.cell 0
      have b9 := HA2.out.cell 9
      have b10 := HA2.out.cell 10
      simp only [List.getElem?_cons_zero, List.getElem?_cons_succ] at a0 a9 a10 b0 b9 b10
      have E1 := Lib.hid (fun n => regs4 (HA1.out.draw n))
      have E2 := Lib.hid (fun n => regs4 (HA2.out.draw n))
      have E3 := Lib.hid (fun n => ints_draw HT1.out n)
      have E4 := Lib.hid (fun n => ints_draw HT2.out n)
      have E5 := Lib.hid (fun n => ints_draw HM1.out n)
      have E6 := Lib.hid (fun n => ints_draw HM2.out n)
      have Q1 := Lib.hid (show ∀ n, Calls Tryd.prog 11 #[.slice (some ⟨w4.heap.size, 1, none⟩) 4 8, .slice (some ⟨w6.heap.size, 1, none⟩) 4 8] (W.drewN n) fun e w'' => e = .returned (.bool true) ∧ ∃ m, w'' = W.drewN m from fun n => Calls.quiet_of (equalI_same [s0', s1', s2', s3'] _ _ 8 8 _ (E1.out n) (E2.out n) (by unfold maxLen; simp)))
      have Q2 := Lib.hid (show ∀ n, Calls Tryd.prog 11 #[.slice T t'.length ct, .slice T' t'.length ct'] (W.drewN n) fun e w'' => e = .returned (.bool true) ∧ ∃ m, w'' = W.drewN m from fun n => Calls.quiet_of (equalI_same t' _ _ ct ct' _ (E3.out n) (E4.out n) (by unfold maxLen; omega)))
      have Q3 := Lib.hid (show ∀ n, Calls Tryd.prog 11 #[.slice M mm'.length cm, .slice M' mm'.length cm'] (W.drewN n) fun e w'' => e = .returned (.bool true) ∧ ∃ m, w'' = W.drewN m from fun n => Calls.quiet_of (equalI_same mm' _ _ cm cm' _ (E5.out n) (E6.out n) (by unfold maxLen; omega)))
      clear E1 E2 E3 E4 E5 E6
      go_quiet ((first | (go_at_call 11; first | with_reducible exact Q1.out _ | with_reducible exact Q2.out _ | with_reducible exact Q3.out _)))
      go_wp2
      go_ret
      exact ⟨rfl, below_drewN hbw7 _⟩

set_option maxRecDepth 100000 in
theorem contract (H : Type) (enc : TypeId × Value → H) (W : World) (base : Nat) (args : Array Value) (ds gs : List (DataW H)) (before : List MemPlace)
    (hval : ∀ (j : Nat) t v, Tryd.f5.params[j]? = some t → args[j]? = some v → Value.okWide Tryd.prog W .any base t v)
    (hW : DataW.Whole enc Tryd.prog Tryd.f5.params.toList Rows.topMadeSpec.vars false W args.toList ds gs before)
    (_hsz0 : (DataW.weightsEach Tryd.prog (Tryd.f5.params.toList ++ (OpenSpec.ofChange Rows.topMadeSpec).bare.plain.varTypes Tryd.prog) (ds ++ gs)).all (· ≤ reachBytes) = true)
    (hL : laidMetH Tryd.prog Rows.topMadeRow.laid W) (_hsh : W.ShapedOpen Tryd.prog) :
    Calls Tryd.prog 5 args W fun e W' => ∃ v, e = .returned v ∧ Rows.topMadeSpec.post enc Tryd.prog Tryd.f5 false true false false W args v W' := by
  have hW' := hW
  obtain ⟨p, q, hA0, hV, rfl, hfz, hnd⟩ := hW
  have hA : DataW.TrodAll enc Tryd.prog W 0 (fun _ => true) true Tryd.f5.params.toList args.toList ds p := hA0
  rw [Tryd.params5] at hA hval
  obtain ⟨v0, vs0, d0, ds0, p0, q0, hargs0, rfl, rfl, h0, r0⟩ := trodAll_cons hA
  obtain ⟨v1, vs1, d1, ds1, p1, q1, hargs1, rfl, rfl, h1, r1⟩ := trodAll_cons r0
  obtain ⟨v2, vs2, d2, ds2, p2, q2, hargs2, rfl, rfl, h2, r2⟩ := trodAll_cons r1
  obtain ⟨hnil, rfl, rfl⟩ := trodAll_nil r2
  obtain rfl : args = #[v0, v1, v2] := by cases args; simp_all
  obtain ⟨rfl, rfl⟩ : gs = [] ∧ q = [] := by cases gs with | nil => exact ⟨rfl, hV⟩ | cons g gs => exact hV.elim
  obtain ⟨A, cap, l, rfl, hl, hm, hf⟩ := open_fit Tryd.underlying22 rawFields (hval 0 22 v0 rfl rfl) h0
  obtain ⟨n1, rfl, rfl, rfl, hn1⟩ := Go.ChangeShapes.open_int Tryd.underlying3 (hval 1 3 v1 rfl rfl) h1
  obtain ⟨kr, ra, rb, rc, rfl, f0, f1, f2, f3⟩ := open_raw rawFields (hval 2 24 v2 rfl rfl) h2
  refine (walk l hf A cap n1 (fit_wf hn1) kr ra rb rc f1 f2 W hl hm (laidL hL (List.Mem.head _)) (laidF hL (List.Mem.tail _ (List.Mem.head _)))).mono fun e W' ⟨he, hb⟩ => ?_
  exact ⟨_, he, post_law laidOut (by kernel_rfl) Tryd.underlying4 rfl (by kernel_rfl) (fun ds hd => by
    match ds, hd with
    | [d0, d1, d2], _ => rfl) hW' hb⟩

noncomputable def laidWorld (os : Os) : World := { World.holding Tryd.prog os ⟨#[], #[], []⟩ with heap := (((World.holding Tryd.prog os ⟨#[], #[], []⟩).heap).modify 1 (withCells (Cf.larTab.map (Value.int .i64)))).modify 0 (withCells (Cf.fmtTab.flatten.map (Value.int .i64))) }
theorem laid_met (os : Os) : laidMet Tryd.prog Rows.topMadeRow.laid ((laidWorld os).forCall (fun _ _ => 0) ⟨#[], #[.slice none 0 0, .int .i64 0, .agg #[.int .i64 0, .int .i64 0, .int .i64 0, .int .i64 0]], []⟩).memory :=
  laidMet_of_run' 8 (by kernel_rfl) (by kernel_rfl)
theorem reads (os : Os) {H : Type} (enc : TypeId × Value → H) : ∃ places, DataW.whole enc Tryd.prog ((laidWorld os).forCall (fun _ _ => 0) ⟨#[], #[.slice none 0 0, .int .i64 0, .agg #[.int .i64 0, .int .i64 0, .int .i64 0, .int .i64 0]], []⟩).memory Tryd.f5.params.toList Rows.topMadeSpec.vars false (#[Value.slice none 0 0, .int .i64 0, .agg #[.int .i64 0, .int .i64 0, .int .i64 0, .int .i64 0]] : Array Value).toList 8 = some ([.nil, .lit (.int .i64 0), .agg [.lit (.int .i64 0), .lit (.int .i64 0), .lit (.int .i64 0), .lit (.int .i64 0)]], [], places) :=
  ⟨[], by kernel_rfl⟩

set_option maxRecDepth 100000 in
theorem lifted (os : Os) (started : os.Started) (H : Type) (enc : TypeId × Value → H) (F : Stop.Interp) :
    ReturnsInHanded {} Tryd.checked os 5 .any ((OpenSpec.ofChange Rows.topMadeSpec).preRow enc Tryd.prog Tryd.f5 Rows.topMadeRow.domain false Rows.topMadeRow.laid) (((OpenSpec.ofChange Rows.topMadeSpec).at F).post enc Tryd.prog Tryd.f5 false true false false) := by
  obtain ⟨places, hx⟩ := reads os enc
  refine returnsInHanded_of_row (C := Tryd.checked) (s := (OpenSpec.ofChange Rows.topMadeSpec)) own started (by kernel_rfl) Tryd.func5
    (witness_row_at (enc := enc) (C := Tryd.checked) false (laidWorld os) #[.slice none 0 0, .int .i64 0, .agg #[.int .i64 0, .int .i64 0, .int .i64 0, .int .i64 0]] rfl (by kernel_rfl) (by kernel_rfl) (by kernel_rfl)
      (OpenSpec.preRow_of_cond 8 hx (by kernel_rfl) (fun k hk => by cases hk) (by kernel_rfl) (laid_met os))) ?_
  intro W base args ds gs before hval hW _ hcond hsz hL hsh _
  exact contract H enc W base args ds gs before hval hW hsz hL hsh

theorem said : Rows.TopMadeSaid :=
  OpenClaim.holds_of_cond 5 Tryd.f5 rfl rfl rfl rfl rfl rfl rfl ⟨rfl, rfl, rfl, rfl, rfl⟩ rfl rfl rfl rfl rfl (by kernel_rfl) Tryd.func5 (by kernel_rfl)
    (of_decide_eq_true (by kernel_rfl)) (by unfold Func.isWrapper; first | (rw [if_pos (by decide +kernel)]; kernel_rfl) | (rw [if_neg (by decide +kernel)]; exact ⟨rfl, rfl⟩))
    (fun os started H enc _ F => by rw [OpenClaim.pre_eq_preRow]; exact lifted os started H enc F)
theorem plain (f : FuncId) (fn : Func) (hf : Tryd.pinned.checked.prog.funcNamed "curfew/curfewtop.TopMade" = some f) (hfn : Tryd.pinned.checked.prog.funcs[f]? = some fn) :
    false = Tryd.pinned.checked.prog.looks [] ∧ ∀ (j : Nat) t, fn.params[j]? = some t → Tryd.pinned.checked.prog.wantsStandIn t = false := by
  obtain rfl : f = 5 := Option.some.inj ((show Tryd.prog.funcNamed "curfew/curfewtop.TopMade" = some 5 by kernel_rfl).symm.trans hf) |>.symm
  obtain rfl : fn = Tryd.f5 := (Option.some.inj (Tryd.func5.symm.trans hfn)).symm
  refine ⟨by kernel_rfl, fun j t ht => ?_⟩
  rw [Tryd.params5] at ht
  have hm : t = 22 ∨ t = 3 ∨ t = 24 := by simpa using Array.mem_of_getElem? ht
  rcases hm with rfl | rfl | rfl
  · exact (show Tryd.prog.wantsStandIn 22 = false by kernel_rfl)
  · exact (show Tryd.prog.wantsStandIn 3 = false by kernel_rfl)
  · exact (show Tryd.prog.wantsStandIn 24 = false by kernel_rfl)
theorem card : Rows.TopMadeCardSaid :=
  Claim7.holds_tied_plain_at .later [] _ _ _ _ said (fun _ h => by cases h) (by kernel_rfl) (fun _ h => by cases h) topMade_row_tie rfl ⟨rfl, rfl⟩ (by kernel_rfl) rfl plain (by kernel_rfl)
end Go.Proofs.YtamepbgmajeaeacDoor.TopMadeLaw
namespace Go.Proofs.YtamepbgmajeaeacDoor
theorem topMade_holds : Rows.TopMadeCardSaid := TopMadeLaw.card
#print axioms topMade_holds
end Go.Proofs.YtamepbgmajeaeacDoor
