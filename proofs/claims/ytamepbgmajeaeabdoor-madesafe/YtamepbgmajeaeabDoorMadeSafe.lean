/- MadeSafe: for every list of raw numbers and every number, what safe.Make makes of the plain code of the list is trusted and not shorter, and with an odd piece ahead of it or behind it it is refused; no code at all is refused too. Conditions: the package-level tables that the road reads hold what the program's text lays (the card ties them). -/
import Derived.Test.YtamepbgmajeaeabDoorCards
import Derived.Test.YtamepbgmajeaeabDoorTie
import Derived.Test.YtamepbgmajeaeabDoorPlainK
import Derived.Test.YtamepbgmajeaeabDoorMakeW
import Derived.Test.YtamepbgmajeaeabDoorCloneW
import Derived.Test.YtamepbgmajeaeabDoorOddW
import Derived.Test.YtamepbgmajeaeabDoorRawO
import Derived.Test.YtamepbgmajeaeabDoorTabsL
import Derived.Test.YtamepbgmajeaeabDoorKit
namespace Go.Proofs.YtamepbgmajeaeabDoor.MadeSafeLaw
open Go.ChangeShapes Go.WideShapes Go.ChangeAt Go.RowKit

theorem own : ownKnob Tryd.prog.godebug = none := by kernel_rfl
theorem laidOut : laidOutB Tryd.prog = true := by kernel_rfl
theorem made_ge (l : List Cf.Ins) : ∀ k, k ≤ l.length → k ≤ Cf.place l k := by
  intro k
  induction k with
  | zero => intro _; omega
  | succ k ih =>
    intro hk
    obtain ⟨i, hx⟩ : ∃ i, l[k]? = some i := ⟨_, List.getElem?_eq_getElem (by omega)⟩
    rw [Cf.place_next hx]
    have := Cf.wid_pos i
    have := ih (by omega)
    omega
set_option maxRecDepth 100000 in
set_option maxHeartbeats 4000000 in
theorem walk (l : List Cf.Ins) (hf : ∀ x ∈ l, FitI x) (A0 : Option Addr) (c0 : Nat) (which : Int) (hwh : Fit which) (w : World) (hR : Codes w A0 l) (hm : l.length ≤ maxLen) (hL : TabL w) (hF : TabF w) :
    Calls Tryd.prog 3 #[.slice A0 l.length c0, .int .i64 which] w fun e w' => e = .returned (.bool true) ∧ Below w.heap.size w w' := by
  obtain ⟨i0, hi, hz0, hz1, hz2⟩ := info_parts infoIns
  have Hi := Lib.hid hi
  have Hz0 := Lib.hid hz0
  have Hz1 := Lib.hid hz1
  have Hz2 := Lib.hid hz2
  have HL := Lib.hid hL
  have HF := Lib.hid hF
  have HP := Lib.hid (keepPlain_any l hf A0 c0 w hR hm)
  obtain ⟨p, hp, hp1⟩ : ∃ p : Nat, Cf.pick which 11 = p ∧ p < 11 := by
    obtain ⟨h1, h2⟩ := Cf.pick_range which 11 (by omega)
    exact ⟨(Cf.pick which 11).toNat, by omega, by omega⟩
  have P1 := Lib.hid (fun w => picked_any which 11 w hwh (by omega) (by omega))
  rw [hp] at P1
  clear hi hz0 hz1 hz2 hL hF hR hp
  go_enter Tryd.func3, Tryd.ntmps3
  go_wp2_with fail
  refine HP.out.mono ?_
  rintro e w1 ⟨A, cp, pl, rfl, hpl, hpf, hpp, hpc, hb1⟩
  have hge := made_ge pl pl.length (Nat.le_refl _)
  have hle := Cf.place_le pl pl.length
  have HLE := Lib.hid (show (Cf.madeL pl).length = Cf.place pl pl.length by rw [← madeK_all, madeK_len])
  have HMT := Lib.hid (show Cf.madeT pl = ⟨Cf.madeL pl, 0⟩ by unfold Cf.madeT; rw [if_pos hpf, if_pos hpp, if_pos (by rw [HLE.out]; omega)])
  have HMS := Lib.hid (Cf.made_safe hpf hpp (by rw [HLE.out]; omega))
  have HMF := Lib.hid (Cf.made_fault hpf hpp (by rw [HLE.out]; omega))
  have HM1 := Lib.hid (Cf.made_first hpp)
  have HMk := Lib.hid (make_any pl A cp w1 hpc (HL.out.below hb1) (HF.out.below hb1) (by unfold maxLen; omega))
  rw [HMT.out] at HMk
  have hp1l : 1 ≤ pl.length := by
    cases pl with
    | nil => cases hpp
    | cons _ _ => simp
  clear hpf hpp hpc HMT HP
  go_wp2_with fail
  refine HMk.out.mono ?_
  rintro e w2 ⟨X, cx, rfl, hX, hb2⟩
  dsimp only at hX ⊢
  have hbw2 := hb1.trans (hb2.mono hb1.size)
  have hml : (Cf.madeL pl).length ≤ 93 := by rw [HLE.out]; omega
  have hmg : pl.length ≤ (Cf.madeL pl).length := by rw [HLE.out]; omega
  generalize Cf.madeL pl = m at *
  have HV := Lib.hid (verify_any m X cx w2 hX (HL.out.below hbw2) (HF.out.below hbw2) (by unfold maxLen; omega))
  rw [HMS.out] at HV
  have HX := Lib.hid hX
  clear HMk hb1 hb2 hX hge hle HLE HMS
  go_wp2_with fail
  refine HV.out.mono ?_
  rintro e w3 ⟨rfl, hb3⟩
  have hbw3 := hbw2.trans (hb3.mono hbw2.size)
  have HX3 := Lib.hid (HX.out.below hb3)
  clear hb3 hbw2 HV HX
  have hnlt : ¬ (m.length : Int) < pl.length := by omega
  have hob := odd_below w3
  have Hob := Lib.hid hob
  clear hob
  go_wp2_with fail
  change Calls _ _ _ (oddWd w3) _
  refine (P1.out _).mono ?_
  rintro e w' ⟨rfl, rfl⟩
  have hbw4 := hbw3.trans (Hob.out.mono hbw3.size)
  have HX4 := Lib.hid (HX3.out.below Hob.out)
  have hz3 := hbw3.size
  by_cases hp10 : p < 10
  · obtain ⟨x, hx, o, ho, hodd⟩ := odd_at w3 p hp10
    have HS := Lib.hid (Cf.odd_head m HMF.out (by omega) HM1.out x hx)
    have e14 := (by rw [beq_eq_false_iff_ne]; exact ho : (o == 14) = false)
    have cx4 := hodd.cell
    have co4 := hodd.op
    have HC4 := Lib.hid hodd.code
    obtain ⟨hl1, hl2⟩ := hodd.len
    clear hodd hx ho hbw3 HX3 Hob
    generalize oddWd w3 = w4 at *
    go_wp2_with fail
    refine (clone_any x _ x.length _ HC4.out (by omega)).mono ?_
    rintro e w5 ⟨K, ck, rfl, hown, hb5⟩
    have hbw5 := hbw4.trans (hb5.mono hbw4.size)
    have HX5 := Lib.hid (HX4.out.below hb5)
    have Hb5 := Lib.hid hb5
    have Hown4 := Lib.hid hown
    have Hown5 := Lib.hid (own_base hown hbw4.size)
    have Hco := Lib.hid co4
    clear hown hb5 co4 cx4
    go_wp2_with (at_builtin; refine wpList_append_src rfl _ _ 23 rfl w.heap.size 30 i0 (.agg #[.int .i64 0, .int .i64 0, .int .i64 0, .int .i64 0]) 4 32 Tryd.underlying23 Hi.out Hz0.out Hz1.out Hz2.out rfl (by decide) encI_len one_i _ x.length _ rfl Hown5.out X cx m rfl HX5.out (by unfold maxLen; omega) (by omega) hbw5.size ?_)
    intro v' w6 hown6 hgr6 hat6
    obtain ⟨Y, cy, rfl⟩ := own_form hown6
    have hbw6 : Below w.heap.size w w6 := hbw5.grown hgr6 hbw5.size (fun k hk => own_blocks Hown5.out k hk)
    have hb46 := Hb5.out.grown hgr6 Hb5.out.size (fun k hk => own_blocks Hown4.out k hk)
    have co6 := (hb46.cell (lt_of_cell Hco.out)).trans Hco.out
    have HC6 := Lib.hid (show Codes w6 Y (x ++ m) by
      refine own_rd encI_len (base := w.heap.size) (e := 30) (cap := cy) ?_
      rw [List.length_append, List.flatMap_append]
      exact hown6)
    have HV6 := Lib.hid (verify_any (x ++ m) Y cy w6 HC6.out (HL.out.below hbw6) (HF.out.below hbw6) (by unfold maxLen; rw [List.length_append]; omega))
    rw [HS.out, List.length_append] at HV6
    clear hown6 hgr6 hat6 Hown5 Hown4 hb46 Hb5 HC6 hbw5
    go_wp2_with fail
    refine HV6.out.mono ?_
    rintro e w7 ⟨rfl, hb7⟩
    have hbw7 := hbw6.trans (hb7.mono hbw6.size)
    have HV7 := Lib.hid (verify_any [] none 0 w7 (.inl rfl) (HL.out.below hbw7) (HF.out.below hbw7) (by simp))
    rw [Cf.safe_nil] at HV7
    clear hb7 HV6
    go_wp2_with fail
    refine HV7.out.mono ?_
    rintro e w8 ⟨rfl, hb8⟩
    have hbw8 := hbw7.trans (hb8.mono hbw7.size)
    clear hb8 HV7
    go_wp2
    go_ret
    exact ⟨rfl, hbw8⟩
  · obtain rfl : p = 10 := by omega
    have hodd := oddA10 w3
    have HS := Lib.hid (Cf.odd_tail m HMF.out (by omega))
    obtain ⟨bX, oX, rfl, _, _⟩ := HX3.out.at_ (by intro e; rw [e] at hmg; simp at hmg; rw [hmg] at hp1l; simp at hp1l)
    have cx4 := hodd.cell
    have co4 := hodd.op
    have HC4 := Lib.hid hodd.code
    clear hodd hbw3 HX3 Hob hp10
    simp only [List.length_cons, List.length_nil, Nat.zero_add] at cx4
    generalize oddWd w3 = w4 at *
    go_wp2_with fail
    refine (clone_any [⟨14, 0, 0, 0⟩] _ 1 _ HC4.out (by decide)).mono ?_
    rintro e w5 ⟨K, ck, rfl, hown, hb5⟩
    have hbw5 := hbw4.trans (hb5.mono hbw4.size)
    have HX5 := Lib.hid (HX4.out.below hb5)
    have Hb5 := Lib.hid hb5
    have Hown4 := Lib.hid hown
    have Hown5 := Lib.hid (own_base hown hbw4.size)
    have Hco := Lib.hid co4
    clear hown hb5 co4 cx4
    go_wp2_with (at_builtin; refine wpList_append_src rfl _ _ 23 rfl w.heap.size 30 i0 (.agg #[.int .i64 0, .int .i64 0, .int .i64 0, .int .i64 0]) 4 32 Tryd.underlying23 Hi.out Hz0.out Hz1.out Hz2.out rfl (by decide) encI_len one_i _ 1 _ rfl Hown5.out (some ⟨bX, oX, none⟩) cx m rfl HX5.out (by unfold maxLen; omega) (by omega) hbw5.size ?_)
    intro v' w6 hown6 hgr6 hat6
    obtain ⟨Y, cy, rfl⟩ := own_form hown6
    have hbw6 : Below w.heap.size w w6 := hbw5.grown hgr6 hbw5.size (fun k hk => own_blocks Hown5.out k hk)
    have hb46 := Hb5.out.grown hgr6 Hb5.out.size (fun k hk => own_blocks Hown4.out k hk)
    have co6 := (hb46.cell (lt_of_cell Hco.out)).trans Hco.out
    have HX6 := Lib.hid (HX4.out.below hb46)
    have HC6 := Lib.hid (HC4.out.below hb46)
    clear hown6 hgr6 hat6 Hown5 Hown4 hb46 Hb5 hbw5 hbw4 HX5 HX4 HC4
    go_wp2_with fail
    refine (clone_any m _ cx _ HX6.out (by omega)).mono ?_
    rintro e w5b ⟨K2, ck2, rfl, hown, hb5⟩
    have hbw5 := hbw6.trans (hb5.mono hbw6.size)
    have HC5 := Lib.hid (HC6.out.below hb5)
    have Hown5 := Lib.hid (own_base hown hbw6.size)
    clear hown hb5 co6 HX6 HC6 hbw6
    go_wp2_with (at_builtin; refine wpList_append_src rfl _ _ 23 rfl w.heap.size 30 i0 (.agg #[.int .i64 0, .int .i64 0, .int .i64 0, .int .i64 0]) 4 32 Tryd.underlying23 Hi.out Hz0.out Hz1.out Hz2.out rfl (by decide) encI_len one_i _ m.length _ rfl Hown5.out (some ⟨w3.heap.size + 10, 0, none⟩) 1 [⟨14, 0, 0, 0⟩] rfl HC5.out (by unfold maxLen; simp; omega) (by simp; omega) hbw5.size ?_)
    intro v' w6b hown6 hgr6 hat6
    obtain ⟨Y2, cy2, rfl⟩ := own_form hown6
    have hbw6 : Below w.heap.size w w6b := hbw5.grown hgr6 hbw5.size (fun k hk => own_blocks Hown5.out k hk)
    have HC6 := Lib.hid (show Codes w6b Y2 (m ++ [⟨14, 0, 0, 0⟩]) by
      refine own_rd encI_len (base := w.heap.size) (e := 30) (cap := cy2) ?_
      rw [List.length_append, List.flatMap_append]
      exact hown6)
    have HV6 := Lib.hid (verify_any (m ++ [⟨14, 0, 0, 0⟩]) Y2 cy2 w6b HC6.out (HL.out.below hbw6) (HF.out.below hbw6) (by unfold maxLen; rw [List.length_append]; simp; omega))
    rw [HS.out, List.length_append] at HV6
    clear hown6 hgr6 hat6 Hown5 HC6 hbw5
    go_wp2_with fail
    refine HV6.out.mono ?_
    rintro e w7 ⟨rfl, hb7⟩
    have hbw7 := hbw6.trans (hb7.mono hbw6.size)
    have HV7 := Lib.hid (verify_any [] none 0 w7 (.inl rfl) (HL.out.below hbw7) (HF.out.below hbw7) (by simp))
    rw [Cf.safe_nil] at HV7
    clear hb7 HV6
    go_wp2_with fail
    refine HV7.out.mono ?_
    rintro e w8 ⟨rfl, hb8⟩
    have hbw8 := hbw7.trans (hb8.mono hbw7.size)
    clear hb8 HV7
    go_wp2
    go_ret
    exact ⟨rfl, hbw8⟩

set_option maxRecDepth 100000 in
theorem contract (H : Type) (enc : TypeId × Value → H) (W : World) (base : Nat) (args : Array Value) (ds gs : List (DataW H)) (before : List MemPlace)
    (hval : ∀ (j : Nat) t v, Tryd.f3.params[j]? = some t → args[j]? = some v → Value.okWide Tryd.prog W .any base t v)
    (hW : DataW.Whole enc Tryd.prog Tryd.f3.params.toList Rows.madeSafeSpec.vars false W args.toList ds gs before)
    (_hsz0 : (DataW.weightsEach Tryd.prog (Tryd.f3.params.toList ++ (OpenSpec.ofChange Rows.madeSafeSpec).bare.plain.varTypes Tryd.prog) (ds ++ gs)).all (· ≤ reachBytes) = true)
    (hL : laidMetH Tryd.prog Rows.madeSafeRow.laid W) (_hsh : W.ShapedOpen Tryd.prog) :
    Calls Tryd.prog 3 args W fun e W' => ∃ v, e = .returned v ∧ Rows.madeSafeSpec.post enc Tryd.prog Tryd.f3 false true false false W args v W' := by
  have hW' := hW
  obtain ⟨p, q, hA0, hV, rfl, hfz, hnd⟩ := hW
  have hA : DataW.TrodAll enc Tryd.prog W 0 (fun _ => true) true Tryd.f3.params.toList args.toList ds p := hA0
  rw [Tryd.params3] at hA hval
  obtain ⟨v0, vs0, d0, ds0, p0, q0, hargs0, rfl, rfl, h0, r0⟩ := trodAll_cons hA
  obtain ⟨v1, vs1, d1, ds1, p1, q1, hargs1, rfl, rfl, h1, r1⟩ := trodAll_cons r0
  obtain ⟨hnil, rfl, rfl⟩ := trodAll_nil r1
  obtain rfl : args = #[v0, v1] := by cases args; simp_all
  obtain ⟨rfl, rfl⟩ : gs = [] ∧ q = [] := by cases gs with | nil => exact ⟨rfl, hV⟩ | cons g gs => exact hV.elim
  obtain ⟨A, cap, l, rfl, hl, hm, hf⟩ := open_fit Tryd.underlying22 rawFields (hval 0 22 v0 rfl rfl) h0
  obtain ⟨n1, rfl, rfl, rfl, hn1⟩ := Go.ChangeShapes.open_int Tryd.underlying3 (hval 1 3 v1 rfl rfl) h1
  refine (walk l hf A cap n1 (fit_wf hn1) W hl hm (laidL hL (List.Mem.head _)) (laidF hL (List.Mem.tail _ (List.Mem.head _)))).mono fun e W' ⟨he, hb⟩ => ?_
  exact ⟨_, he, post_law laidOut (by kernel_rfl) Tryd.underlying4 rfl (by kernel_rfl) (fun ds hd => by
    match ds, hd with
    | [d0, d1], _ => rfl) hW' hb⟩

noncomputable def laidWorld (os : Os) : World := { World.holding Tryd.prog os ⟨#[], #[], []⟩ with heap := (((World.holding Tryd.prog os ⟨#[], #[], []⟩).heap).modify 1 (withCells (Cf.larTab.map (Value.int .i64)))).modify 0 (withCells (Cf.fmtTab.flatten.map (Value.int .i64))) }
theorem laid_met (os : Os) : laidMet Tryd.prog Rows.madeSafeRow.laid ((laidWorld os).forCall (fun _ _ => 0) ⟨#[], #[.slice none 0 0, .int .i64 0], []⟩).memory :=
  laidMet_of_run' 8 (by kernel_rfl) (by kernel_rfl)
theorem reads (os : Os) {H : Type} (enc : TypeId × Value → H) : ∃ places, DataW.whole enc Tryd.prog ((laidWorld os).forCall (fun _ _ => 0) ⟨#[], #[.slice none 0 0, .int .i64 0], []⟩).memory Tryd.f3.params.toList Rows.madeSafeSpec.vars false (#[Value.slice none 0 0, .int .i64 0] : Array Value).toList 8 = some ([.nil, .lit (.int .i64 0)], [], places) :=
  ⟨[], by kernel_rfl⟩

set_option maxRecDepth 100000 in
theorem lifted (os : Os) (started : os.Started) (H : Type) (enc : TypeId × Value → H) (F : Stop.Interp) :
    ReturnsInHanded {} Tryd.checked os 3 .any ((OpenSpec.ofChange Rows.madeSafeSpec).preRow enc Tryd.prog Tryd.f3 Rows.madeSafeRow.domain false Rows.madeSafeRow.laid) (((OpenSpec.ofChange Rows.madeSafeSpec).at F).post enc Tryd.prog Tryd.f3 false true false false) := by
  obtain ⟨places, hx⟩ := reads os enc
  refine returnsInHanded_of_row (C := Tryd.checked) (s := (OpenSpec.ofChange Rows.madeSafeSpec)) own started (by kernel_rfl) Tryd.func3
    (witness_row_at (enc := enc) (C := Tryd.checked) false (laidWorld os) #[.slice none 0 0, .int .i64 0] rfl (by kernel_rfl) (by kernel_rfl) (by kernel_rfl)
      (OpenSpec.preRow_of_cond 8 hx (by kernel_rfl) (fun k hk => by cases hk) (by kernel_rfl) (laid_met os))) ?_
  intro W base args ds gs before hval hW _ hcond hsz hL hsh _
  exact contract H enc W base args ds gs before hval hW hsz hL hsh

theorem said : Rows.MadeSafeSaid :=
  OpenClaim.holds_of_cond 3 Tryd.f3 rfl rfl rfl rfl rfl rfl rfl ⟨rfl, rfl, rfl, rfl, rfl⟩ rfl rfl rfl rfl rfl (by kernel_rfl) Tryd.func3 (by kernel_rfl)
    (of_decide_eq_true (by kernel_rfl)) (by unfold Func.isWrapper; first | (rw [if_pos (by decide +kernel)]; kernel_rfl) | (rw [if_neg (by decide +kernel)]; exact ⟨rfl, rfl⟩))
    (fun os started H enc _ F => by rw [OpenClaim.pre_eq_preRow]; exact lifted os started H enc F)
theorem plain (f : FuncId) (fn : Func) (hf : Tryd.pinned.checked.prog.funcNamed "curfew/curfewkeep.MadeSafe" = some f) (hfn : Tryd.pinned.checked.prog.funcs[f]? = some fn) :
    false = Tryd.pinned.checked.prog.looks [] ∧ ∀ (j : Nat) t, fn.params[j]? = some t → Tryd.pinned.checked.prog.wantsStandIn t = false := by
  obtain rfl : f = 3 := Option.some.inj ((show Tryd.prog.funcNamed "curfew/curfewkeep.MadeSafe" = some 3 by kernel_rfl).symm.trans hf) |>.symm
  obtain rfl : fn = Tryd.f3 := (Option.some.inj (Tryd.func3.symm.trans hfn)).symm
  refine ⟨by kernel_rfl, fun j t ht => ?_⟩
  rw [Tryd.params3] at ht
  have hm : t = 22 ∨ t = 3 := by simpa using Array.mem_of_getElem? ht
  rcases hm with rfl | rfl
  · exact (show Tryd.prog.wantsStandIn 22 = false by kernel_rfl)
  · exact (show Tryd.prog.wantsStandIn 3 = false by kernel_rfl)
theorem card : Rows.MadeSafeCardSaid :=
  Claim7.holds_tied_plain_at .later [] _ _ _ _ said (fun _ h => by cases h) (by kernel_rfl) (fun _ h => by cases h) madeSafe_row_tie rfl ⟨rfl, rfl⟩ (by kernel_rfl) rfl plain (by kernel_rfl)
end Go.Proofs.YtamepbgmajeaeabDoor.MadeSafeLaw
namespace Go.Proofs.YtamepbgmajeaeabDoor
theorem madeSafe_holds : Rows.MadeSafeCardSaid := MadeSafeLaw.card
#print axioms madeSafe_holds
end Go.Proofs.YtamepbgmajeaeabDoor
