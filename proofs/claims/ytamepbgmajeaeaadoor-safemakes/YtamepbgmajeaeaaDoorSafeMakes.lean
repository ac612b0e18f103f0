/- SafeMakes: for every code, safe.Make answers as the reference does (the code that is made, and the error). Conditions: the package-level tables that the road reads hold what the program's text lays (the card ties them). -/
import Derived.Test.YtamepbgmajeaeaaDoorCards
import Derived.Test.YtamepbgmajeaeaaDoorTie
import Derived.Test.YtamepbgmajeaeaaDoorMadeOfR
import Derived.Test.YtamepbgmajeaeaaDoorSameC
import Derived.Test.YtamepbgmajeaeaaDoorAppS
import Derived.Test.YtamepbgmajeaeaaDoorOpenS
import Derived.Test.YtamepbgmajeaeaaDoorTabsL
import Derived.Test.YtamepbgmajeaeaaDoorKit
namespace Go.Proofs.YtamepbgmajeaeaaDoor.SafeMakesLaw
open Go.ChangeShapes Go.WideShapes Go.ChangeAt Go.RowKit

theorem own : ownKnob Tryd.prog.godebug = none := by kernel_rfl
theorem laidOut : laidOutB Tryd.prog = true := by kernel_rfl
theorem bytesIns : Tryd.prog.bytesOf 35 = 32 := by kernel_rfl
theorem one_i : ∀ x, ∀ u ∈ encI x, u.oneCell' = true := by
  intro x u hu
  simp [encI] at hu
  rcases hu with rfl | rfl | rfl | rfl <;> rfl
theorem made_len (l : List Cf.Ins) : (Cf.madeT l).code.length ≤ maxLen := by
  unfold Cf.madeT
  split
  · split
    · split
      · show (Cf.madeL l).length ≤ maxLen
        unfold maxLen
        omega
      · simp
    · simp
  · simp
set_option maxHeartbeats 2000000 in
theorem walk (l : List Cf.Ins) (A : Option Addr) (cap : Nat) (w : World) (hR : Codes w A l) (hL : TabL w) (hF : TabF w) (hm : l.length ≤ maxLen) (hmb : l.length * 32 ≤ 140737488355328) :
    Calls Tryd.prog 13 #[.slice A l.length cap] w fun e w' => e = .returned (.bool true) ∧ Below w.heap.size w w' := by
  obtain ⟨i0, hi, hz0, hz1, hz2⟩ := info_parts infoIns
  have Hi := Lib.hid hi
  have Hz0 := Lib.hid hz0
  have Hz1 := Lib.hid hz1
  have Hz2 := Lib.hid hz2
  have HR := Lib.hid hR
  have HML := Lib.hid (made_len l)
  have HM := Lib.hid hm
  clear hi hz0 hz1 hz2 hR
  go_enter Tryd.func13, Tryd.ntmps13
  go_wp2_with (at_builtin; refine wpList_append_src rfl _ _ 22 rfl w.heap.size 35 i0 (.agg #[.int .i64 0, .int .i64 0, .int .i64 0, .int .i64 0]) 4 32 Tryd.underlying22 Hi.out Hz0.out Hz1.out Hz2.out rfl (by decide) encI_len one_i _ 0 [] rfl (World.ownsRow_nil _ _ _ _) A cap l rfl HR.out (by omega) (by omega) (Nat.le_refl _) ?_)
  intro v' w1 hown hgr hat
  obtain ⟨K, ck, rfl⟩ := own_form hown
  have hb1 : Below w.heap.size w w1 := (Below.refl _ _).grown hgr (Nat.le_refl _) (fun k hk => by simp [Value.ownBlock] at hk)
  have HK := Lib.hid (own_rd encI_len hown)
  have HMk := Lib.hid (make_any l K ck w1 HK.out (hL.below hb1) (hF.below hb1) HM.out)
  clear hown hgr hat hL hF
  go_wp2_with fail
  refine HMk.out.mono ?_
  rintro e w2 ⟨X, cx, rfl, hX, hb2⟩
  have hbw2 := hb1.trans (hb2.mono hb1.size)
  have HO := Lib.hid (madeOf_any l A cap w2 (HR.out.below hbw2) HM.out)
  clear hb1 hb2 HMk HK
  go_wp2_with fail
  refine HO.out.mono ?_
  rintro e w3 ⟨Y, cy, rfl, hY, hb3⟩
  have hbw3 := hbw2.trans (hb3.mono hbw2.size)
  have hX3 := hX.below hb3
  clear hb3 hX hbw2 HO
  generalize Cf.madeT l = m at *
  obtain ⟨mc, me⟩ := m
  dsimp only at hX3 hY HML ⊢
  go_wp2_with fail
  refine (sameCode_same mc X Y cx cy _ hX3 hY HML.out).mono ?_
  rintro e w4 ⟨rfl, hb4⟩
  have hbw4 := hbw3.trans (hb4.mono hbw3.size)
  clear hb4 hbw3 hX3 hY
  go_wp2
  go_ret
  exact ⟨rfl, hbw4⟩

set_option maxRecDepth 100000 in
theorem contract (H : Type) (enc : TypeId × Value → H) (W : World) (base : Nat) (args : Array Value) (ds gs : List (DataW H)) (before : List MemPlace)
    (hval : ∀ (j : Nat) t v, Tryd.f13.params[j]? = some t → args[j]? = some v → Value.okWide Tryd.prog W .any base t v)
    (hW : DataW.Whole enc Tryd.prog Tryd.f13.params.toList Rows.safeMakesSpec.vars false W args.toList ds gs before)
    (hsz0 : (DataW.weightsEach Tryd.prog (Tryd.f13.params.toList ++ (OpenSpec.ofChange Rows.safeMakesSpec).bare.plain.varTypes Tryd.prog) (ds ++ gs)).all (· ≤ reachBytes) = true)
    (hL : laidMetH Tryd.prog Rows.safeMakesRow.laid W) (_hsh : W.ShapedOpen Tryd.prog) :
    Calls Tryd.prog 13 args W fun e W' => ∃ v, e = .returned v ∧ Rows.safeMakesSpec.post enc Tryd.prog Tryd.f13 false true false false W args v W' := by
  have hW' := hW
  obtain ⟨p, q, hA0, hV, rfl, hfz, hnd⟩ := hW
  have hA : DataW.TrodAll enc Tryd.prog W 0 (fun _ => true) true Tryd.f13.params.toList args.toList ds p := hA0
  rw [Tryd.params13] at hA hval
  obtain ⟨v0, vs0, d0, ds0, p0, q0, hargs0, rfl, rfl, h0, r0⟩ := trodAll_cons hA
  obtain ⟨hnil, rfl, rfl⟩ := trodAll_nil r0
  obtain rfl : args = #[v0] := by cases args; simp_all
  obtain ⟨rfl, rfl⟩ : gs = [] ∧ q = [] := by cases gs with | nil => exact ⟨rfl, hV⟩ | cons g gs => exact hV.elim
  rw [Tryd.params13] at hsz0
  obtain ⟨A, cap, l, rfl, hl, hm⟩ := open_ins Tryd.underlying22 insFields (hval 0 22 v0 rfl rfl) h0
  have hmb : l.length * 32 ≤ 140737488355328 := by
    rcases slice_datum Tryd.underlying22 h0 with h | ⟨elems, spare, rfl, hel⟩
    · omega
    · have := sized_slice hsz0 (j := 0) (t := 22) (e := 35) rfl rfl Tryd.underlying22
      rw [bytesIns] at this
      simp only [reachBytes] at this
      rw [← hel]
      omega
  refine (walk l A cap W hl (laidL hL (List.Mem.head _)) (laidF hL (List.Mem.tail _ (List.Mem.head _))) hm hmb).mono fun e W' ⟨he, hb⟩ => ?_
  exact ⟨_, he, post_law laidOut (by kernel_rfl) Tryd.underlying4 rfl (by kernel_rfl) (fun ds hd => by
    match ds, hd with
    | [d0], _ => rfl) hW' hb⟩

noncomputable def laidWorld (os : Os) : World := { World.holding Tryd.prog os ⟨#[], #[], []⟩ with heap := (((World.holding Tryd.prog os ⟨#[], #[], []⟩).heap).modify 2 (withCells (Cf.larTab.map (Value.int .i64)))).modify 0 (withCells (Cf.fmtTab.flatten.map (Value.int .i64))) }
theorem laid_met (os : Os) : laidMet Tryd.prog Rows.safeMakesRow.laid ((laidWorld os).forCall (fun _ _ => 0) ⟨#[], #[.slice none 0 0], []⟩).memory :=
  laidMet_of_run' 8 (by kernel_rfl) (by kernel_rfl)
theorem reads (os : Os) {H : Type} (enc : TypeId × Value → H) : ∃ places, DataW.whole enc Tryd.prog ((laidWorld os).forCall (fun _ _ => 0) ⟨#[], #[.slice none 0 0], []⟩).memory Tryd.f13.params.toList Rows.safeMakesSpec.vars false (#[Value.slice none 0 0] : Array Value).toList 8 = some ([.nil], [], places) :=
  ⟨[], by kernel_rfl⟩

set_option maxRecDepth 100000 in
theorem lifted (os : Os) (started : os.Started) (H : Type) (enc : TypeId × Value → H) (F : Stop.Interp) :
    ReturnsInHanded {} Tryd.checked os 13 .any ((OpenSpec.ofChange Rows.safeMakesSpec).preRow enc Tryd.prog Tryd.f13 Rows.safeMakesRow.domain false Rows.safeMakesRow.laid) (((OpenSpec.ofChange Rows.safeMakesSpec).at F).post enc Tryd.prog Tryd.f13 false true false false) := by
  obtain ⟨places, hx⟩ := reads os enc
  refine returnsInHanded_of_row (C := Tryd.checked) (s := (OpenSpec.ofChange Rows.safeMakesSpec)) own started (by kernel_rfl) Tryd.func13
    (witness_row_at (enc := enc) (C := Tryd.checked) false (laidWorld os) #[.slice none 0 0] rfl (by kernel_rfl) (by kernel_rfl) (by kernel_rfl)
      (OpenSpec.preRow_of_cond 8 hx (by kernel_rfl) (fun k hk => by cases hk) (by kernel_rfl) (laid_met os))) ?_
  intro W base args ds gs before hval hW _ hcond hsz hL hsh _
  exact contract H enc W base args ds gs before hval hW hsz hL hsh

theorem said : Rows.SafeMakesSaid :=
  OpenClaim.holds_of_cond 13 Tryd.f13 rfl rfl rfl rfl rfl rfl rfl ⟨rfl, rfl, rfl, rfl, rfl⟩ rfl rfl rfl rfl rfl (by kernel_rfl) Tryd.func13 (by kernel_rfl)
    (of_decide_eq_true (by kernel_rfl)) (by unfold Func.isWrapper; first | (rw [if_pos (by decide +kernel)]; kernel_rfl) | (rw [if_neg (by decide +kernel)]; exact ⟨rfl, rfl⟩))
    (fun os started H enc _ F => by rw [OpenClaim.pre_eq_preRow]; exact lifted os started H enc F)
theorem plain (f : FuncId) (fn : Func) (hf : Tryd.pinned.checked.prog.funcNamed "curfew/curfewlaw.SafeMakes" = some f) (hfn : Tryd.pinned.checked.prog.funcs[f]? = some fn) :
    true = Tryd.pinned.checked.prog.looks [] ∧ ∀ (j : Nat) t, fn.params[j]? = some t → Tryd.pinned.checked.prog.wantsStandIn t = false := by
  obtain rfl : f = 13 := Option.some.inj ((show Tryd.prog.funcNamed "curfew/curfewlaw.SafeMakes" = some 13 by kernel_rfl).symm.trans hf) |>.symm
  obtain rfl : fn = Tryd.f13 := (Option.some.inj (Tryd.func13.symm.trans hfn)).symm
  refine ⟨by kernel_rfl, fun j t ht => ?_⟩
  rw [Tryd.params13] at ht
  obtain rfl : t = 22 := by simpa using Array.mem_of_getElem? ht
  exact (show Tryd.prog.wantsStandIn 22 = false by kernel_rfl)
theorem card : Rows.SafeMakesCardSaid :=
  Claim7.holds_tied_plain_at .later [] _ _ _ _ said (fun _ h => by cases h) (by kernel_rfl) (fun _ h => by cases h) safeMakes_row_tie rfl ⟨rfl, rfl⟩ (by kernel_rfl) rfl plain (by kernel_rfl)
end Go.Proofs.YtamepbgmajeaeaaDoor.SafeMakesLaw
namespace Go.Proofs.YtamepbgmajeaeaaDoor
theorem safeMakes_holds : Rows.SafeMakesCardSaid := SafeMakesLaw.card
#print axioms safeMakes_holds
end Go.Proofs.YtamepbgmajeaeaaDoor
