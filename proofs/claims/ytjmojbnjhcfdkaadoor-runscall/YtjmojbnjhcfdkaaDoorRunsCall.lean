/- RunsCall: for every number, code that calls itself from one to thirty-two times comes back to the instruction behind each call, and ends with Deep where the calls are more than the document lets be. Conditions: the package-level tables that the road reads hold what the program's text lays (the card ties them). -/
import Derived.Test.YtjmojbnjhcfdkaaDoorCards
import Derived.Test.YtjmojbnjhcfdkaaDoorTie
import Derived.Test.YtjmojbnjhcfdkaaDoorCpuO
import Derived.Test.YtjmojbnjhcfdkaaDoorTabsL
import Derived.Test.YtjmojbnjhcfdkaaDoorKit
namespace Go.Proofs.YtjmojbnjhcfdkaaDoor.RunsCallLaw
open Go.ChangeShapes Go.WideShapes Go.ChangeAt Go.RowKit

theorem own : ownKnob Tryd.prog.godebug = none := by kernel_rfl
theorem laidOut : laidOutB Tryd.prog = true := by kernel_rfl
set_option maxHeartbeats 4000000 in
set_option maxRecDepth 100000 in
theorem walk (n1 : Int) (h1 : Fit n1) (w : World) (hL : TabL w) (hF : TabF w) :
    Calls Tryd.prog 11 #[.int .i64 n1] w fun e w' => e = .returned (.bool true) ∧ Below w.heap.size w w' := by
  obtain ⟨k, hk, hk1⟩ : ∃ k : Nat, Cf.pick n1 32 = k ∧ k < 32 := by
    obtain ⟨h1, h2⟩ := Cf.pick_range n1 32 (by omega)
    exact ⟨(Cf.pick n1 32).toNat, by omega, by omega⟩
  have P1 := Lib.hid (picked_any n1 32 w h1 (by omega) (by omega))
  rw [hk] at P1
  have hT := call_T k hk1
  have hb0 : Below w.heap.size w (w.alloc (.cells ((Cf.callL (1 + (k : Int))).flatMap encI).toArray 35)) := (Below.refl _ _).alloc (Nat.le_refl _) _
  have hw0 := Wb.codes (Wb.new w 35 ((Cf.callL (1 + (k : Int))).flatMap encI))
  have HR := Lib.hid (run_any (Cf.callL (1 + (k : Int))) (some ⟨w.heap.size, 0, none⟩) 9 0 0 0 0 0 0 0 0 [] none 0 2000 _ hw0 (hL.below hb0) (hF.below hb0) (by unfold maxLen; simp [Cf.callL]) (.inl rfl) (by unfold maxLen; decide))
  clear hk hw0
  by_cases h16 : 16 < 1 + (k : Int)
  · rw [if_pos h16] at hT
    obtain ⟨s0, s1, s2, s3, s4, s5, s6, s7, told, mem, hT⟩ := hT
    rw [hT] at HR
    clear hT
    go_enter Tryd.func11, Tryd.ntmps11
    go_wp2_with fail
    refine P1.out.mono ?_
    rintro e w' ⟨rfl, rfl⟩
    go_wp2_with fail
    change Calls _ _ _ (w.alloc (.cells ((Cf.callL (1 + (k : Int))).flatMap encI).toArray 35)) _
    refine HR.out.mono ?_
    rintro e w1 ⟨T, M, ct, cm, rfl, hT, hM, hb⟩
    have hb2 := hb0.trans (hb.mono hb0.size)
    clear HR P1 hb hT hM hb0
    simp only [List.map_cons, List.map_nil, List.cons_append, List.nil_append]
    go_wp2
    go_ret
    exact ⟨by simp, hb2.alloc hb2.size _⟩
  · rw [if_neg h16] at hT
    obtain ⟨s0, s3, s4, s5, s6, s7, told, mem, hT⟩ := hT
    rw [hT] at HR
    clear hT
    go_enter Tryd.func11, Tryd.ntmps11
    go_wp2_with fail
    refine P1.out.mono ?_
    rintro e w' ⟨rfl, rfl⟩
    go_wp2_with fail
    change Calls _ _ _ (w.alloc (.cells ((Cf.callL (1 + (k : Int))).flatMap encI).toArray 35)) _
    refine HR.out.mono ?_
    rintro e w1 ⟨T, M, ct, cm, rfl, hT, hM, hb⟩
    have hb2 := hb0.trans (hb.mono hb0.size)
    clear HR P1 hb hT hM hb0
    simp only [List.map_cons, List.map_nil, List.cons_append, List.nil_append]
    go_wp2
    go_ret
    exact ⟨by simp, hb2.alloc hb2.size _⟩

set_option maxRecDepth 100000 in
theorem contract (H : Type) (enc : TypeId × Value → H) (W : World) (base : Nat) (args : Array Value) (ds gs : List (DataW H)) (before : List MemPlace)
    (hval : ∀ (j : Nat) t v, Tryd.f11.params[j]? = some t → args[j]? = some v → Value.okWide Tryd.prog W .any base t v)
    (hW : DataW.Whole enc Tryd.prog Tryd.f11.params.toList Rows.runsCallSpec.vars false W args.toList ds gs before)
    (_hsz0 : (DataW.weightsEach Tryd.prog (Tryd.f11.params.toList ++ (OpenSpec.ofChange Rows.runsCallSpec).bare.plain.varTypes Tryd.prog) (ds ++ gs)).all (· ≤ reachBytes) = true)
    (hL : laidMetH Tryd.prog Rows.runsCallRow.laid W) (_hsh : W.ShapedOpen Tryd.prog) :
    Calls Tryd.prog 11 args W fun e W' => ∃ v, e = .returned v ∧ Rows.runsCallSpec.post enc Tryd.prog Tryd.f11 false true false false W args v W' := by
  have hW' := hW
  obtain ⟨p, q, hA0, hV, rfl, hfz, hnd⟩ := hW
  have hA : DataW.TrodAll enc Tryd.prog W 0 (fun _ => true) true Tryd.f11.params.toList args.toList ds p := hA0
  rw [Tryd.params11] at hA hval
  obtain ⟨v0, vs0, d0, ds0, p0, q0, hargs0, rfl, rfl, h0, r0⟩ := trodAll_cons hA
  obtain ⟨hnil, rfl, rfl⟩ := trodAll_nil r0
  obtain rfl : args = #[v0] := by cases args; simp_all
  obtain ⟨rfl, rfl⟩ : gs = [] ∧ q = [] := by cases gs with | nil => exact ⟨rfl, hV⟩ | cons g gs => exact hV.elim
  obtain ⟨n1, rfl, rfl, rfl, hn1⟩ := Go.ChangeShapes.open_int Tryd.underlying3 (hval 0 3 v0 rfl rfl) h0
  refine (walk n1 (fit_of hn1) W (laidL hL (List.Mem.head _)) (laidF hL (List.Mem.tail _ (List.Mem.head _)))).mono fun e W' ⟨he, hb⟩ => ?_
  exact ⟨_, he, post_law laidOut (by kernel_rfl) Tryd.underlying4 rfl (by kernel_rfl) (fun ds hd => by
    match ds, hd with
    | [d0], _ => rfl) hW' hb⟩

noncomputable def laidWorld (os : Os) : World := { World.holding Tryd.prog os ⟨#[], #[], []⟩ with heap := (((World.holding Tryd.prog os ⟨#[], #[], []⟩).heap).modify 2 (withCells (Cf.larTab.map (Value.int .i64)))).modify 0 (withCells (Cf.fmtTab.flatten.map (Value.int .i64))) }
theorem laid_met (os : Os) : laidMet Tryd.prog Rows.runsCallRow.laid ((laidWorld os).forCall (fun _ _ => 0) ⟨#[], #[.int .i64 0], []⟩).memory :=
  laidMet_of_run' 8 (by kernel_rfl) (by kernel_rfl)
theorem reads (os : Os) {H : Type} (enc : TypeId × Value → H) : ∃ places, DataW.whole enc Tryd.prog ((laidWorld os).forCall (fun _ _ => 0) ⟨#[], #[.int .i64 0], []⟩).memory Tryd.f11.params.toList Rows.runsCallSpec.vars false (#[Value.int .i64 0] : Array Value).toList 8 = some ([.lit (.int .i64 0)], [], places) :=
  ⟨[], by kernel_rfl⟩

set_option maxRecDepth 100000 in
theorem lifted (os : Os) (started : os.Started) (H : Type) (enc : TypeId × Value → H) (F : Stop.Interp) :
    ReturnsInHanded {} Tryd.checked os 11 .any ((OpenSpec.ofChange Rows.runsCallSpec).preRow enc Tryd.prog Tryd.f11 Rows.runsCallRow.domain false Rows.runsCallRow.laid) (((OpenSpec.ofChange Rows.runsCallSpec).at F).post enc Tryd.prog Tryd.f11 false true false false) := by
  obtain ⟨places, hx⟩ := reads os enc
  refine returnsInHanded_of_row (C := Tryd.checked) (s := (OpenSpec.ofChange Rows.runsCallSpec)) own started (by kernel_rfl) Tryd.func11
    (witness_row_at (enc := enc) (C := Tryd.checked) false (laidWorld os) #[.int .i64 0] rfl (by kernel_rfl) (by kernel_rfl) (by kernel_rfl)
      (OpenSpec.preRow_of_cond 8 hx (by kernel_rfl) (fun k hk => by cases hk) (by kernel_rfl) (laid_met os))) ?_
  intro W base args ds gs before hval hW _ hcond hsz hL hsh _
  exact contract H enc W base args ds gs before hval hW hsz hL hsh

theorem said : Rows.RunsCallSaid :=
  OpenClaim.holds_of_cond 11 Tryd.f11 rfl rfl rfl rfl rfl rfl rfl ⟨rfl, rfl, rfl, rfl, rfl⟩ rfl rfl rfl rfl rfl (by kernel_rfl) Tryd.func11 (by kernel_rfl)
    (of_decide_eq_true (by kernel_rfl)) (by unfold Func.isWrapper; first | (rw [if_pos (by decide +kernel)]; kernel_rfl) | (rw [if_neg (by decide +kernel)]; exact ⟨rfl, rfl⟩))
    (fun os started H enc _ F => by rw [OpenClaim.pre_eq_preRow]; exact lifted os started H enc F)
theorem plain (f : FuncId) (fn : Func) (hf : Tryd.pinned.checked.prog.funcNamed "curfew/curfewkeep.RunsCall" = some f) (hfn : Tryd.pinned.checked.prog.funcs[f]? = some fn) :
    true = Tryd.pinned.checked.prog.looks [] ∧ ∀ (j : Nat) t, fn.params[j]? = some t → Tryd.pinned.checked.prog.wantsStandIn t = false := by
  obtain rfl : f = 11 := Option.some.inj ((show Tryd.prog.funcNamed "curfew/curfewkeep.RunsCall" = some 11 by kernel_rfl).symm.trans hf) |>.symm
  obtain rfl : fn = Tryd.f11 := (Option.some.inj (Tryd.func11.symm.trans hfn)).symm
  refine ⟨by kernel_rfl, fun j t ht => ?_⟩
  rw [Tryd.params11] at ht
  obtain rfl : t = 3 := by simpa using Array.mem_of_getElem? ht
  exact (show Tryd.prog.wantsStandIn 3 = false by kernel_rfl)
theorem card : Rows.RunsCallCardSaid :=
  Claim7.holds_tied_plain_at .later [] _ _ _ _ said (fun _ h => by cases h) (by kernel_rfl) (fun _ h => by cases h) runsCall_row_tie rfl ⟨rfl, rfl⟩ (by kernel_rfl) rfl plain (by kernel_rfl)
end Go.Proofs.YtjmojbnjhcfdkaaDoor.RunsCallLaw
namespace Go.Proofs.YtjmojbnjhcfdkaaDoor
theorem runsCall_holds : Rows.RunsCallCardSaid := RunsCallLaw.card
#print axioms runsCall_holds
end Go.Proofs.YtjmojbnjhcfdkaaDoor
