/- RunsReckon: for every two numbers, a run of the program that adds, takes away, compares and joins the bits of two words leaves what Go's own operators make of them, modulo 2^16. Conditions: the package-level tables that the road reads hold what the program's text lays (the card ties them). -/
import Derived.Test.YtjmojbnjhcfdkaaDoorCards
import Derived.Test.YtjmojbnjhcfdkaaDoorTie
import Derived.Test.YtjmojbnjhcfdkaaDoorCpuO
import Derived.Test.YtjmojbnjhcfdkaaDoorArrEq
import Derived.Test.YtjmojbnjhcfdkaaDoorTabsL
import Derived.Test.YtjmojbnjhcfdkaaDoorKit
namespace Go.Proofs.YtjmojbnjhcfdkaaDoor.RunsReckonLaw
open Go.ChangeShapes Go.WideShapes Go.ChangeAt Go.RowKit

theorem own : ownKnob Tryd.prog.godebug = none := by kernel_rfl
theorem laidOut : laidOutB Tryd.prog = true := by kernel_rfl
set_option maxHeartbeats 4000000 in
set_option maxRecDepth 100000 in
theorem walk (n1 n2 : Int) (h1 : Fit n1) (h2 : Fit n2) (w : World) (hL : TabL w) (hF : TabF w) :
    Calls Tryd.prog 10 #[.int .i64 n1, .int .i64 n2] w fun e w' => e = .returned (.bool true) ∧ Below w.heap.size w w' := by
  have hx := Cf.pick_range n1 65536 (by omega)
  have hy := Cf.pick_range n2 65536 (by omega)
  have P1 := Lib.hid (picked_any n1 65536 w h1 (by omega) (by omega))
  have P2 := Lib.hid (picked_any n2 65536 w h2 (by omega) (by omega))
  generalize Cf.pick n1 65536 = x at *
  generalize Cf.pick n2 65536 = y at *
  have HT := Lib.hid (reck_T x y ⟨hx.1, by omega⟩ ⟨hy.1, by omega⟩)
  have b1 := Lib.hid (bits_and x y ⟨hx.1, by omega⟩ ⟨hy.1, by omega⟩)
  have b2 := Lib.hid (bits_or x y ⟨hx.1, by omega⟩ ⟨hy.1, by omega⟩)
  have b3 := Lib.hid (bits_xor x y ⟨hx.1, by omega⟩ ⟨hy.1, by omega⟩)
  have hb0 : Below w.heap.size w (w.alloc (.cells (Cf.reckL.flatMap encI).toArray 35)) := (Below.refl _ _).alloc (Nat.le_refl _) _
  have HR := Lib.hid (run_any Cf.reckL (some ⟨w.heap.size, 0, none⟩) 7 x y 0 0 0 0 0 0 [] none 0 100 _ (Wb.codes (Wb.new w 35 (Cf.reckL.flatMap encI))) (hL.below hb0) (hF.below hb0) (by unfold maxLen; decide) (.inl rfl) (by unfold maxLen; decide))
  rw [HT.out] at HR
  obtain ⟨hx1, hx2⟩ := hx
  obtain ⟨hy1, hy2⟩ := hy
  go_enter Tryd.func10, Tryd.ntmps10
  go_wp2_with fail
  refine P1.out.mono ?_
  rintro e w' ⟨rfl, rfl⟩
  go_wp2_with fail
  refine P2.out.mono ?_
  rintro e w' ⟨rfl, rfl⟩
  go_wp2_with fail
  change Calls _ _ _ (w.alloc (.cells (Cf.reckL.flatMap encI).toArray 35)) _
  refine HR.out.mono ?_
  rintro e w1 ⟨T, M, ct, cm, rfl, hT, hM, hb⟩
  have hb2 := hb0.trans (hb.mono hb0.size)
  clear HR P1 P2 hb hT hM hb0 HT
  simp only [List.map_cons, List.map_nil, List.cons_append, List.nil_append, ← b1.out, ← b2.out, ← b3.out]
  by_cases hlt : x < y
  · rw [if_pos hlt]
    have hEq : ∀ W : World, (Op.equalIn 10000 41 (.agg #[.int .i64 x, .int .i64 y, .int .i64 ((x + y) % 65536), .int .i64 x, .int .i64 (bits .and .i64 x y), .int .i64 (bits .xor .i64 x y), .int .i64 (bits .or .i64 x y), .int .i64 1]) (.agg #[.int .i64 x, .int .i64 y, .int .i64 ((x + y) % 65536), .int .i64 x, .int .i64 (bits .and .i64 x y), .int .i64 (bits .xor .i64 x y), .int .i64 (bits .or .i64 x y), .int .i64 1])).run Tryd.prog W = .ok true W := fun W => same8 W _ _ _ _ _ _ _ _
    go_wp2
    go_ret
    exact ⟨by simp, hb2.alloc hb2.size _⟩
  · rw [if_neg hlt]
    have hEq : ∀ W : World, (Op.equalIn 10000 41 (.agg #[.int .i64 x, .int .i64 y, .int .i64 ((x + y) % 65536), .int .i64 x, .int .i64 (bits .and .i64 x y), .int .i64 (bits .xor .i64 x y), .int .i64 (bits .or .i64 x y), .int .i64 0]) (.agg #[.int .i64 x, .int .i64 y, .int .i64 ((x + y) % 65536), .int .i64 x, .int .i64 (bits .and .i64 x y), .int .i64 (bits .xor .i64 x y), .int .i64 (bits .or .i64 x y), .int .i64 0])).run Tryd.prog W = .ok true W := fun W => same8 W _ _ _ _ _ _ _ _
    go_wp2
    go_ret
    exact ⟨by simp, hb2.alloc hb2.size _⟩

set_option maxRecDepth 100000 in
theorem contract (H : Type) (enc : TypeId × Value → H) (W : World) (base : Nat) (args : Array Value) (ds gs : List (DataW H)) (before : List MemPlace)
    (hval : ∀ (j : Nat) t v, Tryd.f10.params[j]? = some t → args[j]? = some v → Value.okWide Tryd.prog W .any base t v)
    (hW : DataW.Whole enc Tryd.prog Tryd.f10.params.toList Rows.runsReckonSpec.vars false W args.toList ds gs before)
    (_hsz0 : (DataW.weightsEach Tryd.prog (Tryd.f10.params.toList ++ (OpenSpec.ofChange Rows.runsReckonSpec).bare.plain.varTypes Tryd.prog) (ds ++ gs)).all (· ≤ reachBytes) = true)
    (hL : laidMetH Tryd.prog Rows.runsReckonRow.laid W) (_hsh : W.ShapedOpen Tryd.prog) :
    Calls Tryd.prog 10 args W fun e W' => ∃ v, e = .returned v ∧ Rows.runsReckonSpec.post enc Tryd.prog Tryd.f10 false true false false W args v W' := by
  have hW' := hW
  obtain ⟨p, q, hA0, hV, rfl, hfz, hnd⟩ := hW
  have hA : DataW.TrodAll enc Tryd.prog W 0 (fun _ => true) true Tryd.f10.params.toList args.toList ds p := hA0
  rw [Tryd.params10] at hA hval
  obtain ⟨v0, vs0, d0, ds0, p0, q0, hargs0, rfl, rfl, h0, r0⟩ := trodAll_cons hA
  obtain ⟨v1, vs1, d1, ds1, p1, q1, hargs1, rfl, rfl, h1, r1⟩ := trodAll_cons r0
  obtain ⟨hnil, rfl, rfl⟩ := trodAll_nil r1
  obtain rfl : args = #[v0, v1] := by cases args; simp_all
  obtain ⟨rfl, rfl⟩ : gs = [] ∧ q = [] := by cases gs with | nil => exact ⟨rfl, hV⟩ | cons g gs => exact hV.elim
  obtain ⟨n1, rfl, rfl, rfl, hn1⟩ := Go.ChangeShapes.open_int Tryd.underlying3 (hval 0 3 v0 rfl rfl) h0
  obtain ⟨n2, rfl, rfl, rfl, hn2⟩ := Go.ChangeShapes.open_int Tryd.underlying3 (hval 1 3 v1 rfl rfl) h1
  refine (walk n1 n2 (fit_of hn1) (fit_of hn2) W (laidL hL (List.Mem.head _)) (laidF hL (List.Mem.tail _ (List.Mem.head _)))).mono fun e W' ⟨he, hb⟩ => ?_
  exact ⟨_, he, post_law laidOut (by kernel_rfl) Tryd.underlying4 rfl (by kernel_rfl) (fun ds hd => by
    match ds, hd with
    | [d0, d1], _ => rfl) hW' hb⟩

noncomputable def laidWorld (os : Os) : World := { World.holding Tryd.prog os ⟨#[], #[], []⟩ with heap := (((World.holding Tryd.prog os ⟨#[], #[], []⟩).heap).modify 2 (withCells (Cf.larTab.map (Value.int .i64)))).modify 0 (withCells (Cf.fmtTab.flatten.map (Value.int .i64))) }
theorem laid_met (os : Os) : laidMet Tryd.prog Rows.runsReckonRow.laid ((laidWorld os).forCall (fun _ _ => 0) ⟨#[], #[.int .i64 0, .int .i64 0], []⟩).memory :=
  laidMet_of_run' 8 (by kernel_rfl) (by kernel_rfl)
theorem reads (os : Os) {H : Type} (enc : TypeId × Value → H) : ∃ places, DataW.whole enc Tryd.prog ((laidWorld os).forCall (fun _ _ => 0) ⟨#[], #[.int .i64 0, .int .i64 0], []⟩).memory Tryd.f10.params.toList Rows.runsReckonSpec.vars false (#[Value.int .i64 0, .int .i64 0] : Array Value).toList 8 = some ([.lit (.int .i64 0), .lit (.int .i64 0)], [], places) :=
  ⟨[], by kernel_rfl⟩

set_option maxRecDepth 100000 in
theorem lifted (os : Os) (started : os.Started) (H : Type) (enc : TypeId × Value → H) (F : Stop.Interp) :
    ReturnsInHanded {} Tryd.checked os 10 .any ((OpenSpec.ofChange Rows.runsReckonSpec).preRow enc Tryd.prog Tryd.f10 Rows.runsReckonRow.domain false Rows.runsReckonRow.laid) (((OpenSpec.ofChange Rows.runsReckonSpec).at F).post enc Tryd.prog Tryd.f10 false true false false) := by
  obtain ⟨places, hx⟩ := reads os enc
  refine returnsInHanded_of_row (C := Tryd.checked) (s := (OpenSpec.ofChange Rows.runsReckonSpec)) own started (by kernel_rfl) Tryd.func10
    (witness_row_at (enc := enc) (C := Tryd.checked) false (laidWorld os) #[.int .i64 0, .int .i64 0] rfl (by kernel_rfl) (by kernel_rfl) (by kernel_rfl)
      (OpenSpec.preRow_of_cond 8 hx (by kernel_rfl) (fun k hk => by cases hk) (by kernel_rfl) (laid_met os))) ?_
  intro W base args ds gs before hval hW _ hcond hsz hL hsh _
  exact contract H enc W base args ds gs before hval hW hsz hL hsh

theorem said : Rows.RunsReckonSaid :=
  OpenClaim.holds_of_cond 10 Tryd.f10 rfl rfl rfl rfl rfl rfl rfl ⟨rfl, rfl, rfl, rfl, rfl⟩ rfl rfl rfl rfl rfl (by kernel_rfl) Tryd.func10 (by kernel_rfl)
    (of_decide_eq_true (by kernel_rfl)) (by unfold Func.isWrapper; first | (rw [if_pos (by decide +kernel)]; kernel_rfl) | (rw [if_neg (by decide +kernel)]; exact ⟨rfl, rfl⟩))
    (fun os started H enc _ F => by rw [OpenClaim.pre_eq_preRow]; exact lifted os started H enc F)
theorem plain (f : FuncId) (fn : Func) (hf : Tryd.pinned.checked.prog.funcNamed "curfew/curfewkeep.RunsReckon" = some f) (hfn : Tryd.pinned.checked.prog.funcs[f]? = some fn) :
    true = Tryd.pinned.checked.prog.looks [] ∧ ∀ (j : Nat) t, fn.params[j]? = some t → Tryd.pinned.checked.prog.wantsStandIn t = false := by
  obtain rfl : f = 10 := Option.some.inj ((show Tryd.prog.funcNamed "curfew/curfewkeep.RunsReckon" = some 10 by kernel_rfl).symm.trans hf) |>.symm
  obtain rfl : fn = Tryd.f10 := (Option.some.inj (Tryd.func10.symm.trans hfn)).symm
  refine ⟨by kernel_rfl, fun j t ht => ?_⟩
  rw [Tryd.params10] at ht
  obtain rfl : t = 3 := by simpa using Array.mem_of_getElem? ht
  exact (show Tryd.prog.wantsStandIn 3 = false by kernel_rfl)
theorem card : Rows.RunsReckonCardSaid :=
  Claim7.holds_tied_plain_at .later [] _ _ _ _ said (fun _ h => by cases h) (by kernel_rfl) (fun _ h => by cases h) runsReckon_row_tie rfl ⟨rfl, rfl⟩ (by kernel_rfl) rfl plain (by kernel_rfl)
end Go.Proofs.YtjmojbnjhcfdkaaDoor.RunsReckonLaw
namespace Go.Proofs.YtjmojbnjhcfdkaaDoor
theorem runsReckon_holds : Rows.RunsReckonCardSaid := RunsReckonLaw.card
#print axioms runsReckon_holds
end Go.Proofs.YtjmojbnjhcfdkaaDoor
