/- RunsCount: for every two numbers, a loop that counts down from one to a hundred ends with Done after just the steps that it takes, with the counter at 0, and with less fuel it ends with Spent. Conditions: the package-level tables that the road reads hold what the program's text lays (the card ties them). -/
import Derived.Test.YtjmojbnjhcfdkaaDoorCards
import Derived.Test.YtjmojbnjhcfdkaaDoorTie
import Derived.Test.YtjmojbnjhcfdkaaDoorCpuO
import Derived.Test.YtjmojbnjhcfdkaaDoorTabsL
import Derived.Test.YtjmojbnjhcfdkaaDoorKit
namespace Go.Proofs.YtjmojbnjhcfdkaaDoor.RunsCountLaw
open Go.ChangeShapes Go.WideShapes Go.ChangeAt Go.RowKit

theorem own : ownKnob Tryd.prog.godebug = none := by kernel_rfl
theorem laidOut : laidOutB Tryd.prog = true := by kernel_rfl
set_option maxHeartbeats 4000000 in
set_option maxRecDepth 100000 in
theorem walk (n1 n2 : Int) (h1 : Fit n1) (h2 : Fit n2) (w : World) (hL : TabL w) (hF : TabF w) :
    Calls Tryd.prog 9 #[.int .i64 n1, .int .i64 n2] w fun e w' => e = .returned (.bool true) ∧ Below w.heap.size w w' := by
  obtain ⟨k, hk, hk1⟩ : ∃ k : Nat, Cf.pick n1 100 = k ∧ k < 100 := by
    obtain ⟨h1, h2⟩ := Cf.pick_range n1 100 (by omega)
    exact ⟨(Cf.pick n1 100).toNat, by omega, by omega⟩
  have P1 := Lib.hid (picked_any n1 100 w h1 (by omega) (by omega))
  rw [hk] at P1
  have hf := Cf.pick_range n2 (2 + 3 * (1 + (k : Int))) (by omega)
  have P2 := Lib.hid (fun W => picked_any n2 (2 + 3 * (1 + (k : Int))) W h2 (by omega) (by omega))
  generalize Cf.pick n2 (2 + 3 * (1 + (k : Int))) = f at *
  obtain ⟨s0, s2, s3, s4, s5, s6, s7, told, mem, hT1⟩ := cnt_T k hk1
  obtain ⟨u0, u1, u2, u3, u4, u5, u6, u7, told2, mem2, hT2⟩ := cnt_T2 k hk1 f hf.1 hf.2
  obtain ⟨hf1, hf2⟩ := hf
  have hb0 : Below w.heap.size w (w.alloc (.cells ((Cf.cntL (1 + (k : Int))).flatMap encI).toArray 35)) := (Below.refl _ _).alloc (Nat.le_refl _) _
  have hw0 := Wb.codes (Wb.new w 35 ((Cf.cntL (1 + (k : Int))).flatMap encI))
  have HR := Lib.hid (run_any (Cf.cntL (1 + (k : Int))) (some ⟨w.heap.size, 0, none⟩) 6 0 0 0 0 0 0 0 0 [] none 0 (2 + 3 * (1 + (k : Int))) _ hw0 (hL.below hb0) (hF.below hb0) (by unfold maxLen; simp [Cf.cntL]) (.inl rfl) (by unfold maxLen; decide))
  rw [hT1] at HR
  have HT2 := Lib.hid hT2
  have Hw0 := Lib.hid hw0
  clear hT1 hT2 hk hw0
  go_enter Tryd.func9, Tryd.ntmps9
  go_wp2_with fail
  refine P1.out.mono ?_
  rintro e w' ⟨rfl, rfl⟩
  go_wp2_with fail
  change Calls _ _ _ (w.alloc (.cells ((Cf.cntL (1 + (k : Int))).flatMap encI).toArray 35)) _
  refine HR.out.mono ?_
  rintro e w1 ⟨T, M, ct, cm, rfl, hT, hM, hb⟩
  have hb2 := hb0.trans (hb.mono hb0.size)
  have hw1 := Hw0.out.below hb
  clear HR P1 hb hT hM hb0 Hw0
  simp only [List.map_cons, List.map_nil, List.cons_append, List.nil_append]
  go_wp2_with fail
  refine (P2.out _).mono ?_
  rintro e w' ⟨rfl, rfl⟩
  have hb3 := (Below.refl w1.heap.size w1).alloc (Nat.le_refl _) (.cells #[.int .i64 1, .int .i64 s0, .int .i64 0, .int .i64 s2, .int .i64 s3, .int .i64 s4, .int .i64 s5, .int .i64 s6, .int .i64 s7, .slice T told.length ct, .slice M mem.length cm] 44)
  have hb4 := hb2.trans (hb3.mono hb2.size)
  have HR2 := Lib.hid (run_any (Cf.cntL (1 + (k : Int))) (some ⟨w.heap.size, 0, none⟩) 6 0 0 0 0 0 0 0 0 [] none 0 f _ (hw1.below hb3) (hL.below hb4) (hF.below hb4) (by unfold maxLen; simp [Cf.cntL]) (.inl rfl) (by unfold maxLen; decide))
  rw [HT2.out] at HR2
  have p0 : (w1.alloc (.cells #[.int .i64 1, .int .i64 s0, .int .i64 0, .int .i64 s2, .int .i64 s3, .int .i64 s4, .int .i64 s5, .int .i64 s6, .int .i64 s7, .slice T told.length ct, .slice M mem.length cm] 44)).cell? ⟨w1.heap.size, 0, none⟩ = some (.int .i64 1) := by simp
  have p2 : (w1.alloc (.cells #[.int .i64 1, .int .i64 s0, .int .i64 0, .int .i64 s2, .int .i64 s3, .int .i64 s4, .int .i64 s5, .int .i64 s6, .int .i64 s7, .slice T told.length ct, .slice M mem.length cm] 44)).cell? ⟨w1.heap.size, 2, none⟩ = some (.int .i64 0) := by simp
  have hz : w1.heap.size < (w1.alloc (.cells #[.int .i64 1, .int .i64 s0, .int .i64 0, .int .i64 s2, .int .i64 s3, .int .i64 s4, .int .i64 s5, .int .i64 s6, .int .i64 s7, .slice T told.length ct, .slice M mem.length cm] 44)).heap.size := by simp
  go_wp2_with fail
  generalize w1.alloc _ = w5 at *
  refine HR2.out.mono ?_
  rintro e w6 ⟨T2, M2, ct2, cm2, rfl, hT, hM, hb⟩
  have hb6 := hb4.trans (hb.mono hb4.size)
  have r0 := (hb.cell (p := ⟨w1.heap.size, 0, none⟩) hz).trans p0
  have r2 := (hb.cell (p := ⟨w1.heap.size, 2, none⟩) hz).trans p2
  have hz6 : w1.heap.size < w6.heap.size := by have := hb.size; omega
  clear HR2 P2 hb hT hM hb2 hb3 hb4 hw1 p0 p2
  simp only [List.map_cons, List.map_nil, List.cons_append, List.nil_append]
  go_wp2
  go_ret
  exact ⟨by simp, hb6.alloc hb6.size _⟩

set_option maxRecDepth 100000 in
theorem contract (H : Type) (enc : TypeId × Value → H) (W : World) (base : Nat) (args : Array Value) (ds gs : List (DataW H)) (before : List MemPlace)
    (hval : ∀ (j : Nat) t v, Tryd.f9.params[j]? = some t → args[j]? = some v → Value.okWide Tryd.prog W .any base t v)
    (hW : DataW.Whole enc Tryd.prog Tryd.f9.params.toList Rows.runsCountSpec.vars false W args.toList ds gs before)
    (_hsz0 : (DataW.weightsEach Tryd.prog (Tryd.f9.params.toList ++ (OpenSpec.ofChange Rows.runsCountSpec).bare.plain.varTypes Tryd.prog) (ds ++ gs)).all (· ≤ reachBytes) = true)
    (hL : laidMetH Tryd.prog Rows.runsCountRow.laid W) (_hsh : W.ShapedOpen Tryd.prog) :
    Calls Tryd.prog 9 args W fun e W' => ∃ v, e = .returned v ∧ Rows.runsCountSpec.post enc Tryd.prog Tryd.f9 false true false false W args v W' := by
  have hW' := hW
  obtain ⟨p, q, hA0, hV, rfl, hfz, hnd⟩ := hW
  have hA : DataW.TrodAll enc Tryd.prog W 0 (fun _ => true) true Tryd.f9.params.toList args.toList ds p := hA0
  rw [Tryd.params9] at hA hval
  obtain ⟨v0, vs0, d0, ds0, p0, q0, hargs0, rfl, rfl, h0, r0⟩ := trodAll_cons hA
  obtain ⟨v1, vs1, d1, ds1, p1, q1, hargs1, rfl, rfl, h1, r1⟩ := trodAll_cons r0
  obtain ⟨hnil, rfl, rfl⟩ := trodAll_nil r1
  obtain rfl : args = #[v0, v1] := by cases args; simp_all
  obtain ⟨rfl, rfl⟩ : gs = [] ∧ q = [] := by cases gs with | nil => exact ⟨rfl, hV⟩ | cons g gs => exact hV.elim
  obtain ⟨n1, rfl, rfl, rfl, hn1⟩ := Go.ChangeShapes.open_int Tryd.underlying3 (hval 0 3 v0 rfl rfl) h0
  obtain ⟨n2, rfl, rfl, rfl, hn2⟩ := Go.ChangeShapes.open_int Tryd.underlying3 (hval 1 3 v1 rfl rfl) h1
  refine (walk n1 n2 (fit_of hn1) (fit_of hn2) W (laidL hL (List.Mem.head _)) (laidF hL (List.Mem.tail _ (List.Mem.head _)))).mono fun e W' ⟨he, hb⟩ => ?_
  exact ⟨_, he, post_law laidOut (by kernel_rfl) Tryd.underlying4 rfl (by kernel_rfl) (fun ds hd => by
    match ds, hd with
    | [d0, d1], _ => rfl) hW' hb⟩

noncomputable def laidWorld (os : Os) : World := { World.holding Tryd.prog os ⟨#[], #[], []⟩ with heap := (((World.holding Tryd.prog os ⟨#[], #[], []⟩).heap).modify 2 (withCells (Cf.larTab.map (Value.int .i64)))).modify 0 (withCells (Cf.fmtTab.flatten.map (Value.int .i64))) }
theorem laid_met (os : Os) : laidMet Tryd.prog Rows.runsCountRow.laid ((laidWorld os).forCall (fun _ _ => 0) ⟨#[], #[.int .i64 0, .int .i64 0], []⟩).memory :=
  laidMet_of_run' 8 (by kernel_rfl) (by kernel_rfl)
theorem reads (os : Os) {H : Type} (enc : TypeId × Value → H) : ∃ places, DataW.whole enc Tryd.prog ((laidWorld os).forCall (fun _ _ => 0) ⟨#[], #[.int .i64 0, .int .i64 0], []⟩).memory Tryd.f9.params.toList Rows.runsCountSpec.vars false (#[Value.int .i64 0, .int .i64 0] : Array Value).toList 8 = some ([.lit (.int .i64 0), .lit (.int .i64 0)], [], places) :=
  ⟨[], by kernel_rfl⟩

set_option maxRecDepth 100000 in
theorem lifted (os : Os) (started : os.Started) (H : Type) (enc : TypeId × Value → H) (F : Stop.Interp) :
    ReturnsInHanded {} Tryd.checked os 9 .any ((OpenSpec.ofChange Rows.runsCountSpec).preRow enc Tryd.prog Tryd.f9 Rows.runsCountRow.domain false Rows.runsCountRow.laid) (((OpenSpec.ofChange Rows.runsCountSpec).at F).post enc Tryd.prog Tryd.f9 false true false false) := by
  obtain ⟨places, hx⟩ := reads os enc
  refine returnsInHanded_of_row (C := Tryd.checked) (s := (OpenSpec.ofChange Rows.runsCountSpec)) own started (by kernel_rfl) Tryd.func9
    (witness_row_at (enc := enc) (C := Tryd.checked) false (laidWorld os) #[.int .i64 0, .int .i64 0] rfl (by kernel_rfl) (by kernel_rfl) (by kernel_rfl)
      (OpenSpec.preRow_of_cond 8 hx (by kernel_rfl) (fun k hk => by cases hk) (by kernel_rfl) (laid_met os))) ?_
  intro W base args ds gs before hval hW _ hcond hsz hL hsh _
  exact contract H enc W base args ds gs before hval hW hsz hL hsh

theorem said : Rows.RunsCountSaid :=
  OpenClaim.holds_of_cond 9 Tryd.f9 rfl rfl rfl rfl rfl rfl rfl ⟨rfl, rfl, rfl, rfl, rfl⟩ rfl rfl rfl rfl rfl (by kernel_rfl) Tryd.func9 (by kernel_rfl)
    (of_decide_eq_true (by kernel_rfl)) (by unfold Func.isWrapper; first | (rw [if_pos (by decide +kernel)]; kernel_rfl) | (rw [if_neg (by decide +kernel)]; exact ⟨rfl, rfl⟩))
    (fun os started H enc _ F => by rw [OpenClaim.pre_eq_preRow]; exact lifted os started H enc F)
theorem plain (f : FuncId) (fn : Func) (hf : Tryd.pinned.checked.prog.funcNamed "curfew/curfewkeep.RunsCount" = some f) (hfn : Tryd.pinned.checked.prog.funcs[f]? = some fn) :
    true = Tryd.pinned.checked.prog.looks [] ∧ ∀ (j : Nat) t, fn.params[j]? = some t → Tryd.pinned.checked.prog.wantsStandIn t = false := by
  obtain rfl : f = 9 := Option.some.inj ((show Tryd.prog.funcNamed "curfew/curfewkeep.RunsCount" = some 9 by kernel_rfl).symm.trans hf) |>.symm
  obtain rfl : fn = Tryd.f9 := (Option.some.inj (Tryd.func9.symm.trans hfn)).symm
  refine ⟨by kernel_rfl, fun j t ht => ?_⟩
  rw [Tryd.params9] at ht
  obtain rfl : t = 3 := by simpa using Array.mem_of_getElem? ht
  exact (show Tryd.prog.wantsStandIn 3 = false by kernel_rfl)
theorem card : Rows.RunsCountCardSaid :=
  Claim7.holds_tied_plain_at .later [] _ _ _ _ said (fun _ h => by cases h) (by kernel_rfl) (fun _ h => by cases h) runsCount_row_tie rfl ⟨rfl, rfl⟩ (by kernel_rfl) rfl plain (by kernel_rfl)
end Go.Proofs.YtjmojbnjhcfdkaaDoor.RunsCountLaw
namespace Go.Proofs.YtjmojbnjhcfdkaaDoor
theorem runsCount_holds : Rows.RunsCountCardSaid := RunsCountLaw.card
#print axioms runsCount_holds
end Go.Proofs.YtjmojbnjhcfdkaaDoor
