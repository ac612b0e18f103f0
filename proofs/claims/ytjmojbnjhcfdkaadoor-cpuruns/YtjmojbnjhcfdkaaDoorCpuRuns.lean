/- CpuRuns: for every code, registers, words and fuel, cpu.Run answers as the reference does (outcome and error), and the words that were handed in are as they were. Conditions: the package-level tables that the road reads hold what the program's text lays (the card ties them). -/
import Derived.Test.YtjmojbnjhcfdkaaDoorCards
import Derived.Test.YtjmojbnjhcfdkaaDoorTie
import Derived.Test.YtjmojbnjhcfdkaaDoorCpuM
import Derived.Test.YtjmojbnjhcfdkaaDoorCpuQ
import Derived.Test.YtjmojbnjhcfdkaaDoorSameI
import Derived.Test.YtjmojbnjhcfdkaaDoorOpenA
import Derived.Test.YtjmojbnjhcfdkaaDoorTabsL
import Derived.Test.YtjmojbnjhcfdkaaDoorKit
import Derived.SizedLaws
namespace Go.Proofs.YtjmojbnjhcfdkaaDoor.CpuRunsLaw
open Go.ChangeShapes Go.WideShapes Go.ChangeAt Go.RowKit

theorem own : ownKnob Tryd.prog.godebug = none := by kernel_rfl
theorem laidOut : laidOutB Tryd.prog = true := by kernel_rfl
theorem cells8 : Tryd.prog.cellsOf 41 = 8 := by kernel_rfl
theorem bytesInt : Tryd.prog.bytesOf 3 = 8 := by kernel_rfl
set_option maxHeartbeats 8000000 in
set_option maxRecDepth 100000 in
theorem walk (l : List Cf.Ins) (A : Option Addr) (cl : Nat) (r0 r1 r2 r3 r4 r5 r6 r7 : Int) (mem : List Int) (M : Option Addr) (cm : Nat) (fuel : Int) (w : World) (hC : Codes w A l) (hl : l.length ≤ maxLen) (hI : Ints w M mem) (hm : mem.length ≤ maxLen) (hmb : mem.length * 8 ≤ 140737488355328) (hL : TabL w) (hF : TabF w) :
    Calls Tryd.prog 8 #[.slice A l.length cl, .agg #[.int .i64 r0, .int .i64 r1, .int .i64 r2, .int .i64 r3, .int .i64 r4, .int .i64 r5, .int .i64 r6, .int .i64 r7], .slice M mem.length cm, .int .i64 fuel] w fun e w' => e = .returned (.bool true) ∧ Below w.heap.size w w' := by
  obtain ⟨z, s0, s1, s2, s3, s4, s5, s6, s7, told, mem', er, hT, htl, hml⟩ := runT_8 l r0 r1 r2 r3 r4 r5 r6 r7 mem fuel
  have HT := Lib.hid hT
  have htm : told.length ≤ maxLen := by unfold maxLen; omega
  have hmm : mem'.length ≤ maxLen := by omega
  obtain ⟨i0, hi, hz0, hz1, hzb⟩ := info_parts infoInt
  have Hi := Lib.hid hi
  have Hz0 := Lib.hid hz0
  have Hz1 := Lib.hid hz1
  have Hzb := Lib.hid hzb
  have hb0 : Below w.heap.size w (w.alloc (.cells #[.int .i64 r0, .int .i64 r1, .int .i64 r2, .int .i64 r3, .int .i64 r4, .int .i64 r5, .int .i64 r6, .int .i64 r7] 41)) := (Below.refl _ _).alloc (Nat.le_refl _) _
  have hbox : Wb (w.alloc (.cells #[.int .i64 r0, .int .i64 r1, .int .i64 r2, .int .i64 r3, .int .i64 r4, .int .i64 r5, .int .i64 r6, .int .i64 r7] 41)) w.heap.size 41 [.int .i64 r0, .int .i64 r1, .int .i64 r2, .int .i64 r3, .int .i64 r4, .int .i64 r5, .int .i64 r6, .int .i64 r7] := Wb.new w 41 [.int .i64 r0, .int .i64 r1, .int .i64 r2, .int .i64 r3, .int .i64 r4, .int .i64 r5, .int .i64 r6, .int .i64 r7]
  have HI0 := Lib.hid (hI.below hb0)
  clear hT hi hz0 hz1 hzb
  go_enter Tryd.func8, Tryd.ntmps8
  go_wp2_with (at_builtin; refine wpList_append_src rfl _ _ 42 rfl w.heap.size 3 i0 (.int .i64 0) 1 8 Tryd.underlying42 Hi.out Hz0.out Hz1.out Hzb.out rfl (by decide) encZ_len one_z _ 0 [] rfl (World.ownsRow_nil _ _ _ _) M cm mem rfl HI0.out (by omega) (by omega) (by simp) ?_)
  intro v' w1 hown hgr hat
  have hrow : Row w1 w.heap.size v' mem := by unfold Row; rw [map_flat]; exact hown
  obtain ⟨K, ck, rfl⟩ := own_form hown
  have hb1 : Below w.heap.size w w1 := hb0.grown hgr (by simp) (fun k hk => by simp [Value.ownBlock] at hk)
  have hbox1 := hbox.grown hgr (by simp [Value.ownBlock])
  have HK := Lib.hid hrow.ints
  have HR := Lib.hid (run_any l A cl r0 r1 r2 r3 r4 r5 r6 r7 mem K ck fuel w1 (hC.below hb1) (hL.below hb1) (hF.below hb1) hl hrow.ints hm)
  rw [HT.out] at HR
  clear hown hgr hat hrow hbox hb0 HI0
  have q0 := hbox1.cell 0
  have q1 := hbox1.cell 1
  have q2 := hbox1.cell 2
  have q3 := hbox1.cell 3
  have q4 := hbox1.cell 4
  have q5 := hbox1.cell 5
  have q6 := hbox1.cell 6
  have q7 := hbox1.cell 7
  simp only [List.getElem?_cons_zero, List.getElem?_cons_succ] at q0 q1 q2 q3 q4 q5 q6 q7
  have Hbox1 := Lib.hid hbox1
  clear hbox1
  go_wp2_with fail
  refine HR.out.mono ?_
  rintro e w2 ⟨T1, M1, t1, m1, rfl, hT1, hM1, hb2⟩
  have hbw2 := hb1.trans (hb2.mono hb1.size)
  have hbox2 := Hbox1.out.below hb2 (Hbox1.out.lt)
  have hK2 := HK.out.below hb2
  dsimp only at hT1 hM1 ⊢
  simp only [List.map_cons, List.map_nil, List.cons_append, List.nil_append]
  clear HR HK hb2 q0 q1 q2 q3 q4 q5 q6 q7 Hbox1 hb1
  have hb3 : Below w2.heap.size w2 (w2.alloc (.cells #[.int .i64 z, .int .i64 s0, .int .i64 s1, .int .i64 s2, .int .i64 s3, .int .i64 s4, .int .i64 s5, .int .i64 s6, .int .i64 s7, .slice T1 told.length t1, .slice M1 mem'.length m1] 44)) := (Below.refl _ _).alloc (Nat.le_refl _) _
  have hbw3 := hbw2.trans (hb3.mono hbw2.size)
  have hbox3 := hbox2.below hb3 hbox2.lt
  have hA3 : Wb (w2.alloc (.cells #[.int .i64 z, .int .i64 s0, .int .i64 s1, .int .i64 s2, .int .i64 s3, .int .i64 s4, .int .i64 s5, .int .i64 s6, .int .i64 s7, .slice T1 told.length t1, .slice M1 mem'.length m1] 44)) w2.heap.size 44 [.int .i64 z, .int .i64 s0, .int .i64 s1, .int .i64 s2, .int .i64 s3, .int .i64 s4, .int .i64 s5, .int .i64 s6, .int .i64 s7, .slice T1 told.length t1, .slice M1 mem'.length m1] := Wb.new w2 44 [.int .i64 z, .int .i64 s0, .int .i64 s1, .int .i64 s2, .int .i64 s3, .int .i64 s4, .int .i64 s5, .int .i64 s6, .int .i64 s7, .slice T1 told.length t1, .slice M1 mem'.length m1]
  have hT13 := hT1.below hb3
  have hM13 := hM1.below hb3
  have hK3 := hK2.below hb3
  have HS := Lib.hid (runOf_any l A cl r0 r1 r2 r3 r4 r5 r6 r7 mem M cm fuel (w2.alloc (.cells #[.int .i64 z, .int .i64 s0, .int .i64 s1, .int .i64 s2, .int .i64 s3, .int .i64 s4, .int .i64 s5, .int .i64 s6, .int .i64 s7, .slice T1 told.length t1, .slice M1 mem'.length m1] 44)) (hC.below hbw3) hl (hI.below hbw3) hm)
  rw [HT.out] at HS
  have q0 := hbox2.cell 0
  have q1 := hbox2.cell 1
  have q2 := hbox2.cell 2
  have q3 := hbox2.cell 3
  have q4 := hbox2.cell 4
  have q5 := hbox2.cell 5
  have q6 := hbox2.cell 6
  have q7 := hbox2.cell 7
  simp only [List.getElem?_cons_zero, List.getElem?_cons_succ] at q0 q1 q2 q3 q4 q5 q6 q7
  have hz2 : w.heap.size < w2.heap.size := hbox2.lt
  clear hT1 hM1 hK2 hbox3 hb3 hbox2
  go_wp2_with fail
  generalize hw3 : w2.alloc _ = w3 at *
  refine HS.out.mono ?_
  rintro e w4 ⟨T2, M2, t2, m2, rfl, hT2, hM2, hb4⟩
  have hbw4 := hbw3.trans (hb4.mono hbw3.size)
  have hA4 := hA3.below hb4 hA3.lt
  have hT14 := hT13.below hb4
  have hM14 := hM13.below hb4
  have hK4 := hK3.below hb4
  dsimp only at hT2 hM2 ⊢
  simp only [List.map_cons, List.map_nil, List.cons_append, List.nil_append]
  have hz4 : w2.heap.size < w4.heap.size := hA4.lt
  have p0 := hA4.cell 0
  have p1 := hA4.cell 1
  have p2 := hA4.cell 2
  have p3 := hA4.cell 3
  have p4 := hA4.cell 4
  have p5 := hA4.cell 5
  have p6 := hA4.cell 6
  have p7 := hA4.cell 7
  have p8 := hA4.cell 8
  have p9 := hA4.cell 9
  have p10 := hA4.cell 10
  simp only [List.getElem?_cons_zero, List.getElem?_cons_succ] at p0 p1 p2 p3 p4 p5 p6 p7 p8 p9 p10
  clear HS hb4 hA3 hA4 hT13 hM13 hK3 q0 q1 q2 q3 q4 q5 q6 q7 hw3 hbw3 hbw2
  go_wp2_with fail
  have hb5 : ∀ o : Obj, Below w4.heap.size w4 (w4.alloc o) := fun o => (Below.refl _ _).alloc (Nat.le_refl _) _
  refine (sameOutcome_same z s0 s1 s2 s3 s4 s5 s6 s7 told mem' T1 M1 T2 M2 t1 m1 t2 m2 _ (hT14.below (hb5 _)) (hT2.below (hb5 _)) (hM14.below (hb5 _)) (hM2.below (hb5 _)) htm hmm).mono ?_
  rintro e w6 ⟨rfl, hb6⟩
  have hb46 := (hb5 _).trans (hb6.mono (by simp))
  have hbw6 := hbw4.trans (hb46.mono hbw4.size)
  have hK6 := hK4.below hb46
  have hI6 := hI.below hbw6
  clear hb6 hb46 hb5 hK4 hT14 hM14 hT2 hM2 p0 p1 p2 p3 p4 p5 p6 p7 p8 p9 p10
  go_wp2_with fail
  refine (sameInts_same mem K M ck cm _ hK6 hI6 hm).mono ?_
  rintro e w7 ⟨rfl, hb7⟩
  have hbw7 := hbw6.trans (hb7.mono hbw6.size)
  clear hb7 hbw6 hK6 hI6 hbw4
  go_wp2
  go_ret
  exact ⟨rfl, hbw7⟩

set_option maxRecDepth 100000 in
theorem contract (H : Type) (enc : TypeId × Value → H) (W : World) (base : Nat) (args : Array Value) (ds gs : List (DataW H)) (before : List MemPlace)
    (hval : ∀ (j : Nat) t v, Tryd.f8.params[j]? = some t → args[j]? = some v → Value.okWide Tryd.prog W .any base t v)
    (hW : DataW.Whole enc Tryd.prog Tryd.f8.params.toList Rows.cpuRunsSpec.vars false W args.toList ds gs before)
    (hsz0 : (DataW.weightsEach Tryd.prog (Tryd.f8.params.toList ++ (OpenSpec.ofChange Rows.cpuRunsSpec).bare.plain.varTypes Tryd.prog) (ds ++ gs)).all (· ≤ reachBytes) = true)
    (hL : laidMetH Tryd.prog Rows.cpuRunsRow.laid W) (_hsh : W.ShapedOpen Tryd.prog) :
    Calls Tryd.prog 8 args W fun e W' => ∃ v, e = .returned v ∧ Rows.cpuRunsSpec.post enc Tryd.prog Tryd.f8 false true false false W args v W' := by
  have hW' := hW
  obtain ⟨p, q, hA0, hV, rfl, hfz, hnd⟩ := hW
  have hA : DataW.TrodAll enc Tryd.prog W 0 (fun _ => true) true Tryd.f8.params.toList args.toList ds p := hA0
  rw [Tryd.params8] at hA hval
  obtain ⟨v0, vs0, d0, ds0, p0, q0, hargs0, rfl, rfl, h0, r0⟩ := trodAll_cons hA
  obtain ⟨v1, vs1, d1, ds1, p1, q1, hargs1, rfl, rfl, h1, r1⟩ := trodAll_cons r0
  obtain ⟨v2, vs2, d2, ds2, p2, q2, hargs2, rfl, rfl, h2, r2⟩ := trodAll_cons r1
  obtain ⟨v3, vs3, d3, ds3, p3, q3, hargs3, rfl, rfl, h3, r3⟩ := trodAll_cons r2
  obtain ⟨hnil, rfl, rfl⟩ := trodAll_nil r3
  obtain rfl : args = #[v0, v1, v2, v3] := by cases args; simp_all
  obtain ⟨rfl, rfl⟩ : gs = [] ∧ q = [] := by cases gs with | nil => exact ⟨rfl, hV⟩ | cons g gs => exact hV.elim
  rw [Tryd.params8] at hsz0
  obtain ⟨A, cl, l, rfl, hC, hl⟩ := open_ins Tryd.underlying22 insFields (hval 0 22 v0 rfl rfl) h0
  obtain ⟨z0, z1, z2, z3, z4, z5, z6, z7, rfl⟩ := open_arr8 Tryd.underlying41 Tryd.underlying3 cellsInt cells8 (hval 1 41 v1 rfl rfl) h1
  obtain ⟨M, cm, mem, rfl, hI, hm, hd⟩ := open_nums Tryd.underlying42 Tryd.underlying3 cellsInt (hval 2 42 v2 rfl rfl) h2
  obtain ⟨fuel, rfl, rfl, rfl, hfu⟩ := Go.ChangeShapes.open_int Tryd.underlying3 (hval 3 3 v3 rfl rfl) h3
  have hmb : mem.length * 8 ≤ 140737488355328 := by
    rcases hd with rfl | ⟨elems, spare, rfl, hel⟩
    · simp
    · have := sized_slice hsz0 (j := 2) (t := 42) (e := 3) rfl rfl Tryd.underlying42
      rw [bytesInt] at this
      simp only [reachBytes] at this
      rw [← hel]
      omega
  refine (walk l A cl z0 z1 z2 z3 z4 z5 z6 z7 mem M cm fuel W hC hl hI hm hmb (laidL hL (List.Mem.head _)) (laidF hL (List.Mem.tail _ (List.Mem.head _)))).mono fun e W' ⟨he, hb⟩ => ?_
  exact ⟨_, he, post_law laidOut (by kernel_rfl) Tryd.underlying4 rfl (by kernel_rfl) (fun ds hd => by
    match ds, hd with
    | [d0, d1, d2, d3], _ => rfl) hW' hb⟩

noncomputable def laidWorld (os : Os) : World := { World.holding Tryd.prog os ⟨#[], #[], []⟩ with heap := (((World.holding Tryd.prog os ⟨#[], #[], []⟩).heap).modify 2 (withCells (Cf.larTab.map (Value.int .i64)))).modify 0 (withCells (Cf.fmtTab.flatten.map (Value.int .i64))) }
theorem laid_met (os : Os) : laidMet Tryd.prog Rows.cpuRunsRow.laid ((laidWorld os).forCall (fun _ _ => 0) ⟨#[], #[.slice none 0 0, .agg #[.int .i64 0, .int .i64 0, .int .i64 0, .int .i64 0, .int .i64 0, .int .i64 0, .int .i64 0, .int .i64 0], .slice none 0 0, .int .i64 0], []⟩).memory :=
  laidMet_of_run' 8 (by kernel_rfl) (by kernel_rfl)
theorem reads (os : Os) {H : Type} (enc : TypeId × Value → H) : ∃ places, DataW.whole enc Tryd.prog ((laidWorld os).forCall (fun _ _ => 0) ⟨#[], #[.slice none 0 0, .agg #[.int .i64 0, .int .i64 0, .int .i64 0, .int .i64 0, .int .i64 0, .int .i64 0, .int .i64 0, .int .i64 0], .slice none 0 0, .int .i64 0], []⟩).memory Tryd.f8.params.toList Rows.cpuRunsSpec.vars false (#[Value.slice none 0 0, .agg #[.int .i64 0, .int .i64 0, .int .i64 0, .int .i64 0, .int .i64 0, .int .i64 0, .int .i64 0, .int .i64 0], .slice none 0 0, .int .i64 0] : Array Value).toList 8 = some ([.nil, .agg [.lit (.int .i64 0), .lit (.int .i64 0), .lit (.int .i64 0), .lit (.int .i64 0), .lit (.int .i64 0), .lit (.int .i64 0), .lit (.int .i64 0), .lit (.int .i64 0)], .nil, .lit (.int .i64 0)], [], places) :=
  ⟨[], by kernel_rfl⟩

set_option maxRecDepth 100000 in
theorem lifted (os : Os) (started : os.Started) (H : Type) (enc : TypeId × Value → H) (F : Stop.Interp) :
    ReturnsInHanded {} Tryd.checked os 8 .any ((OpenSpec.ofChange Rows.cpuRunsSpec).preRow enc Tryd.prog Tryd.f8 Rows.cpuRunsRow.domain false Rows.cpuRunsRow.laid) (((OpenSpec.ofChange Rows.cpuRunsSpec).at F).post enc Tryd.prog Tryd.f8 false true false false) := by
  obtain ⟨places, hx⟩ := reads os enc
  refine returnsInHanded_of_row (C := Tryd.checked) (s := (OpenSpec.ofChange Rows.cpuRunsSpec)) own started (by kernel_rfl) Tryd.func8
    (witness_row_at (enc := enc) (C := Tryd.checked) false (laidWorld os) #[.slice none 0 0, .agg #[.int .i64 0, .int .i64 0, .int .i64 0, .int .i64 0, .int .i64 0, .int .i64 0, .int .i64 0, .int .i64 0], .slice none 0 0, .int .i64 0] rfl (by kernel_rfl) (by kernel_rfl) (by kernel_rfl)
      (OpenSpec.preRow_of_cond 8 hx (by kernel_rfl) (fun k hk => by cases hk) (by kernel_rfl) (laid_met os))) ?_
  intro W base args ds gs before hval hW _ hcond hsz hL hsh _
  exact contract H enc W base args ds gs before hval hW hsz hL hsh

theorem said : Rows.CpuRunsSaid :=
  OpenClaim.holds_of_cond 8 Tryd.f8 rfl rfl rfl rfl rfl rfl rfl ⟨rfl, rfl, rfl, rfl, rfl⟩ rfl rfl rfl rfl rfl (by kernel_rfl) Tryd.func8 (by kernel_rfl)
    (of_decide_eq_true (by kernel_rfl)) (by unfold Func.isWrapper; first | (rw [if_pos (by decide +kernel)]; kernel_rfl) | (rw [if_neg (by decide +kernel)]; exact ⟨rfl, rfl⟩))
    (fun os started H enc _ F => by rw [OpenClaim.pre_eq_preRow]; exact lifted os started H enc F)
theorem plain (f : FuncId) (fn : Func) (hf : Tryd.pinned.checked.prog.funcNamed "curfew/curfewlaw.CpuRuns" = some f) (hfn : Tryd.pinned.checked.prog.funcs[f]? = some fn) :
    true = Tryd.pinned.checked.prog.looks [] ∧ ∀ (j : Nat) t, fn.params[j]? = some t → Tryd.pinned.checked.prog.wantsStandIn t = false := by
  obtain rfl : f = 8 := Option.some.inj ((show Tryd.prog.funcNamed "curfew/curfewlaw.CpuRuns" = some 8 by kernel_rfl).symm.trans hf) |>.symm
  obtain rfl : fn = Tryd.f8 := (Option.some.inj (Tryd.func8.symm.trans hfn)).symm
  refine ⟨by kernel_rfl, fun j t ht => ?_⟩
  rw [Tryd.params8] at ht
  have hm : t = 22 ∨ t = 41 ∨ t = 42 ∨ t = 3 := by simpa using Array.mem_of_getElem? ht
  rcases hm with rfl | rfl | rfl | rfl
  · exact (show Tryd.prog.wantsStandIn 22 = false by kernel_rfl)
  · exact (show Tryd.prog.wantsStandIn 41 = false by kernel_rfl)
  · exact (show Tryd.prog.wantsStandIn 42 = false by kernel_rfl)
  · exact (show Tryd.prog.wantsStandIn 3 = false by kernel_rfl)
theorem card : Rows.CpuRunsCardSaid :=
  Claim7.holds_tied_plain_at .later [] _ _ _ _ said (fun _ h => by cases h) (by kernel_rfl) (fun _ h => by cases h) cpuRuns_row_tie rfl ⟨rfl, rfl⟩ (by kernel_rfl) rfl plain (by kernel_rfl)
end Go.Proofs.YtjmojbnjhcfdkaaDoor.CpuRunsLaw
namespace Go.Proofs.YtjmojbnjhcfdkaaDoor
theorem cpuRuns_holds : Rows.CpuRunsCardSaid := CpuRunsLaw.card
#print axioms cpuRuns_holds
end Go.Proofs.YtjmojbnjhcfdkaaDoor
