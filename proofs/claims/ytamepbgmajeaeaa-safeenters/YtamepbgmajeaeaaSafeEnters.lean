/- SafeEnters: for every region and word, safe.Enter answers as the reference does (registers and error). No condition. -/
import Derived.Test.YtamepbgmajeaeaaRows
import Derived.Test.YtamepbgmajeaeaaKitL
namespace Go.Proofs.Ytamepbgmajeaeaa.SafeEntersLaw
open Go.ChangeShapes Go.WideShapes Go.ChangeAt Go.RowKit

theorem own : ownKnob Try.prog.godebug = none := by kernel_rfl
theorem laidOut : laidOutB Try.prog = true := by kernel_rfl
theorem enter_ok (r x : Int) (w : World) (h0 : 0 ≤ r) (h1 : r ≤ 15) (h2 : 0 ≤ x) (h3 : x ≤ 65535) :
    Calls Try.prog 4 #[.int .i64 r, .int .i64 x] w fun e w' => e = .returned (.tuple #[.agg #[.int .i64 x, .int .i64 0, .int .i64 0, .int .i64 0, .int .i64 (64 * r), .int .i64 (64 * r), .int .i64 63, .int .i64 0], .int .i64 0]) ∧ Below w.heap.size w w' := by
  go_enter Try.func4, Try.ntmps4
  go_wp2
  exact bodyPost_ret (v := .tuple #[.agg #[.int .i64 x, .int .i64 0, .int .i64 0, .int .i64 0, .int .i64 (64 * r), .int .i64 (64 * r), .int .i64 63, .int .i64 0], .int .i64 0]) (by simp [results, Try.results4, go_sem, Int.mul_comm]) rfl ⟨rfl, (Below.refl _ _).alloc (Nat.le_refl _) _⟩
theorem enter_bad (r x : Int) (w : World) (h : r < 0 ∨ 15 < r ∨ x < 0 ∨ 65535 < x) :
    Calls Try.prog 4 #[.int .i64 r, .int .i64 x] w fun e w' => e = .returned (.tuple #[.agg #[.int .i64 0, .int .i64 0, .int .i64 0, .int .i64 0, .int .i64 0, .int .i64 0, .int .i64 0, .int .i64 0], .int .i64 2]) ∧ Below w.heap.size w w' := by
  by_cases h0 : r < 0
  · go_enter Try.func4, Try.ntmps4
    go_wp2
    exact bodyPost_ret (v := .tuple #[.agg #[.int .i64 0, .int .i64 0, .int .i64 0, .int .i64 0, .int .i64 0, .int .i64 0, .int .i64 0, .int .i64 0], .int .i64 2]) (by simp [results, Try.results4, go_sem]) rfl ⟨rfl, (Below.refl _ _).alloc (Nat.le_refl _) _⟩
  · by_cases h1 : 15 < r
    · have h1' : 16 ≤ r := by omega
      go_enter Try.func4, Try.ntmps4
      go_wp2
      exact bodyPost_ret (v := .tuple #[.agg #[.int .i64 0, .int .i64 0, .int .i64 0, .int .i64 0, .int .i64 0, .int .i64 0, .int .i64 0, .int .i64 0], .int .i64 2]) (by simp [results, Try.results4, go_sem]) rfl ⟨rfl, (Below.refl _ _).alloc (Nat.le_refl _) _⟩
    · have h1' : ¬ 16 ≤ r := by omega
      by_cases h2 : x < 0
      · go_enter Try.func4, Try.ntmps4
        go_wp2
        exact bodyPost_ret (v := .tuple #[.agg #[.int .i64 0, .int .i64 0, .int .i64 0, .int .i64 0, .int .i64 0, .int .i64 0, .int .i64 0, .int .i64 0], .int .i64 2]) (by simp [results, Try.results4, go_sem]) rfl ⟨rfl, (Below.refl _ _).alloc (Nat.le_refl _) _⟩
      · have h3 : 65535 < x := by omega
        clear h
        go_enter Try.func4, Try.ntmps4
        go_wp2
        exact bodyPost_ret (v := .tuple #[.agg #[.int .i64 0, .int .i64 0, .int .i64 0, .int .i64 0, .int .i64 0, .int .i64 0, .int .i64 0, .int .i64 0], .int .i64 2]) (by simp [results, Try.results4, go_sem]) rfl ⟨rfl, (Below.refl _ _).alloc (Nat.le_refl _) _⟩
theorem entered_ok (r x : Int) (w : World) (h0 : 0 ≤ r) (h1 : r ≤ 15) (h2 : 0 ≤ x) (h3 : x ≤ 65535) :
    Calls Try.prog 5 #[.int .i64 r, .int .i64 x] w fun e w' => e = .returned (.tuple #[.agg #[.int .i64 x, .int .i64 0, .int .i64 0, .int .i64 0, .int .i64 (64 * r), .int .i64 (64 * r), .int .i64 63, .int .i64 0], .int .i64 0]) ∧ Below w.heap.size w w' := by
  have e1 : (decide (0 ≤ r) && decide (r ≤ 15)) = true := by simp [h0, h1]
  have e2 : (decide (0 ≤ x) && decide (x ≤ 65535)) = true := by simp [h2, h3]
  have I1 := Lib.hid (fun w => in_any r 0 15 w)
  have I2 := Lib.hid (fun w => isWord_any x w)
  rw [e1] at I1
  rw [e2] at I2
  clear e1 e2
  go_enter Try.func5, Try.ntmps5
  go_wp2_with fail
  refine (I1.out _).mono ?_
  rintro e w' ⟨rfl, rfl⟩
  go_wp2_with fail
  refine (I2.out _).mono ?_
  rintro e w' ⟨rfl, rfl⟩
  go_wp2
  exact bodyPost_ret (v := .tuple #[.agg #[.int .i64 x, .int .i64 0, .int .i64 0, .int .i64 0, .int .i64 (64 * r), .int .i64 (64 * r), .int .i64 63, .int .i64 0], .int .i64 0]) (by simp [results, Try.results5, go_sem]) rfl ⟨rfl, ((Below.refl _ _).alloc (Nat.le_refl _) _).alloc (by simp) _⟩
theorem entered_bad (r x : Int) (w : World) (h : r < 0 ∨ 15 < r ∨ x < 0 ∨ 65535 < x) :
    Calls Try.prog 5 #[.int .i64 r, .int .i64 x] w fun e w' => e = .returned (.tuple #[.agg #[.int .i64 0, .int .i64 0, .int .i64 0, .int .i64 0, .int .i64 0, .int .i64 0, .int .i64 0, .int .i64 0], .int .i64 2]) ∧ Below w.heap.size w w' := by
  by_cases hr : (decide (0 ≤ r) && decide (r ≤ 15)) = true
  · have e2 : (decide (0 ≤ x) && decide (x ≤ 65535)) = false := by simp at hr ⊢; omega
    have I1 := Lib.hid (fun w => in_any r 0 15 w)
    have I2 := Lib.hid (fun w => isWord_any x w)
    rw [hr] at I1
    rw [e2] at I2
    clear e2 hr h
    go_enter Try.func5, Try.ntmps5
    go_wp2_with fail
    refine (I1.out _).mono ?_
    rintro e w' ⟨rfl, rfl⟩
    go_wp2_with fail
    refine (I2.out _).mono ?_
    rintro e w' ⟨rfl, rfl⟩
    go_wp2
    exact bodyPost_ret (v := .tuple #[.agg #[.int .i64 0, .int .i64 0, .int .i64 0, .int .i64 0, .int .i64 0, .int .i64 0, .int .i64 0, .int .i64 0], .int .i64 2]) (by simp [results, Try.results5, go_sem]) rfl ⟨rfl, ((Below.refl _ _).alloc (Nat.le_refl _) _).alloc (by simp) _⟩
  · have I1 := Lib.hid (fun w => in_any r 0 15 w)
    rw [show (decide (0 ≤ r) && decide (r ≤ 15)) = false by simpa using hr] at I1
    clear hr h
    go_enter Try.func5, Try.ntmps5
    go_wp2_with fail
    refine (I1.out _).mono ?_
    rintro e w' ⟨rfl, rfl⟩
    go_wp2
    exact bodyPost_ret (v := .tuple #[.agg #[.int .i64 0, .int .i64 0, .int .i64 0, .int .i64 0, .int .i64 0, .int .i64 0, .int .i64 0, .int .i64 0], .int .i64 2]) (by simp [results, Try.results5, go_sem]) rfl ⟨rfl, ((Below.refl _ _).alloc (Nat.le_refl _) _).alloc (by simp) _⟩
theorem walk (r x : Int) (w : World) :
    Calls Try.prog 3 #[.int .i64 r, .int .i64 x] w fun e w' => e = .returned (.bool true) ∧ Below w.heap.size w w' := by
  by_cases h : r < 0 ∨ 15 < r ∨ x < 0 ∨ 65535 < x
  · have I1 := Lib.hid (fun w => enter_bad r x w h)
    have I2 := Lib.hid (fun w => entered_bad r x w h)
    have E8 := fun w => same8 w 0 0 0 0 0 0 0 0
    clear h
    go_enter Try.func3, Try.ntmps3
    go_wp2_with fail
    refine (I1.out _).mono ?_
    rintro e w1 ⟨rfl, hb1⟩
    go_wp2_with fail
    refine (I2.out _).mono ?_
    rintro e w2 ⟨rfl, hb2⟩
    have hb3 : Below w.heap.size w w2 := (hb1.alloc hb1.size _).trans (hb2.mono (by have := hb1.size; simp; omega))
    have hlt : w1.heap.size < w2.heap.size := Nat.lt_of_lt_of_le (by simp) hb2.size
    have q0 := hb2.cell (p := ⟨w1.heap.size, 0, none⟩) (by simp)
    simp at q0
    have q1 := hb2.cell (p := ⟨w1.heap.size, 1, none⟩) (by simp)
    simp at q1
    have q2 := hb2.cell (p := ⟨w1.heap.size, 2, none⟩) (by simp)
    simp at q2
    have q3 := hb2.cell (p := ⟨w1.heap.size, 3, none⟩) (by simp)
    simp at q3
    have q4 := hb2.cell (p := ⟨w1.heap.size, 4, none⟩) (by simp)
    simp at q4
    have q5 := hb2.cell (p := ⟨w1.heap.size, 5, none⟩) (by simp)
    simp at q5
    have q6 := hb2.cell (p := ⟨w1.heap.size, 6, none⟩) (by simp)
    simp at q6
    have q7 := hb2.cell (p := ⟨w1.heap.size, 7, none⟩) (by simp)
    simp at q7
    clear hb1 hb2
    have hb4 := fun o => hb3.alloc hb3.size o
    go_wp2
    go_ret
    exact ⟨rfl, hb4 _⟩
  · have I1 := Lib.hid (fun w => enter_ok r x w (by omega) (by omega) (by omega) (by omega))
    have I2 := Lib.hid (fun w => entered_ok r x w (by omega) (by omega) (by omega) (by omega))
    have E8 := fun w => same8 w x 0 0 0 (64 * r) (64 * r) 63 0
    clear h
    go_enter Try.func3, Try.ntmps3
    go_wp2_with fail
    refine (I1.out _).mono ?_
    rintro e w1 ⟨rfl, hb1⟩
    go_wp2_with fail
    refine (I2.out _).mono ?_
    rintro e w2 ⟨rfl, hb2⟩
    have hb3 : Below w.heap.size w w2 := (hb1.alloc hb1.size _).trans (hb2.mono (by have := hb1.size; simp; omega))
    have hlt : w1.heap.size < w2.heap.size := Nat.lt_of_lt_of_le (by simp) hb2.size
    have q0 := hb2.cell (p := ⟨w1.heap.size, 0, none⟩) (by simp)
    simp at q0
    have q1 := hb2.cell (p := ⟨w1.heap.size, 1, none⟩) (by simp)
    simp at q1
    have q2 := hb2.cell (p := ⟨w1.heap.size, 2, none⟩) (by simp)
    simp at q2
    have q3 := hb2.cell (p := ⟨w1.heap.size, 3, none⟩) (by simp)
    simp at q3
    have q4 := hb2.cell (p := ⟨w1.heap.size, 4, none⟩) (by simp)
    simp at q4
    have q5 := hb2.cell (p := ⟨w1.heap.size, 5, none⟩) (by simp)
    simp at q5
    have q6 := hb2.cell (p := ⟨w1.heap.size, 6, none⟩) (by simp)
    simp at q6
    have q7 := hb2.cell (p := ⟨w1.heap.size, 7, none⟩) (by simp)
    simp at q7
    clear hb1 hb2
    have hb4 := fun o => hb3.alloc hb3.size o
    go_wp2
    go_ret
    exact ⟨rfl, hb4 _⟩

set_option maxRecDepth 100000 in
theorem contract (H : Type) (enc : TypeId × Value → H) (W : World) (base : Nat) (args : Array Value) (ds gs : List (DataW H)) (before : List MemPlace)
    (hval : ∀ (j : Nat) t v, Try.f3.params[j]? = some t → args[j]? = some v → Value.okWide Try.prog W .any base t v)
    (hW : DataW.Whole enc Try.prog Try.f3.params.toList Rows.safeEntersSpec.vars false W args.toList ds gs before)
    (_hsz0 : (DataW.weightsEach Try.prog (Try.f3.params.toList ++ (OpenSpec.ofChange Rows.safeEntersSpec).bare.plain.varTypes Try.prog) (ds ++ gs)).all (· ≤ reachBytes) = true)
    (_hL : laidMetH Try.prog Rows.safeEntersRow.laid W) (_hsh : W.ShapedOpen Try.prog) :
    Calls Try.prog 3 args W fun e W' => ∃ v, e = .returned v ∧ Rows.safeEntersSpec.post enc Try.prog Try.f3 false true false false W args v W' := by
  have hW' := hW
  obtain ⟨p, q, hA0, hV, rfl, hfz, hnd⟩ := hW
  have hA : DataW.TrodAll enc Try.prog W 0 (fun _ => true) true Try.f3.params.toList args.toList ds p := hA0
  rw [Try.params3] at hA hval
  obtain ⟨v0, vs0, d0, ds0, p0, q0, hargs0, rfl, rfl, h0, r0⟩ := trodAll_cons hA
  obtain ⟨v1, vs1, d1, ds1, p1, q1, hargs1, rfl, rfl, h1, r1⟩ := trodAll_cons r0
  obtain ⟨hnil, rfl, rfl⟩ := trodAll_nil r1
  obtain rfl : args = #[v0, v1] := by cases args; simp_all
  obtain ⟨rfl, rfl⟩ : gs = [] ∧ q = [] := by cases gs with | nil => exact ⟨rfl, hV⟩ | cons g gs => exact hV.elim
  obtain ⟨r, rfl, rfl, rfl, _⟩ := Go.ChangeShapes.open_int Try.underlying3 (hval 0 3 v0 rfl rfl) h0
  obtain ⟨x, rfl, rfl, rfl, _⟩ := Go.ChangeShapes.open_int Try.underlying3 (hval 1 3 v1 rfl rfl) h1
  refine (walk r x W).mono fun e W' ⟨he, hb⟩ => ?_
  exact ⟨_, he, post_law laidOut (by kernel_rfl) Try.underlying4 rfl (by kernel_rfl) (fun ds hd => by
    match ds, hd with
    | [d0, d1], _ => rfl) hW' hb⟩

noncomputable def laidWorld (os : Os) : World := { World.holding Try.prog os ⟨#[], #[], []⟩ with heap := (World.holding Try.prog os ⟨#[], #[], []⟩).heap }
theorem laid_met (os : Os) : laidMet Try.prog Rows.safeEntersRow.laid ((laidWorld os).forCall (fun _ _ => 0) ⟨#[], #[.int .i64 0, .int .i64 0], []⟩).memory := ⟨[], rfl, List.nodup_nil, fun _ _ h => by cases h⟩
theorem reads (os : Os) {H : Type} (enc : TypeId × Value → H) : ∃ places, DataW.whole enc Try.prog ((laidWorld os).forCall (fun _ _ => 0) ⟨#[], #[.int .i64 0, .int .i64 0], []⟩).memory Try.f3.params.toList Rows.safeEntersSpec.vars false (#[Value.int .i64 0, .int .i64 0] : Array Value).toList 8 = some ([.lit (.int .i64 0), .lit (.int .i64 0)], [], places) :=
  ⟨[], by kernel_rfl⟩

set_option maxRecDepth 100000 in
theorem lifted (os : Os) (started : os.Started) (H : Type) (enc : TypeId × Value → H) (F : Stop.Interp) :
    ReturnsInHanded {} Try.checked os 3 .any ((OpenSpec.ofChange Rows.safeEntersSpec).preRow enc Try.prog Try.f3 Rows.safeEntersRow.domain false Rows.safeEntersRow.laid) (((OpenSpec.ofChange Rows.safeEntersSpec).at F).post enc Try.prog Try.f3 false true false false) := by
  obtain ⟨places, hx⟩ := reads os enc
  refine returnsInHanded_of_row (C := Try.checked) (s := (OpenSpec.ofChange Rows.safeEntersSpec)) own started (by kernel_rfl) Try.func3
    (witness_row_at (enc := enc) (C := Try.checked) false (laidWorld os) #[.int .i64 0, .int .i64 0] rfl (by kernel_rfl) (by kernel_rfl) (by kernel_rfl)
      (OpenSpec.preRow_of_cond 8 hx (by kernel_rfl) (fun k hk => by cases hk) (by kernel_rfl) (laid_met os))) ?_
  intro W base args ds gs before hval hW _ hcond hsz hL hsh _
  exact contract H enc W base args ds gs before hval hW hsz hL hsh

theorem said : Rows.SafeEntersSaid :=
  OpenClaim.holds_of_cond 3 Try.f3 rfl rfl rfl rfl rfl rfl rfl ⟨rfl, rfl, rfl, rfl, rfl⟩ rfl rfl rfl rfl rfl (by kernel_rfl) Try.func3 (by kernel_rfl)
    (of_decide_eq_true (by kernel_rfl)) (by unfold Func.isWrapper; first | (rw [if_pos (by decide +kernel)]; kernel_rfl) | (rw [if_neg (by decide +kernel)]; exact ⟨rfl, rfl⟩))
    (fun os started H enc _ F => by rw [OpenClaim.pre_eq_preRow]; exact lifted os started H enc F)
end Go.Proofs.Ytamepbgmajeaeaa.SafeEntersLaw
namespace Go.Proofs.Ytamepbgmajeaeaa
theorem safeEnters_holds : Rows.SafeEntersSaid := SafeEntersLaw.said
#print axioms safeEnters_holds
end Go.Proofs.Ytamepbgmajeaeaa
