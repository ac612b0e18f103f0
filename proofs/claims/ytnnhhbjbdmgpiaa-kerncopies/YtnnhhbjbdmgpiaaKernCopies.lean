/- KernCopies: for every kernel, kern.Copy hands back a kernel that reads as the one handed in. No condition beyond what fits into a machine's memory. -/
import Derived.Test.YtnnhhbjbdmgpiaaRows
import Derived.Test.YtnnhhbjbdmgpiaaCpyW
import Derived.Test.YtnnhhbjbdmgpiaaSameK
import Derived.Test.YtnnhhbjbdmgpiaaOpenK
import Derived.Test.YtnnhhbjbdmgpiaaKit
namespace Go.Proofs.Ytnnhhbjbdmgpiaa.KernCopiesLaw
open Go.ChangeShapes Go.WideShapes Go.ChangeAt Go.RowKit

theorem own : ownKnob Try.prog.godebug = none := by kernel_rfl
theorem laidOut : laidOutB Try.prog = true := by kernel_rfl
set_option maxHeartbeats 1000000 in
theorem walk (k : Cf.Kern) (a : KA) (w : World) (hA : KRd w a k) (hf : KFit k) :
    Calls Try.prog 3 #[.agg (kcells a k).toArray] w fun e w' => e = .returned (.bool true) ∧ Below w.heap.size w w' := by
  have hb0 : Below w.heap.size w (w.alloc (.cells (kcells a k).toArray tKern)) := (Below.refl _ _).alloc (Nat.le_refl _) _
  have hbox : Wb (w.alloc (.cells (kcells a k).toArray tKern)) w.heap.size tKern (kcells a k) := Wb.new w tKern (kcells a k)
  have HV := Lib.hid (kcopy_any k a _ (hA.below hb0) hf)
  have HA := Lib.hid hA
  have Hbox := Lib.hid hbox
  clear hA hbox
  simp only [kcells] at hb0 HV Hbox ⊢
  obtain ⟨A, ca, M, cm, N, cn, S, cs, Q, cq⟩ := a
  go_enter Try.func3, Try.ntmps3
  go_wp2_with fail
  refine HV.out.mono ?_
  rintro e w1 ⟨b, xs, ps, rfl, hO, hb1⟩
  have hbw1 := hb0.trans (hb1.mono (by simp))
  have hbox1 := Hbox.out.below hb1 (by simp)
  have HR1 := Lib.hid hO.new_.rd
  have hz1 := hbox1.lt
  have p0 := hbox1.cell 0
  have p1 := hbox1.cell 1
  have p2 := hbox1.cell 2
  have p3 := hbox1.cell 3
  have p4 := hbox1.cell 4
  simp only [List.getElem?_cons_zero, List.getElem?_cons_succ] at p0 p1 p2 p3 p4
  clear hb0 hb1 hbox1 HV Hbox hO
  obtain ⟨A', ca', M', cm', N', cn', S', cs', Q', cq'⟩ := b
  have hb5 : ∀ o : Obj, Below w1.heap.size w1 (w1.alloc o) := fun o => (Below.refl _ _).alloc (Nat.le_refl _) _
  have HSm := Lib.hid (fun o => sameKernel_same k ⟨A', ca', M', cm', N', cn', S', cs', Q', cq'⟩ ⟨A, ca, M, cm, N, cn, S, cs, Q, cq⟩ (w1.alloc o) (HR1.out.below (hb5 o)) (HA.out.below (hbw1.alloc hbw1.size o)) hf)
  simp only [kcells] at HSm ⊢
  clear hb5
  go_wp2_with fail
  refine (HSm.out _).mono ?_
  rintro e w2 ⟨rfl, hb2⟩
  have hb := (hbw1.alloc hbw1.size _).trans (hb2.mono (by have := hbw1.size; simp; omega))
  clear hb2 HSm p0 p1 p2 p3 p4
  go_wp2
  go_ret
  exact ⟨rfl, hb⟩

set_option maxRecDepth 100000 in
theorem contract (H : Type) (enc : TypeId × Value → H) (W : World) (base : Nat) (args : Array Value) (ds gs : List (DataW H)) (before : List MemPlace)
    (hval : ∀ (j : Nat) t v, Try.f3.params[j]? = some t → args[j]? = some v → Value.okWide Try.prog W .any base t v)
    (hW : DataW.Whole enc Try.prog Try.f3.params.toList Rows.kernCopiesSpec.vars false W args.toList ds gs before)
    (hsz0 : (DataW.weightsEach Try.prog (Try.f3.params.toList ++ (OpenSpec.ofChange Rows.kernCopiesSpec).bare.plain.varTypes Try.prog) (ds ++ gs)).all (· ≤ reachBytes) = true)
    (_hL : laidMetH Try.prog Rows.kernCopiesRow.laid W) (_hsh : W.ShapedOpen Try.prog) :
    Calls Try.prog 3 args W fun e W' => ∃ v, e = .returned v ∧ Rows.kernCopiesSpec.post enc Try.prog Try.f3 false true false false W args v W' := by
  have hW' := hW
  obtain ⟨p, q, hA0, hV, rfl, hfz, hnd⟩ := hW
  have hA : DataW.TrodAll enc Try.prog W 0 (fun _ => true) true Try.f3.params.toList args.toList ds p := hA0
  rw [Try.params3] at hA hval
  obtain ⟨v0, vs0, d0, ds0, p0, q0, hargs0, rfl, rfl, h0, r0⟩ := trodAll_cons hA
  obtain ⟨hnil, rfl, rfl⟩ := trodAll_nil r0
  obtain rfl : args = #[v0] := by cases args; simp_all
  obtain ⟨rfl, rfl⟩ : gs = [] ∧ q = [] := by cases gs with | nil => exact ⟨rfl, hV⟩ | cons g gs => exact hV.elim
  rw [Try.params3] at hsz0
  obtain ⟨a, k, rfl, hR, hF⟩ := open_kern_arg (by simp [reachBytes, big]) (hval 0 28 v0 rfl rfl) h0 (light_arg hsz0 (j := 0) rfl rfl)
  refine (walk k a W hR hF).mono fun e W' ⟨he, hb⟩ => ?_
  exact ⟨_, he, post_law laidOut (by kernel_rfl) Try.underlying4 rfl (by kernel_rfl) (fun ds hd => by
    match ds, hd with
    | [d0], _ => rfl) hW' hb⟩

noncomputable def laidWorld (os : Os) : World := { World.holding Try.prog os ⟨#[], #[], []⟩ with heap := (World.holding Try.prog os ⟨#[], #[], []⟩).heap }
theorem laid_met (os : Os) : laidMet Try.prog Rows.kernCopiesRow.laid ((laidWorld os).forCall (fun _ _ => 0) ⟨#[], #[.agg #[.slice none 0 0, .slice none 0 0, .slice none 0 0, .slice none 0 0, .slice none 0 0]], []⟩).memory := ⟨[], rfl, List.nodup_nil, fun _ _ h => by cases h⟩
theorem reads (os : Os) {H : Type} (enc : TypeId × Value → H) : ∃ places, DataW.whole enc Try.prog ((laidWorld os).forCall (fun _ _ => 0) ⟨#[], #[.agg #[.slice none 0 0, .slice none 0 0, .slice none 0 0, .slice none 0 0, .slice none 0 0]], []⟩).memory Try.f3.params.toList Rows.kernCopiesSpec.vars false (#[Value.agg #[.slice none 0 0, .slice none 0 0, .slice none 0 0, .slice none 0 0, .slice none 0 0]] : Array Value).toList 8 = some ([.agg [.nil, .nil, .nil, .nil, .nil]], [], places) :=
  ⟨[], by kernel_rfl⟩

set_option maxRecDepth 100000 in
theorem lifted (os : Os) (started : os.Started) (H : Type) (enc : TypeId × Value → H) (F : Stop.Interp) :
    ReturnsInHanded {} Try.checked os 3 .any ((OpenSpec.ofChange Rows.kernCopiesSpec).preRow enc Try.prog Try.f3 Rows.kernCopiesRow.domain false Rows.kernCopiesRow.laid) (((OpenSpec.ofChange Rows.kernCopiesSpec).at F).post enc Try.prog Try.f3 false true false false) := by
  obtain ⟨places, hx⟩ := reads os enc
  refine returnsInHanded_of_row (C := Try.checked) (s := (OpenSpec.ofChange Rows.kernCopiesSpec)) own started (by kernel_rfl) Try.func3
    (witness_row_at (enc := enc) (C := Try.checked) false (laidWorld os) #[.agg #[.slice none 0 0, .slice none 0 0, .slice none 0 0, .slice none 0 0, .slice none 0 0]] rfl (by kernel_rfl) (by kernel_rfl) (by kernel_rfl)
      (OpenSpec.preRow_of_cond 8 hx (by kernel_rfl) (fun k hk => by cases hk) (by kernel_rfl) (laid_met os))) ?_
  intro W base args ds gs before hval hW _ hcond hsz hL hsh _
  exact contract H enc W base args ds gs before hval hW hsz hL hsh

theorem said : Rows.KernCopiesSaid :=
  OpenClaim.holds_of_cond 3 Try.f3 rfl rfl rfl rfl rfl rfl rfl ⟨rfl, rfl, rfl, rfl, rfl⟩ rfl rfl rfl rfl rfl (by kernel_rfl) Try.func3 (by kernel_rfl)
    (of_decide_eq_true (by kernel_rfl)) (by unfold Func.isWrapper; first | (rw [if_pos (by decide +kernel)]; kernel_rfl) | (rw [if_neg (by decide +kernel)]; exact ⟨rfl, rfl⟩))
    (fun os started H enc _ F => by rw [OpenClaim.pre_eq_preRow]; exact lifted os started H enc F)
end Go.Proofs.Ytnnhhbjbdmgpiaa.KernCopiesLaw
namespace Go.Proofs.Ytnnhhbjbdmgpiaa
theorem kernCopies_holds : Rows.KernCopiesSaid := KernCopiesLaw.said
#print axioms kernCopies_holds
end Go.Proofs.Ytnnhhbjbdmgpiaa
