/- KernNew: kern.New hands back a kernel that reads as the one of the reference's KernelOf. No condition. -/
import Derived.Test.YtcfkieeildpklabRows
import Derived.Test.YtcfkieeildpklabNewW
import Derived.Test.YtcfkieeildpklabKOfW
import Derived.Test.YtcfkieeildpklabSameK
import Derived.Test.YtcfkieeildpklabKit
namespace Go.Proofs.Ytcfkieeildpklab.KernNewLaw
open Go.ChangeShapes Go.WideShapes Go.ChangeAt Go.RowKit

theorem own : ownKnob Try.prog.godebug = none := by kernel_rfl
theorem laidOut : laidOutB Try.prog = true := by kernel_rfl
theorem newFit : KFit Cf.newKern := by
  have hm : Cf.newKern.mem.length = 1024 := List.length_replicate
  refine ⟨by show (0 : Nat) ≤ big; omega, fun m h => (by cases h), by rw [hm]; unfold big; omega, by show (8 : Nat) ≤ big; unfold big; omega, fun n h => ?_, by show (6 : Nat) ≤ big; unfold big; omega, fun s h => ?_, by show (4 : Nat) ≤ big; unfold big; omega, fun p h => ?_⟩
  · obtain rfl := List.eq_of_mem_replicate h
    exact ⟨by show (0 : Nat) ≤ big; omega, by show (0 : Nat) ≤ big; omega⟩
  · obtain rfl := List.eq_of_mem_replicate h
    show (0 : Nat) ≤ big
    omega
  · rcases List.mem_cons.1 h with rfl | h
    · show (6 : Nat) ≤ big
      unfold big
      omega
    · obtain rfl := List.eq_of_mem_replicate h
      show (6 : Nat) ≤ big
      unfold big
      omega
set_option maxHeartbeats 1000000 in
theorem walk (w : World) :
    Calls Try.prog 5 #[] w fun e w' => e = .returned (.bool true) ∧ Below w.heap.size w w' := by
  go_enter Try.func5, Try.ntmps5
  go_wp2_with fail
  refine (new_any _).mono ?_
  rintro e w1 ⟨a, rfl, hN1, hb1⟩
  have HN1 := Lib.hid hN1.rd
  clear hN1
  simp only [kcells_new]
  obtain ⟨A, ca, M, cm, N, cn, S, cs, Q, cq⟩ := a
  go_wp2_with fail
  refine (kernelOf_any _).mono ?_
  rintro e w2 ⟨b, rfl, hN2, hb2⟩
  have HN2 := Lib.hid hN2.rd
  have hbx := (Wb.new w1 tKern [.slice A 0 ca, .slice M 1024 cm, .slice N 8 cn, .slice S 6 cs, .slice Q 4 cq]).below hb2 (by simp)
  have hb3 := hb1.trans (((Below.refl _ w1).alloc (Nat.le_refl _) _).trans (hb2.mono (by simp)) |>.mono hb1.size)
  have HN3 := Lib.hid (HN1.out.below (((Below.refl _ w1).alloc (Nat.le_refl _) _).trans (hb2.mono (by simp))))
  have c0 := hbx.cell 0
  have c1 := hbx.cell 1
  have c2 := hbx.cell 2
  have c3 := hbx.cell 3
  have c4 := hbx.cell 4
  have hlt := hbx.lt
  simp only [List.getElem?_cons_zero, List.getElem?_cons_succ] at c0 c1 c2 c3 c4
  clear hbx hb2 hb1 HN1 hN2
  simp only [kcells_new]
  obtain ⟨A', ca', M', cm', N', cn', S', cs', Q', cq'⟩ := b
  have HSm := Lib.hid (fun o => sameKernel_same Cf.newKern ⟨A, ca, M, cm, N, cn, S, cs, Q, cq⟩ ⟨A', ca', M', cm', N', cn', S', cs', Q', cq'⟩ (w2.alloc o) (HN3.out.below ((Below.refl _ _).alloc (Nat.le_refl _) o)) (HN2.out.below ((Below.refl _ _).alloc (Nat.le_refl _) o)) newFit)
  simp only [kcells_new] at HSm
  go_wp2_with fail
  refine (HSm.out _).mono ?_
  rintro e w4 ⟨rfl, hb4⟩
  have hb := (hb3.alloc hb3.size _).trans (hb4.mono (by have := hb3.size; simp; omega))
  clear hb4 HSm c0 c1 c2 c3 c4
  go_wp2
  go_ret
  exact ⟨rfl, hb⟩

set_option maxRecDepth 100000 in
theorem contract (H : Type) (enc : TypeId × Value → H) (W : World) (base : Nat) (args : Array Value) (ds gs : List (DataW H)) (before : List MemPlace)
    (hval : ∀ (j : Nat) t v, Try.f5.params[j]? = some t → args[j]? = some v → Value.okWide Try.prog W .any base t v)
    (hW : DataW.Whole enc Try.prog Try.f5.params.toList Rows.kernNewSpec.vars false W args.toList ds gs before)
    (_hsz0 : (DataW.weightsEach Try.prog (Try.f5.params.toList ++ (OpenSpec.ofChange Rows.kernNewSpec).bare.plain.varTypes Try.prog) (ds ++ gs)).all (· ≤ reachBytes) = true)
    (_hL : laidMetH Try.prog Rows.kernNewRow.laid W) (_hsh : W.ShapedOpen Try.prog) :
    Calls Try.prog 5 args W fun e W' => ∃ v, e = .returned v ∧ Rows.kernNewSpec.post enc Try.prog Try.f5 false true false false W args v W' := by
  have hW' := hW
  obtain ⟨p, q, hA0, hV, rfl, hfz, hnd⟩ := hW
  have hA : DataW.TrodAll enc Try.prog W 0 (fun _ => true) true Try.f5.params.toList args.toList ds p := hA0
  rw [Try.params5] at hA hval
  obtain ⟨hnil, rfl, rfl⟩ := trodAll_nil hA
  obtain rfl : args = #[] := by cases args; simp_all
  obtain ⟨rfl, rfl⟩ : gs = [] ∧ q = [] := by cases gs with | nil => exact ⟨rfl, hV⟩ | cons g gs => exact hV.elim
  refine (walk W).mono fun e W' ⟨he, hb⟩ => ?_
  exact ⟨_, he, post_law laidOut (by kernel_rfl) Try.underlying4 rfl (by kernel_rfl) (fun ds hd => by
    match ds, hd with
    | [], _ => rfl) hW' hb⟩

noncomputable def laidWorld (os : Os) : World := { World.holding Try.prog os ⟨#[], #[], []⟩ with heap := (World.holding Try.prog os ⟨#[], #[], []⟩).heap }
theorem laid_met (os : Os) : laidMet Try.prog Rows.kernNewRow.laid ((laidWorld os).forCall (fun _ _ => 0) ⟨#[], #[], []⟩).memory := ⟨[], rfl, List.nodup_nil, fun _ _ h => by cases h⟩
theorem reads (os : Os) {H : Type} (enc : TypeId × Value → H) : ∃ places, DataW.whole enc Try.prog ((laidWorld os).forCall (fun _ _ => 0) ⟨#[], #[], []⟩).memory Try.f5.params.toList Rows.kernNewSpec.vars false (#[] : Array Value).toList 8 = some ([], [], places) :=
  ⟨[], by kernel_rfl⟩

set_option maxRecDepth 100000 in
theorem lifted (os : Os) (started : os.Started) (H : Type) (enc : TypeId × Value → H) (F : Stop.Interp) :
    ReturnsInHanded {} Try.checked os 5 .any ((OpenSpec.ofChange Rows.kernNewSpec).preRow enc Try.prog Try.f5 Rows.kernNewRow.domain false Rows.kernNewRow.laid) (((OpenSpec.ofChange Rows.kernNewSpec).at F).post enc Try.prog Try.f5 false true false false) := by
  obtain ⟨places, hx⟩ := reads os enc
  refine returnsInHanded_of_row (C := Try.checked) (s := (OpenSpec.ofChange Rows.kernNewSpec)) own started (by kernel_rfl) Try.func5
    (witness_row_at (enc := enc) (C := Try.checked) false (laidWorld os) #[] rfl (by kernel_rfl) (by kernel_rfl) (by kernel_rfl)
      (OpenSpec.preRow_of_cond 8 hx (by kernel_rfl) (fun k hk => by cases hk) (by kernel_rfl) (laid_met os))) ?_
  intro W base args ds gs before hval hW _ hcond hsz hL hsh _
  exact contract H enc W base args ds gs before hval hW hsz hL hsh

theorem said : Rows.KernNewSaid :=
  OpenClaim.holds_of_cond 5 Try.f5 rfl rfl rfl rfl rfl rfl rfl ⟨rfl, rfl, rfl, rfl, rfl⟩ rfl rfl rfl rfl rfl (by kernel_rfl) Try.func5 (by kernel_rfl)
    (of_decide_eq_true (by kernel_rfl)) (by unfold Func.isWrapper; first | (rw [if_pos (by decide +kernel)]; kernel_rfl) | (rw [if_neg (by decide +kernel)]; exact ⟨rfl, rfl⟩))
    (fun os started H enc _ F => by rw [OpenClaim.pre_eq_preRow]; exact lifted os started H enc F)
end Go.Proofs.Ytcfkieeildpklab.KernNewLaw
namespace Go.Proofs.Ytcfkieeildpklab
theorem kernNew_holds : Rows.KernNewSaid := KernNewLaw.said
#print axioms kernNew_holds
end Go.Proofs.Ytcfkieeildpklab
