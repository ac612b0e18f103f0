/- ModuleCopies: for every module, module.Copy hands back a module that reads as the one handed in. No condition beyond what fits into a machine's memory. -/
import Derived.Test.YtdhnoaohicopdabRows
import Derived.Test.YtdhnoaohicopdabCopyW
import Derived.Test.YtdhnoaohicopdabSameM
import Derived.Test.YtdhnoaohicopdabOpenM
import Derived.Test.YtdhnoaohicopdabKit
namespace Go.Proofs.Ytdhnoaohicopdab.ModuleCopiesLaw
open Go.ChangeShapes Go.WideShapes Go.ChangeAt Go.RowKit

theorem own : ownKnob Try.prog.godebug = none := by kernel_rfl
theorem laidOut : laidOutB Try.prog = true := by kernel_rfl
set_option maxHeartbeats 1000000 in
theorem walk (n : List UInt8) (l : List Cf.Ins) (d : List Int) (A B : Option Addr) (ca cb : Nat) (w : World) (hC : Codes w A l) (hD : Ints w B d) (hn : n.length ≤ 140737488355328) (hl : l.length ≤ maxLen) (hd : d.length ≤ maxLen) (hlb : l.length * 32 ≤ 140737488355328) (hdb : d.length * 8 ≤ 140737488355328) :
    Calls Try.prog 4 #[.agg #[.string ⟨n.toArray⟩, .slice A l.length ca, .slice B d.length cb]] w fun e w' => e = .returned (.bool true) ∧ Below w.heap.size w w' := by
  have hb0 : Below w.heap.size w (w.alloc (.cells #[.string ⟨n.toArray⟩, .slice A l.length ca, .slice B d.length cb] 26)) := (Below.refl _ _).alloc (Nat.le_refl _) _
  have hbox : Wb (w.alloc (.cells #[.string ⟨n.toArray⟩, .slice A l.length ca, .slice B d.length cb] 26)) w.heap.size 26 [.string ⟨n.toArray⟩, .slice A l.length ca, .slice B d.length cb] := Wb.new w 26 [.string ⟨n.toArray⟩, .slice A l.length ca, .slice B d.length cb]
  have HV := Lib.hid (copy_any n l d A B ca cb _ (hC.below hb0) (hD.below hb0) hn hl hd hlb hdb)
  have HC := Lib.hid hC
  have HD := Lib.hid hD
  have Hbox := Lib.hid hbox
  have Hhl := Lib.hid hl
  have Hhd := Lib.hid hd
  clear hC hD hbox hl hd
  go_enter Try.func4, Try.ntmps4
  go_wp2_with fail
  refine HV.out.mono ?_
  rintro e w1 ⟨A2, B2, ca2, cb2, rfl, hA2, hB2, hb1⟩
  have hbw1 := hb0.trans (hb1.mono (by simp))
  have hbox1 := Hbox.out.below hb1 (by simp)
  have hz1 := hbox1.lt
  have p0 := hbox1.cell 0
  have p1 := hbox1.cell 1
  have p2 := hbox1.cell 2
  simp only [List.getElem?_cons_zero, List.getElem?_cons_succ] at p0 p1 p2
  have HA2 := Lib.hid hA2
  have HB2 := Lib.hid hB2
  clear hb0 hb1 hbox1 HV Hbox hA2 hB2
  have hb5 : ∀ o : Obj, Below w1.heap.size w1 (w1.alloc o) := fun o => (Below.refl _ _).alloc (Nat.le_refl _) _
  have HSm := Lib.hid (fun o => sameModule_same n l d A2 B2 A B ca2 cb2 ca cb (w1.alloc o) (HA2.out.below (hb5 o)) (HB2.out.below (hb5 o)) (HC.out.below (hbw1.alloc hbw1.size o)) (HD.out.below (hbw1.alloc hbw1.size o)) Hhl.out Hhd.out)
  clear hb5
  go_wp2_with fail
  refine (HSm.out _).mono ?_
  rintro e w2 ⟨rfl, hb2⟩
  have hb := (hbw1.alloc hbw1.size _).trans (hb2.mono (by have := hbw1.size; simp; omega))
  clear hb2 HSm p0 p1 p2
  go_wp2
  go_ret
  exact ⟨rfl, hb⟩

set_option maxRecDepth 100000 in
theorem contract (H : Type) (enc : TypeId × Value → H) (W : World) (base : Nat) (args : Array Value) (ds gs : List (DataW H)) (before : List MemPlace)
    (hval : ∀ (j : Nat) t v, Try.f4.params[j]? = some t → args[j]? = some v → Value.okWide Try.prog W .any base t v)
    (hW : DataW.Whole enc Try.prog Try.f4.params.toList Rows.moduleCopiesSpec.vars false W args.toList ds gs before)
    (hsz0 : (DataW.weightsEach Try.prog (Try.f4.params.toList ++ (OpenSpec.ofChange Rows.moduleCopiesSpec).bare.plain.varTypes Try.prog) (ds ++ gs)).all (· ≤ reachBytes) = true)
    (_hL : laidMetH Try.prog Rows.moduleCopiesRow.laid W) (_hsh : W.ShapedOpen Try.prog) :
    Calls Try.prog 4 args W fun e W' => ∃ v, e = .returned v ∧ Rows.moduleCopiesSpec.post enc Try.prog Try.f4 false true false false W args v W' := by
  have hW' := hW
  obtain ⟨p, q, hA0, hV, rfl, hfz, hnd⟩ := hW
  have hA : DataW.TrodAll enc Try.prog W 0 (fun _ => true) true Try.f4.params.toList args.toList ds p := hA0
  rw [Try.params4] at hA hval
  obtain ⟨v0, vs0, d0, ds0, p0, q0, hargs0, rfl, rfl, h0, r0⟩ := trodAll_cons hA
  obtain ⟨hnil, rfl, rfl⟩ := trodAll_nil r0
  obtain rfl : args = #[v0] := by cases args; simp_all
  obtain ⟨rfl, rfl⟩ : gs = [] ∧ q = [] := by cases gs with | nil => exact ⟨rfl, hV⟩ | cons g gs => exact hV.elim
  rw [Try.params4] at hsz0
  obtain ⟨n, l, d, A, ca, B, cb, rfl, _, hC, hD, ⟨_, hn⟩, ⟨hl, hlb⟩, ⟨hd, hdb⟩⟩ := open_mod_arg (hval 0 26 v0 rfl rfl) h0 (light_arg hsz0 (j := 0) rfl rfl)
  simp only [reachBytes] at hn hlb hdb
  refine (walk n l d A B ca cb W hC hD (by omega) hl hd (by omega) (by omega)).mono fun e W' ⟨he, hb⟩ => ?_
  exact ⟨_, he, post_law laidOut (by kernel_rfl) Try.underlying4 rfl (by kernel_rfl) (fun ds hd => by
    match ds, hd with
    | [d0], _ => rfl) hW' hb⟩

noncomputable def laidWorld (os : Os) : World := { World.holding Try.prog os ⟨#[], #[], []⟩ with heap := (World.holding Try.prog os ⟨#[], #[], []⟩).heap }
theorem laid_met (os : Os) : laidMet Try.prog Rows.moduleCopiesRow.laid ((laidWorld os).forCall (fun _ _ => 0) ⟨#[], #[.agg #[.string ⟨#[]⟩, .slice none 0 0, .slice none 0 0]], []⟩).memory := ⟨[], rfl, List.nodup_nil, fun _ _ h => by cases h⟩
theorem reads (os : Os) {H : Type} (enc : TypeId × Value → H) : ∃ places, DataW.whole enc Try.prog ((laidWorld os).forCall (fun _ _ => 0) ⟨#[], #[.agg #[.string ⟨#[]⟩, .slice none 0 0, .slice none 0 0]], []⟩).memory Try.f4.params.toList Rows.moduleCopiesSpec.vars false (#[Value.agg #[.string ⟨#[]⟩, .slice none 0 0, .slice none 0 0]] : Array Value).toList 8 = some ([.agg [.lit (.string []), .nil, .nil]], [], places) :=
  ⟨[], by kernel_rfl⟩

set_option maxRecDepth 100000 in
theorem lifted (os : Os) (started : os.Started) (H : Type) (enc : TypeId × Value → H) (F : Stop.Interp) :
    ReturnsInHanded {} Try.checked os 4 .any ((OpenSpec.ofChange Rows.moduleCopiesSpec).preRow enc Try.prog Try.f4 Rows.moduleCopiesRow.domain false Rows.moduleCopiesRow.laid) (((OpenSpec.ofChange Rows.moduleCopiesSpec).at F).post enc Try.prog Try.f4 false true false false) := by
  obtain ⟨places, hx⟩ := reads os enc
  refine returnsInHanded_of_row (C := Try.checked) (s := (OpenSpec.ofChange Rows.moduleCopiesSpec)) own started (by kernel_rfl) Try.func4
    (witness_row_at (enc := enc) (C := Try.checked) false (laidWorld os) #[.agg #[.string ⟨#[]⟩, .slice none 0 0, .slice none 0 0]] rfl (by kernel_rfl) (by kernel_rfl) (by kernel_rfl)
      (OpenSpec.preRow_of_cond 8 hx (by kernel_rfl) (fun k hk => by cases hk) (by kernel_rfl) (laid_met os))) ?_
  intro W base args ds gs before hval hW _ hcond hsz hL hsh _
  exact contract H enc W base args ds gs before hval hW hsz hL hsh

theorem said : Rows.ModuleCopiesSaid :=
  OpenClaim.holds_of_cond 4 Try.f4 rfl rfl rfl rfl rfl rfl rfl ⟨rfl, rfl, rfl, rfl, rfl⟩ rfl rfl rfl rfl rfl (by kernel_rfl) Try.func4 (by kernel_rfl)
    (of_decide_eq_true (by kernel_rfl)) (by unfold Func.isWrapper; first | (rw [if_pos (by decide +kernel)]; kernel_rfl) | (rw [if_neg (by decide +kernel)]; exact ⟨rfl, rfl⟩))
    (fun os started H enc _ F => by rw [OpenClaim.pre_eq_preRow]; exact lifted os started H enc F)
end Go.Proofs.Ytdhnoaohicopdab.ModuleCopiesLaw
namespace Go.Proofs.Ytdhnoaohicopdab
theorem moduleCopies_holds : Rows.ModuleCopiesSaid := ModuleCopiesLaw.said
#print axioms moduleCopies_holds
end Go.Proofs.Ytdhnoaohicopdab
