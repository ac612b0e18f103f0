/- ModuleDecodes: for every text, module.Decode answers as the reference does (the module and the error). Conditions: the package-level tables that the road reads hold what the program's text lays (the card ties them). -/
import Derived.Test.YtdhnoaohicopdabDoorCards
import Derived.Test.YtdhnoaohicopdabDoorTie
import Derived.Test.YtdhnoaohicopdabDoorDecW
import Derived.Test.YtdhnoaohicopdabDoorOfR
import Derived.Test.YtdhnoaohicopdabDoorSameM
import Derived.Test.YtdhnoaohicopdabDoorTabsL
import Derived.Test.YtdhnoaohicopdabDoorKit
namespace Go.Proofs.YtdhnoaohicopdabDoor.ModuleDecodesLaw
open Go.ChangeShapes Go.WideShapes Go.ChangeAt Go.RowKit

theorem own : ownKnob Tryd.prog.godebug = none := by kernel_rfl
theorem laidOut : laidOutB Tryd.prog = true := by kernel_rfl
theorem dec_len (s : List UInt8) : (Cf.decT s).mod.code.length ≤ 255 ∧ (Cf.decT s).mod.data.length ≤ 255 := by
  rw [Cf.decT_parse]
  have h := parse_len (s.drop 4)
  generalize Cf.parseT (s.drop 4) = g at *
  have hz : Cf.noMod.code.length ≤ 255 ∧ Cf.noMod.data.length ≤ 255 := ⟨Nat.zero_le _, Nat.zero_le _⟩
  by_cases h1 : 4000 < s.length
  · rw [if_pos h1]; exact hz
  · rw [if_neg h1]
    by_cases h2 : s.length < 4
    · rw [if_pos h2]; exact hz
    · rw [if_neg h2]
      by_cases h3 : Cf.sealL (s.drop 4) ≠ s.take 4
      · rw [if_pos h3]; exact hz
      · rw [if_neg h3]
        by_cases h4 : g.err = 0
        · rw [if_pos h4]
          by_cases h5 : Cf.modT g.mod = 0
          · rw [if_pos h5]; exact h.2
          · rw [if_neg h5]; exact hz
        · rw [if_neg h4]; exact hz
set_option maxHeartbeats 1000000 in
theorem walk (s : List UInt8) (hs : s.length ≤ maxLen) (w : World) (hL : TabL w) (hF : TabF w) :
    Calls Tryd.prog 6 #[.string ⟨s.toArray⟩] w fun e w' => e = .returned (.bool true) ∧ Below w.heap.size w w' := by
  have HD := Lib.hid (decode_any s w hL hF hs)
  have HO := Lib.hid (fun W => moduleOf_any s W hs)
  obtain ⟨hl1, hl2⟩ := dec_len s
  generalize Cf.decT s = g at *
  obtain ⟨⟨n, l, d⟩, er⟩ := g
  dsimp only at HD HO hl1 hl2
  clear hL hF hs
  go_enter Tryd.func6, Tryd.ntmps6
  go_wp2_with fail
  refine HD.out.mono ?_
  rintro e w1 ⟨A, B, ca, cb, rfl, hA, hB, hb1, _, _⟩
  dsimp only at hA hB ⊢
  have hb1a : Below w1.heap.size w1 (w1.alloc (.cells #[.string ⟨n.toArray⟩, .slice A l.length ca, .slice B d.length cb] 37)) := (Below.refl _ _).alloc (Nat.le_refl _) _
  have hbw1 := hb1.trans (hb1a.mono hb1.size)
  have HA1 := Lib.hid (hA.below hb1a)
  have HB1 := Lib.hid (hB.below hb1a)
  have Hx1 := Lib.hid (Wb.new w1 37 [.string ⟨n.toArray⟩, .slice A l.length ca, .slice B d.length cb])
  clear HD hA hB hb1 hb1a
  go_wp2_with fail
  generalize hwa : w1.alloc _ = wa at *
  clear hwa
  refine (HO.out _).mono ?_
  rintro e w2 ⟨A2, B2, ca2, cb2, rfl, hA2, hB2, hb2, _, _⟩
  dsimp only at hA2 hB2 ⊢
  have hbw2 := hbw1.trans (hb2.mono hbw1.size)
  have HA12 := Lib.hid (HA1.out.below hb2)
  have HB12 := Lib.hid (HB1.out.below hb2)
  have HA2 := Lib.hid hA2
  have HB2 := Lib.hid hB2
  have hx2 := Hx1.out.below hb2 Hx1.out.lt
  have y0 := hx2.cell 0
  have y1 := hx2.cell 1
  have y2 := hx2.cell 2
  have hz2 := hx2.lt
  simp only [List.getElem?_cons_zero, List.getElem?_cons_succ] at y0 y1 y2
  have hb5 : ∀ o : Obj, Below w2.heap.size w2 (w2.alloc o) := fun o => (Below.refl _ _).alloc (Nat.le_refl _) _
  have HSm := Lib.hid (fun o => sameModule_same n l d A B A2 B2 ca cb ca2 cb2 (w2.alloc o) (HA12.out.below (hb5 o)) (HB12.out.below (hb5 o)) (HA2.out.below (hb5 o)) (HB2.out.below (hb5 o)) (by unfold maxLen; omega) (by unfold maxLen; omega))
  have hbo := fun o => hbw2.alloc hbw2.size o
  clear HO Hx1 hx2 hb2 hA2 hB2 HA1 HB1 hb5
  go_wp2_with fail
  refine (HSm.out _).mono ?_
  rintro e w3 ⟨rfl, hb3⟩
  have hb := (hbo _).trans (hb3.mono (by have := hbw2.size; simp; omega))
  clear hb3 HSm y0 y1 y2 hbo
  go_wp2
  go_ret
  exact ⟨rfl, hb⟩

set_option maxRecDepth 100000 in
theorem contract (H : Type) (enc : TypeId × Value → H) (W : World) (base : Nat) (args : Array Value) (ds gs : List (DataW H)) (before : List MemPlace)
    (hval : ∀ (j : Nat) t v, Tryd.f6.params[j]? = some t → args[j]? = some v → Value.okWide Tryd.prog W .any base t v)
    (hW : DataW.Whole enc Tryd.prog Tryd.f6.params.toList Rows.moduleDecodesSpec.vars false W args.toList ds gs before)
    (_hsz0 : (DataW.weightsEach Tryd.prog (Tryd.f6.params.toList ++ (OpenSpec.ofChange Rows.moduleDecodesSpec).bare.plain.varTypes Tryd.prog) (ds ++ gs)).all (· ≤ reachBytes) = true)
    (hL : laidMetH Tryd.prog Rows.moduleDecodesRow.laid W) (_hsh : W.ShapedOpen Tryd.prog) :
    Calls Tryd.prog 6 args W fun e W' => ∃ v, e = .returned v ∧ Rows.moduleDecodesSpec.post enc Tryd.prog Tryd.f6 false true false false W args v W' := by
  have hW' := hW
  obtain ⟨p, q, hA0, hV, rfl, hfz, hnd⟩ := hW
  have hA : DataW.TrodAll enc Tryd.prog W 0 (fun _ => true) true Tryd.f6.params.toList args.toList ds p := hA0
  rw [Tryd.params6] at hA hval
  obtain ⟨v0, vs0, d0, ds0, p0, q0, hargs0, rfl, rfl, h0, r0⟩ := trodAll_cons hA
  obtain ⟨hnil, rfl, rfl⟩ := trodAll_nil r0
  obtain rfl : args = #[v0] := by cases args; simp_all
  obtain ⟨rfl, rfl⟩ : gs = [] ∧ q = [] := by cases gs with | nil => exact ⟨rfl, hV⟩ | cons g gs => exact hV.elim
  obtain ⟨s, rfl, rfl, rfl, hs⟩ := Go.ChangeMaps.open_string Tryd.underlying9 (hval 0 9 v0 rfl rfl) h0
  obtain ⟨⟨sl⟩⟩ := s
  have hs' : sl.length ≤ maxLen := by simpa [ByteArray.size] using hs
  refine (walk sl hs' W (laidL hL (List.Mem.head _)) (laidF hL (List.Mem.tail _ (List.Mem.head _)))).mono fun e W' ⟨he, hb⟩ => ?_
  exact ⟨_, he, post_law laidOut (by kernel_rfl) Tryd.underlying4 rfl (by kernel_rfl) (fun ds hd => by
    match ds, hd with
    | [d0], _ => rfl) hW' hb⟩

noncomputable def laidWorld (os : Os) : World := { World.holding Tryd.prog os ⟨#[], #[], []⟩ with heap := (((World.holding Tryd.prog os ⟨#[], #[], []⟩).heap).modify 1 (withCells (Cf.larTab.map (Value.int .i64)))).modify 0 (withCells (Cf.fmtTab.flatten.map (Value.int .i64))) }
theorem laid_met (os : Os) : laidMet Tryd.prog Rows.moduleDecodesRow.laid ((laidWorld os).forCall (fun _ _ => 0) ⟨#[], #[.string ⟨#[]⟩], []⟩).memory :=
  laidMet_of_run' 8 (by kernel_rfl) (by kernel_rfl)
theorem reads (os : Os) {H : Type} (enc : TypeId × Value → H) : ∃ places, DataW.whole enc Tryd.prog ((laidWorld os).forCall (fun _ _ => 0) ⟨#[], #[.string ⟨#[]⟩], []⟩).memory Tryd.f6.params.toList Rows.moduleDecodesSpec.vars false (#[Value.string ⟨#[]⟩] : Array Value).toList 8 = some ([.lit (.string [])], [], places) :=
  ⟨[], by kernel_rfl⟩

set_option maxRecDepth 100000 in
theorem lifted (os : Os) (started : os.Started) (H : Type) (enc : TypeId × Value → H) (F : Stop.Interp) :
    ReturnsInHanded {} Tryd.checked os 6 .any ((OpenSpec.ofChange Rows.moduleDecodesSpec).preRow enc Tryd.prog Tryd.f6 Rows.moduleDecodesRow.domain false Rows.moduleDecodesRow.laid) (((OpenSpec.ofChange Rows.moduleDecodesSpec).at F).post enc Tryd.prog Tryd.f6 false true false false) := by
  obtain ⟨places, hx⟩ := reads os enc
  refine returnsInHanded_of_row (C := Tryd.checked) (s := (OpenSpec.ofChange Rows.moduleDecodesSpec)) own started (by kernel_rfl) Tryd.func6
    (witness_row_at (enc := enc) (C := Tryd.checked) false (laidWorld os) #[.string ⟨#[]⟩] rfl (by kernel_rfl) (by kernel_rfl) (by kernel_rfl)
      (OpenSpec.preRow_of_cond 8 hx (by kernel_rfl) (fun k hk => by cases hk) (by kernel_rfl) (laid_met os))) ?_
  intro W base args ds gs before hval hW _ hcond hsz hL hsh _
  exact contract H enc W base args ds gs before hval hW hsz hL hsh

theorem said : Rows.ModuleDecodesSaid :=
  OpenClaim.holds_of_cond 6 Tryd.f6 rfl rfl rfl rfl rfl rfl rfl ⟨rfl, rfl, rfl, rfl, rfl⟩ rfl rfl rfl rfl rfl (by kernel_rfl) Tryd.func6 (by kernel_rfl)
    (of_decide_eq_true (by kernel_rfl)) (by unfold Func.isWrapper; first | (rw [if_pos (by decide +kernel)]; kernel_rfl) | (rw [if_neg (by decide +kernel)]; exact ⟨rfl, rfl⟩))
    (fun os started H enc _ F => by rw [OpenClaim.pre_eq_preRow]; exact lifted os started H enc F)
theorem plain (f : FuncId) (fn : Func) (hf : Tryd.pinned.checked.prog.funcNamed "curfew/curfewlaw.ModuleDecodes" = some f) (hfn : Tryd.pinned.checked.prog.funcs[f]? = some fn) :
    false = Tryd.pinned.checked.prog.looks [] ∧ ∀ (j : Nat) t, fn.params[j]? = some t → Tryd.pinned.checked.prog.wantsStandIn t = false := by
  obtain rfl : f = 6 := Option.some.inj ((show Tryd.prog.funcNamed "curfew/curfewlaw.ModuleDecodes" = some 6 by kernel_rfl).symm.trans hf) |>.symm
  obtain rfl : fn = Tryd.f6 := (Option.some.inj (Tryd.func6.symm.trans hfn)).symm
  refine ⟨by kernel_rfl, fun j t ht => ?_⟩
  rw [Tryd.params6] at ht
  obtain rfl : t = 9 := by simpa using Array.mem_of_getElem? ht
  exact (show Tryd.prog.wantsStandIn 9 = false by kernel_rfl)
theorem card : Rows.ModuleDecodesCardSaid :=
  Claim7.holds_tied_plain_at .later [] _ _ _ _ said (fun _ h => by cases h) (by kernel_rfl) (fun _ h => by cases h) moduleDecodes_row_tie rfl ⟨rfl, rfl⟩ (by kernel_rfl) rfl plain (by kernel_rfl)
end Go.Proofs.YtdhnoaohicopdabDoor.ModuleDecodesLaw
namespace Go.Proofs.YtdhnoaohicopdabDoor
theorem moduleDecodes_holds : Rows.ModuleDecodesCardSaid := ModuleDecodesLaw.card
#print axioms moduleDecodes_holds
end Go.Proofs.YtdhnoaohicopdabDoor
