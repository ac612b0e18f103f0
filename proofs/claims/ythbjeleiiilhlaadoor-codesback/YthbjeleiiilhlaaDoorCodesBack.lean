/- CodesBack: for every list of raw numbers and every text, reading the text of the code that is made of the list returns the code, and a text that is read is the text of what was read. Conditions: the package-level tables and sentinels that the road reads hold what the program's text lays (the card ties them; one table of the library is pinned). -/
import Derived.Test.YthbjeleiiilhlaaDoorCards
import Derived.Test.YthbjeleiiilhlaaDoorTie
import Derived.Test.YthbjeleiiilhlaaDoorBackP
import Derived.Test.YthbjeleiiilhlaaDoorKeepE
import Derived.Test.YthbjeleiiilhlaaDoorShow
import Derived.Test.YthbjeleiiilhlaaDoorTabsK
import Derived.Test.YthbjeleiiilhlaaDoorTabsR
import Derived.Test.YthbjeleiiilhlaaDoorKit
namespace Go.Proofs.YthbjeleiiilhlaaDoor.CodesBackLaw
open Go.ChangeShapes Go.WideShapes Go.ChangeAt Go.RowKit

theorem own : ownKnob Tryd.prog.godebug = none := by kernel_rfl
theorem laidOut : laidOutB Tryd.prog = true := by kernel_rfl
set_option maxHeartbeats 1000000 in
theorem walk (l : List Cf.Ins) (hf : ∀ x ∈ l, FitI x) (A0 : Option Addr) (c0 : Nat) (s : List UInt8) (hs : s.length ≤ maxLen) (w : World) (hl : Codes w A0 l) (hm : l.length ≤ maxLen) (hM : MaxL w) (hL : TabL w) (hF : TabF w) (hN : TabN w) (hP : TabP w) (hS : SentS w) (hR : SentR w) :
    Calls Tryd.prog 6 #[.slice A0 l.length c0, .string ⟨s.toArray⟩] w fun e w' => e = .returned (.bool true) ∧ Below w.heap.size w w' := by
  go_enter Tryd.func6, Tryd.ntmps6
  go_wp2_with fail
  refine (code_any l hf A0 c0 w hl hm).mono ?_
  rintro e w1 ⟨A, ca, a, rfl, ha, hfa, hA, hb1⟩
  have hla : (Cf.showAll a).length ≤ 4000 := by
    have := Cf.all_len a (by unfold Cf.fault at hfa; rwa [if_neg (by omega)] at hfa)
    omega
  have hma : a.length ≤ maxLen := by unfold maxLen; omega
  have HT := Lib.hid (show Cf.showT a = Cf.showAll a by unfold Cf.showT; rw [if_pos hfa])
  have HRd := Lib.hid (Cf.read_show a hfa hla)
  go_wp2_with fail
  refine (show_any a A ca _ hA (hL.below hb1) (hF.below hb1) (hN.below hb1) (hP.below hb1) hma).mono ?_
  rw [HT.out, hfa]
  rintro e w2 ⟨rfl, hb2⟩
  have hbb := hb1.trans (hb2.mono hb1.size)
  have hA2 := hA.below hb2
  have Hread := Lib.hid (read_any (Cf.showAll a) (by unfold maxLen; omega) w2 (hM.below hbb) (hL.below hbb) (hF.below hbb) (hN.below hbb) (hP.below hbb) (hS.below hbb) (hR.below hbb))
  rw [HRd.out] at Hread
  clear HRd HT hfa hb1 hb2 hA
  generalize Cf.showAll a = t at hla Hread ⊢
  go_wp2_with fail
  refine Hread.out.mono ?_
  rintro e w3 ⟨B, cb, rfl, hB, hb3⟩
  have hbc := hbb.trans (hb3.mono hbb.size)
  have hA3 := hA2.below hb3
  clear Hread hbb hb3 hA2
  dsimp only at hB ⊢
  have Hback := Lib.hid (Cf.show_read s)
  have hgl := Cf.readT_len s
  go_wp2_with fail
  refine (read_any s hs _ (hM.below hbc) (hL.below hbc) (hF.below hbc) (hN.below hbc) (hP.below hbc) (hS.below hbc) (hR.below hbc)).mono ?_
  rintro e w4 ⟨X, cx, rfl, hX, hb4⟩
  have hbd := hbc.trans (hb4.mono hbc.size)
  have hA4 := hA3.below hb4
  have hB4 := hB.below hb4
  clear hbc hb4 hA3 hB
  generalize Cf.readT s = g at *
  obtain ⟨gc, gl, ge⟩ := g
  dsimp only at hX hgl Hback ⊢
  by_cases h0 : ge = 0
  · obtain ⟨hline, hfc, hsh⟩ := Hback.out h0
    subst h0
    subst hline
    have HT := Lib.hid (show Cf.showT gc = s by unfold Cf.showT; rw [if_pos hfc, hsh])
    clear hsh
    go_wp2_with fail
    refine (show_any gc X cx _ hX (hL.below hbd) (hF.below hbd) (hN.below hbd) (hP.below hbd) (by unfold maxLen; omega)).mono ?_
    rw [HT.out, hfc]
    rintro e w5 ⟨rfl, hb5⟩
    have hbe := hbd.trans (hb5.mono hbd.size)
    have hA5 := hA4.below hb5
    have hB5 := hB4.below hb5
    clear hbd hb5 hA4 hB4 HT hfc
    go_wp2_with fail
    refine (equal_same a A B ca cb _ hA5 hB5 hma).mono ?_
    rintro e w6 ⟨rfl, hb6⟩
    have hbf := hbe.trans (hb6.mono hbe.size)
    clear hbe hb6
    go_wp2
    go_ret
    exact ⟨rfl, hbf⟩
  · have h0' : (ge == 0) = false := by rw [beq_eq_false_iff_ne]; exact h0
    clear h0
    go_wp2_with fail
    refine (equal_same a A B ca cb _ hA4 hB4 hma).mono ?_
    rintro e w6 ⟨rfl, hb6⟩
    have hbf := hbd.trans (hb6.mono hbd.size)
    clear hbd hb6
    go_wp2
    go_ret
    exact ⟨rfl, hbf⟩

set_option maxRecDepth 100000 in
theorem contract (H : Type) (enc : TypeId × Value → H) (W : World) (base : Nat) (args : Array Value) (ds gs : List (DataW H)) (before : List MemPlace)
    (hval : ∀ (j : Nat) t v, Tryd.f6.params[j]? = some t → args[j]? = some v → Value.okWide Tryd.prog W .any base t v)
    (hW : DataW.Whole enc Tryd.prog Tryd.f6.params.toList Rows.codesBackSpec.vars false W args.toList ds gs before)
    (_hsz0 : (DataW.weightsEach Tryd.prog (Tryd.f6.params.toList ++ (OpenSpec.ofChange Rows.codesBackSpec).bare.plain.varTypes Tryd.prog) (ds ++ gs)).all (· ≤ reachBytes) = true)
    (hL : laidMetH Tryd.prog Rows.codesBackRow.laid W) (hsh : W.ShapedOpen Tryd.prog) :
    Calls Tryd.prog 6 args W fun e W' => ∃ v, e = .returned v ∧ Rows.codesBackSpec.post enc Tryd.prog Tryd.f6 false true false false W args v W' := by
  have hW' := hW
  obtain ⟨p, q, hA0, hV, rfl, hfz, hnd⟩ := hW
  have hA : DataW.TrodAll enc Tryd.prog W 0 (fun _ => true) true Tryd.f6.params.toList args.toList ds p := hA0
  rw [Tryd.params6] at hA hval
  obtain ⟨v0, vs0, d0, ds0, p0, q0, hargs0, rfl, rfl, h0, r0⟩ := trodAll_cons hA
  obtain ⟨v1, vs1, d1, ds1, p1, q1, hargs1, rfl, rfl, h1, r1⟩ := trodAll_cons r0
  obtain ⟨hnil, rfl, rfl⟩ := trodAll_nil r1
  obtain rfl : args = #[v0, v1] := by cases args; simp_all
  obtain ⟨rfl, rfl⟩ : gs = [] ∧ q = [] := by cases gs with | nil => exact ⟨rfl, hV⟩ | cons g gs => exact hV.elim
  obtain ⟨A, cap, l, rfl, hl, hm, hf⟩ := open_fit Tryd.underlying32 rawFields (hval 0 32 v0 rfl rfl) h0
  obtain ⟨s, rfl, rfl, rfl, hs⟩ := Go.ChangeMaps.open_string Tryd.underlying9 (hval 1 9 v1 rfl rfl) h1
  obtain ⟨⟨sl⟩⟩ := s
  have hs' : sl.length ≤ maxLen := by simpa [ByteArray.size] using hs
  refine (walk l hf A cap sl hs' W hl hm (maxL_of hsh) (laidL hL (List.Mem.tail _ (List.Mem.tail _ (List.Mem.tail _ (List.Mem.tail _ (List.Mem.tail _ (List.Mem.tail _ (List.Mem.head _)))))))) (laidF hL (List.Mem.tail _ (List.Mem.tail _ (List.Mem.tail _ (List.Mem.tail _ (List.Mem.tail _ (List.Mem.tail _ (List.Mem.tail _ (List.Mem.tail _ (List.Mem.head _)))))))))) (laidN hL (List.Mem.tail _ (List.Mem.tail _ (List.Mem.tail _ (List.Mem.tail _ (List.Mem.tail _ (List.Mem.tail _ (List.Mem.tail _ (List.Mem.head _))))))))) (laidP hL (List.Mem.tail _ (List.Mem.tail _ (List.Mem.head _)))) (laidS hL (List.Mem.tail _ (List.Mem.tail _ (List.Mem.tail _ (List.Mem.tail _ (List.Mem.tail _ (List.Mem.head _))))))) (laidR hL (List.Mem.tail _ (List.Mem.tail _ (List.Mem.tail _ (List.Mem.tail _ (List.Mem.head _))))))).mono fun e W' ⟨he, hb⟩ => ?_
  exact ⟨_, he, post_law laidOut (by kernel_rfl) Tryd.underlying4 rfl (by kernel_rfl) (fun ds hd => by
    match ds, hd with
    | [d0, d1], _ => rfl) hW' hb⟩

noncomputable def laidWorld (os : Os) : World := { World.holding Tryd.prog os ⟨sentBlocks, #[], []⟩ with heap := (((((((((((World.holding Tryd.prog os ⟨sentBlocks, #[], []⟩).heap).modify 9 (withCells (deBr32))).modify 10 (withCells (deBr64))).modify 6 (withCells (Lib.pow10Tab.map (Value.int .u64)))).modify 8 (withCells (accR))).modify 5 (withCells (rngCell))).modify 4 (withCells (synCell))).modify 2 (withCells (Cf.larTab.map (Value.int .i64)))).modify 1 (withCells (Cf.nameTab.map fun l => Value.string ⟨l.toArray⟩))).modify 0 (withCells (Cf.fmtTab.flatten.map (Value.int .i64)))).modify 7 (withCells (firstR)) }
theorem laid_met (os : Os) : laidMet Tryd.prog Rows.codesBackRow.laid ((laidWorld os).forCall (fun _ _ => 0) ⟨#[], #[.slice none 0 0, .string ⟨#[]⟩], []⟩).memory :=
  laidMet_of_run' 8 (by kernel_rfl) (by kernel_rfl)
theorem reads (os : Os) {H : Type} (enc : TypeId × Value → H) : ∃ places, DataW.whole enc Tryd.prog ((laidWorld os).forCall (fun _ _ => 0) ⟨#[], #[.slice none 0 0, .string ⟨#[]⟩], []⟩).memory Tryd.f6.params.toList Rows.codesBackSpec.vars false (#[Value.slice none 0 0, .string ⟨#[]⟩] : Array Value).toList 8 = some ([.nil, .lit (.string [])], [], places) :=
  ⟨[], by kernel_rfl⟩

set_option maxRecDepth 100000 in
theorem lifted (os : Os) (started : os.Started) (H : Type) (enc : TypeId × Value → H) (F : Stop.Interp) :
    ReturnsInHanded {} Tryd.checked os 6 .any ((OpenSpec.ofChange Rows.codesBackSpec).preRow enc Tryd.prog Tryd.f6 Rows.codesBackRow.domain false Rows.codesBackRow.laid) (((OpenSpec.ofChange Rows.codesBackSpec).at F).post enc Tryd.prog Tryd.f6 false true false false) := by
  obtain ⟨places, hx⟩ := reads os enc
  refine returnsInHanded_of_row (C := Tryd.checked) (s := (OpenSpec.ofChange Rows.codesBackSpec)) own started (by kernel_rfl) Tryd.func6
    (witness_row_at (enc := enc) (C := Tryd.checked) false (laidWorld os) #[.slice none 0 0, .string ⟨#[]⟩] rfl (by kernel_rfl) (by kernel_rfl) (by kernel_rfl)
      (OpenSpec.preRow_of_cond 8 hx (by kernel_rfl) (fun k hk => by cases hk) (by kernel_rfl) (laid_met os))) ?_
  intro W base args ds gs before hval hW _ hcond hsz hL hsh _
  exact contract H enc W base args ds gs before hval hW hsz hL hsh

theorem said : Rows.CodesBackSaid :=
  OpenClaim.holds_of_cond 6 Tryd.f6 rfl rfl rfl rfl rfl rfl rfl ⟨rfl, rfl, rfl, rfl, rfl⟩ rfl rfl rfl rfl rfl (by kernel_rfl) Tryd.func6 (by kernel_rfl)
    (of_decide_eq_true (by kernel_rfl)) (by unfold Func.isWrapper; first | (rw [if_pos (by decide +kernel)]; kernel_rfl) | (rw [if_neg (by decide +kernel)]; exact ⟨rfl, rfl⟩))
    (fun os started H enc _ F => by rw [OpenClaim.pre_eq_preRow]; exact lifted os started H enc F)
theorem plain (f : FuncId) (fn : Func) (hf : Tryd.pinned.checked.prog.funcNamed "curfew/curfewkeep.CodesBack" = some f) (hfn : Tryd.pinned.checked.prog.funcs[f]? = some fn) :
    true = Tryd.pinned.checked.prog.looks [] ∧ ∀ (j : Nat) t, fn.params[j]? = some t → Tryd.pinned.checked.prog.wantsStandIn t = false := by
  obtain rfl : f = 6 := Option.some.inj ((show Tryd.prog.funcNamed "curfew/curfewkeep.CodesBack" = some 6 by kernel_rfl).symm.trans hf) |>.symm
  obtain rfl : fn = Tryd.f6 := (Option.some.inj (Tryd.func6.symm.trans hfn)).symm
  refine ⟨by kernel_rfl, fun j t ht => ?_⟩
  rw [Tryd.params6] at ht
  have hm : t = 32 ∨ t = 9 := by simpa using Array.mem_of_getElem? ht
  rcases hm with rfl | rfl
  · exact (show Tryd.prog.wantsStandIn 32 = false by kernel_rfl)
  · exact (show Tryd.prog.wantsStandIn 9 = false by kernel_rfl)
theorem card : Rows.CodesBackCardSaid :=
  Claim7.holds_tied_plain_at .later [] _ _ _ _ said (fun _ h => by cases h) (by kernel_rfl) (fun _ h => by cases h) codesBack_row_tie rfl ⟨rfl, rfl⟩ (by kernel_rfl) rfl plain (by kernel_rfl)
end Go.Proofs.YthbjeleiiilhlaaDoor.CodesBackLaw
namespace Go.Proofs.YthbjeleiiilhlaaDoor
theorem codesBack_holds : Rows.CodesBackCardSaid := CodesBackLaw.card
#print axioms codesBack_holds
end Go.Proofs.YthbjeleiiilhlaaDoor
