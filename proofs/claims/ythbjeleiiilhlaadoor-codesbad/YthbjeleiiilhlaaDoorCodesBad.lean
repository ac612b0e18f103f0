/- CodesBad: for every list of raw numbers and every number, a text with one of the odd lines behind the code that is made of the list is refused at that line, so is a text that no line feed ends, and a text of too many lines. Conditions: the package-level tables and sentinels that the road reads hold what the program's text lays (the card ties them; one table of the library is pinned). -/
import Derived.Test.YthbjeleiiilhlaaDoorCards
import Derived.Test.YthbjeleiiilhlaaDoorTie
import Derived.Test.YthbjeleiiilhlaaDoorBadP
import Derived.Test.YthbjeleiiilhlaaDoorKeepE
import Derived.Test.YthbjeleiiilhlaaDoorShow
import Derived.Test.YthbjeleiiilhlaaDoorTabsK
import Derived.Test.YthbjeleiiilhlaaDoorTabsR
import Derived.Test.YthbjeleiiilhlaaDoorKit
namespace Go.Proofs.YthbjeleiiilhlaaDoor.CodesBadLaw
open Go.ChangeShapes Go.WideShapes Go.ChangeAt Go.RowKit

theorem own : ownKnob Tryd.prog.godebug = none := by kernel_rfl
theorem laidOut : laidOutB Tryd.prog = true := by kernel_rfl
theorem odd_cells (w : World) (t : TypeId) (k : Nat) (p : List UInt8) (hp : Cf.oddTab[k]? = some p) : (w.alloc (.cells (Cf.oddTab.map fun l => Value.string ⟨l.toArray⟩).toArray t)).cell? ⟨w.heap.size, k, none⟩ = some (.string ⟨p.toArray⟩) := by
  simp [hp]
set_option maxHeartbeats 2000000 in
set_option maxRecDepth 100000 in
theorem walk (l : List Cf.Ins) (hf : ∀ x ∈ l, FitI x) (A0 : Option Addr) (c0 : Nat) (n : Int) (hn : Fit n) (w : World) (hl : Codes w A0 l) (hm : l.length ≤ maxLen) (hM : MaxL w) (hL : TabL w) (hF : TabF w) (hN : TabN w) (hP : TabP w) (hS : SentS w) (hR : SentR w) :
    Calls Tryd.prog 7 #[.slice A0 l.length c0, .int .i64 n] w fun e w' => e = .returned (.bool true) ∧ Below w.heap.size w w' := by
  obtain ⟨k, hk, hk17⟩ : ∃ k : Nat, Cf.pick n 17 = k ∧ k < 17 := by
    obtain ⟨h1, h2⟩ := Cf.pick_range n 17 (by omega)
    exact ⟨(Cf.pick n 17).toNat, by omega, by omega⟩
  obtain ⟨p, hp⟩ : ∃ p, Cf.oddTab[k]? = some p := ⟨_, List.getElem?_eq_getElem (show k < Cf.oddTab.length from hk17)⟩
  have HK := Lib.hid hk
  have Hp := Lib.hid hp
  have hpl := (Cf.odd_bad p (List.mem_of_getElem? hp)).2.2
  clear hk hp
  go_enter Tryd.func7, Tryd.ntmps7
  go_wp2_with fail
  change Calls _ _ _ (w.alloc (.cells (Cf.oddTab.map fun l => Value.string ⟨l.toArray⟩).toArray 9)) _
  have hb0 : Below w.heap.size w (w.alloc (.cells (Cf.oddTab.map fun l => Value.string ⟨l.toArray⟩).toArray 9)) := (Below.refl _ _).alloc (Nat.le_refl _) _
  have Hcell := Lib.hid (odd_cells w 9 k p Hp.out)
  have hsz : w.heap.size < (w.alloc (.cells (Cf.oddTab.map fun l => Value.string ⟨l.toArray⟩).toArray 9)).heap.size := by simp
  generalize w.alloc _ = w0 at hb0 hsz Hcell ⊢
  refine (code_any l hf A0 c0 w0 (hl.below hb0) hm).mono ?_
  rintro e w1 ⟨A, ca, a, rfl, ha, hfa, hA, hb1⟩
  have hbw1 := hb0.trans (hb1.mono hb0.size)
  have hs1 := hb1.size
  have Hcell1 := Lib.hid ((hb1.cell hsz).trans Hcell.out)
  have hfi : Cf.faultIn a = 0 := by unfold Cf.fault at hfa; rwa [if_neg (by omega)] at hfa
  have hla := Cf.all_len a hfi
  have hma : a.length ≤ maxLen := by unfold maxLen; omega
  have HT := Lib.hid (show Cf.showT a = Cf.showAll a by unfold Cf.showT; rw [if_pos hfa])
  have HB1 := Lib.hid (Cf.bad_line a hfi ha p (List.mem_of_getElem? Hp.out))
  have HB2 := Lib.hid (Cf.bad_last a hfi ha)
  clear hb0 hb1 Hcell hl Hp hf
  go_wp2_with fail
  refine (show_any a A ca _ hA (hL.below hbw1) (hF.below hbw1) (hN.below hbw1) (hP.below hbw1) hma).mono ?_
  rw [HT.out, hfa]
  rintro e w2 ⟨rfl, hb2⟩
  have hbb := hbw1.trans (hb2.mono hbw1.size)
  have hcell := (hb2.cell (show (⟨w.heap.size, k, none⟩ : Addr).block < w1.heap.size by simp; omega)).trans Hcell1.out
  clear Hcell1 HT hfa hb2 hbw1 hA hfi
  generalize Cf.showAll a = t at hla HB1 HB2 ⊢
  have hM2 := hM.below hbb
  have Hr1 := Lib.hid (read_any (t ++ p ++ [10, 104, 97, 108, 116, 10]) (by simp; unfold maxLen; omega) w2 (hM.below hbb) (hL.below hbb) (hF.below hbb) (hN.below hbb) (hP.below hbb) (hS.below hbb) (hR.below hbb))
  rw [HB1.out] at Hr1
  go_wp2_with fail
  refine (picked_any n 17 _ hn (by omega) (by omega)).mono ?_
  rw [HK.out]
  rintro e w' ⟨rfl, rfl⟩
  go_wp2_with fail
  rw [str_append, str_append]
  refine Hr1.out.mono ?_
  rintro e w3 ⟨B, cb, rfl, hB, hb3⟩
  dsimp only at hB ⊢
  have hbc := hbb.trans (hb3.mono hbb.size)
  clear Hr1 HB1 hB hb3 hbb hcell HK
  have Hr2 := Lib.hid (read_any (t ++ [104, 97, 108, 116]) (by simp; unfold maxLen; omega) w3 (hM.below hbc) (hL.below hbc) (hF.below hbc) (hN.below hbc) (hP.below hbc) (hS.below hbc) (hR.below hbc))
  rw [HB2.out] at Hr2
  go_wp2_with fail
  rw [str_append]
  refine Hr2.out.mono ?_
  rintro e w4 ⟨D, cd, rfl, hD, hb4⟩
  dsimp only at hD ⊢
  have hbd := hbc.trans (hb4.mono hbc.size)
  clear Hr2 HB2 hD hb4 hbc
  go_wp2_with fail
  refine (Any.strings_Repeat lays105 Builder_Extra_105 ⟨#[114, 101, 116, 10]⟩ 201 _ (by omega) (by decide)).mono ?_
  rintro e w5 ⟨rfl, hb5⟩
  have hbe := hbd.trans (hb5.mono hbd.size)
  clear hbd hb5
  have Hr3 := Lib.hid (show Calls Tryd.prog 12 #[.string ⟨(Lib.repeatL (ByteArray.mk #[114, 101, 116, 10]).data.toList 201).toArray⟩] w5 (ReadPost ⟨[], 201, 1⟩ w5) by
    have h3 := read_any (Lib.repeatL [114, 101, 116, 10] 201) (by rw [Lib.repeatL_length]; simp only [List.length_cons, List.length_nil]; unfold maxLen; omega) w5 (hM.below hbe) (hL.below hbe) (hF.below hbe) (hN.below hbe) (hP.below hbe) (hS.below hbe) (hR.below hbe)
    rw [Cf.bad_many] at h3
    exact h3)
  generalize Lib.repeatL _ 201 = r at Hr3 ⊢
  go_wp2_with fail
  refine Hr3.out.mono ?_
  rintro e w6 ⟨G, cg, rfl, hG, hb6⟩
  dsimp only at hG ⊢
  have hbf := hbe.trans (hb6.mono hbe.size)
  clear Hr3 hG hb6 hbe
  go_wp2
  go_ret
  exact ⟨rfl, hbf⟩

set_option maxRecDepth 100000 in
theorem contract (H : Type) (enc : TypeId × Value → H) (W : World) (base : Nat) (args : Array Value) (ds gs : List (DataW H)) (before : List MemPlace)
    (hval : ∀ (j : Nat) t v, Tryd.f7.params[j]? = some t → args[j]? = some v → Value.okWide Tryd.prog W .any base t v)
    (hW : DataW.Whole enc Tryd.prog Tryd.f7.params.toList Rows.codesBadSpec.vars false W args.toList ds gs before)
    (_hsz0 : (DataW.weightsEach Tryd.prog (Tryd.f7.params.toList ++ (OpenSpec.ofChange Rows.codesBadSpec).bare.plain.varTypes Tryd.prog) (ds ++ gs)).all (· ≤ reachBytes) = true)
    (hL : laidMetH Tryd.prog Rows.codesBadRow.laid W) (hsh : W.ShapedOpen Tryd.prog) :
    Calls Tryd.prog 7 args W fun e W' => ∃ v, e = .returned v ∧ Rows.codesBadSpec.post enc Tryd.prog Tryd.f7 false true false false W args v W' := by
  have hW' := hW
  obtain ⟨p, q, hA0, hV, rfl, hfz, hnd⟩ := hW
  have hA : DataW.TrodAll enc Tryd.prog W 0 (fun _ => true) true Tryd.f7.params.toList args.toList ds p := hA0
  rw [Tryd.params7] at hA hval
  obtain ⟨v0, vs0, d0, ds0, p0, q0, hargs0, rfl, rfl, h0, r0⟩ := trodAll_cons hA
  obtain ⟨v1, vs1, d1, ds1, p1, q1, hargs1, rfl, rfl, h1, r1⟩ := trodAll_cons r0
  obtain ⟨hnil, rfl, rfl⟩ := trodAll_nil r1
  obtain rfl : args = #[v0, v1] := by cases args; simp_all
  obtain ⟨rfl, rfl⟩ : gs = [] ∧ q = [] := by cases gs with | nil => exact ⟨rfl, hV⟩ | cons g gs => exact hV.elim
  obtain ⟨A, cap, l, rfl, hl, hm, hf⟩ := open_fit Tryd.underlying32 rawFields (hval 0 32 v0 rfl rfl) h0
  obtain ⟨n, rfl, rfl, rfl, hn⟩ := open_int Tryd.underlying3 (hval 1 3 v1 rfl rfl) h1
  refine (walk l hf A cap n (fit_wf hn) W hl hm (maxL_of hsh) (laidL hL (List.Mem.tail _ (List.Mem.tail _ (List.Mem.tail _ (List.Mem.tail _ (List.Mem.tail _ (List.Mem.tail _ (List.Mem.head _)))))))) (laidF hL (List.Mem.tail _ (List.Mem.tail _ (List.Mem.tail _ (List.Mem.tail _ (List.Mem.tail _ (List.Mem.tail _ (List.Mem.tail _ (List.Mem.tail _ (List.Mem.head _)))))))))) (laidN hL (List.Mem.tail _ (List.Mem.tail _ (List.Mem.tail _ (List.Mem.tail _ (List.Mem.tail _ (List.Mem.tail _ (List.Mem.tail _ (List.Mem.head _))))))))) (laidP hL (List.Mem.tail _ (List.Mem.tail _ (List.Mem.head _)))) (laidS hL (List.Mem.tail _ (List.Mem.tail _ (List.Mem.tail _ (List.Mem.tail _ (List.Mem.tail _ (List.Mem.head _))))))) (laidR hL (List.Mem.tail _ (List.Mem.tail _ (List.Mem.tail _ (List.Mem.tail _ (List.Mem.head _))))))).mono fun e W' ⟨he, hb⟩ => ?_
  exact ⟨_, he, post_law laidOut (by kernel_rfl) Tryd.underlying4 rfl (by kernel_rfl) (fun ds hd => by
    match ds, hd with
    | [d0, d1], _ => rfl) hW' hb⟩

noncomputable def laidWorld (os : Os) : World := { World.holding Tryd.prog os ⟨sentBlocks, #[], []⟩ with heap := (((((((((((World.holding Tryd.prog os ⟨sentBlocks, #[], []⟩).heap).modify 9 (withCells (deBr32))).modify 10 (withCells (deBr64))).modify 6 (withCells (Lib.pow10Tab.map (Value.int .u64)))).modify 8 (withCells (accR))).modify 5 (withCells (rngCell))).modify 4 (withCells (synCell))).modify 2 (withCells (Cf.larTab.map (Value.int .i64)))).modify 1 (withCells (Cf.nameTab.map fun l => Value.string ⟨l.toArray⟩))).modify 0 (withCells (Cf.fmtTab.flatten.map (Value.int .i64)))).modify 7 (withCells (firstR)) }
theorem laid_met (os : Os) : laidMet Tryd.prog Rows.codesBadRow.laid ((laidWorld os).forCall (fun _ _ => 0) ⟨#[], #[.slice none 0 0, .int .i64 0], []⟩).memory :=
  laidMet_of_run' 8 (by kernel_rfl) (by kernel_rfl)
theorem reads (os : Os) {H : Type} (enc : TypeId × Value → H) : ∃ places, DataW.whole enc Tryd.prog ((laidWorld os).forCall (fun _ _ => 0) ⟨#[], #[.slice none 0 0, .int .i64 0], []⟩).memory Tryd.f7.params.toList Rows.codesBadSpec.vars false (#[Value.slice none 0 0, .int .i64 0] : Array Value).toList 8 = some ([.nil, .lit (.int .i64 0)], [], places) :=
  ⟨[], by kernel_rfl⟩

set_option maxRecDepth 100000 in
theorem lifted (os : Os) (started : os.Started) (H : Type) (enc : TypeId × Value → H) (F : Stop.Interp) :
    ReturnsInHanded {} Tryd.checked os 7 .any ((OpenSpec.ofChange Rows.codesBadSpec).preRow enc Tryd.prog Tryd.f7 Rows.codesBadRow.domain false Rows.codesBadRow.laid) (((OpenSpec.ofChange Rows.codesBadSpec).at F).post enc Tryd.prog Tryd.f7 false true false false) := by
  obtain ⟨places, hx⟩ := reads os enc
  refine returnsInHanded_of_row (C := Tryd.checked) (s := (OpenSpec.ofChange Rows.codesBadSpec)) own started (by kernel_rfl) Tryd.func7
    (witness_row_at (enc := enc) (C := Tryd.checked) false (laidWorld os) #[.slice none 0 0, .int .i64 0] rfl (by kernel_rfl) (by kernel_rfl) (by kernel_rfl)
      (OpenSpec.preRow_of_cond 8 hx (by kernel_rfl) (fun k hk => by cases hk) (by kernel_rfl) (laid_met os))) ?_
  intro W base args ds gs before hval hW _ hcond hsz hL hsh _
  exact contract H enc W base args ds gs before hval hW hsz hL hsh

theorem said : Rows.CodesBadSaid :=
  OpenClaim.holds_of_cond 7 Tryd.f7 rfl rfl rfl rfl rfl rfl rfl ⟨rfl, rfl, rfl, rfl, rfl⟩ rfl rfl rfl rfl rfl (by kernel_rfl) Tryd.func7 (by kernel_rfl)
    (of_decide_eq_true (by kernel_rfl)) (by unfold Func.isWrapper; first | (rw [if_pos (by decide +kernel)]; kernel_rfl) | (rw [if_neg (by decide +kernel)]; exact ⟨rfl, rfl⟩))
    (fun os started H enc _ F => by rw [OpenClaim.pre_eq_preRow]; exact lifted os started H enc F)
theorem plain (f : FuncId) (fn : Func) (hf : Tryd.pinned.checked.prog.funcNamed "curfew/curfewkeep.CodesBad" = some f) (hfn : Tryd.pinned.checked.prog.funcs[f]? = some fn) :
    true = Tryd.pinned.checked.prog.looks [] ∧ ∀ (j : Nat) t, fn.params[j]? = some t → Tryd.pinned.checked.prog.wantsStandIn t = false := by
  obtain rfl : f = 7 := Option.some.inj ((show Tryd.prog.funcNamed "curfew/curfewkeep.CodesBad" = some 7 by kernel_rfl).symm.trans hf) |>.symm
  obtain rfl : fn = Tryd.f7 := (Option.some.inj (Tryd.func7.symm.trans hfn)).symm
  refine ⟨by kernel_rfl, fun j t ht => ?_⟩
  rw [Tryd.params7] at ht
  have hm : t = 32 ∨ t = 3 := by simpa using Array.mem_of_getElem? ht
  rcases hm with rfl | rfl
  · exact (show Tryd.prog.wantsStandIn 32 = false by kernel_rfl)
  · exact (show Tryd.prog.wantsStandIn 3 = false by kernel_rfl)
theorem card : Rows.CodesBadCardSaid :=
  Claim7.holds_tied_plain_at .later [] _ _ _ _ said (fun _ h => by cases h) (by kernel_rfl) (fun _ h => by cases h) codesBad_row_tie rfl ⟨rfl, rfl⟩ (by kernel_rfl) rfl plain (by kernel_rfl)
end Go.Proofs.YthbjeleiiilhlaaDoor.CodesBadLaw
namespace Go.Proofs.YthbjeleiiilhlaaDoor
theorem codesBad_holds : Rows.CodesBadCardSaid := CodesBadLaw.card
#print axioms codesBad_holds
end Go.Proofs.YthbjeleiiilhlaaDoor
