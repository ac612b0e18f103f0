/-
  NARROWER THAN 'FOR EVERY INPUT', by the rows' own cells (each row's printed sentence says how): KernDoes: laid · KernRuns: laid · FilesBack: laid · PipesFlow: laid · KernelsGood: laid · TopQuiet: laid · TopApart: laid · TopTwice: laid.
  DERIVED. THE GIVEN ROWS OF THIS SEAT. 8 by the template 'for every input the law returns true; each argument reads behind the call as it read before'; 0 by the template 'total and deterministic' (their statements: YtnnhhbjbdmgpiaaGreatDoorTotals.lean).
  GIVEN WITH THE SEED: the statements are not yours to turn. If you find one false, say at which input.
  Laid BY PROGRAM, IN A SANDBOX (cutbox-rows.mjs): the forced cells as the released guide's own fill.sh prints them over the translation 4130faeab91e2c4f… (all of the seat's roots in one cut). By AI agents, Wed Nov 11 2026. No macro, syntax, notation, axiom, sorry.
-/
import Derived.Test.YtnnhhbjbdmgpiaaGreatDoorChecked
import GoSem.Claim
import GoSem.ClaimJoined
import GoSem.ClaimMapViews
import Derived.JoinedTies
import Derived.KernelRfl
namespace Go.Proofs.YtnnhhbjbdmgpiaaGreatDoor
/- THE CELL 'sum', in the pinned program and in every row, IS THE sha256 OF THE DUMP (.gsa) THAT YtnnhhbjbdmgpiaaGreatDoorProg.lean LOADS. Nothing in Lean hashes anything: it is a label: what it is worth is what the hold of that sum in a sandbox is worth. -/
noncomputable def Tryz.pinned : Pinned := { name := "ytnnhhbjbdmgpiaagreatdoor", sum := "4130faeab91e2c4f7096781fb000a519790080e8dd8bae9b3c5e8aa90963072a", checked := Tryz.checked }
namespace Rows
def none {H : Type} : Left H := { results := [], args := [] }

/- WHAT THE LISTED PACKAGE-LEVEL VARIABLES READ AS WHEN THE CALL BEGINS. Each datum BY PROGRAM (the guide's laid-datum.mjs) off the statement by which the dump's own 'gosem.cut.vars' lays the variable. In a bare row this is a premise. The card (YtnnhhbjbdmgpiaaGreatDoorCards.lean) ties it to the program's text. -/
def laid_curfew_code_largest {H : Type} : DataW H := .agg [.lit (.int .i64 0), .lit (.int .i64 7), .lit (.int .i64 65535), .lit (.int .i64 199)]
def laid_curfew_code_formats {H : Type} : DataW H := .agg [.agg [.lit (.int .i64 0), .lit (.int .i64 0), .lit (.int .i64 0)], .agg [.lit (.int .i64 1), .lit (.int .i64 0), .lit (.int .i64 2)], .agg [.lit (.int .i64 1), .lit (.int .i64 1), .lit (.int .i64 1)], .agg [.lit (.int .i64 1), .lit (.int .i64 1), .lit (.int .i64 1)], .agg [.lit (.int .i64 1), .lit (.int .i64 1), .lit (.int .i64 1)], .agg [.lit (.int .i64 1), .lit (.int .i64 1), .lit (.int .i64 1)], .agg [.lit (.int .i64 1), .lit (.int .i64 1), .lit (.int .i64 1)], .agg [.lit (.int .i64 1), .lit (.int .i64 1), .lit (.int .i64 1)], .agg [.lit (.int .i64 1), .lit (.int .i64 1), .lit (.int .i64 0)], .agg [.lit (.int .i64 1), .lit (.int .i64 1), .lit (.int .i64 0)], .agg [.lit (.int .i64 0), .lit (.int .i64 0), .lit (.int .i64 3)], .agg [.lit (.int .i64 1), .lit (.int .i64 0), .lit (.int .i64 3)], .agg [.lit (.int .i64 0), .lit (.int .i64 0), .lit (.int .i64 3)], .agg [.lit (.int .i64 0), .lit (.int .i64 0), .lit (.int .i64 0)], .agg [.lit (.int .i64 1), .lit (.int .i64 0), .lit (.int .i64 0)], .agg [.lit (.int .i64 0), .lit (.int .i64 0), .lit (.int .i64 0)]]

/-- 'curfewlaw.KernDoes': WHATEVER THE INPUT: true; the input reads as it did. -/
def kernDoesSpec : ChangeSpec := { name := "kernDoes", fn := fun _ => fun
  | [d1, d2] => { results := [.lit (.bool true)], args := [d1, d2] }
  | _ => none }
def kernDoesRow : OpenClaim := { program := "ytnnhhbjbdmgpiaagreatdoor", sum := "4130faeab91e2c4f7096781fb000a519790080e8dd8bae9b3c5e8aa90963072a", func := "curfew/curfewlaw.KernDoes", spec := "kernDoes", unfollowed := true, recurses := true, named := ["curfew/code.formats", "curfew/code.largest"], apart := false, laid := [("curfew/code.largest", laid_curfew_code_largest), ("curfew/code.formats", laid_curfew_code_formats)] }
def KernDoesSaid : Prop := kernDoesRow.holds Tryz.pinned (OpenSpec.ofChange kernDoesSpec)

/-- ITS FALSE NEIGHBOUR: 'it returns false'. Refute it at one input. -/
def kernDoesWrong : ChangeSpec := { name := "kernDoes", fn := fun _ => fun
  | [d1, d2] => { results := [.lit (.bool false)], args := [d1, d2] }
  | _ => none }
def KernDoesWrongFalsely : Prop := kernDoesRow.holds Tryz.pinned (OpenSpec.ofChange kernDoesWrong)

/-- 'curfewlaw.KernRuns': WHATEVER THE INPUT: true; the input reads as it did. -/
def kernRunsSpec : ChangeSpec := { name := "kernRuns", fn := fun _ => fun
  | [d] => { results := [.lit (.bool true)], args := [d] }
  | _ => none }
def kernRunsRow : OpenClaim := { program := "ytnnhhbjbdmgpiaagreatdoor", sum := "4130faeab91e2c4f7096781fb000a519790080e8dd8bae9b3c5e8aa90963072a", func := "curfew/curfewlaw.KernRuns", spec := "kernRuns", unfollowed := true, recurses := true, named := ["curfew/code.formats", "curfew/code.largest"], apart := false, laid := [("curfew/code.largest", laid_curfew_code_largest), ("curfew/code.formats", laid_curfew_code_formats)] }
def KernRunsSaid : Prop := kernRunsRow.holds Tryz.pinned (OpenSpec.ofChange kernRunsSpec)

/-- ITS FALSE NEIGHBOUR: 'it returns false'. Refute it at one input. -/
def kernRunsWrong : ChangeSpec := { name := "kernRuns", fn := fun _ => fun
  | [d] => { results := [.lit (.bool false)], args := [d] }
  | _ => none }
def KernRunsWrongFalsely : Prop := kernRunsRow.holds Tryz.pinned (OpenSpec.ofChange kernRunsWrong)

/-- 'curfewkeep.FilesBack': WHATEVER THE INPUT: true; the input reads as it did. -/
def filesBackSpec : ChangeSpec := { name := "filesBack", fn := fun _ => fun
  | [d1, d2, d3] => { results := [.lit (.bool true)], args := [d1, d2, d3] }
  | _ => none }
def filesBackRow : OpenClaim := { program := "ytnnhhbjbdmgpiaagreatdoor", sum := "4130faeab91e2c4f7096781fb000a519790080e8dd8bae9b3c5e8aa90963072a", func := "curfew/curfewkeep.FilesBack", spec := "filesBack", unfollowed := true, recurses := true, named := ["curfew/code.formats", "curfew/code.largest"], apart := false, laid := [("curfew/code.largest", laid_curfew_code_largest), ("curfew/code.formats", laid_curfew_code_formats)] }
def FilesBackSaid : Prop := filesBackRow.holds Tryz.pinned (OpenSpec.ofChange filesBackSpec)

/-- ITS FALSE NEIGHBOUR: 'it returns false'. Refute it at one input. -/
def filesBackWrong : ChangeSpec := { name := "filesBack", fn := fun _ => fun
  | [d1, d2, d3] => { results := [.lit (.bool false)], args := [d1, d2, d3] }
  | _ => none }
def FilesBackWrongFalsely : Prop := filesBackRow.holds Tryz.pinned (OpenSpec.ofChange filesBackWrong)

/-- 'curfewkeep.PipesFlow': WHATEVER THE INPUT: true; the input reads as it did. -/
def pipesFlowSpec : ChangeSpec := { name := "pipesFlow", fn := fun _ => fun
  | [d] => { results := [.lit (.bool true)], args := [d] }
  | _ => none }
def pipesFlowRow : OpenClaim := { program := "ytnnhhbjbdmgpiaagreatdoor", sum := "4130faeab91e2c4f7096781fb000a519790080e8dd8bae9b3c5e8aa90963072a", func := "curfew/curfewkeep.PipesFlow", spec := "pipesFlow", unfollowed := true, recurses := true, named := ["curfew/code.formats", "curfew/code.largest"], apart := false, laid := [("curfew/code.largest", laid_curfew_code_largest), ("curfew/code.formats", laid_curfew_code_formats)] }
def PipesFlowSaid : Prop := pipesFlowRow.holds Tryz.pinned (OpenSpec.ofChange pipesFlowSpec)

/-- ITS FALSE NEIGHBOUR: 'it returns false'. Refute it at one input. -/
def pipesFlowWrong : ChangeSpec := { name := "pipesFlow", fn := fun _ => fun
  | [d] => { results := [.lit (.bool false)], args := [d] }
  | _ => none }
def PipesFlowWrongFalsely : Prop := pipesFlowRow.holds Tryz.pinned (OpenSpec.ofChange pipesFlowWrong)

/-- 'curfewkeep.KernelsGood': WHATEVER THE INPUT: true; the input reads as it did. -/
def kernelsGoodSpec : ChangeSpec := { name := "kernelsGood", fn := fun _ => fun
  | [d1, d2] => { results := [.lit (.bool true)], args := [d1, d2] }
  | _ => none }
def kernelsGoodRow : OpenClaim := { program := "ytnnhhbjbdmgpiaagreatdoor", sum := "4130faeab91e2c4f7096781fb000a519790080e8dd8bae9b3c5e8aa90963072a", func := "curfew/curfewkeep.KernelsGood", spec := "kernelsGood", unfollowed := true, recurses := true, named := ["curfew/code.formats", "curfew/code.largest"], apart := false, laid := [("curfew/code.largest", laid_curfew_code_largest), ("curfew/code.formats", laid_curfew_code_formats)] }
def KernelsGoodSaid : Prop := kernelsGoodRow.holds Tryz.pinned (OpenSpec.ofChange kernelsGoodSpec)

/-- ITS FALSE NEIGHBOUR: 'it returns false'. Refute it at one input. -/
def kernelsGoodWrong : ChangeSpec := { name := "kernelsGood", fn := fun _ => fun
  | [d1, d2] => { results := [.lit (.bool false)], args := [d1, d2] }
  | _ => none }
def KernelsGoodWrongFalsely : Prop := kernelsGoodRow.holds Tryz.pinned (OpenSpec.ofChange kernelsGoodWrong)

/-- 'curfewtop.TopQuiet': WHATEVER THE INPUT: true; the input reads as it did. -/
def topQuietSpec : ChangeSpec := { name := "topQuiet", fn := fun _ => fun
  | [d1, d2, d3, d4] => { results := [.lit (.bool true)], args := [d1, d2, d3, d4] }
  | _ => none }
def topQuietRow : OpenClaim := { program := "ytnnhhbjbdmgpiaagreatdoor", sum := "4130faeab91e2c4f7096781fb000a519790080e8dd8bae9b3c5e8aa90963072a", func := "curfew/curfewtop.TopQuiet", spec := "topQuiet", unfollowed := true, recurses := true, named := ["curfew/code.formats", "curfew/code.largest"], apart := false, laid := [("curfew/code.largest", laid_curfew_code_largest), ("curfew/code.formats", laid_curfew_code_formats)] }
def TopQuietSaid : Prop := topQuietRow.holds Tryz.pinned (OpenSpec.ofChange topQuietSpec)

/-- ITS FALSE NEIGHBOUR: 'it returns false'. Refute it at one input. -/
def topQuietWrong : ChangeSpec := { name := "topQuiet", fn := fun _ => fun
  | [d1, d2, d3, d4] => { results := [.lit (.bool false)], args := [d1, d2, d3, d4] }
  | _ => none }
def TopQuietWrongFalsely : Prop := topQuietRow.holds Tryz.pinned (OpenSpec.ofChange topQuietWrong)

/-- 'curfewtop.TopApart': WHATEVER THE INPUT: true; the input reads as it did. -/
def topApartSpec : ChangeSpec := { name := "topApart", fn := fun _ => fun
  | [d1, d2, d3] => { results := [.lit (.bool true)], args := [d1, d2, d3] }
  | _ => none }
def topApartRow : OpenClaim := { program := "ytnnhhbjbdmgpiaagreatdoor", sum := "4130faeab91e2c4f7096781fb000a519790080e8dd8bae9b3c5e8aa90963072a", func := "curfew/curfewtop.TopApart", spec := "topApart", unfollowed := true, recurses := true, named := ["curfew/code.formats", "curfew/code.largest"], apart := false, laid := [("curfew/code.largest", laid_curfew_code_largest), ("curfew/code.formats", laid_curfew_code_formats)] }
def TopApartSaid : Prop := topApartRow.holds Tryz.pinned (OpenSpec.ofChange topApartSpec)

/-- ITS FALSE NEIGHBOUR: 'it returns false'. Refute it at one input. -/
def topApartWrong : ChangeSpec := { name := "topApart", fn := fun _ => fun
  | [d1, d2, d3] => { results := [.lit (.bool false)], args := [d1, d2, d3] }
  | _ => none }
def TopApartWrongFalsely : Prop := topApartRow.holds Tryz.pinned (OpenSpec.ofChange topApartWrong)

/-- 'curfewtop.TopTwice': WHATEVER THE INPUT: true; the input reads as it did. -/
def topTwiceSpec : ChangeSpec := { name := "topTwice", fn := fun _ => fun
  | [d1, d2, d3, d4] => { results := [.lit (.bool true)], args := [d1, d2, d3, d4] }
  | _ => none }
def topTwiceRow : OpenClaim := { program := "ytnnhhbjbdmgpiaagreatdoor", sum := "4130faeab91e2c4f7096781fb000a519790080e8dd8bae9b3c5e8aa90963072a", func := "curfew/curfewtop.TopTwice", spec := "topTwice", unfollowed := true, recurses := true, named := ["curfew/code.formats", "curfew/code.largest"], apart := false, laid := [("curfew/code.largest", laid_curfew_code_largest), ("curfew/code.formats", laid_curfew_code_formats)] }
def TopTwiceSaid : Prop := topTwiceRow.holds Tryz.pinned (OpenSpec.ofChange topTwiceSpec)

/-- ITS FALSE NEIGHBOUR: 'it returns false'. Refute it at one input. -/
def topTwiceWrong : ChangeSpec := { name := "topTwice", fn := fun _ => fun
  | [d1, d2, d3, d4] => { results := [.lit (.bool false)], args := [d1, d2, d3, d4] }
  | _ => none }
def TopTwiceWrongFalsely : Prop := topTwiceRow.holds Tryz.pinned (OpenSpec.ofChange topTwiceWrong)

/- THE SECOND FORM. 'bulk': how many values and letters a reading holds, each counted each time it is reached (what is shared counts as often as it is met; a slice's spare places count too). A statement '..UptoSaid' is the law's where the arguments, and the package variables that the reading takes, are together of bulk at most 1048576: NARROWER than '..Said'. Prove '..Said' where nothing that the law and all that it calls make is longer than what came in: it says more and counts as full. Else prove '..UptoSaid'. A law counts once. -/
mutual
def uptoBulk {H : Type} : DataW H → Nat
  | .lit (.string bytes) => bytes.length + 1
  | .lit _ => 1
  | .nil => 1
  | .ptr d => uptoBulk d + 1
  | .slice elems spare => uptoBulkAll elems + uptoBulkAll spare + 1
  | .agg parts => uptoBulkAll parts + 1
  | .iface _ d => uptoBulk d + 1
  | .map entries => uptoBulkEntries entries + 1
  | .held _ => 1
def uptoBulkAll {H : Type} : List (DataW H) → Nat
  | [] => 0
  | d :: r => uptoBulk d + uptoBulkAll r
def uptoBulkEntries {H : Type} : List (Lit × DataW H) → Nat
  | [] => 0
  | x :: r => uptoBulkEntry x + uptoBulkEntries r
def uptoBulkEntry {H : Type} : Lit × DataW H → Nat
  | (.string bytes, d) => bytes.length + uptoBulk d + 1
  | (_, d) => uptoBulk d + 1
 end
def uptoSmall : (H : Type) → List (DataW H) → Bool := fun _ ds => decide (uptoBulkAll ds ≤ 1048576)
def OpenSpec.upto (s : _root_.Go.ChangeSpec) : _root_.Go.OpenSpec := { _root_.Go.OpenSpec.ofChange s with cond := some uptoSmall }

/-- 'curfewlaw.KernDoes', WHERE WHAT IT READS IS OF BULK AT MOST 1048576: true; the input reads as it did. -/
def kernDoesUptoRow : OpenClaim := { program := "ytnnhhbjbdmgpiaagreatdoor", sum := "4130faeab91e2c4f7096781fb000a519790080e8dd8bae9b3c5e8aa90963072a", func := "curfew/curfewlaw.KernDoes", spec := "kernDoes", unfollowed := true, recurses := true, named := ["curfew/code.formats", "curfew/code.largest"], apart := false, laid := [("curfew/code.largest", laid_curfew_code_largest), ("curfew/code.formats", laid_curfew_code_formats)], narrowed := true }
def KernDoesUptoSaid : Prop := kernDoesUptoRow.holds Tryz.pinned (OpenSpec.upto kernDoesSpec)

/-- 'curfewlaw.KernRuns', WHERE WHAT IT READS IS OF BULK AT MOST 1048576: true; the input reads as it did. -/
def kernRunsUptoRow : OpenClaim := { program := "ytnnhhbjbdmgpiaagreatdoor", sum := "4130faeab91e2c4f7096781fb000a519790080e8dd8bae9b3c5e8aa90963072a", func := "curfew/curfewlaw.KernRuns", spec := "kernRuns", unfollowed := true, recurses := true, named := ["curfew/code.formats", "curfew/code.largest"], apart := false, laid := [("curfew/code.largest", laid_curfew_code_largest), ("curfew/code.formats", laid_curfew_code_formats)], narrowed := true }
def KernRunsUptoSaid : Prop := kernRunsUptoRow.holds Tryz.pinned (OpenSpec.upto kernRunsSpec)

/-- 'curfewkeep.FilesBack', WHERE WHAT IT READS IS OF BULK AT MOST 1048576: true; the input reads as it did. -/
def filesBackUptoRow : OpenClaim := { program := "ytnnhhbjbdmgpiaagreatdoor", sum := "4130faeab91e2c4f7096781fb000a519790080e8dd8bae9b3c5e8aa90963072a", func := "curfew/curfewkeep.FilesBack", spec := "filesBack", unfollowed := true, recurses := true, named := ["curfew/code.formats", "curfew/code.largest"], apart := false, laid := [("curfew/code.largest", laid_curfew_code_largest), ("curfew/code.formats", laid_curfew_code_formats)], narrowed := true }
def FilesBackUptoSaid : Prop := filesBackUptoRow.holds Tryz.pinned (OpenSpec.upto filesBackSpec)

/-- 'curfewkeep.PipesFlow', WHERE WHAT IT READS IS OF BULK AT MOST 1048576: true; the input reads as it did. -/
def pipesFlowUptoRow : OpenClaim := { program := "ytnnhhbjbdmgpiaagreatdoor", sum := "4130faeab91e2c4f7096781fb000a519790080e8dd8bae9b3c5e8aa90963072a", func := "curfew/curfewkeep.PipesFlow", spec := "pipesFlow", unfollowed := true, recurses := true, named := ["curfew/code.formats", "curfew/code.largest"], apart := false, laid := [("curfew/code.largest", laid_curfew_code_largest), ("curfew/code.formats", laid_curfew_code_formats)], narrowed := true }
def PipesFlowUptoSaid : Prop := pipesFlowUptoRow.holds Tryz.pinned (OpenSpec.upto pipesFlowSpec)

/-- 'curfewkeep.KernelsGood', WHERE WHAT IT READS IS OF BULK AT MOST 1048576: true; the input reads as it did. -/
def kernelsGoodUptoRow : OpenClaim := { program := "ytnnhhbjbdmgpiaagreatdoor", sum := "4130faeab91e2c4f7096781fb000a519790080e8dd8bae9b3c5e8aa90963072a", func := "curfew/curfewkeep.KernelsGood", spec := "kernelsGood", unfollowed := true, recurses := true, named := ["curfew/code.formats", "curfew/code.largest"], apart := false, laid := [("curfew/code.largest", laid_curfew_code_largest), ("curfew/code.formats", laid_curfew_code_formats)], narrowed := true }
def KernelsGoodUptoSaid : Prop := kernelsGoodUptoRow.holds Tryz.pinned (OpenSpec.upto kernelsGoodSpec)

/-- 'curfewtop.TopQuiet', WHERE WHAT IT READS IS OF BULK AT MOST 1048576: true; the input reads as it did. -/
def topQuietUptoRow : OpenClaim := { program := "ytnnhhbjbdmgpiaagreatdoor", sum := "4130faeab91e2c4f7096781fb000a519790080e8dd8bae9b3c5e8aa90963072a", func := "curfew/curfewtop.TopQuiet", spec := "topQuiet", unfollowed := true, recurses := true, named := ["curfew/code.formats", "curfew/code.largest"], apart := false, laid := [("curfew/code.largest", laid_curfew_code_largest), ("curfew/code.formats", laid_curfew_code_formats)], narrowed := true }
def TopQuietUptoSaid : Prop := topQuietUptoRow.holds Tryz.pinned (OpenSpec.upto topQuietSpec)

/-- 'curfewtop.TopApart', WHERE WHAT IT READS IS OF BULK AT MOST 1048576: true; the input reads as it did. -/
def topApartUptoRow : OpenClaim := { program := "ytnnhhbjbdmgpiaagreatdoor", sum := "4130faeab91e2c4f7096781fb000a519790080e8dd8bae9b3c5e8aa90963072a", func := "curfew/curfewtop.TopApart", spec := "topApart", unfollowed := true, recurses := true, named := ["curfew/code.formats", "curfew/code.largest"], apart := false, laid := [("curfew/code.largest", laid_curfew_code_largest), ("curfew/code.formats", laid_curfew_code_formats)], narrowed := true }
def TopApartUptoSaid : Prop := topApartUptoRow.holds Tryz.pinned (OpenSpec.upto topApartSpec)

/-- 'curfewtop.TopTwice', WHERE WHAT IT READS IS OF BULK AT MOST 1048576: true; the input reads as it did. -/
def topTwiceUptoRow : OpenClaim := { program := "ytnnhhbjbdmgpiaagreatdoor", sum := "4130faeab91e2c4f7096781fb000a519790080e8dd8bae9b3c5e8aa90963072a", func := "curfew/curfewtop.TopTwice", spec := "topTwice", unfollowed := true, recurses := true, named := ["curfew/code.formats", "curfew/code.largest"], apart := false, laid := [("curfew/code.largest", laid_curfew_code_largest), ("curfew/code.formats", laid_curfew_code_formats)], narrowed := true }
def TopTwiceUptoSaid : Prop := topTwiceUptoRow.holds Tryz.pinned (OpenSpec.upto topTwiceSpec)

end Rows
end Go.Proofs.YtnnhhbjbdmgpiaaGreatDoor
