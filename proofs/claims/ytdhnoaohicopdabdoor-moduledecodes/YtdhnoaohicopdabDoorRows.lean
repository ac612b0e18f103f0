/-
  NARROWER THAN 'FOR EVERY INPUT', by the rows' own cells (each row's printed sentence says how): MadeSafe: laid · ModuleChecks: laid · ModuleEncodes: laid · ModuleDecodes: laid · ModulesBack: laid.
  DERIVED. THE GIVEN ROWS OF THIS SEAT. 5 by the template 'for every input the law returns true; each argument reads behind the call as it read before'; 0 by the template 'total and deterministic' (their statements: YtdhnoaohicopdabDoorTotals.lean).
  GIVEN WITH THE SEED: the statements are not yours to turn. If you find one false, say at which input.
  Laid BY PROGRAM, IN A SANDBOX (cutbox-rows.mjs): the forced cells as the released guide's own fill.sh prints them over the translation 24e9d42e25859f84… (all of the seat's roots in one cut). By AI agents, Wed Nov 11 2026. No macro, syntax, notation, axiom, sorry.
-/
import Derived.Test.YtdhnoaohicopdabDoorChecked
import GoSem.Claim
import GoSem.ClaimJoined
import GoSem.ClaimMapViews
import Derived.JoinedTies
import Derived.KernelRfl
namespace Go.Proofs.YtdhnoaohicopdabDoor
/- THE CELL 'sum', in the pinned program and in every row, IS THE sha256 OF THE DUMP (.gsa) THAT YtdhnoaohicopdabDoorProg.lean LOADS. Nothing in Lean hashes anything: it is a label: what it is worth is what the hold of that sum in a sandbox is worth. -/
noncomputable def Tryd.pinned : Pinned := { name := "ytdhnoaohicopdabdoor", sum := "24e9d42e25859f84203c8b0bba02c04f0fd472d947b9317c41e5da6f6916fbee", checked := Tryd.checked }
namespace Rows
def none {H : Type} : Left H := { results := [], args := [] }

/- WHAT THE LISTED PACKAGE-LEVEL VARIABLES READ AS WHEN THE CALL BEGINS. Each datum BY PROGRAM (the guide's laid-datum.mjs) off the statement by which the dump's own 'gosem.cut.vars' lays the variable. In a bare row this is a premise. The card (YtdhnoaohicopdabDoorCards.lean) ties it to the program's text. -/
def laid_curfew_code_largest {H : Type} : DataW H := .agg [.lit (.int .i64 0), .lit (.int .i64 7), .lit (.int .i64 65535), .lit (.int .i64 199)]
def laid_curfew_code_formats {H : Type} : DataW H := .agg [.agg [.lit (.int .i64 0), .lit (.int .i64 0), .lit (.int .i64 0)], .agg [.lit (.int .i64 1), .lit (.int .i64 0), .lit (.int .i64 2)], .agg [.lit (.int .i64 1), .lit (.int .i64 1), .lit (.int .i64 1)], .agg [.lit (.int .i64 1), .lit (.int .i64 1), .lit (.int .i64 1)], .agg [.lit (.int .i64 1), .lit (.int .i64 1), .lit (.int .i64 1)], .agg [.lit (.int .i64 1), .lit (.int .i64 1), .lit (.int .i64 1)], .agg [.lit (.int .i64 1), .lit (.int .i64 1), .lit (.int .i64 1)], .agg [.lit (.int .i64 1), .lit (.int .i64 1), .lit (.int .i64 1)], .agg [.lit (.int .i64 1), .lit (.int .i64 1), .lit (.int .i64 0)], .agg [.lit (.int .i64 1), .lit (.int .i64 1), .lit (.int .i64 0)], .agg [.lit (.int .i64 0), .lit (.int .i64 0), .lit (.int .i64 3)], .agg [.lit (.int .i64 1), .lit (.int .i64 0), .lit (.int .i64 3)], .agg [.lit (.int .i64 0), .lit (.int .i64 0), .lit (.int .i64 3)], .agg [.lit (.int .i64 0), .lit (.int .i64 0), .lit (.int .i64 0)], .agg [.lit (.int .i64 1), .lit (.int .i64 0), .lit (.int .i64 0)], .agg [.lit (.int .i64 0), .lit (.int .i64 0), .lit (.int .i64 0)]]

/-- 'curfewkeep.MadeSafe': WHATEVER THE INPUT: true; the input reads as it did. -/
def madeSafeSpec : ChangeSpec := { name := "madeSafe", fn := fun _ => fun
  | [d1, d2] => { results := [.lit (.bool true)], args := [d1, d2] }
  | _ => none }
def madeSafeRow : OpenClaim := { program := "ytdhnoaohicopdabdoor", sum := "24e9d42e25859f84203c8b0bba02c04f0fd472d947b9317c41e5da6f6916fbee", func := "curfew/curfewkeep.MadeSafe", spec := "madeSafe", unfollowed := true, recurses := true, named := ["curfew/code.formats", "curfew/code.largest"], apart := false, laid := [("curfew/code.largest", laid_curfew_code_largest), ("curfew/code.formats", laid_curfew_code_formats)] }
def MadeSafeSaid : Prop := madeSafeRow.holds Tryd.pinned (OpenSpec.ofChange madeSafeSpec)

/-- ITS FALSE NEIGHBOUR: 'it returns false'. Refute it at one input. -/
def madeSafeWrong : ChangeSpec := { name := "madeSafe", fn := fun _ => fun
  | [d1, d2] => { results := [.lit (.bool false)], args := [d1, d2] }
  | _ => none }
def MadeSafeWrongFalsely : Prop := madeSafeRow.holds Tryd.pinned (OpenSpec.ofChange madeSafeWrong)

/-- 'curfewlaw.ModuleChecks': WHATEVER THE INPUT: true; the input reads as it did. -/
def moduleChecksSpec : ChangeSpec := { name := "moduleChecks", fn := fun _ => fun
  | [d] => { results := [.lit (.bool true)], args := [d] }
  | _ => none }
def moduleChecksRow : OpenClaim := { program := "ytdhnoaohicopdabdoor", sum := "24e9d42e25859f84203c8b0bba02c04f0fd472d947b9317c41e5da6f6916fbee", func := "curfew/curfewlaw.ModuleChecks", spec := "moduleChecks", unfollowed := true, recurses := true, named := ["curfew/code.formats", "curfew/code.largest"], apart := false, laid := [("curfew/code.largest", laid_curfew_code_largest), ("curfew/code.formats", laid_curfew_code_formats)] }
def ModuleChecksSaid : Prop := moduleChecksRow.holds Tryd.pinned (OpenSpec.ofChange moduleChecksSpec)

/-- ITS FALSE NEIGHBOUR: 'it returns false'. Refute it at one input. -/
def moduleChecksWrong : ChangeSpec := { name := "moduleChecks", fn := fun _ => fun
  | [d] => { results := [.lit (.bool false)], args := [d] }
  | _ => none }
def ModuleChecksWrongFalsely : Prop := moduleChecksRow.holds Tryd.pinned (OpenSpec.ofChange moduleChecksWrong)

/-- 'curfewlaw.ModuleEncodes': WHATEVER THE INPUT: true; the input reads as it did. -/
def moduleEncodesSpec : ChangeSpec := { name := "moduleEncodes", fn := fun _ => fun
  | [d] => { results := [.lit (.bool true)], args := [d] }
  | _ => none }
def moduleEncodesRow : OpenClaim := { program := "ytdhnoaohicopdabdoor", sum := "24e9d42e25859f84203c8b0bba02c04f0fd472d947b9317c41e5da6f6916fbee", func := "curfew/curfewlaw.ModuleEncodes", spec := "moduleEncodes", unfollowed := true, recurses := true, named := ["curfew/code.formats", "curfew/code.largest"], apart := false, laid := [("curfew/code.largest", laid_curfew_code_largest), ("curfew/code.formats", laid_curfew_code_formats)] }
def ModuleEncodesSaid : Prop := moduleEncodesRow.holds Tryd.pinned (OpenSpec.ofChange moduleEncodesSpec)

/-- ITS FALSE NEIGHBOUR: 'it returns false'. Refute it at one input. -/
def moduleEncodesWrong : ChangeSpec := { name := "moduleEncodes", fn := fun _ => fun
  | [d] => { results := [.lit (.bool false)], args := [d] }
  | _ => none }
def ModuleEncodesWrongFalsely : Prop := moduleEncodesRow.holds Tryd.pinned (OpenSpec.ofChange moduleEncodesWrong)

/-- 'curfewlaw.ModuleDecodes': WHATEVER THE INPUT: true; the input reads as it did. -/
def moduleDecodesSpec : ChangeSpec := { name := "moduleDecodes", fn := fun _ => fun
  | [d] => { results := [.lit (.bool true)], args := [d] }
  | _ => none }
def moduleDecodesRow : OpenClaim := { program := "ytdhnoaohicopdabdoor", sum := "24e9d42e25859f84203c8b0bba02c04f0fd472d947b9317c41e5da6f6916fbee", func := "curfew/curfewlaw.ModuleDecodes", spec := "moduleDecodes", unfollowed := true, recurses := true, named := ["curfew/code.formats", "curfew/code.largest"], apart := false, laid := [("curfew/code.largest", laid_curfew_code_largest), ("curfew/code.formats", laid_curfew_code_formats)] }
def ModuleDecodesSaid : Prop := moduleDecodesRow.holds Tryd.pinned (OpenSpec.ofChange moduleDecodesSpec)

/-- ITS FALSE NEIGHBOUR: 'it returns false'. Refute it at one input. -/
def moduleDecodesWrong : ChangeSpec := { name := "moduleDecodes", fn := fun _ => fun
  | [d] => { results := [.lit (.bool false)], args := [d] }
  | _ => none }
def ModuleDecodesWrongFalsely : Prop := moduleDecodesRow.holds Tryd.pinned (OpenSpec.ofChange moduleDecodesWrong)

/-- 'curfewkeep.ModulesBack': WHATEVER THE INPUT: true; the input reads as it did. -/
def modulesBackSpec : ChangeSpec := { name := "modulesBack", fn := fun _ => fun
  | [d1, d2, d3, d4] => { results := [.lit (.bool true)], args := [d1, d2, d3, d4] }
  | _ => none }
def modulesBackRow : OpenClaim := { program := "ytdhnoaohicopdabdoor", sum := "24e9d42e25859f84203c8b0bba02c04f0fd472d947b9317c41e5da6f6916fbee", func := "curfew/curfewkeep.ModulesBack", spec := "modulesBack", unfollowed := true, recurses := true, named := ["curfew/code.formats", "curfew/code.largest"], apart := false, laid := [("curfew/code.largest", laid_curfew_code_largest), ("curfew/code.formats", laid_curfew_code_formats)] }
def ModulesBackSaid : Prop := modulesBackRow.holds Tryd.pinned (OpenSpec.ofChange modulesBackSpec)

/-- ITS FALSE NEIGHBOUR: 'it returns false'. Refute it at one input. -/
def modulesBackWrong : ChangeSpec := { name := "modulesBack", fn := fun _ => fun
  | [d1, d2, d3, d4] => { results := [.lit (.bool false)], args := [d1, d2, d3, d4] }
  | _ => none }
def ModulesBackWrongFalsely : Prop := modulesBackRow.holds Tryd.pinned (OpenSpec.ofChange modulesBackWrong)

/- THE SECOND FORM. 'bulk': how many values and letters a reading holds, each counted each time it is reached (what is shared counts as often as it is met; a slice's spare places count too). A statement '..UptoSaid' is the law's where the arguments, and the package variables that the reading takes, are together of bulk at most 1048576: NARROWER than '..Said'. Prove '..Said' where nothing that the law and all that it calls make is longer than what came in: it says more and counts as full. Else prove '..UptoSaid'. A law counts once. -/
mutual
def uptoBulk {H : Type} : DataW H → Nat
  | .lit (.string bytes) => bytes.length + 1
  | .lit _ => 1
  | .nil => 1
  | .ptr d => uptoBulk d + 1
  | .slice elems spare => uptoBulkAll elems + uptoBulkAll spare + 1
  | .agg parts => uptoBulkAll parts + 1
  | .iface _ d => uptoBulk d + 1
  | .map entries => uptoBulkEntries entries + 1
  | .held _ => 1
def uptoBulkAll {H : Type} : List (DataW H) → Nat
  | [] => 0
  | d :: r => uptoBulk d + uptoBulkAll r
def uptoBulkEntries {H : Type} : List (Lit × DataW H) → Nat
  | [] => 0
  | x :: r => uptoBulkEntry x + uptoBulkEntries r
def uptoBulkEntry {H : Type} : Lit × DataW H → Nat
  | (.string bytes, d) => bytes.length + uptoBulk d + 1
  | (_, d) => uptoBulk d + 1
 end
def uptoSmall : (H : Type) → List (DataW H) → Bool := fun _ ds => decide (uptoBulkAll ds ≤ 1048576)
def OpenSpec.upto (s : _root_.Go.ChangeSpec) : _root_.Go.OpenSpec := { _root_.Go.OpenSpec.ofChange s with cond := some uptoSmall }

/-- 'curfewkeep.MadeSafe', WHERE WHAT IT READS IS OF BULK AT MOST 1048576: true; the input reads as it did. -/
def madeSafeUptoRow : OpenClaim := { program := "ytdhnoaohicopdabdoor", sum := "24e9d42e25859f84203c8b0bba02c04f0fd472d947b9317c41e5da6f6916fbee", func := "curfew/curfewkeep.MadeSafe", spec := "madeSafe", unfollowed := true, recurses := true, named := ["curfew/code.formats", "curfew/code.largest"], apart := false, laid := [("curfew/code.largest", laid_curfew_code_largest), ("curfew/code.formats", laid_curfew_code_formats)], narrowed := true }
def MadeSafeUptoSaid : Prop := madeSafeUptoRow.holds Tryd.pinned (OpenSpec.upto madeSafeSpec)

/-- 'curfewlaw.ModuleChecks', WHERE WHAT IT READS IS OF BULK AT MOST 1048576: true; the input reads as it did. -/
def moduleChecksUptoRow : OpenClaim := { program := "ytdhnoaohicopdabdoor", sum := "24e9d42e25859f84203c8b0bba02c04f0fd472d947b9317c41e5da6f6916fbee", func := "curfew/curfewlaw.ModuleChecks", spec := "moduleChecks", unfollowed := true, recurses := true, named := ["curfew/code.formats", "curfew/code.largest"], apart := false, laid := [("curfew/code.largest", laid_curfew_code_largest), ("curfew/code.formats", laid_curfew_code_formats)], narrowed := true }
def ModuleChecksUptoSaid : Prop := moduleChecksUptoRow.holds Tryd.pinned (OpenSpec.upto moduleChecksSpec)

/-- 'curfewlaw.ModuleEncodes', WHERE WHAT IT READS IS OF BULK AT MOST 1048576: true; the input reads as it did. -/
def moduleEncodesUptoRow : OpenClaim := { program := "ytdhnoaohicopdabdoor", sum := "24e9d42e25859f84203c8b0bba02c04f0fd472d947b9317c41e5da6f6916fbee", func := "curfew/curfewlaw.ModuleEncodes", spec := "moduleEncodes", unfollowed := true, recurses := true, named := ["curfew/code.formats", "curfew/code.largest"], apart := false, laid := [("curfew/code.largest", laid_curfew_code_largest), ("curfew/code.formats", laid_curfew_code_formats)], narrowed := true }
def ModuleEncodesUptoSaid : Prop := moduleEncodesUptoRow.holds Tryd.pinned (OpenSpec.upto moduleEncodesSpec)

/-- 'curfewlaw.ModuleDecodes', WHERE WHAT IT READS IS OF BULK AT MOST 1048576: true; the input reads as it did. -/
def moduleDecodesUptoRow : OpenClaim := { program := "ytdhnoaohicopdabdoor", sum := "24e9d42e25859f84203c8b0bba02c04f0fd472d947b9317c41e5da6f6916fbee", func := "curfew/curfewlaw.ModuleDecodes", spec := "moduleDecodes", unfollowed := true, recurses := true, named := ["curfew/code.formats", "curfew/code.largest"], apart := false, laid := [("curfew/code.largest", laid_curfew_code_largest), ("curfew/code.formats", laid_curfew_code_formats)], narrowed := true }
def ModuleDecodesUptoSaid : Prop := moduleDecodesUptoRow.holds Tryd.pinned (OpenSpec.upto moduleDecodesSpec)

/-- 'curfewkeep.ModulesBack', WHERE WHAT IT READS IS OF BULK AT MOST 1048576: true; the input reads as it did. -/
def modulesBackUptoRow : OpenClaim := { program := "ytdhnoaohicopdabdoor", sum := "24e9d42e25859f84203c8b0bba02c04f0fd472d947b9317c41e5da6f6916fbee", func := "curfew/curfewkeep.ModulesBack", spec := "modulesBack", unfollowed := true, recurses := true, named := ["curfew/code.formats", "curfew/code.largest"], apart := false, laid := [("curfew/code.largest", laid_curfew_code_largest), ("curfew/code.formats", laid_curfew_code_formats)], narrowed := true }
def ModulesBackUptoSaid : Prop := modulesBackUptoRow.holds Tryd.pinned (OpenSpec.upto modulesBackSpec)

end Rows
end Go.Proofs.YtdhnoaohicopdabDoor
