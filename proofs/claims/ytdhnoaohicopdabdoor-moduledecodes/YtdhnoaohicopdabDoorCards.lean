/-
  DERIVED. GIVEN WITH THE SEED: THE CARDS: each row of YtdhnoaohicopdabDoorRows.lean that lists a variable, with what it lists TIED to the program's text (the seventh form; the later family's looks); each row that meets fmt, with fmt's text TOLD by the authors' own Lean function (tested against real Go, not proved from fmt's source: count such statements apart). THE CARD IS WHAT COUNTS. Prove the row's statement (the work); the ties are given (YtdhnoaohicopdabDoorTie.lean); close each card by the builder's one call (the guide's Derived/Test/ToyasCard.lean, 'card_holds'). Laid BY PROGRAM, IN A SANDBOX (cutbox-door.mjs). By AI agents, Wed Nov 11 2026. No macro, syntax, notation, axiom, sorry.
-/
import Derived.Test.YtdhnoaohicopdabDoorRows
import GoSem.ClaimSeven
namespace Go.Proofs.YtdhnoaohicopdabDoor
namespace Rows

/-- THE TIED CARD OF 'curfewkeep.MadeSafe'. -/
def madeSafeCard : Claim7 := { stood := { row := madeSafeRow, standIns := [], harness := (true, "2bc5c0c7239ab5fd5e2e725351335cfeba59b398b5ef9af046b003d34ea6a915"), looks := false }, kinds := [], alts := [], laidByText := true, laidKinds := [.data, .data], laidTests := true, laidLooks := .later }
def MadeSafeCardSaid : Prop := Claim7.holds Tryd.pinned (.plain (OpenSpec.ofChange madeSafeSpec)) madeSafeCard

/-- THE TIED CARD OF 'curfewlaw.ModuleChecks'. -/
def moduleChecksCard : Claim7 := { stood := { row := moduleChecksRow, standIns := [], harness := (true, "2bc5c0c7239ab5fd5e2e725351335cfeba59b398b5ef9af046b003d34ea6a915"), looks := false }, kinds := [], alts := [], laidByText := true, laidKinds := [.data, .data], laidTests := true, laidLooks := .later }
def ModuleChecksCardSaid : Prop := Claim7.holds Tryd.pinned (.plain (OpenSpec.ofChange moduleChecksSpec)) moduleChecksCard

/-- THE TIED CARD OF 'curfewlaw.ModuleEncodes'. -/
def moduleEncodesCard : Claim7 := { stood := { row := moduleEncodesRow, standIns := [], harness := (true, "2bc5c0c7239ab5fd5e2e725351335cfeba59b398b5ef9af046b003d34ea6a915"), looks := false }, kinds := [], alts := [], laidByText := true, laidKinds := [.data, .data], laidTests := true, laidLooks := .later }
def ModuleEncodesCardSaid : Prop := Claim7.holds Tryd.pinned (.plain (OpenSpec.ofChange moduleEncodesSpec)) moduleEncodesCard

/-- THE TIED CARD OF 'curfewlaw.ModuleDecodes'. -/
def moduleDecodesCard : Claim7 := { stood := { row := moduleDecodesRow, standIns := [], harness := (true, "2bc5c0c7239ab5fd5e2e725351335cfeba59b398b5ef9af046b003d34ea6a915"), looks := false }, kinds := [], alts := [], laidByText := true, laidKinds := [.data, .data], laidTests := true, laidLooks := .later }
def ModuleDecodesCardSaid : Prop := Claim7.holds Tryd.pinned (.plain (OpenSpec.ofChange moduleDecodesSpec)) moduleDecodesCard

/-- THE TIED CARD OF 'curfewkeep.ModulesBack'. -/
def modulesBackCard : Claim7 := { stood := { row := modulesBackRow, standIns := [], harness := (true, "2bc5c0c7239ab5fd5e2e725351335cfeba59b398b5ef9af046b003d34ea6a915"), looks := false }, kinds := [], alts := [], laidByText := true, laidKinds := [.data, .data], laidTests := true, laidLooks := .later }
def ModulesBackCardSaid : Prop := Claim7.holds Tryd.pinned (.plain (OpenSpec.ofChange modulesBackSpec)) modulesBackCard

/-- THE SECOND FORM's CARD OF 'curfewkeep.MadeSafe'. -/
def madeSafeUptoCard : Claim7 := { stood := { row := madeSafeUptoRow, standIns := [], harness := (true, "2bc5c0c7239ab5fd5e2e725351335cfeba59b398b5ef9af046b003d34ea6a915"), looks := false }, kinds := [], alts := [], laidByText := true, laidKinds := [.data, .data], laidTests := true, laidLooks := .later }
def MadeSafeUptoCardSaid : Prop := Claim7.holds Tryd.pinned (.plain (OpenSpec.upto madeSafeSpec)) madeSafeUptoCard

/-- THE SECOND FORM's CARD OF 'curfewlaw.ModuleChecks'. -/
def moduleChecksUptoCard : Claim7 := { stood := { row := moduleChecksUptoRow, standIns := [], harness := (true, "2bc5c0c7239ab5fd5e2e725351335cfeba59b398b5ef9af046b003d34ea6a915"), looks := false }, kinds := [], alts := [], laidByText := true, laidKinds := [.data, .data], laidTests := true, laidLooks := .later }
def ModuleChecksUptoCardSaid : Prop := Claim7.holds Tryd.pinned (.plain (OpenSpec.upto moduleChecksSpec)) moduleChecksUptoCard

/-- THE SECOND FORM's CARD OF 'curfewlaw.ModuleEncodes'. -/
def moduleEncodesUptoCard : Claim7 := { stood := { row := moduleEncodesUptoRow, standIns := [], harness := (true, "2bc5c0c7239ab5fd5e2e725351335cfeba59b398b5ef9af046b003d34ea6a915"), looks := false }, kinds := [], alts := [], laidByText := true, laidKinds := [.data, .data], laidTests := true, laidLooks := .later }
def ModuleEncodesUptoCardSaid : Prop := Claim7.holds Tryd.pinned (.plain (OpenSpec.upto moduleEncodesSpec)) moduleEncodesUptoCard

/-- THE SECOND FORM's CARD OF 'curfewlaw.ModuleDecodes'. -/
def moduleDecodesUptoCard : Claim7 := { stood := { row := moduleDecodesUptoRow, standIns := [], harness := (true, "2bc5c0c7239ab5fd5e2e725351335cfeba59b398b5ef9af046b003d34ea6a915"), looks := false }, kinds := [], alts := [], laidByText := true, laidKinds := [.data, .data], laidTests := true, laidLooks := .later }
def ModuleDecodesUptoCardSaid : Prop := Claim7.holds Tryd.pinned (.plain (OpenSpec.upto moduleDecodesSpec)) moduleDecodesUptoCard

/-- THE SECOND FORM's CARD OF 'curfewkeep.ModulesBack'. -/
def modulesBackUptoCard : Claim7 := { stood := { row := modulesBackUptoRow, standIns := [], harness := (true, "2bc5c0c7239ab5fd5e2e725351335cfeba59b398b5ef9af046b003d34ea6a915"), looks := false }, kinds := [], alts := [], laidByText := true, laidKinds := [.data, .data], laidTests := true, laidLooks := .later }
def ModulesBackUptoCardSaid : Prop := Claim7.holds Tryd.pinned (.plain (OpenSpec.upto modulesBackSpec)) modulesBackUptoCard
end Rows
end Go.Proofs.YtdhnoaohicopdabDoor
