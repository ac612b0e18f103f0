/-
  DERIVED. GIVEN WITH THE SEED: THE CARDS: each row of YtnnhhbjbdmgpiaaGreatDoorRows.lean that lists a variable, with what it lists TIED to the program's text (the seventh form; the later family's looks); each row that meets fmt, with fmt's text TOLD by the authors' own Lean function (tested against real Go, not proved from fmt's source: count such statements apart). THE CARD IS WHAT COUNTS. Prove the row's statement (the work); the ties are given (YtnnhhbjbdmgpiaaGreatDoorTie.lean); close each card by the builder's one call (the guide's Derived/Test/ToyasCard.lean, 'card_holds'). Laid BY PROGRAM, IN A SANDBOX (cutbox-door.mjs). By AI agents, Wed Nov 11 2026. No macro, syntax, notation, axiom, sorry.
-/
import Derived.Test.YtnnhhbjbdmgpiaaGreatDoorRows
import GoSem.ClaimSeven
namespace Go.Proofs.YtnnhhbjbdmgpiaaGreatDoor
namespace Rows

/-- THE TIED CARD OF 'curfewlaw.KernDoes'. -/
def kernDoesCard : Claim7 := { stood := { row := kernDoesRow, standIns := [], harness := (true, "3ae29239099c592af68345fe784f6bb448032df626ae40a4b943bf789265f331"), looks := false }, kinds := [], alts := [], laidByText := true, laidKinds := [.data, .data], laidTests := true, laidLooks := .later }
def KernDoesCardSaid : Prop := Claim7.holds Tryz.pinned (.plain (OpenSpec.ofChange kernDoesSpec)) kernDoesCard

/-- THE TIED CARD OF 'curfewlaw.KernRuns'. -/
def kernRunsCard : Claim7 := { stood := { row := kernRunsRow, standIns := [], harness := (true, "3ae29239099c592af68345fe784f6bb448032df626ae40a4b943bf789265f331"), looks := false }, kinds := [], alts := [], laidByText := true, laidKinds := [.data, .data], laidTests := true, laidLooks := .later }
def KernRunsCardSaid : Prop := Claim7.holds Tryz.pinned (.plain (OpenSpec.ofChange kernRunsSpec)) kernRunsCard

/-- THE TIED CARD OF 'curfewkeep.FilesBack'. -/
def filesBackCard : Claim7 := { stood := { row := filesBackRow, standIns := [], harness := (true, "3ae29239099c592af68345fe784f6bb448032df626ae40a4b943bf789265f331"), looks := false }, kinds := [], alts := [], laidByText := true, laidKinds := [.data, .data], laidTests := true, laidLooks := .later }
def FilesBackCardSaid : Prop := Claim7.holds Tryz.pinned (.plain (OpenSpec.ofChange filesBackSpec)) filesBackCard

/-- THE TIED CARD OF 'curfewkeep.PipesFlow'. -/
def pipesFlowCard : Claim7 := { stood := { row := pipesFlowRow, standIns := [], harness := (true, "3ae29239099c592af68345fe784f6bb448032df626ae40a4b943bf789265f331"), looks := false }, kinds := [], alts := [], laidByText := true, laidKinds := [.data, .data], laidTests := true, laidLooks := .later }
def PipesFlowCardSaid : Prop := Claim7.holds Tryz.pinned (.plain (OpenSpec.ofChange pipesFlowSpec)) pipesFlowCard

/-- THE TIED CARD OF 'curfewkeep.KernelsGood'. -/
def kernelsGoodCard : Claim7 := { stood := { row := kernelsGoodRow, standIns := [], harness := (true, "3ae29239099c592af68345fe784f6bb448032df626ae40a4b943bf789265f331"), looks := false }, kinds := [], alts := [], laidByText := true, laidKinds := [.data, .data], laidTests := true, laidLooks := .later }
def KernelsGoodCardSaid : Prop := Claim7.holds Tryz.pinned (.plain (OpenSpec.ofChange kernelsGoodSpec)) kernelsGoodCard

/-- THE TIED CARD OF 'curfewtop.TopQuiet'. -/
def topQuietCard : Claim7 := { stood := { row := topQuietRow, standIns := [], harness := (true, "3ae29239099c592af68345fe784f6bb448032df626ae40a4b943bf789265f331"), looks := false }, kinds := [], alts := [], laidByText := true, laidKinds := [.data, .data], laidTests := true, laidLooks := .later }
def TopQuietCardSaid : Prop := Claim7.holds Tryz.pinned (.plain (OpenSpec.ofChange topQuietSpec)) topQuietCard

/-- THE TIED CARD OF 'curfewtop.TopApart'. -/
def topApartCard : Claim7 := { stood := { row := topApartRow, standIns := [], harness := (true, "3ae29239099c592af68345fe784f6bb448032df626ae40a4b943bf789265f331"), looks := false }, kinds := [], alts := [], laidByText := true, laidKinds := [.data, .data], laidTests := true, laidLooks := .later }
def TopApartCardSaid : Prop := Claim7.holds Tryz.pinned (.plain (OpenSpec.ofChange topApartSpec)) topApartCard

/-- THE TIED CARD OF 'curfewtop.TopTwice'. -/
def topTwiceCard : Claim7 := { stood := { row := topTwiceRow, standIns := [], harness := (true, "3ae29239099c592af68345fe784f6bb448032df626ae40a4b943bf789265f331"), looks := false }, kinds := [], alts := [], laidByText := true, laidKinds := [.data, .data], laidTests := true, laidLooks := .later }
def TopTwiceCardSaid : Prop := Claim7.holds Tryz.pinned (.plain (OpenSpec.ofChange topTwiceSpec)) topTwiceCard

/-- THE SECOND FORM's CARD OF 'curfewlaw.KernDoes'. -/
def kernDoesUptoCard : Claim7 := { stood := { row := kernDoesUptoRow, standIns := [], harness := (true, "3ae29239099c592af68345fe784f6bb448032df626ae40a4b943bf789265f331"), looks := false }, kinds := [], alts := [], laidByText := true, laidKinds := [.data, .data], laidTests := true, laidLooks := .later }
def KernDoesUptoCardSaid : Prop := Claim7.holds Tryz.pinned (.plain (OpenSpec.upto kernDoesSpec)) kernDoesUptoCard

/-- THE SECOND FORM's CARD OF 'curfewlaw.KernRuns'. -/
def kernRunsUptoCard : Claim7 := { stood := { row := kernRunsUptoRow, standIns := [], harness := (true, "3ae29239099c592af68345fe784f6bb448032df626ae40a4b943bf789265f331"), looks := false }, kinds := [], alts := [], laidByText := true, laidKinds := [.data, .data], laidTests := true, laidLooks := .later }
def KernRunsUptoCardSaid : Prop := Claim7.holds Tryz.pinned (.plain (OpenSpec.upto kernRunsSpec)) kernRunsUptoCard

/-- THE SECOND FORM's CARD OF 'curfewkeep.FilesBack'. -/
def filesBackUptoCard : Claim7 := { stood := { row := filesBackUptoRow, standIns := [], harness := (true, "3ae29239099c592af68345fe784f6bb448032df626ae40a4b943bf789265f331"), looks := false }, kinds := [], alts := [], laidByText := true, laidKinds := [.data, .data], laidTests := true, laidLooks := .later }
def FilesBackUptoCardSaid : Prop := Claim7.holds Tryz.pinned (.plain (OpenSpec.upto filesBackSpec)) filesBackUptoCard

/-- THE SECOND FORM's CARD OF 'curfewkeep.PipesFlow'. -/
def pipesFlowUptoCard : Claim7 := { stood := { row := pipesFlowUptoRow, standIns := [], harness := (true, "3ae29239099c592af68345fe784f6bb448032df626ae40a4b943bf789265f331"), looks := false }, kinds := [], alts := [], laidByText := true, laidKinds := [.data, .data], laidTests := true, laidLooks := .later }
def PipesFlowUptoCardSaid : Prop := Claim7.holds Tryz.pinned (.plain (OpenSpec.upto pipesFlowSpec)) pipesFlowUptoCard

/-- THE SECOND FORM's CARD OF 'curfewkeep.KernelsGood'. -/
def kernelsGoodUptoCard : Claim7 := { stood := { row := kernelsGoodUptoRow, standIns := [], harness := (true, "3ae29239099c592af68345fe784f6bb448032df626ae40a4b943bf789265f331"), looks := false }, kinds := [], alts := [], laidByText := true, laidKinds := [.data, .data], laidTests := true, laidLooks := .later }
def KernelsGoodUptoCardSaid : Prop := Claim7.holds Tryz.pinned (.plain (OpenSpec.upto kernelsGoodSpec)) kernelsGoodUptoCard

/-- THE SECOND FORM's CARD OF 'curfewtop.TopQuiet'. -/
def topQuietUptoCard : Claim7 := { stood := { row := topQuietUptoRow, standIns := [], harness := (true, "3ae29239099c592af68345fe784f6bb448032df626ae40a4b943bf789265f331"), looks := false }, kinds := [], alts := [], laidByText := true, laidKinds := [.data, .data], laidTests := true, laidLooks := .later }
def TopQuietUptoCardSaid : Prop := Claim7.holds Tryz.pinned (.plain (OpenSpec.upto topQuietSpec)) topQuietUptoCard

/-- THE SECOND FORM's CARD OF 'curfewtop.TopApart'. -/
def topApartUptoCard : Claim7 := { stood := { row := topApartUptoRow, standIns := [], harness := (true, "3ae29239099c592af68345fe784f6bb448032df626ae40a4b943bf789265f331"), looks := false }, kinds := [], alts := [], laidByText := true, laidKinds := [.data, .data], laidTests := true, laidLooks := .later }
def TopApartUptoCardSaid : Prop := Claim7.holds Tryz.pinned (.plain (OpenSpec.upto topApartSpec)) topApartUptoCard

/-- THE SECOND FORM's CARD OF 'curfewtop.TopTwice'. -/
def topTwiceUptoCard : Claim7 := { stood := { row := topTwiceUptoRow, standIns := [], harness := (true, "3ae29239099c592af68345fe784f6bb448032df626ae40a4b943bf789265f331"), looks := false }, kinds := [], alts := [], laidByText := true, laidKinds := [.data, .data], laidTests := true, laidLooks := .later }
def TopTwiceUptoCardSaid : Prop := Claim7.holds Tryz.pinned (.plain (OpenSpec.upto topTwiceSpec)) topTwiceUptoCard
end Rows
end Go.Proofs.YtnnhhbjbdmgpiaaGreatDoor
