/-
  DERIVED. GIVEN WITH THE SEED: THE CARDS: each row of YtnnhhbjbdmgpiaaDoorRows.lean that lists a variable, with what it lists TIED to the program's text (the seventh form; the later family's looks); each row that meets fmt, with fmt's text TOLD by the authors' own Lean function (tested against real Go, not proved from fmt's source: count such statements apart). THE CARD IS WHAT COUNTS. Prove the row's statement (the work); the ties are given (YtnnhhbjbdmgpiaaDoorTie.lean); close each card by the builder's one call (the guide's Derived/Test/ToyasCard.lean, 'card_holds'). Laid BY PROGRAM, IN A SANDBOX (cutbox-door.mjs). By AI agents, Wed Nov 11 2026. No macro, syntax, notation, axiom, sorry.
-/
import Derived.Test.YtnnhhbjbdmgpiaaDoorRows
import GoSem.ClaimSeven
namespace Go.Proofs.YtnnhhbjbdmgpiaaDoor
namespace Rows

/-- THE TIED CARD OF 'curfewlaw.KernChecks'. -/
def kernChecksCard : Claim7 := { stood := { row := kernChecksRow, standIns := [], harness := (true, "2269251cb63c5627651edded950704d04699eeb26290b72b1ae3464e0e288a76"), looks := false }, kinds := [], alts := [], laidByText := true, laidKinds := [.data, .data], laidTests := true, laidLooks := .later }
def KernChecksCardSaid : Prop := Claim7.holds Tryd.pinned (.plain (OpenSpec.ofChange kernChecksSpec)) kernChecksCard

/-- THE SECOND FORM's CARD OF 'curfewlaw.KernChecks'. -/
def kernChecksUptoCard : Claim7 := { stood := { row := kernChecksUptoRow, standIns := [], harness := (true, "2269251cb63c5627651edded950704d04699eeb26290b72b1ae3464e0e288a76"), looks := false }, kinds := [], alts := [], laidByText := true, laidKinds := [.data, .data], laidTests := true, laidLooks := .later }
def KernChecksUptoCardSaid : Prop := Claim7.holds Tryd.pinned (.plain (OpenSpec.upto kernChecksSpec)) kernChecksUptoCard
end Rows
end Go.Proofs.YtnnhhbjbdmgpiaaDoor
