/-
  DERIVED. GIVEN WITH THE SEED: THE CARDS: each row of YtamepbgmajeaeabDoorRows.lean that lists a variable, with what it lists TIED to the program's text (the seventh form; the later family's looks); each row that meets fmt, with fmt's text TOLD by the authors' own Lean function (tested against real Go, not proved from fmt's source: count such statements apart). THE CARD IS WHAT COUNTS. Prove the row's statement (the work); the ties are given (YtamepbgmajeaeabDoorTie.lean); close each card by the builder's one call (the guide's Derived/Test/ToyasCard.lean, 'card_holds'). Laid BY PROGRAM, IN A SANDBOX (cutbox-door.mjs). By AI agents, Wed Nov 11 2026. No macro, syntax, notation, axiom, sorry.
-/
import Derived.Test.YtamepbgmajeaeabDoorRows
import GoSem.ClaimSeven
namespace Go.Proofs.YtamepbgmajeaeabDoor
namespace Rows

/-- THE TIED CARD OF 'curfewkeep.MadeSafe'. -/
def madeSafeCard : Claim7 := { stood := { row := madeSafeRow, standIns := [], harness := (true, "eba3b9b8477daf4b8abee46b7a89490b8831f7b2782fb1e4a1a30edb14a595ab"), looks := false }, kinds := [], alts := [], laidByText := true, laidKinds := [.data, .data], laidTests := true, laidLooks := .later }
def MadeSafeCardSaid : Prop := Claim7.holds Tryd.pinned (.plain (OpenSpec.ofChange madeSafeSpec)) madeSafeCard

/-- THE SECOND FORM's CARD OF 'curfewkeep.MadeSafe'. -/
def madeSafeUptoCard : Claim7 := { stood := { row := madeSafeUptoRow, standIns := [], harness := (true, "eba3b9b8477daf4b8abee46b7a89490b8831f7b2782fb1e4a1a30edb14a595ab"), looks := false }, kinds := [], alts := [], laidByText := true, laidKinds := [.data, .data], laidTests := true, laidLooks := .later }
def MadeSafeUptoCardSaid : Prop := Claim7.holds Tryd.pinned (.plain (OpenSpec.upto madeSafeSpec)) madeSafeUptoCard
end Rows
end Go.Proofs.YtamepbgmajeaeabDoor
