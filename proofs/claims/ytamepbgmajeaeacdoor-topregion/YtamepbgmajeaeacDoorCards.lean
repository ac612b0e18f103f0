/-
  DERIVED. GIVEN WITH THE SEED: THE CARDS: each row of YtamepbgmajeaeacDoorRows.lean that lists a variable, with what it lists TIED to the program's text (the seventh form; the later family's looks); each row that meets fmt, with fmt's text TOLD by the authors' own Lean function (tested against real Go, not proved from fmt's source: count such statements apart). THE CARD IS WHAT COUNTS. Prove the row's statement (the work); the ties are given (YtamepbgmajeaeacDoorTie.lean); close each card by the builder's one call (the guide's Derived/Test/ToyasCard.lean, 'card_holds'). Laid BY PROGRAM, IN A SANDBOX (cutbox-door.mjs). By AI agents, Wed Nov 11 2026. No macro, syntax, notation, axiom, sorry.
-/
import Derived.Test.YtamepbgmajeaeacDoorRows
import GoSem.ClaimSeven
namespace Go.Proofs.YtamepbgmajeaeacDoor
namespace Rows

/-- THE TIED CARD OF 'curfewtop.TopRegion'. -/
def topRegionCard : Claim7 := { stood := { row := topRegionRow, standIns := [], harness := (true, "93158ef9996ca36a00c576963e91d0612d0edb7cac762d8cac11c7814cf66d2d"), looks := false }, kinds := [], alts := [], laidByText := true, laidKinds := [.data, .data], laidTests := true, laidLooks := .later }
def TopRegionCardSaid : Prop := Claim7.holds Tryd.pinned (.plain (OpenSpec.ofChange topRegionSpec)) topRegionCard

/-- THE TIED CARD OF 'curfewtop.TopNever'. -/
def topNeverCard : Claim7 := { stood := { row := topNeverRow, standIns := [], harness := (true, "93158ef9996ca36a00c576963e91d0612d0edb7cac762d8cac11c7814cf66d2d"), looks := false }, kinds := [], alts := [], laidByText := true, laidKinds := [.data, .data], laidTests := true, laidLooks := .later }
def TopNeverCardSaid : Prop := Claim7.holds Tryd.pinned (.plain (OpenSpec.ofChange topNeverSpec)) topNeverCard

/-- THE TIED CARD OF 'curfewtop.TopMade'. -/
def topMadeCard : Claim7 := { stood := { row := topMadeRow, standIns := [], harness := (true, "93158ef9996ca36a00c576963e91d0612d0edb7cac762d8cac11c7814cf66d2d"), looks := false }, kinds := [], alts := [], laidByText := true, laidKinds := [.data, .data], laidTests := true, laidLooks := .later }
def TopMadeCardSaid : Prop := Claim7.holds Tryd.pinned (.plain (OpenSpec.ofChange topMadeSpec)) topMadeCard

/-- THE SECOND FORM's CARD OF 'curfewtop.TopRegion'. -/
def topRegionUptoCard : Claim7 := { stood := { row := topRegionUptoRow, standIns := [], harness := (true, "93158ef9996ca36a00c576963e91d0612d0edb7cac762d8cac11c7814cf66d2d"), looks := false }, kinds := [], alts := [], laidByText := true, laidKinds := [.data, .data], laidTests := true, laidLooks := .later }
def TopRegionUptoCardSaid : Prop := Claim7.holds Tryd.pinned (.plain (OpenSpec.upto topRegionSpec)) topRegionUptoCard

/-- THE SECOND FORM's CARD OF 'curfewtop.TopNever'. -/
def topNeverUptoCard : Claim7 := { stood := { row := topNeverUptoRow, standIns := [], harness := (true, "93158ef9996ca36a00c576963e91d0612d0edb7cac762d8cac11c7814cf66d2d"), looks := false }, kinds := [], alts := [], laidByText := true, laidKinds := [.data, .data], laidTests := true, laidLooks := .later }
def TopNeverUptoCardSaid : Prop := Claim7.holds Tryd.pinned (.plain (OpenSpec.upto topNeverSpec)) topNeverUptoCard

/-- THE SECOND FORM's CARD OF 'curfewtop.TopMade'. -/
def topMadeUptoCard : Claim7 := { stood := { row := topMadeUptoRow, standIns := [], harness := (true, "93158ef9996ca36a00c576963e91d0612d0edb7cac762d8cac11c7814cf66d2d"), looks := false }, kinds := [], alts := [], laidByText := true, laidKinds := [.data, .data], laidTests := true, laidLooks := .later }
def TopMadeUptoCardSaid : Prop := Claim7.holds Tryd.pinned (.plain (OpenSpec.upto topMadeSpec)) topMadeUptoCard
end Rows
end Go.Proofs.YtamepbgmajeaeacDoor
