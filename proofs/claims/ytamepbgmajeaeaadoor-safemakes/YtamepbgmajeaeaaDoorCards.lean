/-
  DERIVED. GIVEN WITH THE SEED: THE CARDS: each row of YtamepbgmajeaeaaDoorRows.lean that lists a variable, with what it lists TIED to the program's text (the seventh form; the later family's looks); each row that meets fmt, with fmt's text TOLD by the authors' own Lean function (tested against real Go, not proved from fmt's source: count such statements apart). THE CARD IS WHAT COUNTS. Prove the row's statement (the work); the ties are given (YtamepbgmajeaeaaDoorTie.lean); close each card by the builder's one call (the guide's Derived/Test/ToyasCard.lean, 'card_holds'). Laid BY PROGRAM, IN A SANDBOX (cutbox-door.mjs). By AI agents, Wed Nov 11 2026. No macro, syntax, notation, axiom, sorry.
-/
import Derived.Test.YtamepbgmajeaeaaDoorRows
import GoSem.ClaimSeven
namespace Go.Proofs.YtamepbgmajeaeaaDoor
namespace Rows

/-- THE TIED CARD OF 'curfewlaw.CodeChecks'. -/
def codeChecksCard : Claim7 := { stood := { row := codeChecksRow, standIns := [], harness := (true, "e7f580ec156fb6e2e34d8ff56cddd836489912118c56f04d7acb0db3a2cb1d54"), looks := true }, kinds := [], alts := [], laidByText := true, laidKinds := [.data, .data], laidTests := true, laidLooks := .later }
def CodeChecksCardSaid : Prop := Claim7.holds Tryd.pinned (.plain (OpenSpec.ofChange codeChecksSpec)) codeChecksCard

/-- THE TIED CARD OF 'curfewlaw.CodeShows'. -/
def codeShowsCard : Claim7 := { stood := { row := codeShowsRow, standIns := [], harness := (true, "e7f580ec156fb6e2e34d8ff56cddd836489912118c56f04d7acb0db3a2cb1d54"), looks := true }, kinds := [], alts := [], laidByText := true, laidKinds := [.data, .data, .data, .data, .data, .data], laidTests := true, laidLooks := .later }
def CodeShowsCardSaid : Prop := Claim7.holds Tryd.pinned (.plain (OpenSpec.ofChange codeShowsSpec)) codeShowsCard

/-- THE TIED CARD OF 'curfewlaw.CodeReads'. -/
def codeReadsCard : Claim7 := { stood := { row := codeReadsRow, standIns := [], harness := (true, "e7f580ec156fb6e2e34d8ff56cddd836489912118c56f04d7acb0db3a2cb1d54"), looks := true }, kinds := [], alts := [], laidByText := true, laidKinds := [.data, .data, .data, .data, .sentinel, .sentinel, .data, .data, .data, .pinned], laidTests := true, laidLooks := .later }
def CodeReadsCardSaid : Prop := Claim7.holds Tryd.pinned (.plain (OpenSpec.ofChange codeReadsSpec)) codeReadsCard

/-- THE TIED CARD OF 'curfewkeep.CodesBack'. -/
def codesBackCard : Claim7 := { stood := { row := codesBackRow, standIns := [], harness := (true, "e7f580ec156fb6e2e34d8ff56cddd836489912118c56f04d7acb0db3a2cb1d54"), looks := true }, kinds := [], alts := [], laidByText := true, laidKinds := [.data, .data, .data, .data, .sentinel, .sentinel, .data, .data, .data, .pinned], laidTests := true, laidLooks := .later }
def CodesBackCardSaid : Prop := Claim7.holds Tryd.pinned (.plain (OpenSpec.ofChange codesBackSpec)) codesBackCard

/-- THE TIED CARD OF 'curfewkeep.CodesBad'. -/
def codesBadCard : Claim7 := { stood := { row := codesBadRow, standIns := [], harness := (true, "e7f580ec156fb6e2e34d8ff56cddd836489912118c56f04d7acb0db3a2cb1d54"), looks := true }, kinds := [], alts := [], laidByText := true, laidKinds := [.data, .data, .data, .data, .sentinel, .sentinel, .data, .data, .data, .pinned], laidTests := true, laidLooks := .later }
def CodesBadCardSaid : Prop := Claim7.holds Tryd.pinned (.plain (OpenSpec.ofChange codesBadSpec)) codesBadCard

/-- THE TIED CARD OF 'curfewlaw.CpuRuns'. -/
def cpuRunsCard : Claim7 := { stood := { row := cpuRunsRow, standIns := [], harness := (true, "e7f580ec156fb6e2e34d8ff56cddd836489912118c56f04d7acb0db3a2cb1d54"), looks := true }, kinds := [], alts := [], laidByText := true, laidKinds := [.data, .data], laidTests := true, laidLooks := .later }
def CpuRunsCardSaid : Prop := Claim7.holds Tryd.pinned (.plain (OpenSpec.ofChange cpuRunsSpec)) cpuRunsCard

/-- THE TIED CARD OF 'curfewkeep.RunsCount'. -/
def runsCountCard : Claim7 := { stood := { row := runsCountRow, standIns := [], harness := (true, "e7f580ec156fb6e2e34d8ff56cddd836489912118c56f04d7acb0db3a2cb1d54"), looks := true }, kinds := [], alts := [], laidByText := true, laidKinds := [.data, .data], laidTests := true, laidLooks := .later }
def RunsCountCardSaid : Prop := Claim7.holds Tryd.pinned (.plain (OpenSpec.ofChange runsCountSpec)) runsCountCard

/-- THE TIED CARD OF 'curfewkeep.RunsReckon'. -/
def runsReckonCard : Claim7 := { stood := { row := runsReckonRow, standIns := [], harness := (true, "e7f580ec156fb6e2e34d8ff56cddd836489912118c56f04d7acb0db3a2cb1d54"), looks := true }, kinds := [], alts := [], laidByText := true, laidKinds := [.data, .data], laidTests := true, laidLooks := .later }
def RunsReckonCardSaid : Prop := Claim7.holds Tryd.pinned (.plain (OpenSpec.ofChange runsReckonSpec)) runsReckonCard

/-- THE TIED CARD OF 'curfewkeep.RunsCall'. -/
def runsCallCard : Claim7 := { stood := { row := runsCallRow, standIns := [], harness := (true, "e7f580ec156fb6e2e34d8ff56cddd836489912118c56f04d7acb0db3a2cb1d54"), looks := true }, kinds := [], alts := [], laidByText := true, laidKinds := [.data, .data], laidTests := true, laidLooks := .later }
def RunsCallCardSaid : Prop := Claim7.holds Tryd.pinned (.plain (OpenSpec.ofChange runsCallSpec)) runsCallCard

/-- THE TIED CARD OF 'curfewlaw.SafeVerifies'. -/
def safeVerifiesCard : Claim7 := { stood := { row := safeVerifiesRow, standIns := [], harness := (true, "e7f580ec156fb6e2e34d8ff56cddd836489912118c56f04d7acb0db3a2cb1d54"), looks := true }, kinds := [], alts := [], laidByText := true, laidKinds := [.data, .data], laidTests := true, laidLooks := .later }
def SafeVerifiesCardSaid : Prop := Claim7.holds Tryd.pinned (.plain (OpenSpec.ofChange safeVerifiesSpec)) safeVerifiesCard

/-- THE TIED CARD OF 'curfewlaw.SafeMakes'. -/
def safeMakesCard : Claim7 := { stood := { row := safeMakesRow, standIns := [], harness := (true, "e7f580ec156fb6e2e34d8ff56cddd836489912118c56f04d7acb0db3a2cb1d54"), looks := true }, kinds := [], alts := [], laidByText := true, laidKinds := [.data, .data], laidTests := true, laidLooks := .later }
def SafeMakesCardSaid : Prop := Claim7.holds Tryd.pinned (.plain (OpenSpec.ofChange safeMakesSpec)) safeMakesCard

/-- THE SECOND FORM's CARD OF 'curfewlaw.CodeChecks'. -/
def codeChecksUptoCard : Claim7 := { stood := { row := codeChecksUptoRow, standIns := [], harness := (true, "e7f580ec156fb6e2e34d8ff56cddd836489912118c56f04d7acb0db3a2cb1d54"), looks := true }, kinds := [], alts := [], laidByText := true, laidKinds := [.data, .data], laidTests := true, laidLooks := .later }
def CodeChecksUptoCardSaid : Prop := Claim7.holds Tryd.pinned (.plain (OpenSpec.upto codeChecksSpec)) codeChecksUptoCard

/-- THE SECOND FORM's CARD OF 'curfewlaw.CodeShows'. -/
def codeShowsUptoCard : Claim7 := { stood := { row := codeShowsUptoRow, standIns := [], harness := (true, "e7f580ec156fb6e2e34d8ff56cddd836489912118c56f04d7acb0db3a2cb1d54"), looks := true }, kinds := [], alts := [], laidByText := true, laidKinds := [.data, .data, .data, .data, .data, .data], laidTests := true, laidLooks := .later }
def CodeShowsUptoCardSaid : Prop := Claim7.holds Tryd.pinned (.plain (OpenSpec.upto codeShowsSpec)) codeShowsUptoCard

/-- THE SECOND FORM's CARD OF 'curfewlaw.CodeReads'. -/
def codeReadsUptoCard : Claim7 := { stood := { row := codeReadsUptoRow, standIns := [], harness := (true, "e7f580ec156fb6e2e34d8ff56cddd836489912118c56f04d7acb0db3a2cb1d54"), looks := true }, kinds := [], alts := [], laidByText := true, laidKinds := [.data, .data, .data, .data, .sentinel, .sentinel, .data, .data, .data, .pinned], laidTests := true, laidLooks := .later }
def CodeReadsUptoCardSaid : Prop := Claim7.holds Tryd.pinned (.plain (OpenSpec.upto codeReadsSpec)) codeReadsUptoCard

/-- THE SECOND FORM's CARD OF 'curfewkeep.CodesBack'. -/
def codesBackUptoCard : Claim7 := { stood := { row := codesBackUptoRow, standIns := [], harness := (true, "e7f580ec156fb6e2e34d8ff56cddd836489912118c56f04d7acb0db3a2cb1d54"), looks := true }, kinds := [], alts := [], laidByText := true, laidKinds := [.data, .data, .data, .data, .sentinel, .sentinel, .data, .data, .data, .pinned], laidTests := true, laidLooks := .later }
def CodesBackUptoCardSaid : Prop := Claim7.holds Tryd.pinned (.plain (OpenSpec.upto codesBackSpec)) codesBackUptoCard

/-- THE SECOND FORM's CARD OF 'curfewkeep.CodesBad'. -/
def codesBadUptoCard : Claim7 := { stood := { row := codesBadUptoRow, standIns := [], harness := (true, "e7f580ec156fb6e2e34d8ff56cddd836489912118c56f04d7acb0db3a2cb1d54"), looks := true }, kinds := [], alts := [], laidByText := true, laidKinds := [.data, .data, .data, .data, .sentinel, .sentinel, .data, .data, .data, .pinned], laidTests := true, laidLooks := .later }
def CodesBadUptoCardSaid : Prop := Claim7.holds Tryd.pinned (.plain (OpenSpec.upto codesBadSpec)) codesBadUptoCard

/-- THE SECOND FORM's CARD OF 'curfewlaw.CpuRuns'. -/
def cpuRunsUptoCard : Claim7 := { stood := { row := cpuRunsUptoRow, standIns := [], harness := (true, "e7f580ec156fb6e2e34d8ff56cddd836489912118c56f04d7acb0db3a2cb1d54"), looks := true }, kinds := [], alts := [], laidByText := true, laidKinds := [.data, .data], laidTests := true, laidLooks := .later }
def CpuRunsUptoCardSaid : Prop := Claim7.holds Tryd.pinned (.plain (OpenSpec.upto cpuRunsSpec)) cpuRunsUptoCard

/-- THE SECOND FORM's CARD OF 'curfewkeep.RunsCount'. -/
def runsCountUptoCard : Claim7 := { stood := { row := runsCountUptoRow, standIns := [], harness := (true, "e7f580ec156fb6e2e34d8ff56cddd836489912118c56f04d7acb0db3a2cb1d54"), looks := true }, kinds := [], alts := [], laidByText := true, laidKinds := [.data, .data], laidTests := true, laidLooks := .later }
def RunsCountUptoCardSaid : Prop := Claim7.holds Tryd.pinned (.plain (OpenSpec.upto runsCountSpec)) runsCountUptoCard

/-- THE SECOND FORM's CARD OF 'curfewkeep.RunsReckon'. -/
def runsReckonUptoCard : Claim7 := { stood := { row := runsReckonUptoRow, standIns := [], harness := (true, "e7f580ec156fb6e2e34d8ff56cddd836489912118c56f04d7acb0db3a2cb1d54"), looks := true }, kinds := [], alts := [], laidByText := true, laidKinds := [.data, .data], laidTests := true, laidLooks := .later }
def RunsReckonUptoCardSaid : Prop := Claim7.holds Tryd.pinned (.plain (OpenSpec.upto runsReckonSpec)) runsReckonUptoCard

/-- THE SECOND FORM's CARD OF 'curfewkeep.RunsCall'. -/
def runsCallUptoCard : Claim7 := { stood := { row := runsCallUptoRow, standIns := [], harness := (true, "e7f580ec156fb6e2e34d8ff56cddd836489912118c56f04d7acb0db3a2cb1d54"), looks := true }, kinds := [], alts := [], laidByText := true, laidKinds := [.data, .data], laidTests := true, laidLooks := .later }
def RunsCallUptoCardSaid : Prop := Claim7.holds Tryd.pinned (.plain (OpenSpec.upto runsCallSpec)) runsCallUptoCard

/-- THE SECOND FORM's CARD OF 'curfewlaw.SafeVerifies'. -/
def safeVerifiesUptoCard : Claim7 := { stood := { row := safeVerifiesUptoRow, standIns := [], harness := (true, "e7f580ec156fb6e2e34d8ff56cddd836489912118c56f04d7acb0db3a2cb1d54"), looks := true }, kinds := [], alts := [], laidByText := true, laidKinds := [.data, .data], laidTests := true, laidLooks := .later }
def SafeVerifiesUptoCardSaid : Prop := Claim7.holds Tryd.pinned (.plain (OpenSpec.upto safeVerifiesSpec)) safeVerifiesUptoCard

/-- THE SECOND FORM's CARD OF 'curfewlaw.SafeMakes'. -/
def safeMakesUptoCard : Claim7 := { stood := { row := safeMakesUptoRow, standIns := [], harness := (true, "e7f580ec156fb6e2e34d8ff56cddd836489912118c56f04d7acb0db3a2cb1d54"), looks := true }, kinds := [], alts := [], laidByText := true, laidKinds := [.data, .data], laidTests := true, laidLooks := .later }
def SafeMakesUptoCardSaid : Prop := Claim7.holds Tryd.pinned (.plain (OpenSpec.upto safeMakesSpec)) safeMakesUptoCard
end Rows
end Go.Proofs.YtamepbgmajeaeaaDoor
