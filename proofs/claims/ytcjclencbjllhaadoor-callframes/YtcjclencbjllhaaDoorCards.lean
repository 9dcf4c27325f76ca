/-
  DERIVED. GIVEN WITH THE SEED: THE CARDS: each row of YtcjclencbjllhaaDoorRows.lean that lists a variable, with what it lists TIED to the program's text (the seventh form; the later family's looks); each row that meets fmt, with fmt's text TOLD by the authors' own Lean function (tested against real Go, not proved from fmt's source: count such statements apart). THE CARD IS WHAT COUNTS. Prove the row's statement (the work); the ties are given (YtcjclencbjllhaaDoorTie.lean); close each card by the builder's one call (the guide's Derived/Test/ToyasCard.lean, 'card_holds'). Laid BY PROGRAM, IN A SANDBOX (cutbox-door.mjs). By AI agents, Wed Nov 11 2026. No macro, syntax, notation, axiom, sorry.
-/
import Derived.Test.YtcjclencbjllhaaDoorRows
import GoSem.ClaimSeven
namespace Go.Proofs.YtcjclencbjllhaaDoor
namespace Rows

/-- THE TIED CARD OF 'tierlinekeep.ProofSafe'. -/
def proofSafeCard : Claim7 := { stood := { row := proofSafeRow, standIns := [], harness := (true, "1d8ae084cebe9eb0dec4f823706a8b64db2e2ddc0ca5cd959e03f82f7cad0602"), looks := false }, kinds := [], alts := [], laidByText := true, laidKinds := [.data, .data], laidTests := true, laidLooks := .later }
def ProofSafeCardSaid : Prop := Claim7.holds Tryd.pinned (.plain (OpenSpec.ofChange proofSafeSpec)) proofSafeCard

/-- THE TIED CARD OF 'tierlinekeep.RunEnds'. -/
def runEndsCard : Claim7 := { stood := { row := runEndsRow, standIns := [], harness := (true, "1d8ae084cebe9eb0dec4f823706a8b64db2e2ddc0ca5cd959e03f82f7cad0602"), looks := false }, kinds := [], alts := [], laidByText := true, laidKinds := [.data, .data], laidTests := true, laidLooks := .later }
def RunEndsCardSaid : Prop := Claim7.holds Tryd.pinned (.plain (OpenSpec.ofChange runEndsSpec)) runEndsCard

/-- THE TIED CARD OF 'tierlinekeep.FuelFalls'. -/
def fuelFallsCard : Claim7 := { stood := { row := fuelFallsRow, standIns := [], harness := (true, "1d8ae084cebe9eb0dec4f823706a8b64db2e2ddc0ca5cd959e03f82f7cad0602"), looks := false }, kinds := [], alts := [], laidByText := true, laidKinds := [.data, .data], laidTests := true, laidLooks := .later }
def FuelFallsCardSaid : Prop := Claim7.holds Tryd.pinned (.plain (OpenSpec.ofChange fuelFallsSpec)) fuelFallsCard

/-- THE TIED CARD OF 'tierlinekeep.MemoryStays'. -/
def memoryStaysCard : Claim7 := { stood := { row := memoryStaysRow, standIns := [], harness := (true, "1d8ae084cebe9eb0dec4f823706a8b64db2e2ddc0ca5cd959e03f82f7cad0602"), looks := false }, kinds := [], alts := [], laidByText := true, laidKinds := [.data, .data], laidTests := true, laidLooks := .later }
def MemoryStaysCardSaid : Prop := Claim7.holds Tryd.pinned (.plain (OpenSpec.ofChange memoryStaysSpec)) memoryStaysCard

/-- THE TIED CARD OF 'tierlinekeep.StateStays'. -/
def stateStaysCard : Claim7 := { stood := { row := stateStaysRow, standIns := [], harness := (true, "1d8ae084cebe9eb0dec4f823706a8b64db2e2ddc0ca5cd959e03f82f7cad0602"), looks := false }, kinds := [], alts := [], laidByText := true, laidKinds := [.data, .data], laidTests := true, laidLooks := .later }
def StateStaysCardSaid : Prop := Claim7.holds Tryd.pinned (.plain (OpenSpec.ofChange stateStaysSpec)) stateStaysCard

/-- THE TIED CARD OF 'tierlinekeep.CallFrames'. -/
def callFramesCard : Claim7 := { stood := { row := callFramesRow, standIns := [], harness := (true, "1d8ae084cebe9eb0dec4f823706a8b64db2e2ddc0ca5cd959e03f82f7cad0602"), looks := false }, kinds := [], alts := [], laidByText := true, laidKinds := [.data, .data], laidTests := true, laidLooks := .later }
def CallFramesCardSaid : Prop := Claim7.holds Tryd.pinned (.plain (OpenSpec.ofChange callFramesSpec)) callFramesCard

/-- THE TIED CARD OF 'tierlinekeep.StepPure'. -/
def stepPureCard : Claim7 := { stood := { row := stepPureRow, standIns := [], harness := (true, "1d8ae084cebe9eb0dec4f823706a8b64db2e2ddc0ca5cd959e03f82f7cad0602"), looks := false }, kinds := [], alts := [], laidByText := true, laidKinds := [.data, .data], laidTests := true, laidLooks := .later }
def StepPureCardSaid : Prop := Claim7.holds Tryd.pinned (.plain (OpenSpec.ofChange stepPureSpec)) stepPureCard

/-- THE TIED CARD OF 'tierlinekeep.RunMore'. -/
def runMoreCard : Claim7 := { stood := { row := runMoreRow, standIns := [], harness := (true, "1d8ae084cebe9eb0dec4f823706a8b64db2e2ddc0ca5cd959e03f82f7cad0602"), looks := false }, kinds := [], alts := [], laidByText := true, laidKinds := [.data, .data], laidTests := true, laidLooks := .later }
def RunMoreCardSaid : Prop := Claim7.holds Tryd.pinned (.plain (OpenSpec.ofChange runMoreSpec)) runMoreCard

/-- THE TIED CARD OF 'tierlinekeep.WalkParts'. -/
def walkPartsCard : Claim7 := { stood := { row := walkPartsRow, standIns := [], harness := (true, "1d8ae084cebe9eb0dec4f823706a8b64db2e2ddc0ca5cd959e03f82f7cad0602"), looks := false }, kinds := [], alts := [], laidByText := true, laidKinds := [.data, .data], laidTests := true, laidLooks := .later }
def WalkPartsCardSaid : Prop := Claim7.holds Tryd.pinned (.plain (OpenSpec.ofChange walkPartsSpec)) walkPartsCard

/-- THE TIED CARD OF 'tierlinekeep.EventsGrow'. -/
def eventsGrowCard : Claim7 := { stood := { row := eventsGrowRow, standIns := [], harness := (true, "1d8ae084cebe9eb0dec4f823706a8b64db2e2ddc0ca5cd959e03f82f7cad0602"), looks := false }, kinds := [], alts := [], laidByText := true, laidKinds := [.data, .data], laidTests := true, laidLooks := .later }
def EventsGrowCardSaid : Prop := Claim7.holds Tryd.pinned (.plain (OpenSpec.ofChange eventsGrowSpec)) eventsGrowCard

/-- THE TIED CARD OF 'tierlinekeep.AnswersMore'. -/
def answersMoreCard : Claim7 := { stood := { row := answersMoreRow, standIns := [], harness := (true, "1d8ae084cebe9eb0dec4f823706a8b64db2e2ddc0ca5cd959e03f82f7cad0602"), looks := false }, kinds := [], alts := [], laidByText := true, laidKinds := [.data, .data], laidTests := true, laidLooks := .later }
def AnswersMoreCardSaid : Prop := Claim7.holds Tryd.pinned (.plain (OpenSpec.ofChange answersMoreSpec)) answersMoreCard

/-- THE TIED CARD OF 'tierlinekeep.TrimRuns'. -/
def trimRunsCard : Claim7 := { stood := { row := trimRunsRow, standIns := [], harness := (true, "1d8ae084cebe9eb0dec4f823706a8b64db2e2ddc0ca5cd959e03f82f7cad0602"), looks := false }, kinds := [], alts := [], laidByText := true, laidKinds := [.data, .data], laidTests := true, laidLooks := .later }
def TrimRunsCardSaid : Prop := Claim7.holds Tryd.pinned (.plain (OpenSpec.ofChange trimRunsSpec)) trimRunsCard

/-- THE SECOND FORM's CARD OF 'tierlinekeep.ProofSafe'. -/
def proofSafeUptoCard : Claim7 := { stood := { row := proofSafeUptoRow, standIns := [], harness := (true, "1d8ae084cebe9eb0dec4f823706a8b64db2e2ddc0ca5cd959e03f82f7cad0602"), looks := false }, kinds := [], alts := [], laidByText := true, laidKinds := [.data, .data], laidTests := true, laidLooks := .later }
def ProofSafeUptoCardSaid : Prop := Claim7.holds Tryd.pinned (.plain (OpenSpec.upto proofSafeSpec)) proofSafeUptoCard

/-- THE SECOND FORM's CARD OF 'tierlinekeep.RunEnds'. -/
def runEndsUptoCard : Claim7 := { stood := { row := runEndsUptoRow, standIns := [], harness := (true, "1d8ae084cebe9eb0dec4f823706a8b64db2e2ddc0ca5cd959e03f82f7cad0602"), looks := false }, kinds := [], alts := [], laidByText := true, laidKinds := [.data, .data], laidTests := true, laidLooks := .later }
def RunEndsUptoCardSaid : Prop := Claim7.holds Tryd.pinned (.plain (OpenSpec.upto runEndsSpec)) runEndsUptoCard

/-- THE SECOND FORM's CARD OF 'tierlinekeep.FuelFalls'. -/
def fuelFallsUptoCard : Claim7 := { stood := { row := fuelFallsUptoRow, standIns := [], harness := (true, "1d8ae084cebe9eb0dec4f823706a8b64db2e2ddc0ca5cd959e03f82f7cad0602"), looks := false }, kinds := [], alts := [], laidByText := true, laidKinds := [.data, .data], laidTests := true, laidLooks := .later }
def FuelFallsUptoCardSaid : Prop := Claim7.holds Tryd.pinned (.plain (OpenSpec.upto fuelFallsSpec)) fuelFallsUptoCard

/-- THE SECOND FORM's CARD OF 'tierlinekeep.MemoryStays'. -/
def memoryStaysUptoCard : Claim7 := { stood := { row := memoryStaysUptoRow, standIns := [], harness := (true, "1d8ae084cebe9eb0dec4f823706a8b64db2e2ddc0ca5cd959e03f82f7cad0602"), looks := false }, kinds := [], alts := [], laidByText := true, laidKinds := [.data, .data], laidTests := true, laidLooks := .later }
def MemoryStaysUptoCardSaid : Prop := Claim7.holds Tryd.pinned (.plain (OpenSpec.upto memoryStaysSpec)) memoryStaysUptoCard

/-- THE SECOND FORM's CARD OF 'tierlinekeep.StateStays'. -/
def stateStaysUptoCard : Claim7 := { stood := { row := stateStaysUptoRow, standIns := [], harness := (true, "1d8ae084cebe9eb0dec4f823706a8b64db2e2ddc0ca5cd959e03f82f7cad0602"), looks := false }, kinds := [], alts := [], laidByText := true, laidKinds := [.data, .data], laidTests := true, laidLooks := .later }
def StateStaysUptoCardSaid : Prop := Claim7.holds Tryd.pinned (.plain (OpenSpec.upto stateStaysSpec)) stateStaysUptoCard

/-- THE SECOND FORM's CARD OF 'tierlinekeep.CallFrames'. -/
def callFramesUptoCard : Claim7 := { stood := { row := callFramesUptoRow, standIns := [], harness := (true, "1d8ae084cebe9eb0dec4f823706a8b64db2e2ddc0ca5cd959e03f82f7cad0602"), looks := false }, kinds := [], alts := [], laidByText := true, laidKinds := [.data, .data], laidTests := true, laidLooks := .later }
def CallFramesUptoCardSaid : Prop := Claim7.holds Tryd.pinned (.plain (OpenSpec.upto callFramesSpec)) callFramesUptoCard

/-- THE SECOND FORM's CARD OF 'tierlinekeep.StepPure'. -/
def stepPureUptoCard : Claim7 := { stood := { row := stepPureUptoRow, standIns := [], harness := (true, "1d8ae084cebe9eb0dec4f823706a8b64db2e2ddc0ca5cd959e03f82f7cad0602"), looks := false }, kinds := [], alts := [], laidByText := true, laidKinds := [.data, .data], laidTests := true, laidLooks := .later }
def StepPureUptoCardSaid : Prop := Claim7.holds Tryd.pinned (.plain (OpenSpec.upto stepPureSpec)) stepPureUptoCard

/-- THE SECOND FORM's CARD OF 'tierlinekeep.RunMore'. -/
def runMoreUptoCard : Claim7 := { stood := { row := runMoreUptoRow, standIns := [], harness := (true, "1d8ae084cebe9eb0dec4f823706a8b64db2e2ddc0ca5cd959e03f82f7cad0602"), looks := false }, kinds := [], alts := [], laidByText := true, laidKinds := [.data, .data], laidTests := true, laidLooks := .later }
def RunMoreUptoCardSaid : Prop := Claim7.holds Tryd.pinned (.plain (OpenSpec.upto runMoreSpec)) runMoreUptoCard

/-- THE SECOND FORM's CARD OF 'tierlinekeep.WalkParts'. -/
def walkPartsUptoCard : Claim7 := { stood := { row := walkPartsUptoRow, standIns := [], harness := (true, "1d8ae084cebe9eb0dec4f823706a8b64db2e2ddc0ca5cd959e03f82f7cad0602"), looks := false }, kinds := [], alts := [], laidByText := true, laidKinds := [.data, .data], laidTests := true, laidLooks := .later }
def WalkPartsUptoCardSaid : Prop := Claim7.holds Tryd.pinned (.plain (OpenSpec.upto walkPartsSpec)) walkPartsUptoCard

/-- THE SECOND FORM's CARD OF 'tierlinekeep.EventsGrow'. -/
def eventsGrowUptoCard : Claim7 := { stood := { row := eventsGrowUptoRow, standIns := [], harness := (true, "1d8ae084cebe9eb0dec4f823706a8b64db2e2ddc0ca5cd959e03f82f7cad0602"), looks := false }, kinds := [], alts := [], laidByText := true, laidKinds := [.data, .data], laidTests := true, laidLooks := .later }
def EventsGrowUptoCardSaid : Prop := Claim7.holds Tryd.pinned (.plain (OpenSpec.upto eventsGrowSpec)) eventsGrowUptoCard

/-- THE SECOND FORM's CARD OF 'tierlinekeep.AnswersMore'. -/
def answersMoreUptoCard : Claim7 := { stood := { row := answersMoreUptoRow, standIns := [], harness := (true, "1d8ae084cebe9eb0dec4f823706a8b64db2e2ddc0ca5cd959e03f82f7cad0602"), looks := false }, kinds := [], alts := [], laidByText := true, laidKinds := [.data, .data], laidTests := true, laidLooks := .later }
def AnswersMoreUptoCardSaid : Prop := Claim7.holds Tryd.pinned (.plain (OpenSpec.upto answersMoreSpec)) answersMoreUptoCard

/-- THE SECOND FORM's CARD OF 'tierlinekeep.TrimRuns'. -/
def trimRunsUptoCard : Claim7 := { stood := { row := trimRunsUptoRow, standIns := [], harness := (true, "1d8ae084cebe9eb0dec4f823706a8b64db2e2ddc0ca5cd959e03f82f7cad0602"), looks := false }, kinds := [], alts := [], laidByText := true, laidKinds := [.data, .data], laidTests := true, laidLooks := .later }
def TrimRunsUptoCardSaid : Prop := Claim7.holds Tryd.pinned (.plain (OpenSpec.upto trimRunsSpec)) trimRunsUptoCard
end Rows
end Go.Proofs.YtcjclencbjllhaaDoor
