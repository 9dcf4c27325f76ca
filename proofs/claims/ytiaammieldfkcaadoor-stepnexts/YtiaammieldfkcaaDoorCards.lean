/-
  DERIVED. GIVEN WITH THE SEED: THE CARDS: each row of YtiaammieldfkcaaDoorRows.lean that lists a variable, with what it lists TIED to the program's text (the seventh form; the later family's looks); each row that meets fmt, with fmt's text TOLD by the authors' own Lean function (tested against real Go, not proved from fmt's source: count such statements apart). THE CARD IS WHAT COUNTS. Prove the row's statement (the work); the ties are given (YtiaammieldfkcaaDoorTie.lean); close each card by the builder's one call (the guide's Derived/Test/ToyasCard.lean, 'card_holds'). Laid BY PROGRAM, IN A SANDBOX (cutbox-door.mjs). By AI agents, Wed Nov 11 2026. No macro, syntax, notation, axiom, sorry.
-/
import Derived.Test.YtiaammieldfkcaaDoorRows
import GoSem.ClaimSeven
namespace Go.Proofs.YtiaammieldfkcaaDoor
namespace Rows

/-- THE TIED CARD OF 'tierlinelaw.StepNexts'. -/
def stepNextsCard : Claim7 := { stood := { row := stepNextsRow, standIns := [], harness := (true, "ae5602ee4d515d485855709f75add64388544c7e3b032c3f2d12eb958d79c082"), looks := false }, kinds := [], alts := [], laidByText := true, laidKinds := [.data, .data], laidTests := true, laidLooks := .later }
def StepNextsCardSaid : Prop := Claim7.holds Tryd.pinned (.plain (OpenSpec.ofChange stepNextsSpec)) stepNextsCard

/-- THE TIED CARD OF 'tierlinelaw.StepRuns'. -/
def stepRunsCard : Claim7 := { stood := { row := stepRunsRow, standIns := [], harness := (true, "ae5602ee4d515d485855709f75add64388544c7e3b032c3f2d12eb958d79c082"), looks := false }, kinds := [], alts := [], laidByText := true, laidKinds := [.data, .data], laidTests := true, laidLooks := .later }
def StepRunsCardSaid : Prop := Claim7.holds Tryd.pinned (.plain (OpenSpec.ofChange stepRunsSpec)) stepRunsCard

/-- THE TIED CARD OF 'tierlinelaw.ProfileCounts'. -/
def profileCountsCard : Claim7 := { stood := { row := profileCountsRow, standIns := [], harness := (true, "ae5602ee4d515d485855709f75add64388544c7e3b032c3f2d12eb958d79c082"), looks := false }, kinds := [], alts := [], laidByText := true, laidKinds := [.data, .data], laidTests := true, laidLooks := .later }
def ProfileCountsCardSaid : Prop := Claim7.holds Tryd.pinned (.plain (OpenSpec.ofChange profileCountsSpec)) profileCountsCard

/-- THE TIED CARD OF 'tierlinelaw.ProfileHots'. -/
def profileHotsCard : Claim7 := { stood := { row := profileHotsRow, standIns := [], harness := (true, "ae5602ee4d515d485855709f75add64388544c7e3b032c3f2d12eb958d79c082"), looks := false }, kinds := [], alts := [], laidByText := true, laidKinds := [.data, .data], laidTests := true, laidLooks := .later }
def ProfileHotsCardSaid : Prop := Claim7.holds Tryd.pinned (.plain (OpenSpec.ofChange profileHotsSpec)) profileHotsCard

/-- THE SECOND FORM's CARD OF 'tierlinelaw.StepNexts'. -/
def stepNextsUptoCard : Claim7 := { stood := { row := stepNextsUptoRow, standIns := [], harness := (true, "ae5602ee4d515d485855709f75add64388544c7e3b032c3f2d12eb958d79c082"), looks := false }, kinds := [], alts := [], laidByText := true, laidKinds := [.data, .data], laidTests := true, laidLooks := .later }
def StepNextsUptoCardSaid : Prop := Claim7.holds Tryd.pinned (.plain (OpenSpec.upto stepNextsSpec)) stepNextsUptoCard

/-- THE SECOND FORM's CARD OF 'tierlinelaw.StepRuns'. -/
def stepRunsUptoCard : Claim7 := { stood := { row := stepRunsUptoRow, standIns := [], harness := (true, "ae5602ee4d515d485855709f75add64388544c7e3b032c3f2d12eb958d79c082"), looks := false }, kinds := [], alts := [], laidByText := true, laidKinds := [.data, .data], laidTests := true, laidLooks := .later }
def StepRunsUptoCardSaid : Prop := Claim7.holds Tryd.pinned (.plain (OpenSpec.upto stepRunsSpec)) stepRunsUptoCard

/-- THE SECOND FORM's CARD OF 'tierlinelaw.ProfileCounts'. -/
def profileCountsUptoCard : Claim7 := { stood := { row := profileCountsUptoRow, standIns := [], harness := (true, "ae5602ee4d515d485855709f75add64388544c7e3b032c3f2d12eb958d79c082"), looks := false }, kinds := [], alts := [], laidByText := true, laidKinds := [.data, .data], laidTests := true, laidLooks := .later }
def ProfileCountsUptoCardSaid : Prop := Claim7.holds Tryd.pinned (.plain (OpenSpec.upto profileCountsSpec)) profileCountsUptoCard

/-- THE SECOND FORM's CARD OF 'tierlinelaw.ProfileHots'. -/
def profileHotsUptoCard : Claim7 := { stood := { row := profileHotsUptoRow, standIns := [], harness := (true, "ae5602ee4d515d485855709f75add64388544c7e3b032c3f2d12eb958d79c082"), looks := false }, kinds := [], alts := [], laidByText := true, laidKinds := [.data, .data], laidTests := true, laidLooks := .later }
def ProfileHotsUptoCardSaid : Prop := Claim7.holds Tryd.pinned (.plain (OpenSpec.upto profileHotsSpec)) profileHotsUptoCard
end Rows
end Go.Proofs.YtiaammieldfkcaaDoor
