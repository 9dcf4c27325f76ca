/-
  DERIVED. GIVEN WITH THE SEED: THE CARDS: each row of YtepnhemlhogmgaaDoorRows.lean that lists a variable, with what it lists TIED to the program's text (the seventh form; the later family's looks); each row that meets fmt, with fmt's text TOLD by the authors' own Lean function (tested against real Go, not proved from fmt's source: count such statements apart). THE CARD IS WHAT COUNTS. Prove the row's statement (the work); the ties are given (YtepnhemlhogmgaaDoorTie.lean); close each card by the builder's one call (the guide's Derived/Test/ToyasCard.lean, 'card_holds'). Laid BY PROGRAM, IN A SANDBOX (cutbox-door.mjs). By AI agents, Wed Nov 11 2026. No macro, syntax, notation, axiom, sorry.
-/
import Derived.Test.YtepnhemlhogmgaaDoorRows
import GoSem.ClaimSeven
namespace Go.Proofs.YtepnhemlhogmgaaDoor
namespace Rows

/-- THE TIED CARD OF 'tierlinelaw.TrimWheres'. -/
def trimWheresCard : Claim7 := { stood := { row := trimWheresRow, standIns := [], harness := (true, "89e7dcfbfc4ab41a5dc49fd5ff13440f22c4452392b60a0cd2138679059ed053"), looks := false }, kinds := [], alts := [], laidByText := true, laidKinds := [.data, .data], laidTests := true, laidLooks := .later }
def TrimWheresCardSaid : Prop := Claim7.holds Tryd.pinned (.plain (OpenSpec.ofChange trimWheresSpec)) trimWheresCard

/-- THE TIED CARD OF 'tierlinelaw.TrimCalleds'. -/
def trimCalledsCard : Claim7 := { stood := { row := trimCalledsRow, standIns := [], harness := (true, "89e7dcfbfc4ab41a5dc49fd5ff13440f22c4452392b60a0cd2138679059ed053"), looks := false }, kinds := [], alts := [], laidByText := true, laidKinds := [.data, .data], laidTests := true, laidLooks := .later }
def TrimCalledsCardSaid : Prop := Claim7.holds Tryd.pinned (.plain (OpenSpec.ofChange trimCalledsSpec)) trimCalledsCard

/-- THE TIED CARD OF 'tierlinelaw.TrimPrograms'. -/
def trimProgramsCard : Claim7 := { stood := { row := trimProgramsRow, standIns := [], harness := (true, "89e7dcfbfc4ab41a5dc49fd5ff13440f22c4452392b60a0cd2138679059ed053"), looks := false }, kinds := [], alts := [], laidByText := true, laidKinds := [.data, .data], laidTests := true, laidLooks := .later }
def TrimProgramsCardSaid : Prop := Claim7.holds Tryd.pinned (.plain (OpenSpec.ofChange trimProgramsSpec)) trimProgramsCard

/-- THE TIED CARD OF 'tierlinekeep.TrimAgain'. -/
def trimAgainCard : Claim7 := { stood := { row := trimAgainRow, standIns := [], harness := (true, "89e7dcfbfc4ab41a5dc49fd5ff13440f22c4452392b60a0cd2138679059ed053"), looks := false }, kinds := [], alts := [], laidByText := true, laidKinds := [.data, .data], laidTests := true, laidLooks := .later }
def TrimAgainCardSaid : Prop := Claim7.holds Tryd.pinned (.plain (OpenSpec.ofChange trimAgainSpec)) trimAgainCard

/-- THE TIED CARD OF 'tierlinekeep.TrimSmall'. -/
def trimSmallCard : Claim7 := { stood := { row := trimSmallRow, standIns := [], harness := (true, "89e7dcfbfc4ab41a5dc49fd5ff13440f22c4452392b60a0cd2138679059ed053"), looks := false }, kinds := [], alts := [], laidByText := true, laidKinds := [.data, .data], laidTests := true, laidLooks := .later }
def TrimSmallCardSaid : Prop := Claim7.holds Tryd.pinned (.plain (OpenSpec.ofChange trimSmallSpec)) trimSmallCard

/-- THE TIED CARD OF 'tierlinekeep.TrimRuns'. -/
def trimRunsCard : Claim7 := { stood := { row := trimRunsRow, standIns := [], harness := (true, "89e7dcfbfc4ab41a5dc49fd5ff13440f22c4452392b60a0cd2138679059ed053"), looks := false }, kinds := [], alts := [], laidByText := true, laidKinds := [.data, .data], laidTests := true, laidLooks := .later }
def TrimRunsCardSaid : Prop := Claim7.holds Tryd.pinned (.plain (OpenSpec.ofChange trimRunsSpec)) trimRunsCard

/-- THE SECOND FORM's CARD OF 'tierlinelaw.TrimWheres'. -/
def trimWheresUptoCard : Claim7 := { stood := { row := trimWheresUptoRow, standIns := [], harness := (true, "89e7dcfbfc4ab41a5dc49fd5ff13440f22c4452392b60a0cd2138679059ed053"), looks := false }, kinds := [], alts := [], laidByText := true, laidKinds := [.data, .data], laidTests := true, laidLooks := .later }
def TrimWheresUptoCardSaid : Prop := Claim7.holds Tryd.pinned (.plain (OpenSpec.upto trimWheresSpec)) trimWheresUptoCard

/-- THE SECOND FORM's CARD OF 'tierlinelaw.TrimCalleds'. -/
def trimCalledsUptoCard : Claim7 := { stood := { row := trimCalledsUptoRow, standIns := [], harness := (true, "89e7dcfbfc4ab41a5dc49fd5ff13440f22c4452392b60a0cd2138679059ed053"), looks := false }, kinds := [], alts := [], laidByText := true, laidKinds := [.data, .data], laidTests := true, laidLooks := .later }
def TrimCalledsUptoCardSaid : Prop := Claim7.holds Tryd.pinned (.plain (OpenSpec.upto trimCalledsSpec)) trimCalledsUptoCard

/-- THE SECOND FORM's CARD OF 'tierlinelaw.TrimPrograms'. -/
def trimProgramsUptoCard : Claim7 := { stood := { row := trimProgramsUptoRow, standIns := [], harness := (true, "89e7dcfbfc4ab41a5dc49fd5ff13440f22c4452392b60a0cd2138679059ed053"), looks := false }, kinds := [], alts := [], laidByText := true, laidKinds := [.data, .data], laidTests := true, laidLooks := .later }
def TrimProgramsUptoCardSaid : Prop := Claim7.holds Tryd.pinned (.plain (OpenSpec.upto trimProgramsSpec)) trimProgramsUptoCard

/-- THE SECOND FORM's CARD OF 'tierlinekeep.TrimAgain'. -/
def trimAgainUptoCard : Claim7 := { stood := { row := trimAgainUptoRow, standIns := [], harness := (true, "89e7dcfbfc4ab41a5dc49fd5ff13440f22c4452392b60a0cd2138679059ed053"), looks := false }, kinds := [], alts := [], laidByText := true, laidKinds := [.data, .data], laidTests := true, laidLooks := .later }
def TrimAgainUptoCardSaid : Prop := Claim7.holds Tryd.pinned (.plain (OpenSpec.upto trimAgainSpec)) trimAgainUptoCard

/-- THE SECOND FORM's CARD OF 'tierlinekeep.TrimSmall'. -/
def trimSmallUptoCard : Claim7 := { stood := { row := trimSmallUptoRow, standIns := [], harness := (true, "89e7dcfbfc4ab41a5dc49fd5ff13440f22c4452392b60a0cd2138679059ed053"), looks := false }, kinds := [], alts := [], laidByText := true, laidKinds := [.data, .data], laidTests := true, laidLooks := .later }
def TrimSmallUptoCardSaid : Prop := Claim7.holds Tryd.pinned (.plain (OpenSpec.upto trimSmallSpec)) trimSmallUptoCard

/-- THE SECOND FORM's CARD OF 'tierlinekeep.TrimRuns'. -/
def trimRunsUptoCard : Claim7 := { stood := { row := trimRunsUptoRow, standIns := [], harness := (true, "89e7dcfbfc4ab41a5dc49fd5ff13440f22c4452392b60a0cd2138679059ed053"), looks := false }, kinds := [], alts := [], laidByText := true, laidKinds := [.data, .data], laidTests := true, laidLooks := .later }
def TrimRunsUptoCardSaid : Prop := Claim7.holds Tryd.pinned (.plain (OpenSpec.upto trimRunsSpec)) trimRunsUptoCard
end Rows
end Go.Proofs.YtepnhemlhogmgaaDoor
