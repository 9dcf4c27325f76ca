/-
  DERIVED. GIVEN WITH THE SEED: THE CARDS: each row of YtfbebffncdcjeaaDoorRows.lean that lists a variable, with what it lists TIED to the program's text (the seventh form; the later family's looks); each row that meets fmt, with fmt's text TOLD by the authors' own Lean function (tested against real Go, not proved from fmt's source: count such statements apart). THE CARD IS WHAT COUNTS. Prove the row's statement (the work); the ties are given (YtfbebffncdcjeaaDoorTie.lean); close each card by the builder's one call (the guide's Derived/Test/ToyasCard.lean, 'card_holds'). Laid BY PROGRAM, IN A SANDBOX (cutbox-door.mjs). By AI agents, Wed Nov 11 2026. No macro, syntax, notation, axiom, sorry.
-/
import Derived.Test.YtfbebffncdcjeaaDoorRows
import GoSem.ClaimSeven
namespace Go.Proofs.YtfbebffncdcjeaaDoor
namespace Rows

/-- THE TIED CARD OF 'tierlinelaw.StepBegins'. -/
def stepBeginsCard : Claim7 := { stood := { row := stepBeginsRow, standIns := [], harness := (true, "c313a1d3da3be7cf86e62506efe9298eb97bc1083feb3aff89631884097973b5"), looks := false }, kinds := [], alts := [], laidByText := true, laidKinds := [.data, .data], laidTests := true, laidLooks := .later }
def StepBeginsCardSaid : Prop := Claim7.holds Tryd.pinned (.plain (OpenSpec.ofChange stepBeginsSpec)) stepBeginsCard

/-- THE TIED CARD OF 'tierlinelaw.StepChecks'. -/
def stepChecksCard : Claim7 := { stood := { row := stepChecksRow, standIns := [], harness := (true, "c313a1d3da3be7cf86e62506efe9298eb97bc1083feb3aff89631884097973b5"), looks := false }, kinds := [], alts := [], laidByText := true, laidKinds := [.data, .data], laidTests := true, laidLooks := .later }
def StepChecksCardSaid : Prop := Claim7.holds Tryd.pinned (.plain (OpenSpec.ofChange stepChecksSpec)) stepChecksCard

/-- THE TIED CARD OF 'tierlinelaw.StepNexts'. -/
def stepNextsCard : Claim7 := { stood := { row := stepNextsRow, standIns := [], harness := (true, "c313a1d3da3be7cf86e62506efe9298eb97bc1083feb3aff89631884097973b5"), looks := false }, kinds := [], alts := [], laidByText := true, laidKinds := [.data, .data], laidTests := true, laidLooks := .later }
def StepNextsCardSaid : Prop := Claim7.holds Tryd.pinned (.plain (OpenSpec.ofChange stepNextsSpec)) stepNextsCard

/-- THE TIED CARD OF 'tierlinelaw.StepWalks'. -/
def stepWalksCard : Claim7 := { stood := { row := stepWalksRow, standIns := [], harness := (true, "c313a1d3da3be7cf86e62506efe9298eb97bc1083feb3aff89631884097973b5"), looks := false }, kinds := [], alts := [], laidByText := true, laidKinds := [.data, .data], laidTests := true, laidLooks := .later }
def StepWalksCardSaid : Prop := Claim7.holds Tryd.pinned (.plain (OpenSpec.ofChange stepWalksSpec)) stepWalksCard

/-- THE TIED CARD OF 'tierlinelaw.StepRuns'. -/
def stepRunsCard : Claim7 := { stood := { row := stepRunsRow, standIns := [], harness := (true, "c313a1d3da3be7cf86e62506efe9298eb97bc1083feb3aff89631884097973b5"), looks := false }, kinds := [], alts := [], laidByText := true, laidKinds := [.data, .data], laidTests := true, laidLooks := .later }
def StepRunsCardSaid : Prop := Claim7.holds Tryd.pinned (.plain (OpenSpec.ofChange stepRunsSpec)) stepRunsCard

/-- THE TIED CARD OF 'tierlinekeep.ProofSafe'. -/
def proofSafeCard : Claim7 := { stood := { row := proofSafeRow, standIns := [], harness := (true, "c313a1d3da3be7cf86e62506efe9298eb97bc1083feb3aff89631884097973b5"), looks := false }, kinds := [], alts := [], laidByText := true, laidKinds := [.data, .data], laidTests := true, laidLooks := .later }
def ProofSafeCardSaid : Prop := Claim7.holds Tryd.pinned (.plain (OpenSpec.ofChange proofSafeSpec)) proofSafeCard

/-- THE SECOND FORM's CARD OF 'tierlinelaw.StepBegins'. -/
def stepBeginsUptoCard : Claim7 := { stood := { row := stepBeginsUptoRow, standIns := [], harness := (true, "c313a1d3da3be7cf86e62506efe9298eb97bc1083feb3aff89631884097973b5"), looks := false }, kinds := [], alts := [], laidByText := true, laidKinds := [.data, .data], laidTests := true, laidLooks := .later }
def StepBeginsUptoCardSaid : Prop := Claim7.holds Tryd.pinned (.plain (OpenSpec.upto stepBeginsSpec)) stepBeginsUptoCard

/-- THE SECOND FORM's CARD OF 'tierlinelaw.StepChecks'. -/
def stepChecksUptoCard : Claim7 := { stood := { row := stepChecksUptoRow, standIns := [], harness := (true, "c313a1d3da3be7cf86e62506efe9298eb97bc1083feb3aff89631884097973b5"), looks := false }, kinds := [], alts := [], laidByText := true, laidKinds := [.data, .data], laidTests := true, laidLooks := .later }
def StepChecksUptoCardSaid : Prop := Claim7.holds Tryd.pinned (.plain (OpenSpec.upto stepChecksSpec)) stepChecksUptoCard

/-- THE SECOND FORM's CARD OF 'tierlinelaw.StepNexts'. -/
def stepNextsUptoCard : Claim7 := { stood := { row := stepNextsUptoRow, standIns := [], harness := (true, "c313a1d3da3be7cf86e62506efe9298eb97bc1083feb3aff89631884097973b5"), looks := false }, kinds := [], alts := [], laidByText := true, laidKinds := [.data, .data], laidTests := true, laidLooks := .later }
def StepNextsUptoCardSaid : Prop := Claim7.holds Tryd.pinned (.plain (OpenSpec.upto stepNextsSpec)) stepNextsUptoCard

/-- THE SECOND FORM's CARD OF 'tierlinelaw.StepWalks'. -/
def stepWalksUptoCard : Claim7 := { stood := { row := stepWalksUptoRow, standIns := [], harness := (true, "c313a1d3da3be7cf86e62506efe9298eb97bc1083feb3aff89631884097973b5"), looks := false }, kinds := [], alts := [], laidByText := true, laidKinds := [.data, .data], laidTests := true, laidLooks := .later }
def StepWalksUptoCardSaid : Prop := Claim7.holds Tryd.pinned (.plain (OpenSpec.upto stepWalksSpec)) stepWalksUptoCard

/-- THE SECOND FORM's CARD OF 'tierlinelaw.StepRuns'. -/
def stepRunsUptoCard : Claim7 := { stood := { row := stepRunsUptoRow, standIns := [], harness := (true, "c313a1d3da3be7cf86e62506efe9298eb97bc1083feb3aff89631884097973b5"), looks := false }, kinds := [], alts := [], laidByText := true, laidKinds := [.data, .data], laidTests := true, laidLooks := .later }
def StepRunsUptoCardSaid : Prop := Claim7.holds Tryd.pinned (.plain (OpenSpec.upto stepRunsSpec)) stepRunsUptoCard

/-- THE SECOND FORM's CARD OF 'tierlinekeep.ProofSafe'. -/
def proofSafeUptoCard : Claim7 := { stood := { row := proofSafeUptoRow, standIns := [], harness := (true, "c313a1d3da3be7cf86e62506efe9298eb97bc1083feb3aff89631884097973b5"), looks := false }, kinds := [], alts := [], laidByText := true, laidKinds := [.data, .data], laidTests := true, laidLooks := .later }
def ProofSafeUptoCardSaid : Prop := Claim7.holds Tryd.pinned (.plain (OpenSpec.upto proofSafeSpec)) proofSafeUptoCard
end Rows
end Go.Proofs.YtfbebffncdcjeaaDoor
