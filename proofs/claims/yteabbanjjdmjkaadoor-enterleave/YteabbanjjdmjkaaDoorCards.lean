/-
  DERIVED. GIVEN WITH THE SEED: THE CARDS: each row of YteabbanjjdmjkaaDoorRows.lean that lists a variable, with what it lists TIED to the program's text (the seventh form; the later family's looks); each row that meets fmt, with fmt's text TOLD by the authors' own Lean function (tested against real Go, not proved from fmt's source: count such statements apart). THE CARD IS WHAT COUNTS. Prove the row's statement (the work); the ties are given (YteabbanjjdmjkaaDoorTie.lean); close each card by the builder's one call (the guide's Derived/Test/ToyasCard.lean, 'card_holds'). Laid BY PROGRAM, IN A SANDBOX (cutbox-door.mjs). By AI agents, Wed Nov 11 2026. No macro, syntax, notation, axiom, sorry.
-/
import Derived.Test.YteabbanjjdmjkaaDoorRows
import GoSem.ClaimSeven
namespace Go.Proofs.YteabbanjjdmjkaaDoor
namespace Rows

/-- THE TIED CARD OF 'tierlinelaw.EmitLeaves'. -/
def emitLeavesCard : Claim7 := { stood := { row := emitLeavesRow, standIns := [], harness := (true, "392ebfeab788b1cdb6490c7f3328abbc00fd815366008efe44187af0b2c4e87d"), looks := false }, kinds := [], alts := [], laidByText := true, laidKinds := [.data, .data], laidTests := true, laidLooks := .later }
def EmitLeavesCardSaid : Prop := Claim7.holds Tryd.pinned (.plain (OpenSpec.ofChange emitLeavesSpec)) emitLeavesCard

/-- THE TIED CARD OF 'tierlinekeep.EnterLeave'. -/
def enterLeaveCard : Claim7 := { stood := { row := enterLeaveRow, standIns := [], harness := (true, "392ebfeab788b1cdb6490c7f3328abbc00fd815366008efe44187af0b2c4e87d"), looks := false }, kinds := [], alts := [], laidByText := true, laidKinds := [.data, .data], laidTests := true, laidLooks := .later }
def EnterLeaveCardSaid : Prop := Claim7.holds Tryd.pinned (.plain (OpenSpec.ofChange enterLeaveSpec)) enterLeaveCard

/-- THE TIED CARD OF 'tierlinekeep.FarWalks'. -/
def farWalksCard : Claim7 := { stood := { row := farWalksRow, standIns := [], harness := (true, "392ebfeab788b1cdb6490c7f3328abbc00fd815366008efe44187af0b2c4e87d"), looks := false }, kinds := [], alts := [], laidByText := true, laidKinds := [.data, .data], laidTests := true, laidLooks := .later }
def FarWalksCardSaid : Prop := Claim7.holds Tryd.pinned (.plain (OpenSpec.ofChange farWalksSpec)) farWalksCard

/-- THE TIED CARD OF 'tierlinekeep.EmitParts'. -/
def emitPartsCard : Claim7 := { stood := { row := emitPartsRow, standIns := [], harness := (true, "392ebfeab788b1cdb6490c7f3328abbc00fd815366008efe44187af0b2c4e87d"), looks := false }, kinds := [], alts := [], laidByText := true, laidKinds := [.data, .data], laidTests := true, laidLooks := .later }
def EmitPartsCardSaid : Prop := Claim7.holds Tryd.pinned (.plain (OpenSpec.ofChange emitPartsSpec)) emitPartsCard

/-- THE TIED CARD OF 'tierlinelaw.TiersTidies'. -/
def tiersTidiesCard : Claim7 := { stood := { row := tiersTidiesRow, standIns := [], harness := (true, "392ebfeab788b1cdb6490c7f3328abbc00fd815366008efe44187af0b2c4e87d"), looks := false }, kinds := [], alts := [], laidByText := true, laidKinds := [.data, .data], laidTests := true, laidLooks := .later }
def TiersTidiesCardSaid : Prop := Claim7.holds Tryd.pinned (.plain (OpenSpec.ofChange tiersTidiesSpec)) tiersTidiesCard

/-- THE TIED CARD OF 'tierlinetop.TopTidy'. -/
def topTidyCard : Claim7 := { stood := { row := topTidyRow, standIns := [], harness := (true, "392ebfeab788b1cdb6490c7f3328abbc00fd815366008efe44187af0b2c4e87d"), looks := false }, kinds := [], alts := [], laidByText := true, laidKinds := [.data, .data], laidTests := true, laidLooks := .later }
def TopTidyCardSaid : Prop := Claim7.holds Tryd.pinned (.plain (OpenSpec.ofChange topTidySpec)) topTidyCard

/-- THE TIED CARD OF 'tierlinetop.TopNames'. -/
def topNamesCard : Claim7 := { stood := { row := topNamesRow, standIns := [], harness := (true, "392ebfeab788b1cdb6490c7f3328abbc00fd815366008efe44187af0b2c4e87d"), looks := false }, kinds := [], alts := [], laidByText := true, laidKinds := [.data, .data], laidTests := true, laidLooks := .later }
def TopNamesCardSaid : Prop := Claim7.holds Tryd.pinned (.plain (OpenSpec.ofChange topNamesSpec)) topNamesCard

/-- THE SECOND FORM's CARD OF 'tierlinelaw.EmitLeaves'. -/
def emitLeavesUptoCard : Claim7 := { stood := { row := emitLeavesUptoRow, standIns := [], harness := (true, "392ebfeab788b1cdb6490c7f3328abbc00fd815366008efe44187af0b2c4e87d"), looks := false }, kinds := [], alts := [], laidByText := true, laidKinds := [.data, .data], laidTests := true, laidLooks := .later }
def EmitLeavesUptoCardSaid : Prop := Claim7.holds Tryd.pinned (.plain (OpenSpec.upto emitLeavesSpec)) emitLeavesUptoCard

/-- THE SECOND FORM's CARD OF 'tierlinekeep.EnterLeave'. -/
def enterLeaveUptoCard : Claim7 := { stood := { row := enterLeaveUptoRow, standIns := [], harness := (true, "392ebfeab788b1cdb6490c7f3328abbc00fd815366008efe44187af0b2c4e87d"), looks := false }, kinds := [], alts := [], laidByText := true, laidKinds := [.data, .data], laidTests := true, laidLooks := .later }
def EnterLeaveUptoCardSaid : Prop := Claim7.holds Tryd.pinned (.plain (OpenSpec.upto enterLeaveSpec)) enterLeaveUptoCard

/-- THE SECOND FORM's CARD OF 'tierlinekeep.FarWalks'. -/
def farWalksUptoCard : Claim7 := { stood := { row := farWalksUptoRow, standIns := [], harness := (true, "392ebfeab788b1cdb6490c7f3328abbc00fd815366008efe44187af0b2c4e87d"), looks := false }, kinds := [], alts := [], laidByText := true, laidKinds := [.data, .data], laidTests := true, laidLooks := .later }
def FarWalksUptoCardSaid : Prop := Claim7.holds Tryd.pinned (.plain (OpenSpec.upto farWalksSpec)) farWalksUptoCard

/-- THE SECOND FORM's CARD OF 'tierlinekeep.EmitParts'. -/
def emitPartsUptoCard : Claim7 := { stood := { row := emitPartsUptoRow, standIns := [], harness := (true, "392ebfeab788b1cdb6490c7f3328abbc00fd815366008efe44187af0b2c4e87d"), looks := false }, kinds := [], alts := [], laidByText := true, laidKinds := [.data, .data], laidTests := true, laidLooks := .later }
def EmitPartsUptoCardSaid : Prop := Claim7.holds Tryd.pinned (.plain (OpenSpec.upto emitPartsSpec)) emitPartsUptoCard

/-- THE SECOND FORM's CARD OF 'tierlinelaw.TiersTidies'. -/
def tiersTidiesUptoCard : Claim7 := { stood := { row := tiersTidiesUptoRow, standIns := [], harness := (true, "392ebfeab788b1cdb6490c7f3328abbc00fd815366008efe44187af0b2c4e87d"), looks := false }, kinds := [], alts := [], laidByText := true, laidKinds := [.data, .data], laidTests := true, laidLooks := .later }
def TiersTidiesUptoCardSaid : Prop := Claim7.holds Tryd.pinned (.plain (OpenSpec.upto tiersTidiesSpec)) tiersTidiesUptoCard

/-- THE SECOND FORM's CARD OF 'tierlinetop.TopTidy'. -/
def topTidyUptoCard : Claim7 := { stood := { row := topTidyUptoRow, standIns := [], harness := (true, "392ebfeab788b1cdb6490c7f3328abbc00fd815366008efe44187af0b2c4e87d"), looks := false }, kinds := [], alts := [], laidByText := true, laidKinds := [.data, .data], laidTests := true, laidLooks := .later }
def TopTidyUptoCardSaid : Prop := Claim7.holds Tryd.pinned (.plain (OpenSpec.upto topTidySpec)) topTidyUptoCard

/-- THE SECOND FORM's CARD OF 'tierlinetop.TopNames'. -/
def topNamesUptoCard : Claim7 := { stood := { row := topNamesUptoRow, standIns := [], harness := (true, "392ebfeab788b1cdb6490c7f3328abbc00fd815366008efe44187af0b2c4e87d"), looks := false }, kinds := [], alts := [], laidByText := true, laidKinds := [.data, .data], laidTests := true, laidLooks := .later }
def TopNamesUptoCardSaid : Prop := Claim7.holds Tryd.pinned (.plain (OpenSpec.upto topNamesSpec)) topNamesUptoCard
end Rows
end Go.Proofs.YteabbanjjdmjkaaDoor
