/-
  DERIVED. GIVEN WITH THE SEED: THE CARDS: each row of YtgdmdlkhnokieaaDoorRows.lean that lists a variable, with what it lists TIED to the program's text (the seventh form; the later family's looks); each row that meets fmt, with fmt's text TOLD by the authors' own Lean function (tested against real Go, not proved from fmt's source: count such statements apart). THE CARD IS WHAT COUNTS. Prove the row's statement (the work); the ties are given (YtgdmdlkhnokieaaDoorTie.lean); close each card by the builder's one call (the guide's Derived/Test/ToyasCard.lean, 'card_holds'). Laid BY PROGRAM, IN A SANDBOX (cutbox-door.mjs). By AI agents, Wed Nov 11 2026. No macro, syntax, notation, axiom, sorry.
-/
import Derived.Test.YtgdmdlkhnokieaaDoorRows
import GoSem.ClaimSeven
namespace Go.Proofs.YtgdmdlkhnokieaaDoor
namespace Rows

/-- THE TIED CARD OF 'tierlinekeep.FarWalks'. -/
def farWalksCard : Claim7 := { stood := { row := farWalksRow, standIns := [], harness := (true, "aa54655e36b7bd21406d89b4c65a73da1411a9b8d5cef84be51a2bb4abcf5aae"), looks := false }, kinds := [], alts := [], laidByText := true, laidKinds := [.data, .data], laidTests := true, laidLooks := .later }
def FarWalksCardSaid : Prop := Claim7.holds Tryd.pinned (.plain (OpenSpec.ofChange farWalksSpec)) farWalksCard

/-- THE TIED CARD OF 'tierlinekeep.EmitParts'. -/
def emitPartsCard : Claim7 := { stood := { row := emitPartsRow, standIns := [], harness := (true, "aa54655e36b7bd21406d89b4c65a73da1411a9b8d5cef84be51a2bb4abcf5aae"), looks := false }, kinds := [], alts := [], laidByText := true, laidKinds := [.data, .data], laidTests := true, laidLooks := .later }
def EmitPartsCardSaid : Prop := Claim7.holds Tryd.pinned (.plain (OpenSpec.ofChange emitPartsSpec)) emitPartsCard

/-- THE SECOND FORM's CARD OF 'tierlinekeep.FarWalks'. -/
def farWalksUptoCard : Claim7 := { stood := { row := farWalksUptoRow, standIns := [], harness := (true, "aa54655e36b7bd21406d89b4c65a73da1411a9b8d5cef84be51a2bb4abcf5aae"), looks := false }, kinds := [], alts := [], laidByText := true, laidKinds := [.data, .data], laidTests := true, laidLooks := .later }
def FarWalksUptoCardSaid : Prop := Claim7.holds Tryd.pinned (.plain (OpenSpec.upto farWalksSpec)) farWalksUptoCard

/-- THE SECOND FORM's CARD OF 'tierlinekeep.EmitParts'. -/
def emitPartsUptoCard : Claim7 := { stood := { row := emitPartsUptoRow, standIns := [], harness := (true, "aa54655e36b7bd21406d89b4c65a73da1411a9b8d5cef84be51a2bb4abcf5aae"), looks := false }, kinds := [], alts := [], laidByText := true, laidKinds := [.data, .data], laidTests := true, laidLooks := .later }
def EmitPartsUptoCardSaid : Prop := Claim7.holds Tryd.pinned (.plain (OpenSpec.upto emitPartsSpec)) emitPartsUptoCard
end Rows
end Go.Proofs.YtgdmdlkhnokieaaDoor
