/-
  DERIVED. GIVEN WITH THE SEED: THE CARDS: each row of YtldbmdgpdolaaaaDoorRows.lean that lists a variable, with what it lists TIED to the program's text (the seventh form; the later family's looks); each row that meets fmt, with fmt's text TOLD by the authors' own Lean function (tested against real Go, not proved from fmt's source: count such statements apart). THE CARD IS WHAT COUNTS. Prove the row's statement (the work); the ties are given (YtldbmdgpdolaaaaDoorTie.lean); close each card by the builder's one call (the guide's Derived/Test/ToyasCard.lean, 'card_holds'). Laid BY PROGRAM, IN A SANDBOX (cutbox-door.mjs). By AI agents, Wed Nov 11 2026. No macro, syntax, notation, axiom, sorry.
-/
import Derived.Test.YtldbmdgpdolaaaaDoorRows
import GoSem.ClaimSeven
namespace Go.Proofs.YtldbmdgpdolaaaaDoor
namespace Rows

/-- THE TIED CARD OF 'tierlinekeep.ClashEven'. -/
def clashEvenCard : Claim7 := { stood := { row := clashEvenRow, standIns := [], harness := (true, "dacbc350d053b8e5dbe50dae714b82b0cc2960b4ca01e01546a37ece403c1a01"), looks := false }, kinds := [], alts := [], laidByText := true, laidKinds := [.data, .data], laidTests := true, laidLooks := .later }
def ClashEvenCardSaid : Prop := Claim7.holds Tryd.pinned (.plain (OpenSpec.ofChange clashEvenSpec)) clashEvenCard

/-- THE TIED CARD OF 'tierlinekeep.AssignLine'. -/
def assignLineCard : Claim7 := { stood := { row := assignLineRow, standIns := [], harness := (true, "dacbc350d053b8e5dbe50dae714b82b0cc2960b4ca01e01546a37ece403c1a01"), looks := false }, kinds := [], alts := [], laidByText := true, laidKinds := [.data, .data], laidTests := true, laidLooks := .later }
def AssignLineCardSaid : Prop := Claim7.holds Tryd.pinned (.plain (OpenSpec.ofChange assignLineSpec)) assignLineCard

/-- THE SECOND FORM's CARD OF 'tierlinekeep.ClashEven'. -/
def clashEvenUptoCard : Claim7 := { stood := { row := clashEvenUptoRow, standIns := [], harness := (true, "dacbc350d053b8e5dbe50dae714b82b0cc2960b4ca01e01546a37ece403c1a01"), looks := false }, kinds := [], alts := [], laidByText := true, laidKinds := [.data, .data], laidTests := true, laidLooks := .later }
def ClashEvenUptoCardSaid : Prop := Claim7.holds Tryd.pinned (.plain (OpenSpec.upto clashEvenSpec)) clashEvenUptoCard

/-- THE SECOND FORM's CARD OF 'tierlinekeep.AssignLine'. -/
def assignLineUptoCard : Claim7 := { stood := { row := assignLineUptoRow, standIns := [], harness := (true, "dacbc350d053b8e5dbe50dae714b82b0cc2960b4ca01e01546a37ece403c1a01"), looks := false }, kinds := [], alts := [], laidByText := true, laidKinds := [.data, .data], laidTests := true, laidLooks := .later }
def AssignLineUptoCardSaid : Prop := Claim7.holds Tryd.pinned (.plain (OpenSpec.upto assignLineSpec)) assignLineUptoCard
end Rows
end Go.Proofs.YtldbmdgpdolaaaaDoor
