/-
  DERIVED. GIVEN WITH THE SEED: THE CARDS: each row of YtfacdhkadnmnlaaDoorRows.lean that lists a variable, with what it lists TIED to the program's text (the seventh form; the later family's looks); each row that meets fmt, with fmt's text TOLD by the authors' own Lean function (tested against real Go, not proved from fmt's source: count such statements apart). THE CARD IS WHAT COUNTS. Prove the row's statement (the work); the ties are given (YtfacdhkadnmnlaaDoorTie.lean); close each card by the builder's one call (the guide's Derived/Test/ToyasCard.lean, 'card_holds'). Laid BY PROGRAM, IN A SANDBOX (cutbox-door.mjs). By AI agents, Wed Nov 11 2026. No macro, syntax, notation, axiom, sorry.
-/
import Derived.Test.YtfacdhkadnmnlaaDoorRows
import GoSem.ClaimSeven
namespace Go.Proofs.YtfacdhkadnmnlaaDoor
namespace Rows

/-- THE TIED CARD OF 'tierlinelaw.SheetReads'. -/
def sheetReadsCard : Claim7 := { stood := { row := sheetReadsRow, standIns := [], harness := (true, "e6fb5bfbee820020fda378c211bd6d276f447034e3be1a5a9b48611e96dccd71"), looks := true }, kinds := [], alts := [], laidByText := true, laidKinds := [.data, .data, .data, .data, .sentinel, .sentinel, .data, .data, .pinned], laidTests := true, laidLooks := .later }
def SheetReadsCardSaid : Prop := Claim7.holds Tryd.pinned (.plain (OpenSpec.ofChange sheetReadsSpec)) sheetReadsCard

/-- THE TIED CARD OF 'tierlinekeep.SheetBack'. -/
def sheetBackCard : Claim7 := { stood := { row := sheetBackRow, standIns := [], harness := (true, "e6fb5bfbee820020fda378c211bd6d276f447034e3be1a5a9b48611e96dccd71"), looks := true }, kinds := [], alts := [], laidByText := true, laidKinds := [.data, .data, .data, .data, .sentinel, .sentinel, .data, .data, .pinned], laidTests := true, laidLooks := .later }
def SheetBackCardSaid : Prop := Claim7.holds Tryd.pinned (.plain (OpenSpec.ofChange sheetBackSpec)) sheetBackCard

/-- THE TIED CARD OF 'tierlinekeep.SheetTorn'. -/
def sheetTornCard : Claim7 := { stood := { row := sheetTornRow, standIns := [], harness := (true, "e6fb5bfbee820020fda378c211bd6d276f447034e3be1a5a9b48611e96dccd71"), looks := true }, kinds := [], alts := [], laidByText := true, laidKinds := [.data, .data, .data, .data, .sentinel, .sentinel, .data, .data, .pinned], laidTests := true, laidLooks := .later }
def SheetTornCardSaid : Prop := Claim7.holds Tryd.pinned (.plain (OpenSpec.ofChange sheetTornSpec)) sheetTornCard

/-- THE TIED CARD OF 'tierlinekeep.SheetFixed'. -/
def sheetFixedCard : Claim7 := { stood := { row := sheetFixedRow, standIns := [], harness := (true, "e6fb5bfbee820020fda378c211bd6d276f447034e3be1a5a9b48611e96dccd71"), looks := true }, kinds := [], alts := [], laidByText := true, laidKinds := [.data, .data, .data, .data, .sentinel, .sentinel, .data, .data, .pinned], laidTests := true, laidLooks := .later }
def SheetFixedCardSaid : Prop := Claim7.holds Tryd.pinned (.plain (OpenSpec.ofChange sheetFixedSpec)) sheetFixedCard

/-- THE TIED CARD OF 'tierlinekeep.SheetBad'. -/
def sheetBadCard : Claim7 := { stood := { row := sheetBadRow, standIns := [], harness := (true, "e6fb5bfbee820020fda378c211bd6d276f447034e3be1a5a9b48611e96dccd71"), looks := true }, kinds := [], alts := [], laidByText := true, laidKinds := [.data, .data, .data, .data, .sentinel, .sentinel, .data, .data, .pinned], laidTests := true, laidLooks := .later }
def SheetBadCardSaid : Prop := Claim7.holds Tryd.pinned (.plain (OpenSpec.ofChange sheetBadSpec)) sheetBadCard

/-- THE SECOND FORM's CARD OF 'tierlinelaw.SheetReads'. -/
def sheetReadsUptoCard : Claim7 := { stood := { row := sheetReadsUptoRow, standIns := [], harness := (true, "e6fb5bfbee820020fda378c211bd6d276f447034e3be1a5a9b48611e96dccd71"), looks := true }, kinds := [], alts := [], laidByText := true, laidKinds := [.data, .data, .data, .data, .sentinel, .sentinel, .data, .data, .pinned], laidTests := true, laidLooks := .later }
def SheetReadsUptoCardSaid : Prop := Claim7.holds Tryd.pinned (.plain (OpenSpec.upto sheetReadsSpec)) sheetReadsUptoCard

/-- THE SECOND FORM's CARD OF 'tierlinekeep.SheetBack'. -/
def sheetBackUptoCard : Claim7 := { stood := { row := sheetBackUptoRow, standIns := [], harness := (true, "e6fb5bfbee820020fda378c211bd6d276f447034e3be1a5a9b48611e96dccd71"), looks := true }, kinds := [], alts := [], laidByText := true, laidKinds := [.data, .data, .data, .data, .sentinel, .sentinel, .data, .data, .pinned], laidTests := true, laidLooks := .later }
def SheetBackUptoCardSaid : Prop := Claim7.holds Tryd.pinned (.plain (OpenSpec.upto sheetBackSpec)) sheetBackUptoCard

/-- THE SECOND FORM's CARD OF 'tierlinekeep.SheetTorn'. -/
def sheetTornUptoCard : Claim7 := { stood := { row := sheetTornUptoRow, standIns := [], harness := (true, "e6fb5bfbee820020fda378c211bd6d276f447034e3be1a5a9b48611e96dccd71"), looks := true }, kinds := [], alts := [], laidByText := true, laidKinds := [.data, .data, .data, .data, .sentinel, .sentinel, .data, .data, .pinned], laidTests := true, laidLooks := .later }
def SheetTornUptoCardSaid : Prop := Claim7.holds Tryd.pinned (.plain (OpenSpec.upto sheetTornSpec)) sheetTornUptoCard

/-- THE SECOND FORM's CARD OF 'tierlinekeep.SheetFixed'. -/
def sheetFixedUptoCard : Claim7 := { stood := { row := sheetFixedUptoRow, standIns := [], harness := (true, "e6fb5bfbee820020fda378c211bd6d276f447034e3be1a5a9b48611e96dccd71"), looks := true }, kinds := [], alts := [], laidByText := true, laidKinds := [.data, .data, .data, .data, .sentinel, .sentinel, .data, .data, .pinned], laidTests := true, laidLooks := .later }
def SheetFixedUptoCardSaid : Prop := Claim7.holds Tryd.pinned (.plain (OpenSpec.upto sheetFixedSpec)) sheetFixedUptoCard

/-- THE SECOND FORM's CARD OF 'tierlinekeep.SheetBad'. -/
def sheetBadUptoCard : Claim7 := { stood := { row := sheetBadUptoRow, standIns := [], harness := (true, "e6fb5bfbee820020fda378c211bd6d276f447034e3be1a5a9b48611e96dccd71"), looks := true }, kinds := [], alts := [], laidByText := true, laidKinds := [.data, .data, .data, .data, .sentinel, .sentinel, .data, .data, .pinned], laidTests := true, laidLooks := .later }
def SheetBadUptoCardSaid : Prop := Claim7.holds Tryd.pinned (.plain (OpenSpec.upto sheetBadSpec)) sheetBadUptoCard
end Rows
end Go.Proofs.YtfacdhkadnmnlaaDoor
