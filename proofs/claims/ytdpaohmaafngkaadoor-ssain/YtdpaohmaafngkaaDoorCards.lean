/-
  DERIVED. GIVEN WITH THE SEED: THE CARDS: each row of YtdpaohmaafngkaaDoorRows.lean that lists a variable, with what it lists TIED to the program's text (the seventh form; the later family's looks); each row that meets fmt, with fmt's text TOLD by the authors' own Lean function (tested against real Go, not proved from fmt's source: count such statements apart). THE CARD IS WHAT COUNTS. Prove the row's statement (the work); the ties are given (YtdpaohmaafngkaaDoorTie.lean); close each card by the builder's one call (the guide's Derived/Test/ToyasCard.lean, 'card_holds'). Laid BY PROGRAM, IN A SANDBOX (cutbox-door.mjs). By AI agents, Wed Nov 11 2026. No macro, syntax, notation, axiom, sorry.
-/
import Derived.Test.YtdpaohmaafngkaaDoorRows
import GoSem.ClaimSeven
namespace Go.Proofs.YtdpaohmaafngkaaDoor
namespace Rows

/-- THE TIED CARD OF 'tierlinekeep.SsaLine'. -/
def ssaLineCard : Claim7 := { stood := { row := ssaLineRow, standIns := [], harness := (true, "2ef1721f58de56a19b0a3e42d90bb042f852ced0ce773ff04b9d9405013fc7a6"), looks := false }, kinds := [], alts := [], laidByText := true, laidKinds := [.data, .data], laidTests := true, laidLooks := .later }
def SsaLineCardSaid : Prop := Claim7.holds Tryd.pinned (.plain (OpenSpec.ofChange ssaLineSpec)) ssaLineCard

/-- THE TIED CARD OF 'tierlinekeep.SsaOnce'. -/
def ssaOnceCard : Claim7 := { stood := { row := ssaOnceRow, standIns := [], harness := (true, "2ef1721f58de56a19b0a3e42d90bb042f852ced0ce773ff04b9d9405013fc7a6"), looks := false }, kinds := [], alts := [], laidByText := true, laidKinds := [.data, .data], laidTests := true, laidLooks := .later }
def SsaOnceCardSaid : Prop := Claim7.holds Tryd.pinned (.plain (OpenSpec.ofChange ssaOnceSpec)) ssaOnceCard

/-- THE TIED CARD OF 'tierlinekeep.SsaSays'. -/
def ssaSaysCard : Claim7 := { stood := { row := ssaSaysRow, standIns := [], harness := (true, "2ef1721f58de56a19b0a3e42d90bb042f852ced0ce773ff04b9d9405013fc7a6"), looks := false }, kinds := [], alts := [], laidByText := true, laidKinds := [.data, .data], laidTests := true, laidLooks := .later }
def SsaSaysCardSaid : Prop := Claim7.holds Tryd.pinned (.plain (OpenSpec.ofChange ssaSaysSpec)) ssaSaysCard

/-- THE TIED CARD OF 'tierlinekeep.SsaIn'. -/
def ssaInCard : Claim7 := { stood := { row := ssaInRow, standIns := [], harness := (true, "2ef1721f58de56a19b0a3e42d90bb042f852ced0ce773ff04b9d9405013fc7a6"), looks := false }, kinds := [], alts := [], laidByText := true, laidKinds := [.data, .data], laidTests := true, laidLooks := .later }
def SsaInCardSaid : Prop := Claim7.holds Tryd.pinned (.plain (OpenSpec.ofChange ssaInSpec)) ssaInCard

/-- THE TIED CARD OF 'tierlinekeep.SsaPhis'. -/
def ssaPhisCard : Claim7 := { stood := { row := ssaPhisRow, standIns := [], harness := (true, "2ef1721f58de56a19b0a3e42d90bb042f852ced0ce773ff04b9d9405013fc7a6"), looks := false }, kinds := [], alts := [], laidByText := true, laidKinds := [.data, .data], laidTests := true, laidLooks := .later }
def SsaPhisCardSaid : Prop := Claim7.holds Tryd.pinned (.plain (OpenSpec.ofChange ssaPhisSpec)) ssaPhisCard

/-- THE TIED CARD OF 'tierlinekeep.SsaReads'. -/
def ssaReadsCard : Claim7 := { stood := { row := ssaReadsRow, standIns := [], harness := (true, "2ef1721f58de56a19b0a3e42d90bb042f852ced0ce773ff04b9d9405013fc7a6"), looks := false }, kinds := [], alts := [], laidByText := true, laidKinds := [.data, .data], laidTests := true, laidLooks := .later }
def SsaReadsCardSaid : Prop := Claim7.holds Tryd.pinned (.plain (OpenSpec.ofChange ssaReadsSpec)) ssaReadsCard

/-- THE SECOND FORM's CARD OF 'tierlinekeep.SsaLine'. -/
def ssaLineUptoCard : Claim7 := { stood := { row := ssaLineUptoRow, standIns := [], harness := (true, "2ef1721f58de56a19b0a3e42d90bb042f852ced0ce773ff04b9d9405013fc7a6"), looks := false }, kinds := [], alts := [], laidByText := true, laidKinds := [.data, .data], laidTests := true, laidLooks := .later }
def SsaLineUptoCardSaid : Prop := Claim7.holds Tryd.pinned (.plain (OpenSpec.upto ssaLineSpec)) ssaLineUptoCard

/-- THE SECOND FORM's CARD OF 'tierlinekeep.SsaOnce'. -/
def ssaOnceUptoCard : Claim7 := { stood := { row := ssaOnceUptoRow, standIns := [], harness := (true, "2ef1721f58de56a19b0a3e42d90bb042f852ced0ce773ff04b9d9405013fc7a6"), looks := false }, kinds := [], alts := [], laidByText := true, laidKinds := [.data, .data], laidTests := true, laidLooks := .later }
def SsaOnceUptoCardSaid : Prop := Claim7.holds Tryd.pinned (.plain (OpenSpec.upto ssaOnceSpec)) ssaOnceUptoCard

/-- THE SECOND FORM's CARD OF 'tierlinekeep.SsaSays'. -/
def ssaSaysUptoCard : Claim7 := { stood := { row := ssaSaysUptoRow, standIns := [], harness := (true, "2ef1721f58de56a19b0a3e42d90bb042f852ced0ce773ff04b9d9405013fc7a6"), looks := false }, kinds := [], alts := [], laidByText := true, laidKinds := [.data, .data], laidTests := true, laidLooks := .later }
def SsaSaysUptoCardSaid : Prop := Claim7.holds Tryd.pinned (.plain (OpenSpec.upto ssaSaysSpec)) ssaSaysUptoCard

/-- THE SECOND FORM's CARD OF 'tierlinekeep.SsaIn'. -/
def ssaInUptoCard : Claim7 := { stood := { row := ssaInUptoRow, standIns := [], harness := (true, "2ef1721f58de56a19b0a3e42d90bb042f852ced0ce773ff04b9d9405013fc7a6"), looks := false }, kinds := [], alts := [], laidByText := true, laidKinds := [.data, .data], laidTests := true, laidLooks := .later }
def SsaInUptoCardSaid : Prop := Claim7.holds Tryd.pinned (.plain (OpenSpec.upto ssaInSpec)) ssaInUptoCard

/-- THE SECOND FORM's CARD OF 'tierlinekeep.SsaPhis'. -/
def ssaPhisUptoCard : Claim7 := { stood := { row := ssaPhisUptoRow, standIns := [], harness := (true, "2ef1721f58de56a19b0a3e42d90bb042f852ced0ce773ff04b9d9405013fc7a6"), looks := false }, kinds := [], alts := [], laidByText := true, laidKinds := [.data, .data], laidTests := true, laidLooks := .later }
def SsaPhisUptoCardSaid : Prop := Claim7.holds Tryd.pinned (.plain (OpenSpec.upto ssaPhisSpec)) ssaPhisUptoCard

/-- THE SECOND FORM's CARD OF 'tierlinekeep.SsaReads'. -/
def ssaReadsUptoCard : Claim7 := { stood := { row := ssaReadsUptoRow, standIns := [], harness := (true, "2ef1721f58de56a19b0a3e42d90bb042f852ced0ce773ff04b9d9405013fc7a6"), looks := false }, kinds := [], alts := [], laidByText := true, laidKinds := [.data, .data], laidTests := true, laidLooks := .later }
def SsaReadsUptoCardSaid : Prop := Claim7.holds Tryd.pinned (.plain (OpenSpec.upto ssaReadsSpec)) ssaReadsUptoCard
end Rows
end Go.Proofs.YtdpaohmaafngkaaDoor
