/-
  DERIVED. GIVEN WITH THE SEED: THE CARDS: each row of YthnajfekhnocaaaDoorRows.lean that lists a variable, with what it lists TIED to the program's text (the seventh form; the later family's looks); each row that meets fmt, with fmt's text TOLD by the authors' own Lean function (tested against real Go, not proved from fmt's source: count such statements apart). THE CARD IS WHAT COUNTS. Prove the row's statement (the work); the ties are given (YthnajfekhnocaaaDoorTie.lean); close each card by the builder's one call (the guide's Derived/Test/ToyasCard.lean, 'card_holds'). Laid BY PROGRAM, IN A SANDBOX (cutbox-door.mjs). By AI agents, Wed Nov 11 2026. No macro, syntax, notation, axiom, sorry.
-/
import Derived.Test.YthnajfekhnocaaaDoorRows
import GoSem.ClaimSeven
namespace Go.Proofs.YthnajfekhnocaaaDoor
namespace Rows

/-- THE TIED CARD OF 'tierlinelaw.ProofSures'. -/
def proofSuresCard : Claim7 := { stood := { row := proofSuresRow, standIns := [], harness := (true, "c02eae1f3c8c294921b138c24dfdbdddca5e758c6a6bb70662bc3db5eee28f25"), looks := false }, kinds := [], alts := [], laidByText := true, laidKinds := [.data], laidTests := true, laidLooks := .later }
def ProofSuresCardSaid : Prop := Claim7.holds Tryd.pinned (.plain (OpenSpec.ofChange proofSuresSpec)) proofSuresCard

/-- THE TIED CARD OF 'tierlinelaw.ProofChecks'. -/
def proofChecksCard : Claim7 := { stood := { row := proofChecksRow, standIns := [], harness := (true, "c02eae1f3c8c294921b138c24dfdbdddca5e758c6a6bb70662bc3db5eee28f25"), looks := false }, kinds := [], alts := [], laidByText := true, laidKinds := [.data, .data], laidTests := true, laidLooks := .later }
def ProofChecksCardSaid : Prop := Claim7.holds Tryd.pinned (.plain (OpenSpec.ofChange proofChecksSpec)) proofChecksCard

/-- THE TIED CARD OF 'tierlinelaw.ProofReads'. -/
def proofReadsCard : Claim7 := { stood := { row := proofReadsRow, standIns := [], harness := (true, "c02eae1f3c8c294921b138c24dfdbdddca5e758c6a6bb70662bc3db5eee28f25"), looks := false }, kinds := [], alts := [], laidByText := true, laidKinds := [.data, .data], laidTests := true, laidLooks := .later }
def ProofReadsCardSaid : Prop := Claim7.holds Tryd.pinned (.plain (OpenSpec.ofChange proofReadsSpec)) proofReadsCard

/-- THE TIED CARD OF 'tierlinekeep.ReadsTold'. -/
def readsToldCard : Claim7 := { stood := { row := readsToldRow, standIns := [], harness := (true, "c02eae1f3c8c294921b138c24dfdbdddca5e758c6a6bb70662bc3db5eee28f25"), looks := false }, kinds := [], alts := [], laidByText := true, laidKinds := [.data, .data], laidTests := true, laidLooks := .later }
def ReadsToldCardSaid : Prop := Claim7.holds Tryd.pinned (.plain (OpenSpec.ofChange readsToldSpec)) readsToldCard

/-- THE TIED CARD OF 'tierlinekeep.SureFirst'. -/
def sureFirstCard : Claim7 := { stood := { row := sureFirstRow, standIns := [], harness := (true, "c02eae1f3c8c294921b138c24dfdbdddca5e758c6a6bb70662bc3db5eee28f25"), looks := false }, kinds := [], alts := [], laidByText := true, laidKinds := [.data, .data], laidTests := true, laidLooks := .later }
def SureFirstCardSaid : Prop := Claim7.holds Tryd.pinned (.plain (OpenSpec.ofChange sureFirstSpec)) sureFirstCard

/-- THE TIED CARD OF 'tierlinekeep.ProofUnset'. -/
def proofUnsetCard : Claim7 := { stood := { row := proofUnsetRow, standIns := [], harness := (true, "c02eae1f3c8c294921b138c24dfdbdddca5e758c6a6bb70662bc3db5eee28f25"), looks := false }, kinds := [], alts := [], laidByText := true, laidKinds := [.data, .data], laidTests := true, laidLooks := .later }
def ProofUnsetCardSaid : Prop := Claim7.holds Tryd.pinned (.plain (OpenSpec.ofChange proofUnsetSpec)) proofUnsetCard

/-- THE SECOND FORM's CARD OF 'tierlinelaw.ProofSures'. -/
def proofSuresUptoCard : Claim7 := { stood := { row := proofSuresUptoRow, standIns := [], harness := (true, "c02eae1f3c8c294921b138c24dfdbdddca5e758c6a6bb70662bc3db5eee28f25"), looks := false }, kinds := [], alts := [], laidByText := true, laidKinds := [.data], laidTests := true, laidLooks := .later }
def ProofSuresUptoCardSaid : Prop := Claim7.holds Tryd.pinned (.plain (OpenSpec.upto proofSuresSpec)) proofSuresUptoCard

/-- THE SECOND FORM's CARD OF 'tierlinelaw.ProofChecks'. -/
def proofChecksUptoCard : Claim7 := { stood := { row := proofChecksUptoRow, standIns := [], harness := (true, "c02eae1f3c8c294921b138c24dfdbdddca5e758c6a6bb70662bc3db5eee28f25"), looks := false }, kinds := [], alts := [], laidByText := true, laidKinds := [.data, .data], laidTests := true, laidLooks := .later }
def ProofChecksUptoCardSaid : Prop := Claim7.holds Tryd.pinned (.plain (OpenSpec.upto proofChecksSpec)) proofChecksUptoCard

/-- THE SECOND FORM's CARD OF 'tierlinelaw.ProofReads'. -/
def proofReadsUptoCard : Claim7 := { stood := { row := proofReadsUptoRow, standIns := [], harness := (true, "c02eae1f3c8c294921b138c24dfdbdddca5e758c6a6bb70662bc3db5eee28f25"), looks := false }, kinds := [], alts := [], laidByText := true, laidKinds := [.data, .data], laidTests := true, laidLooks := .later }
def ProofReadsUptoCardSaid : Prop := Claim7.holds Tryd.pinned (.plain (OpenSpec.upto proofReadsSpec)) proofReadsUptoCard

/-- THE SECOND FORM's CARD OF 'tierlinekeep.ReadsTold'. -/
def readsToldUptoCard : Claim7 := { stood := { row := readsToldUptoRow, standIns := [], harness := (true, "c02eae1f3c8c294921b138c24dfdbdddca5e758c6a6bb70662bc3db5eee28f25"), looks := false }, kinds := [], alts := [], laidByText := true, laidKinds := [.data, .data], laidTests := true, laidLooks := .later }
def ReadsToldUptoCardSaid : Prop := Claim7.holds Tryd.pinned (.plain (OpenSpec.upto readsToldSpec)) readsToldUptoCard

/-- THE SECOND FORM's CARD OF 'tierlinekeep.SureFirst'. -/
def sureFirstUptoCard : Claim7 := { stood := { row := sureFirstUptoRow, standIns := [], harness := (true, "c02eae1f3c8c294921b138c24dfdbdddca5e758c6a6bb70662bc3db5eee28f25"), looks := false }, kinds := [], alts := [], laidByText := true, laidKinds := [.data, .data], laidTests := true, laidLooks := .later }
def SureFirstUptoCardSaid : Prop := Claim7.holds Tryd.pinned (.plain (OpenSpec.upto sureFirstSpec)) sureFirstUptoCard

/-- THE SECOND FORM's CARD OF 'tierlinekeep.ProofUnset'. -/
def proofUnsetUptoCard : Claim7 := { stood := { row := proofUnsetUptoRow, standIns := [], harness := (true, "c02eae1f3c8c294921b138c24dfdbdddca5e758c6a6bb70662bc3db5eee28f25"), looks := false }, kinds := [], alts := [], laidByText := true, laidKinds := [.data, .data], laidTests := true, laidLooks := .later }
def ProofUnsetUptoCardSaid : Prop := Claim7.holds Tryd.pinned (.plain (OpenSpec.upto proofUnsetSpec)) proofUnsetUptoCard
end Rows
end Go.Proofs.YthnajfekhnocaaaDoor
