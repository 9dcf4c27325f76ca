/-
  DERIVED. GIVEN WITH THE SEED: THE CARDS: each row of YtpkgibdbmmhgdaaDoorRows.lean that lists a variable, with what it lists TIED to the program's text (the seventh form; the later family's looks); each row that meets fmt, with fmt's text TOLD by the authors' own Lean function (tested against real Go, not proved from fmt's source: count such statements apart). THE CARD IS WHAT COUNTS. Prove the row's statement (the work); the ties are given (YtpkgibdbmmhgdaaDoorTie.lean); close each card by the builder's one call (the guide's Derived/Test/ToyasCard.lean, 'card_holds'). Laid BY PROGRAM, IN A SANDBOX (cutbox-door.mjs). By AI agents, Wed Nov 11 2026. No macro, syntax, notation, axiom, sorry.
-/
import Derived.Test.YtpkgibdbmmhgdaaDoorRows
import GoSem.ClaimSeven
namespace Go.Proofs.YtpkgibdbmmhgdaaDoor
namespace Rows

/-- THE TIED CARD OF 'tierlinekeep.ProofSafe'. -/
def proofSafeCard : Claim7 := { stood := { row := proofSafeRow, standIns := [], harness := (true, "f2fabc8cba7f1ebb4a248e7f66a4b61802002c3adbdaddeca3e7f86b84fd1959"), looks := false }, kinds := [], alts := [], laidByText := true, laidKinds := [.data, .data], laidTests := true, laidLooks := .later }
def ProofSafeCardSaid : Prop := Claim7.holds Tryd.pinned (.plain (OpenSpec.ofChange proofSafeSpec)) proofSafeCard

/-- THE TIED CARD OF 'tierlinekeep.RunEnds'. -/
def runEndsCard : Claim7 := { stood := { row := runEndsRow, standIns := [], harness := (true, "f2fabc8cba7f1ebb4a248e7f66a4b61802002c3adbdaddeca3e7f86b84fd1959"), looks := false }, kinds := [], alts := [], laidByText := true, laidKinds := [.data, .data], laidTests := true, laidLooks := .later }
def RunEndsCardSaid : Prop := Claim7.holds Tryd.pinned (.plain (OpenSpec.ofChange runEndsSpec)) runEndsCard

/-- THE TIED CARD OF 'tierlinekeep.AnswersMore'. -/
def answersMoreCard : Claim7 := { stood := { row := answersMoreRow, standIns := [], harness := (true, "f2fabc8cba7f1ebb4a248e7f66a4b61802002c3adbdaddeca3e7f86b84fd1959"), looks := false }, kinds := [], alts := [], laidByText := true, laidKinds := [.data, .data], laidTests := true, laidLooks := .later }
def AnswersMoreCardSaid : Prop := Claim7.holds Tryd.pinned (.plain (OpenSpec.ofChange answersMoreSpec)) answersMoreCard

/-- THE TIED CARD OF 'tierlinekeep.TrimRuns'. -/
def trimRunsCard : Claim7 := { stood := { row := trimRunsRow, standIns := [], harness := (true, "f2fabc8cba7f1ebb4a248e7f66a4b61802002c3adbdaddeca3e7f86b84fd1959"), looks := false }, kinds := [], alts := [], laidByText := true, laidKinds := [.data, .data], laidTests := true, laidLooks := .later }
def TrimRunsCardSaid : Prop := Claim7.holds Tryd.pinned (.plain (OpenSpec.ofChange trimRunsSpec)) trimRunsCard

/-- THE TIED CARD OF 'tierlinekeep.CountsSum'. -/
def countsSumCard : Claim7 := { stood := { row := countsSumRow, standIns := [], harness := (true, "f2fabc8cba7f1ebb4a248e7f66a4b61802002c3adbdaddeca3e7f86b84fd1959"), looks := false }, kinds := [], alts := [], laidByText := true, laidKinds := [.data, .data], laidTests := true, laidLooks := .later }
def CountsSumCardSaid : Prop := Claim7.holds Tryd.pinned (.plain (OpenSpec.ofChange countsSumSpec)) countsSumCard

/-- THE TIED CARD OF 'tierlinekeep.CountsFlow'. -/
def countsFlowCard : Claim7 := { stood := { row := countsFlowRow, standIns := [], harness := (true, "f2fabc8cba7f1ebb4a248e7f66a4b61802002c3adbdaddeca3e7f86b84fd1959"), looks := false }, kinds := [], alts := [], laidByText := true, laidKinds := [.data, .data], laidTests := true, laidLooks := .later }
def CountsFlowCardSaid : Prop := Claim7.holds Tryd.pinned (.plain (OpenSpec.ofChange countsFlowSpec)) countsFlowCard

/-- THE TIED CARD OF 'tierlinekeep.HotMost'. -/
def hotMostCard : Claim7 := { stood := { row := hotMostRow, standIns := [], harness := (true, "f2fabc8cba7f1ebb4a248e7f66a4b61802002c3adbdaddeca3e7f86b84fd1959"), looks := false }, kinds := [], alts := [], laidByText := true, laidKinds := [.data, .data], laidTests := true, laidLooks := .later }
def HotMostCardSaid : Prop := Claim7.holds Tryd.pinned (.plain (OpenSpec.ofChange hotMostSpec)) hotMostCard

/-- THE TIED CARD OF 'tierlinekeep.LoopsHeads'. -/
def loopsHeadsCard : Claim7 := { stood := { row := loopsHeadsRow, standIns := [], harness := (true, "f2fabc8cba7f1ebb4a248e7f66a4b61802002c3adbdaddeca3e7f86b84fd1959"), looks := false }, kinds := [], alts := [], laidByText := true, laidKinds := [.data, .data], laidTests := true, laidLooks := .later }
def LoopsHeadsCardSaid : Prop := Claim7.holds Tryd.pinned (.plain (OpenSpec.ofChange loopsHeadsSpec)) loopsHeadsCard

/-- THE TIED CARD OF 'tierlinekeep.LoopsNone'. -/
def loopsNoneCard : Claim7 := { stood := { row := loopsNoneRow, standIns := [], harness := (true, "f2fabc8cba7f1ebb4a248e7f66a4b61802002c3adbdaddeca3e7f86b84fd1959"), looks := false }, kinds := [], alts := [], laidByText := true, laidKinds := [.data, .data], laidTests := true, laidLooks := .later }
def LoopsNoneCardSaid : Prop := Claim7.holds Tryd.pinned (.plain (OpenSpec.ofChange loopsNoneSpec)) loopsNoneCard

/-- THE TIED CARD OF 'tierlinekeep.RunWays'. -/
def runWaysCard : Claim7 := { stood := { row := runWaysRow, standIns := [], harness := (true, "f2fabc8cba7f1ebb4a248e7f66a4b61802002c3adbdaddeca3e7f86b84fd1959"), looks := false }, kinds := [], alts := [], laidByText := true, laidKinds := [.data, .data], laidTests := true, laidLooks := .later }
def RunWaysCardSaid : Prop := Claim7.holds Tryd.pinned (.plain (OpenSpec.ofChange runWaysSpec)) runWaysCard

/-- THE TIED CARD OF 'tierlinekeep.LiveDead'. -/
def liveDeadCard : Claim7 := { stood := { row := liveDeadRow, standIns := [], harness := (true, "f2fabc8cba7f1ebb4a248e7f66a4b61802002c3adbdaddeca3e7f86b84fd1959"), looks := false }, kinds := [], alts := [], laidByText := true, laidKinds := [.data, .data], laidTests := true, laidLooks := .later }
def LiveDeadCardSaid : Prop := Claim7.holds Tryd.pinned (.plain (OpenSpec.ofChange liveDeadSpec)) liveDeadCard

/-- THE SECOND FORM's CARD OF 'tierlinekeep.ProofSafe'. -/
def proofSafeUptoCard : Claim7 := { stood := { row := proofSafeUptoRow, standIns := [], harness := (true, "f2fabc8cba7f1ebb4a248e7f66a4b61802002c3adbdaddeca3e7f86b84fd1959"), looks := false }, kinds := [], alts := [], laidByText := true, laidKinds := [.data, .data], laidTests := true, laidLooks := .later }
def ProofSafeUptoCardSaid : Prop := Claim7.holds Tryd.pinned (.plain (OpenSpec.upto proofSafeSpec)) proofSafeUptoCard

/-- THE SECOND FORM's CARD OF 'tierlinekeep.RunEnds'. -/
def runEndsUptoCard : Claim7 := { stood := { row := runEndsUptoRow, standIns := [], harness := (true, "f2fabc8cba7f1ebb4a248e7f66a4b61802002c3adbdaddeca3e7f86b84fd1959"), looks := false }, kinds := [], alts := [], laidByText := true, laidKinds := [.data, .data], laidTests := true, laidLooks := .later }
def RunEndsUptoCardSaid : Prop := Claim7.holds Tryd.pinned (.plain (OpenSpec.upto runEndsSpec)) runEndsUptoCard

/-- THE SECOND FORM's CARD OF 'tierlinekeep.AnswersMore'. -/
def answersMoreUptoCard : Claim7 := { stood := { row := answersMoreUptoRow, standIns := [], harness := (true, "f2fabc8cba7f1ebb4a248e7f66a4b61802002c3adbdaddeca3e7f86b84fd1959"), looks := false }, kinds := [], alts := [], laidByText := true, laidKinds := [.data, .data], laidTests := true, laidLooks := .later }
def AnswersMoreUptoCardSaid : Prop := Claim7.holds Tryd.pinned (.plain (OpenSpec.upto answersMoreSpec)) answersMoreUptoCard

/-- THE SECOND FORM's CARD OF 'tierlinekeep.TrimRuns'. -/
def trimRunsUptoCard : Claim7 := { stood := { row := trimRunsUptoRow, standIns := [], harness := (true, "f2fabc8cba7f1ebb4a248e7f66a4b61802002c3adbdaddeca3e7f86b84fd1959"), looks := false }, kinds := [], alts := [], laidByText := true, laidKinds := [.data, .data], laidTests := true, laidLooks := .later }
def TrimRunsUptoCardSaid : Prop := Claim7.holds Tryd.pinned (.plain (OpenSpec.upto trimRunsSpec)) trimRunsUptoCard

/-- THE SECOND FORM's CARD OF 'tierlinekeep.CountsSum'. -/
def countsSumUptoCard : Claim7 := { stood := { row := countsSumUptoRow, standIns := [], harness := (true, "f2fabc8cba7f1ebb4a248e7f66a4b61802002c3adbdaddeca3e7f86b84fd1959"), looks := false }, kinds := [], alts := [], laidByText := true, laidKinds := [.data, .data], laidTests := true, laidLooks := .later }
def CountsSumUptoCardSaid : Prop := Claim7.holds Tryd.pinned (.plain (OpenSpec.upto countsSumSpec)) countsSumUptoCard

/-- THE SECOND FORM's CARD OF 'tierlinekeep.CountsFlow'. -/
def countsFlowUptoCard : Claim7 := { stood := { row := countsFlowUptoRow, standIns := [], harness := (true, "f2fabc8cba7f1ebb4a248e7f66a4b61802002c3adbdaddeca3e7f86b84fd1959"), looks := false }, kinds := [], alts := [], laidByText := true, laidKinds := [.data, .data], laidTests := true, laidLooks := .later }
def CountsFlowUptoCardSaid : Prop := Claim7.holds Tryd.pinned (.plain (OpenSpec.upto countsFlowSpec)) countsFlowUptoCard

/-- THE SECOND FORM's CARD OF 'tierlinekeep.HotMost'. -/
def hotMostUptoCard : Claim7 := { stood := { row := hotMostUptoRow, standIns := [], harness := (true, "f2fabc8cba7f1ebb4a248e7f66a4b61802002c3adbdaddeca3e7f86b84fd1959"), looks := false }, kinds := [], alts := [], laidByText := true, laidKinds := [.data, .data], laidTests := true, laidLooks := .later }
def HotMostUptoCardSaid : Prop := Claim7.holds Tryd.pinned (.plain (OpenSpec.upto hotMostSpec)) hotMostUptoCard

/-- THE SECOND FORM's CARD OF 'tierlinekeep.LoopsHeads'. -/
def loopsHeadsUptoCard : Claim7 := { stood := { row := loopsHeadsUptoRow, standIns := [], harness := (true, "f2fabc8cba7f1ebb4a248e7f66a4b61802002c3adbdaddeca3e7f86b84fd1959"), looks := false }, kinds := [], alts := [], laidByText := true, laidKinds := [.data, .data], laidTests := true, laidLooks := .later }
def LoopsHeadsUptoCardSaid : Prop := Claim7.holds Tryd.pinned (.plain (OpenSpec.upto loopsHeadsSpec)) loopsHeadsUptoCard

/-- THE SECOND FORM's CARD OF 'tierlinekeep.LoopsNone'. -/
def loopsNoneUptoCard : Claim7 := { stood := { row := loopsNoneUptoRow, standIns := [], harness := (true, "f2fabc8cba7f1ebb4a248e7f66a4b61802002c3adbdaddeca3e7f86b84fd1959"), looks := false }, kinds := [], alts := [], laidByText := true, laidKinds := [.data, .data], laidTests := true, laidLooks := .later }
def LoopsNoneUptoCardSaid : Prop := Claim7.holds Tryd.pinned (.plain (OpenSpec.upto loopsNoneSpec)) loopsNoneUptoCard

/-- THE SECOND FORM's CARD OF 'tierlinekeep.RunWays'. -/
def runWaysUptoCard : Claim7 := { stood := { row := runWaysUptoRow, standIns := [], harness := (true, "f2fabc8cba7f1ebb4a248e7f66a4b61802002c3adbdaddeca3e7f86b84fd1959"), looks := false }, kinds := [], alts := [], laidByText := true, laidKinds := [.data, .data], laidTests := true, laidLooks := .later }
def RunWaysUptoCardSaid : Prop := Claim7.holds Tryd.pinned (.plain (OpenSpec.upto runWaysSpec)) runWaysUptoCard

/-- THE SECOND FORM's CARD OF 'tierlinekeep.LiveDead'. -/
def liveDeadUptoCard : Claim7 := { stood := { row := liveDeadUptoRow, standIns := [], harness := (true, "f2fabc8cba7f1ebb4a248e7f66a4b61802002c3adbdaddeca3e7f86b84fd1959"), looks := false }, kinds := [], alts := [], laidByText := true, laidKinds := [.data, .data], laidTests := true, laidLooks := .later }
def LiveDeadUptoCardSaid : Prop := Claim7.holds Tryd.pinned (.plain (OpenSpec.upto liveDeadSpec)) liveDeadUptoCard
end Rows
end Go.Proofs.YtpkgibdbmmhgdaaDoor
