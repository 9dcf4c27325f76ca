/-
  NARROWER THAN 'FOR EVERY INPUT', by the rows' own cells (each row's printed sentence says how): ProofSafe: laid · RunEnds: laid · FuelFalls: laid · MemoryStays: laid · StateStays: laid · CallFrames: laid · StepPure: laid · RunMore: laid · WalkParts: laid · EventsGrow: laid · AnswersMore: laid · TrimRuns: laid.
  DERIVED. THE GIVEN ROWS OF THIS SEAT. 12 by the template 'for every input the law returns true; each argument reads behind the call as it read before'; 0 by the template 'total and deterministic' (their statements: YtcjclencbjllhaaDoorTotals.lean).
  GIVEN WITH THE SEED: the statements are not yours to turn. If you find one false, say at which input.
  Laid BY PROGRAM, IN A SANDBOX (cutbox-rows.mjs): the forced cells as the released guide's own fill.sh prints them over the translation d9e8b6ca0af683d0… (all of the seat's roots in one cut). By AI agents, Wed Nov 11 2026. No macro, syntax, notation, axiom, sorry.
-/
import Derived.Test.YtcjclencbjllhaaDoorChecked
import GoSem.Claim
import GoSem.ClaimJoined
import GoSem.ClaimMapViews
import Derived.JoinedTies
import Derived.KernelRfl
namespace Go.Proofs.YtcjclencbjllhaaDoor
/- THE CELL 'sum', in the pinned program and in every row, IS THE sha256 OF THE DUMP (.gsa) THAT YtcjclencbjllhaaDoorProg.lean LOADS. Nothing in Lean hashes anything: it is a label: what it is worth is what the hold of that sum in a sandbox is worth. -/
noncomputable def Tryd.pinned : Pinned := { name := "ytcjclencbjllhaadoor", sum := "d9e8b6ca0af683d046909975c86bf2c30d402fc1290a74c407520472144029f2", checked := Tryd.checked }
namespace Rows
def none {H : Type} : Left H := { results := [], args := [] }

/- WHAT THE LISTED PACKAGE-LEVEL VARIABLES READ AS WHEN THE CALL BEGINS. Each datum BY PROGRAM (the guide's laid-datum.mjs) off the statement by which the dump's own 'gosem.cut.vars' lays the variable. In a bare row this is a premise. The card (YtcjclencbjllhaaDoorCards.lean) ties it to the program's text. -/
def laid_tierline_ops_parts {H : Type} : DataW H := .agg [.lit (.int .i64 0), .lit (.int .i64 9), .lit (.int .i64 7), .lit (.int .i64 7), .lit (.int .i64 7), .lit (.int .i64 7), .lit (.int .i64 7), .lit (.int .i64 7), .lit (.int .i64 7), .lit (.int .i64 7), .lit (.int .i64 7), .lit (.int .i64 7), .lit (.int .i64 7), .lit (.int .i64 3), .lit (.int .i64 6), .lit (.int .i64 16), .lit (.int .i64 18), .lit (.int .i64 39), .lit (.int .i64 3), .lit (.int .i64 2)]
def laid_tierline_proof_callReads {H : Type} : DataW H := .agg [.lit (.int .i64 0), .lit (.int .i64 2), .lit (.int .i64 6)]

/-- 'tierlinekeep.ProofSafe': WHATEVER THE INPUT: true; the input reads as it did. -/
def proofSafeSpec : ChangeSpec := { name := "proofSafe", fn := fun _ => fun
  | [d1, d2] => { results := [.lit (.bool true)], args := [d1, d2] }
  | _ => none }
def proofSafeRow : OpenClaim := { program := "ytcjclencbjllhaadoor", sum := "d9e8b6ca0af683d046909975c86bf2c30d402fc1290a74c407520472144029f2", func := "tierline/tierlinekeep.ProofSafe", spec := "proofSafe", named := ["tierline/ops.parts", "tierline/proof.callReads"], apart := false, laid := [("tierline/ops.parts", laid_tierline_ops_parts), ("tierline/proof.callReads", laid_tierline_proof_callReads)] }
def ProofSafeSaid : Prop := proofSafeRow.holds Tryd.pinned (OpenSpec.ofChange proofSafeSpec)

/-- ITS FALSE NEIGHBOUR: 'it returns false'. Refute it at one input. -/
def proofSafeWrong : ChangeSpec := { name := "proofSafe", fn := fun _ => fun
  | [d1, d2] => { results := [.lit (.bool false)], args := [d1, d2] }
  | _ => none }
def ProofSafeWrongFalsely : Prop := proofSafeRow.holds Tryd.pinned (OpenSpec.ofChange proofSafeWrong)

/-- 'tierlinekeep.RunEnds': WHATEVER THE INPUT: true; the input reads as it did. -/
def runEndsSpec : ChangeSpec := { name := "runEnds", fn := fun _ => fun
  | [d1, d2] => { results := [.lit (.bool true)], args := [d1, d2] }
  | _ => none }
def runEndsRow : OpenClaim := { program := "ytcjclencbjllhaadoor", sum := "d9e8b6ca0af683d046909975c86bf2c30d402fc1290a74c407520472144029f2", func := "tierline/tierlinekeep.RunEnds", spec := "runEnds", named := ["tierline/ops.parts", "tierline/proof.callReads"], apart := false, laid := [("tierline/ops.parts", laid_tierline_ops_parts), ("tierline/proof.callReads", laid_tierline_proof_callReads)] }
def RunEndsSaid : Prop := runEndsRow.holds Tryd.pinned (OpenSpec.ofChange runEndsSpec)

/-- ITS FALSE NEIGHBOUR: 'it returns false'. Refute it at one input. -/
def runEndsWrong : ChangeSpec := { name := "runEnds", fn := fun _ => fun
  | [d1, d2] => { results := [.lit (.bool false)], args := [d1, d2] }
  | _ => none }
def RunEndsWrongFalsely : Prop := runEndsRow.holds Tryd.pinned (OpenSpec.ofChange runEndsWrong)

/-- 'tierlinekeep.FuelFalls': WHATEVER THE INPUT: true; the input reads as it did. -/
def fuelFallsSpec : ChangeSpec := { name := "fuelFalls", fn := fun _ => fun
  | [d1, d2, d3] => { results := [.lit (.bool true)], args := [d1, d2, d3] }
  | _ => none }
def fuelFallsRow : OpenClaim := { program := "ytcjclencbjllhaadoor", sum := "d9e8b6ca0af683d046909975c86bf2c30d402fc1290a74c407520472144029f2", func := "tierline/tierlinekeep.FuelFalls", spec := "fuelFalls", named := ["tierline/ops.parts", "tierline/proof.callReads"], apart := false, laid := [("tierline/ops.parts", laid_tierline_ops_parts), ("tierline/proof.callReads", laid_tierline_proof_callReads)] }
def FuelFallsSaid : Prop := fuelFallsRow.holds Tryd.pinned (OpenSpec.ofChange fuelFallsSpec)

/-- ITS FALSE NEIGHBOUR: 'it returns false'. Refute it at one input. -/
def fuelFallsWrong : ChangeSpec := { name := "fuelFalls", fn := fun _ => fun
  | [d1, d2, d3] => { results := [.lit (.bool false)], args := [d1, d2, d3] }
  | _ => none }
def FuelFallsWrongFalsely : Prop := fuelFallsRow.holds Tryd.pinned (OpenSpec.ofChange fuelFallsWrong)

/-- 'tierlinekeep.MemoryStays': WHATEVER THE INPUT: true; the input reads as it did. -/
def memoryStaysSpec : ChangeSpec := { name := "memoryStays", fn := fun _ => fun
  | [d1, d2, d3] => { results := [.lit (.bool true)], args := [d1, d2, d3] }
  | _ => none }
def memoryStaysRow : OpenClaim := { program := "ytcjclencbjllhaadoor", sum := "d9e8b6ca0af683d046909975c86bf2c30d402fc1290a74c407520472144029f2", func := "tierline/tierlinekeep.MemoryStays", spec := "memoryStays", named := ["tierline/ops.parts", "tierline/proof.callReads"], apart := false, laid := [("tierline/ops.parts", laid_tierline_ops_parts), ("tierline/proof.callReads", laid_tierline_proof_callReads)] }
def MemoryStaysSaid : Prop := memoryStaysRow.holds Tryd.pinned (OpenSpec.ofChange memoryStaysSpec)

/-- ITS FALSE NEIGHBOUR: 'it returns false'. Refute it at one input. -/
def memoryStaysWrong : ChangeSpec := { name := "memoryStays", fn := fun _ => fun
  | [d1, d2, d3] => { results := [.lit (.bool false)], args := [d1, d2, d3] }
  | _ => none }
def MemoryStaysWrongFalsely : Prop := memoryStaysRow.holds Tryd.pinned (OpenSpec.ofChange memoryStaysWrong)

/-- 'tierlinekeep.StateStays': WHATEVER THE INPUT: true; the input reads as it did. -/
def stateStaysSpec : ChangeSpec := { name := "stateStays", fn := fun _ => fun
  | [d1, d2, d3] => { results := [.lit (.bool true)], args := [d1, d2, d3] }
  | _ => none }
def stateStaysRow : OpenClaim := { program := "ytcjclencbjllhaadoor", sum := "d9e8b6ca0af683d046909975c86bf2c30d402fc1290a74c407520472144029f2", func := "tierline/tierlinekeep.StateStays", spec := "stateStays", named := ["tierline/ops.parts", "tierline/proof.callReads"], apart := false, laid := [("tierline/ops.parts", laid_tierline_ops_parts), ("tierline/proof.callReads", laid_tierline_proof_callReads)] }
def StateStaysSaid : Prop := stateStaysRow.holds Tryd.pinned (OpenSpec.ofChange stateStaysSpec)

/-- ITS FALSE NEIGHBOUR: 'it returns false'. Refute it at one input. -/
def stateStaysWrong : ChangeSpec := { name := "stateStays", fn := fun _ => fun
  | [d1, d2, d3] => { results := [.lit (.bool false)], args := [d1, d2, d3] }
  | _ => none }
def StateStaysWrongFalsely : Prop := stateStaysRow.holds Tryd.pinned (OpenSpec.ofChange stateStaysWrong)

/-- 'tierlinekeep.CallFrames': WHATEVER THE INPUT: true; the input reads as it did. -/
def callFramesSpec : ChangeSpec := { name := "callFrames", fn := fun _ => fun
  | [d1, d2, d3] => { results := [.lit (.bool true)], args := [d1, d2, d3] }
  | _ => none }
def callFramesRow : OpenClaim := { program := "ytcjclencbjllhaadoor", sum := "d9e8b6ca0af683d046909975c86bf2c30d402fc1290a74c407520472144029f2", func := "tierline/tierlinekeep.CallFrames", spec := "callFrames", named := ["tierline/ops.parts", "tierline/proof.callReads"], apart := false, laid := [("tierline/ops.parts", laid_tierline_ops_parts), ("tierline/proof.callReads", laid_tierline_proof_callReads)] }
def CallFramesSaid : Prop := callFramesRow.holds Tryd.pinned (OpenSpec.ofChange callFramesSpec)

/-- ITS FALSE NEIGHBOUR: 'it returns false'. Refute it at one input. -/
def callFramesWrong : ChangeSpec := { name := "callFrames", fn := fun _ => fun
  | [d1, d2, d3] => { results := [.lit (.bool false)], args := [d1, d2, d3] }
  | _ => none }
def CallFramesWrongFalsely : Prop := callFramesRow.holds Tryd.pinned (OpenSpec.ofChange callFramesWrong)

/-- 'tierlinekeep.StepPure': WHATEVER THE INPUT: true; the input reads as it did. -/
def stepPureSpec : ChangeSpec := { name := "stepPure", fn := fun _ => fun
  | [d1, d2, d3] => { results := [.lit (.bool true)], args := [d1, d2, d3] }
  | _ => none }
def stepPureRow : OpenClaim := { program := "ytcjclencbjllhaadoor", sum := "d9e8b6ca0af683d046909975c86bf2c30d402fc1290a74c407520472144029f2", func := "tierline/tierlinekeep.StepPure", spec := "stepPure", named := ["tierline/ops.parts", "tierline/proof.callReads"], apart := false, laid := [("tierline/ops.parts", laid_tierline_ops_parts), ("tierline/proof.callReads", laid_tierline_proof_callReads)] }
def StepPureSaid : Prop := stepPureRow.holds Tryd.pinned (OpenSpec.ofChange stepPureSpec)

/-- ITS FALSE NEIGHBOUR: 'it returns false'. Refute it at one input. -/
def stepPureWrong : ChangeSpec := { name := "stepPure", fn := fun _ => fun
  | [d1, d2, d3] => { results := [.lit (.bool false)], args := [d1, d2, d3] }
  | _ => none }
def StepPureWrongFalsely : Prop := stepPureRow.holds Tryd.pinned (OpenSpec.ofChange stepPureWrong)

/-- 'tierlinekeep.RunMore': WHATEVER THE INPUT: true; the input reads as it did. -/
def runMoreSpec : ChangeSpec := { name := "runMore", fn := fun _ => fun
  | [d1, d2, d3] => { results := [.lit (.bool true)], args := [d1, d2, d3] }
  | _ => none }
def runMoreRow : OpenClaim := { program := "ytcjclencbjllhaadoor", sum := "d9e8b6ca0af683d046909975c86bf2c30d402fc1290a74c407520472144029f2", func := "tierline/tierlinekeep.RunMore", spec := "runMore", named := ["tierline/ops.parts", "tierline/proof.callReads"], apart := false, laid := [("tierline/ops.parts", laid_tierline_ops_parts), ("tierline/proof.callReads", laid_tierline_proof_callReads)] }
def RunMoreSaid : Prop := runMoreRow.holds Tryd.pinned (OpenSpec.ofChange runMoreSpec)

/-- ITS FALSE NEIGHBOUR: 'it returns false'. Refute it at one input. -/
def runMoreWrong : ChangeSpec := { name := "runMore", fn := fun _ => fun
  | [d1, d2, d3] => { results := [.lit (.bool false)], args := [d1, d2, d3] }
  | _ => none }
def RunMoreWrongFalsely : Prop := runMoreRow.holds Tryd.pinned (OpenSpec.ofChange runMoreWrong)

/-- 'tierlinekeep.WalkParts': WHATEVER THE INPUT: true; the input reads as it did. -/
def walkPartsSpec : ChangeSpec := { name := "walkParts", fn := fun _ => fun
  | [d1, d2, d3, d4] => { results := [.lit (.bool true)], args := [d1, d2, d3, d4] }
  | _ => none }
def walkPartsRow : OpenClaim := { program := "ytcjclencbjllhaadoor", sum := "d9e8b6ca0af683d046909975c86bf2c30d402fc1290a74c407520472144029f2", func := "tierline/tierlinekeep.WalkParts", spec := "walkParts", named := ["tierline/ops.parts", "tierline/proof.callReads"], apart := false, laid := [("tierline/ops.parts", laid_tierline_ops_parts), ("tierline/proof.callReads", laid_tierline_proof_callReads)] }
def WalkPartsSaid : Prop := walkPartsRow.holds Tryd.pinned (OpenSpec.ofChange walkPartsSpec)

/-- ITS FALSE NEIGHBOUR: 'it returns false'. Refute it at one input. -/
def walkPartsWrong : ChangeSpec := { name := "walkParts", fn := fun _ => fun
  | [d1, d2, d3, d4] => { results := [.lit (.bool false)], args := [d1, d2, d3, d4] }
  | _ => none }
def WalkPartsWrongFalsely : Prop := walkPartsRow.holds Tryd.pinned (OpenSpec.ofChange walkPartsWrong)

/-- 'tierlinekeep.EventsGrow': WHATEVER THE INPUT: true; the input reads as it did. -/
def eventsGrowSpec : ChangeSpec := { name := "eventsGrow", fn := fun _ => fun
  | [d1, d2, d3, d4] => { results := [.lit (.bool true)], args := [d1, d2, d3, d4] }
  | _ => none }
def eventsGrowRow : OpenClaim := { program := "ytcjclencbjllhaadoor", sum := "d9e8b6ca0af683d046909975c86bf2c30d402fc1290a74c407520472144029f2", func := "tierline/tierlinekeep.EventsGrow", spec := "eventsGrow", named := ["tierline/ops.parts", "tierline/proof.callReads"], apart := false, laid := [("tierline/ops.parts", laid_tierline_ops_parts), ("tierline/proof.callReads", laid_tierline_proof_callReads)] }
def EventsGrowSaid : Prop := eventsGrowRow.holds Tryd.pinned (OpenSpec.ofChange eventsGrowSpec)

/-- ITS FALSE NEIGHBOUR: 'it returns false'. Refute it at one input. -/
def eventsGrowWrong : ChangeSpec := { name := "eventsGrow", fn := fun _ => fun
  | [d1, d2, d3, d4] => { results := [.lit (.bool false)], args := [d1, d2, d3, d4] }
  | _ => none }
def EventsGrowWrongFalsely : Prop := eventsGrowRow.holds Tryd.pinned (OpenSpec.ofChange eventsGrowWrong)

/-- 'tierlinekeep.AnswersMore': WHATEVER THE INPUT: true; the input reads as it did. -/
def answersMoreSpec : ChangeSpec := { name := "answersMore", fn := fun _ => fun
  | [d1, d2, d3] => { results := [.lit (.bool true)], args := [d1, d2, d3] }
  | _ => none }
def answersMoreRow : OpenClaim := { program := "ytcjclencbjllhaadoor", sum := "d9e8b6ca0af683d046909975c86bf2c30d402fc1290a74c407520472144029f2", func := "tierline/tierlinekeep.AnswersMore", spec := "answersMore", named := ["tierline/ops.parts", "tierline/proof.callReads"], apart := false, laid := [("tierline/ops.parts", laid_tierline_ops_parts), ("tierline/proof.callReads", laid_tierline_proof_callReads)] }
def AnswersMoreSaid : Prop := answersMoreRow.holds Tryd.pinned (OpenSpec.ofChange answersMoreSpec)

/-- ITS FALSE NEIGHBOUR: 'it returns false'. Refute it at one input. -/
def answersMoreWrong : ChangeSpec := { name := "answersMore", fn := fun _ => fun
  | [d1, d2, d3] => { results := [.lit (.bool false)], args := [d1, d2, d3] }
  | _ => none }
def AnswersMoreWrongFalsely : Prop := answersMoreRow.holds Tryd.pinned (OpenSpec.ofChange answersMoreWrong)

/-- 'tierlinekeep.TrimRuns': WHATEVER THE INPUT: true; the input reads as it did. -/
def trimRunsSpec : ChangeSpec := { name := "trimRuns", fn := fun _ => fun
  | [d1, d2] => { results := [.lit (.bool true)], args := [d1, d2] }
  | _ => none }
def trimRunsRow : OpenClaim := { program := "ytcjclencbjllhaadoor", sum := "d9e8b6ca0af683d046909975c86bf2c30d402fc1290a74c407520472144029f2", func := "tierline/tierlinekeep.TrimRuns", spec := "trimRuns", named := ["tierline/ops.parts", "tierline/proof.callReads"], apart := false, laid := [("tierline/ops.parts", laid_tierline_ops_parts), ("tierline/proof.callReads", laid_tierline_proof_callReads)] }
def TrimRunsSaid : Prop := trimRunsRow.holds Tryd.pinned (OpenSpec.ofChange trimRunsSpec)

/-- ITS FALSE NEIGHBOUR: 'it returns false'. Refute it at one input. -/
def trimRunsWrong : ChangeSpec := { name := "trimRuns", fn := fun _ => fun
  | [d1, d2] => { results := [.lit (.bool false)], args := [d1, d2] }
  | _ => none }
def TrimRunsWrongFalsely : Prop := trimRunsRow.holds Tryd.pinned (OpenSpec.ofChange trimRunsWrong)

/- THE SECOND FORM. 'bulk': how many values and letters a reading holds, each counted each time it is reached (what is shared counts as often as it is met; a slice's spare places count too). A statement '..UptoSaid' is the law's where the arguments, and the package variables that the reading takes, are together of bulk at most 1048576: NARROWER than '..Said'. Prove '..Said' where nothing that the law and all that it calls make is longer than what came in: it says more and counts as full. Else prove '..UptoSaid'. A law counts once. -/
mutual
def uptoBulk {H : Type} : DataW H → Nat
  | .lit (.string bytes) => bytes.length + 1
  | .lit _ => 1
  | .nil => 1
  | .ptr d => uptoBulk d + 1
  | .slice elems spare => uptoBulkAll elems + uptoBulkAll spare + 1
  | .agg parts => uptoBulkAll parts + 1
  | .iface _ d => uptoBulk d + 1
  | .map entries => uptoBulkEntries entries + 1
  | .held _ => 1
def uptoBulkAll {H : Type} : List (DataW H) → Nat
  | [] => 0
  | d :: r => uptoBulk d + uptoBulkAll r
def uptoBulkEntries {H : Type} : List (Lit × DataW H) → Nat
  | [] => 0
  | x :: r => uptoBulkEntry x + uptoBulkEntries r
def uptoBulkEntry {H : Type} : Lit × DataW H → Nat
  | (.string bytes, d) => bytes.length + uptoBulk d + 1
  | (_, d) => uptoBulk d + 1
 end
def uptoSmall : (H : Type) → List (DataW H) → Bool := fun _ ds => decide (uptoBulkAll ds ≤ 1048576)
def OpenSpec.upto (s : _root_.Go.ChangeSpec) : _root_.Go.OpenSpec := { _root_.Go.OpenSpec.ofChange s with cond := some uptoSmall }

/-- 'tierlinekeep.ProofSafe', WHERE WHAT IT READS IS OF BULK AT MOST 1048576: true; the input reads as it did. -/
def proofSafeUptoRow : OpenClaim := { program := "ytcjclencbjllhaadoor", sum := "d9e8b6ca0af683d046909975c86bf2c30d402fc1290a74c407520472144029f2", func := "tierline/tierlinekeep.ProofSafe", spec := "proofSafe", named := ["tierline/ops.parts", "tierline/proof.callReads"], apart := false, laid := [("tierline/ops.parts", laid_tierline_ops_parts), ("tierline/proof.callReads", laid_tierline_proof_callReads)], narrowed := true }
def ProofSafeUptoSaid : Prop := proofSafeUptoRow.holds Tryd.pinned (OpenSpec.upto proofSafeSpec)

/-- 'tierlinekeep.RunEnds', WHERE WHAT IT READS IS OF BULK AT MOST 1048576: true; the input reads as it did. -/
def runEndsUptoRow : OpenClaim := { program := "ytcjclencbjllhaadoor", sum := "d9e8b6ca0af683d046909975c86bf2c30d402fc1290a74c407520472144029f2", func := "tierline/tierlinekeep.RunEnds", spec := "runEnds", named := ["tierline/ops.parts", "tierline/proof.callReads"], apart := false, laid := [("tierline/ops.parts", laid_tierline_ops_parts), ("tierline/proof.callReads", laid_tierline_proof_callReads)], narrowed := true }
def RunEndsUptoSaid : Prop := runEndsUptoRow.holds Tryd.pinned (OpenSpec.upto runEndsSpec)

/-- 'tierlinekeep.FuelFalls', WHERE WHAT IT READS IS OF BULK AT MOST 1048576: true; the input reads as it did. -/
def fuelFallsUptoRow : OpenClaim := { program := "ytcjclencbjllhaadoor", sum := "d9e8b6ca0af683d046909975c86bf2c30d402fc1290a74c407520472144029f2", func := "tierline/tierlinekeep.FuelFalls", spec := "fuelFalls", named := ["tierline/ops.parts", "tierline/proof.callReads"], apart := false, laid := [("tierline/ops.parts", laid_tierline_ops_parts), ("tierline/proof.callReads", laid_tierline_proof_callReads)], narrowed := true }
def FuelFallsUptoSaid : Prop := fuelFallsUptoRow.holds Tryd.pinned (OpenSpec.upto fuelFallsSpec)

/-- 'tierlinekeep.MemoryStays', WHERE WHAT IT READS IS OF BULK AT MOST 1048576: true; the input reads as it did. -/
def memoryStaysUptoRow : OpenClaim := { program := "ytcjclencbjllhaadoor", sum := "d9e8b6ca0af683d046909975c86bf2c30d402fc1290a74c407520472144029f2", func := "tierline/tierlinekeep.MemoryStays", spec := "memoryStays", named := ["tierline/ops.parts", "tierline/proof.callReads"], apart := false, laid := [("tierline/ops.parts", laid_tierline_ops_parts), ("tierline/proof.callReads", laid_tierline_proof_callReads)], narrowed := true }
def MemoryStaysUptoSaid : Prop := memoryStaysUptoRow.holds Tryd.pinned (OpenSpec.upto memoryStaysSpec)

/-- 'tierlinekeep.StateStays', WHERE WHAT IT READS IS OF BULK AT MOST 1048576: true; the input reads as it did. -/
def stateStaysUptoRow : OpenClaim := { program := "ytcjclencbjllhaadoor", sum := "d9e8b6ca0af683d046909975c86bf2c30d402fc1290a74c407520472144029f2", func := "tierline/tierlinekeep.StateStays", spec := "stateStays", named := ["tierline/ops.parts", "tierline/proof.callReads"], apart := false, laid := [("tierline/ops.parts", laid_tierline_ops_parts), ("tierline/proof.callReads", laid_tierline_proof_callReads)], narrowed := true }
def StateStaysUptoSaid : Prop := stateStaysUptoRow.holds Tryd.pinned (OpenSpec.upto stateStaysSpec)

/-- 'tierlinekeep.CallFrames', WHERE WHAT IT READS IS OF BULK AT MOST 1048576: true; the input reads as it did. -/
def callFramesUptoRow : OpenClaim := { program := "ytcjclencbjllhaadoor", sum := "d9e8b6ca0af683d046909975c86bf2c30d402fc1290a74c407520472144029f2", func := "tierline/tierlinekeep.CallFrames", spec := "callFrames", named := ["tierline/ops.parts", "tierline/proof.callReads"], apart := false, laid := [("tierline/ops.parts", laid_tierline_ops_parts), ("tierline/proof.callReads", laid_tierline_proof_callReads)], narrowed := true }
def CallFramesUptoSaid : Prop := callFramesUptoRow.holds Tryd.pinned (OpenSpec.upto callFramesSpec)

/-- 'tierlinekeep.StepPure', WHERE WHAT IT READS IS OF BULK AT MOST 1048576: true; the input reads as it did. -/
def stepPureUptoRow : OpenClaim := { program := "ytcjclencbjllhaadoor", sum := "d9e8b6ca0af683d046909975c86bf2c30d402fc1290a74c407520472144029f2", func := "tierline/tierlinekeep.StepPure", spec := "stepPure", named := ["tierline/ops.parts", "tierline/proof.callReads"], apart := false, laid := [("tierline/ops.parts", laid_tierline_ops_parts), ("tierline/proof.callReads", laid_tierline_proof_callReads)], narrowed := true }
def StepPureUptoSaid : Prop := stepPureUptoRow.holds Tryd.pinned (OpenSpec.upto stepPureSpec)

/-- 'tierlinekeep.RunMore', WHERE WHAT IT READS IS OF BULK AT MOST 1048576: true; the input reads as it did. -/
def runMoreUptoRow : OpenClaim := { program := "ytcjclencbjllhaadoor", sum := "d9e8b6ca0af683d046909975c86bf2c30d402fc1290a74c407520472144029f2", func := "tierline/tierlinekeep.RunMore", spec := "runMore", named := ["tierline/ops.parts", "tierline/proof.callReads"], apart := false, laid := [("tierline/ops.parts", laid_tierline_ops_parts), ("tierline/proof.callReads", laid_tierline_proof_callReads)], narrowed := true }
def RunMoreUptoSaid : Prop := runMoreUptoRow.holds Tryd.pinned (OpenSpec.upto runMoreSpec)

/-- 'tierlinekeep.WalkParts', WHERE WHAT IT READS IS OF BULK AT MOST 1048576: true; the input reads as it did. -/
def walkPartsUptoRow : OpenClaim := { program := "ytcjclencbjllhaadoor", sum := "d9e8b6ca0af683d046909975c86bf2c30d402fc1290a74c407520472144029f2", func := "tierline/tierlinekeep.WalkParts", spec := "walkParts", named := ["tierline/ops.parts", "tierline/proof.callReads"], apart := false, laid := [("tierline/ops.parts", laid_tierline_ops_parts), ("tierline/proof.callReads", laid_tierline_proof_callReads)], narrowed := true }
def WalkPartsUptoSaid : Prop := walkPartsUptoRow.holds Tryd.pinned (OpenSpec.upto walkPartsSpec)

/-- 'tierlinekeep.EventsGrow', WHERE WHAT IT READS IS OF BULK AT MOST 1048576: true; the input reads as it did. -/
def eventsGrowUptoRow : OpenClaim := { program := "ytcjclencbjllhaadoor", sum := "d9e8b6ca0af683d046909975c86bf2c30d402fc1290a74c407520472144029f2", func := "tierline/tierlinekeep.EventsGrow", spec := "eventsGrow", named := ["tierline/ops.parts", "tierline/proof.callReads"], apart := false, laid := [("tierline/ops.parts", laid_tierline_ops_parts), ("tierline/proof.callReads", laid_tierline_proof_callReads)], narrowed := true }
def EventsGrowUptoSaid : Prop := eventsGrowUptoRow.holds Tryd.pinned (OpenSpec.upto eventsGrowSpec)

/-- 'tierlinekeep.AnswersMore', WHERE WHAT IT READS IS OF BULK AT MOST 1048576: true; the input reads as it did. -/
def answersMoreUptoRow : OpenClaim := { program := "ytcjclencbjllhaadoor", sum := "d9e8b6ca0af683d046909975c86bf2c30d402fc1290a74c407520472144029f2", func := "tierline/tierlinekeep.AnswersMore", spec := "answersMore", named := ["tierline/ops.parts", "tierline/proof.callReads"], apart := false, laid := [("tierline/ops.parts", laid_tierline_ops_parts), ("tierline/proof.callReads", laid_tierline_proof_callReads)], narrowed := true }
def AnswersMoreUptoSaid : Prop := answersMoreUptoRow.holds Tryd.pinned (OpenSpec.upto answersMoreSpec)

/-- 'tierlinekeep.TrimRuns', WHERE WHAT IT READS IS OF BULK AT MOST 1048576: true; the input reads as it did. -/
def trimRunsUptoRow : OpenClaim := { program := "ytcjclencbjllhaadoor", sum := "d9e8b6ca0af683d046909975c86bf2c30d402fc1290a74c407520472144029f2", func := "tierline/tierlinekeep.TrimRuns", spec := "trimRuns", named := ["tierline/ops.parts", "tierline/proof.callReads"], apart := false, laid := [("tierline/ops.parts", laid_tierline_ops_parts), ("tierline/proof.callReads", laid_tierline_proof_callReads)], narrowed := true }
def TrimRunsUptoSaid : Prop := trimRunsUptoRow.holds Tryd.pinned (OpenSpec.upto trimRunsSpec)

end Rows
end Go.Proofs.YtcjclencbjllhaaDoor
