/-
  NARROWER THAN 'FOR EVERY INPUT', by the rows' own cells (each row's printed sentence says how): ProofSafe: laid · RunEnds: laid · AnswersMore: laid · TrimRuns: laid · CountsSum: laid · CountsFlow: laid · HotMost: laid · LoopsHeads: laid · LoopsNone: laid · RunWays: laid · LiveDead: laid.
  DERIVED. THE GIVEN ROWS OF THIS SEAT. 11 by the template 'for every input the law returns true; each argument reads behind the call as it read before'; 0 by the template 'total and deterministic' (their statements: YtpkgibdbmmhgdaaDoorTotals.lean).
  GIVEN WITH THE SEED: the statements are not yours to turn. If you find one false, say at which input.
  Laid BY PROGRAM, IN A SANDBOX (cutbox-rows.mjs): the forced cells as the released guide's own fill.sh prints them over the translation 7659b30bd42a3fff… (all of the seat's roots in one cut). By AI agents, Wed Nov 11 2026. No macro, syntax, notation, axiom, sorry.
-/
import Derived.Test.YtpkgibdbmmhgdaaDoorChecked
import GoSem.Claim
import GoSem.ClaimJoined
import GoSem.ClaimMapViews
import Derived.JoinedTies
import Derived.KernelRfl
namespace Go.Proofs.YtpkgibdbmmhgdaaDoor
/- THE CELL 'sum', in the pinned program and in every row, IS THE sha256 OF THE DUMP (.gsa) THAT YtpkgibdbmmhgdaaDoorProg.lean LOADS. Nothing in Lean hashes anything: it is a label: what it is worth is what the hold of that sum in a sandbox is worth. -/
noncomputable def Tryd.pinned : Pinned := { name := "ytpkgibdbmmhgdaadoor", sum := "7659b30bd42a3ffff54e7938bf83f6aafd3131e80eddad517db76f6cb34afeac", checked := Tryd.checked }
namespace Rows
def none {H : Type} : Left H := { results := [], args := [] }

/- WHAT THE LISTED PACKAGE-LEVEL VARIABLES READ AS WHEN THE CALL BEGINS. Each datum BY PROGRAM (the guide's laid-datum.mjs) off the statement by which the dump's own 'gosem.cut.vars' lays the variable. In a bare row this is a premise. The card (YtpkgibdbmmhgdaaDoorCards.lean) ties it to the program's text. -/
def laid_tierline_ops_parts {H : Type} : DataW H := .agg [.lit (.int .i64 0), .lit (.int .i64 9), .lit (.int .i64 7), .lit (.int .i64 7), .lit (.int .i64 7), .lit (.int .i64 7), .lit (.int .i64 7), .lit (.int .i64 7), .lit (.int .i64 7), .lit (.int .i64 7), .lit (.int .i64 7), .lit (.int .i64 7), .lit (.int .i64 7), .lit (.int .i64 3), .lit (.int .i64 6), .lit (.int .i64 16), .lit (.int .i64 18), .lit (.int .i64 39), .lit (.int .i64 3), .lit (.int .i64 2)]
def laid_tierline_ops_callReads {H : Type} : DataW H := .agg [.lit (.int .i64 0), .lit (.int .i64 2), .lit (.int .i64 6)]

/-- 'tierlinekeep.ProofSafe': WHATEVER THE INPUT: true; the input reads as it did. -/
def proofSafeSpec : ChangeSpec := { name := "proofSafe", fn := fun _ => fun
  | [d1, d2] => { results := [.lit (.bool true)], args := [d1, d2] }
  | _ => none }
def proofSafeRow : OpenClaim := { program := "ytpkgibdbmmhgdaadoor", sum := "7659b30bd42a3ffff54e7938bf83f6aafd3131e80eddad517db76f6cb34afeac", func := "tierline/tierlinekeep.ProofSafe", spec := "proofSafe", named := ["tierline/ops.parts", "tierline/ops.callReads"], apart := false, laid := [("tierline/ops.parts", laid_tierline_ops_parts), ("tierline/ops.callReads", laid_tierline_ops_callReads)] }
def ProofSafeSaid : Prop := proofSafeRow.holds Tryd.pinned (OpenSpec.ofChange proofSafeSpec)

/-- ITS FALSE NEIGHBOUR: 'it returns false'. Refute it at one input. -/
def proofSafeWrong : ChangeSpec := { name := "proofSafe", fn := fun _ => fun
  | [d1, d2] => { results := [.lit (.bool false)], args := [d1, d2] }
  | _ => none }
def ProofSafeWrongFalsely : Prop := proofSafeRow.holds Tryd.pinned (OpenSpec.ofChange proofSafeWrong)

/-- 'tierlinekeep.RunEnds': WHATEVER THE INPUT: true; the input reads as it did. -/
def runEndsSpec : ChangeSpec := { name := "runEnds", fn := fun _ => fun
  | [d1, d2] => { results := [.lit (.bool true)], args := [d1, d2] }
  | _ => none }
def runEndsRow : OpenClaim := { program := "ytpkgibdbmmhgdaadoor", sum := "7659b30bd42a3ffff54e7938bf83f6aafd3131e80eddad517db76f6cb34afeac", func := "tierline/tierlinekeep.RunEnds", spec := "runEnds", named := ["tierline/ops.parts", "tierline/ops.callReads"], apart := false, laid := [("tierline/ops.parts", laid_tierline_ops_parts), ("tierline/ops.callReads", laid_tierline_ops_callReads)] }
def RunEndsSaid : Prop := runEndsRow.holds Tryd.pinned (OpenSpec.ofChange runEndsSpec)

/-- ITS FALSE NEIGHBOUR: 'it returns false'. Refute it at one input. -/
def runEndsWrong : ChangeSpec := { name := "runEnds", fn := fun _ => fun
  | [d1, d2] => { results := [.lit (.bool false)], args := [d1, d2] }
  | _ => none }
def RunEndsWrongFalsely : Prop := runEndsRow.holds Tryd.pinned (OpenSpec.ofChange runEndsWrong)

/-- 'tierlinekeep.AnswersMore': WHATEVER THE INPUT: true; the input reads as it did. -/
def answersMoreSpec : ChangeSpec := { name := "answersMore", fn := fun _ => fun
  | [d1, d2, d3] => { results := [.lit (.bool true)], args := [d1, d2, d3] }
  | _ => none }
def answersMoreRow : OpenClaim := { program := "ytpkgibdbmmhgdaadoor", sum := "7659b30bd42a3ffff54e7938bf83f6aafd3131e80eddad517db76f6cb34afeac", func := "tierline/tierlinekeep.AnswersMore", spec := "answersMore", named := ["tierline/ops.parts", "tierline/ops.callReads"], apart := false, laid := [("tierline/ops.parts", laid_tierline_ops_parts), ("tierline/ops.callReads", laid_tierline_ops_callReads)] }
def AnswersMoreSaid : Prop := answersMoreRow.holds Tryd.pinned (OpenSpec.ofChange answersMoreSpec)

/-- ITS FALSE NEIGHBOUR: 'it returns false'. Refute it at one input. -/
def answersMoreWrong : ChangeSpec := { name := "answersMore", fn := fun _ => fun
  | [d1, d2, d3] => { results := [.lit (.bool false)], args := [d1, d2, d3] }
  | _ => none }
def AnswersMoreWrongFalsely : Prop := answersMoreRow.holds Tryd.pinned (OpenSpec.ofChange answersMoreWrong)

/-- 'tierlinekeep.TrimRuns': WHATEVER THE INPUT: true; the input reads as it did. -/
def trimRunsSpec : ChangeSpec := { name := "trimRuns", fn := fun _ => fun
  | [d1, d2] => { results := [.lit (.bool true)], args := [d1, d2] }
  | _ => none }
def trimRunsRow : OpenClaim := { program := "ytpkgibdbmmhgdaadoor", sum := "7659b30bd42a3ffff54e7938bf83f6aafd3131e80eddad517db76f6cb34afeac", func := "tierline/tierlinekeep.TrimRuns", spec := "trimRuns", named := ["tierline/ops.parts", "tierline/ops.callReads"], apart := false, laid := [("tierline/ops.parts", laid_tierline_ops_parts), ("tierline/ops.callReads", laid_tierline_ops_callReads)] }
def TrimRunsSaid : Prop := trimRunsRow.holds Tryd.pinned (OpenSpec.ofChange trimRunsSpec)

/-- ITS FALSE NEIGHBOUR: 'it returns false'. Refute it at one input. -/
def trimRunsWrong : ChangeSpec := { name := "trimRuns", fn := fun _ => fun
  | [d1, d2] => { results := [.lit (.bool false)], args := [d1, d2] }
  | _ => none }
def TrimRunsWrongFalsely : Prop := trimRunsRow.holds Tryd.pinned (OpenSpec.ofChange trimRunsWrong)

/-- 'tierlinekeep.CountsSum': WHATEVER THE INPUT: true; the input reads as it did. -/
def countsSumSpec : ChangeSpec := { name := "countsSum", fn := fun _ => fun
  | [d1, d2] => { results := [.lit (.bool true)], args := [d1, d2] }
  | _ => none }
def countsSumRow : OpenClaim := { program := "ytpkgibdbmmhgdaadoor", sum := "7659b30bd42a3ffff54e7938bf83f6aafd3131e80eddad517db76f6cb34afeac", func := "tierline/tierlinekeep.CountsSum", spec := "countsSum", named := ["tierline/ops.parts", "tierline/ops.callReads"], apart := false, laid := [("tierline/ops.parts", laid_tierline_ops_parts), ("tierline/ops.callReads", laid_tierline_ops_callReads)] }
def CountsSumSaid : Prop := countsSumRow.holds Tryd.pinned (OpenSpec.ofChange countsSumSpec)

/-- ITS FALSE NEIGHBOUR: 'it returns false'. Refute it at one input. -/
def countsSumWrong : ChangeSpec := { name := "countsSum", fn := fun _ => fun
  | [d1, d2] => { results := [.lit (.bool false)], args := [d1, d2] }
  | _ => none }
def CountsSumWrongFalsely : Prop := countsSumRow.holds Tryd.pinned (OpenSpec.ofChange countsSumWrong)

/-- 'tierlinekeep.CountsFlow': WHATEVER THE INPUT: true; the input reads as it did. -/
def countsFlowSpec : ChangeSpec := { name := "countsFlow", fn := fun _ => fun
  | [d1, d2] => { results := [.lit (.bool true)], args := [d1, d2] }
  | _ => none }
def countsFlowRow : OpenClaim := { program := "ytpkgibdbmmhgdaadoor", sum := "7659b30bd42a3ffff54e7938bf83f6aafd3131e80eddad517db76f6cb34afeac", func := "tierline/tierlinekeep.CountsFlow", spec := "countsFlow", named := ["tierline/ops.parts", "tierline/ops.callReads"], apart := false, laid := [("tierline/ops.parts", laid_tierline_ops_parts), ("tierline/ops.callReads", laid_tierline_ops_callReads)] }
def CountsFlowSaid : Prop := countsFlowRow.holds Tryd.pinned (OpenSpec.ofChange countsFlowSpec)

/-- ITS FALSE NEIGHBOUR: 'it returns false'. Refute it at one input. -/
def countsFlowWrong : ChangeSpec := { name := "countsFlow", fn := fun _ => fun
  | [d1, d2] => { results := [.lit (.bool false)], args := [d1, d2] }
  | _ => none }
def CountsFlowWrongFalsely : Prop := countsFlowRow.holds Tryd.pinned (OpenSpec.ofChange countsFlowWrong)

/-- 'tierlinekeep.HotMost': WHATEVER THE INPUT: true; the input reads as it did. -/
def hotMostSpec : ChangeSpec := { name := "hotMost", fn := fun _ => fun
  | [d1, d2] => { results := [.lit (.bool true)], args := [d1, d2] }
  | _ => none }
def hotMostRow : OpenClaim := { program := "ytpkgibdbmmhgdaadoor", sum := "7659b30bd42a3ffff54e7938bf83f6aafd3131e80eddad517db76f6cb34afeac", func := "tierline/tierlinekeep.HotMost", spec := "hotMost", named := ["tierline/ops.parts", "tierline/ops.callReads"], apart := false, laid := [("tierline/ops.parts", laid_tierline_ops_parts), ("tierline/ops.callReads", laid_tierline_ops_callReads)] }
def HotMostSaid : Prop := hotMostRow.holds Tryd.pinned (OpenSpec.ofChange hotMostSpec)

/-- ITS FALSE NEIGHBOUR: 'it returns false'. Refute it at one input. -/
def hotMostWrong : ChangeSpec := { name := "hotMost", fn := fun _ => fun
  | [d1, d2] => { results := [.lit (.bool false)], args := [d1, d2] }
  | _ => none }
def HotMostWrongFalsely : Prop := hotMostRow.holds Tryd.pinned (OpenSpec.ofChange hotMostWrong)

/-- 'tierlinekeep.LoopsHeads': WHATEVER THE INPUT: true; the input reads as it did. -/
def loopsHeadsSpec : ChangeSpec := { name := "loopsHeads", fn := fun _ => fun
  | [d1, d2] => { results := [.lit (.bool true)], args := [d1, d2] }
  | _ => none }
def loopsHeadsRow : OpenClaim := { program := "ytpkgibdbmmhgdaadoor", sum := "7659b30bd42a3ffff54e7938bf83f6aafd3131e80eddad517db76f6cb34afeac", func := "tierline/tierlinekeep.LoopsHeads", spec := "loopsHeads", unfollowed := true, recurses := true, named := ["tierline/ops.parts", "tierline/ops.callReads"], apart := false, laid := [("tierline/ops.parts", laid_tierline_ops_parts), ("tierline/ops.callReads", laid_tierline_ops_callReads)] }
def LoopsHeadsSaid : Prop := loopsHeadsRow.holds Tryd.pinned (OpenSpec.ofChange loopsHeadsSpec)

/-- ITS FALSE NEIGHBOUR: 'it returns false'. Refute it at one input. -/
def loopsHeadsWrong : ChangeSpec := { name := "loopsHeads", fn := fun _ => fun
  | [d1, d2] => { results := [.lit (.bool false)], args := [d1, d2] }
  | _ => none }
def LoopsHeadsWrongFalsely : Prop := loopsHeadsRow.holds Tryd.pinned (OpenSpec.ofChange loopsHeadsWrong)

/-- 'tierlinekeep.LoopsNone': WHATEVER THE INPUT: true; the input reads as it did. -/
def loopsNoneSpec : ChangeSpec := { name := "loopsNone", fn := fun _ => fun
  | [d1, d2] => { results := [.lit (.bool true)], args := [d1, d2] }
  | _ => none }
def loopsNoneRow : OpenClaim := { program := "ytpkgibdbmmhgdaadoor", sum := "7659b30bd42a3ffff54e7938bf83f6aafd3131e80eddad517db76f6cb34afeac", func := "tierline/tierlinekeep.LoopsNone", spec := "loopsNone", unfollowed := true, recurses := true, named := ["tierline/ops.parts", "tierline/ops.callReads"], apart := false, laid := [("tierline/ops.parts", laid_tierline_ops_parts), ("tierline/ops.callReads", laid_tierline_ops_callReads)] }
def LoopsNoneSaid : Prop := loopsNoneRow.holds Tryd.pinned (OpenSpec.ofChange loopsNoneSpec)

/-- ITS FALSE NEIGHBOUR: 'it returns false'. Refute it at one input. -/
def loopsNoneWrong : ChangeSpec := { name := "loopsNone", fn := fun _ => fun
  | [d1, d2] => { results := [.lit (.bool false)], args := [d1, d2] }
  | _ => none }
def LoopsNoneWrongFalsely : Prop := loopsNoneRow.holds Tryd.pinned (OpenSpec.ofChange loopsNoneWrong)

/-- 'tierlinekeep.RunWays': WHATEVER THE INPUT: true; the input reads as it did. -/
def runWaysSpec : ChangeSpec := { name := "runWays", fn := fun _ => fun
  | [d1, d2] => { results := [.lit (.bool true)], args := [d1, d2] }
  | _ => none }
def runWaysRow : OpenClaim := { program := "ytpkgibdbmmhgdaadoor", sum := "7659b30bd42a3ffff54e7938bf83f6aafd3131e80eddad517db76f6cb34afeac", func := "tierline/tierlinekeep.RunWays", spec := "runWays", unfollowed := true, recurses := true, named := ["tierline/ops.parts", "tierline/ops.callReads"], apart := false, laid := [("tierline/ops.parts", laid_tierline_ops_parts), ("tierline/ops.callReads", laid_tierline_ops_callReads)] }
def RunWaysSaid : Prop := runWaysRow.holds Tryd.pinned (OpenSpec.ofChange runWaysSpec)

/-- ITS FALSE NEIGHBOUR: 'it returns false'. Refute it at one input. -/
def runWaysWrong : ChangeSpec := { name := "runWays", fn := fun _ => fun
  | [d1, d2] => { results := [.lit (.bool false)], args := [d1, d2] }
  | _ => none }
def RunWaysWrongFalsely : Prop := runWaysRow.holds Tryd.pinned (OpenSpec.ofChange runWaysWrong)

/-- 'tierlinekeep.LiveDead': WHATEVER THE INPUT: true; the input reads as it did. -/
def liveDeadSpec : ChangeSpec := { name := "liveDead", fn := fun _ => fun
  | [d1, d2, d3, d4] => { results := [.lit (.bool true)], args := [d1, d2, d3, d4] }
  | _ => none }
def liveDeadRow : OpenClaim := { program := "ytpkgibdbmmhgdaadoor", sum := "7659b30bd42a3ffff54e7938bf83f6aafd3131e80eddad517db76f6cb34afeac", func := "tierline/tierlinekeep.LiveDead", spec := "liveDead", named := ["tierline/ops.parts", "tierline/ops.callReads"], apart := false, laid := [("tierline/ops.parts", laid_tierline_ops_parts), ("tierline/ops.callReads", laid_tierline_ops_callReads)] }
def LiveDeadSaid : Prop := liveDeadRow.holds Tryd.pinned (OpenSpec.ofChange liveDeadSpec)

/-- ITS FALSE NEIGHBOUR: 'it returns false'. Refute it at one input. -/
def liveDeadWrong : ChangeSpec := { name := "liveDead", fn := fun _ => fun
  | [d1, d2, d3, d4] => { results := [.lit (.bool false)], args := [d1, d2, d3, d4] }
  | _ => none }
def LiveDeadWrongFalsely : Prop := liveDeadRow.holds Tryd.pinned (OpenSpec.ofChange liveDeadWrong)

/- THE SECOND FORM. 'bulk': how many values and letters a reading holds, each counted each time it is reached (what is shared counts as often as it is met; a slice's spare places count too). A statement '..UptoSaid' is the law's where the arguments, and the package variables that the reading takes, are together of bulk at most 1048576: NARROWER than '..Said'. Prove '..Said' where nothing that the law and all that it calls make is longer than what came in: it says more and counts as full. Else prove '..UptoSaid'. A law counts once. -/
mutual
def uptoBulk {H : Type} : DataW H → Nat
  | .lit (.string bytes) => bytes.length + 1
  | .lit _ => 1
  | .nil => 1
  | .ptr d => uptoBulk d + 1
  | .slice elems spare => uptoBulkAll elems + uptoBulkAll spare + 1
  | .agg parts => uptoBulkAll parts + 1
  | .iface _ d => uptoBulk d + 1
  | .map entries => uptoBulkEntries entries + 1
  | .held _ => 1
def uptoBulkAll {H : Type} : List (DataW H) → Nat
  | [] => 0
  | d :: r => uptoBulk d + uptoBulkAll r
def uptoBulkEntries {H : Type} : List (Lit × DataW H) → Nat
  | [] => 0
  | x :: r => uptoBulkEntry x + uptoBulkEntries r
def uptoBulkEntry {H : Type} : Lit × DataW H → Nat
  | (.string bytes, d) => bytes.length + uptoBulk d + 1
  | (_, d) => uptoBulk d + 1
 end
def uptoSmall : (H : Type) → List (DataW H) → Bool := fun _ ds => decide (uptoBulkAll ds ≤ 1048576)
def OpenSpec.upto (s : _root_.Go.ChangeSpec) : _root_.Go.OpenSpec := { _root_.Go.OpenSpec.ofChange s with cond := some uptoSmall }

/-- 'tierlinekeep.ProofSafe', WHERE WHAT IT READS IS OF BULK AT MOST 1048576: true; the input reads as it did. -/
def proofSafeUptoRow : OpenClaim := { program := "ytpkgibdbmmhgdaadoor", sum := "7659b30bd42a3ffff54e7938bf83f6aafd3131e80eddad517db76f6cb34afeac", func := "tierline/tierlinekeep.ProofSafe", spec := "proofSafe", named := ["tierline/ops.parts", "tierline/ops.callReads"], apart := false, laid := [("tierline/ops.parts", laid_tierline_ops_parts), ("tierline/ops.callReads", laid_tierline_ops_callReads)], narrowed := true }
def ProofSafeUptoSaid : Prop := proofSafeUptoRow.holds Tryd.pinned (OpenSpec.upto proofSafeSpec)

/-- 'tierlinekeep.RunEnds', WHERE WHAT IT READS IS OF BULK AT MOST 1048576: true; the input reads as it did. -/
def runEndsUptoRow : OpenClaim := { program := "ytpkgibdbmmhgdaadoor", sum := "7659b30bd42a3ffff54e7938bf83f6aafd3131e80eddad517db76f6cb34afeac", func := "tierline/tierlinekeep.RunEnds", spec := "runEnds", named := ["tierline/ops.parts", "tierline/ops.callReads"], apart := false, laid := [("tierline/ops.parts", laid_tierline_ops_parts), ("tierline/ops.callReads", laid_tierline_ops_callReads)], narrowed := true }
def RunEndsUptoSaid : Prop := runEndsUptoRow.holds Tryd.pinned (OpenSpec.upto runEndsSpec)

/-- 'tierlinekeep.AnswersMore', WHERE WHAT IT READS IS OF BULK AT MOST 1048576: true; the input reads as it did. -/
def answersMoreUptoRow : OpenClaim := { program := "ytpkgibdbmmhgdaadoor", sum := "7659b30bd42a3ffff54e7938bf83f6aafd3131e80eddad517db76f6cb34afeac", func := "tierline/tierlinekeep.AnswersMore", spec := "answersMore", named := ["tierline/ops.parts", "tierline/ops.callReads"], apart := false, laid := [("tierline/ops.parts", laid_tierline_ops_parts), ("tierline/ops.callReads", laid_tierline_ops_callReads)], narrowed := true }
def AnswersMoreUptoSaid : Prop := answersMoreUptoRow.holds Tryd.pinned (OpenSpec.upto answersMoreSpec)

/-- 'tierlinekeep.TrimRuns', WHERE WHAT IT READS IS OF BULK AT MOST 1048576: true; the input reads as it did. -/
def trimRunsUptoRow : OpenClaim := { program := "ytpkgibdbmmhgdaadoor", sum := "7659b30bd42a3ffff54e7938bf83f6aafd3131e80eddad517db76f6cb34afeac", func := "tierline/tierlinekeep.TrimRuns", spec := "trimRuns", named := ["tierline/ops.parts", "tierline/ops.callReads"], apart := false, laid := [("tierline/ops.parts", laid_tierline_ops_parts), ("tierline/ops.callReads", laid_tierline_ops_callReads)], narrowed := true }
def TrimRunsUptoSaid : Prop := trimRunsUptoRow.holds Tryd.pinned (OpenSpec.upto trimRunsSpec)

/-- 'tierlinekeep.CountsSum', WHERE WHAT IT READS IS OF BULK AT MOST 1048576: true; the input reads as it did. -/
def countsSumUptoRow : OpenClaim := { program := "ytpkgibdbmmhgdaadoor", sum := "7659b30bd42a3ffff54e7938bf83f6aafd3131e80eddad517db76f6cb34afeac", func := "tierline/tierlinekeep.CountsSum", spec := "countsSum", named := ["tierline/ops.parts", "tierline/ops.callReads"], apart := false, laid := [("tierline/ops.parts", laid_tierline_ops_parts), ("tierline/ops.callReads", laid_tierline_ops_callReads)], narrowed := true }
def CountsSumUptoSaid : Prop := countsSumUptoRow.holds Tryd.pinned (OpenSpec.upto countsSumSpec)

/-- 'tierlinekeep.CountsFlow', WHERE WHAT IT READS IS OF BULK AT MOST 1048576: true; the input reads as it did. -/
def countsFlowUptoRow : OpenClaim := { program := "ytpkgibdbmmhgdaadoor", sum := "7659b30bd42a3ffff54e7938bf83f6aafd3131e80eddad517db76f6cb34afeac", func := "tierline/tierlinekeep.CountsFlow", spec := "countsFlow", named := ["tierline/ops.parts", "tierline/ops.callReads"], apart := false, laid := [("tierline/ops.parts", laid_tierline_ops_parts), ("tierline/ops.callReads", laid_tierline_ops_callReads)], narrowed := true }
def CountsFlowUptoSaid : Prop := countsFlowUptoRow.holds Tryd.pinned (OpenSpec.upto countsFlowSpec)

/-- 'tierlinekeep.HotMost', WHERE WHAT IT READS IS OF BULK AT MOST 1048576: true; the input reads as it did. -/
def hotMostUptoRow : OpenClaim := { program := "ytpkgibdbmmhgdaadoor", sum := "7659b30bd42a3ffff54e7938bf83f6aafd3131e80eddad517db76f6cb34afeac", func := "tierline/tierlinekeep.HotMost", spec := "hotMost", named := ["tierline/ops.parts", "tierline/ops.callReads"], apart := false, laid := [("tierline/ops.parts", laid_tierline_ops_parts), ("tierline/ops.callReads", laid_tierline_ops_callReads)], narrowed := true }
def HotMostUptoSaid : Prop := hotMostUptoRow.holds Tryd.pinned (OpenSpec.upto hotMostSpec)

/-- 'tierlinekeep.LoopsHeads', WHERE WHAT IT READS IS OF BULK AT MOST 1048576: true; the input reads as it did. -/
def loopsHeadsUptoRow : OpenClaim := { program := "ytpkgibdbmmhgdaadoor", sum := "7659b30bd42a3ffff54e7938bf83f6aafd3131e80eddad517db76f6cb34afeac", func := "tierline/tierlinekeep.LoopsHeads", spec := "loopsHeads", unfollowed := true, recurses := true, named := ["tierline/ops.parts", "tierline/ops.callReads"], apart := false, laid := [("tierline/ops.parts", laid_tierline_ops_parts), ("tierline/ops.callReads", laid_tierline_ops_callReads)], narrowed := true }
def LoopsHeadsUptoSaid : Prop := loopsHeadsUptoRow.holds Tryd.pinned (OpenSpec.upto loopsHeadsSpec)

/-- 'tierlinekeep.LoopsNone', WHERE WHAT IT READS IS OF BULK AT MOST 1048576: true; the input reads as it did. -/
def loopsNoneUptoRow : OpenClaim := { program := "ytpkgibdbmmhgdaadoor", sum := "7659b30bd42a3ffff54e7938bf83f6aafd3131e80eddad517db76f6cb34afeac", func := "tierline/tierlinekeep.LoopsNone", spec := "loopsNone", unfollowed := true, recurses := true, named := ["tierline/ops.parts", "tierline/ops.callReads"], apart := false, laid := [("tierline/ops.parts", laid_tierline_ops_parts), ("tierline/ops.callReads", laid_tierline_ops_callReads)], narrowed := true }
def LoopsNoneUptoSaid : Prop := loopsNoneUptoRow.holds Tryd.pinned (OpenSpec.upto loopsNoneSpec)

/-- 'tierlinekeep.RunWays', WHERE WHAT IT READS IS OF BULK AT MOST 1048576: true; the input reads as it did. -/
def runWaysUptoRow : OpenClaim := { program := "ytpkgibdbmmhgdaadoor", sum := "7659b30bd42a3ffff54e7938bf83f6aafd3131e80eddad517db76f6cb34afeac", func := "tierline/tierlinekeep.RunWays", spec := "runWays", unfollowed := true, recurses := true, named := ["tierline/ops.parts", "tierline/ops.callReads"], apart := false, laid := [("tierline/ops.parts", laid_tierline_ops_parts), ("tierline/ops.callReads", laid_tierline_ops_callReads)], narrowed := true }
def RunWaysUptoSaid : Prop := runWaysUptoRow.holds Tryd.pinned (OpenSpec.upto runWaysSpec)

/-- 'tierlinekeep.LiveDead', WHERE WHAT IT READS IS OF BULK AT MOST 1048576: true; the input reads as it did. -/
def liveDeadUptoRow : OpenClaim := { program := "ytpkgibdbmmhgdaadoor", sum := "7659b30bd42a3ffff54e7938bf83f6aafd3131e80eddad517db76f6cb34afeac", func := "tierline/tierlinekeep.LiveDead", spec := "liveDead", named := ["tierline/ops.parts", "tierline/ops.callReads"], apart := false, laid := [("tierline/ops.parts", laid_tierline_ops_parts), ("tierline/ops.callReads", laid_tierline_ops_callReads)], narrowed := true }
def LiveDeadUptoSaid : Prop := liveDeadUptoRow.holds Tryd.pinned (OpenSpec.upto liveDeadSpec)

end Rows
end Go.Proofs.YtpkgibdbmmhgdaaDoor
