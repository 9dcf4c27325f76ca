/-
  NARROWER THAN 'FOR EVERY INPUT', by the rows' own cells (each row's printed sentence says how): TrimWheres: laid · TrimCalleds: laid · TrimPrograms: laid · TrimAgain: laid · TrimSmall: laid · TrimRuns: laid.
  DERIVED. THE GIVEN ROWS OF THIS SEAT. 6 by the template 'for every input the law returns true; each argument reads behind the call as it read before'; 0 by the template 'total and deterministic' (their statements: YtepnhemlhogmgaaDoorTotals.lean).
  GIVEN WITH THE SEED: the statements are not yours to turn. If you find one false, say at which input.
  Laid BY PROGRAM, IN A SANDBOX (cutbox-rows.mjs): the forced cells as the released guide's own fill.sh prints them over the translation d803cb87505a661b… (all of the seat's roots in one cut). By AI agents, Wed Nov 11 2026. No macro, syntax, notation, axiom, sorry.
-/
import Derived.Test.YtepnhemlhogmgaaDoorChecked
import GoSem.Claim
import GoSem.ClaimJoined
import GoSem.ClaimMapViews
import Derived.JoinedTies
import Derived.KernelRfl
namespace Go.Proofs.YtepnhemlhogmgaaDoor
/- THE CELL 'sum', in the pinned program and in every row, IS THE sha256 OF THE DUMP (.gsa) THAT YtepnhemlhogmgaaDoorProg.lean LOADS. Nothing in Lean hashes anything: it is a label: what it is worth is what the hold of that sum in a sandbox is worth. -/
noncomputable def Tryd.pinned : Pinned := { name := "ytepnhemlhogmgaadoor", sum := "d803cb87505a661b3f0b58be60be84d0f145dacf62e373e83faa674dbb3037ab", checked := Tryd.checked }
namespace Rows
def none {H : Type} : Left H := { results := [], args := [] }

/- WHAT THE LISTED PACKAGE-LEVEL VARIABLES READ AS WHEN THE CALL BEGINS. Each datum BY PROGRAM (the guide's laid-datum.mjs) off the statement by which the dump's own 'gosem.cut.vars' lays the variable. In a bare row this is a premise. The card (YtepnhemlhogmgaaDoorCards.lean) ties it to the program's text. -/
def laid_tierline_ops_parts {H : Type} : DataW H := .agg [.lit (.int .i64 0), .lit (.int .i64 9), .lit (.int .i64 7), .lit (.int .i64 7), .lit (.int .i64 7), .lit (.int .i64 7), .lit (.int .i64 7), .lit (.int .i64 7), .lit (.int .i64 7), .lit (.int .i64 7), .lit (.int .i64 7), .lit (.int .i64 7), .lit (.int .i64 7), .lit (.int .i64 3), .lit (.int .i64 6), .lit (.int .i64 16), .lit (.int .i64 18), .lit (.int .i64 39), .lit (.int .i64 3), .lit (.int .i64 2)]
def laid_tierline_proof_callReads {H : Type} : DataW H := .agg [.lit (.int .i64 0), .lit (.int .i64 2), .lit (.int .i64 6)]

/-- 'tierlinelaw.TrimWheres': WHATEVER THE INPUT: true; the input reads as it did. -/
def trimWheresSpec : ChangeSpec := { name := "trimWheres", fn := fun _ => fun
  | [d1, d2] => { results := [.lit (.bool true)], args := [d1, d2] }
  | _ => none }
def trimWheresRow : OpenClaim := { program := "ytepnhemlhogmgaadoor", sum := "d803cb87505a661b3f0b58be60be84d0f145dacf62e373e83faa674dbb3037ab", func := "tierline/tierlinelaw.TrimWheres", spec := "trimWheres", named := ["tierline/ops.parts", "tierline/proof.callReads"], apart := false, laid := [("tierline/ops.parts", laid_tierline_ops_parts), ("tierline/proof.callReads", laid_tierline_proof_callReads)] }
def TrimWheresSaid : Prop := trimWheresRow.holds Tryd.pinned (OpenSpec.ofChange trimWheresSpec)

/-- ITS FALSE NEIGHBOUR: 'it returns false'. Refute it at one input. -/
def trimWheresWrong : ChangeSpec := { name := "trimWheres", fn := fun _ => fun
  | [d1, d2] => { results := [.lit (.bool false)], args := [d1, d2] }
  | _ => none }
def TrimWheresWrongFalsely : Prop := trimWheresRow.holds Tryd.pinned (OpenSpec.ofChange trimWheresWrong)

/-- 'tierlinelaw.TrimCalleds': WHATEVER THE INPUT: true; the input reads as it did. -/
def trimCalledsSpec : ChangeSpec := { name := "trimCalleds", fn := fun _ => fun
  | [d] => { results := [.lit (.bool true)], args := [d] }
  | _ => none }
def trimCalledsRow : OpenClaim := { program := "ytepnhemlhogmgaadoor", sum := "d803cb87505a661b3f0b58be60be84d0f145dacf62e373e83faa674dbb3037ab", func := "tierline/tierlinelaw.TrimCalleds", spec := "trimCalleds", named := ["tierline/ops.parts", "tierline/proof.callReads"], apart := false, laid := [("tierline/ops.parts", laid_tierline_ops_parts), ("tierline/proof.callReads", laid_tierline_proof_callReads)] }
def TrimCalledsSaid : Prop := trimCalledsRow.holds Tryd.pinned (OpenSpec.ofChange trimCalledsSpec)

/-- ITS FALSE NEIGHBOUR: 'it returns false'. Refute it at one input. -/
def trimCalledsWrong : ChangeSpec := { name := "trimCalleds", fn := fun _ => fun
  | [d] => { results := [.lit (.bool false)], args := [d] }
  | _ => none }
def TrimCalledsWrongFalsely : Prop := trimCalledsRow.holds Tryd.pinned (OpenSpec.ofChange trimCalledsWrong)

/-- 'tierlinelaw.TrimPrograms': WHATEVER THE INPUT: true; the input reads as it did. -/
def trimProgramsSpec : ChangeSpec := { name := "trimPrograms", fn := fun _ => fun
  | [d] => { results := [.lit (.bool true)], args := [d] }
  | _ => none }
def trimProgramsRow : OpenClaim := { program := "ytepnhemlhogmgaadoor", sum := "d803cb87505a661b3f0b58be60be84d0f145dacf62e373e83faa674dbb3037ab", func := "tierline/tierlinelaw.TrimPrograms", spec := "trimPrograms", named := ["tierline/ops.parts", "tierline/proof.callReads"], apart := false, laid := [("tierline/ops.parts", laid_tierline_ops_parts), ("tierline/proof.callReads", laid_tierline_proof_callReads)] }
def TrimProgramsSaid : Prop := trimProgramsRow.holds Tryd.pinned (OpenSpec.ofChange trimProgramsSpec)

/-- ITS FALSE NEIGHBOUR: 'it returns false'. Refute it at one input. -/
def trimProgramsWrong : ChangeSpec := { name := "trimPrograms", fn := fun _ => fun
  | [d] => { results := [.lit (.bool false)], args := [d] }
  | _ => none }
def TrimProgramsWrongFalsely : Prop := trimProgramsRow.holds Tryd.pinned (OpenSpec.ofChange trimProgramsWrong)

/-- 'tierlinekeep.TrimAgain': WHATEVER THE INPUT: true; the input reads as it did. -/
def trimAgainSpec : ChangeSpec := { name := "trimAgain", fn := fun _ => fun
  | [d] => { results := [.lit (.bool true)], args := [d] }
  | _ => none }
def trimAgainRow : OpenClaim := { program := "ytepnhemlhogmgaadoor", sum := "d803cb87505a661b3f0b58be60be84d0f145dacf62e373e83faa674dbb3037ab", func := "tierline/tierlinekeep.TrimAgain", spec := "trimAgain", named := ["tierline/ops.parts", "tierline/proof.callReads"], apart := false, laid := [("tierline/ops.parts", laid_tierline_ops_parts), ("tierline/proof.callReads", laid_tierline_proof_callReads)] }
def TrimAgainSaid : Prop := trimAgainRow.holds Tryd.pinned (OpenSpec.ofChange trimAgainSpec)

/-- ITS FALSE NEIGHBOUR: 'it returns false'. Refute it at one input. -/
def trimAgainWrong : ChangeSpec := { name := "trimAgain", fn := fun _ => fun
  | [d] => { results := [.lit (.bool false)], args := [d] }
  | _ => none }
def TrimAgainWrongFalsely : Prop := trimAgainRow.holds Tryd.pinned (OpenSpec.ofChange trimAgainWrong)

/-- 'tierlinekeep.TrimSmall': WHATEVER THE INPUT: true; the input reads as it did. -/
def trimSmallSpec : ChangeSpec := { name := "trimSmall", fn := fun _ => fun
  | [d1, d2] => { results := [.lit (.bool true)], args := [d1, d2] }
  | _ => none }
def trimSmallRow : OpenClaim := { program := "ytepnhemlhogmgaadoor", sum := "d803cb87505a661b3f0b58be60be84d0f145dacf62e373e83faa674dbb3037ab", func := "tierline/tierlinekeep.TrimSmall", spec := "trimSmall", named := ["tierline/ops.parts", "tierline/proof.callReads"], apart := false, laid := [("tierline/ops.parts", laid_tierline_ops_parts), ("tierline/proof.callReads", laid_tierline_proof_callReads)] }
def TrimSmallSaid : Prop := trimSmallRow.holds Tryd.pinned (OpenSpec.ofChange trimSmallSpec)

/-- ITS FALSE NEIGHBOUR: 'it returns false'. Refute it at one input. -/
def trimSmallWrong : ChangeSpec := { name := "trimSmall", fn := fun _ => fun
  | [d1, d2] => { results := [.lit (.bool false)], args := [d1, d2] }
  | _ => none }
def TrimSmallWrongFalsely : Prop := trimSmallRow.holds Tryd.pinned (OpenSpec.ofChange trimSmallWrong)

/-- 'tierlinekeep.TrimRuns': WHATEVER THE INPUT: true; the input reads as it did. -/
def trimRunsSpec : ChangeSpec := { name := "trimRuns", fn := fun _ => fun
  | [d1, d2] => { results := [.lit (.bool true)], args := [d1, d2] }
  | _ => none }
def trimRunsRow : OpenClaim := { program := "ytepnhemlhogmgaadoor", sum := "d803cb87505a661b3f0b58be60be84d0f145dacf62e373e83faa674dbb3037ab", func := "tierline/tierlinekeep.TrimRuns", spec := "trimRuns", named := ["tierline/ops.parts", "tierline/proof.callReads"], apart := false, laid := [("tierline/ops.parts", laid_tierline_ops_parts), ("tierline/proof.callReads", laid_tierline_proof_callReads)] }
def TrimRunsSaid : Prop := trimRunsRow.holds Tryd.pinned (OpenSpec.ofChange trimRunsSpec)

/-- ITS FALSE NEIGHBOUR: 'it returns false'. Refute it at one input. -/
def trimRunsWrong : ChangeSpec := { name := "trimRuns", fn := fun _ => fun
  | [d1, d2] => { results := [.lit (.bool false)], args := [d1, d2] }
  | _ => none }
def TrimRunsWrongFalsely : Prop := trimRunsRow.holds Tryd.pinned (OpenSpec.ofChange trimRunsWrong)

/- THE SECOND FORM. 'bulk': how many values and letters a reading holds, each counted each time it is reached (what is shared counts as often as it is met; a slice's spare places count too). A statement '..UptoSaid' is the law's where the arguments, and the package variables that the reading takes, are together of bulk at most 1048576: NARROWER than '..Said'. Prove '..Said' where nothing that the law and all that it calls make is longer than what came in: it says more and counts as full. Else prove '..UptoSaid'. A law counts once. -/
mutual
def uptoBulk {H : Type} : DataW H → Nat
  | .lit (.string bytes) => bytes.length + 1
  | .lit _ => 1
  | .nil => 1
  | .ptr d => uptoBulk d + 1
  | .slice elems spare => uptoBulkAll elems + uptoBulkAll spare + 1
  | .agg parts => uptoBulkAll parts + 1
  | .iface _ d => uptoBulk d + 1
  | .map entries => uptoBulkEntries entries + 1
  | .held _ => 1
def uptoBulkAll {H : Type} : List (DataW H) → Nat
  | [] => 0
  | d :: r => uptoBulk d + uptoBulkAll r
def uptoBulkEntries {H : Type} : List (Lit × DataW H) → Nat
  | [] => 0
  | x :: r => uptoBulkEntry x + uptoBulkEntries r
def uptoBulkEntry {H : Type} : Lit × DataW H → Nat
  | (.string bytes, d) => bytes.length + uptoBulk d + 1
  | (_, d) => uptoBulk d + 1
 end
def uptoSmall : (H : Type) → List (DataW H) → Bool := fun _ ds => decide (uptoBulkAll ds ≤ 1048576)
def OpenSpec.upto (s : _root_.Go.ChangeSpec) : _root_.Go.OpenSpec := { _root_.Go.OpenSpec.ofChange s with cond := some uptoSmall }

/-- 'tierlinelaw.TrimWheres', WHERE WHAT IT READS IS OF BULK AT MOST 1048576: true; the input reads as it did. -/
def trimWheresUptoRow : OpenClaim := { program := "ytepnhemlhogmgaadoor", sum := "d803cb87505a661b3f0b58be60be84d0f145dacf62e373e83faa674dbb3037ab", func := "tierline/tierlinelaw.TrimWheres", spec := "trimWheres", named := ["tierline/ops.parts", "tierline/proof.callReads"], apart := false, laid := [("tierline/ops.parts", laid_tierline_ops_parts), ("tierline/proof.callReads", laid_tierline_proof_callReads)], narrowed := true }
def TrimWheresUptoSaid : Prop := trimWheresUptoRow.holds Tryd.pinned (OpenSpec.upto trimWheresSpec)

/-- 'tierlinelaw.TrimCalleds', WHERE WHAT IT READS IS OF BULK AT MOST 1048576: true; the input reads as it did. -/
def trimCalledsUptoRow : OpenClaim := { program := "ytepnhemlhogmgaadoor", sum := "d803cb87505a661b3f0b58be60be84d0f145dacf62e373e83faa674dbb3037ab", func := "tierline/tierlinelaw.TrimCalleds", spec := "trimCalleds", named := ["tierline/ops.parts", "tierline/proof.callReads"], apart := false, laid := [("tierline/ops.parts", laid_tierline_ops_parts), ("tierline/proof.callReads", laid_tierline_proof_callReads)], narrowed := true }
def TrimCalledsUptoSaid : Prop := trimCalledsUptoRow.holds Tryd.pinned (OpenSpec.upto trimCalledsSpec)

/-- 'tierlinelaw.TrimPrograms', WHERE WHAT IT READS IS OF BULK AT MOST 1048576: true; the input reads as it did. -/
def trimProgramsUptoRow : OpenClaim := { program := "ytepnhemlhogmgaadoor", sum := "d803cb87505a661b3f0b58be60be84d0f145dacf62e373e83faa674dbb3037ab", func := "tierline/tierlinelaw.TrimPrograms", spec := "trimPrograms", named := ["tierline/ops.parts", "tierline/proof.callReads"], apart := false, laid := [("tierline/ops.parts", laid_tierline_ops_parts), ("tierline/proof.callReads", laid_tierline_proof_callReads)], narrowed := true }
def TrimProgramsUptoSaid : Prop := trimProgramsUptoRow.holds Tryd.pinned (OpenSpec.upto trimProgramsSpec)

/-- 'tierlinekeep.TrimAgain', WHERE WHAT IT READS IS OF BULK AT MOST 1048576: true; the input reads as it did. -/
def trimAgainUptoRow : OpenClaim := { program := "ytepnhemlhogmgaadoor", sum := "d803cb87505a661b3f0b58be60be84d0f145dacf62e373e83faa674dbb3037ab", func := "tierline/tierlinekeep.TrimAgain", spec := "trimAgain", named := ["tierline/ops.parts", "tierline/proof.callReads"], apart := false, laid := [("tierline/ops.parts", laid_tierline_ops_parts), ("tierline/proof.callReads", laid_tierline_proof_callReads)], narrowed := true }
def TrimAgainUptoSaid : Prop := trimAgainUptoRow.holds Tryd.pinned (OpenSpec.upto trimAgainSpec)

/-- 'tierlinekeep.TrimSmall', WHERE WHAT IT READS IS OF BULK AT MOST 1048576: true; the input reads as it did. -/
def trimSmallUptoRow : OpenClaim := { program := "ytepnhemlhogmgaadoor", sum := "d803cb87505a661b3f0b58be60be84d0f145dacf62e373e83faa674dbb3037ab", func := "tierline/tierlinekeep.TrimSmall", spec := "trimSmall", named := ["tierline/ops.parts", "tierline/proof.callReads"], apart := false, laid := [("tierline/ops.parts", laid_tierline_ops_parts), ("tierline/proof.callReads", laid_tierline_proof_callReads)], narrowed := true }
def TrimSmallUptoSaid : Prop := trimSmallUptoRow.holds Tryd.pinned (OpenSpec.upto trimSmallSpec)

/-- 'tierlinekeep.TrimRuns', WHERE WHAT IT READS IS OF BULK AT MOST 1048576: true; the input reads as it did. -/
def trimRunsUptoRow : OpenClaim := { program := "ytepnhemlhogmgaadoor", sum := "d803cb87505a661b3f0b58be60be84d0f145dacf62e373e83faa674dbb3037ab", func := "tierline/tierlinekeep.TrimRuns", spec := "trimRuns", named := ["tierline/ops.parts", "tierline/proof.callReads"], apart := false, laid := [("tierline/ops.parts", laid_tierline_ops_parts), ("tierline/proof.callReads", laid_tierline_proof_callReads)], narrowed := true }
def TrimRunsUptoSaid : Prop := trimRunsUptoRow.holds Tryd.pinned (OpenSpec.upto trimRunsSpec)

end Rows
end Go.Proofs.YtepnhemlhogmgaaDoor
