/-
  NARROWER THAN 'FOR EVERY INPUT', by the rows' own cells (each row's printed sentence says how): StepBegins: laid · StepChecks: laid · StepNexts: laid · StepWalks: laid · StepRuns: laid · ProofSafe: laid.
  DERIVED. THE GIVEN ROWS OF THIS SEAT. 6 by the template 'for every input the law returns true; each argument reads behind the call as it read before'; 0 by the template 'total and deterministic' (their statements: YtfbebffncdcjeaaDoorTotals.lean).
  GIVEN WITH THE SEED: the statements are not yours to turn. If you find one false, say at which input.
  Laid BY PROGRAM, IN A SANDBOX (cutbox-rows.mjs): the forced cells as the released guide's own fill.sh prints them over the translation 01a053a10e2ad1f4… (all of the seat's roots in one cut). By AI agents, Wed Nov 11 2026. No macro, syntax, notation, axiom, sorry.
-/
import Derived.Test.YtfbebffncdcjeaaDoorChecked
import GoSem.Claim
import GoSem.ClaimJoined
import GoSem.ClaimMapViews
import Derived.JoinedTies
import Derived.KernelRfl
namespace Go.Proofs.YtfbebffncdcjeaaDoor
/- THE CELL 'sum', in the pinned program and in every row, IS THE sha256 OF THE DUMP (.gsa) THAT YtfbebffncdcjeaaDoorProg.lean LOADS. Nothing in Lean hashes anything: it is a label: what it is worth is what the hold of that sum in a sandbox is worth. -/
noncomputable def Tryd.pinned : Pinned := { name := "ytfbebffncdcjeaadoor", sum := "01a053a10e2ad1f4f4247a47a37046dff1f40ba883eb99e2c2b2a0910db04b97", checked := Tryd.checked }
namespace Rows
def none {H : Type} : Left H := { results := [], args := [] }

/- WHAT THE LISTED PACKAGE-LEVEL VARIABLES READ AS WHEN THE CALL BEGINS. Each datum BY PROGRAM (the guide's laid-datum.mjs) off the statement by which the dump's own 'gosem.cut.vars' lays the variable. In a bare row this is a premise. The card (YtfbebffncdcjeaaDoorCards.lean) ties it to the program's text. -/
def laid_tierline_ops_parts {H : Type} : DataW H := .agg [.lit (.int .i64 0), .lit (.int .i64 9), .lit (.int .i64 7), .lit (.int .i64 7), .lit (.int .i64 7), .lit (.int .i64 7), .lit (.int .i64 7), .lit (.int .i64 7), .lit (.int .i64 7), .lit (.int .i64 7), .lit (.int .i64 7), .lit (.int .i64 7), .lit (.int .i64 7), .lit (.int .i64 3), .lit (.int .i64 6), .lit (.int .i64 16), .lit (.int .i64 18), .lit (.int .i64 39), .lit (.int .i64 3), .lit (.int .i64 2)]
def laid_tierline_proof_callReads {H : Type} : DataW H := .agg [.lit (.int .i64 0), .lit (.int .i64 2), .lit (.int .i64 6)]

/-- 'tierlinelaw.StepBegins': WHATEVER THE INPUT: true; the input reads as it did. -/
def stepBeginsSpec : ChangeSpec := { name := "stepBegins", fn := fun _ => fun
  | [d1, d2, d3, d4] => { results := [.lit (.bool true)], args := [d1, d2, d3, d4] }
  | _ => none }
def stepBeginsRow : OpenClaim := { program := "ytfbebffncdcjeaadoor", sum := "01a053a10e2ad1f4f4247a47a37046dff1f40ba883eb99e2c2b2a0910db04b97", func := "tierline/tierlinelaw.StepBegins", spec := "stepBegins", named := ["tierline/ops.parts", "tierline/proof.callReads"], apart := false, laid := [("tierline/ops.parts", laid_tierline_ops_parts), ("tierline/proof.callReads", laid_tierline_proof_callReads)] }
def StepBeginsSaid : Prop := stepBeginsRow.holds Tryd.pinned (OpenSpec.ofChange stepBeginsSpec)

/-- ITS FALSE NEIGHBOUR: 'it returns false'. Refute it at one input. -/
def stepBeginsWrong : ChangeSpec := { name := "stepBegins", fn := fun _ => fun
  | [d1, d2, d3, d4] => { results := [.lit (.bool false)], args := [d1, d2, d3, d4] }
  | _ => none }
def StepBeginsWrongFalsely : Prop := stepBeginsRow.holds Tryd.pinned (OpenSpec.ofChange stepBeginsWrong)

/-- 'tierlinelaw.StepChecks': WHATEVER THE INPUT: true; the input reads as it did. -/
def stepChecksSpec : ChangeSpec := { name := "stepChecks", fn := fun _ => fun
  | [d1, d2] => { results := [.lit (.bool true)], args := [d1, d2] }
  | _ => none }
def stepChecksRow : OpenClaim := { program := "ytfbebffncdcjeaadoor", sum := "01a053a10e2ad1f4f4247a47a37046dff1f40ba883eb99e2c2b2a0910db04b97", func := "tierline/tierlinelaw.StepChecks", spec := "stepChecks", named := ["tierline/ops.parts", "tierline/proof.callReads"], apart := false, laid := [("tierline/ops.parts", laid_tierline_ops_parts), ("tierline/proof.callReads", laid_tierline_proof_callReads)] }
def StepChecksSaid : Prop := stepChecksRow.holds Tryd.pinned (OpenSpec.ofChange stepChecksSpec)

/-- ITS FALSE NEIGHBOUR: 'it returns false'. Refute it at one input. -/
def stepChecksWrong : ChangeSpec := { name := "stepChecks", fn := fun _ => fun
  | [d1, d2] => { results := [.lit (.bool false)], args := [d1, d2] }
  | _ => none }
def StepChecksWrongFalsely : Prop := stepChecksRow.holds Tryd.pinned (OpenSpec.ofChange stepChecksWrong)

/-- 'tierlinelaw.StepNexts': WHATEVER THE INPUT: true; the input reads as it did. -/
def stepNextsSpec : ChangeSpec := { name := "stepNexts", fn := fun _ => fun
  | [d1, d2] => { results := [.lit (.bool true)], args := [d1, d2] }
  | _ => none }
def stepNextsRow : OpenClaim := { program := "ytfbebffncdcjeaadoor", sum := "01a053a10e2ad1f4f4247a47a37046dff1f40ba883eb99e2c2b2a0910db04b97", func := "tierline/tierlinelaw.StepNexts", spec := "stepNexts", named := ["tierline/ops.parts", "tierline/proof.callReads"], apart := false, laid := [("tierline/ops.parts", laid_tierline_ops_parts), ("tierline/proof.callReads", laid_tierline_proof_callReads)] }
def StepNextsSaid : Prop := stepNextsRow.holds Tryd.pinned (OpenSpec.ofChange stepNextsSpec)

/-- ITS FALSE NEIGHBOUR: 'it returns false'. Refute it at one input. -/
def stepNextsWrong : ChangeSpec := { name := "stepNexts", fn := fun _ => fun
  | [d1, d2] => { results := [.lit (.bool false)], args := [d1, d2] }
  | _ => none }
def StepNextsWrongFalsely : Prop := stepNextsRow.holds Tryd.pinned (OpenSpec.ofChange stepNextsWrong)

/-- 'tierlinelaw.StepWalks': WHATEVER THE INPUT: true; the input reads as it did. -/
def stepWalksSpec : ChangeSpec := { name := "stepWalks", fn := fun _ => fun
  | [d1, d2, d3] => { results := [.lit (.bool true)], args := [d1, d2, d3] }
  | _ => none }
def stepWalksRow : OpenClaim := { program := "ytfbebffncdcjeaadoor", sum := "01a053a10e2ad1f4f4247a47a37046dff1f40ba883eb99e2c2b2a0910db04b97", func := "tierline/tierlinelaw.StepWalks", spec := "stepWalks", named := ["tierline/ops.parts", "tierline/proof.callReads"], apart := false, laid := [("tierline/ops.parts", laid_tierline_ops_parts), ("tierline/proof.callReads", laid_tierline_proof_callReads)] }
def StepWalksSaid : Prop := stepWalksRow.holds Tryd.pinned (OpenSpec.ofChange stepWalksSpec)

/-- ITS FALSE NEIGHBOUR: 'it returns false'. Refute it at one input. -/
def stepWalksWrong : ChangeSpec := { name := "stepWalks", fn := fun _ => fun
  | [d1, d2, d3] => { results := [.lit (.bool false)], args := [d1, d2, d3] }
  | _ => none }
def StepWalksWrongFalsely : Prop := stepWalksRow.holds Tryd.pinned (OpenSpec.ofChange stepWalksWrong)

/-- 'tierlinelaw.StepRuns': WHATEVER THE INPUT: true; the input reads as it did. -/
def stepRunsSpec : ChangeSpec := { name := "stepRuns", fn := fun _ => fun
  | [d1, d2, d3, d4] => { results := [.lit (.bool true)], args := [d1, d2, d3, d4] }
  | _ => none }
def stepRunsRow : OpenClaim := { program := "ytfbebffncdcjeaadoor", sum := "01a053a10e2ad1f4f4247a47a37046dff1f40ba883eb99e2c2b2a0910db04b97", func := "tierline/tierlinelaw.StepRuns", spec := "stepRuns", named := ["tierline/ops.parts", "tierline/proof.callReads"], apart := false, laid := [("tierline/ops.parts", laid_tierline_ops_parts), ("tierline/proof.callReads", laid_tierline_proof_callReads)] }
def StepRunsSaid : Prop := stepRunsRow.holds Tryd.pinned (OpenSpec.ofChange stepRunsSpec)

/-- ITS FALSE NEIGHBOUR: 'it returns false'. Refute it at one input. -/
def stepRunsWrong : ChangeSpec := { name := "stepRuns", fn := fun _ => fun
  | [d1, d2, d3, d4] => { results := [.lit (.bool false)], args := [d1, d2, d3, d4] }
  | _ => none }
def StepRunsWrongFalsely : Prop := stepRunsRow.holds Tryd.pinned (OpenSpec.ofChange stepRunsWrong)

/-- 'tierlinekeep.ProofSafe': WHATEVER THE INPUT: true; the input reads as it did. -/
def proofSafeSpec : ChangeSpec := { name := "proofSafe", fn := fun _ => fun
  | [d1, d2] => { results := [.lit (.bool true)], args := [d1, d2] }
  | _ => none }
def proofSafeRow : OpenClaim := { program := "ytfbebffncdcjeaadoor", sum := "01a053a10e2ad1f4f4247a47a37046dff1f40ba883eb99e2c2b2a0910db04b97", func := "tierline/tierlinekeep.ProofSafe", spec := "proofSafe", named := ["tierline/ops.parts", "tierline/proof.callReads"], apart := false, laid := [("tierline/ops.parts", laid_tierline_ops_parts), ("tierline/proof.callReads", laid_tierline_proof_callReads)] }
def ProofSafeSaid : Prop := proofSafeRow.holds Tryd.pinned (OpenSpec.ofChange proofSafeSpec)

/-- ITS FALSE NEIGHBOUR: 'it returns false'. Refute it at one input. -/
def proofSafeWrong : ChangeSpec := { name := "proofSafe", fn := fun _ => fun
  | [d1, d2] => { results := [.lit (.bool false)], args := [d1, d2] }
  | _ => none }
def ProofSafeWrongFalsely : Prop := proofSafeRow.holds Tryd.pinned (OpenSpec.ofChange proofSafeWrong)

/- THE SECOND FORM. 'bulk': how many values and letters a reading holds, each counted each time it is reached (what is shared counts as often as it is met; a slice's spare places count too). A statement '..UptoSaid' is the law's where the arguments, and the package variables that the reading takes, are together of bulk at most 1048576: NARROWER than '..Said'. Prove '..Said' where nothing that the law and all that it calls make is longer than what came in: it says more and counts as full. Else prove '..UptoSaid'. A law counts once. -/
mutual
def uptoBulk {H : Type} : DataW H → Nat
  | .lit (.string bytes) => bytes.length + 1
  | .lit _ => 1
  | .nil => 1
  | .ptr d => uptoBulk d + 1
  | .slice elems spare => uptoBulkAll elems + uptoBulkAll spare + 1
  | .agg parts => uptoBulkAll parts + 1
  | .iface _ d => uptoBulk d + 1
  | .map entries => uptoBulkEntries entries + 1
  | .held _ => 1
def uptoBulkAll {H : Type} : List (DataW H) → Nat
  | [] => 0
  | d :: r => uptoBulk d + uptoBulkAll r
def uptoBulkEntries {H : Type} : List (Lit × DataW H) → Nat
  | [] => 0
  | x :: r => uptoBulkEntry x + uptoBulkEntries r
def uptoBulkEntry {H : Type} : Lit × DataW H → Nat
  | (.string bytes, d) => bytes.length + uptoBulk d + 1
  | (_, d) => uptoBulk d + 1
 end
def uptoSmall : (H : Type) → List (DataW H) → Bool := fun _ ds => decide (uptoBulkAll ds ≤ 1048576)
def OpenSpec.upto (s : _root_.Go.ChangeSpec) : _root_.Go.OpenSpec := { _root_.Go.OpenSpec.ofChange s with cond := some uptoSmall }

/-- 'tierlinelaw.StepBegins', WHERE WHAT IT READS IS OF BULK AT MOST 1048576: true; the input reads as it did. -/
def stepBeginsUptoRow : OpenClaim := { program := "ytfbebffncdcjeaadoor", sum := "01a053a10e2ad1f4f4247a47a37046dff1f40ba883eb99e2c2b2a0910db04b97", func := "tierline/tierlinelaw.StepBegins", spec := "stepBegins", named := ["tierline/ops.parts", "tierline/proof.callReads"], apart := false, laid := [("tierline/ops.parts", laid_tierline_ops_parts), ("tierline/proof.callReads", laid_tierline_proof_callReads)], narrowed := true }
def StepBeginsUptoSaid : Prop := stepBeginsUptoRow.holds Tryd.pinned (OpenSpec.upto stepBeginsSpec)

/-- 'tierlinelaw.StepChecks', WHERE WHAT IT READS IS OF BULK AT MOST 1048576: true; the input reads as it did. -/
def stepChecksUptoRow : OpenClaim := { program := "ytfbebffncdcjeaadoor", sum := "01a053a10e2ad1f4f4247a47a37046dff1f40ba883eb99e2c2b2a0910db04b97", func := "tierline/tierlinelaw.StepChecks", spec := "stepChecks", named := ["tierline/ops.parts", "tierline/proof.callReads"], apart := false, laid := [("tierline/ops.parts", laid_tierline_ops_parts), ("tierline/proof.callReads", laid_tierline_proof_callReads)], narrowed := true }
def StepChecksUptoSaid : Prop := stepChecksUptoRow.holds Tryd.pinned (OpenSpec.upto stepChecksSpec)

/-- 'tierlinelaw.StepNexts', WHERE WHAT IT READS IS OF BULK AT MOST 1048576: true; the input reads as it did. -/
def stepNextsUptoRow : OpenClaim := { program := "ytfbebffncdcjeaadoor", sum := "01a053a10e2ad1f4f4247a47a37046dff1f40ba883eb99e2c2b2a0910db04b97", func := "tierline/tierlinelaw.StepNexts", spec := "stepNexts", named := ["tierline/ops.parts", "tierline/proof.callReads"], apart := false, laid := [("tierline/ops.parts", laid_tierline_ops_parts), ("tierline/proof.callReads", laid_tierline_proof_callReads)], narrowed := true }
def StepNextsUptoSaid : Prop := stepNextsUptoRow.holds Tryd.pinned (OpenSpec.upto stepNextsSpec)

/-- 'tierlinelaw.StepWalks', WHERE WHAT IT READS IS OF BULK AT MOST 1048576: true; the input reads as it did. -/
def stepWalksUptoRow : OpenClaim := { program := "ytfbebffncdcjeaadoor", sum := "01a053a10e2ad1f4f4247a47a37046dff1f40ba883eb99e2c2b2a0910db04b97", func := "tierline/tierlinelaw.StepWalks", spec := "stepWalks", named := ["tierline/ops.parts", "tierline/proof.callReads"], apart := false, laid := [("tierline/ops.parts", laid_tierline_ops_parts), ("tierline/proof.callReads", laid_tierline_proof_callReads)], narrowed := true }
def StepWalksUptoSaid : Prop := stepWalksUptoRow.holds Tryd.pinned (OpenSpec.upto stepWalksSpec)

/-- 'tierlinelaw.StepRuns', WHERE WHAT IT READS IS OF BULK AT MOST 1048576: true; the input reads as it did. -/
def stepRunsUptoRow : OpenClaim := { program := "ytfbebffncdcjeaadoor", sum := "01a053a10e2ad1f4f4247a47a37046dff1f40ba883eb99e2c2b2a0910db04b97", func := "tierline/tierlinelaw.StepRuns", spec := "stepRuns", named := ["tierline/ops.parts", "tierline/proof.callReads"], apart := false, laid := [("tierline/ops.parts", laid_tierline_ops_parts), ("tierline/proof.callReads", laid_tierline_proof_callReads)], narrowed := true }
def StepRunsUptoSaid : Prop := stepRunsUptoRow.holds Tryd.pinned (OpenSpec.upto stepRunsSpec)

/-- 'tierlinekeep.ProofSafe', WHERE WHAT IT READS IS OF BULK AT MOST 1048576: true; the input reads as it did. -/
def proofSafeUptoRow : OpenClaim := { program := "ytfbebffncdcjeaadoor", sum := "01a053a10e2ad1f4f4247a47a37046dff1f40ba883eb99e2c2b2a0910db04b97", func := "tierline/tierlinekeep.ProofSafe", spec := "proofSafe", named := ["tierline/ops.parts", "tierline/proof.callReads"], apart := false, laid := [("tierline/ops.parts", laid_tierline_ops_parts), ("tierline/proof.callReads", laid_tierline_proof_callReads)], narrowed := true }
def ProofSafeUptoSaid : Prop := proofSafeUptoRow.holds Tryd.pinned (OpenSpec.upto proofSafeSpec)

end Rows
end Go.Proofs.YtfbebffncdcjeaaDoor
