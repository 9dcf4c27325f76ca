/-
  NARROWER THAN 'FOR EVERY INPUT', by the rows' own cells (each row's printed sentence says how): ProofSures: laid · ProofChecks: laid · ProofReads: laid · ReadsTold: laid · SureFirst: laid · ProofUnset: laid.
  DERIVED. THE GIVEN ROWS OF THIS SEAT. 6 by the template 'for every input the law returns true; each argument reads behind the call as it read before'; 0 by the template 'total and deterministic' (their statements: YthnajfekhnocaaaDoorTotals.lean).
  GIVEN WITH THE SEED: the statements are not yours to turn. If you find one false, say at which input.
  Laid BY PROGRAM, IN A SANDBOX (cutbox-rows.mjs): the forced cells as the released guide's own fill.sh prints them over the translation dafb9cff90bd8677… (all of the seat's roots in one cut). By AI agents, Wed Nov 11 2026. No macro, syntax, notation, axiom, sorry.
-/
import Derived.Test.YthnajfekhnocaaaDoorChecked
import GoSem.Claim
import GoSem.ClaimJoined
import GoSem.ClaimMapViews
import Derived.JoinedTies
import Derived.KernelRfl
namespace Go.Proofs.YthnajfekhnocaaaDoor
/- THE CELL 'sum', in the pinned program and in every row, IS THE sha256 OF THE DUMP (.gsa) THAT YthnajfekhnocaaaDoorProg.lean LOADS. Nothing in Lean hashes anything: it is a label: what it is worth is what the hold of that sum in a sandbox is worth. -/
noncomputable def Tryd.pinned : Pinned := { name := "ythnajfekhnocaaadoor", sum := "dafb9cff90bd8677afdf2c80bc3f18cb43ed14aa40f718f9d98f55bfafaa8712", checked := Tryd.checked }
namespace Rows
def none {H : Type} : Left H := { results := [], args := [] }

/- WHAT THE LISTED PACKAGE-LEVEL VARIABLES READ AS WHEN THE CALL BEGINS. Each datum BY PROGRAM (the guide's laid-datum.mjs) off the statement by which the dump's own 'gosem.cut.vars' lays the variable. In a bare row this is a premise. The card (YthnajfekhnocaaaDoorCards.lean) ties it to the program's text. -/
def laid_tierline_ops_parts {H : Type} : DataW H := .agg [.lit (.int .i64 0), .lit (.int .i64 9), .lit (.int .i64 7), .lit (.int .i64 7), .lit (.int .i64 7), .lit (.int .i64 7), .lit (.int .i64 7), .lit (.int .i64 7), .lit (.int .i64 7), .lit (.int .i64 7), .lit (.int .i64 7), .lit (.int .i64 7), .lit (.int .i64 7), .lit (.int .i64 3), .lit (.int .i64 6), .lit (.int .i64 16), .lit (.int .i64 18), .lit (.int .i64 39), .lit (.int .i64 3), .lit (.int .i64 2)]
def laid_tierline_proof_callReads {H : Type} : DataW H := .agg [.lit (.int .i64 0), .lit (.int .i64 2), .lit (.int .i64 6)]

/-- 'tierlinelaw.ProofSures': WHATEVER THE INPUT: true; the input reads as it did. -/
def proofSuresSpec : ChangeSpec := { name := "proofSures", fn := fun _ => fun
  | [d1, d2] => { results := [.lit (.bool true)], args := [d1, d2] }
  | _ => none }
def proofSuresRow : OpenClaim := { program := "ythnajfekhnocaaadoor", sum := "dafb9cff90bd8677afdf2c80bc3f18cb43ed14aa40f718f9d98f55bfafaa8712", func := "tierline/tierlinelaw.ProofSures", spec := "proofSures", named := ["tierline/ops.parts"], apart := false, laid := [("tierline/ops.parts", laid_tierline_ops_parts)] }
def ProofSuresSaid : Prop := proofSuresRow.holds Tryd.pinned (OpenSpec.ofChange proofSuresSpec)

/-- ITS FALSE NEIGHBOUR: 'it returns false'. Refute it at one input. -/
def proofSuresWrong : ChangeSpec := { name := "proofSures", fn := fun _ => fun
  | [d1, d2] => { results := [.lit (.bool false)], args := [d1, d2] }
  | _ => none }
def ProofSuresWrongFalsely : Prop := proofSuresRow.holds Tryd.pinned (OpenSpec.ofChange proofSuresWrong)

/-- 'tierlinelaw.ProofChecks': WHATEVER THE INPUT: true; the input reads as it did. -/
def proofChecksSpec : ChangeSpec := { name := "proofChecks", fn := fun _ => fun
  | [d] => { results := [.lit (.bool true)], args := [d] }
  | _ => none }
def proofChecksRow : OpenClaim := { program := "ythnajfekhnocaaadoor", sum := "dafb9cff90bd8677afdf2c80bc3f18cb43ed14aa40f718f9d98f55bfafaa8712", func := "tierline/tierlinelaw.ProofChecks", spec := "proofChecks", named := ["tierline/ops.parts", "tierline/proof.callReads"], apart := false, laid := [("tierline/ops.parts", laid_tierline_ops_parts), ("tierline/proof.callReads", laid_tierline_proof_callReads)] }
def ProofChecksSaid : Prop := proofChecksRow.holds Tryd.pinned (OpenSpec.ofChange proofChecksSpec)

/-- ITS FALSE NEIGHBOUR: 'it returns false'. Refute it at one input. -/
def proofChecksWrong : ChangeSpec := { name := "proofChecks", fn := fun _ => fun
  | [d] => { results := [.lit (.bool false)], args := [d] }
  | _ => none }
def ProofChecksWrongFalsely : Prop := proofChecksRow.holds Tryd.pinned (OpenSpec.ofChange proofChecksWrong)

/-- 'tierlinelaw.ProofReads': WHATEVER THE INPUT: true; the input reads as it did. -/
def proofReadsSpec : ChangeSpec := { name := "proofReads", fn := fun _ => fun
  | [d1, d2, d3] => { results := [.lit (.bool true)], args := [d1, d2, d3] }
  | _ => none }
def proofReadsRow : OpenClaim := { program := "ythnajfekhnocaaadoor", sum := "dafb9cff90bd8677afdf2c80bc3f18cb43ed14aa40f718f9d98f55bfafaa8712", func := "tierline/tierlinelaw.ProofReads", spec := "proofReads", named := ["tierline/ops.parts", "tierline/proof.callReads"], apart := false, laid := [("tierline/ops.parts", laid_tierline_ops_parts), ("tierline/proof.callReads", laid_tierline_proof_callReads)] }
def ProofReadsSaid : Prop := proofReadsRow.holds Tryd.pinned (OpenSpec.ofChange proofReadsSpec)

/-- ITS FALSE NEIGHBOUR: 'it returns false'. Refute it at one input. -/
def proofReadsWrong : ChangeSpec := { name := "proofReads", fn := fun _ => fun
  | [d1, d2, d3] => { results := [.lit (.bool false)], args := [d1, d2, d3] }
  | _ => none }
def ProofReadsWrongFalsely : Prop := proofReadsRow.holds Tryd.pinned (OpenSpec.ofChange proofReadsWrong)

/-- 'tierlinekeep.ReadsTold': WHATEVER THE INPUT: true; the input reads as it did. -/
def readsToldSpec : ChangeSpec := { name := "readsTold", fn := fun _ => fun
  | [d1, d2, d3] => { results := [.lit (.bool true)], args := [d1, d2, d3] }
  | _ => none }
def readsToldRow : OpenClaim := { program := "ythnajfekhnocaaadoor", sum := "dafb9cff90bd8677afdf2c80bc3f18cb43ed14aa40f718f9d98f55bfafaa8712", func := "tierline/tierlinekeep.ReadsTold", spec := "readsTold", named := ["tierline/ops.parts", "tierline/proof.callReads"], apart := false, laid := [("tierline/ops.parts", laid_tierline_ops_parts), ("tierline/proof.callReads", laid_tierline_proof_callReads)] }
def ReadsToldSaid : Prop := readsToldRow.holds Tryd.pinned (OpenSpec.ofChange readsToldSpec)

/-- ITS FALSE NEIGHBOUR: 'it returns false'. Refute it at one input. -/
def readsToldWrong : ChangeSpec := { name := "readsTold", fn := fun _ => fun
  | [d1, d2, d3] => { results := [.lit (.bool false)], args := [d1, d2, d3] }
  | _ => none }
def ReadsToldWrongFalsely : Prop := readsToldRow.holds Tryd.pinned (OpenSpec.ofChange readsToldWrong)

/-- 'tierlinekeep.SureFirst': WHATEVER THE INPUT: true; the input reads as it did. -/
def sureFirstSpec : ChangeSpec := { name := "sureFirst", fn := fun _ => fun
  | [d1, d2] => { results := [.lit (.bool true)], args := [d1, d2] }
  | _ => none }
def sureFirstRow : OpenClaim := { program := "ythnajfekhnocaaadoor", sum := "dafb9cff90bd8677afdf2c80bc3f18cb43ed14aa40f718f9d98f55bfafaa8712", func := "tierline/tierlinekeep.SureFirst", spec := "sureFirst", named := ["tierline/ops.parts", "tierline/proof.callReads"], apart := false, laid := [("tierline/ops.parts", laid_tierline_ops_parts), ("tierline/proof.callReads", laid_tierline_proof_callReads)] }
def SureFirstSaid : Prop := sureFirstRow.holds Tryd.pinned (OpenSpec.ofChange sureFirstSpec)

/-- ITS FALSE NEIGHBOUR: 'it returns false'. Refute it at one input. -/
def sureFirstWrong : ChangeSpec := { name := "sureFirst", fn := fun _ => fun
  | [d1, d2] => { results := [.lit (.bool false)], args := [d1, d2] }
  | _ => none }
def SureFirstWrongFalsely : Prop := sureFirstRow.holds Tryd.pinned (OpenSpec.ofChange sureFirstWrong)

/-- 'tierlinekeep.ProofUnset': WHATEVER THE INPUT: true; the input reads as it did. -/
def proofUnsetSpec : ChangeSpec := { name := "proofUnset", fn := fun _ => fun
  | [d1, d2] => { results := [.lit (.bool true)], args := [d1, d2] }
  | _ => none }
def proofUnsetRow : OpenClaim := { program := "ythnajfekhnocaaadoor", sum := "dafb9cff90bd8677afdf2c80bc3f18cb43ed14aa40f718f9d98f55bfafaa8712", func := "tierline/tierlinekeep.ProofUnset", spec := "proofUnset", named := ["tierline/ops.parts", "tierline/proof.callReads"], apart := false, laid := [("tierline/ops.parts", laid_tierline_ops_parts), ("tierline/proof.callReads", laid_tierline_proof_callReads)] }
def ProofUnsetSaid : Prop := proofUnsetRow.holds Tryd.pinned (OpenSpec.ofChange proofUnsetSpec)

/-- ITS FALSE NEIGHBOUR: 'it returns false'. Refute it at one input. -/
def proofUnsetWrong : ChangeSpec := { name := "proofUnset", fn := fun _ => fun
  | [d1, d2] => { results := [.lit (.bool false)], args := [d1, d2] }
  | _ => none }
def ProofUnsetWrongFalsely : Prop := proofUnsetRow.holds Tryd.pinned (OpenSpec.ofChange proofUnsetWrong)

/- THE SECOND FORM. 'bulk': how many values and letters a reading holds, each counted each time it is reached (what is shared counts as often as it is met; a slice's spare places count too). A statement '..UptoSaid' is the law's where the arguments, and the package variables that the reading takes, are together of bulk at most 1048576: NARROWER than '..Said'. Prove '..Said' where nothing that the law and all that it calls make is longer than what came in: it says more and counts as full. Else prove '..UptoSaid'. A law counts once. -/
mutual
def uptoBulk {H : Type} : DataW H → Nat
  | .lit (.string bytes) => bytes.length + 1
  | .lit _ => 1
  | .nil => 1
  | .ptr d => uptoBulk d + 1
  | .slice elems spare => uptoBulkAll elems + uptoBulkAll spare + 1
  | .agg parts => uptoBulkAll parts + 1
  | .iface _ d => uptoBulk d + 1
  | .map entries => uptoBulkEntries entries + 1
  | .held _ => 1
def uptoBulkAll {H : Type} : List (DataW H) → Nat
  | [] => 0
  | d :: r => uptoBulk d + uptoBulkAll r
def uptoBulkEntries {H : Type} : List (Lit × DataW H) → Nat
  | [] => 0
  | x :: r => uptoBulkEntry x + uptoBulkEntries r
def uptoBulkEntry {H : Type} : Lit × DataW H → Nat
  | (.string bytes, d) => bytes.length + uptoBulk d + 1
  | (_, d) => uptoBulk d + 1
 end
def uptoSmall : (H : Type) → List (DataW H) → Bool := fun _ ds => decide (uptoBulkAll ds ≤ 1048576)
def OpenSpec.upto (s : _root_.Go.ChangeSpec) : _root_.Go.OpenSpec := { _root_.Go.OpenSpec.ofChange s with cond := some uptoSmall }

/-- 'tierlinelaw.ProofSures', WHERE WHAT IT READS IS OF BULK AT MOST 1048576: true; the input reads as it did. -/
def proofSuresUptoRow : OpenClaim := { program := "ythnajfekhnocaaadoor", sum := "dafb9cff90bd8677afdf2c80bc3f18cb43ed14aa40f718f9d98f55bfafaa8712", func := "tierline/tierlinelaw.ProofSures", spec := "proofSures", named := ["tierline/ops.parts"], apart := false, laid := [("tierline/ops.parts", laid_tierline_ops_parts)], narrowed := true }
def ProofSuresUptoSaid : Prop := proofSuresUptoRow.holds Tryd.pinned (OpenSpec.upto proofSuresSpec)

/-- 'tierlinelaw.ProofChecks', WHERE WHAT IT READS IS OF BULK AT MOST 1048576: true; the input reads as it did. -/
def proofChecksUptoRow : OpenClaim := { program := "ythnajfekhnocaaadoor", sum := "dafb9cff90bd8677afdf2c80bc3f18cb43ed14aa40f718f9d98f55bfafaa8712", func := "tierline/tierlinelaw.ProofChecks", spec := "proofChecks", named := ["tierline/ops.parts", "tierline/proof.callReads"], apart := false, laid := [("tierline/ops.parts", laid_tierline_ops_parts), ("tierline/proof.callReads", laid_tierline_proof_callReads)], narrowed := true }
def ProofChecksUptoSaid : Prop := proofChecksUptoRow.holds Tryd.pinned (OpenSpec.upto proofChecksSpec)

/-- 'tierlinelaw.ProofReads', WHERE WHAT IT READS IS OF BULK AT MOST 1048576: true; the input reads as it did. -/
def proofReadsUptoRow : OpenClaim := { program := "ythnajfekhnocaaadoor", sum := "dafb9cff90bd8677afdf2c80bc3f18cb43ed14aa40f718f9d98f55bfafaa8712", func := "tierline/tierlinelaw.ProofReads", spec := "proofReads", named := ["tierline/ops.parts", "tierline/proof.callReads"], apart := false, laid := [("tierline/ops.parts", laid_tierline_ops_parts), ("tierline/proof.callReads", laid_tierline_proof_callReads)], narrowed := true }
def ProofReadsUptoSaid : Prop := proofReadsUptoRow.holds Tryd.pinned (OpenSpec.upto proofReadsSpec)

/-- 'tierlinekeep.ReadsTold', WHERE WHAT IT READS IS OF BULK AT MOST 1048576: true; the input reads as it did. -/
def readsToldUptoRow : OpenClaim := { program := "ythnajfekhnocaaadoor", sum := "dafb9cff90bd8677afdf2c80bc3f18cb43ed14aa40f718f9d98f55bfafaa8712", func := "tierline/tierlinekeep.ReadsTold", spec := "readsTold", named := ["tierline/ops.parts", "tierline/proof.callReads"], apart := false, laid := [("tierline/ops.parts", laid_tierline_ops_parts), ("tierline/proof.callReads", laid_tierline_proof_callReads)], narrowed := true }
def ReadsToldUptoSaid : Prop := readsToldUptoRow.holds Tryd.pinned (OpenSpec.upto readsToldSpec)

/-- 'tierlinekeep.SureFirst', WHERE WHAT IT READS IS OF BULK AT MOST 1048576: true; the input reads as it did. -/
def sureFirstUptoRow : OpenClaim := { program := "ythnajfekhnocaaadoor", sum := "dafb9cff90bd8677afdf2c80bc3f18cb43ed14aa40f718f9d98f55bfafaa8712", func := "tierline/tierlinekeep.SureFirst", spec := "sureFirst", named := ["tierline/ops.parts", "tierline/proof.callReads"], apart := false, laid := [("tierline/ops.parts", laid_tierline_ops_parts), ("tierline/proof.callReads", laid_tierline_proof_callReads)], narrowed := true }
def SureFirstUptoSaid : Prop := sureFirstUptoRow.holds Tryd.pinned (OpenSpec.upto sureFirstSpec)

/-- 'tierlinekeep.ProofUnset', WHERE WHAT IT READS IS OF BULK AT MOST 1048576: true; the input reads as it did. -/
def proofUnsetUptoRow : OpenClaim := { program := "ythnajfekhnocaaadoor", sum := "dafb9cff90bd8677afdf2c80bc3f18cb43ed14aa40f718f9d98f55bfafaa8712", func := "tierline/tierlinekeep.ProofUnset", spec := "proofUnset", named := ["tierline/ops.parts", "tierline/proof.callReads"], apart := false, laid := [("tierline/ops.parts", laid_tierline_ops_parts), ("tierline/proof.callReads", laid_tierline_proof_callReads)], narrowed := true }
def ProofUnsetUptoSaid : Prop := proofUnsetUptoRow.holds Tryd.pinned (OpenSpec.upto proofUnsetSpec)

end Rows
end Go.Proofs.YthnajfekhnocaaaDoor
