/-
  NARROWER THAN 'FOR EVERY INPUT', by the rows' own cells (each row's printed sentence says how): CodeChecks: laid · CodeEncodes: laid · CodeDecodes: laid · CodeBack: laid · CodeBytes: laid · CodeBad: laid.
  DERIVED. THE GIVEN ROWS OF THIS SEAT. 6 by the template 'for every input the law returns true; each argument reads behind the call as it read before'; 0 by the template 'total and deterministic' (their statements: YtocdljoknbeolaaDoorTotals.lean).
  GIVEN WITH THE SEED: the statements are not yours to turn. If you find one false, say at which input.
  Laid BY PROGRAM, IN A SANDBOX (cutbox-rows.mjs): the forced cells as the released guide's own fill.sh prints them over the translation 2b590149f2f4ec72… (all of the seat's roots in one cut). By AI agents, Wed Nov 11 2026. No macro, syntax, notation, axiom, sorry.
-/
import Derived.Test.YtocdljoknbeolaaDoorChecked
import GoSem.Claim
import GoSem.ClaimJoined
import GoSem.ClaimMapViews
import Derived.JoinedTies
import Derived.KernelRfl
namespace Go.Proofs.YtocdljoknbeolaaDoor
/- THE CELL 'sum', in the pinned program and in every row, IS THE sha256 OF THE DUMP (.gsa) THAT YtocdljoknbeolaaDoorProg.lean LOADS. Nothing in Lean hashes anything: it is a label: what it is worth is what the hold of that sum in a sandbox is worth. -/
noncomputable def Tryd.pinned : Pinned := { name := "ytocdljoknbeolaadoor", sum := "2b590149f2f4ec72d51300d14437c4a2413bfe7e330b8de55bcb8333dfdfc823", checked := Tryd.checked }
namespace Rows
def none {H : Type} : Left H := { results := [], args := [] }

/- WHAT THE LISTED PACKAGE-LEVEL VARIABLES READ AS WHEN THE CALL BEGINS. Each datum BY PROGRAM (the guide's laid-datum.mjs) off the statement by which the dump's own 'gosem.cut.vars' lays the variable. In a bare row this is a premise. The card (YtocdljoknbeolaaDoorCards.lean) ties it to the program's text. -/
def laid_tierline_ops_parts {H : Type} : DataW H := .agg [.lit (.int .i64 0), .lit (.int .i64 9), .lit (.int .i64 7), .lit (.int .i64 7), .lit (.int .i64 7), .lit (.int .i64 7), .lit (.int .i64 7), .lit (.int .i64 7), .lit (.int .i64 7), .lit (.int .i64 7), .lit (.int .i64 7), .lit (.int .i64 7), .lit (.int .i64 7), .lit (.int .i64 3), .lit (.int .i64 6), .lit (.int .i64 16), .lit (.int .i64 18), .lit (.int .i64 39), .lit (.int .i64 3), .lit (.int .i64 2)]

/-- 'tierlinelaw.CodeChecks': WHATEVER THE INPUT: true; the input reads as it did. -/
def codeChecksSpec : ChangeSpec := { name := "codeChecks", fn := fun _ => fun
  | [d] => { results := [.lit (.bool true)], args := [d] }
  | _ => none }
def codeChecksRow : OpenClaim := { program := "ytocdljoknbeolaadoor", sum := "2b590149f2f4ec72d51300d14437c4a2413bfe7e330b8de55bcb8333dfdfc823", func := "tierline/tierlinelaw.CodeChecks", spec := "codeChecks", named := ["tierline/ops.parts"], apart := false, laid := [("tierline/ops.parts", laid_tierline_ops_parts)] }
def CodeChecksSaid : Prop := codeChecksRow.holds Tryd.pinned (OpenSpec.ofChange codeChecksSpec)

/-- ITS FALSE NEIGHBOUR: 'it returns false'. Refute it at one input. -/
def codeChecksWrong : ChangeSpec := { name := "codeChecks", fn := fun _ => fun
  | [d] => { results := [.lit (.bool false)], args := [d] }
  | _ => none }
def CodeChecksWrongFalsely : Prop := codeChecksRow.holds Tryd.pinned (OpenSpec.ofChange codeChecksWrong)

/-- 'tierlinelaw.CodeEncodes': WHATEVER THE INPUT: true; the input reads as it did. -/
def codeEncodesSpec : ChangeSpec := { name := "codeEncodes", fn := fun _ => fun
  | [d] => { results := [.lit (.bool true)], args := [d] }
  | _ => none }
def codeEncodesRow : OpenClaim := { program := "ytocdljoknbeolaadoor", sum := "2b590149f2f4ec72d51300d14437c4a2413bfe7e330b8de55bcb8333dfdfc823", func := "tierline/tierlinelaw.CodeEncodes", spec := "codeEncodes", named := ["tierline/ops.parts"], apart := false, laid := [("tierline/ops.parts", laid_tierline_ops_parts)] }
def CodeEncodesSaid : Prop := codeEncodesRow.holds Tryd.pinned (OpenSpec.ofChange codeEncodesSpec)

/-- ITS FALSE NEIGHBOUR: 'it returns false'. Refute it at one input. -/
def codeEncodesWrong : ChangeSpec := { name := "codeEncodes", fn := fun _ => fun
  | [d] => { results := [.lit (.bool false)], args := [d] }
  | _ => none }
def CodeEncodesWrongFalsely : Prop := codeEncodesRow.holds Tryd.pinned (OpenSpec.ofChange codeEncodesWrong)

/-- 'tierlinelaw.CodeDecodes': WHATEVER THE INPUT: true; the input reads as it did. -/
def codeDecodesSpec : ChangeSpec := { name := "codeDecodes", fn := fun _ => fun
  | [d] => { results := [.lit (.bool true)], args := [d] }
  | _ => none }
def codeDecodesRow : OpenClaim := { program := "ytocdljoknbeolaadoor", sum := "2b590149f2f4ec72d51300d14437c4a2413bfe7e330b8de55bcb8333dfdfc823", func := "tierline/tierlinelaw.CodeDecodes", spec := "codeDecodes", unfollowed := true, recurses := true, named := ["tierline/ops.parts"], apart := false, laid := [("tierline/ops.parts", laid_tierline_ops_parts)] }
def CodeDecodesSaid : Prop := codeDecodesRow.holds Tryd.pinned (OpenSpec.ofChange codeDecodesSpec)

/-- ITS FALSE NEIGHBOUR: 'it returns false'. Refute it at one input. -/
def codeDecodesWrong : ChangeSpec := { name := "codeDecodes", fn := fun _ => fun
  | [d] => { results := [.lit (.bool false)], args := [d] }
  | _ => none }
def CodeDecodesWrongFalsely : Prop := codeDecodesRow.holds Tryd.pinned (OpenSpec.ofChange codeDecodesWrong)

/-- 'tierlinekeep.CodeBack': WHATEVER THE INPUT: true; the input reads as it did. -/
def codeBackSpec : ChangeSpec := { name := "codeBack", fn := fun _ => fun
  | [d] => { results := [.lit (.bool true)], args := [d] }
  | _ => none }
def codeBackRow : OpenClaim := { program := "ytocdljoknbeolaadoor", sum := "2b590149f2f4ec72d51300d14437c4a2413bfe7e330b8de55bcb8333dfdfc823", func := "tierline/tierlinekeep.CodeBack", spec := "codeBack", unfollowed := true, recurses := true, named := ["tierline/ops.parts"], apart := false, laid := [("tierline/ops.parts", laid_tierline_ops_parts)] }
def CodeBackSaid : Prop := codeBackRow.holds Tryd.pinned (OpenSpec.ofChange codeBackSpec)

/-- ITS FALSE NEIGHBOUR: 'it returns false'. Refute it at one input. -/
def codeBackWrong : ChangeSpec := { name := "codeBack", fn := fun _ => fun
  | [d] => { results := [.lit (.bool false)], args := [d] }
  | _ => none }
def CodeBackWrongFalsely : Prop := codeBackRow.holds Tryd.pinned (OpenSpec.ofChange codeBackWrong)

/-- 'tierlinekeep.CodeBytes': WHATEVER THE INPUT: true; the input reads as it did. -/
def codeBytesSpec : ChangeSpec := { name := "codeBytes", fn := fun _ => fun
  | [d] => { results := [.lit (.bool true)], args := [d] }
  | _ => none }
def codeBytesRow : OpenClaim := { program := "ytocdljoknbeolaadoor", sum := "2b590149f2f4ec72d51300d14437c4a2413bfe7e330b8de55bcb8333dfdfc823", func := "tierline/tierlinekeep.CodeBytes", spec := "codeBytes", named := ["tierline/ops.parts"], apart := false, laid := [("tierline/ops.parts", laid_tierline_ops_parts)] }
def CodeBytesSaid : Prop := codeBytesRow.holds Tryd.pinned (OpenSpec.ofChange codeBytesSpec)

/-- ITS FALSE NEIGHBOUR: 'it returns false'. Refute it at one input. -/
def codeBytesWrong : ChangeSpec := { name := "codeBytes", fn := fun _ => fun
  | [d] => { results := [.lit (.bool false)], args := [d] }
  | _ => none }
def CodeBytesWrongFalsely : Prop := codeBytesRow.holds Tryd.pinned (OpenSpec.ofChange codeBytesWrong)

/-- 'tierlinekeep.CodeBad': WHATEVER THE INPUT: true; the input reads as it did. -/
def codeBadSpec : ChangeSpec := { name := "codeBad", fn := fun _ => fun
  | [d1, d2] => { results := [.lit (.bool true)], args := [d1, d2] }
  | _ => none }
def codeBadRow : OpenClaim := { program := "ytocdljoknbeolaadoor", sum := "2b590149f2f4ec72d51300d14437c4a2413bfe7e330b8de55bcb8333dfdfc823", func := "tierline/tierlinekeep.CodeBad", spec := "codeBad", named := ["tierline/ops.parts"], apart := false, laid := [("tierline/ops.parts", laid_tierline_ops_parts)] }
def CodeBadSaid : Prop := codeBadRow.holds Tryd.pinned (OpenSpec.ofChange codeBadSpec)

/-- ITS FALSE NEIGHBOUR: 'it returns false'. Refute it at one input. -/
def codeBadWrong : ChangeSpec := { name := "codeBad", fn := fun _ => fun
  | [d1, d2] => { results := [.lit (.bool false)], args := [d1, d2] }
  | _ => none }
def CodeBadWrongFalsely : Prop := codeBadRow.holds Tryd.pinned (OpenSpec.ofChange codeBadWrong)

/- THE SECOND FORM. 'bulk': how many values and letters a reading holds, each counted each time it is reached (what is shared counts as often as it is met; a slice's spare places count too). A statement '..UptoSaid' is the law's where the arguments, and the package variables that the reading takes, are together of bulk at most 1048576: NARROWER than '..Said'. Prove '..Said' where nothing that the law and all that it calls make is longer than what came in: it says more and counts as full. Else prove '..UptoSaid'. A law counts once. -/
mutual
def uptoBulk {H : Type} : DataW H → Nat
  | .lit (.string bytes) => bytes.length + 1
  | .lit _ => 1
  | .nil => 1
  | .ptr d => uptoBulk d + 1
  | .slice elems spare => uptoBulkAll elems + uptoBulkAll spare + 1
  | .agg parts => uptoBulkAll parts + 1
  | .iface _ d => uptoBulk d + 1
  | .map entries => uptoBulkEntries entries + 1
  | .held _ => 1
def uptoBulkAll {H : Type} : List (DataW H) → Nat
  | [] => 0
  | d :: r => uptoBulk d + uptoBulkAll r
def uptoBulkEntries {H : Type} : List (Lit × DataW H) → Nat
  | [] => 0
  | x :: r => uptoBulkEntry x + uptoBulkEntries r
def uptoBulkEntry {H : Type} : Lit × DataW H → Nat
  | (.string bytes, d) => bytes.length + uptoBulk d + 1
  | (_, d) => uptoBulk d + 1
 end
def uptoSmall : (H : Type) → List (DataW H) → Bool := fun _ ds => decide (uptoBulkAll ds ≤ 1048576)
def OpenSpec.upto (s : _root_.Go.ChangeSpec) : _root_.Go.OpenSpec := { _root_.Go.OpenSpec.ofChange s with cond := some uptoSmall }

/-- 'tierlinelaw.CodeChecks', WHERE WHAT IT READS IS OF BULK AT MOST 1048576: true; the input reads as it did. -/
def codeChecksUptoRow : OpenClaim := { program := "ytocdljoknbeolaadoor", sum := "2b590149f2f4ec72d51300d14437c4a2413bfe7e330b8de55bcb8333dfdfc823", func := "tierline/tierlinelaw.CodeChecks", spec := "codeChecks", named := ["tierline/ops.parts"], apart := false, laid := [("tierline/ops.parts", laid_tierline_ops_parts)], narrowed := true }
def CodeChecksUptoSaid : Prop := codeChecksUptoRow.holds Tryd.pinned (OpenSpec.upto codeChecksSpec)

/-- 'tierlinelaw.CodeEncodes', WHERE WHAT IT READS IS OF BULK AT MOST 1048576: true; the input reads as it did. -/
def codeEncodesUptoRow : OpenClaim := { program := "ytocdljoknbeolaadoor", sum := "2b590149f2f4ec72d51300d14437c4a2413bfe7e330b8de55bcb8333dfdfc823", func := "tierline/tierlinelaw.CodeEncodes", spec := "codeEncodes", named := ["tierline/ops.parts"], apart := false, laid := [("tierline/ops.parts", laid_tierline_ops_parts)], narrowed := true }
def CodeEncodesUptoSaid : Prop := codeEncodesUptoRow.holds Tryd.pinned (OpenSpec.upto codeEncodesSpec)

/-- 'tierlinelaw.CodeDecodes', WHERE WHAT IT READS IS OF BULK AT MOST 1048576: true; the input reads as it did. -/
def codeDecodesUptoRow : OpenClaim := { program := "ytocdljoknbeolaadoor", sum := "2b590149f2f4ec72d51300d14437c4a2413bfe7e330b8de55bcb8333dfdfc823", func := "tierline/tierlinelaw.CodeDecodes", spec := "codeDecodes", unfollowed := true, recurses := true, named := ["tierline/ops.parts"], apart := false, laid := [("tierline/ops.parts", laid_tierline_ops_parts)], narrowed := true }
def CodeDecodesUptoSaid : Prop := codeDecodesUptoRow.holds Tryd.pinned (OpenSpec.upto codeDecodesSpec)

/-- 'tierlinekeep.CodeBack', WHERE WHAT IT READS IS OF BULK AT MOST 1048576: true; the input reads as it did. -/
def codeBackUptoRow : OpenClaim := { program := "ytocdljoknbeolaadoor", sum := "2b590149f2f4ec72d51300d14437c4a2413bfe7e330b8de55bcb8333dfdfc823", func := "tierline/tierlinekeep.CodeBack", spec := "codeBack", unfollowed := true, recurses := true, named := ["tierline/ops.parts"], apart := false, laid := [("tierline/ops.parts", laid_tierline_ops_parts)], narrowed := true }
def CodeBackUptoSaid : Prop := codeBackUptoRow.holds Tryd.pinned (OpenSpec.upto codeBackSpec)

/-- 'tierlinekeep.CodeBytes', WHERE WHAT IT READS IS OF BULK AT MOST 1048576: true; the input reads as it did. -/
def codeBytesUptoRow : OpenClaim := { program := "ytocdljoknbeolaadoor", sum := "2b590149f2f4ec72d51300d14437c4a2413bfe7e330b8de55bcb8333dfdfc823", func := "tierline/tierlinekeep.CodeBytes", spec := "codeBytes", named := ["tierline/ops.parts"], apart := false, laid := [("tierline/ops.parts", laid_tierline_ops_parts)], narrowed := true }
def CodeBytesUptoSaid : Prop := codeBytesUptoRow.holds Tryd.pinned (OpenSpec.upto codeBytesSpec)

/-- 'tierlinekeep.CodeBad', WHERE WHAT IT READS IS OF BULK AT MOST 1048576: true; the input reads as it did. -/
def codeBadUptoRow : OpenClaim := { program := "ytocdljoknbeolaadoor", sum := "2b590149f2f4ec72d51300d14437c4a2413bfe7e330b8de55bcb8333dfdfc823", func := "tierline/tierlinekeep.CodeBad", spec := "codeBad", named := ["tierline/ops.parts"], apart := false, laid := [("tierline/ops.parts", laid_tierline_ops_parts)], narrowed := true }
def CodeBadUptoSaid : Prop := codeBadUptoRow.holds Tryd.pinned (OpenSpec.upto codeBadSpec)

end Rows
end Go.Proofs.YtocdljoknbeolaaDoor
