/-
  NARROWER THAN 'FOR EVERY INPUT', by the rows' own cells (each row's printed sentence says how): ClashEven: laid · AssignLine: laid.
  DERIVED. THE GIVEN ROWS OF THIS SEAT. 2 by the template 'for every input the law returns true; each argument reads behind the call as it read before'; 0 by the template 'total and deterministic' (their statements: YtldbmdgpdolaaaaDoorTotals.lean).
  GIVEN WITH THE SEED: the statements are not yours to turn. If you find one false, say at which input.
  Laid BY PROGRAM, IN A SANDBOX (cutbox-rows.mjs): the forced cells as the released guide's own fill.sh prints them over the translation a658c2e3eed319a8… (all of the seat's roots in one cut). By AI agents, Wed Nov 11 2026. No macro, syntax, notation, axiom, sorry.
-/
import Derived.Test.YtldbmdgpdolaaaaDoorChecked
import GoSem.Claim
import GoSem.ClaimJoined
import GoSem.ClaimMapViews
import Derived.JoinedTies
import Derived.KernelRfl
namespace Go.Proofs.YtldbmdgpdolaaaaDoor
/- THE CELL 'sum', in the pinned program and in every row, IS THE sha256 OF THE DUMP (.gsa) THAT YtldbmdgpdolaaaaDoorProg.lean LOADS. Nothing in Lean hashes anything: it is a label: what it is worth is what the hold of that sum in a sandbox is worth. -/
noncomputable def Tryd.pinned : Pinned := { name := "ytldbmdgpdolaaaadoor", sum := "a658c2e3eed319a876a66929c6408c699e5ff39ca62ee2add201e700889b0cac", checked := Tryd.checked }
namespace Rows
def none {H : Type} : Left H := { results := [], args := [] }

/- WHAT THE LISTED PACKAGE-LEVEL VARIABLES READ AS WHEN THE CALL BEGINS. Each datum BY PROGRAM (the guide's laid-datum.mjs) off the statement by which the dump's own 'gosem.cut.vars' lays the variable. In a bare row this is a premise. The card (YtldbmdgpdolaaaaDoorCards.lean) ties it to the program's text. -/
def laid_tierline_ops_parts {H : Type} : DataW H := .agg [.lit (.int .i64 0), .lit (.int .i64 9), .lit (.int .i64 7), .lit (.int .i64 7), .lit (.int .i64 7), .lit (.int .i64 7), .lit (.int .i64 7), .lit (.int .i64 7), .lit (.int .i64 7), .lit (.int .i64 7), .lit (.int .i64 7), .lit (.int .i64 7), .lit (.int .i64 7), .lit (.int .i64 3), .lit (.int .i64 6), .lit (.int .i64 16), .lit (.int .i64 18), .lit (.int .i64 39), .lit (.int .i64 3), .lit (.int .i64 2)]
def laid_tierline_ops_callReads {H : Type} : DataW H := .agg [.lit (.int .i64 0), .lit (.int .i64 2), .lit (.int .i64 6)]

/-- 'tierlinekeep.ClashEven': WHATEVER THE INPUT: true; the input reads as it did. -/
def clashEvenSpec : ChangeSpec := { name := "clashEven", fn := fun _ => fun
  | [d1, d2] => { results := [.lit (.bool true)], args := [d1, d2] }
  | _ => none }
def clashEvenRow : OpenClaim := { program := "ytldbmdgpdolaaaadoor", sum := "a658c2e3eed319a876a66929c6408c699e5ff39ca62ee2add201e700889b0cac", func := "tierline/tierlinekeep.ClashEven", spec := "clashEven", unfollowed := true, recurses := true, named := ["tierline/ops.parts", "tierline/ops.callReads"], apart := false, laid := [("tierline/ops.parts", laid_tierline_ops_parts), ("tierline/ops.callReads", laid_tierline_ops_callReads)] }
def ClashEvenSaid : Prop := clashEvenRow.holds Tryd.pinned (OpenSpec.ofChange clashEvenSpec)

/-- ITS FALSE NEIGHBOUR: 'it returns false'. Refute it at one input. -/
def clashEvenWrong : ChangeSpec := { name := "clashEven", fn := fun _ => fun
  | [d1, d2] => { results := [.lit (.bool false)], args := [d1, d2] }
  | _ => none }
def ClashEvenWrongFalsely : Prop := clashEvenRow.holds Tryd.pinned (OpenSpec.ofChange clashEvenWrong)

/-- 'tierlinekeep.AssignLine': WHATEVER THE INPUT: true; the input reads as it did. -/
def assignLineSpec : ChangeSpec := { name := "assignLine", fn := fun _ => fun
  | [d] => { results := [.lit (.bool true)], args := [d] }
  | _ => none }
def assignLineRow : OpenClaim := { program := "ytldbmdgpdolaaaadoor", sum := "a658c2e3eed319a876a66929c6408c699e5ff39ca62ee2add201e700889b0cac", func := "tierline/tierlinekeep.AssignLine", spec := "assignLine", unfollowed := true, recurses := true, named := ["tierline/ops.parts", "tierline/ops.callReads"], apart := false, laid := [("tierline/ops.parts", laid_tierline_ops_parts), ("tierline/ops.callReads", laid_tierline_ops_callReads)] }
def AssignLineSaid : Prop := assignLineRow.holds Tryd.pinned (OpenSpec.ofChange assignLineSpec)

/-- ITS FALSE NEIGHBOUR: 'it returns false'. Refute it at one input. -/
def assignLineWrong : ChangeSpec := { name := "assignLine", fn := fun _ => fun
  | [d] => { results := [.lit (.bool false)], args := [d] }
  | _ => none }
def AssignLineWrongFalsely : Prop := assignLineRow.holds Tryd.pinned (OpenSpec.ofChange assignLineWrong)

/- THE SECOND FORM. 'bulk': how many values and letters a reading holds, each counted each time it is reached (what is shared counts as often as it is met; a slice's spare places count too). A statement '..UptoSaid' is the law's where the arguments, and the package variables that the reading takes, are together of bulk at most 1048576: NARROWER than '..Said'. Prove '..Said' where nothing that the law and all that it calls make is longer than what came in: it says more and counts as full. Else prove '..UptoSaid'. A law counts once. -/
mutual
def uptoBulk {H : Type} : DataW H → Nat
  | .lit (.string bytes) => bytes.length + 1
  | .lit _ => 1
  | .nil => 1
  | .ptr d => uptoBulk d + 1
  | .slice elems spare => uptoBulkAll elems + uptoBulkAll spare + 1
  | .agg parts => uptoBulkAll parts + 1
  | .iface _ d => uptoBulk d + 1
  | .map entries => uptoBulkEntries entries + 1
  | .held _ => 1
def uptoBulkAll {H : Type} : List (DataW H) → Nat
  | [] => 0
  | d :: r => uptoBulk d + uptoBulkAll r
def uptoBulkEntries {H : Type} : List (Lit × DataW H) → Nat
  | [] => 0
  | x :: r => uptoBulkEntry x + uptoBulkEntries r
def uptoBulkEntry {H : Type} : Lit × DataW H → Nat
  | (.string bytes, d) => bytes.length + uptoBulk d + 1
  | (_, d) => uptoBulk d + 1
 end
def uptoSmall : (H : Type) → List (DataW H) → Bool := fun _ ds => decide (uptoBulkAll ds ≤ 1048576)
def OpenSpec.upto (s : _root_.Go.ChangeSpec) : _root_.Go.OpenSpec := { _root_.Go.OpenSpec.ofChange s with cond := some uptoSmall }

/-- 'tierlinekeep.ClashEven', WHERE WHAT IT READS IS OF BULK AT MOST 1048576: true; the input reads as it did. -/
def clashEvenUptoRow : OpenClaim := { program := "ytldbmdgpdolaaaadoor", sum := "a658c2e3eed319a876a66929c6408c699e5ff39ca62ee2add201e700889b0cac", func := "tierline/tierlinekeep.ClashEven", spec := "clashEven", unfollowed := true, recurses := true, named := ["tierline/ops.parts", "tierline/ops.callReads"], apart := false, laid := [("tierline/ops.parts", laid_tierline_ops_parts), ("tierline/ops.callReads", laid_tierline_ops_callReads)], narrowed := true }
def ClashEvenUptoSaid : Prop := clashEvenUptoRow.holds Tryd.pinned (OpenSpec.upto clashEvenSpec)

/-- 'tierlinekeep.AssignLine', WHERE WHAT IT READS IS OF BULK AT MOST 1048576: true; the input reads as it did. -/
def assignLineUptoRow : OpenClaim := { program := "ytldbmdgpdolaaaadoor", sum := "a658c2e3eed319a876a66929c6408c699e5ff39ca62ee2add201e700889b0cac", func := "tierline/tierlinekeep.AssignLine", spec := "assignLine", unfollowed := true, recurses := true, named := ["tierline/ops.parts", "tierline/ops.callReads"], apart := false, laid := [("tierline/ops.parts", laid_tierline_ops_parts), ("tierline/ops.callReads", laid_tierline_ops_callReads)], narrowed := true }
def AssignLineUptoSaid : Prop := assignLineUptoRow.holds Tryd.pinned (OpenSpec.upto assignLineSpec)

end Rows
end Go.Proofs.YtldbmdgpdolaaaaDoor
