/-
  NARROWER THAN 'FOR EVERY INPUT', by the rows' own cells (each row's printed sentence says how): SsaTrue: laid · FactsLine: laid · FactsForm: laid · FactsTrue: laid · FactsSide: laid · FactsLoop: laid · AssignKeeps: laid.
  DERIVED. THE GIVEN ROWS OF THIS SEAT. 7 by the template 'for every input the law returns true; each argument reads behind the call as it read before'; 0 by the template 'total and deterministic' (their statements: YtldbmdgpdolaaaaGreatDoorTotals.lean).
  GIVEN WITH THE SEED: the statements are not yours to turn. If you find one false, say at which input.
  Laid BY PROGRAM, IN A SANDBOX (cutbox-rows.mjs): the forced cells as the released guide's own fill.sh prints them over the translation 7c1fc6483c3d2946… (all of the seat's roots in one cut). By AI agents, Wed Nov 11 2026. No macro, syntax, notation, axiom, sorry.
-/
import Derived.Test.YtldbmdgpdolaaaaGreatDoorChecked
import GoSem.Claim
import GoSem.ClaimJoined
import GoSem.ClaimMapViews
import Derived.JoinedTies
import Derived.KernelRfl
namespace Go.Proofs.YtldbmdgpdolaaaaGreatDoor
/- THE CELL 'sum', in the pinned program and in every row, IS THE sha256 OF THE DUMP (.gsa) THAT YtldbmdgpdolaaaaGreatDoorProg.lean LOADS. Nothing in Lean hashes anything: it is a label: what it is worth is what the hold of that sum in a sandbox is worth. -/
noncomputable def Tryz.pinned : Pinned := { name := "ytldbmdgpdolaaaagreatdoor", sum := "7c1fc6483c3d2946987cd216dab6ead2e7a9803d00c3a23090c7b57855d904ad", checked := Tryz.checked }
namespace Rows
def none {H : Type} : Left H := { results := [], args := [] }

/- WHAT THE LISTED PACKAGE-LEVEL VARIABLES READ AS WHEN THE CALL BEGINS. Each datum BY PROGRAM (the guide's laid-datum.mjs) off the statement by which the dump's own 'gosem.cut.vars' lays the variable. In a bare row this is a premise. The card (YtldbmdgpdolaaaaGreatDoorCards.lean) ties it to the program's text. -/
def laid_tierline_ops_parts {H : Type} : DataW H := .agg [.lit (.int .i64 0), .lit (.int .i64 9), .lit (.int .i64 7), .lit (.int .i64 7), .lit (.int .i64 7), .lit (.int .i64 7), .lit (.int .i64 7), .lit (.int .i64 7), .lit (.int .i64 7), .lit (.int .i64 7), .lit (.int .i64 7), .lit (.int .i64 7), .lit (.int .i64 7), .lit (.int .i64 3), .lit (.int .i64 6), .lit (.int .i64 16), .lit (.int .i64 18), .lit (.int .i64 39), .lit (.int .i64 3), .lit (.int .i64 2)]
def laid_tierline_ops_callReads {H : Type} : DataW H := .agg [.lit (.int .i64 0), .lit (.int .i64 2), .lit (.int .i64 6)]
def laid_tierline_fold_never {H : Type} : DataW H := .agg [.lit (.int .i64 0), .lit (.int .i64 0)]
def laid_tierline_fold_many {H : Type} : DataW H := .agg [.lit (.int .i64 2), .lit (.int .i64 0)]

/-- 'tierlinekeep.SsaTrue': WHATEVER THE INPUT: true; the input reads as it did. -/
def ssaTrueSpec : ChangeSpec := { name := "ssaTrue", fn := fun _ => fun
  | [d1, d2] => { results := [.lit (.bool true)], args := [d1, d2] }
  | _ => none }
def ssaTrueRow : OpenClaim := { program := "ytldbmdgpdolaaaagreatdoor", sum := "7c1fc6483c3d2946987cd216dab6ead2e7a9803d00c3a23090c7b57855d904ad", func := "tierline/tierlinekeep.SsaTrue", spec := "ssaTrue", unfollowed := true, recurses := true, named := ["tierline/ops.parts", "tierline/ops.callReads"], plainKeys := false, apart := false, laid := [("tierline/ops.parts", laid_tierline_ops_parts), ("tierline/ops.callReads", laid_tierline_ops_callReads)] }
def SsaTrueSaid : Prop := ssaTrueRow.holds Tryz.pinned (OpenSpec.ofChange ssaTrueSpec)

/-- ITS FALSE NEIGHBOUR: 'it returns false'. Refute it at one input. -/
def ssaTrueWrong : ChangeSpec := { name := "ssaTrue", fn := fun _ => fun
  | [d1, d2] => { results := [.lit (.bool false)], args := [d1, d2] }
  | _ => none }
def SsaTrueWrongFalsely : Prop := ssaTrueRow.holds Tryz.pinned (OpenSpec.ofChange ssaTrueWrong)

/-- 'tierlinekeep.FactsLine': WHATEVER THE INPUT: true; the input reads as it did. -/
def factsLineSpec : ChangeSpec := { name := "factsLine", fn := fun _ => fun
  | [d] => { results := [.lit (.bool true)], args := [d] }
  | _ => none }
def factsLineRow : OpenClaim := { program := "ytldbmdgpdolaaaagreatdoor", sum := "7c1fc6483c3d2946987cd216dab6ead2e7a9803d00c3a23090c7b57855d904ad", func := "tierline/tierlinekeep.FactsLine", spec := "factsLine", unfollowed := true, recurses := true, named := ["tierline/ops.parts", "tierline/ops.callReads", "tierline/fold.many", "tierline/fold.never"], plainKeys := false, apart := false, laid := [("tierline/ops.parts", laid_tierline_ops_parts), ("tierline/ops.callReads", laid_tierline_ops_callReads), ("tierline/fold.never", laid_tierline_fold_never), ("tierline/fold.many", laid_tierline_fold_many)] }
def FactsLineSaid : Prop := factsLineRow.holds Tryz.pinned (OpenSpec.ofChange factsLineSpec)

/-- ITS FALSE NEIGHBOUR: 'it returns false'. Refute it at one input. -/
def factsLineWrong : ChangeSpec := { name := "factsLine", fn := fun _ => fun
  | [d] => { results := [.lit (.bool false)], args := [d] }
  | _ => none }
def FactsLineWrongFalsely : Prop := factsLineRow.holds Tryz.pinned (OpenSpec.ofChange factsLineWrong)

/-- 'tierlinekeep.FactsForm': WHATEVER THE INPUT: true; the input reads as it did. -/
def factsFormSpec : ChangeSpec := { name := "factsForm", fn := fun _ => fun
  | [d1, d2] => { results := [.lit (.bool true)], args := [d1, d2] }
  | _ => none }
def factsFormRow : OpenClaim := { program := "ytldbmdgpdolaaaagreatdoor", sum := "7c1fc6483c3d2946987cd216dab6ead2e7a9803d00c3a23090c7b57855d904ad", func := "tierline/tierlinekeep.FactsForm", spec := "factsForm", unfollowed := true, recurses := true, named := ["tierline/ops.parts", "tierline/ops.callReads", "tierline/fold.many", "tierline/fold.never"], plainKeys := false, apart := false, laid := [("tierline/ops.parts", laid_tierline_ops_parts), ("tierline/ops.callReads", laid_tierline_ops_callReads), ("tierline/fold.never", laid_tierline_fold_never), ("tierline/fold.many", laid_tierline_fold_many)] }
def FactsFormSaid : Prop := factsFormRow.holds Tryz.pinned (OpenSpec.ofChange factsFormSpec)

/-- ITS FALSE NEIGHBOUR: 'it returns false'. Refute it at one input. -/
def factsFormWrong : ChangeSpec := { name := "factsForm", fn := fun _ => fun
  | [d1, d2] => { results := [.lit (.bool false)], args := [d1, d2] }
  | _ => none }
def FactsFormWrongFalsely : Prop := factsFormRow.holds Tryz.pinned (OpenSpec.ofChange factsFormWrong)

/-- 'tierlinekeep.FactsTrue': WHATEVER THE INPUT: true; the input reads as it did. -/
def factsTrueSpec : ChangeSpec := { name := "factsTrue", fn := fun _ => fun
  | [d1, d2] => { results := [.lit (.bool true)], args := [d1, d2] }
  | _ => none }
def factsTrueRow : OpenClaim := { program := "ytldbmdgpdolaaaagreatdoor", sum := "7c1fc6483c3d2946987cd216dab6ead2e7a9803d00c3a23090c7b57855d904ad", func := "tierline/tierlinekeep.FactsTrue", spec := "factsTrue", unfollowed := true, recurses := true, named := ["tierline/ops.parts", "tierline/ops.callReads", "tierline/fold.many", "tierline/fold.never"], plainKeys := false, apart := false, laid := [("tierline/ops.parts", laid_tierline_ops_parts), ("tierline/ops.callReads", laid_tierline_ops_callReads), ("tierline/fold.never", laid_tierline_fold_never), ("tierline/fold.many", laid_tierline_fold_many)] }
def FactsTrueSaid : Prop := factsTrueRow.holds Tryz.pinned (OpenSpec.ofChange factsTrueSpec)

/-- ITS FALSE NEIGHBOUR: 'it returns false'. Refute it at one input. -/
def factsTrueWrong : ChangeSpec := { name := "factsTrue", fn := fun _ => fun
  | [d1, d2] => { results := [.lit (.bool false)], args := [d1, d2] }
  | _ => none }
def FactsTrueWrongFalsely : Prop := factsTrueRow.holds Tryz.pinned (OpenSpec.ofChange factsTrueWrong)

/-- 'tierlinekeep.FactsSide': WHATEVER THE INPUT: true; the input reads as it did. -/
def factsSideSpec : ChangeSpec := { name := "factsSide", fn := fun _ => fun
  | [d1, d2] => { results := [.lit (.bool true)], args := [d1, d2] }
  | _ => none }
def factsSideRow : OpenClaim := { program := "ytldbmdgpdolaaaagreatdoor", sum := "7c1fc6483c3d2946987cd216dab6ead2e7a9803d00c3a23090c7b57855d904ad", func := "tierline/tierlinekeep.FactsSide", spec := "factsSide", unfollowed := true, recurses := true, named := ["tierline/ops.parts", "tierline/ops.callReads", "tierline/fold.many", "tierline/fold.never"], plainKeys := false, apart := false, laid := [("tierline/ops.parts", laid_tierline_ops_parts), ("tierline/ops.callReads", laid_tierline_ops_callReads), ("tierline/fold.never", laid_tierline_fold_never), ("tierline/fold.many", laid_tierline_fold_many)] }
def FactsSideSaid : Prop := factsSideRow.holds Tryz.pinned (OpenSpec.ofChange factsSideSpec)

/-- ITS FALSE NEIGHBOUR: 'it returns false'. Refute it at one input. -/
def factsSideWrong : ChangeSpec := { name := "factsSide", fn := fun _ => fun
  | [d1, d2] => { results := [.lit (.bool false)], args := [d1, d2] }
  | _ => none }
def FactsSideWrongFalsely : Prop := factsSideRow.holds Tryz.pinned (OpenSpec.ofChange factsSideWrong)

/-- 'tierlinekeep.FactsLoop': WHATEVER THE INPUT: true; the input reads as it did. -/
def factsLoopSpec : ChangeSpec := { name := "factsLoop", fn := fun _ => fun
  | [d1, d2] => { results := [.lit (.bool true)], args := [d1, d2] }
  | _ => none }
def factsLoopRow : OpenClaim := { program := "ytldbmdgpdolaaaagreatdoor", sum := "7c1fc6483c3d2946987cd216dab6ead2e7a9803d00c3a23090c7b57855d904ad", func := "tierline/tierlinekeep.FactsLoop", spec := "factsLoop", unfollowed := true, recurses := true, named := ["tierline/ops.parts", "tierline/ops.callReads", "tierline/fold.many", "tierline/fold.never"], plainKeys := false, apart := false, laid := [("tierline/ops.parts", laid_tierline_ops_parts), ("tierline/ops.callReads", laid_tierline_ops_callReads), ("tierline/fold.never", laid_tierline_fold_never), ("tierline/fold.many", laid_tierline_fold_many)] }
def FactsLoopSaid : Prop := factsLoopRow.holds Tryz.pinned (OpenSpec.ofChange factsLoopSpec)

/-- ITS FALSE NEIGHBOUR: 'it returns false'. Refute it at one input. -/
def factsLoopWrong : ChangeSpec := { name := "factsLoop", fn := fun _ => fun
  | [d1, d2] => { results := [.lit (.bool false)], args := [d1, d2] }
  | _ => none }
def FactsLoopWrongFalsely : Prop := factsLoopRow.holds Tryz.pinned (OpenSpec.ofChange factsLoopWrong)

/-- 'tierlinekeep.AssignKeeps': WHATEVER THE INPUT: true; the input reads as it did. -/
def assignKeepsSpec : ChangeSpec := { name := "assignKeeps", fn := fun _ => fun
  | [d1, d2] => { results := [.lit (.bool true)], args := [d1, d2] }
  | _ => none }
def assignKeepsRow : OpenClaim := { program := "ytldbmdgpdolaaaagreatdoor", sum := "7c1fc6483c3d2946987cd216dab6ead2e7a9803d00c3a23090c7b57855d904ad", func := "tierline/tierlinekeep.AssignKeeps", spec := "assignKeeps", unfollowed := true, recurses := true, named := ["tierline/ops.parts", "tierline/ops.callReads"], plainKeys := false, apart := false, laid := [("tierline/ops.parts", laid_tierline_ops_parts), ("tierline/ops.callReads", laid_tierline_ops_callReads)] }
def AssignKeepsSaid : Prop := assignKeepsRow.holds Tryz.pinned (OpenSpec.ofChange assignKeepsSpec)

/-- ITS FALSE NEIGHBOUR: 'it returns false'. Refute it at one input. -/
def assignKeepsWrong : ChangeSpec := { name := "assignKeeps", fn := fun _ => fun
  | [d1, d2] => { results := [.lit (.bool false)], args := [d1, d2] }
  | _ => none }
def AssignKeepsWrongFalsely : Prop := assignKeepsRow.holds Tryz.pinned (OpenSpec.ofChange assignKeepsWrong)

/- THE SECOND FORM. 'bulk': how many values and letters a reading holds, each counted each time it is reached (what is shared counts as often as it is met; a slice's spare places count too). A statement '..UptoSaid' is the law's where the arguments, and the package variables that the reading takes, are together of bulk at most 1048576: NARROWER than '..Said'. Prove '..Said' where nothing that the law and all that it calls make is longer than what came in: it says more and counts as full. Else prove '..UptoSaid'. A law counts once. -/
mutual
def uptoBulk {H : Type} : DataW H → Nat
  | .lit (.string bytes) => bytes.length + 1
  | .lit _ => 1
  | .nil => 1
  | .ptr d => uptoBulk d + 1
  | .slice elems spare => uptoBulkAll elems + uptoBulkAll spare + 1
  | .agg parts => uptoBulkAll parts + 1
  | .iface _ d => uptoBulk d + 1
  | .map entries => uptoBulkEntries entries + 1
  | .held _ => 1
def uptoBulkAll {H : Type} : List (DataW H) → Nat
  | [] => 0
  | d :: r => uptoBulk d + uptoBulkAll r
def uptoBulkEntries {H : Type} : List (Lit × DataW H) → Nat
  | [] => 0
  | x :: r => uptoBulkEntry x + uptoBulkEntries r
def uptoBulkEntry {H : Type} : Lit × DataW H → Nat
  | (.string bytes, d) => bytes.length + uptoBulk d + 1
  | (_, d) => uptoBulk d + 1
 end
def uptoSmall : (H : Type) → List (DataW H) → Bool := fun _ ds => decide (uptoBulkAll ds ≤ 1048576)
def OpenSpec.upto (s : _root_.Go.ChangeSpec) : _root_.Go.OpenSpec := { _root_.Go.OpenSpec.ofChange s with cond := some uptoSmall }

/-- 'tierlinekeep.SsaTrue', WHERE WHAT IT READS IS OF BULK AT MOST 1048576: true; the input reads as it did. -/
def ssaTrueUptoRow : OpenClaim := { program := "ytldbmdgpdolaaaagreatdoor", sum := "7c1fc6483c3d2946987cd216dab6ead2e7a9803d00c3a23090c7b57855d904ad", func := "tierline/tierlinekeep.SsaTrue", spec := "ssaTrue", unfollowed := true, recurses := true, named := ["tierline/ops.parts", "tierline/ops.callReads"], plainKeys := false, apart := false, laid := [("tierline/ops.parts", laid_tierline_ops_parts), ("tierline/ops.callReads", laid_tierline_ops_callReads)], narrowed := true }
def SsaTrueUptoSaid : Prop := ssaTrueUptoRow.holds Tryz.pinned (OpenSpec.upto ssaTrueSpec)

/-- 'tierlinekeep.FactsLine', WHERE WHAT IT READS IS OF BULK AT MOST 1048576: true; the input reads as it did. -/
def factsLineUptoRow : OpenClaim := { program := "ytldbmdgpdolaaaagreatdoor", sum := "7c1fc6483c3d2946987cd216dab6ead2e7a9803d00c3a23090c7b57855d904ad", func := "tierline/tierlinekeep.FactsLine", spec := "factsLine", unfollowed := true, recurses := true, named := ["tierline/ops.parts", "tierline/ops.callReads", "tierline/fold.many", "tierline/fold.never"], plainKeys := false, apart := false, laid := [("tierline/ops.parts", laid_tierline_ops_parts), ("tierline/ops.callReads", laid_tierline_ops_callReads), ("tierline/fold.never", laid_tierline_fold_never), ("tierline/fold.many", laid_tierline_fold_many)], narrowed := true }
def FactsLineUptoSaid : Prop := factsLineUptoRow.holds Tryz.pinned (OpenSpec.upto factsLineSpec)

/-- 'tierlinekeep.FactsForm', WHERE WHAT IT READS IS OF BULK AT MOST 1048576: true; the input reads as it did. -/
def factsFormUptoRow : OpenClaim := { program := "ytldbmdgpdolaaaagreatdoor", sum := "7c1fc6483c3d2946987cd216dab6ead2e7a9803d00c3a23090c7b57855d904ad", func := "tierline/tierlinekeep.FactsForm", spec := "factsForm", unfollowed := true, recurses := true, named := ["tierline/ops.parts", "tierline/ops.callReads", "tierline/fold.many", "tierline/fold.never"], plainKeys := false, apart := false, laid := [("tierline/ops.parts", laid_tierline_ops_parts), ("tierline/ops.callReads", laid_tierline_ops_callReads), ("tierline/fold.never", laid_tierline_fold_never), ("tierline/fold.many", laid_tierline_fold_many)], narrowed := true }
def FactsFormUptoSaid : Prop := factsFormUptoRow.holds Tryz.pinned (OpenSpec.upto factsFormSpec)

/-- 'tierlinekeep.FactsTrue', WHERE WHAT IT READS IS OF BULK AT MOST 1048576: true; the input reads as it did. -/
def factsTrueUptoRow : OpenClaim := { program := "ytldbmdgpdolaaaagreatdoor", sum := "7c1fc6483c3d2946987cd216dab6ead2e7a9803d00c3a23090c7b57855d904ad", func := "tierline/tierlinekeep.FactsTrue", spec := "factsTrue", unfollowed := true, recurses := true, named := ["tierline/ops.parts", "tierline/ops.callReads", "tierline/fold.many", "tierline/fold.never"], plainKeys := false, apart := false, laid := [("tierline/ops.parts", laid_tierline_ops_parts), ("tierline/ops.callReads", laid_tierline_ops_callReads), ("tierline/fold.never", laid_tierline_fold_never), ("tierline/fold.many", laid_tierline_fold_many)], narrowed := true }
def FactsTrueUptoSaid : Prop := factsTrueUptoRow.holds Tryz.pinned (OpenSpec.upto factsTrueSpec)

/-- 'tierlinekeep.FactsSide', WHERE WHAT IT READS IS OF BULK AT MOST 1048576: true; the input reads as it did. -/
def factsSideUptoRow : OpenClaim := { program := "ytldbmdgpdolaaaagreatdoor", sum := "7c1fc6483c3d2946987cd216dab6ead2e7a9803d00c3a23090c7b57855d904ad", func := "tierline/tierlinekeep.FactsSide", spec := "factsSide", unfollowed := true, recurses := true, named := ["tierline/ops.parts", "tierline/ops.callReads", "tierline/fold.many", "tierline/fold.never"], plainKeys := false, apart := false, laid := [("tierline/ops.parts", laid_tierline_ops_parts), ("tierline/ops.callReads", laid_tierline_ops_callReads), ("tierline/fold.never", laid_tierline_fold_never), ("tierline/fold.many", laid_tierline_fold_many)], narrowed := true }
def FactsSideUptoSaid : Prop := factsSideUptoRow.holds Tryz.pinned (OpenSpec.upto factsSideSpec)

/-- 'tierlinekeep.FactsLoop', WHERE WHAT IT READS IS OF BULK AT MOST 1048576: true; the input reads as it did. -/
def factsLoopUptoRow : OpenClaim := { program := "ytldbmdgpdolaaaagreatdoor", sum := "7c1fc6483c3d2946987cd216dab6ead2e7a9803d00c3a23090c7b57855d904ad", func := "tierline/tierlinekeep.FactsLoop", spec := "factsLoop", unfollowed := true, recurses := true, named := ["tierline/ops.parts", "tierline/ops.callReads", "tierline/fold.many", "tierline/fold.never"], plainKeys := false, apart := false, laid := [("tierline/ops.parts", laid_tierline_ops_parts), ("tierline/ops.callReads", laid_tierline_ops_callReads), ("tierline/fold.never", laid_tierline_fold_never), ("tierline/fold.many", laid_tierline_fold_many)], narrowed := true }
def FactsLoopUptoSaid : Prop := factsLoopUptoRow.holds Tryz.pinned (OpenSpec.upto factsLoopSpec)

/-- 'tierlinekeep.AssignKeeps', WHERE WHAT IT READS IS OF BULK AT MOST 1048576: true; the input reads as it did. -/
def assignKeepsUptoRow : OpenClaim := { program := "ytldbmdgpdolaaaagreatdoor", sum := "7c1fc6483c3d2946987cd216dab6ead2e7a9803d00c3a23090c7b57855d904ad", func := "tierline/tierlinekeep.AssignKeeps", spec := "assignKeeps", unfollowed := true, recurses := true, named := ["tierline/ops.parts", "tierline/ops.callReads"], plainKeys := false, apart := false, laid := [("tierline/ops.parts", laid_tierline_ops_parts), ("tierline/ops.callReads", laid_tierline_ops_callReads)], narrowed := true }
def AssignKeepsUptoSaid : Prop := assignKeepsUptoRow.holds Tryz.pinned (OpenSpec.upto assignKeepsSpec)

end Rows
end Go.Proofs.YtldbmdgpdolaaaaGreatDoor
