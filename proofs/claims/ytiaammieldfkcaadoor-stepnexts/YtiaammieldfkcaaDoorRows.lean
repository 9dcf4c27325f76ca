/-
  NARROWER THAN 'FOR EVERY INPUT', by the rows' own cells (each row's printed sentence says how): StepNexts: laid · StepRuns: laid · ProfileCounts: laid · ProfileHots: laid.
  DERIVED. THE GIVEN ROWS OF THIS SEAT. 4 by the template 'for every input the law returns true; each argument reads behind the call as it read before'; 0 by the template 'total and deterministic' (their statements: YtiaammieldfkcaaDoorTotals.lean).
  GIVEN WITH THE SEED: the statements are not yours to turn. If you find one false, say at which input.
  Laid BY PROGRAM, IN A SANDBOX (cutbox-rows.mjs): the forced cells as the released guide's own fill.sh prints them over the translation de43c8ba2128080c… (all of the seat's roots in one cut). By AI agents, Wed Nov 11 2026. No macro, syntax, notation, axiom, sorry.
-/
import Derived.Test.YtiaammieldfkcaaDoorChecked
import GoSem.Claim
import GoSem.ClaimJoined
import GoSem.ClaimMapViews
import Derived.JoinedTies
import Derived.KernelRfl
namespace Go.Proofs.YtiaammieldfkcaaDoor
/- THE CELL 'sum', in the pinned program and in every row, IS THE sha256 OF THE DUMP (.gsa) THAT YtiaammieldfkcaaDoorProg.lean LOADS. Nothing in Lean hashes anything: it is a label: what it is worth is what the hold of that sum in a sandbox is worth. -/
noncomputable def Tryd.pinned : Pinned := { name := "ytiaammieldfkcaadoor", sum := "de43c8ba2128080c6eb6fb79a80ac1b42e7c0ef4a9f730c2fa12759028eede6e", checked := Tryd.checked }
namespace Rows
def none {H : Type} : Left H := { results := [], args := [] }

/- WHAT THE LISTED PACKAGE-LEVEL VARIABLES READ AS WHEN THE CALL BEGINS. Each datum BY PROGRAM (the guide's laid-datum.mjs) off the statement by which the dump's own 'gosem.cut.vars' lays the variable. In a bare row this is a premise. The card (YtiaammieldfkcaaDoorCards.lean) ties it to the program's text. -/
def laid_tierline_ops_parts {H : Type} : DataW H := .agg [.lit (.int .i64 0), .lit (.int .i64 9), .lit (.int .i64 7), .lit (.int .i64 7), .lit (.int .i64 7), .lit (.int .i64 7), .lit (.int .i64 7), .lit (.int .i64 7), .lit (.int .i64 7), .lit (.int .i64 7), .lit (.int .i64 7), .lit (.int .i64 7), .lit (.int .i64 7), .lit (.int .i64 3), .lit (.int .i64 6), .lit (.int .i64 16), .lit (.int .i64 18), .lit (.int .i64 39), .lit (.int .i64 3), .lit (.int .i64 2)]
def laid_tierline_ops_callReads {H : Type} : DataW H := .agg [.lit (.int .i64 0), .lit (.int .i64 2), .lit (.int .i64 6)]

/-- 'tierlinelaw.StepNexts': WHATEVER THE INPUT: true; the input reads as it did. -/
def stepNextsSpec : ChangeSpec := { name := "stepNexts", fn := fun _ => fun
  | [d1, d2] => { results := [.lit (.bool true)], args := [d1, d2] }
  | _ => none }
def stepNextsRow : OpenClaim := { program := "ytiaammieldfkcaadoor", sum := "de43c8ba2128080c6eb6fb79a80ac1b42e7c0ef4a9f730c2fa12759028eede6e", func := "tierline/tierlinelaw.StepNexts", spec := "stepNexts", named := ["tierline/ops.parts", "tierline/ops.callReads"], apart := false, laid := [("tierline/ops.parts", laid_tierline_ops_parts), ("tierline/ops.callReads", laid_tierline_ops_callReads)] }
def StepNextsSaid : Prop := stepNextsRow.holds Tryd.pinned (OpenSpec.ofChange stepNextsSpec)

/-- ITS FALSE NEIGHBOUR: 'it returns false'. Refute it at one input. -/
def stepNextsWrong : ChangeSpec := { name := "stepNexts", fn := fun _ => fun
  | [d1, d2] => { results := [.lit (.bool false)], args := [d1, d2] }
  | _ => none }
def StepNextsWrongFalsely : Prop := stepNextsRow.holds Tryd.pinned (OpenSpec.ofChange stepNextsWrong)

/-- 'tierlinelaw.StepRuns': WHATEVER THE INPUT: true; the input reads as it did. -/
def stepRunsSpec : ChangeSpec := { name := "stepRuns", fn := fun _ => fun
  | [d1, d2, d3, d4] => { results := [.lit (.bool true)], args := [d1, d2, d3, d4] }
  | _ => none }
def stepRunsRow : OpenClaim := { program := "ytiaammieldfkcaadoor", sum := "de43c8ba2128080c6eb6fb79a80ac1b42e7c0ef4a9f730c2fa12759028eede6e", func := "tierline/tierlinelaw.StepRuns", spec := "stepRuns", named := ["tierline/ops.parts", "tierline/ops.callReads"], apart := false, laid := [("tierline/ops.parts", laid_tierline_ops_parts), ("tierline/ops.callReads", laid_tierline_ops_callReads)] }
def StepRunsSaid : Prop := stepRunsRow.holds Tryd.pinned (OpenSpec.ofChange stepRunsSpec)

/-- ITS FALSE NEIGHBOUR: 'it returns false'. Refute it at one input. -/
def stepRunsWrong : ChangeSpec := { name := "stepRuns", fn := fun _ => fun
  | [d1, d2, d3, d4] => { results := [.lit (.bool false)], args := [d1, d2, d3, d4] }
  | _ => none }
def StepRunsWrongFalsely : Prop := stepRunsRow.holds Tryd.pinned (OpenSpec.ofChange stepRunsWrong)

/-- 'tierlinelaw.ProfileCounts': WHATEVER THE INPUT: true; the input reads as it did. -/
def profileCountsSpec : ChangeSpec := { name := "profileCounts", fn := fun _ => fun
  | [d1, d2, d3, d4] => { results := [.lit (.bool true)], args := [d1, d2, d3, d4] }
  | _ => none }
def profileCountsRow : OpenClaim := { program := "ytiaammieldfkcaadoor", sum := "de43c8ba2128080c6eb6fb79a80ac1b42e7c0ef4a9f730c2fa12759028eede6e", func := "tierline/tierlinelaw.ProfileCounts", spec := "profileCounts", named := ["tierline/ops.parts", "tierline/ops.callReads"], apart := false, laid := [("tierline/ops.parts", laid_tierline_ops_parts), ("tierline/ops.callReads", laid_tierline_ops_callReads)] }
def ProfileCountsSaid : Prop := profileCountsRow.holds Tryd.pinned (OpenSpec.ofChange profileCountsSpec)

/-- ITS FALSE NEIGHBOUR: 'it returns false'. Refute it at one input. -/
def profileCountsWrong : ChangeSpec := { name := "profileCounts", fn := fun _ => fun
  | [d1, d2, d3, d4] => { results := [.lit (.bool false)], args := [d1, d2, d3, d4] }
  | _ => none }
def ProfileCountsWrongFalsely : Prop := profileCountsRow.holds Tryd.pinned (OpenSpec.ofChange profileCountsWrong)

/-- 'tierlinelaw.ProfileHots': WHATEVER THE INPUT: true; the input reads as it did. -/
def profileHotsSpec : ChangeSpec := { name := "profileHots", fn := fun _ => fun
  | [d1, d2, d3, d4] => { results := [.lit (.bool true)], args := [d1, d2, d3, d4] }
  | _ => none }
def profileHotsRow : OpenClaim := { program := "ytiaammieldfkcaadoor", sum := "de43c8ba2128080c6eb6fb79a80ac1b42e7c0ef4a9f730c2fa12759028eede6e", func := "tierline/tierlinelaw.ProfileHots", spec := "profileHots", named := ["tierline/ops.parts", "tierline/ops.callReads"], apart := false, laid := [("tierline/ops.parts", laid_tierline_ops_parts), ("tierline/ops.callReads", laid_tierline_ops_callReads)] }
def ProfileHotsSaid : Prop := profileHotsRow.holds Tryd.pinned (OpenSpec.ofChange profileHotsSpec)

/-- ITS FALSE NEIGHBOUR: 'it returns false'. Refute it at one input. -/
def profileHotsWrong : ChangeSpec := { name := "profileHots", fn := fun _ => fun
  | [d1, d2, d3, d4] => { results := [.lit (.bool false)], args := [d1, d2, d3, d4] }
  | _ => none }
def ProfileHotsWrongFalsely : Prop := profileHotsRow.holds Tryd.pinned (OpenSpec.ofChange profileHotsWrong)

/- THE SECOND FORM. 'bulk': how many values and letters a reading holds, each counted each time it is reached (what is shared counts as often as it is met; a slice's spare places count too). A statement '..UptoSaid' is the law's where the arguments, and the package variables that the reading takes, are together of bulk at most 1048576: NARROWER than '..Said'. Prove '..Said' where nothing that the law and all that it calls make is longer than what came in: it says more and counts as full. Else prove '..UptoSaid'. A law counts once. -/
mutual
def uptoBulk {H : Type} : DataW H → Nat
  | .lit (.string bytes) => bytes.length + 1
  | .lit _ => 1
  | .nil => 1
  | .ptr d => uptoBulk d + 1
  | .slice elems spare => uptoBulkAll elems + uptoBulkAll spare + 1
  | .agg parts => uptoBulkAll parts + 1
  | .iface _ d => uptoBulk d + 1
  | .map entries => uptoBulkEntries entries + 1
  | .held _ => 1
def uptoBulkAll {H : Type} : List (DataW H) → Nat
  | [] => 0
  | d :: r => uptoBulk d + uptoBulkAll r
def uptoBulkEntries {H : Type} : List (Lit × DataW H) → Nat
  | [] => 0
  | x :: r => uptoBulkEntry x + uptoBulkEntries r
def uptoBulkEntry {H : Type} : Lit × DataW H → Nat
  | (.string bytes, d) => bytes.length + uptoBulk d + 1
  | (_, d) => uptoBulk d + 1
 end
def uptoSmall : (H : Type) → List (DataW H) → Bool := fun _ ds => decide (uptoBulkAll ds ≤ 1048576)
def OpenSpec.upto (s : _root_.Go.ChangeSpec) : _root_.Go.OpenSpec := { _root_.Go.OpenSpec.ofChange s with cond := some uptoSmall }

/-- 'tierlinelaw.StepNexts', WHERE WHAT IT READS IS OF BULK AT MOST 1048576: true; the input reads as it did. -/
def stepNextsUptoRow : OpenClaim := { program := "ytiaammieldfkcaadoor", sum := "de43c8ba2128080c6eb6fb79a80ac1b42e7c0ef4a9f730c2fa12759028eede6e", func := "tierline/tierlinelaw.StepNexts", spec := "stepNexts", named := ["tierline/ops.parts", "tierline/ops.callReads"], apart := false, laid := [("tierline/ops.parts", laid_tierline_ops_parts), ("tierline/ops.callReads", laid_tierline_ops_callReads)], narrowed := true }
def StepNextsUptoSaid : Prop := stepNextsUptoRow.holds Tryd.pinned (OpenSpec.upto stepNextsSpec)

/-- 'tierlinelaw.StepRuns', WHERE WHAT IT READS IS OF BULK AT MOST 1048576: true; the input reads as it did. -/
def stepRunsUptoRow : OpenClaim := { program := "ytiaammieldfkcaadoor", sum := "de43c8ba2128080c6eb6fb79a80ac1b42e7c0ef4a9f730c2fa12759028eede6e", func := "tierline/tierlinelaw.StepRuns", spec := "stepRuns", named := ["tierline/ops.parts", "tierline/ops.callReads"], apart := false, laid := [("tierline/ops.parts", laid_tierline_ops_parts), ("tierline/ops.callReads", laid_tierline_ops_callReads)], narrowed := true }
def StepRunsUptoSaid : Prop := stepRunsUptoRow.holds Tryd.pinned (OpenSpec.upto stepRunsSpec)

/-- 'tierlinelaw.ProfileCounts', WHERE WHAT IT READS IS OF BULK AT MOST 1048576: true; the input reads as it did. -/
def profileCountsUptoRow : OpenClaim := { program := "ytiaammieldfkcaadoor", sum := "de43c8ba2128080c6eb6fb79a80ac1b42e7c0ef4a9f730c2fa12759028eede6e", func := "tierline/tierlinelaw.ProfileCounts", spec := "profileCounts", named := ["tierline/ops.parts", "tierline/ops.callReads"], apart := false, laid := [("tierline/ops.parts", laid_tierline_ops_parts), ("tierline/ops.callReads", laid_tierline_ops_callReads)], narrowed := true }
def ProfileCountsUptoSaid : Prop := profileCountsUptoRow.holds Tryd.pinned (OpenSpec.upto profileCountsSpec)

/-- 'tierlinelaw.ProfileHots', WHERE WHAT IT READS IS OF BULK AT MOST 1048576: true; the input reads as it did. -/
def profileHotsUptoRow : OpenClaim := { program := "ytiaammieldfkcaadoor", sum := "de43c8ba2128080c6eb6fb79a80ac1b42e7c0ef4a9f730c2fa12759028eede6e", func := "tierline/tierlinelaw.ProfileHots", spec := "profileHots", named := ["tierline/ops.parts", "tierline/ops.callReads"], apart := false, laid := [("tierline/ops.parts", laid_tierline_ops_parts), ("tierline/ops.callReads", laid_tierline_ops_callReads)], narrowed := true }
def ProfileHotsUptoSaid : Prop := profileHotsUptoRow.holds Tryd.pinned (OpenSpec.upto profileHotsSpec)

end Rows
end Go.Proofs.YtiaammieldfkcaaDoor
