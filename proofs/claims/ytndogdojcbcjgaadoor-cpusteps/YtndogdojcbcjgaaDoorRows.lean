/-
  NARROWER THAN 'FOR EVERY INPUT', by the rows' own cells (each row's printed sentence says how): EmitEnters: laid · EmitLeaves: laid · EnterLeave: laid · FarWalks: laid · EmitParts: laid · StepRuns: laid · ProfileCounts: laid · ProfileHots: laid · CpuSteps: laid · CpuRuns: laid.
  DERIVED. THE GIVEN ROWS OF THIS SEAT. 10 by the template 'for every input the law returns true; each argument reads behind the call as it read before'; 0 by the template 'total and deterministic' (their statements: YtndogdojcbcjgaaDoorTotals.lean).
  GIVEN WITH THE SEED: the statements are not yours to turn. If you find one false, say at which input.
  Laid BY PROGRAM, IN A SANDBOX (cutbox-rows.mjs): the forced cells as the released guide's own fill.sh prints them over the translation 9824167f401d1261… (all of the seat's roots in one cut). By AI agents, Wed Nov 11 2026. No macro, syntax, notation, axiom, sorry.
-/
import Derived.Test.YtndogdojcbcjgaaDoorChecked
import GoSem.Claim
import GoSem.ClaimJoined
import GoSem.ClaimMapViews
import Derived.JoinedTies
import Derived.KernelRfl
namespace Go.Proofs.YtndogdojcbcjgaaDoor
/- THE CELL 'sum', in the pinned program and in every row, IS THE sha256 OF THE DUMP (.gsa) THAT YtndogdojcbcjgaaDoorProg.lean LOADS. Nothing in Lean hashes anything: it is a label: what it is worth is what the hold of that sum in a sandbox is worth. -/
noncomputable def Tryd.pinned : Pinned := { name := "ytndogdojcbcjgaadoor", sum := "9824167f401d126167d9aeb52177267a924361df2d245969a6d18de3d4380c6d", checked := Tryd.checked }
namespace Rows
def none {H : Type} : Left H := { results := [], args := [] }

/- WHAT THE LISTED PACKAGE-LEVEL VARIABLES READ AS WHEN THE CALL BEGINS. Each datum BY PROGRAM (the guide's laid-datum.mjs) off the statement by which the dump's own 'gosem.cut.vars' lays the variable. In a bare row this is a premise. The card (YtndogdojcbcjgaaDoorCards.lean) ties it to the program's text. -/
def laid_tierline_ops_parts {H : Type} : DataW H := .agg [.lit (.int .i64 0), .lit (.int .i64 9), .lit (.int .i64 7), .lit (.int .i64 7), .lit (.int .i64 7), .lit (.int .i64 7), .lit (.int .i64 7), .lit (.int .i64 7), .lit (.int .i64 7), .lit (.int .i64 7), .lit (.int .i64 7), .lit (.int .i64 7), .lit (.int .i64 7), .lit (.int .i64 3), .lit (.int .i64 6), .lit (.int .i64 16), .lit (.int .i64 18), .lit (.int .i64 39), .lit (.int .i64 3), .lit (.int .i64 2)]
def laid_tierline_ops_callReads {H : Type} : DataW H := .agg [.lit (.int .i64 0), .lit (.int .i64 2), .lit (.int .i64 6)]
def laid_tierline_rv_patterns {H : Type} : DataW H := .agg [.agg [.lit (.int .i64 0), .lit (.int .i64 0)], .agg [.lit (.int .i64 0), .lit (.int .i64 51)], .agg [.lit (.int .i64 0), .lit (.int .i64 1073741875)], .agg [.lit (.int .i64 0), .lit (.int .i64 33554483)], .agg [.lit (.int .i64 0), .lit (.int .i64 33570867)], .agg [.lit (.int .i64 0), .lit (.int .i64 28723)], .agg [.lit (.int .i64 0), .lit (.int .i64 24627)], .agg [.lit (.int .i64 0), .lit (.int .i64 16435)], .agg [.lit (.int .i64 0), .lit (.int .i64 4147)], .agg [.lit (.int .i64 0), .lit (.int .i64 1073762355)], .agg [.lit (.int .i64 0), .lit (.int .i64 8243)], .agg [.lit (.int .i64 0), .lit (.int .i64 12339)], .agg [.lit (.int .i64 1), .lit (.int .i64 19)], .agg [.lit (.int .i64 1), .lit (.int .i64 28691)], .agg [.lit (.int .i64 1), .lit (.int .i64 24595)], .agg [.lit (.int .i64 1), .lit (.int .i64 16403)], .agg [.lit (.int .i64 1), .lit (.int .i64 8211)], .agg [.lit (.int .i64 1), .lit (.int .i64 12307)], .agg [.lit (.int .i64 2), .lit (.int .i64 4115)], .agg [.lit (.int .i64 2), .lit (.int .i64 1073762323)], .agg [.lit (.int .i64 1), .lit (.int .i64 12291)], .agg [.lit (.int .i64 3), .lit (.int .i64 12323)], .agg [.lit (.int .i64 4), .lit (.int .i64 99)], .agg [.lit (.int .i64 4), .lit (.int .i64 4195)], .agg [.lit (.int .i64 4), .lit (.int .i64 16483)], .agg [.lit (.int .i64 4), .lit (.int .i64 20579)], .agg [.lit (.int .i64 5), .lit (.int .i64 111)], .agg [.lit (.int .i64 1), .lit (.int .i64 103)], .agg [.lit (.int .i64 6), .lit (.int .i64 55)], .agg [.lit (.int .i64 7), .lit (.int .i64 115)]]
def laid_tierline_rv_shapes {H : Type} : DataW H := .agg [.agg [.lit (.int .i64 31), .lit (.int .i64 31), .lit (.int .i64 31), .lit (.int .i64 0), .lit (.int .i64 0), .lit (.int .i64 1), .agg [.agg [.lit (.int .i64 0), .lit (.int .i64 0), .lit (.int .i64 0)], .agg [.lit (.int .i64 0), .lit (.int .i64 0), .lit (.int .i64 0)], .agg [.lit (.int .i64 0), .lit (.int .i64 0), .lit (.int .i64 0)], .agg [.lit (.int .i64 0), .lit (.int .i64 0), .lit (.int .i64 0)]], .lit (.int .i64 4261441663)], .agg [.lit (.int .i64 31), .lit (.int .i64 31), .lit (.int .i64 0), .lit (.int .i64 (-2048)), .lit (.int .i64 2047), .lit (.int .i64 1), .agg [.agg [.lit (.int .i64 12), .lit (.int .i64 0), .lit (.int .i64 20)], .agg [.lit (.int .i64 0), .lit (.int .i64 0), .lit (.int .i64 0)], .agg [.lit (.int .i64 0), .lit (.int .i64 0), .lit (.int .i64 0)], .agg [.lit (.int .i64 0), .lit (.int .i64 0), .lit (.int .i64 0)]], .lit (.int .i64 28799)], .agg [.lit (.int .i64 31), .lit (.int .i64 31), .lit (.int .i64 0), .lit (.int .i64 0), .lit (.int .i64 63), .lit (.int .i64 1), .agg [.agg [.lit (.int .i64 6), .lit (.int .i64 0), .lit (.int .i64 20)], .agg [.lit (.int .i64 0), .lit (.int .i64 0), .lit (.int .i64 0)], .agg [.lit (.int .i64 0), .lit (.int .i64 0), .lit (.int .i64 0)], .agg [.lit (.int .i64 0), .lit (.int .i64 0), .lit (.int .i64 0)]], .lit (.int .i64 4227887231)], .agg [.lit (.int .i64 0), .lit (.int .i64 31), .lit (.int .i64 31), .lit (.int .i64 (-2048)), .lit (.int .i64 2047), .lit (.int .i64 1), .agg [.agg [.lit (.int .i64 5), .lit (.int .i64 0), .lit (.int .i64 7)], .agg [.lit (.int .i64 7), .lit (.int .i64 5), .lit (.int .i64 25)], .agg [.lit (.int .i64 0), .lit (.int .i64 0), .lit (.int .i64 0)], .agg [.lit (.int .i64 0), .lit (.int .i64 0), .lit (.int .i64 0)]], .lit (.int .i64 28799)], .agg [.lit (.int .i64 0), .lit (.int .i64 31), .lit (.int .i64 31), .lit (.int .i64 (-4096)), .lit (.int .i64 4092), .lit (.int .i64 4), .agg [.agg [.lit (.int .i64 1), .lit (.int .i64 11), .lit (.int .i64 7)], .agg [.lit (.int .i64 4), .lit (.int .i64 1), .lit (.int .i64 8)], .agg [.lit (.int .i64 6), .lit (.int .i64 5), .lit (.int .i64 25)], .agg [.lit (.int .i64 1), .lit (.int .i64 12), .lit (.int .i64 31)]], .lit (.int .i64 28799)], .agg [.lit (.int .i64 31), .lit (.int .i64 0), .lit (.int .i64 0), .lit (.int .i64 (-1048576)), .lit (.int .i64 1048572), .lit (.int .i64 4), .agg [.agg [.lit (.int .i64 8), .lit (.int .i64 12), .lit (.int .i64 12)], .agg [.lit (.int .i64 1), .lit (.int .i64 11), .lit (.int .i64 20)], .agg [.lit (.int .i64 10), .lit (.int .i64 1), .lit (.int .i64 21)], .agg [.lit (.int .i64 1), .lit (.int .i64 20), .lit (.int .i64 31)]], .lit (.int .i64 127)], .agg [.lit (.int .i64 31), .lit (.int .i64 0), .lit (.int .i64 0), .lit (.int .i64 (-524288)), .lit (.int .i64 524287), .lit (.int .i64 1), .agg [.agg [.lit (.int .i64 20), .lit (.int .i64 0), .lit (.int .i64 12)], .agg [.lit (.int .i64 0), .lit (.int .i64 0), .lit (.int .i64 0)], .agg [.lit (.int .i64 0), .lit (.int .i64 0), .lit (.int .i64 0)], .agg [.lit (.int .i64 0), .lit (.int .i64 0), .lit (.int .i64 0)]], .lit (.int .i64 127)], .agg [.lit (.int .i64 0), .lit (.int .i64 0), .lit (.int .i64 0), .lit (.int .i64 0), .lit (.int .i64 0), .lit (.int .i64 1), .agg [.agg [.lit (.int .i64 0), .lit (.int .i64 0), .lit (.int .i64 0)], .agg [.lit (.int .i64 0), .lit (.int .i64 0), .lit (.int .i64 0)], .agg [.lit (.int .i64 0), .lit (.int .i64 0), .lit (.int .i64 0)], .agg [.lit (.int .i64 0), .lit (.int .i64 0), .lit (.int .i64 0)]], .lit (.int .i64 4294967295)]]

/-- 'tierlinelaw.EmitEnters': WHATEVER THE INPUT: true; the input reads as it did. -/
def emitEntersSpec : ChangeSpec := { name := "emitEnters", fn := fun _ => fun
  | [d1, d2] => { results := [.lit (.bool true)], args := [d1, d2] }
  | _ => none }
def emitEntersRow : OpenClaim := { program := "ytndogdojcbcjgaadoor", sum := "9824167f401d126167d9aeb52177267a924361df2d245969a6d18de3d4380c6d", func := "tierline/tierlinelaw.EmitEnters", spec := "emitEnters", named := ["tierline/ops.parts", "tierline/ops.callReads"], apart := false, laid := [("tierline/ops.parts", laid_tierline_ops_parts), ("tierline/ops.callReads", laid_tierline_ops_callReads)] }
def EmitEntersSaid : Prop := emitEntersRow.holds Tryd.pinned (OpenSpec.ofChange emitEntersSpec)

/-- ITS FALSE NEIGHBOUR: 'it returns false'. Refute it at one input. -/
def emitEntersWrong : ChangeSpec := { name := "emitEnters", fn := fun _ => fun
  | [d1, d2] => { results := [.lit (.bool false)], args := [d1, d2] }
  | _ => none }
def EmitEntersWrongFalsely : Prop := emitEntersRow.holds Tryd.pinned (OpenSpec.ofChange emitEntersWrong)

/-- 'tierlinelaw.EmitLeaves': WHATEVER THE INPUT: true; the input reads as it did. -/
def emitLeavesSpec : ChangeSpec := { name := "emitLeaves", fn := fun _ => fun
  | [d1, d2, d3] => { results := [.lit (.bool true)], args := [d1, d2, d3] }
  | _ => none }
def emitLeavesRow : OpenClaim := { program := "ytndogdojcbcjgaadoor", sum := "9824167f401d126167d9aeb52177267a924361df2d245969a6d18de3d4380c6d", func := "tierline/tierlinelaw.EmitLeaves", spec := "emitLeaves", named := ["tierline/ops.parts", "tierline/ops.callReads"], apart := false, laid := [("tierline/ops.parts", laid_tierline_ops_parts), ("tierline/ops.callReads", laid_tierline_ops_callReads)] }
def EmitLeavesSaid : Prop := emitLeavesRow.holds Tryd.pinned (OpenSpec.ofChange emitLeavesSpec)

/-- ITS FALSE NEIGHBOUR: 'it returns false'. Refute it at one input. -/
def emitLeavesWrong : ChangeSpec := { name := "emitLeaves", fn := fun _ => fun
  | [d1, d2, d3] => { results := [.lit (.bool false)], args := [d1, d2, d3] }
  | _ => none }
def EmitLeavesWrongFalsely : Prop := emitLeavesRow.holds Tryd.pinned (OpenSpec.ofChange emitLeavesWrong)

/-- 'tierlinekeep.EnterLeave': WHATEVER THE INPUT: true; the input reads as it did. -/
def enterLeaveSpec : ChangeSpec := { name := "enterLeave", fn := fun _ => fun
  | [d1, d2, d3] => { results := [.lit (.bool true)], args := [d1, d2, d3] }
  | _ => none }
def enterLeaveRow : OpenClaim := { program := "ytndogdojcbcjgaadoor", sum := "9824167f401d126167d9aeb52177267a924361df2d245969a6d18de3d4380c6d", func := "tierline/tierlinekeep.EnterLeave", spec := "enterLeave", named := ["tierline/ops.parts", "tierline/ops.callReads"], apart := false, laid := [("tierline/ops.parts", laid_tierline_ops_parts), ("tierline/ops.callReads", laid_tierline_ops_callReads)] }
def EnterLeaveSaid : Prop := enterLeaveRow.holds Tryd.pinned (OpenSpec.ofChange enterLeaveSpec)

/-- ITS FALSE NEIGHBOUR: 'it returns false'. Refute it at one input. -/
def enterLeaveWrong : ChangeSpec := { name := "enterLeave", fn := fun _ => fun
  | [d1, d2, d3] => { results := [.lit (.bool false)], args := [d1, d2, d3] }
  | _ => none }
def EnterLeaveWrongFalsely : Prop := enterLeaveRow.holds Tryd.pinned (OpenSpec.ofChange enterLeaveWrong)

/-- 'tierlinekeep.FarWalks': WHATEVER THE INPUT: true; the input reads as it did. -/
def farWalksSpec : ChangeSpec := { name := "farWalks", fn := fun _ => fun
  | [d1, d2, d3] => { results := [.lit (.bool true)], args := [d1, d2, d3] }
  | _ => none }
def farWalksRow : OpenClaim := { program := "ytndogdojcbcjgaadoor", sum := "9824167f401d126167d9aeb52177267a924361df2d245969a6d18de3d4380c6d", func := "tierline/tierlinekeep.FarWalks", spec := "farWalks", unfollowed := true, recurses := true, named := ["tierline/ops.parts", "tierline/ops.callReads"], apart := false, laid := [("tierline/ops.parts", laid_tierline_ops_parts), ("tierline/ops.callReads", laid_tierline_ops_callReads)] }
def FarWalksSaid : Prop := farWalksRow.holds Tryd.pinned (OpenSpec.ofChange farWalksSpec)

/-- ITS FALSE NEIGHBOUR: 'it returns false'. Refute it at one input. -/
def farWalksWrong : ChangeSpec := { name := "farWalks", fn := fun _ => fun
  | [d1, d2, d3] => { results := [.lit (.bool false)], args := [d1, d2, d3] }
  | _ => none }
def FarWalksWrongFalsely : Prop := farWalksRow.holds Tryd.pinned (OpenSpec.ofChange farWalksWrong)

/-- 'tierlinekeep.EmitParts': WHATEVER THE INPUT: true; the input reads as it did. -/
def emitPartsSpec : ChangeSpec := { name := "emitParts", fn := fun _ => fun
  | [d1, d2, d3, d4] => { results := [.lit (.bool true)], args := [d1, d2, d3, d4] }
  | _ => none }
def emitPartsRow : OpenClaim := { program := "ytndogdojcbcjgaadoor", sum := "9824167f401d126167d9aeb52177267a924361df2d245969a6d18de3d4380c6d", func := "tierline/tierlinekeep.EmitParts", spec := "emitParts", unfollowed := true, recurses := true, named := ["tierline/ops.parts", "tierline/ops.callReads"], apart := false, laid := [("tierline/ops.parts", laid_tierline_ops_parts), ("tierline/ops.callReads", laid_tierline_ops_callReads)] }
def EmitPartsSaid : Prop := emitPartsRow.holds Tryd.pinned (OpenSpec.ofChange emitPartsSpec)

/-- ITS FALSE NEIGHBOUR: 'it returns false'. Refute it at one input. -/
def emitPartsWrong : ChangeSpec := { name := "emitParts", fn := fun _ => fun
  | [d1, d2, d3, d4] => { results := [.lit (.bool false)], args := [d1, d2, d3, d4] }
  | _ => none }
def EmitPartsWrongFalsely : Prop := emitPartsRow.holds Tryd.pinned (OpenSpec.ofChange emitPartsWrong)

/-- 'tierlinelaw.StepRuns': WHATEVER THE INPUT: true; the input reads as it did. -/
def stepRunsSpec : ChangeSpec := { name := "stepRuns", fn := fun _ => fun
  | [d1, d2, d3, d4] => { results := [.lit (.bool true)], args := [d1, d2, d3, d4] }
  | _ => none }
def stepRunsRow : OpenClaim := { program := "ytndogdojcbcjgaadoor", sum := "9824167f401d126167d9aeb52177267a924361df2d245969a6d18de3d4380c6d", func := "tierline/tierlinelaw.StepRuns", spec := "stepRuns", named := ["tierline/ops.parts", "tierline/ops.callReads"], apart := false, laid := [("tierline/ops.parts", laid_tierline_ops_parts), ("tierline/ops.callReads", laid_tierline_ops_callReads)] }
def StepRunsSaid : Prop := stepRunsRow.holds Tryd.pinned (OpenSpec.ofChange stepRunsSpec)

/-- ITS FALSE NEIGHBOUR: 'it returns false'. Refute it at one input. -/
def stepRunsWrong : ChangeSpec := { name := "stepRuns", fn := fun _ => fun
  | [d1, d2, d3, d4] => { results := [.lit (.bool false)], args := [d1, d2, d3, d4] }
  | _ => none }
def StepRunsWrongFalsely : Prop := stepRunsRow.holds Tryd.pinned (OpenSpec.ofChange stepRunsWrong)

/-- 'tierlinelaw.ProfileCounts': WHATEVER THE INPUT: true; the input reads as it did. -/
def profileCountsSpec : ChangeSpec := { name := "profileCounts", fn := fun _ => fun
  | [d1, d2, d3, d4] => { results := [.lit (.bool true)], args := [d1, d2, d3, d4] }
  | _ => none }
def profileCountsRow : OpenClaim := { program := "ytndogdojcbcjgaadoor", sum := "9824167f401d126167d9aeb52177267a924361df2d245969a6d18de3d4380c6d", func := "tierline/tierlinelaw.ProfileCounts", spec := "profileCounts", named := ["tierline/ops.parts", "tierline/ops.callReads"], apart := false, laid := [("tierline/ops.parts", laid_tierline_ops_parts), ("tierline/ops.callReads", laid_tierline_ops_callReads)] }
def ProfileCountsSaid : Prop := profileCountsRow.holds Tryd.pinned (OpenSpec.ofChange profileCountsSpec)

/-- ITS FALSE NEIGHBOUR: 'it returns false'. Refute it at one input. -/
def profileCountsWrong : ChangeSpec := { name := "profileCounts", fn := fun _ => fun
  | [d1, d2, d3, d4] => { results := [.lit (.bool false)], args := [d1, d2, d3, d4] }
  | _ => none }
def ProfileCountsWrongFalsely : Prop := profileCountsRow.holds Tryd.pinned (OpenSpec.ofChange profileCountsWrong)

/-- 'tierlinelaw.ProfileHots': WHATEVER THE INPUT: true; the input reads as it did. -/
def profileHotsSpec : ChangeSpec := { name := "profileHots", fn := fun _ => fun
  | [d1, d2, d3, d4] => { results := [.lit (.bool true)], args := [d1, d2, d3, d4] }
  | _ => none }
def profileHotsRow : OpenClaim := { program := "ytndogdojcbcjgaadoor", sum := "9824167f401d126167d9aeb52177267a924361df2d245969a6d18de3d4380c6d", func := "tierline/tierlinelaw.ProfileHots", spec := "profileHots", named := ["tierline/ops.parts", "tierline/ops.callReads"], apart := false, laid := [("tierline/ops.parts", laid_tierline_ops_parts), ("tierline/ops.callReads", laid_tierline_ops_callReads)] }
def ProfileHotsSaid : Prop := profileHotsRow.holds Tryd.pinned (OpenSpec.ofChange profileHotsSpec)

/-- ITS FALSE NEIGHBOUR: 'it returns false'. Refute it at one input. -/
def profileHotsWrong : ChangeSpec := { name := "profileHots", fn := fun _ => fun
  | [d1, d2, d3, d4] => { results := [.lit (.bool false)], args := [d1, d2, d3, d4] }
  | _ => none }
def ProfileHotsWrongFalsely : Prop := profileHotsRow.holds Tryd.pinned (OpenSpec.ofChange profileHotsWrong)

/-- 'tierlinelaw.CpuSteps': WHATEVER THE INPUT: true; the input reads as it did. -/
def cpuStepsSpec : ChangeSpec := { name := "cpuSteps", fn := fun _ => fun
  | [d1, d2] => { results := [.lit (.bool true)], args := [d1, d2] }
  | _ => none }
def cpuStepsRow : OpenClaim := { program := "ytndogdojcbcjgaadoor", sum := "9824167f401d126167d9aeb52177267a924361df2d245969a6d18de3d4380c6d", func := "tierline/tierlinelaw.CpuSteps", spec := "cpuSteps", named := ["tierline/rv.patterns", "tierline/rv.shapes"], apart := false, laid := [("tierline/rv.patterns", laid_tierline_rv_patterns), ("tierline/rv.shapes", laid_tierline_rv_shapes)] }
def CpuStepsSaid : Prop := cpuStepsRow.holds Tryd.pinned (OpenSpec.ofChange cpuStepsSpec)

/-- ITS FALSE NEIGHBOUR: 'it returns false'. Refute it at one input. -/
def cpuStepsWrong : ChangeSpec := { name := "cpuSteps", fn := fun _ => fun
  | [d1, d2] => { results := [.lit (.bool false)], args := [d1, d2] }
  | _ => none }
def CpuStepsWrongFalsely : Prop := cpuStepsRow.holds Tryd.pinned (OpenSpec.ofChange cpuStepsWrong)

/-- 'tierlinelaw.CpuRuns': WHATEVER THE INPUT: true; the input reads as it did. -/
def cpuRunsSpec : ChangeSpec := { name := "cpuRuns", fn := fun _ => fun
  | [d1, d2, d3] => { results := [.lit (.bool true)], args := [d1, d2, d3] }
  | _ => none }
def cpuRunsRow : OpenClaim := { program := "ytndogdojcbcjgaadoor", sum := "9824167f401d126167d9aeb52177267a924361df2d245969a6d18de3d4380c6d", func := "tierline/tierlinelaw.CpuRuns", spec := "cpuRuns", named := ["tierline/rv.patterns", "tierline/rv.shapes"], apart := false, laid := [("tierline/rv.patterns", laid_tierline_rv_patterns), ("tierline/rv.shapes", laid_tierline_rv_shapes)] }
def CpuRunsSaid : Prop := cpuRunsRow.holds Tryd.pinned (OpenSpec.ofChange cpuRunsSpec)

/-- ITS FALSE NEIGHBOUR: 'it returns false'. Refute it at one input. -/
def cpuRunsWrong : ChangeSpec := { name := "cpuRuns", fn := fun _ => fun
  | [d1, d2, d3] => { results := [.lit (.bool false)], args := [d1, d2, d3] }
  | _ => none }
def CpuRunsWrongFalsely : Prop := cpuRunsRow.holds Tryd.pinned (OpenSpec.ofChange cpuRunsWrong)

/- THE SECOND FORM. 'bulk': how many values and letters a reading holds, each counted each time it is reached (what is shared counts as often as it is met; a slice's spare places count too). A statement '..UptoSaid' is the law's where the arguments, and the package variables that the reading takes, are together of bulk at most 1048576: NARROWER than '..Said'. Prove '..Said' where nothing that the law and all that it calls make is longer than what came in: it says more and counts as full. Else prove '..UptoSaid'. A law counts once. -/
mutual
def uptoBulk {H : Type} : DataW H → Nat
  | .lit (.string bytes) => bytes.length + 1
  | .lit _ => 1
  | .nil => 1
  | .ptr d => uptoBulk d + 1
  | .slice elems spare => uptoBulkAll elems + uptoBulkAll spare + 1
  | .agg parts => uptoBulkAll parts + 1
  | .iface _ d => uptoBulk d + 1
  | .map entries => uptoBulkEntries entries + 1
  | .held _ => 1
def uptoBulkAll {H : Type} : List (DataW H) → Nat
  | [] => 0
  | d :: r => uptoBulk d + uptoBulkAll r
def uptoBulkEntries {H : Type} : List (Lit × DataW H) → Nat
  | [] => 0
  | x :: r => uptoBulkEntry x + uptoBulkEntries r
def uptoBulkEntry {H : Type} : Lit × DataW H → Nat
  | (.string bytes, d) => bytes.length + uptoBulk d + 1
  | (_, d) => uptoBulk d + 1
 end
def uptoSmall : (H : Type) → List (DataW H) → Bool := fun _ ds => decide (uptoBulkAll ds ≤ 1048576)
def OpenSpec.upto (s : _root_.Go.ChangeSpec) : _root_.Go.OpenSpec := { _root_.Go.OpenSpec.ofChange s with cond := some uptoSmall }

/-- 'tierlinelaw.EmitEnters', WHERE WHAT IT READS IS OF BULK AT MOST 1048576: true; the input reads as it did. -/
def emitEntersUptoRow : OpenClaim := { program := "ytndogdojcbcjgaadoor", sum := "9824167f401d126167d9aeb52177267a924361df2d245969a6d18de3d4380c6d", func := "tierline/tierlinelaw.EmitEnters", spec := "emitEnters", named := ["tierline/ops.parts", "tierline/ops.callReads"], apart := false, laid := [("tierline/ops.parts", laid_tierline_ops_parts), ("tierline/ops.callReads", laid_tierline_ops_callReads)], narrowed := true }
def EmitEntersUptoSaid : Prop := emitEntersUptoRow.holds Tryd.pinned (OpenSpec.upto emitEntersSpec)

/-- 'tierlinelaw.EmitLeaves', WHERE WHAT IT READS IS OF BULK AT MOST 1048576: true; the input reads as it did. -/
def emitLeavesUptoRow : OpenClaim := { program := "ytndogdojcbcjgaadoor", sum := "9824167f401d126167d9aeb52177267a924361df2d245969a6d18de3d4380c6d", func := "tierline/tierlinelaw.EmitLeaves", spec := "emitLeaves", named := ["tierline/ops.parts", "tierline/ops.callReads"], apart := false, laid := [("tierline/ops.parts", laid_tierline_ops_parts), ("tierline/ops.callReads", laid_tierline_ops_callReads)], narrowed := true }
def EmitLeavesUptoSaid : Prop := emitLeavesUptoRow.holds Tryd.pinned (OpenSpec.upto emitLeavesSpec)

/-- 'tierlinekeep.EnterLeave', WHERE WHAT IT READS IS OF BULK AT MOST 1048576: true; the input reads as it did. -/
def enterLeaveUptoRow : OpenClaim := { program := "ytndogdojcbcjgaadoor", sum := "9824167f401d126167d9aeb52177267a924361df2d245969a6d18de3d4380c6d", func := "tierline/tierlinekeep.EnterLeave", spec := "enterLeave", named := ["tierline/ops.parts", "tierline/ops.callReads"], apart := false, laid := [("tierline/ops.parts", laid_tierline_ops_parts), ("tierline/ops.callReads", laid_tierline_ops_callReads)], narrowed := true }
def EnterLeaveUptoSaid : Prop := enterLeaveUptoRow.holds Tryd.pinned (OpenSpec.upto enterLeaveSpec)

/-- 'tierlinekeep.FarWalks', WHERE WHAT IT READS IS OF BULK AT MOST 1048576: true; the input reads as it did. -/
def farWalksUptoRow : OpenClaim := { program := "ytndogdojcbcjgaadoor", sum := "9824167f401d126167d9aeb52177267a924361df2d245969a6d18de3d4380c6d", func := "tierline/tierlinekeep.FarWalks", spec := "farWalks", unfollowed := true, recurses := true, named := ["tierline/ops.parts", "tierline/ops.callReads"], apart := false, laid := [("tierline/ops.parts", laid_tierline_ops_parts), ("tierline/ops.callReads", laid_tierline_ops_callReads)], narrowed := true }
def FarWalksUptoSaid : Prop := farWalksUptoRow.holds Tryd.pinned (OpenSpec.upto farWalksSpec)

/-- 'tierlinekeep.EmitParts', WHERE WHAT IT READS IS OF BULK AT MOST 1048576: true; the input reads as it did. -/
def emitPartsUptoRow : OpenClaim := { program := "ytndogdojcbcjgaadoor", sum := "9824167f401d126167d9aeb52177267a924361df2d245969a6d18de3d4380c6d", func := "tierline/tierlinekeep.EmitParts", spec := "emitParts", unfollowed := true, recurses := true, named := ["tierline/ops.parts", "tierline/ops.callReads"], apart := false, laid := [("tierline/ops.parts", laid_tierline_ops_parts), ("tierline/ops.callReads", laid_tierline_ops_callReads)], narrowed := true }
def EmitPartsUptoSaid : Prop := emitPartsUptoRow.holds Tryd.pinned (OpenSpec.upto emitPartsSpec)

/-- 'tierlinelaw.StepRuns', WHERE WHAT IT READS IS OF BULK AT MOST 1048576: true; the input reads as it did. -/
def stepRunsUptoRow : OpenClaim := { program := "ytndogdojcbcjgaadoor", sum := "9824167f401d126167d9aeb52177267a924361df2d245969a6d18de3d4380c6d", func := "tierline/tierlinelaw.StepRuns", spec := "stepRuns", named := ["tierline/ops.parts", "tierline/ops.callReads"], apart := false, laid := [("tierline/ops.parts", laid_tierline_ops_parts), ("tierline/ops.callReads", laid_tierline_ops_callReads)], narrowed := true }
def StepRunsUptoSaid : Prop := stepRunsUptoRow.holds Tryd.pinned (OpenSpec.upto stepRunsSpec)

/-- 'tierlinelaw.ProfileCounts', WHERE WHAT IT READS IS OF BULK AT MOST 1048576: true; the input reads as it did. -/
def profileCountsUptoRow : OpenClaim := { program := "ytndogdojcbcjgaadoor", sum := "9824167f401d126167d9aeb52177267a924361df2d245969a6d18de3d4380c6d", func := "tierline/tierlinelaw.ProfileCounts", spec := "profileCounts", named := ["tierline/ops.parts", "tierline/ops.callReads"], apart := false, laid := [("tierline/ops.parts", laid_tierline_ops_parts), ("tierline/ops.callReads", laid_tierline_ops_callReads)], narrowed := true }
def ProfileCountsUptoSaid : Prop := profileCountsUptoRow.holds Tryd.pinned (OpenSpec.upto profileCountsSpec)

/-- 'tierlinelaw.ProfileHots', WHERE WHAT IT READS IS OF BULK AT MOST 1048576: true; the input reads as it did. -/
def profileHotsUptoRow : OpenClaim := { program := "ytndogdojcbcjgaadoor", sum := "9824167f401d126167d9aeb52177267a924361df2d245969a6d18de3d4380c6d", func := "tierline/tierlinelaw.ProfileHots", spec := "profileHots", named := ["tierline/ops.parts", "tierline/ops.callReads"], apart := false, laid := [("tierline/ops.parts", laid_tierline_ops_parts), ("tierline/ops.callReads", laid_tierline_ops_callReads)], narrowed := true }
def ProfileHotsUptoSaid : Prop := profileHotsUptoRow.holds Tryd.pinned (OpenSpec.upto profileHotsSpec)

/-- 'tierlinelaw.CpuSteps', WHERE WHAT IT READS IS OF BULK AT MOST 1048576: true; the input reads as it did. -/
def cpuStepsUptoRow : OpenClaim := { program := "ytndogdojcbcjgaadoor", sum := "9824167f401d126167d9aeb52177267a924361df2d245969a6d18de3d4380c6d", func := "tierline/tierlinelaw.CpuSteps", spec := "cpuSteps", named := ["tierline/rv.patterns", "tierline/rv.shapes"], apart := false, laid := [("tierline/rv.patterns", laid_tierline_rv_patterns), ("tierline/rv.shapes", laid_tierline_rv_shapes)], narrowed := true }
def CpuStepsUptoSaid : Prop := cpuStepsUptoRow.holds Tryd.pinned (OpenSpec.upto cpuStepsSpec)

/-- 'tierlinelaw.CpuRuns', WHERE WHAT IT READS IS OF BULK AT MOST 1048576: true; the input reads as it did. -/
def cpuRunsUptoRow : OpenClaim := { program := "ytndogdojcbcjgaadoor", sum := "9824167f401d126167d9aeb52177267a924361df2d245969a6d18de3d4380c6d", func := "tierline/tierlinelaw.CpuRuns", spec := "cpuRuns", named := ["tierline/rv.patterns", "tierline/rv.shapes"], apart := false, laid := [("tierline/rv.patterns", laid_tierline_rv_patterns), ("tierline/rv.shapes", laid_tierline_rv_shapes)], narrowed := true }
def CpuRunsUptoSaid : Prop := cpuRunsUptoRow.holds Tryd.pinned (OpenSpec.upto cpuRunsSpec)

end Rows
end Go.Proofs.YtndogdojcbcjgaaDoor
