/-
  NARROWER THAN 'FOR EVERY INPUT', by the rows' own cells (each row's printed sentence says how): CpuSteps: laid · CpuRuns: laid · CpuMakes: laid · CpuSelf: laid · CpuData: laid · CpuParts: laid · CpuHalts: laid · CpuJumps: laid · CpuNumbers: laid · CpuLui: laid · CpuLoop: laid.
  DERIVED. THE GIVEN ROWS OF THIS SEAT. 11 by the template 'for every input the law returns true; each argument reads behind the call as it read before'; 0 by the template 'total and deterministic' (their statements: YtapjfiihfgndeaaDoorTotals.lean).
  GIVEN WITH THE SEED: the statements are not yours to turn. If you find one false, say at which input.
  Laid BY PROGRAM, IN A SANDBOX (cutbox-rows.mjs): the forced cells as the released guide's own fill.sh prints them over the translation 45212191e4875e97… (all of the seat's roots in one cut). By AI agents, Wed Nov 11 2026. No macro, syntax, notation, axiom, sorry.
-/
import Derived.Test.YtapjfiihfgndeaaDoorChecked
import GoSem.Claim
import GoSem.ClaimJoined
import GoSem.ClaimMapViews
import Derived.JoinedTies
import Derived.KernelRfl
namespace Go.Proofs.YtapjfiihfgndeaaDoor
/- THE CELL 'sum', in the pinned program and in every row, IS THE sha256 OF THE DUMP (.gsa) THAT YtapjfiihfgndeaaDoorProg.lean LOADS. Nothing in Lean hashes anything: it is a label: what it is worth is what the hold of that sum in a sandbox is worth. -/
noncomputable def Tryd.pinned : Pinned := { name := "ytapjfiihfgndeaadoor", sum := "45212191e4875e97aee575ad9bc54d4d779a629625540fdda2102b06826b163b", checked := Tryd.checked }
namespace Rows
def none {H : Type} : Left H := { results := [], args := [] }

/- WHAT THE LISTED PACKAGE-LEVEL VARIABLES READ AS WHEN THE CALL BEGINS. Each datum BY PROGRAM (the guide's laid-datum.mjs) off the statement by which the dump's own 'gosem.cut.vars' lays the variable. In a bare row this is a premise. The card (YtapjfiihfgndeaaDoorCards.lean) ties it to the program's text. -/
def laid_tierline_rv_patterns {H : Type} : DataW H := .agg [.agg [.lit (.int .i64 0), .lit (.int .i64 0)], .agg [.lit (.int .i64 0), .lit (.int .i64 51)], .agg [.lit (.int .i64 0), .lit (.int .i64 1073741875)], .agg [.lit (.int .i64 0), .lit (.int .i64 33554483)], .agg [.lit (.int .i64 0), .lit (.int .i64 33570867)], .agg [.lit (.int .i64 0), .lit (.int .i64 28723)], .agg [.lit (.int .i64 0), .lit (.int .i64 24627)], .agg [.lit (.int .i64 0), .lit (.int .i64 16435)], .agg [.lit (.int .i64 0), .lit (.int .i64 4147)], .agg [.lit (.int .i64 0), .lit (.int .i64 1073762355)], .agg [.lit (.int .i64 0), .lit (.int .i64 8243)], .agg [.lit (.int .i64 0), .lit (.int .i64 12339)], .agg [.lit (.int .i64 1), .lit (.int .i64 19)], .agg [.lit (.int .i64 1), .lit (.int .i64 28691)], .agg [.lit (.int .i64 1), .lit (.int .i64 24595)], .agg [.lit (.int .i64 1), .lit (.int .i64 16403)], .agg [.lit (.int .i64 1), .lit (.int .i64 8211)], .agg [.lit (.int .i64 1), .lit (.int .i64 12307)], .agg [.lit (.int .i64 2), .lit (.int .i64 4115)], .agg [.lit (.int .i64 2), .lit (.int .i64 1073762323)], .agg [.lit (.int .i64 1), .lit (.int .i64 12291)], .agg [.lit (.int .i64 3), .lit (.int .i64 12323)], .agg [.lit (.int .i64 4), .lit (.int .i64 99)], .agg [.lit (.int .i64 4), .lit (.int .i64 4195)], .agg [.lit (.int .i64 4), .lit (.int .i64 16483)], .agg [.lit (.int .i64 4), .lit (.int .i64 20579)], .agg [.lit (.int .i64 5), .lit (.int .i64 111)], .agg [.lit (.int .i64 1), .lit (.int .i64 103)], .agg [.lit (.int .i64 6), .lit (.int .i64 55)], .agg [.lit (.int .i64 7), .lit (.int .i64 115)]]
def laid_tierline_rv_shapes {H : Type} : DataW H := .agg [.agg [.lit (.int .i64 31), .lit (.int .i64 31), .lit (.int .i64 31), .lit (.int .i64 0), .lit (.int .i64 0), .lit (.int .i64 1), .agg [.agg [.lit (.int .i64 0), .lit (.int .i64 0), .lit (.int .i64 0)], .agg [.lit (.int .i64 0), .lit (.int .i64 0), .lit (.int .i64 0)], .agg [.lit (.int .i64 0), .lit (.int .i64 0), .lit (.int .i64 0)], .agg [.lit (.int .i64 0), .lit (.int .i64 0), .lit (.int .i64 0)]], .lit (.int .i64 4261441663)], .agg [.lit (.int .i64 31), .lit (.int .i64 31), .lit (.int .i64 0), .lit (.int .i64 (-2048)), .lit (.int .i64 2047), .lit (.int .i64 1), .agg [.agg [.lit (.int .i64 12), .lit (.int .i64 0), .lit (.int .i64 20)], .agg [.lit (.int .i64 0), .lit (.int .i64 0), .lit (.int .i64 0)], .agg [.lit (.int .i64 0), .lit (.int .i64 0), .lit (.int .i64 0)], .agg [.lit (.int .i64 0), .lit (.int .i64 0), .lit (.int .i64 0)]], .lit (.int .i64 28799)], .agg [.lit (.int .i64 31), .lit (.int .i64 31), .lit (.int .i64 0), .lit (.int .i64 0), .lit (.int .i64 63), .lit (.int .i64 1), .agg [.agg [.lit (.int .i64 6), .lit (.int .i64 0), .lit (.int .i64 20)], .agg [.lit (.int .i64 0), .lit (.int .i64 0), .lit (.int .i64 0)], .agg [.lit (.int .i64 0), .lit (.int .i64 0), .lit (.int .i64 0)], .agg [.lit (.int .i64 0), .lit (.int .i64 0), .lit (.int .i64 0)]], .lit (.int .i64 4227887231)], .agg [.lit (.int .i64 0), .lit (.int .i64 31), .lit (.int .i64 31), .lit (.int .i64 (-2048)), .lit (.int .i64 2047), .lit (.int .i64 1), .agg [.agg [.lit (.int .i64 5), .lit (.int .i64 0), .lit (.int .i64 7)], .agg [.lit (.int .i64 7), .lit (.int .i64 5), .lit (.int .i64 25)], .agg [.lit (.int .i64 0), .lit (.int .i64 0), .lit (.int .i64 0)], .agg [.lit (.int .i64 0), .lit (.int .i64 0), .lit (.int .i64 0)]], .lit (.int .i64 28799)], .agg [.lit (.int .i64 0), .lit (.int .i64 31), .lit (.int .i64 31), .lit (.int .i64 (-4096)), .lit (.int .i64 4092), .lit (.int .i64 4), .agg [.agg [.lit (.int .i64 1), .lit (.int .i64 11), .lit (.int .i64 7)], .agg [.lit (.int .i64 4), .lit (.int .i64 1), .lit (.int .i64 8)], .agg [.lit (.int .i64 6), .lit (.int .i64 5), .lit (.int .i64 25)], .agg [.lit (.int .i64 1), .lit (.int .i64 12), .lit (.int .i64 31)]], .lit (.int .i64 28799)], .agg [.lit (.int .i64 31), .lit (.int .i64 0), .lit (.int .i64 0), .lit (.int .i64 (-1048576)), .lit (.int .i64 1048572), .lit (.int .i64 4), .agg [.agg [.lit (.int .i64 8), .lit (.int .i64 12), .lit (.int .i64 12)], .agg [.lit (.int .i64 1), .lit (.int .i64 11), .lit (.int .i64 20)], .agg [.lit (.int .i64 10), .lit (.int .i64 1), .lit (.int .i64 21)], .agg [.lit (.int .i64 1), .lit (.int .i64 20), .lit (.int .i64 31)]], .lit (.int .i64 127)], .agg [.lit (.int .i64 31), .lit (.int .i64 0), .lit (.int .i64 0), .lit (.int .i64 (-524288)), .lit (.int .i64 524287), .lit (.int .i64 1), .agg [.agg [.lit (.int .i64 20), .lit (.int .i64 0), .lit (.int .i64 12)], .agg [.lit (.int .i64 0), .lit (.int .i64 0), .lit (.int .i64 0)], .agg [.lit (.int .i64 0), .lit (.int .i64 0), .lit (.int .i64 0)], .agg [.lit (.int .i64 0), .lit (.int .i64 0), .lit (.int .i64 0)]], .lit (.int .i64 127)], .agg [.lit (.int .i64 0), .lit (.int .i64 0), .lit (.int .i64 0), .lit (.int .i64 0), .lit (.int .i64 0), .lit (.int .i64 1), .agg [.agg [.lit (.int .i64 0), .lit (.int .i64 0), .lit (.int .i64 0)], .agg [.lit (.int .i64 0), .lit (.int .i64 0), .lit (.int .i64 0)], .agg [.lit (.int .i64 0), .lit (.int .i64 0), .lit (.int .i64 0)], .agg [.lit (.int .i64 0), .lit (.int .i64 0), .lit (.int .i64 0)]], .lit (.int .i64 4294967295)]]

/-- 'tierlinelaw.CpuSteps': WHATEVER THE INPUT: true; the input reads as it did. -/
def cpuStepsSpec : ChangeSpec := { name := "cpuSteps", fn := fun _ => fun
  | [d1, d2] => { results := [.lit (.bool true)], args := [d1, d2] }
  | _ => none }
def cpuStepsRow : OpenClaim := { program := "ytapjfiihfgndeaadoor", sum := "45212191e4875e97aee575ad9bc54d4d779a629625540fdda2102b06826b163b", func := "tierline/tierlinelaw.CpuSteps", spec := "cpuSteps", named := ["tierline/rv.patterns", "tierline/rv.shapes"], apart := false, laid := [("tierline/rv.patterns", laid_tierline_rv_patterns), ("tierline/rv.shapes", laid_tierline_rv_shapes)] }
def CpuStepsSaid : Prop := cpuStepsRow.holds Tryd.pinned (OpenSpec.ofChange cpuStepsSpec)

/-- ITS FALSE NEIGHBOUR: 'it returns false'. Refute it at one input. -/
def cpuStepsWrong : ChangeSpec := { name := "cpuSteps", fn := fun _ => fun
  | [d1, d2] => { results := [.lit (.bool false)], args := [d1, d2] }
  | _ => none }
def CpuStepsWrongFalsely : Prop := cpuStepsRow.holds Tryd.pinned (OpenSpec.ofChange cpuStepsWrong)

/-- 'tierlinelaw.CpuRuns': WHATEVER THE INPUT: true; the input reads as it did. -/
def cpuRunsSpec : ChangeSpec := { name := "cpuRuns", fn := fun _ => fun
  | [d1, d2, d3] => { results := [.lit (.bool true)], args := [d1, d2, d3] }
  | _ => none }
def cpuRunsRow : OpenClaim := { program := "ytapjfiihfgndeaadoor", sum := "45212191e4875e97aee575ad9bc54d4d779a629625540fdda2102b06826b163b", func := "tierline/tierlinelaw.CpuRuns", spec := "cpuRuns", named := ["tierline/rv.patterns", "tierline/rv.shapes"], apart := false, laid := [("tierline/rv.patterns", laid_tierline_rv_patterns), ("tierline/rv.shapes", laid_tierline_rv_shapes)] }
def CpuRunsSaid : Prop := cpuRunsRow.holds Tryd.pinned (OpenSpec.ofChange cpuRunsSpec)

/-- ITS FALSE NEIGHBOUR: 'it returns false'. Refute it at one input. -/
def cpuRunsWrong : ChangeSpec := { name := "cpuRuns", fn := fun _ => fun
  | [d1, d2, d3] => { results := [.lit (.bool false)], args := [d1, d2, d3] }
  | _ => none }
def CpuRunsWrongFalsely : Prop := cpuRunsRow.holds Tryd.pinned (OpenSpec.ofChange cpuRunsWrong)

/-- 'tierlinekeep.CpuMakes': WHATEVER THE INPUT: true; the input reads as it did. -/
def cpuMakesSpec : ChangeSpec := { name := "cpuMakes", fn := fun _ => fun
  | [d1, d2, d3] => { results := [.lit (.bool true)], args := [d1, d2, d3] }
  | _ => none }
def cpuMakesRow : OpenClaim := { program := "ytapjfiihfgndeaadoor", sum := "45212191e4875e97aee575ad9bc54d4d779a629625540fdda2102b06826b163b", func := "tierline/tierlinekeep.CpuMakes", spec := "cpuMakes", named := ["tierline/rv.patterns", "tierline/rv.shapes"], apart := false, laid := [("tierline/rv.patterns", laid_tierline_rv_patterns), ("tierline/rv.shapes", laid_tierline_rv_shapes)] }
def CpuMakesSaid : Prop := cpuMakesRow.holds Tryd.pinned (OpenSpec.ofChange cpuMakesSpec)

/-- ITS FALSE NEIGHBOUR: 'it returns false'. Refute it at one input. -/
def cpuMakesWrong : ChangeSpec := { name := "cpuMakes", fn := fun _ => fun
  | [d1, d2, d3] => { results := [.lit (.bool false)], args := [d1, d2, d3] }
  | _ => none }
def CpuMakesWrongFalsely : Prop := cpuMakesRow.holds Tryd.pinned (OpenSpec.ofChange cpuMakesWrong)

/-- 'tierlinekeep.CpuSelf': WHATEVER THE INPUT: true; the input reads as it did. -/
def cpuSelfSpec : ChangeSpec := { name := "cpuSelf", fn := fun _ => fun
  | [d1, d2, d3] => { results := [.lit (.bool true)], args := [d1, d2, d3] }
  | _ => none }
def cpuSelfRow : OpenClaim := { program := "ytapjfiihfgndeaadoor", sum := "45212191e4875e97aee575ad9bc54d4d779a629625540fdda2102b06826b163b", func := "tierline/tierlinekeep.CpuSelf", spec := "cpuSelf", named := ["tierline/rv.patterns", "tierline/rv.shapes"], apart := false, laid := [("tierline/rv.patterns", laid_tierline_rv_patterns), ("tierline/rv.shapes", laid_tierline_rv_shapes)] }
def CpuSelfSaid : Prop := cpuSelfRow.holds Tryd.pinned (OpenSpec.ofChange cpuSelfSpec)

/-- ITS FALSE NEIGHBOUR: 'it returns false'. Refute it at one input. -/
def cpuSelfWrong : ChangeSpec := { name := "cpuSelf", fn := fun _ => fun
  | [d1, d2, d3] => { results := [.lit (.bool false)], args := [d1, d2, d3] }
  | _ => none }
def CpuSelfWrongFalsely : Prop := cpuSelfRow.holds Tryd.pinned (OpenSpec.ofChange cpuSelfWrong)

/-- 'tierlinekeep.CpuData': WHATEVER THE INPUT: true; the input reads as it did. -/
def cpuDataSpec : ChangeSpec := { name := "cpuData", fn := fun _ => fun
  | [d1, d2, d3] => { results := [.lit (.bool true)], args := [d1, d2, d3] }
  | _ => none }
def cpuDataRow : OpenClaim := { program := "ytapjfiihfgndeaadoor", sum := "45212191e4875e97aee575ad9bc54d4d779a629625540fdda2102b06826b163b", func := "tierline/tierlinekeep.CpuData", spec := "cpuData", named := ["tierline/rv.patterns", "tierline/rv.shapes"], apart := false, laid := [("tierline/rv.patterns", laid_tierline_rv_patterns), ("tierline/rv.shapes", laid_tierline_rv_shapes)] }
def CpuDataSaid : Prop := cpuDataRow.holds Tryd.pinned (OpenSpec.ofChange cpuDataSpec)

/-- ITS FALSE NEIGHBOUR: 'it returns false'. Refute it at one input. -/
def cpuDataWrong : ChangeSpec := { name := "cpuData", fn := fun _ => fun
  | [d1, d2, d3] => { results := [.lit (.bool false)], args := [d1, d2, d3] }
  | _ => none }
def CpuDataWrongFalsely : Prop := cpuDataRow.holds Tryd.pinned (OpenSpec.ofChange cpuDataWrong)

/-- 'tierlinekeep.CpuParts': WHATEVER THE INPUT: true; the input reads as it did. -/
def cpuPartsSpec : ChangeSpec := { name := "cpuParts", fn := fun _ => fun
  | [d1, d2, d3] => { results := [.lit (.bool true)], args := [d1, d2, d3] }
  | _ => none }
def cpuPartsRow : OpenClaim := { program := "ytapjfiihfgndeaadoor", sum := "45212191e4875e97aee575ad9bc54d4d779a629625540fdda2102b06826b163b", func := "tierline/tierlinekeep.CpuParts", spec := "cpuParts", named := ["tierline/rv.patterns", "tierline/rv.shapes"], apart := false, laid := [("tierline/rv.patterns", laid_tierline_rv_patterns), ("tierline/rv.shapes", laid_tierline_rv_shapes)] }
def CpuPartsSaid : Prop := cpuPartsRow.holds Tryd.pinned (OpenSpec.ofChange cpuPartsSpec)

/-- ITS FALSE NEIGHBOUR: 'it returns false'. Refute it at one input. -/
def cpuPartsWrong : ChangeSpec := { name := "cpuParts", fn := fun _ => fun
  | [d1, d2, d3] => { results := [.lit (.bool false)], args := [d1, d2, d3] }
  | _ => none }
def CpuPartsWrongFalsely : Prop := cpuPartsRow.holds Tryd.pinned (OpenSpec.ofChange cpuPartsWrong)

/-- 'tierlinekeep.CpuHalts': WHATEVER THE INPUT: true; the input reads as it did. -/
def cpuHaltsSpec : ChangeSpec := { name := "cpuHalts", fn := fun _ => fun
  | [d1, d2] => { results := [.lit (.bool true)], args := [d1, d2] }
  | _ => none }
def cpuHaltsRow : OpenClaim := { program := "ytapjfiihfgndeaadoor", sum := "45212191e4875e97aee575ad9bc54d4d779a629625540fdda2102b06826b163b", func := "tierline/tierlinekeep.CpuHalts", spec := "cpuHalts", named := ["tierline/rv.patterns", "tierline/rv.shapes"], apart := false, laid := [("tierline/rv.patterns", laid_tierline_rv_patterns), ("tierline/rv.shapes", laid_tierline_rv_shapes)] }
def CpuHaltsSaid : Prop := cpuHaltsRow.holds Tryd.pinned (OpenSpec.ofChange cpuHaltsSpec)

/-- ITS FALSE NEIGHBOUR: 'it returns false'. Refute it at one input. -/
def cpuHaltsWrong : ChangeSpec := { name := "cpuHalts", fn := fun _ => fun
  | [d1, d2] => { results := [.lit (.bool false)], args := [d1, d2] }
  | _ => none }
def CpuHaltsWrongFalsely : Prop := cpuHaltsRow.holds Tryd.pinned (OpenSpec.ofChange cpuHaltsWrong)

/-- 'tierlinekeep.CpuJumps': WHATEVER THE INPUT: true; the input reads as it did. -/
def cpuJumpsSpec : ChangeSpec := { name := "cpuJumps", fn := fun _ => fun
  | [d1, d2, d3] => { results := [.lit (.bool true)], args := [d1, d2, d3] }
  | _ => none }
def cpuJumpsRow : OpenClaim := { program := "ytapjfiihfgndeaadoor", sum := "45212191e4875e97aee575ad9bc54d4d779a629625540fdda2102b06826b163b", func := "tierline/tierlinekeep.CpuJumps", spec := "cpuJumps", named := ["tierline/rv.patterns", "tierline/rv.shapes"], apart := false, laid := [("tierline/rv.patterns", laid_tierline_rv_patterns), ("tierline/rv.shapes", laid_tierline_rv_shapes)] }
def CpuJumpsSaid : Prop := cpuJumpsRow.holds Tryd.pinned (OpenSpec.ofChange cpuJumpsSpec)

/-- ITS FALSE NEIGHBOUR: 'it returns false'. Refute it at one input. -/
def cpuJumpsWrong : ChangeSpec := { name := "cpuJumps", fn := fun _ => fun
  | [d1, d2, d3] => { results := [.lit (.bool false)], args := [d1, d2, d3] }
  | _ => none }
def CpuJumpsWrongFalsely : Prop := cpuJumpsRow.holds Tryd.pinned (OpenSpec.ofChange cpuJumpsWrong)

/-- 'tierlinekeep.CpuNumbers': WHATEVER THE INPUT: true; the input reads as it did. -/
def cpuNumbersSpec : ChangeSpec := { name := "cpuNumbers", fn := fun _ => fun
  | [d] => { results := [.lit (.bool true)], args := [d] }
  | _ => none }
def cpuNumbersRow : OpenClaim := { program := "ytapjfiihfgndeaadoor", sum := "45212191e4875e97aee575ad9bc54d4d779a629625540fdda2102b06826b163b", func := "tierline/tierlinekeep.CpuNumbers", spec := "cpuNumbers", named := ["tierline/rv.patterns", "tierline/rv.shapes"], apart := false, laid := [("tierline/rv.patterns", laid_tierline_rv_patterns), ("tierline/rv.shapes", laid_tierline_rv_shapes)] }
def CpuNumbersSaid : Prop := cpuNumbersRow.holds Tryd.pinned (OpenSpec.ofChange cpuNumbersSpec)

/-- ITS FALSE NEIGHBOUR: 'it returns false'. Refute it at one input. -/
def cpuNumbersWrong : ChangeSpec := { name := "cpuNumbers", fn := fun _ => fun
  | [d] => { results := [.lit (.bool false)], args := [d] }
  | _ => none }
def CpuNumbersWrongFalsely : Prop := cpuNumbersRow.holds Tryd.pinned (OpenSpec.ofChange cpuNumbersWrong)

/-- 'tierlinekeep.CpuLui': WHATEVER THE INPUT: true; the input reads as it did. -/
def cpuLuiSpec : ChangeSpec := { name := "cpuLui", fn := fun _ => fun
  | [d1, d2] => { results := [.lit (.bool true)], args := [d1, d2] }
  | _ => none }
def cpuLuiRow : OpenClaim := { program := "ytapjfiihfgndeaadoor", sum := "45212191e4875e97aee575ad9bc54d4d779a629625540fdda2102b06826b163b", func := "tierline/tierlinekeep.CpuLui", spec := "cpuLui", named := ["tierline/rv.patterns", "tierline/rv.shapes"], apart := false, laid := [("tierline/rv.patterns", laid_tierline_rv_patterns), ("tierline/rv.shapes", laid_tierline_rv_shapes)] }
def CpuLuiSaid : Prop := cpuLuiRow.holds Tryd.pinned (OpenSpec.ofChange cpuLuiSpec)

/-- ITS FALSE NEIGHBOUR: 'it returns false'. Refute it at one input. -/
def cpuLuiWrong : ChangeSpec := { name := "cpuLui", fn := fun _ => fun
  | [d1, d2] => { results := [.lit (.bool false)], args := [d1, d2] }
  | _ => none }
def CpuLuiWrongFalsely : Prop := cpuLuiRow.holds Tryd.pinned (OpenSpec.ofChange cpuLuiWrong)

/-- 'tierlinekeep.CpuLoop': WHATEVER THE INPUT: true; the input reads as it did. -/
def cpuLoopSpec : ChangeSpec := { name := "cpuLoop", fn := fun _ => fun
  | [d] => { results := [.lit (.bool true)], args := [d] }
  | _ => none }
def cpuLoopRow : OpenClaim := { program := "ytapjfiihfgndeaadoor", sum := "45212191e4875e97aee575ad9bc54d4d779a629625540fdda2102b06826b163b", func := "tierline/tierlinekeep.CpuLoop", spec := "cpuLoop", named := ["tierline/rv.patterns", "tierline/rv.shapes"], apart := false, laid := [("tierline/rv.patterns", laid_tierline_rv_patterns), ("tierline/rv.shapes", laid_tierline_rv_shapes)] }
def CpuLoopSaid : Prop := cpuLoopRow.holds Tryd.pinned (OpenSpec.ofChange cpuLoopSpec)

/-- ITS FALSE NEIGHBOUR: 'it returns false'. Refute it at one input. -/
def cpuLoopWrong : ChangeSpec := { name := "cpuLoop", fn := fun _ => fun
  | [d] => { results := [.lit (.bool false)], args := [d] }
  | _ => none }
def CpuLoopWrongFalsely : Prop := cpuLoopRow.holds Tryd.pinned (OpenSpec.ofChange cpuLoopWrong)

/- THE SECOND FORM. 'bulk': how many values and letters a reading holds, each counted each time it is reached (what is shared counts as often as it is met; a slice's spare places count too). A statement '..UptoSaid' is the law's where the arguments, and the package variables that the reading takes, are together of bulk at most 1048576: NARROWER than '..Said'. Prove '..Said' where nothing that the law and all that it calls make is longer than what came in: it says more and counts as full. Else prove '..UptoSaid'. A law counts once. -/
mutual
def uptoBulk {H : Type} : DataW H → Nat
  | .lit (.string bytes) => bytes.length + 1
  | .lit _ => 1
  | .nil => 1
  | .ptr d => uptoBulk d + 1
  | .slice elems spare => uptoBulkAll elems + uptoBulkAll spare + 1
  | .agg parts => uptoBulkAll parts + 1
  | .iface _ d => uptoBulk d + 1
  | .map entries => uptoBulkEntries entries + 1
  | .held _ => 1
def uptoBulkAll {H : Type} : List (DataW H) → Nat
  | [] => 0
  | d :: r => uptoBulk d + uptoBulkAll r
def uptoBulkEntries {H : Type} : List (Lit × DataW H) → Nat
  | [] => 0
  | x :: r => uptoBulkEntry x + uptoBulkEntries r
def uptoBulkEntry {H : Type} : Lit × DataW H → Nat
  | (.string bytes, d) => bytes.length + uptoBulk d + 1
  | (_, d) => uptoBulk d + 1
 end
def uptoSmall : (H : Type) → List (DataW H) → Bool := fun _ ds => decide (uptoBulkAll ds ≤ 1048576)
def OpenSpec.upto (s : _root_.Go.ChangeSpec) : _root_.Go.OpenSpec := { _root_.Go.OpenSpec.ofChange s with cond := some uptoSmall }

/-- 'tierlinelaw.CpuSteps', WHERE WHAT IT READS IS OF BULK AT MOST 1048576: true; the input reads as it did. -/
def cpuStepsUptoRow : OpenClaim := { program := "ytapjfiihfgndeaadoor", sum := "45212191e4875e97aee575ad9bc54d4d779a629625540fdda2102b06826b163b", func := "tierline/tierlinelaw.CpuSteps", spec := "cpuSteps", named := ["tierline/rv.patterns", "tierline/rv.shapes"], apart := false, laid := [("tierline/rv.patterns", laid_tierline_rv_patterns), ("tierline/rv.shapes", laid_tierline_rv_shapes)], narrowed := true }
def CpuStepsUptoSaid : Prop := cpuStepsUptoRow.holds Tryd.pinned (OpenSpec.upto cpuStepsSpec)

/-- 'tierlinelaw.CpuRuns', WHERE WHAT IT READS IS OF BULK AT MOST 1048576: true; the input reads as it did. -/
def cpuRunsUptoRow : OpenClaim := { program := "ytapjfiihfgndeaadoor", sum := "45212191e4875e97aee575ad9bc54d4d779a629625540fdda2102b06826b163b", func := "tierline/tierlinelaw.CpuRuns", spec := "cpuRuns", named := ["tierline/rv.patterns", "tierline/rv.shapes"], apart := false, laid := [("tierline/rv.patterns", laid_tierline_rv_patterns), ("tierline/rv.shapes", laid_tierline_rv_shapes)], narrowed := true }
def CpuRunsUptoSaid : Prop := cpuRunsUptoRow.holds Tryd.pinned (OpenSpec.upto cpuRunsSpec)

/-- 'tierlinekeep.CpuMakes', WHERE WHAT IT READS IS OF BULK AT MOST 1048576: true; the input reads as it did. -/
def cpuMakesUptoRow : OpenClaim := { program := "ytapjfiihfgndeaadoor", sum := "45212191e4875e97aee575ad9bc54d4d779a629625540fdda2102b06826b163b", func := "tierline/tierlinekeep.CpuMakes", spec := "cpuMakes", named := ["tierline/rv.patterns", "tierline/rv.shapes"], apart := false, laid := [("tierline/rv.patterns", laid_tierline_rv_patterns), ("tierline/rv.shapes", laid_tierline_rv_shapes)], narrowed := true }
def CpuMakesUptoSaid : Prop := cpuMakesUptoRow.holds Tryd.pinned (OpenSpec.upto cpuMakesSpec)

/-- 'tierlinekeep.CpuSelf', WHERE WHAT IT READS IS OF BULK AT MOST 1048576: true; the input reads as it did. -/
def cpuSelfUptoRow : OpenClaim := { program := "ytapjfiihfgndeaadoor", sum := "45212191e4875e97aee575ad9bc54d4d779a629625540fdda2102b06826b163b", func := "tierline/tierlinekeep.CpuSelf", spec := "cpuSelf", named := ["tierline/rv.patterns", "tierline/rv.shapes"], apart := false, laid := [("tierline/rv.patterns", laid_tierline_rv_patterns), ("tierline/rv.shapes", laid_tierline_rv_shapes)], narrowed := true }
def CpuSelfUptoSaid : Prop := cpuSelfUptoRow.holds Tryd.pinned (OpenSpec.upto cpuSelfSpec)

/-- 'tierlinekeep.CpuData', WHERE WHAT IT READS IS OF BULK AT MOST 1048576: true; the input reads as it did. -/
def cpuDataUptoRow : OpenClaim := { program := "ytapjfiihfgndeaadoor", sum := "45212191e4875e97aee575ad9bc54d4d779a629625540fdda2102b06826b163b", func := "tierline/tierlinekeep.CpuData", spec := "cpuData", named := ["tierline/rv.patterns", "tierline/rv.shapes"], apart := false, laid := [("tierline/rv.patterns", laid_tierline_rv_patterns), ("tierline/rv.shapes", laid_tierline_rv_shapes)], narrowed := true }
def CpuDataUptoSaid : Prop := cpuDataUptoRow.holds Tryd.pinned (OpenSpec.upto cpuDataSpec)

/-- 'tierlinekeep.CpuParts', WHERE WHAT IT READS IS OF BULK AT MOST 1048576: true; the input reads as it did. -/
def cpuPartsUptoRow : OpenClaim := { program := "ytapjfiihfgndeaadoor", sum := "45212191e4875e97aee575ad9bc54d4d779a629625540fdda2102b06826b163b", func := "tierline/tierlinekeep.CpuParts", spec := "cpuParts", named := ["tierline/rv.patterns", "tierline/rv.shapes"], apart := false, laid := [("tierline/rv.patterns", laid_tierline_rv_patterns), ("tierline/rv.shapes", laid_tierline_rv_shapes)], narrowed := true }
def CpuPartsUptoSaid : Prop := cpuPartsUptoRow.holds Tryd.pinned (OpenSpec.upto cpuPartsSpec)

/-- 'tierlinekeep.CpuHalts', WHERE WHAT IT READS IS OF BULK AT MOST 1048576: true; the input reads as it did. -/
def cpuHaltsUptoRow : OpenClaim := { program := "ytapjfiihfgndeaadoor", sum := "45212191e4875e97aee575ad9bc54d4d779a629625540fdda2102b06826b163b", func := "tierline/tierlinekeep.CpuHalts", spec := "cpuHalts", named := ["tierline/rv.patterns", "tierline/rv.shapes"], apart := false, laid := [("tierline/rv.patterns", laid_tierline_rv_patterns), ("tierline/rv.shapes", laid_tierline_rv_shapes)], narrowed := true }
def CpuHaltsUptoSaid : Prop := cpuHaltsUptoRow.holds Tryd.pinned (OpenSpec.upto cpuHaltsSpec)

/-- 'tierlinekeep.CpuJumps', WHERE WHAT IT READS IS OF BULK AT MOST 1048576: true; the input reads as it did. -/
def cpuJumpsUptoRow : OpenClaim := { program := "ytapjfiihfgndeaadoor", sum := "45212191e4875e97aee575ad9bc54d4d779a629625540fdda2102b06826b163b", func := "tierline/tierlinekeep.CpuJumps", spec := "cpuJumps", named := ["tierline/rv.patterns", "tierline/rv.shapes"], apart := false, laid := [("tierline/rv.patterns", laid_tierline_rv_patterns), ("tierline/rv.shapes", laid_tierline_rv_shapes)], narrowed := true }
def CpuJumpsUptoSaid : Prop := cpuJumpsUptoRow.holds Tryd.pinned (OpenSpec.upto cpuJumpsSpec)

/-- 'tierlinekeep.CpuNumbers', WHERE WHAT IT READS IS OF BULK AT MOST 1048576: true; the input reads as it did. -/
def cpuNumbersUptoRow : OpenClaim := { program := "ytapjfiihfgndeaadoor", sum := "45212191e4875e97aee575ad9bc54d4d779a629625540fdda2102b06826b163b", func := "tierline/tierlinekeep.CpuNumbers", spec := "cpuNumbers", named := ["tierline/rv.patterns", "tierline/rv.shapes"], apart := false, laid := [("tierline/rv.patterns", laid_tierline_rv_patterns), ("tierline/rv.shapes", laid_tierline_rv_shapes)], narrowed := true }
def CpuNumbersUptoSaid : Prop := cpuNumbersUptoRow.holds Tryd.pinned (OpenSpec.upto cpuNumbersSpec)

/-- 'tierlinekeep.CpuLui', WHERE WHAT IT READS IS OF BULK AT MOST 1048576: true; the input reads as it did. -/
def cpuLuiUptoRow : OpenClaim := { program := "ytapjfiihfgndeaadoor", sum := "45212191e4875e97aee575ad9bc54d4d779a629625540fdda2102b06826b163b", func := "tierline/tierlinekeep.CpuLui", spec := "cpuLui", named := ["tierline/rv.patterns", "tierline/rv.shapes"], apart := false, laid := [("tierline/rv.patterns", laid_tierline_rv_patterns), ("tierline/rv.shapes", laid_tierline_rv_shapes)], narrowed := true }
def CpuLuiUptoSaid : Prop := cpuLuiUptoRow.holds Tryd.pinned (OpenSpec.upto cpuLuiSpec)

/-- 'tierlinekeep.CpuLoop', WHERE WHAT IT READS IS OF BULK AT MOST 1048576: true; the input reads as it did. -/
def cpuLoopUptoRow : OpenClaim := { program := "ytapjfiihfgndeaadoor", sum := "45212191e4875e97aee575ad9bc54d4d779a629625540fdda2102b06826b163b", func := "tierline/tierlinekeep.CpuLoop", spec := "cpuLoop", named := ["tierline/rv.patterns", "tierline/rv.shapes"], apart := false, laid := [("tierline/rv.patterns", laid_tierline_rv_patterns), ("tierline/rv.shapes", laid_tierline_rv_shapes)], narrowed := true }
def CpuLoopUptoSaid : Prop := cpuLoopUptoRow.holds Tryd.pinned (OpenSpec.upto cpuLoopSpec)

end Rows
end Go.Proofs.YtapjfiihfgndeaaDoor
