import Derived.Deep.Fields
import Derived.Deep.Slices
import Derived.OpenShut
import Derived.ProofKit
import Derived.SizedLaws
import Derived.Test.YtldbmdgpdolaaaaDoorPGroupA
import Derived.LaidMore
import Derived.Lib.LaidTab
import Derived.Stop.Joined
import Derived.Test.YtldbmdgpdolaaaaDoorRows
import Derived.Stop.LaidErr
namespace Go.Proofs.YtldbmdgpdolaaaaDoor
open Go Go.RowKit Go.Deep Go.ChangeShapes Go.WideShapes

def I64 (n : Int) : Prop := -9223372036854775808 ≤ n ∧ n ≤ 9223372036854775807
def Ins.wf (x : Ins) : Prop := I64 x.op ∧ I64 x.dst ∧ I64 x.a ∧ I64 x.b ∧ I64 x.imm
def Fn.wf (f : Fn) : Prop := I64 f.params ∧ I64 f.regs ∧ ∀ x ∈ f.code, x.wf
section
variable {H : Type} {enc : TypeId × Value → H} {P : Program} {w : World} {base : Nat} {spare : Nat → Bool} {held : Bool}

variable {tint tI tIs tF tFs : TypeId}

end

end Go.Proofs.YtldbmdgpdolaaaaDoor
namespace Go.Proofs.YtldbmdgpdolaaaaDoor
open Go Go.ChangeShapes Go.WideShapes Go.ChangeAt Go.RowKit

theorem own : ownKnob Tryd.prog.godebug = none := by kernel_rfl
theorem gParts : Tryd.prog.globalNamed "tierline/ops.parts" = some 1 := by kernel_rfl
theorem tParts : (Tryd.prog.globals[1]?).map (·.type) = some 155 := by kernel_rfl
theorem cells3 : Tryd.prog.cellsOf 3 = 1 := by kernel_rfl
theorem cellsParts : Tryd.prog.cellsOf 155 = 20 := by kernel_rfl
theorem laidOut : laidOutB Tryd.prog = true := by kernel_rfl
end Go.Proofs.YtldbmdgpdolaaaaDoor
namespace Go.Proofs.YtldbmdgpdolaaaaDoor
open Go Go.ChangeShapes Go.WideShapes Go.ChangeAt Go.RowKit

theorem gCalls : Tryd.prog.globalNamed "tierline/ops.callReads" = some 0 := by kernel_rfl
theorem tCalls : (Tryd.prog.globals[0]?).map (·.type) = some 147 := by kernel_rfl
theorem cellsCalls : Tryd.prog.cellsOf 147 = 3 := by kernel_rfl
abbrev laidL2 : List (String × DataW Unit) := [("tierline/ops.parts", Rows.laid_tierline_ops_parts), ("tierline/ops.callReads", Rows.laid_tierline_ops_callReads)]
theorem door_met2 (os : Os) (args : Array Value) : laidMetH Tryd.prog laidL2 ((World.doorLaid Tryd.prog 400 os).forCall (fun _ _ => 0) ⟨#[], args, []⟩).memory :=
  laidMetH_of_parts3 (fuel := 8) (laidMet_of_run' 8 (by kernel_rfl) (by kernel_rfl)) (by kernel_rfl) (by kernel_rfl)
theorem tabs_of_laid {W : World} (h : laidMetH Tryd.prog laidL2 W) : TabOk W ∧ CallOk W := by
  rw [MakeChecks.laidMetH_plain _ _ _ (by kernel_rfl)] at h
  have h' : laidMet Tryd.prog (("tierline/ops.parts", Lib.tabData .i64 hasL) :: ("tierline/ops.callReads", Lib.tabData .i64 [0, 2, 6]) :: []) W := h
  have ht := Lib.tabIs_of_head (P := Tryd.prog) gParts tParts Tryd.underlying155 Tryd.underlying3 cells3 cellsParts h'
  have hc := Lib.tabIs_of_head (P := Tryd.prog) gCalls tCalls Tryd.underlying147 Tryd.underlying3 cells3 cellsCalls h'.tail
  exact ⟨fun i hi => ht.cell gParts i hi, fun i hi => hc.cell gCalls i hi⟩
end Go.Proofs.YtldbmdgpdolaaaaDoor
