import Derived.Deep.Fields
import Derived.Deep.Slices
import Derived.OpenShut
import Derived.ProofKit
import Derived.SizedLaws
import Derived.Test.YtfacdhkadnmnlaaDoorPGroupA
import Derived.LaidMore
import Derived.Lib.LaidTab
import Derived.Stop.Joined
import Derived.Test.YtfacdhkadnmnlaaDoorRows
namespace Go.Proofs.YtfacdhkadnmnlaaDoor
open Go Go.RowKit Go.Deep Go.ChangeShapes Go.WideShapes

def I64 (n : Int) : Prop := -9223372036854775808 ≤ n ∧ n ≤ 9223372036854775807
def Ins.wf (x : Ins) : Prop := I64 x.op ∧ I64 x.dst ∧ I64 x.a ∧ I64 x.b ∧ I64 x.imm
def Fn.wf (f : Fn) : Prop := I64 f.params ∧ I64 f.regs ∧ ∀ x ∈ f.code, x.wf
section
variable {H : Type} {enc : TypeId × Value → H} {P : Program} {w : World} {base : Nat} {spare : Nat → Bool} {held : Bool}

variable {tint tI tIs tF tFs : TypeId}

end

end Go.Proofs.YtfacdhkadnmnlaaDoor
namespace Go.Proofs.YtfacdhkadnmnlaaDoor
open Go Go.ChangeShapes Go.WideShapes Go.ChangeAt Go.RowKit

theorem own : ownKnob Tryd.prog.godebug = none := by kernel_rfl
theorem gParts : Tryd.prog.globalNamed "tierline/ops.parts" = some 1 := by kernel_rfl
theorem tParts : (Tryd.prog.globals[1]?).map (·.type) = some 92 := by kernel_rfl
theorem cells3 : Tryd.prog.cellsOf 3 = 1 := by kernel_rfl
theorem cellsParts : Tryd.prog.cellsOf 92 = 20 := by kernel_rfl
theorem laidOut : laidOutB Tryd.prog = true := by kernel_rfl
end Go.Proofs.YtfacdhkadnmnlaaDoor
