/- Rows of this seat that name two variables: the table of ops, and the table of what a Call reads. -/
import Derived.Test.YtepnhemlhogmgaaDoorRow
import Derived.Test.YtepnhemlhogmgaaDoorReads
import Derived.Stop.LaidErr
namespace Go.Proofs.YtepnhemlhogmgaaDoor
open Go Go.ChangeShapes Go.WideShapes Go.ChangeAt Go.RowKit

theorem gCalls : Tryd.prog.globalNamed "tierline/proof.callReads" = some 1 := by kernel_rfl
theorem tCalls : (Tryd.prog.globals[1]?).map (·.type) = some 126 := by kernel_rfl
theorem cellsCalls : Tryd.prog.cellsOf 126 = 3 := by kernel_rfl
abbrev laidL2 : List (String × DataW Unit) := [("tierline/ops.parts", Rows.laid_tierline_ops_parts), ("tierline/proof.callReads", Rows.laid_tierline_proof_callReads)]

theorem door_met2 (os : Os) (args : Array Value) : laidMetH Tryd.prog laidL2 ((World.doorLaid Tryd.prog 400 os).forCall (fun _ _ => 0) ⟨#[], args, []⟩).memory :=
  laidMetH_of_parts3 (fuel := 8) (laidMet_of_run' 8 (by kernel_rfl) (by kernel_rfl)) (by kernel_rfl) (by kernel_rfl)

theorem tabs_of_laid {W : World} (h : laidMetH Tryd.prog laidL2 W) : TabOk W ∧ CallOk W := by
  rw [MakeChecks.laidMetH_plain _ _ _ (by kernel_rfl)] at h
  have h' : laidMet Tryd.prog (("tierline/ops.parts", Lib.tabData .i64 hasL) :: ("tierline/proof.callReads", Lib.tabData .i64 [0, 2, 6]) :: []) W := h
  have ht := Lib.tabIs_of_head (P := Tryd.prog) gParts tParts Tryd.underlying111 Tryd.underlying3 cells3 cellsParts h'
  have hc := Lib.tabIs_of_head (P := Tryd.prog) gCalls tCalls Tryd.underlying126 Tryd.underlying3 cells3 cellsCalls h'.tail
  exact ⟨fun i hi => ht.cell gParts i hi, fun i hi => hc.cell gCalls i hi⟩

end Go.Proofs.YtepnhemlhogmgaaDoor
