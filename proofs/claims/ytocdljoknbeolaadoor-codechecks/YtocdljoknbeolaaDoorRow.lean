/- What every row of this seat needs: the table of ops lies in memory when the call begins; the types of a program; the world in which the initialisers have run. -/
import Derived.Test.YtocdljoknbeolaaDoorRows
import Derived.Test.YtocdljoknbeolaaDoorOps
import Derived.Test.YtocdljoknbeolaaDoorOpen
import Derived.ProofKit
import Derived.LaidMore
import Derived.OpenShut
import Derived.Stop.Joined
import Derived.Lib.LaidTab
namespace Go.Proofs.YtocdljoknbeolaaDoor
open Go Go.ChangeShapes Go.WideShapes Go.ChangeAt Go.RowKit

theorem own : ownKnob Tryd.prog.godebug = none := by kernel_rfl
theorem gParts : Tryd.prog.globalNamed "tierline/ops.parts" = some 0 := by kernel_rfl
theorem tParts : (Tryd.prog.globals[0]?).map (·.type) = some 76 := by kernel_rfl
theorem cells3 : Tryd.prog.cellsOf 3 = 1 := by kernel_rfl
theorem cellsParts : Tryd.prog.cellsOf 76 = 20 := by kernel_rfl
theorem laidOut : laidOutB Tryd.prog = true := by kernel_rfl

abbrev laidL : List (String × DataW Unit) := [("tierline/ops.parts", Rows.laid_tierline_ops_parts)]

/-- The door's own heap meets the condition. -/
theorem door_met (os : Os) (args : Array Value) : laidMetH Tryd.prog laidL ((World.doorLaid Tryd.prog 400 os).forCall (fun _ _ => 0) ⟨#[], args, []⟩).memory :=
  laidMetH_of_parts3 (fuel := 8) (laidMet_of_run' 8 (by kernel_rfl) (by kernel_rfl)) (by kernel_rfl) (by kernel_rfl)

theorem tab_of_laid {W : World} (h : laidMetH Tryd.prog laidL W) : TabOk W := by
  rw [MakeChecks.laidMetH_plain _ _ _ (by kernel_rfl)] at h
  have h' : laidMet Tryd.prog (("tierline/ops.parts", Lib.tabData .i64 hasL) :: []) W := h
  have ht := Lib.tabIs_of_head (P := Tryd.prog) gParts tParts Tryd.underlying76 Tryd.underlying3 cells3 cellsParts h'
  exact fun i hi => ht.cell gParts i hi

theorem typesP : Types Tryd.prog 3 46 41 43 22 where
  int := Tryd.underlying3
  ins := ⟨_, Tryd.underlying46, by kernel_rfl, by kernel_rfl, rfl, fun i f h => by
    match i, h with
    | 0, h => simp at h; subst h; rfl
    | 1, h => simp at h; subst h; rfl
    | 2, h => simp at h; subst h; rfl
    | 3, h => simp at h; subst h; rfl
    | 4, h => simp at h; subst h; rfl
    | i + 5, h => simp at h⟩
  inss := Tryd.underlying41
  fn := ⟨_, _, _, Tryd.underlying43, by kernel_rfl, by kernel_rfl, rfl, rfl, rfl⟩
  fns := Tryd.underlying22
  bI := by kernel_rfl
  bF := by kernel_rfl

end Go.Proofs.YtocdljoknbeolaaDoor
