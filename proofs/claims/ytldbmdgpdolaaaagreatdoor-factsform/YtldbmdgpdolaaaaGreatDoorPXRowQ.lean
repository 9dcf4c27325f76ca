import Derived.Lib.LaidU8
import Derived.Stop.LaidErr
import Derived.Test.YtldbmdgpdolaaaaGreatDoorPXFoldKit
import Derived.Test.YtldbmdgpdolaaaaGreatDoorPGroupA
import Derived.Test.YtldbmdgpdolaaaaGreatDoorPGroupR
namespace Go.Proofs.YtldbmdgpdolaaaaGreatDoor
open Go Go.ChangeShapes Go.WideShapes Go.ChangeAt Go.RowKit

theorem gCalls4 : Tryz.prog.globalNamed "tierline/ops.callReads" = some 2 := by kernel_rfl
theorem tCalls4 : (Tryz.prog.globals[2]?).map (·.type) = some 197 := by kernel_rfl
theorem cellsCalls4 : Tryz.prog.cellsOf 197 = 3 := by kernel_rfl
theorem gNever : Tryz.prog.globalNamed "tierline/fold.never" = some 1 := by kernel_rfl
theorem tNever : (Tryz.prog.globals[1]?).map (·.type) = some 65 := by kernel_rfl
theorem gMany : Tryz.prog.globalNamed "tierline/fold.many" = some 0 := by kernel_rfl
theorem tMany : (Tryz.prog.globals[0]?).map (·.type) = some 65 := by kernel_rfl
theorem cellsFactQ : Tryz.prog.cellsOf 65 = 2 := by kernel_rfl
theorem cellsIntQ : Tryz.prog.cellsOf 3 = 1 := by kernel_rfl
abbrev laidL4 : List (String × DataW Unit) := [("tierline/ops.parts", Rows.laid_tierline_ops_parts), ("tierline/ops.callReads", Rows.laid_tierline_ops_callReads), ("tierline/fold.never", Rows.laid_tierline_fold_never), ("tierline/fold.many", Rows.laid_tierline_fold_many)]
theorem door_met4 (os : Os) (args : Array Value) : laidMetH Tryz.prog laidL4 ((World.doorLaid Tryz.prog 400 os).forCall (fun _ _ => 0) ⟨#[], args, []⟩).memory :=
  laidMetH_of_parts3 (fuel := 8) (laidMet_of_run' 8 (by kernel_rfl) (by kernel_rfl)) (by kernel_rfl) (by kernel_rfl)
theorem fact_cells {W : World} {name : String} {gl : Nat} {z1 z2 : Int} (hg : Tryz.prog.globalNamed name = some gl) (hty : (Tryz.prog.globals[gl]?).map (·.type) = some 65) (h : Lib.VarReads Tryz.prog W name (.agg ([z1, z2].map fun z => .lit (.int .i64 z)))) : W.rangeAt gl 0 [.int .i64 z1, .int .i64 z2] := by
  obtain ⟨g, t, cs, fuel, p, hg', hty', hvar, hd⟩ := h
  obtain rfl := Option.some.inj (hg.symm.trans hg')
  obtain rfl := Option.some.inj (hty.symm.trans hty')
  have hc := Lib.ints_of_struct Tryz.underlying65 (fun i f h => by
    match i, h with
    | 0, h => simp at h; subst h; exact ⟨Tryz.underlying3, rfl, cellsIntQ⟩
    | 1, h => simp at h; subst h; exact ⟨Tryz.underlying3, rfl, cellsIntQ⟩
    | j + 2, h => simp at h) cellsFactQ hd
  intro j u hu
  have h1 := World.var?_cell hg hvar (0 + j)
  rw [h1]
  have h2 : cs[0 + j]? = cs.toList[0 + j]? := by simp
  rw [h2, hc, Nat.zero_add]
  exact hu
theorem tabs4_of_laid {W : World} (h : laidMetH Tryz.prog laidL4 W) : TabOk W ∧ CallOk W ∧ KnowG W := by
  rw [MakeChecks.laidMetH_plain _ _ _ (by kernel_rfl)] at h
  have h' : laidMet Tryz.prog (("tierline/ops.parts", Lib.tabData .i64 hasL) :: ("tierline/ops.callReads", Lib.tabData .i64 [0, 2, 6]) :: ("tierline/fold.never", .agg (([0, 0] : List Int).map fun z => .lit (.int .i64 z))) :: ("tierline/fold.many", .agg (([2, 0] : List Int).map fun z => .lit (.int .i64 z))) :: []) W := h
  have ht := Lib.tabIs_of_head (P := Tryz.prog) gParts tParts Tryz.underlying200 Tryz.underlying3 cells3 cellsParts h'
  have hc := Lib.tabIs_of_head (P := Tryz.prog) gCalls4 tCalls4 Tryz.underlying197 Tryz.underlying3 cells3 cellsCalls4 h'.tail
  obtain ⟨ps, hps, -⟩ := h'
  have r1 := Lib.LaidVars_reads hps "tierline/fold.never" (.agg (([0, 0] : List Int).map fun z => .lit (.int .i64 z))) (List.mem_cons_of_mem _ (List.mem_cons_of_mem _ (List.mem_cons_self ..)))
  have r2 := Lib.LaidVars_reads hps "tierline/fold.many" (.agg (([2, 0] : List Int).map fun z => .lit (.int .i64 z))) (List.mem_cons_of_mem _ (List.mem_cons_of_mem _ (List.mem_cons_of_mem _ (List.mem_cons_self ..))))
  exact ⟨fun i hi => ht.cell gParts i hi, fun i hi => hc.cell gCalls4 i hi, fact_cells gNever tNever r1, fact_cells gMany tMany r2⟩
end Go.Proofs.YtldbmdgpdolaaaaGreatDoor
