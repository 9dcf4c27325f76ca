/-
  DERIVED. GIVEN WITH THE SEED: THE PROGRAM's TIES (one call each: nine closed facts by the kernel) AND EACH ROW's TIE, after the 31st guide's Derived/Test/Toyas{Tie, Card}.lean. No idea stands in it: it is a product of the set-up. Laid BY PROGRAM, IN A SANDBOX (cutbox-door.mjs). By AI agents, Wed Nov 11 2026. No macro, syntax, notation, axiom, sorry.
-/
import Derived.Test.YtldbmdgpdolaaaaGreatDoorRows
import Derived.LaidByTextLater
import Derived.SevenTiedAt
import Derived.LaidSub
import Derived.LaidOnce
namespace Go.Proofs.YtldbmdgpdolaaaaGreatDoor
open Go
set_option maxRecDepth 100000
theorem seatTie1 : Tryz.prog.laidByTextLater [("tierline/ops.parts", Rows.laid_tierline_ops_parts), ("tierline/ops.callReads", Rows.laid_tierline_ops_callReads), ("tierline/fold.never", Rows.laid_tierline_fold_never), ("tierline/fold.many", Rows.laid_tierline_fold_many)] [.data, .data, .data, .data] true :=
  Program.laidByTextLater_by_one 29 8 21 (by kernel_rfl) (by kernel_rfl) (by kernel_rfl) (by kernel_rfl) (by kernel_rfl) (by kernel_rfl) (fun _ _ => by kernel_rfl)
theorem noOwnUnsafe : Tryz.pinned.checked.prog.headLifts.contains "ownunsafe" = false := by kernel_rfl
theorem tie : Tryz.prog.laidByTextLater [("tierline/ops.parts", Rows.laid_tierline_ops_parts), ("tierline/ops.callReads", Rows.laid_tierline_ops_callReads)] [.data, .data] true :=
  Program.laidByTextLater.sub seatTie1 ["tierline/ops.parts", "tierline/ops.callReads"] (by kernel_rfl) (by kernel_rfl)
theorem ssaTrue_row_tie : Rows.ssaTrueRow.laidByTextAt .later Tryz.pinned [.data, .data] true :=
  OpenClaim.laidByTextAt_later rfl rfl tie noOwnUnsafe
theorem assignKeeps_row_tie : Rows.assignKeepsRow.laidByTextAt .later Tryz.pinned [.data, .data] true :=
  OpenClaim.laidByTextAt_later rfl rfl tie noOwnUnsafe
theorem tie2 : Tryz.prog.laidByTextLater [("tierline/ops.parts", Rows.laid_tierline_ops_parts), ("tierline/ops.callReads", Rows.laid_tierline_ops_callReads), ("tierline/fold.never", Rows.laid_tierline_fold_never), ("tierline/fold.many", Rows.laid_tierline_fold_many)] [.data, .data, .data, .data] true :=
  Program.laidByTextLater.sub seatTie1 ["tierline/ops.parts", "tierline/ops.callReads", "tierline/fold.never", "tierline/fold.many"] (by kernel_rfl) (by kernel_rfl)
theorem factsLine_row_tie : Rows.factsLineRow.laidByTextAt .later Tryz.pinned [.data, .data, .data, .data] true :=
  OpenClaim.laidByTextAt_later rfl rfl tie2 noOwnUnsafe
theorem factsForm_row_tie : Rows.factsFormRow.laidByTextAt .later Tryz.pinned [.data, .data, .data, .data] true :=
  OpenClaim.laidByTextAt_later rfl rfl tie2 noOwnUnsafe
theorem factsTrue_row_tie : Rows.factsTrueRow.laidByTextAt .later Tryz.pinned [.data, .data, .data, .data] true :=
  OpenClaim.laidByTextAt_later rfl rfl tie2 noOwnUnsafe
theorem factsSide_row_tie : Rows.factsSideRow.laidByTextAt .later Tryz.pinned [.data, .data, .data, .data] true :=
  OpenClaim.laidByTextAt_later rfl rfl tie2 noOwnUnsafe
theorem factsLoop_row_tie : Rows.factsLoopRow.laidByTextAt .later Tryz.pinned [.data, .data, .data, .data] true :=
  OpenClaim.laidByTextAt_later rfl rfl tie2 noOwnUnsafe
theorem ssaTrueUpto_row_tie : Rows.ssaTrueUptoRow.laidByTextAt .later Tryz.pinned [.data, .data] true :=
  OpenClaim.laidByTextAt_later rfl rfl tie noOwnUnsafe
theorem factsLineUpto_row_tie : Rows.factsLineUptoRow.laidByTextAt .later Tryz.pinned [.data, .data, .data, .data] true :=
  OpenClaim.laidByTextAt_later rfl rfl tie2 noOwnUnsafe
theorem factsFormUpto_row_tie : Rows.factsFormUptoRow.laidByTextAt .later Tryz.pinned [.data, .data, .data, .data] true :=
  OpenClaim.laidByTextAt_later rfl rfl tie2 noOwnUnsafe
theorem factsTrueUpto_row_tie : Rows.factsTrueUptoRow.laidByTextAt .later Tryz.pinned [.data, .data, .data, .data] true :=
  OpenClaim.laidByTextAt_later rfl rfl tie2 noOwnUnsafe
theorem factsSideUpto_row_tie : Rows.factsSideUptoRow.laidByTextAt .later Tryz.pinned [.data, .data, .data, .data] true :=
  OpenClaim.laidByTextAt_later rfl rfl tie2 noOwnUnsafe
theorem factsLoopUpto_row_tie : Rows.factsLoopUptoRow.laidByTextAt .later Tryz.pinned [.data, .data, .data, .data] true :=
  OpenClaim.laidByTextAt_later rfl rfl tie2 noOwnUnsafe
theorem assignKeepsUpto_row_tie : Rows.assignKeepsUptoRow.laidByTextAt .later Tryz.pinned [.data, .data] true :=
  OpenClaim.laidByTextAt_later rfl rfl tie noOwnUnsafe
end Go.Proofs.YtldbmdgpdolaaaaGreatDoor
