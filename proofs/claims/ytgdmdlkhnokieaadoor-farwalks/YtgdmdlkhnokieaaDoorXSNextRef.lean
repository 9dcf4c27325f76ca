/- Contracts for StepNexts: step.Walk and step.Next where Check refuses; the document's Nexted (package tierlineref). -/
import Derived.Test.YtgdmdlkhnokieaaDoorXStFault
import Derived.Test.YtgdmdlkhnokieaaDoorGroupD
import Derived.Test.YtgdmdlkhnokieaaDoorGroupE
namespace Go.Proofs.YtgdmdlkhnokieaaDoor
open Go Go.RowKit

set_option maxRecDepth 100000 in
set_option maxHeartbeats 2000000 in
theorem walk_bad (P : List Fn) (v sv : Value) (s : St) (n c : Int) (w : World) (ht : TabOk w) (hc : CallOk w) (hv : ProgVal w v P) (hs : StVal w sv s) (hE : ∀ E, ProofAns P E → checkE E P s = c) (h0 : ¬ c = 0) :
    Calls Tryd.prog 8 #[.agg #[v], sv, .int .i64 n] w fun e w' => e = .returned (.tuple #[.agg zeroStCells, .int .i64 c]) ∧ Below w.heap.size w w' := by
  have hbx : ∀ o o' o'', Below w.heap.size w (((w.alloc o).alloc o').alloc o'') := fun o o' o'' => (((Below.refl _ _).alloc (Nat.le_refl _) _).alloc (by simp) _).alloc (by simp; omega) _
  have HC : Hid (∀ o o' o'', Calls Tryd.prog 18 #[.agg #[v], sv] (((w.alloc o).alloc o').alloc o'') fun e w' => e = .returned (.int .i64 c) ∧ Below (((w.alloc o).alloc o').alloc o'').heap.size (((w.alloc o).alloc o').alloc o'') w') := fun o o' o'' =>
    (stepCheck_any P v sv s _ (ht.below (hbx o o' o'')) (hc.below (hbx o o' o'')) (hv.keeps (keeps_below (hbx o o' o''))) (hs.keeps (keeps_below (hbx o o' o'')))).mono fun e w' ⟨E, h1, h2, h3⟩ => ⟨by rw [h2, hE E h1], h3⟩
  obtain ⟨ao, n0, cap0, rfl⟩ := hv.shape
  obtain ⟨cs, rfl, hsz, -, -⟩ := hs.cells
  have HBX : Hid _ := hbx
  have hcb : (c != 0) = true := by simpa using h0
  clear ht hc hv hs hbx hE h0
  go_enter Tryd.func8, Tryd.ntmps8
  go_wp2_with (first
    | (refine wpList_load_row rfl 34 _ rfl _ rfl _ _ _ _ (heap_alloc_old _ _ (by simp) |>.trans (heap_alloc2_new _ _ _)) Tryd.underlying34 rfl hsz ?_)
    | (go_at_call 18; refine (HC.out _ _ _).mono ?_; rintro e w1 ⟨rfl, hb1⟩; have h6 : w1.heap[w.heap.size + 1 + 1]? = some (.cells zeroStCells 34 (0, 0)) := (hb1.block _ (by simp)).trans (heap_alloc3_new _ _ _ _); have HB1 : Hid (Below w.heap.size w w1) := (HBX.out _ _ _).trans (hb1.mono (by simp; omega)); clear hb1)
    | (refine wpList_build_store rfl _ _ rfl zeroStCells (by simpa using built_zero) rfl _ _ rfl _ rfl rfl _ _ h6 infoSt rfl zeroSt_one ?_)
    | (refine wpList_store_row rfl _ _ _ rfl _ zeroStCells rfl rfl _ _ h6 infoSt rfl zeroSt_one ?_))
  try simp only [Exit.inBlock, Exit.then]
  exact bodyPost_ret (results_row_tmp rfl _ _ (w.heap.size + 1 + 1) 34 zeroStCells (0, 0) _ rfl (setRow_heap _ _ _ _ _ _ h6) Tryd.underlying34 rfl infoSt) rfl ⟨rfl, below_setRow HB1.out (by omega) _⟩

/-- What Nexted answers. -/
def NxtPost (S : St) (w : World) (e : Ending) (w' : World) : Prop := ∃ v', e = .returned (.tuple #[v', .int .i64 0]) ∧ StVal w' v' S ∧ Below w.heap.size w w'

end Go.Proofs.YtgdmdlkhnokieaaDoor
