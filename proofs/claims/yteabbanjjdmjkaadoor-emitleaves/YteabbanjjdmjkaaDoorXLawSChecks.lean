/- The walk of tierlinelaw.StepChecks: at every program and state it says true, and nothing that was there has turned. -/
import Derived.Test.YteabbanjjdmjkaaDoorXStFault
import Derived.Test.YteabbanjjdmjkaaDoorGroupW
import Derived.Test.YteabbanjjdmjkaaDoorGroupE
import Derived.Test.YteabbanjjdmjkaaDoorXRowSt
namespace Go.Proofs.YteabbanjjdmjkaaDoor
open Go Go.RowKit

set_option maxRecDepth 100000 in
set_option maxHeartbeats 2000000 in
theorem states_any (s : St) (v : Value) (w : World) (hv : StVal w v s) (h1 : s.frames.length * 112 ≤ 140737488351232) (h2 : s.events.length * 8 ≤ 140737488351232) (h3 : s.answers.length * 8 ≤ 140737488351232) :
    Calls Tryd.prog 12 #[v] w fun e w' => ∃ v', e = .returned v' ∧ StVal w' v' s ∧ Below w.heap.size w w' := by
  obtain ⟨cs, rfl, c1, c2, c3⟩ := hv.cells
  have hbx : ∀ o o', Below w.heap.size w ((w.alloc o).alloc o') := fun o o' => ((Below.refl _ _).alloc (Nat.le_refl _) _).alloc (by simp) _
  have HSC : Hid (∀ o o', Calls Tryd.prog 36 #[.agg cs] ((w.alloc o).alloc o') _) := fun o o' => stCopy_any s (.agg cs) ((w.alloc o).alloc o') (hv.keeps (keeps_below (hbx o o'))) h1 (by omega) (by omega)
  have r0 : ((w.alloc (.cells cs 29)).alloc (.cells zeroStCells 29)).heap[w.heap.size]? = some (.cells cs 29 (0, 0)) := heap_alloc2_old _ _ _
  have r1 : ((w.alloc (.cells cs 29)).alloc (.cells zeroStCells 29)).heap[w.heap.size + 1]? = some (.cells zeroStCells 29 (0, 0)) := heap_alloc2_new _ _ _
  clear hv h1 h2 h3
  go_enter Tryd.func12, Tryd.ntmps12
  go_wp2_with (first
    | (refine wpList_load_row rfl _ _ rfl _ rfl _ _ _ _ r0 Tryd.underlying29 rfl c1 ?_)
    | (go_at_call 36; refine (HSC.out _ _).mono ?_; rintro e w1 ⟨v1, fv, ev, av, rfl, hos, hb1⟩; obtain ⟨rfl, hm, hwf, hfr, hev, hav, -⟩ := hos; have hz : w.heap.size + 2 ≤ w1.heap.size := (by have := hb1.size; simpa using this); have z1 : w1.heap[w.heap.size + 1]? = some (.cells zeroStCells 29 (0, 0)) := (hb1.block _ (by simp)).trans r1; have hsv : StVal w1 (.agg (stCells s fv ev av).toArray) s := ⟨fv, ev, av, rfl, hm, frames_of_own hwf hfr, ints_of_own hev, ints_of_own hav⟩; have hcc := hsv.cells; obtain ⟨cs1, ecs, hsi, hold, hone⟩ := hcc; obtain rfl := Value.agg.inj ecs)
    | (refine wpList_store_row rfl _ _ _ rfl _ _ rfl rfl _ _ z1 hsi hold hone ?_))
  refine bodyPost_ret (results_cell_row rfl _ _ (w.heap.size + 1) 29 (stCells s fv ev av).toArray (0, 0) _ rfl (setRow_heap _ _ _ _ _ _ z1) Tryd.underlying29 rfl hsi) rfl ⟨_, rfl, ?_, below_setRow ((hbx _ _).trans (hb1.mono (by simp; omega))) (by omega) _⟩
  exact ⟨fv, ev, av, rfl, hm, frames_of_own hwf (ownsRow_setRow hfr (by simp) _), ints_of_own (ownsRow_setRow hev (by simp) _), ints_of_own (ownsRow_setRow hav (by simp) _)⟩

end Go.Proofs.YteabbanjjdmjkaaDoor
