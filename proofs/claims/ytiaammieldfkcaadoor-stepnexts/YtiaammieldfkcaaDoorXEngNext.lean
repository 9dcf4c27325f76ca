/- Contracts of step.Next and step.Run, at runs. -/
import Derived.Test.YtiaammieldfkcaaDoorXEngWalk
namespace Go.Proofs.YtiaammieldfkcaaDoor
open Go Go.RowKit

set_option maxRecDepth 100000 in
set_option maxHeartbeats 4000000 in
theorem next_any (P : List Fn) (v sv : Value) (S : St) (w : World) (ht : TabOk w) (hc : CallOk w) (hR : ProofAns P 0) (hv : ProgVal w v P) (hs : StVal w sv S) (hg : Stays P 1 S) (he : S.events.length * 8 + 16 ≤ 140737488355328) :
    Calls Tryd.prog 8 #[.agg #[v], sv] w fun e w' => ∃ v', e = .returned (.tuple #[v', .int .i64 0]) ∧ StAt w' w.heap.size v' (walkS P 1 S) ∧ Below w.heap.size w w' := by
  have hbx : ∀ o o' o'', Below w.heap.size w (((w.alloc o).alloc o').alloc o'') := fun o o' o'' => (((Below.refl _ _).alloc (Nat.le_refl _) _).alloc (by simp) _).alloc (by simp; omega) _
  have HC : Hid (∀ o o' o'', Calls Tryd.prog 21 #[.agg #[v], sv, .int .i64 1] (((w.alloc o).alloc o').alloc o'') fun e w' => ∃ v', e = .returned (.tuple #[v', .int .i64 0]) ∧ StAt w' (w.heap.size + 3) v' (walkS P 1 S) ∧ Below (w.heap.size + 3) (((w.alloc o).alloc o').alloc o'') w') := fun o o' o'' => by
    have := walk_any P v sv S 1 _ (ht.below (hbx o o' o'')) (hc.below (hbx o o' o'')) hR (hv.keeps (keeps_below (hbx o o' o''))) (hs.keeps (keeps_below (hbx o o' o''))) hg (by omega) (by omega)
    simp only [World.size_alloc] at this
    exact this
  obtain ⟨ao, n0, cap0, rfl⟩ := hv.shape
  obtain ⟨cs, rfl, hsz, -, -⟩ := hs.cells
  have HBX : Hid _ := hbx
  clear ht hc hv hs hbx
  go_enter Tryd.func8, Tryd.ntmps8
  go_wp2_with (first
    | (refine wpList_load_row rfl _ _ rfl _ rfl _ _ _ _ (heap_alloc_old _ _ (by simp) |>.trans (heap_alloc2_new _ _ _)) Tryd.underlying29 rfl hsz ?_)
    | (go_at_call 21; refine (HC.out _ _ _).mono ?_; rintro e w1 ⟨v1, rfl, hst, hb1⟩; obtain ⟨cs1, rfl, hsz1, hol1, hon1⟩ := hst.val.cells; have HST : Hid (StAt w1 (w.heap.size + 3) (.agg cs1) (walkS P 1 S)) := hst; have h6 : w1.heap[w.heap.size + 1 + 1]? = some (.cells zeroStCells 29 (0, 0)) := (hb1.block _ (by omega)).trans (heap_alloc3_new _ _ _ _); have HB1 : Hid (Below w.heap.size w w1) := (HBX.out _ _ _).trans (hb1.mono (by omega)); clear hst hb1)
    | (refine wpList_store_row rfl _ _ _ rfl _ _ rfl rfl _ _ h6 hsz1 hol1 hon1 ?_))
  try simp only [Exit.inBlock, Exit.then]
  exact bodyPost_ret (results_row_tmp rfl _ _ (w.heap.size + 1 + 1) 29 _ (0, 0) _ rfl (setRow_heap _ _ _ _ _ _ h6) Tryd.underlying29 rfl hsz1) rfl ⟨_, rfl, (HST.out.setRow (by omega) _).mono (by omega), below_setRow HB1.out (by omega) _⟩
end Go.Proofs.YtiaammieldfkcaaDoor
