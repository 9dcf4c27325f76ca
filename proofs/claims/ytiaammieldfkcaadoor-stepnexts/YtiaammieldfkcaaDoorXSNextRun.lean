/- Contracts of the document's Nexted (package tierlineref) where nothing is refused. -/
import Derived.Test.YtiaammieldfkcaaDoorXSNextRef
import Derived.Test.YtiaammieldfkcaaDoorXStepd
import Derived.Test.YtiaammieldfkcaaDoorXStCopy
namespace Go.Proofs.YtiaammieldfkcaaDoor
open Go Go.RowKit

set_option maxRecDepth 100000 in
set_option maxHeartbeats 2000000 in
theorem nexted_stop (P : List Fn) (v sv : Value) (s : St) (w : World) (hv : ProgVal w v P) (hs : StVal w sv s) (hE : ∀ E, ProofAns P E → checkE E P s = 0) (hst : ¬ s.status = 0) (h1 : s.frames.length * 112 ≤ 140737488351232) (h2 : s.events.length * 8 ≤ 140737488351232) (h3 : s.answers.length * 8 ≤ 140737488351232) :
    Calls Tryd.prog 10 #[.agg #[v], sv] w (NxtPost s w) := by
  have hbx : ∀ o o' o'', Below w.heap.size w (((w.alloc o).alloc o').alloc o'') := fun o o' o'' => (((Below.refl _ _).alloc (Nat.le_refl _) _).alloc (by simp) _).alloc (by simp; omega) _
  have HC : Hid (∀ o o' o'', Calls Tryd.prog 22 #[.agg #[v], sv] (((w.alloc o).alloc o').alloc o'') fun e w' => e = .returned (.int .i64 0) ∧ Below (((w.alloc o).alloc o').alloc o'').heap.size (((w.alloc o).alloc o').alloc o'') w') := fun o o' o'' =>
    (stateFault_any P v sv s _ (hv.keeps (keeps_below (hbx o o' o''))) (hs.keeps (keeps_below (hbx o o' o'')))).mono fun e w' ⟨E, h1, h2, h3⟩ => ⟨by rw [h2, hE E h1], h3⟩
  have HSC : Hid (∀ W, Below w.heap.size w W → Calls Tryd.prog 20 #[sv] W _) := fun W hW => stCopy_any s sv W (hs.keeps (keeps_below hW)) h1 (by omega) (by omega)
  obtain ⟨ao, n0, cap0, rfl⟩ := hv.shape
  have hs0 := hs
  obtain ⟨cs, rfl, hsz, -, -⟩ := hs.cells
  have c0 : cs[0]? = some (.int .i64 s.status) := by
    obtain ⟨fv, ev, av, e, -⟩ := hs0
    obtain rfl : cs = (stCells s fv ev av).toArray := by simpa using e
    rfl
  have hsb : (s.status != 0) = true := by simpa using hst
  have HBX : Hid _ := hbx
  have hR : (((w.alloc (.cells #[.slice ao n0 cap0] 24)).alloc (.cells cs 29)).alloc (.cells zeroStCells 29)).heap[w.heap.size + 1]? = some (.cells cs 29 (0, 0)) := heap_alloc_old _ _ (by simp) |>.trans (heap_alloc2_new _ _ _)
  clear hv hs hs0 hbx hE hst h1 h2 h3
  unfold NxtPost
  go_enter Tryd.func10, Tryd.ntmps10
  go_wp2_with (first
    | (refine wpList_load_row rfl 29 _ rfl _ rfl _ _ _ _ hR Tryd.underlying29 rfl hsz ?_)
    | (go_at_call 22; refine (HC.out _ _ _).mono ?_; rintro e w1 ⟨rfl, hb1⟩; have h6 : w1.heap[w.heap.size + 1 + 1]? = some (.cells zeroStCells 29 (0, 0)) := (hb1.block _ (by simp)).trans (heap_alloc3_new _ _ _ _); have h5 : w1.heap[w.heap.size + 1]? = some (.cells cs 29 (0, 0)) := (hb1.block _ (by simp)).trans hR; have k0 : w1.cell? ⟨w.heap.size + 1, 0, none⟩ = some (.int .i64 s.status) := (by rw [cell_of_row _ _ _ _ _ _ h5]; exact c0); have hz1 : w.heap.size + 2 < w1.heap.size := Nat.lt_of_lt_of_le (by simp) hb1.size; have HB1 : Hid (Below w.heap.size w w1) := (HBX.out _ _ _).trans (hb1.mono (by simp; omega)); clear hb1)
    | (refine wpList_load_row rfl 29 _ rfl _ rfl _ _ _ _ h5 Tryd.underlying29 rfl hsz ?_)
    | (go_at_call 20; refine (HSC.out _ HB1.out).mono ?_; rintro e w3 ⟨v3, fv, ev, av, rfl, hos, hb3⟩; obtain ⟨rfl, hm, hwf, hfr, hev, hav, -⟩ := hos; have z1 : w3.heap[w.heap.size + 1 + 1]? = some (.cells zeroStCells 29 (0, 0)) := (hb3.block _ (by omega)).trans h6; have HB3 : Hid (Below w.heap.size w w3) := HB1.out.trans (hb3.mono HB1.out.size); have hsv : StVal w3 (.agg (stCells s fv ev av).toArray) s := ⟨fv, ev, av, rfl, hm, frames_of_own hwf hfr, ints_of_own hev, ints_of_own hav⟩; have hcc := hsv.cells; obtain ⟨cs1, ecs, hsi, hold, hone⟩ := hcc; obtain rfl := Value.agg.inj ecs; have HMM : Hid _ := hm; have HWF : Hid _ := hwf; have HFR : Hid _ := hfr; have HEV : Hid _ := hev; have HAV : Hid _ := hav; clear hsv ecs hb3 hm hwf hfr hev hav)
    | (refine wpList_store_row rfl _ _ _ rfl _ _ rfl rfl _ _ z1 hsi hold hone ?_))
  try simp only [Exit.inBlock, Exit.then]
  exact bodyPost_ret (results_row_tmp rfl _ _ (w.heap.size + 1 + 1) 29 _ (0, 0) _ rfl (setRow_heap _ _ _ _ _ _ z1) Tryd.underlying29 rfl hsi) rfl ⟨_, rfl, ⟨fv, ev, av, rfl, HMM.out, frames_of_own HWF.out (ownsRow_setRow HFR.out (by omega) _), ints_of_own (ownsRow_setRow HEV.out (by omega) _), ints_of_own (ownsRow_setRow HAV.out (by omega) _)⟩, below_setRow HB3.out (by omega) z1 _⟩
set_option maxRecDepth 100000 in
set_option maxHeartbeats 2000000 in
theorem nexted_run (P : List Fn) (v sv : Value) (s : St) (w : World) (hv : ProgVal w v P) (hs : StVal w sv s) (hE : ∀ E, ProofAns P E → checkE E P s = 0) (fs : List Fr) (f : Fr) (hok : StepOk P s fs f) :
    Calls Tryd.prog 10 #[.agg #[v], sv] w (NxtPost (stepS P s) w) := by
  have hbx : ∀ o o' o'', Below w.heap.size w (((w.alloc o).alloc o').alloc o'') := fun o o' o'' => (((Below.refl _ _).alloc (Nat.le_refl _) _).alloc (by simp) _).alloc (by simp; omega) _
  have HC : Hid (∀ o o' o'', Calls Tryd.prog 22 #[.agg #[v], sv] (((w.alloc o).alloc o').alloc o'') fun e w' => e = .returned (.int .i64 0) ∧ Below (((w.alloc o).alloc o').alloc o'').heap.size (((w.alloc o).alloc o').alloc o'') w') := fun o o' o'' =>
    (stateFault_any P v sv s _ (hv.keeps (keeps_below (hbx o o' o''))) (hs.keeps (keeps_below (hbx o o' o'')))).mono fun e w' ⟨E, h1, h2, h3⟩ => ⟨by rw [h2, hE E h1], h3⟩
  have HSC : Hid (∀ W, Below w.heap.size w W → Calls Tryd.prog 23 #[.agg #[v], sv] W fun e w' => StepdPost P s W e w') := fun W hW => stepped_any P s fs f hok v sv W (hv.keeps (keeps_below hW)) (hs.keeps (keeps_below hW))
  have hrun := hok.run
  obtain ⟨ao, n0, cap0, rfl⟩ := hv.shape
  have hs0 := hs
  obtain ⟨cs, rfl, hsz, -, -⟩ := hs.cells
  have c0 : cs[0]? = some (.int .i64 s.status) := by
    obtain ⟨fv, ev, av, e, -⟩ := hs0
    obtain rfl : cs = (stCells s fv ev av).toArray := by simpa using e
    rfl
  rw [hrun] at c0
  have HBX : Hid _ := hbx
  have hR : (((w.alloc (.cells #[.slice ao n0 cap0] 24)).alloc (.cells cs 29)).alloc (.cells zeroStCells 29)).heap[w.heap.size + 1]? = some (.cells cs 29 (0, 0)) := heap_alloc_old _ _ (by simp) |>.trans (heap_alloc2_new _ _ _)
  have hP0 : (((w.alloc (.cells #[.slice ao n0 cap0] 24)).alloc (.cells cs 29)).alloc (.cells zeroStCells 29)).heap[w.heap.size]? = some (.cells #[.slice ao n0 cap0] 24 (0, 0)) := heap_alloc_old _ _ (by simp; omega) |>.trans (heap_alloc2_old _ _ _)
  clear hv hs hs0 hbx hE hok hrun
  unfold NxtPost
  go_enter Tryd.func10, Tryd.ntmps10
  go_wp2_with (first
    | (refine wpList_load_row rfl 29 _ rfl _ rfl _ _ _ _ hR Tryd.underlying29 rfl hsz ?_)
    | (go_at_call 22; refine (HC.out _ _ _).mono ?_; rintro e w1 ⟨rfl, hb1⟩; have h6 : w1.heap[w.heap.size + 1 + 1]? = some (.cells zeroStCells 29 (0, 0)) := (hb1.block _ (by simp)).trans (heap_alloc3_new _ _ _ _); have h5 : w1.heap[w.heap.size + 1]? = some (.cells cs 29 (0, 0)) := (hb1.block _ (by simp)).trans hR; have kp1 : w1.cell? ⟨w.heap.size, 0, none⟩ = some (.slice ao n0 cap0) := (by rw [cell_of_row _ _ _ _ _ _ ((hb1.block _ (by simp; omega)).trans hP0)]; rfl); have k0 : w1.cell? ⟨w.heap.size + 1, 0, none⟩ = some (.int .i64 0) := (by rw [cell_of_row _ _ _ _ _ _ h5]; exact c0); have hz1 : w.heap.size + 2 < w1.heap.size := Nat.lt_of_lt_of_le (by simp) hb1.size; have HB1 : Hid (Below w.heap.size w w1) := (HBX.out _ _ _).trans (hb1.mono (by simp; omega)); clear hb1)
    | (refine wpList_load_row rfl 29 _ rfl _ rfl _ _ _ _ h5 Tryd.underlying29 rfl hsz ?_)
    | (go_at_call 23; refine (HSC.out _ HB1.out).mono ?_; rintro e w3 hP3; obtain ⟨v3, rfl, hst3, hb3⟩ := hP3; obtain ⟨cs3, rfl, hsi, hold, hone⟩ := hst3.val.cells; have HST : Hid (StAt w3 w1.heap.size (.agg cs3) (stepS P s)) := hst3; have z1 : w3.heap[w.heap.size + 1 + 1]? = some (.cells zeroStCells 29 (0, 0)) := (hb3.block _ (by omega)).trans h6; have HB3 : Hid (Below w.heap.size w w3) := HB1.out.trans (hb3.mono HB1.out.size); clear hb3 hst3)
    | (refine wpList_store_row rfl _ _ _ rfl _ _ rfl rfl _ _ z1 hsi hold hone ?_))
  try simp only [Exit.inBlock, Exit.then]
  exact bodyPost_ret (results_row_tmp rfl _ _ (w.heap.size + 1 + 1) 29 _ (0, 0) _ rfl (setRow_heap _ _ _ _ _ _ z1) Tryd.underlying29 rfl hsi) rfl ⟨_, rfl, (HST.out.setRow (by omega) _).val, below_setRow HB3.out (by omega) z1 _⟩
end Go.Proofs.YtiaammieldfkcaaDoor
