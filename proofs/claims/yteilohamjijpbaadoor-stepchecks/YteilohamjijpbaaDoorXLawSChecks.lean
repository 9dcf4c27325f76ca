/- The walk of tierlinelaw.StepChecks: at every program and state it says true, and nothing that was there has turned. -/
import Derived.Test.YteilohamjijpbaaDoorXStFault
import Derived.Test.YteilohamjijpbaaDoorXStCopy
import Derived.Test.YteilohamjijpbaaDoorXStAt
import Derived.Test.YteilohamjijpbaaDoorXProgs
import Derived.Test.YteilohamjijpbaaDoorXRowSt
namespace Go.Proofs.YteilohamjijpbaaDoor
open Go Go.RowKit

set_option maxRecDepth 100000 in
set_option maxHeartbeats 2000000 in
theorem states_any (s : St) (v : Value) (w : World) (hv : StVal w v s) (h1 : s.frames.length * 112 ≤ 140737488351232) (h2 : s.events.length * 8 ≤ 140737488351232) (h3 : s.answers.length * 8 ≤ 140737488351232) :
    Calls Tryd.prog 23 #[v] w fun e w' => ∃ v', e = .returned v' ∧ StVal w' v' s ∧ Below w.heap.size w w' := by
  obtain ⟨cs, rfl, c1, c2, c3⟩ := hv.cells
  have hbx : ∀ o o', Below w.heap.size w ((w.alloc o).alloc o') := fun o o' => ((Below.refl _ _).alloc (Nat.le_refl _) _).alloc (by simp) _
  have HSC : Hid (∀ o o', Calls Tryd.prog 52 #[.agg cs] ((w.alloc o).alloc o') _) := fun o o' => stCopy_any s (.agg cs) ((w.alloc o).alloc o') (hv.keeps (keeps_below (hbx o o'))) h1 (by omega) (by omega)
  have r0 : ((w.alloc (.cells cs 44)).alloc (.cells zeroStCells 44)).heap[w.heap.size]? = some (.cells cs 44 (0, 0)) := heap_alloc2_old _ _ _
  have r1 : ((w.alloc (.cells cs 44)).alloc (.cells zeroStCells 44)).heap[w.heap.size + 1]? = some (.cells zeroStCells 44 (0, 0)) := heap_alloc2_new _ _ _
  clear hv h1 h2 h3
  go_enter Tryd.func23, Tryd.ntmps23
  go_wp2_with (first
    | (refine wpList_load_row rfl _ _ rfl _ rfl _ _ _ _ r0 Tryd.underlying44 rfl c1 ?_)
    | (go_at_call 52; refine (HSC.out _ _).mono ?_; rintro e w1 ⟨v1, fv, ev, av, rfl, hos, hb1⟩; obtain ⟨rfl, hm, hwf, hfr, hev, hav, -⟩ := hos; have hz : w.heap.size + 2 ≤ w1.heap.size := (by have := hb1.size; simpa using this); have z1 : w1.heap[w.heap.size + 1]? = some (.cells zeroStCells 44 (0, 0)) := (hb1.block _ (by simp)).trans r1; have hsv : StVal w1 (.agg (stCells s fv ev av).toArray) s := ⟨fv, ev, av, rfl, hm, frames_of_own hwf hfr, ints_of_own hev, ints_of_own hav⟩; have hcc := hsv.cells; obtain ⟨cs1, ecs, hsi, hold, hone⟩ := hcc; obtain rfl := Value.agg.inj ecs)
    | (refine wpList_store_row rfl _ _ _ rfl _ _ rfl rfl _ _ z1 hsi hold hone ?_))
  refine bodyPost_ret (results_cell_row rfl _ _ (w.heap.size + 1) 44 (stCells s fv ev av).toArray (0, 0) _ rfl (setRow_heap _ _ _ _ _ _ z1) Tryd.underlying44 rfl hsi) rfl ⟨_, rfl, ?_, below_setRow ((hbx _ _).trans (hb1.mono (by simp; omega))) (by omega) _⟩
  exact ⟨fv, ev, av, rfl, hm, frames_of_own hwf (ownsRow_setRow hfr (by simp) _), ints_of_own (ownsRow_setRow hev (by simp) _), ints_of_own (ownsRow_setRow hav (by simp) _)⟩

set_option maxRecDepth 100000 in
set_option maxHeartbeats 4000000 in
theorem stepChecks_walk (p : List Fn) (v sv : Value) (s : St) (w : World) (ht : TabOk w) (hc : CallOk w) (hv : ProgVal w v p) (hst : StVal w sv s) (hs : p.length * 40 ≤ 140737488355328) (hs' : ∀ f ∈ p, f.code.length * 40 ≤ 140737488355328) (h1 : s.frames.length * 112 ≤ 140737488351232) (h2 : s.events.length * 8 ≤ 140737488351232) (h3 : s.answers.length * 8 ≤ 140737488351232) :
    Calls Tryd.prog 6 #[.agg #[v], sv] w fun e w' => e = .returned (.bool true) ∧ Below w.heap.size w w' := by
  obtain ⟨ao, n0, cap0, rfl⟩ := hv.shape
  obtain ⟨cs, rfl, c1, c2, c3⟩ := hst.cells
  have hbx : ∀ o o', Below w.heap.size w ((w.alloc o).alloc o') := fun o o' => ((Below.refl _ _).alloc (Nat.le_refl _) _).alloc (by simp) _
  have HB0 : Hid (Below w.heap.size w ((w.alloc (.cells #[.slice ao n0 cap0] 24)).alloc (.cells cs 44))) := hbx _ _
  have kp : ((w.alloc (.cells #[.slice ao n0 cap0] 24)).alloc (.cells cs 44)).cell? ⟨w.heap.size, 0, none⟩ = some (.slice ao n0 cap0) := by rw [cell_of_row _ _ _ _ _ _ (heap_alloc2_old _ _ _)]; rfl
  have rs : ((w.alloc (.cells #[.slice ao n0 cap0] 24)).alloc (.cells cs 44)).heap[w.heap.size + 1]? = some (.cells cs 44 (0, 0)) := heap_alloc2_new _ _ _
  have HV : Hid (∀ W, Below w.heap.size w W → ProgVal W (.slice ao n0 cap0) p ∧ StVal W (.agg cs) s ∧ TabOk W ∧ CallOk W) := fun W hW => ⟨hv.keeps (keeps_below hW), hst.keeps (keeps_below hW), ht.below hW, hc.below hW⟩
  have HSZ : Hid (p.length * 40 ≤ 140737488355328 ∧ ∀ f ∈ p, f.code.length * 40 ≤ 140737488355328) := ⟨hs, hs'⟩
  have HSS : Hid (s.frames.length * 112 ≤ 140737488351232 ∧ s.events.length * 8 ≤ 140737488351232 ∧ s.answers.length * 8 ≤ 140737488351232) := ⟨h1, h2, h3⟩
  clear hv hst ht hc hs hs' h1 h2 h3 hbx
  go_enter Tryd.func6, Tryd.ntmps6
  go_upto_region 1 with fail
  generalize ((w.alloc (.cells #[.slice ao n0 cap0] 24)).alloc (.cells cs 44)) = W0 at *
  have HTC : Hid (∀ W, Below W0.heap.size W0 W → TabOk W ∧ CallOk W) := fun W hW => (HV.out W (HB0.out.trans (hW.mono HB0.out.size))).2.2
  have HPG : Hid (∀ W, Below W0.heap.size W0 W → Calls Tryd.prog 11 #[.agg #[.slice ao n0 cap0]] W _) := fun W hW => programs_any p (.slice ao n0 cap0) W (HV.out W (HB0.out.trans (hW.mono HB0.out.size))).1 HSZ.out.1 HSZ.out.2
  have HSG : Hid (∀ W, Below W0.heap.size W0 W → Calls Tryd.prog 23 #[.agg cs] W _) := fun W hW => states_any s (.agg cs) W (HV.out W (HB0.out.trans (hW.mono HB0.out.size))).2.1 HSS.out.1 HSS.out.2.1 HSS.out.2.2
  go_cut [5] from 7 to 11 (fun a wx => ∃ E, ProofAns p E ∧ a = .int .i64 (checkE E p s) ∧ Below W0.heap.size W0 wx)
  case first =>
    refine wp_region_held_drew (S := fun W => Below W0.heap.size W0 W) (by kernel_rfl) ((Below.refl _ _).drew) (fun hHeld => ?_)
    show wpAnyH _ _ _ _ _ 6 _ _ _
    refine wpAnyH_take (i := 0) (v := ?_) rfl (by kernel_rfl) (by kernel_rfl) (by kernel_rfl) (fun _ _ _ h => h) (Or.inl ⟨by rfl, ?_⟩) (by assumption) ?_
    rotate_left
    · (intro W hSW; have z0 := keeps_below hSW _ _ kp; go_simp; try (with_reducible rfl))
    (try simp only [Act.put, List.setIfInBounds_toArray])
    refine wpAnyH_take (i := 2) (v := .agg cs.toList.toArray) rfl (by kernel_rfl) (by kernel_rfl) (by kernel_rfl) (fun _ _ _ h => h) (yieldsIf_load_mid (by rfl) 44 _ rfl _ 0 rfl cs.toList _ (fun W hSW j u hu => by rw [cell_of_row _ _ _ _ _ _ ((hSW.block _ (lt_of_block rs)).trans rs)]; simpa using hu) Tryd.underlying44 rfl (by simpa using c1)) (by assumption) ?_
    simp only [Array.toArray_toList]
    (try simp only [List.getElem_toArray, List.getElem_cons_succ, List.getElem_cons_zero, List.set_cons_zero, List.set_cons_succ])
    (try simp only [Act.put, List.setIfInBounds_toArray, List.set_cons_zero, List.set_cons_succ])
    refine wpAnyH_ready (rs := [1]) (by kernel_rfl) (by simp) ?_
    refine AllReadyH.cons rfl (fun K hK => ?_) AllReadyH.nil
    go_simp
    go_at_call 11
    refine (HPG.out _ hHeld).mono ?_
    rintro e wa ⟨vp, rfl, hvp, hbp⟩
    obtain ⟨ap, np, cp, rfl⟩ := hvp.shape
    have hb_wa : Below W0.heap.size W0 wa := Below.trans hHeld (hbp.mono (Below.size hHeld))
    have HVP : Hid (∀ W, Below wa.heap.size wa W → ProgVal W (.slice ap np cp) p) := fun W hW => hvp.keeps (keeps_below hW)
    dsimp only
    refine hK.out _ _ hb_wa (fun _ => ?_)
    clear hK K
    (try simp only [Act.put, List.setIfInBounds_toArray, List.set_cons_zero, List.set_cons_succ])
    refine wpAnyH_ready (rs := [3]) (by kernel_rfl) (by simp) ?_
    refine AllReadyH.cons rfl (fun K hK => ?_) AllReadyH.nil
    go_simp
    go_at_call 23
    refine (HSG.out _ hb_wa).mono ?_
    rintro e wb ⟨vs, rfl, hvs, hbs⟩
    have hb_wb : Below W0.heap.size W0 wb := Below.trans hb_wa (hbs.mono (Below.size hb_wa))
    have HVS : Hid (∀ W, Below wb.heap.size wb W → StVal W vs s) := fun W hW => hvs.keeps (keeps_below hW)
    dsimp only
    refine hK.out _ _ hb_wb (fun _ => ?_)
    clear hK K
    (try simp only [Act.put, List.setIfInBounds_toArray, List.set_cons_zero, List.set_cons_succ])
    refine wpAnyH_ready (rs := [4]) (by kernel_rfl) (by simp) ?_
    refine AllReadyH.cons rfl (fun K hK => ?_) AllReadyH.nil
    go_simp
    go_at_call 22
    refine (stepCheck_any p _ _ s _ (HTC.out _ hb_wb).1 (HTC.out _ hb_wb).2 (HVP.out _ hbs) (HVS.out _ (Below.refl _ _))).mono ?_
    rintro e wz ⟨E, hE, rfl, hbz⟩
    have hb_z : Below W0.heap.size W0 wz := hb_wb.trans (hbz.mono hb_wb.size)
    dsimp only
    refine hK.out _ _ hb_z (fun _ => ?_)
    clear hK K
    (try simp only [Act.put, List.setIfInBounds_toArray, List.set_cons_zero, List.set_cons_succ])
    refine wpAnyH_ready (rs := [5]) (by kernel_rfl) (by simp) ?_
    refine AllReadyH.cons rfl (fun K hK => ?_) AllReadyH.nil
    go_simp
    refine hK.out _ _ hb_z (fun _ => ?_)
    clear hK K
    (try simp only [Act.put, List.setIfInBounds_toArray, List.set_cons_zero, List.set_cons_succ])
    refine wpAnyH_done (by kernel_rfl) ?_ _
    go_wp2_with fail
    go_meet
    exact ⟨E, hE, rfl, hb_z⟩
  case rest =>
    obtain ⟨E, hE, rfl, hbc⟩ := hcut
    have HBC : Hid (Below w.heap.size w wc) := HB0.out.trans (hbc.mono HB0.out.size)
    have kp2 := keeps_below hbc _ _ kp
    have rs2 := (hbc.block _ (lt_of_block rs)).trans rs
    have HSF : Hid (Calls Tryd.prog 24 #[.agg #[.slice ao n0 cap0], .agg cs] wc fun e w' => e = .returned (.int .i64 (checkE E p s)) ∧ Below wc.heap.size wc w') := (stateFault_any p _ _ s wc (HV.out wc HBC.out).1 (HV.out wc HBC.out).2.1).mono (by rintro e w' ⟨E', hE', rfl, hb⟩; obtain rfl := proofAns_unique hE hE'; exact ⟨rfl, hb⟩)
    clear hE kp rs hbc HPG HSG
    generalize checkE E p s = ce at *
    go_wp2_with (first
      | (refine wpList_load_row rfl _ _ rfl _ rfl _ _ _ _ rs2 Tryd.underlying44 rfl c1 ?_)
      | (go_at_call 24; refine HSF.out.mono ?_; rintro e wz ⟨rfl, hbz⟩))
    go_ret
    exact ⟨rfl, HBC.out.trans (hbz.mono HBC.out.size)⟩
end Go.Proofs.YteilohamjijpbaaDoor
