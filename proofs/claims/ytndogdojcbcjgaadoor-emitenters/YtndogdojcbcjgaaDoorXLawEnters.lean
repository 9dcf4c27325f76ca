/- The walk of tierlinelaw.EmitEnters: at every program and state it says true, and nothing that was there has turned (written by gen/mkenters.py). -/
import Derived.Test.YtndogdojcbcjgaaDoorXEmitEnter
import Derived.Test.YtndogdojcbcjgaaDoorXCheckNum
import Derived.Test.YtndogdojcbcjgaaDoorXLawSChecks
import Derived.Test.YtndogdojcbcjgaaDoorGroupX
namespace Go.Proofs.YtndogdojcbcjgaaDoor
open Go Go.RowKit

set_option maxRecDepth 100000 in
set_option maxHeartbeats 8000000 in
theorem emitEnters_walk (p : List Fn) (v sv : Value) (s : St) (w : World) (ht : TabOk w) (hc : CallOk w) (hv : ProgVal w v p) (hst : StVal w sv s) (hs : p.length * 40 ≤ 140737488355328) (hs' : ∀ f ∈ p, f.code.length * 40 ≤ 140737488355328) (h1 : s.frames.length * 112 ≤ 140737488351232) (h2 : s.events.length * 8 ≤ 140737488351232) (h3 : s.answers.length * 8 ≤ 140737488351232) :
    Calls Tryd.prog 3 #[.agg #[v], sv] w fun e w' => e = .returned (.bool true) ∧ Below w.heap.size w w' := by
  obtain ⟨c, hE, hc0⟩ := check_num p s
  have HOK : Hid ((entA c s).Ok) := entA_ok hst (fun h => (hc0 h).2.1)
  obtain ⟨ao, n0, cap0, rfl⟩ := hv.shape
  obtain ⟨cs, rfl, c1, c2, c3⟩ := hst.cells
  have HB0 : Hid (Below w.heap.size w ((w.alloc (.cells #[.slice ao n0 cap0] 24)).alloc (.cells cs 29))) := ((Below.refl _ _).alloc (Nat.le_refl _) _).alloc (by simp) _
  have kp : ((w.alloc (.cells #[.slice ao n0 cap0] 24)).alloc (.cells cs 29)).cell? ⟨w.heap.size, 0, none⟩ = some (.slice ao n0 cap0) := by rw [cell_of_row _ _ _ _ _ _ (heap_alloc2_old _ _ _)]; rfl
  have rs : ((w.alloc (.cells #[.slice ao n0 cap0] 24)).alloc (.cells cs 29)).heap[w.heap.size + 1]? = some (.cells cs 29 (0, 0)) := heap_alloc2_new _ _ _
  have HV : Hid (∀ W, Below w.heap.size w W → ProgVal W (.slice ao n0 cap0) p ∧ StVal W (.agg cs) s ∧ TabOk W ∧ CallOk W) := fun W hW => ⟨hv.keeps (keeps_below hW), hst.keeps (keeps_below hW), ht.below hW, hc.below hW⟩
  have HPG : Hid (∀ W, Below w.heap.size w W → Calls Tryd.prog 14 #[.agg #[.slice ao n0 cap0]] W _) := fun W hW => programs_any p (.slice ao n0 cap0) W (HV.out W hW).1 hs hs'
  have HSG : Hid (∀ W, Below w.heap.size w W → Calls Tryd.prog 15 #[.agg cs] W _) := fun W hW => states_any s (.agg cs) W (HV.out W hW).2.1 h1 h2 h3
  have HNX : Hid (∀ W vp vs, Below w.heap.size w W → ProgVal W vp p → StVal W vs s → Calls Tryd.prog 13 #[.agg #[vp], vs] W fun e w' => e = .returned (.tuple #[(entA c s).val, .int .i64 (runE c s)]) ∧ Below W.heap.size W w') := fun W vp vs hW hp hvs => enter_all p vp vs s c W (HV.out W hW).2.2.1 (HV.out W hW).2.2.2 hp hvs hE hc0 h2
  have HND : Hid (∀ W, Below w.heap.size w W → Calls Tryd.prog 16 #[.agg #[.slice ao n0 cap0], .agg cs] W fun e w' => e = .returned (.tuple #[(entA c s).val, .int .i64 (runE c s)]) ∧ Below W.heap.size W w') := fun W hW => entered_all p _ _ s c W (HV.out W hW).1 (HV.out W hW).2.1 hE hc0
  unfold Cp.val at HNX HND
  have i0 : (Tryd.prog.info? 33).map (·.size) = some (cpuCells (entA c s)).toArray.size := infoCpC HOK.out
  have o0 := cp_one (entA c s)
  have hl0 : Tryd.zeroCells33.size = (cpuCells (entA c s)).toArray.size := by rw [zc_cp, List.size_toArray, cp_len HOK.out]
  have heq := equal_cp (entA c s) HOK.out
  generalize cpuCells (entA c s) = CC at *
  generalize runE c s = R at *
  clear hv hst ht hc hs hs' h1 h2 h3 hE hc0
  go_enter Tryd.func3, Tryd.ntmps3
  go_upto_region 1 with fail
  generalize ((w.alloc (.cells #[.slice ao n0 cap0] 24)).alloc (.cells cs 29)) = W0 at *
  have hzs : w.heap.size + 1 < W0.heap.size := lt_of_block rs
  (try simp only [Act.put])
  go_cut [5, 6] from 9 to 16 (fun t e wx => ∃ (Gx : Nat), t = .pointer (some ⟨Gx, 0, none⟩) ∧ e = .int .i64 R ∧ wx.heap[Gx]? = some (.cells CC.toArray 33 (0, 0)) ∧ Below W0.heap.size W0 wx)
  case first =>
    refine wp_region_held_drew (S := fun W => Below W0.heap.size W0 W) (by kernel_rfl) ((Below.refl _ _).drew) (fun hHeld => ?_)
    show wpAnyH _ _ _ _ _ 11 _ _ _
    refine wpAnyH_take (i := 0) (v := ?_) rfl (by kernel_rfl) (by kernel_rfl) (by kernel_rfl) (fun _ _ _ h => h) (Or.inl ⟨by rfl, ?_⟩) (by assumption) ?_
    rotate_left
    · (intro W hSW; have zz := keeps_below hSW _ _ kp; go_simp; try (with_reducible rfl))
    (try simp only [List.getElem_toArray, List.getElem_cons_zero])
    (try simp only [Act.put, List.setIfInBounds_toArray, List.set_cons_zero, List.set_cons_succ])
    refine wpAnyH_take (i := 2) (v := .agg cs.toList.toArray) rfl (by kernel_rfl) (by kernel_rfl) (by kernel_rfl) (fun _ _ _ h => h) (yieldsIf_load_mid (by rfl) 29 _ rfl _ 0 rfl cs.toList _ (fun W hSW j u hu => by rw [cell_of_row _ _ _ _ _ _ ((hSW.block _ hzs).trans rs)]; simpa using hu) Tryd.underlying29 rfl (by simpa using c1)) (by assumption) ?_
    simp only [Array.toArray_toList]
    (try simp only [List.getElem_toArray, List.getElem_cons_succ, List.getElem_cons_zero])
    (try simp only [Act.put, List.setIfInBounds_toArray, List.set_cons_zero, List.set_cons_succ])
    refine wpAnyH_ready (rs := [1, 8]) (by kernel_rfl) (by simp) ?_
    refine AllReadyH.cons rfl (fun K hK => ?_) (AllReadyH.cons rfl (fun K hK => ?_) AllReadyH.nil)
    · go_simp
      go_at_call 14
      refine (HPG.out _ (HB0.out.trans (Below.mono hHeld HB0.out.size))).mono ?_
      rintro e wp ⟨vp, rfl, hvp, hbp⟩
      obtain ⟨ap, np, cp, rfl⟩ := hvp.shape
      have HBp : Below W0.heap.size W0 wp := Below.trans hHeld (Below.mono hbp (Below.size hHeld))
      dsimp only
      refine hK.out _ _ HBp (fun _ => ?_)
      clear hK K
      (try simp only [Act.put, List.setIfInBounds_toArray, List.set_cons_zero, List.set_cons_succ])
      refine wpAnyH_ready (rs := [3, 8]) (by kernel_rfl) (by simp) ?_
      refine AllReadyH.cons rfl (fun K hK => ?_) (AllReadyH.cons rfl (fun K hK => ?_) AllReadyH.nil)
      · go_simp
        go_at_call 15
        refine (HSG.out _ (HB0.out.trans (Below.mono HBp HB0.out.size))).mono ?_
        rintro e ws ⟨vs, rfl, hvs, hbs⟩
        obtain ⟨ca, rfl, a1, a2, a3⟩ := hvs.cells
        have HBs : Below W0.heap.size W0 ws := Below.trans HBp (Below.mono hbs (Below.size HBp))
        dsimp only
        refine hK.out _ _ HBs (fun _ => ?_)
        clear hK K
        (try simp only [Act.put, List.setIfInBounds_toArray, List.set_cons_zero, List.set_cons_succ])
        have hvp := hvp.keeps (keeps_below hbs)
        refine wpAnyH_ready (rs := [4, 8]) (by kernel_rfl) (by simp) ?_
        refine AllReadyH.cons rfl (fun K hK => ?_) (AllReadyH.cons rfl (fun K hK => ?_) AllReadyH.nil)
        · go_simp
          go_at_call 13
          refine (HNX.out _ _ _ (HB0.out.trans (Below.mono HBs HB0.out.size)) hvp hvs).mono ?_
          rintro e wn ⟨rfl, hbn⟩
          have HBn : Below W0.heap.size W0 wn := Below.trans HBs (Below.mono hbn (Below.size HBs))
          dsimp only
          refine hK.out _ _ HBn (fun _ => ?_)
          clear hK K
          (try simp only [Act.put, List.setIfInBounds_toArray, List.set_cons_zero, List.set_cons_succ])
          have hvp := hvp.keeps (keeps_below hbn)
          have hvs := hvs.keeps (keeps_below hbn)
          refine wpAnyH_take (i := 5) (v := ?_) rfl (by kernel_rfl) (by kernel_rfl) (by kernel_rfl) (fun _ _ _ h => h) (Or.inl ⟨by rfl, ?_⟩) (by assumption) ?_
          rotate_left
          · (intro W hSW; go_simp; try (with_reducible rfl))
          (try simp only [List.getElem_toArray, List.getElem_cons_succ, List.getElem_cons_zero])
          (try simp only [Act.put, List.setIfInBounds_toArray, List.set_cons_zero, List.set_cons_succ])
          refine wpAnyH_take (i := 6) (v := ?_) rfl (by kernel_rfl) (by kernel_rfl) (by kernel_rfl) (fun _ _ _ h => h) (Or.inl ⟨by rfl, ?_⟩) (by assumption) ?_
          rotate_left
          · (intro W hSW; go_simp; try (with_reducible rfl))
          (try simp only [List.getElem_toArray, List.getElem_cons_succ, List.getElem_cons_zero])
          (try simp only [Act.put, List.setIfInBounds_toArray, List.set_cons_zero, List.set_cons_succ])
          refine wpAnyH_take (i := 7) (v := ?_) rfl (by kernel_rfl) (by kernel_rfl) (by kernel_rfl) (fun _ _ _ h => h) (Or.inl ⟨by rfl, ?_⟩) (by assumption) ?_
          rotate_left
          · (intro W hSW; go_simp; try (with_reducible rfl))
          (try simp only [List.getElem_toArray, List.getElem_cons_succ, List.getElem_cons_zero])
          (try simp only [Act.put, List.setIfInBounds_toArray, List.set_cons_zero, List.set_cons_succ])
          refine wpAnyH_ready (rs := [8]) (by kernel_rfl) (by simp) ?_
          refine AllReadyH.cons rfl (fun K hK => ?_) AllReadyH.nil
          go_simp
          have HBA3 : Below W0.heap.size W0 (wn.alloc (.cells Tryd.zeroCells33 33)) := Below.alloc HBn (Below.size HBn) _
          refine hK.out _ _ HBA3 (fun _ => ?_)
          clear hK K
          (try simp only [Act.put, List.setIfInBounds_toArray, List.set_cons_zero, List.set_cons_succ])
          have rowA : (wn.alloc (.cells Tryd.zeroCells33 33)).heap[wn.heap.size]? = some (.cells Tryd.zeroCells33 33 (0, 0)) := heap_alloc_last wn _
          have hvp := hvp.keeps (keeps_below ((Below.refl _ _).alloc (Nat.le_refl _) (.cells Tryd.zeroCells33 33)))
          have hvs := hvs.keeps (keeps_below ((Below.refl _ _).alloc (Nat.le_refl _) (.cells Tryd.zeroCells33 33)))
          refine wpAnyH_ready (rs := [9]) (by kernel_rfl) (by simp) ?_
          refine AllReadyH.cons rfl (fun K hK => ?_) AllReadyH.nil
          refine wp_store_row 33 _ _ rfl (wn.heap.size) CC.toArray rfl rfl 33 Tryd.zeroCells33 rowA i0 hl0 o0 ?_
          have BN : Below W0.heap.size W0 (World.setRow (wn.alloc (.cells Tryd.zeroCells33 33)) (wn.heap.size) CC.toArray) := belowSR HBA3 (Below.size HBn) _
          refine hK.out _ _ BN (fun _ => ?_)
          clear hK K
          (try simp only [Act.put, List.setIfInBounds_toArray])
          refine wpAnyH_ready (rs := [10]) (by kernel_rfl) (by simp) ?_
          refine AllReadyH.cons rfl (fun K hK => ?_) AllReadyH.nil
          go_simp
          refine hK.out _ _ BN (fun _ => ?_)
          clear hK K
          (try simp only [Act.put, List.setIfInBounds_toArray, List.set_cons_zero, List.set_cons_succ])
          refine wpAnyH_done (by kernel_rfl) ?_ _
          go_wp2_with fail
          go_meet
          exact ⟨_, rfl, rfl, setRow_heap _ _ _ _ _ _ rowA, BN⟩
        · go_simp
          have HBA2 : Below W0.heap.size W0 (ws.alloc (.cells Tryd.zeroCells33 33)) := Below.alloc HBs (Below.size HBs) _
          refine hK.out _ _ HBA2 (fun _ => ?_)
          clear hK K
          (try simp only [Act.put, List.setIfInBounds_toArray, List.set_cons_zero, List.set_cons_succ])
          have rowA : (ws.alloc (.cells Tryd.zeroCells33 33)).heap[ws.heap.size]? = some (.cells Tryd.zeroCells33 33 (0, 0)) := heap_alloc_last ws _
          have hvp := hvp.keeps (keeps_below ((Below.refl _ _).alloc (Nat.le_refl _) (.cells Tryd.zeroCells33 33)))
          have hvs := hvs.keeps (keeps_below ((Below.refl _ _).alloc (Nat.le_refl _) (.cells Tryd.zeroCells33 33)))
          refine wpAnyH_ready (rs := [4]) (by kernel_rfl) (by simp) ?_
          refine AllReadyH.cons rfl (fun K hK => ?_) AllReadyH.nil
          go_simp
          go_at_call 13
          refine (HNX.out _ _ _ (HB0.out.trans (Below.mono HBA2 HB0.out.size)) hvp hvs).mono ?_
          rintro e wn ⟨rfl, hbn⟩
          have HBn : Below W0.heap.size W0 wn := Below.trans HBA2 (Below.mono hbn (Below.size HBA2))
          dsimp only
          refine hK.out _ _ HBn (fun _ => ?_)
          clear hK K
          (try simp only [Act.put, List.setIfInBounds_toArray, List.set_cons_zero, List.set_cons_succ])
          have hvp := hvp.keeps (keeps_below hbn)
          have hvs := hvs.keeps (keeps_below hbn)
          have rowB2 : wn.heap[ws.heap.size]? = some (.cells Tryd.zeroCells33 33 (0, 0)) := (Below.block hbn _ (lt_of_block rowA)).trans rowA
          refine wpAnyH_take (i := 5) (v := ?_) rfl (by kernel_rfl) (by kernel_rfl) (by kernel_rfl) (fun _ _ _ h => h) (Or.inl ⟨by rfl, ?_⟩) (by assumption) ?_
          rotate_left
          · (intro W hSW; go_simp; try (with_reducible rfl))
          (try simp only [List.getElem_toArray, List.getElem_cons_succ, List.getElem_cons_zero])
          (try simp only [Act.put, List.setIfInBounds_toArray, List.set_cons_zero, List.set_cons_succ])
          refine wpAnyH_take (i := 6) (v := ?_) rfl (by kernel_rfl) (by kernel_rfl) (by kernel_rfl) (fun _ _ _ h => h) (Or.inl ⟨by rfl, ?_⟩) (by assumption) ?_
          rotate_left
          · (intro W hSW; go_simp; try (with_reducible rfl))
          (try simp only [List.getElem_toArray, List.getElem_cons_succ, List.getElem_cons_zero])
          (try simp only [Act.put, List.setIfInBounds_toArray, List.set_cons_zero, List.set_cons_succ])
          refine wpAnyH_take (i := 7) (v := ?_) rfl (by kernel_rfl) (by kernel_rfl) (by kernel_rfl) (fun _ _ _ h => h) (Or.inl ⟨by rfl, ?_⟩) (by assumption) ?_
          rotate_left
          · (intro W hSW; go_simp; try (with_reducible rfl))
          (try simp only [List.getElem_toArray, List.getElem_cons_succ, List.getElem_cons_zero])
          (try simp only [Act.put, List.setIfInBounds_toArray, List.set_cons_zero, List.set_cons_succ])
          refine wpAnyH_ready (rs := [9]) (by kernel_rfl) (by simp) ?_
          refine AllReadyH.cons rfl (fun K hK => ?_) AllReadyH.nil
          refine wp_store_row 33 _ _ rfl (ws.heap.size) CC.toArray rfl rfl 33 Tryd.zeroCells33 rowB2 i0 hl0 o0 ?_
          have BN : Below W0.heap.size W0 (World.setRow wn (ws.heap.size) CC.toArray) := belowSR HBn (Below.size HBs) _
          refine hK.out _ _ BN (fun _ => ?_)
          clear hK K
          (try simp only [Act.put, List.setIfInBounds_toArray])
          refine wpAnyH_ready (rs := [10]) (by kernel_rfl) (by simp) ?_
          refine AllReadyH.cons rfl (fun K hK => ?_) AllReadyH.nil
          go_simp
          refine hK.out _ _ BN (fun _ => ?_)
          clear hK K
          (try simp only [Act.put, List.setIfInBounds_toArray, List.set_cons_zero, List.set_cons_succ])
          refine wpAnyH_done (by kernel_rfl) ?_ _
          go_wp2_with fail
          go_meet
          exact ⟨_, rfl, rfl, setRow_heap _ _ _ _ _ _ rowB2, BN⟩
      · go_simp
        have HBA1 : Below W0.heap.size W0 (wp.alloc (.cells Tryd.zeroCells33 33)) := Below.alloc HBp (Below.size HBp) _
        refine hK.out _ _ HBA1 (fun _ => ?_)
        clear hK K
        (try simp only [Act.put, List.setIfInBounds_toArray, List.set_cons_zero, List.set_cons_succ])
        have rowA : (wp.alloc (.cells Tryd.zeroCells33 33)).heap[wp.heap.size]? = some (.cells Tryd.zeroCells33 33 (0, 0)) := heap_alloc_last wp _
        have hvp := hvp.keeps (keeps_below ((Below.refl _ _).alloc (Nat.le_refl _) (.cells Tryd.zeroCells33 33)))
        refine wpAnyH_ready (rs := [3]) (by kernel_rfl) (by simp) ?_
        refine AllReadyH.cons rfl (fun K hK => ?_) AllReadyH.nil
        go_simp
        go_at_call 15
        refine (HSG.out _ (HB0.out.trans (Below.mono HBA1 HB0.out.size))).mono ?_
        rintro e ws ⟨vs, rfl, hvs, hbs⟩
        obtain ⟨ca, rfl, a1, a2, a3⟩ := hvs.cells
        have HBs : Below W0.heap.size W0 ws := Below.trans HBA1 (Below.mono hbs (Below.size HBA1))
        dsimp only
        refine hK.out _ _ HBs (fun _ => ?_)
        clear hK K
        (try simp only [Act.put, List.setIfInBounds_toArray, List.set_cons_zero, List.set_cons_succ])
        have hvp := hvp.keeps (keeps_below hbs)
        have rowB1 : ws.heap[wp.heap.size]? = some (.cells Tryd.zeroCells33 33 (0, 0)) := (Below.block hbs _ (lt_of_block rowA)).trans rowA
        refine wpAnyH_ready (rs := [4]) (by kernel_rfl) (by simp) ?_
        refine AllReadyH.cons rfl (fun K hK => ?_) AllReadyH.nil
        go_simp
        go_at_call 13
        refine (HNX.out _ _ _ (HB0.out.trans (Below.mono HBs HB0.out.size)) hvp hvs).mono ?_
        rintro e wn ⟨rfl, hbn⟩
        have HBn : Below W0.heap.size W0 wn := Below.trans HBs (Below.mono hbn (Below.size HBs))
        dsimp only
        refine hK.out _ _ HBn (fun _ => ?_)
        clear hK K
        (try simp only [Act.put, List.setIfInBounds_toArray, List.set_cons_zero, List.set_cons_succ])
        have hvp := hvp.keeps (keeps_below hbn)
        have hvs := hvs.keeps (keeps_below hbn)
        have rowB2 : wn.heap[wp.heap.size]? = some (.cells Tryd.zeroCells33 33 (0, 0)) := (Below.block hbn _ (lt_of_block rowB1)).trans rowB1
        refine wpAnyH_take (i := 5) (v := ?_) rfl (by kernel_rfl) (by kernel_rfl) (by kernel_rfl) (fun _ _ _ h => h) (Or.inl ⟨by rfl, ?_⟩) (by assumption) ?_
        rotate_left
        · (intro W hSW; go_simp; try (with_reducible rfl))
        (try simp only [List.getElem_toArray, List.getElem_cons_succ, List.getElem_cons_zero])
        (try simp only [Act.put, List.setIfInBounds_toArray, List.set_cons_zero, List.set_cons_succ])
        refine wpAnyH_take (i := 6) (v := ?_) rfl (by kernel_rfl) (by kernel_rfl) (by kernel_rfl) (fun _ _ _ h => h) (Or.inl ⟨by rfl, ?_⟩) (by assumption) ?_
        rotate_left
        · (intro W hSW; go_simp; try (with_reducible rfl))
        (try simp only [List.getElem_toArray, List.getElem_cons_succ, List.getElem_cons_zero])
        (try simp only [Act.put, List.setIfInBounds_toArray, List.set_cons_zero, List.set_cons_succ])
        refine wpAnyH_take (i := 7) (v := ?_) rfl (by kernel_rfl) (by kernel_rfl) (by kernel_rfl) (fun _ _ _ h => h) (Or.inl ⟨by rfl, ?_⟩) (by assumption) ?_
        rotate_left
        · (intro W hSW; go_simp; try (with_reducible rfl))
        (try simp only [List.getElem_toArray, List.getElem_cons_succ, List.getElem_cons_zero])
        (try simp only [Act.put, List.setIfInBounds_toArray, List.set_cons_zero, List.set_cons_succ])
        refine wpAnyH_ready (rs := [9]) (by kernel_rfl) (by simp) ?_
        refine AllReadyH.cons rfl (fun K hK => ?_) AllReadyH.nil
        refine wp_store_row 33 _ _ rfl (wp.heap.size) CC.toArray rfl rfl 33 Tryd.zeroCells33 rowB2 i0 hl0 o0 ?_
        have BN : Below W0.heap.size W0 (World.setRow wn (wp.heap.size) CC.toArray) := belowSR HBn (Below.size HBp) _
        refine hK.out _ _ BN (fun _ => ?_)
        clear hK K
        (try simp only [Act.put, List.setIfInBounds_toArray])
        refine wpAnyH_ready (rs := [10]) (by kernel_rfl) (by simp) ?_
        refine AllReadyH.cons rfl (fun K hK => ?_) AllReadyH.nil
        go_simp
        refine hK.out _ _ BN (fun _ => ?_)
        clear hK K
        (try simp only [Act.put, List.setIfInBounds_toArray, List.set_cons_zero, List.set_cons_succ])
        refine wpAnyH_done (by kernel_rfl) ?_ _
        go_wp2_with fail
        go_meet
        exact ⟨_, rfl, rfl, setRow_heap _ _ _ _ _ _ rowB2, BN⟩
    · go_simp
      have HBA0 : Below W0.heap.size W0 (W0.drew.alloc (.cells Tryd.zeroCells33 33)) := Below.alloc hHeld (Below.size hHeld) _
      refine hK.out _ _ HBA0 (fun _ => ?_)
      clear hK K
      (try simp only [Act.put, List.setIfInBounds_toArray, List.set_cons_zero, List.set_cons_succ])
      have rowA : (W0.drew.alloc (.cells Tryd.zeroCells33 33)).heap[W0.drew.heap.size]? = some (.cells Tryd.zeroCells33 33 (0, 0)) := heap_alloc_last W0.drew _
      refine wpAnyH_ready (rs := [1]) (by kernel_rfl) (by simp) ?_
      refine AllReadyH.cons rfl (fun K hK => ?_) AllReadyH.nil
      go_simp
      go_at_call 14
      refine (HPG.out _ (HB0.out.trans (Below.mono HBA0 HB0.out.size))).mono ?_
      rintro e wp ⟨vp, rfl, hvp, hbp⟩
      obtain ⟨ap, np, cp, rfl⟩ := hvp.shape
      have HBp : Below W0.heap.size W0 wp := Below.trans HBA0 (Below.mono hbp (Below.size HBA0))
      dsimp only
      refine hK.out _ _ HBp (fun _ => ?_)
      clear hK K
      (try simp only [Act.put, List.setIfInBounds_toArray, List.set_cons_zero, List.set_cons_succ])
      have rowB0 : wp.heap[W0.drew.heap.size]? = some (.cells Tryd.zeroCells33 33 (0, 0)) := (Below.block hbp _ (lt_of_block rowA)).trans rowA
      refine wpAnyH_ready (rs := [3]) (by kernel_rfl) (by simp) ?_
      refine AllReadyH.cons rfl (fun K hK => ?_) AllReadyH.nil
      go_simp
      go_at_call 15
      refine (HSG.out _ (HB0.out.trans (Below.mono HBp HB0.out.size))).mono ?_
      rintro e ws ⟨vs, rfl, hvs, hbs⟩
      obtain ⟨ca, rfl, a1, a2, a3⟩ := hvs.cells
      have HBs : Below W0.heap.size W0 ws := Below.trans HBp (Below.mono hbs (Below.size HBp))
      dsimp only
      refine hK.out _ _ HBs (fun _ => ?_)
      clear hK K
      (try simp only [Act.put, List.setIfInBounds_toArray, List.set_cons_zero, List.set_cons_succ])
      have hvp := hvp.keeps (keeps_below hbs)
      have rowB1 : ws.heap[W0.drew.heap.size]? = some (.cells Tryd.zeroCells33 33 (0, 0)) := (Below.block hbs _ (lt_of_block rowB0)).trans rowB0
      refine wpAnyH_ready (rs := [4]) (by kernel_rfl) (by simp) ?_
      refine AllReadyH.cons rfl (fun K hK => ?_) AllReadyH.nil
      go_simp
      go_at_call 13
      refine (HNX.out _ _ _ (HB0.out.trans (Below.mono HBs HB0.out.size)) hvp hvs).mono ?_
      rintro e wn ⟨rfl, hbn⟩
      have HBn : Below W0.heap.size W0 wn := Below.trans HBs (Below.mono hbn (Below.size HBs))
      dsimp only
      refine hK.out _ _ HBn (fun _ => ?_)
      clear hK K
      (try simp only [Act.put, List.setIfInBounds_toArray, List.set_cons_zero, List.set_cons_succ])
      have hvp := hvp.keeps (keeps_below hbn)
      have hvs := hvs.keeps (keeps_below hbn)
      have rowB2 : wn.heap[W0.drew.heap.size]? = some (.cells Tryd.zeroCells33 33 (0, 0)) := (Below.block hbn _ (lt_of_block rowB1)).trans rowB1
      refine wpAnyH_take (i := 5) (v := ?_) rfl (by kernel_rfl) (by kernel_rfl) (by kernel_rfl) (fun _ _ _ h => h) (Or.inl ⟨by rfl, ?_⟩) (by assumption) ?_
      rotate_left
      · (intro W hSW; go_simp; try (with_reducible rfl))
      (try simp only [List.getElem_toArray, List.getElem_cons_succ, List.getElem_cons_zero])
      (try simp only [Act.put, List.setIfInBounds_toArray, List.set_cons_zero, List.set_cons_succ])
      refine wpAnyH_take (i := 6) (v := ?_) rfl (by kernel_rfl) (by kernel_rfl) (by kernel_rfl) (fun _ _ _ h => h) (Or.inl ⟨by rfl, ?_⟩) (by assumption) ?_
      rotate_left
      · (intro W hSW; go_simp; try (with_reducible rfl))
      (try simp only [List.getElem_toArray, List.getElem_cons_succ, List.getElem_cons_zero])
      (try simp only [Act.put, List.setIfInBounds_toArray, List.set_cons_zero, List.set_cons_succ])
      refine wpAnyH_take (i := 7) (v := ?_) rfl (by kernel_rfl) (by kernel_rfl) (by kernel_rfl) (fun _ _ _ h => h) (Or.inl ⟨by rfl, ?_⟩) (by assumption) ?_
      rotate_left
      · (intro W hSW; go_simp; try (with_reducible rfl))
      (try simp only [List.getElem_toArray, List.getElem_cons_succ, List.getElem_cons_zero])
      (try simp only [Act.put, List.setIfInBounds_toArray, List.set_cons_zero, List.set_cons_succ])
      refine wpAnyH_ready (rs := [9]) (by kernel_rfl) (by simp) ?_
      refine AllReadyH.cons rfl (fun K hK => ?_) AllReadyH.nil
      refine wp_store_row 33 _ _ rfl (W0.drew.heap.size) CC.toArray rfl rfl 33 Tryd.zeroCells33 rowB2 i0 hl0 o0 ?_
      have BN : Below W0.heap.size W0 (World.setRow wn (W0.drew.heap.size) CC.toArray) := belowSR HBn (Below.size hHeld) _
      refine hK.out _ _ BN (fun _ => ?_)
      clear hK K
      (try simp only [Act.put, List.setIfInBounds_toArray])
      refine wpAnyH_ready (rs := [10]) (by kernel_rfl) (by simp) ?_
      refine AllReadyH.cons rfl (fun K hK => ?_) AllReadyH.nil
      go_simp
      refine hK.out _ _ BN (fun _ => ?_)
      clear hK K
      (try simp only [Act.put, List.setIfInBounds_toArray, List.set_cons_zero, List.set_cons_succ])
      refine wpAnyH_done (by kernel_rfl) ?_ _
      go_wp2_with fail
      go_meet
      exact ⟨_, rfl, rfl, setRow_heap _ _ _ _ _ _ rowB2, BN⟩
  case rest =>
    obtain ⟨Gx, rfl, rfl, rowG, hbc⟩ := hcut
    have HBW : Hid (Below w.heap.size w wc) := HB0.out.trans (hbc.mono HB0.out.size)
    have kp2 := keeps_below hbc _ _ kp
    have rs2 := (hbc.block _ (lt_of_block rs)).trans rs
    clear hbc kp rs HNX HPG HSG
    go_wp2_with (first
      | (refine wpList_load_row rfl 29 (.tmp 3) rfl _ rfl _ _ _ _ rs2 Tryd.underlying29 rfl c1 ?_)
      | (go_at_call 16; refine (HND.out _ HBW.out).mono ?_; rintro e wz ⟨rfl, hbz⟩; have HA3 : Hid (Below wc.heap.size wc (wz.alloc (.cells CC.toArray 33))) := hbz.alloc hbz.size _; have rG3 := (HA3.out.block _ (lt_of_block rowG)).trans rowG; have rz3 : (wz.alloc (.cells CC.toArray 33)).heap[wz.heap.size]? = some (.cells CC.toArray 33 (0, 0)) := heap_alloc_last wz _; clear hbz)
      | (refine wpList_store_row rfl _ _ _ rfl _ CC.toArray rfl rfl _ _ (heap_alloc_last wz _) i0 hl0 o0 ?_; rw [World.setRow_alloc_new])
      | (refine wpList_load_row rfl 33 (.tmp 5) rfl _ rfl _ _ _ _ rG3 Tryd.underlying33 rfl i0 ?_)
      | (refine wpList_load_row rfl 33 (.tmp 7) rfl _ rfl _ _ _ _ rz3 Tryd.underlying33 rfl i0 ?_))
    go_ret
    exact ⟨rfl, HBW.out.trans (HA3.out.mono HBW.out.size)⟩
end Go.Proofs.YtndogdojcbcjgaaDoor
