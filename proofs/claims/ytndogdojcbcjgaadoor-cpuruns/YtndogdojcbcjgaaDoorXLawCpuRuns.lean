/- The walk of tierlinelaw.CpuRuns: at all words and every machine it says true, and nothing that was there has turned (written by gen/mkcpuruns.py). -/
import Derived.Test.YtndogdojcbcjgaaDoorXCpuRefRun
import Derived.Test.YtndogdojcbcjgaaDoorGroupU
import Derived.Test.YtndogdojcbcjgaaDoorGroupX
import Derived.Test.YtndogdojcbcjgaaDoorXIntsCopy
namespace Go.Proofs.YtndogdojcbcjgaaDoor
open Go Go.RowKit

set_option maxRecDepth 100000 in
set_option maxHeartbeats 8000000 in
theorem cpuRuns_walk (ws : List Int) (vw : Value) (c : Cp) (most : Int) (w : World) (ht : RvTab w) (hok : c.Ok) (hw : IntsVal w vw ws) (hs : ws.length * 8 ≤ 140737488355328) (hfw : ∀ z ∈ ws, Fits z) (hfc : FitCp c) :
    Calls Tryd.prog 12 #[vw, c.val, .int .i64 most] w fun e w' => e = .returned (.bool true) ∧ Below w.heap.size w w' := by
  have HOK : Hid ((runAns ws c most).1.Ok) := by
    show Cp.Ok _
    unfold runAns
    split
    · exact zero_ok
    · split
      · exact zero_ok
      · exact runA_ok _ _ _ hok.begun
  obtain ⟨aw, cw, rfl⟩ := hw.shape
  have HB0 : Hid (Below w.heap.size w (w.alloc (.cells (cpuCells c).toArray 33))) := (Below.refl _ _).alloc (Nat.le_refl _) _
  have rs : (w.alloc (.cells (cpuCells c).toArray 33)).heap[w.heap.size]? = some (.cells (cpuCells c).toArray 33 (0, 0)) := heap_alloc_last _ _
  have HV : Hid (∀ W, Below w.heap.size w W → IntsVal W (.slice aw ws.length cw) ws ∧ RvTab W) := fun W hW => ⟨hw.keeps (keeps_below hW), ht.below hW⟩
  have HPG : Hid (∀ W, Below w.heap.size w W → Calls Tryd.prog 29 #[.slice aw ws.length cw] W _) := fun W hW => ints_copy _ ws W (HV.out W hW).1 hs
  have HNX : Hid (∀ W ao cap, Below w.heap.size w W → IntsVal W (.slice ao ws.length cap) ws → Calls Tryd.prog 38 #[.slice ao ws.length cap, c.val, .int .i64 most] W fun e w' => e = .returned (.tuple #[(runAns ws c most).1.val, .int .i64 (runAns ws c most).2.1, .int .i64 (runAns ws c most).2.2]) ∧ Below W.heap.size W w') := fun W ao cap hW hv => cpuRun_any c hok ws ao cap most W (HV.out W hW).2 hv
  have HND : Hid (∀ W, Below w.heap.size w W → Calls Tryd.prog 39 #[.slice aw ws.length cw, c.val, .int .i64 most] W fun e w' => e = .returned (.tuple #[(runAns ws c most).1.val, .int .i64 (runAns ws c most).2.1, .int .i64 (runAns ws c most).2.2]) ∧ Below W.heap.size W w') := fun W hW => rrun_any ws _ c most W hok (HV.out W hW).1 hfw hfc
  unfold Cp.val at *
  have cc : (Tryd.prog.info? 33).map (·.size) = some (cpuCells c).length := by rw [cp_len hok]; exact infoCp
  have cc2 : (Tryd.prog.info? 33).map (·.size) = some (cpuCells c).toArray.size := infoCpC hok
  have i0 : (Tryd.prog.info? 33).map (·.size) = some (cpuCells (runAns ws c most).1).toArray.size := infoCpC HOK.out
  have o0 := cp_one (runAns ws c most).1
  have hl0 : Tryd.zeroCells33.size = (cpuCells (runAns ws c most).1).toArray.size := by rw [zc_cp, List.size_toArray, cp_len HOK.out]
  have heq := equal_cp (runAns ws c most).1 HOK.out
  generalize cpuCells (runAns ws c most).1 = CC at *
  generalize (runAns ws c most).2.1 = Q at *
  generalize (runAns ws c most).2.2 = R at *
  generalize cpuCells c = CS at *
  clear hw ht hs hfw hfc
  go_enter Tryd.func12, Tryd.ntmps12
  go_upto_region 1 with fail
  generalize (w.alloc (.cells CS.toArray 33)) = W0 at *
  have hzs : w.heap.size < W0.heap.size := lt_of_block rs
  (try simp only [Act.put])
  go_cut [7, 8, 9] from 13 to 21 (fun t q e wx => ∃ (Gx : Nat), t = .pointer (some ⟨Gx, 0, none⟩) ∧ q = .int .i64 Q ∧ e = .int .i64 R ∧ wx.heap[Gx]? = some (.cells CC.toArray 33 (0, 0)) ∧ Below W0.heap.size W0 wx)
  case first =>
    refine wp_region_held_drew (S := fun W => Below W0.heap.size W0 W) (by kernel_rfl) ((Below.refl _ _).drew) (fun hHeld => ?_)
    show wpAnyH _ _ _ _ _ 13 _ _ _
    refine wpAnyH_take (i := 0) (v := ?_) rfl (by kernel_rfl) (by kernel_rfl) (by kernel_rfl) (fun _ _ _ h => h) (Or.inl ⟨by rfl, ?_⟩) (by assumption) ?_
    rotate_left
    · (intro W hSW; go_simp; try (with_reducible rfl))
    (try simp only [List.getElem_toArray, List.getElem_cons_zero])
    (try simp only [Act.put, List.setIfInBounds_toArray, List.set_cons_zero, List.set_cons_succ])
    refine wpAnyH_take (i := 3) (v := ?_) rfl (by kernel_rfl) (by kernel_rfl) (by kernel_rfl) (fun _ _ _ h => h) (Or.inl ⟨by rfl, ?_⟩) (by assumption) ?_
    rotate_left
    · (intro W hSW; go_simp; try (with_reducible rfl))
    (try simp only [List.getElem_toArray, List.getElem_cons_succ, List.getElem_cons_zero])
    (try simp only [Act.put, List.setIfInBounds_toArray, List.set_cons_zero, List.set_cons_succ])
    refine wpAnyH_take (i := 2) (v := .agg CS.toArray) rfl (by kernel_rfl) (by kernel_rfl) (by kernel_rfl) (fun _ _ _ h => h) (yieldsIf_load_mid (by rfl) 33 _ rfl _ 0 rfl CS _ (fun W hSW j u hu => by rw [cell_of_row _ _ _ _ _ _ ((hSW.block _ hzs).trans rs)]; simpa using hu) Tryd.underlying33 rfl cc) (by assumption) ?_
    (try simp only [List.getElem_toArray, List.getElem_cons_succ, List.getElem_cons_zero])
    (try simp only [Act.put, List.setIfInBounds_toArray, List.set_cons_zero, List.set_cons_succ])
    refine wpAnyH_ready (rs := [1, 9]) (by kernel_rfl) (by simp) ?_
    refine AllReadyH.cons rfl (fun K hK => ?_) (AllReadyH.cons rfl (fun K hK => ?_) AllReadyH.nil)
    · go_simp
      go_at_call 29
      refine (HPG.out _ (HB0.out.trans (Below.mono hHeld HB0.out.size))).mono ?_
      rintro e wp ⟨vp, rfl, hop, hbp⟩
      have hvp := ints_of_own hop
      obtain ⟨ap, cp, rfl⟩ := hvp.shape
      clear hop
      have HBp : Below W0.heap.size W0 wp := Below.trans hHeld (Below.mono hbp (Below.size hHeld))
      dsimp only
      refine hK.out _ _ HBp (fun _ => ?_)
      clear hK K
      (try simp only [Act.put, List.setIfInBounds_toArray, List.set_cons_zero, List.set_cons_succ])
      refine wpAnyH_ready (rs := [4, 9]) (by kernel_rfl) (by simp) ?_
      refine AllReadyH.cons rfl (fun K hK => ?_) (AllReadyH.cons rfl (fun K hK => ?_) AllReadyH.nil)
      · go_simp
        go_at_call 38
        refine (HNX.out _ _ _ (HB0.out.trans (Below.mono HBp HB0.out.size)) hvp).mono ?_
        rintro e wn ⟨rfl, hbn⟩
        have HBn : Below W0.heap.size W0 wn := Below.trans HBp (Below.mono hbn (Below.size HBp))
        dsimp only
        refine hK.out _ _ HBn (fun _ => ?_)
        clear hK K
        (try simp only [Act.put, List.setIfInBounds_toArray, List.set_cons_zero, List.set_cons_succ])
        have hvp := hvp.keeps (keeps_below hbn)
        refine wpAnyH_take (i := 5) (v := ?_) rfl (by kernel_rfl) (by kernel_rfl) (by kernel_rfl) (fun _ _ _ h => h) (Or.inl ⟨by rfl, ?_⟩) (by assumption) ?_
        rotate_left
        · (intro W hSW; go_simp; try (with_reducible rfl))
        (try simp only [List.getElem_toArray, List.getElem_cons_succ, List.getElem_cons_zero])
        (try simp only [Act.put, List.setIfInBounds_toArray, List.set_cons_zero, List.set_cons_succ])
        refine wpAnyH_take (i := 6) (v := ?_) rfl (by kernel_rfl) (by kernel_rfl) (by kernel_rfl) (fun _ _ _ h => h) (Or.inl ⟨by rfl, ?_⟩) (by assumption) ?_
        rotate_left
        · (intro W hSW; go_simp; try (with_reducible rfl))
        (try simp only [List.getElem_toArray, List.getElem_cons_succ, List.getElem_cons_zero])
        (try simp only [Act.put, List.setIfInBounds_toArray, List.set_cons_zero, List.set_cons_succ])
        refine wpAnyH_take (i := 7) (v := ?_) rfl (by kernel_rfl) (by kernel_rfl) (by kernel_rfl) (fun _ _ _ h => h) (Or.inl ⟨by rfl, ?_⟩) (by assumption) ?_
        rotate_left
        · (intro W hSW; go_simp; try (with_reducible rfl))
        (try simp only [List.getElem_toArray, List.getElem_cons_succ, List.getElem_cons_zero])
        (try simp only [Act.put, List.setIfInBounds_toArray, List.set_cons_zero, List.set_cons_succ])
        refine wpAnyH_take (i := 8) (v := ?_) rfl (by kernel_rfl) (by kernel_rfl) (by kernel_rfl) (fun _ _ _ h => h) (Or.inl ⟨by rfl, ?_⟩) (by assumption) ?_
        rotate_left
        · (intro W hSW; go_simp; try (with_reducible rfl))
        (try simp only [List.getElem_toArray, List.getElem_cons_succ, List.getElem_cons_zero])
        (try simp only [Act.put, List.setIfInBounds_toArray, List.set_cons_zero, List.set_cons_succ])
        refine wpAnyH_ready (rs := [9]) (by kernel_rfl) (by simp) ?_
        refine AllReadyH.cons rfl (fun K hK => ?_) AllReadyH.nil
        go_simp
        have HBA2 : Below W0.heap.size W0 (wn.alloc (.cells Tryd.zeroCells33 33)) := Below.alloc HBn (Below.size HBn) _
        refine hK.out _ _ HBA2 (fun _ => ?_)
        clear hK K
        (try simp only [Act.put, List.setIfInBounds_toArray, List.set_cons_zero, List.set_cons_succ])
        have rowA : (wn.alloc (.cells Tryd.zeroCells33 33)).heap[wn.heap.size]? = some (.cells Tryd.zeroCells33 33 (0, 0)) := heap_alloc_last wn _
        have hvp := hvp.keeps (keeps_below ((Below.refl _ _).alloc (Nat.le_refl _) (.cells Tryd.zeroCells33 33)))
        refine wpAnyH_ready (rs := [10]) (by kernel_rfl) (by simp) ?_
        refine AllReadyH.cons rfl (fun K hK => ?_) AllReadyH.nil
        refine wp_store_row 33 _ _ rfl (wn.heap.size) CC.toArray rfl rfl 33 Tryd.zeroCells33 rowA i0 hl0 o0 ?_
        have BN : Below W0.heap.size W0 (World.setRow (wn.alloc (.cells Tryd.zeroCells33 33)) (wn.heap.size) CC.toArray) := belowSC HBA2 (Below.size HBn) (Below.size HBA2) _
        refine hK.out _ _ BN (fun _ => ?_)
        clear hK K
        (try simp only [Act.put, List.setIfInBounds_toArray])
        refine wpAnyH_ready (rs := [11]) (by kernel_rfl) (by simp) ?_
        refine AllReadyH.cons rfl (fun K hK => ?_) AllReadyH.nil
        go_simp
        refine hK.out _ _ BN (fun _ => ?_)
        clear hK K
        (try simp only [Act.put, List.setIfInBounds_toArray, List.set_cons_zero, List.set_cons_succ])
        refine wpAnyH_ready (rs := [12]) (by kernel_rfl) (by simp) ?_
        refine AllReadyH.cons rfl (fun K hK => ?_) AllReadyH.nil
        go_simp
        refine hK.out _ _ BN (fun _ => ?_)
        clear hK K
        (try simp only [Act.put, List.setIfInBounds_toArray, List.set_cons_zero, List.set_cons_succ])
        refine wpAnyH_done (by kernel_rfl) ?_ _
        go_wp2_with fail
        go_meet
        exact ⟨_, rfl, rfl, rfl, setRow_heap _ _ _ _ _ _ rowA, BN⟩
      · go_simp
        have HBA1 : Below W0.heap.size W0 (wp.alloc (.cells Tryd.zeroCells33 33)) := Below.alloc HBp (Below.size HBp) _
        refine hK.out _ _ HBA1 (fun _ => ?_)
        clear hK K
        (try simp only [Act.put, List.setIfInBounds_toArray, List.set_cons_zero, List.set_cons_succ])
        have rowA : (wp.alloc (.cells Tryd.zeroCells33 33)).heap[wp.heap.size]? = some (.cells Tryd.zeroCells33 33 (0, 0)) := heap_alloc_last wp _
        have hvp := hvp.keeps (keeps_below ((Below.refl _ _).alloc (Nat.le_refl _) (.cells Tryd.zeroCells33 33)))
        refine wpAnyH_ready (rs := [4]) (by kernel_rfl) (by simp) ?_
        refine AllReadyH.cons rfl (fun K hK => ?_) AllReadyH.nil
        go_simp
        go_at_call 38
        refine (HNX.out _ _ _ (HB0.out.trans (Below.mono HBA1 HB0.out.size)) hvp).mono ?_
        rintro e wn ⟨rfl, hbn⟩
        have HBn : Below W0.heap.size W0 wn := Below.trans HBA1 (Below.mono hbn (Below.size HBA1))
        dsimp only
        refine hK.out _ _ HBn (fun _ => ?_)
        clear hK K
        (try simp only [Act.put, List.setIfInBounds_toArray, List.set_cons_zero, List.set_cons_succ])
        have hvp := hvp.keeps (keeps_below hbn)
        have rowB1 : wn.heap[wp.heap.size]? = some (.cells Tryd.zeroCells33 33 (0, 0)) := (Below.block hbn _ (lt_of_block rowA)).trans rowA
        refine wpAnyH_take (i := 5) (v := ?_) rfl (by kernel_rfl) (by kernel_rfl) (by kernel_rfl) (fun _ _ _ h => h) (Or.inl ⟨by rfl, ?_⟩) (by assumption) ?_
        rotate_left
        · (intro W hSW; go_simp; try (with_reducible rfl))
        (try simp only [List.getElem_toArray, List.getElem_cons_succ, List.getElem_cons_zero])
        (try simp only [Act.put, List.setIfInBounds_toArray, List.set_cons_zero, List.set_cons_succ])
        refine wpAnyH_take (i := 6) (v := ?_) rfl (by kernel_rfl) (by kernel_rfl) (by kernel_rfl) (fun _ _ _ h => h) (Or.inl ⟨by rfl, ?_⟩) (by assumption) ?_
        rotate_left
        · (intro W hSW; go_simp; try (with_reducible rfl))
        (try simp only [List.getElem_toArray, List.getElem_cons_succ, List.getElem_cons_zero])
        (try simp only [Act.put, List.setIfInBounds_toArray, List.set_cons_zero, List.set_cons_succ])
        refine wpAnyH_take (i := 7) (v := ?_) rfl (by kernel_rfl) (by kernel_rfl) (by kernel_rfl) (fun _ _ _ h => h) (Or.inl ⟨by rfl, ?_⟩) (by assumption) ?_
        rotate_left
        · (intro W hSW; go_simp; try (with_reducible rfl))
        (try simp only [List.getElem_toArray, List.getElem_cons_succ, List.getElem_cons_zero])
        (try simp only [Act.put, List.setIfInBounds_toArray, List.set_cons_zero, List.set_cons_succ])
        refine wpAnyH_take (i := 8) (v := ?_) rfl (by kernel_rfl) (by kernel_rfl) (by kernel_rfl) (fun _ _ _ h => h) (Or.inl ⟨by rfl, ?_⟩) (by assumption) ?_
        rotate_left
        · (intro W hSW; go_simp; try (with_reducible rfl))
        (try simp only [List.getElem_toArray, List.getElem_cons_succ, List.getElem_cons_zero])
        (try simp only [Act.put, List.setIfInBounds_toArray, List.set_cons_zero, List.set_cons_succ])
        refine wpAnyH_ready (rs := [10]) (by kernel_rfl) (by simp) ?_
        refine AllReadyH.cons rfl (fun K hK => ?_) AllReadyH.nil
        refine wp_store_row 33 _ _ rfl (wp.heap.size) CC.toArray rfl rfl 33 Tryd.zeroCells33 rowB1 i0 hl0 o0 ?_
        have BN : Below W0.heap.size W0 (World.setRow wn (wp.heap.size) CC.toArray) := belowSC HBn (Below.size HBp) (Below.size HBn) _
        refine hK.out _ _ BN (fun _ => ?_)
        clear hK K
        (try simp only [Act.put, List.setIfInBounds_toArray])
        refine wpAnyH_ready (rs := [11]) (by kernel_rfl) (by simp) ?_
        refine AllReadyH.cons rfl (fun K hK => ?_) AllReadyH.nil
        go_simp
        refine hK.out _ _ BN (fun _ => ?_)
        clear hK K
        (try simp only [Act.put, List.setIfInBounds_toArray, List.set_cons_zero, List.set_cons_succ])
        refine wpAnyH_ready (rs := [12]) (by kernel_rfl) (by simp) ?_
        refine AllReadyH.cons rfl (fun K hK => ?_) AllReadyH.nil
        go_simp
        refine hK.out _ _ BN (fun _ => ?_)
        clear hK K
        (try simp only [Act.put, List.setIfInBounds_toArray, List.set_cons_zero, List.set_cons_succ])
        refine wpAnyH_done (by kernel_rfl) ?_ _
        go_wp2_with fail
        go_meet
        exact ⟨_, rfl, rfl, rfl, setRow_heap _ _ _ _ _ _ rowB1, BN⟩
    · go_simp
      have HBA0 : Below W0.heap.size W0 (W0.drew.alloc (.cells Tryd.zeroCells33 33)) := Below.alloc hHeld (Below.size hHeld) _
      refine hK.out _ _ HBA0 (fun _ => ?_)
      clear hK K
      (try simp only [Act.put, List.setIfInBounds_toArray, List.set_cons_zero, List.set_cons_succ])
      have rowA : (W0.drew.alloc (.cells Tryd.zeroCells33 33)).heap[W0.drew.heap.size]? = some (.cells Tryd.zeroCells33 33 (0, 0)) := heap_alloc_last W0.drew _
      refine wpAnyH_ready (rs := [1]) (by kernel_rfl) (by simp) ?_
      refine AllReadyH.cons rfl (fun K hK => ?_) AllReadyH.nil
      go_simp
      go_at_call 29
      refine (HPG.out _ (HB0.out.trans (Below.mono HBA0 HB0.out.size))).mono ?_
      rintro e wp ⟨vp, rfl, hop, hbp⟩
      have hvp := ints_of_own hop
      obtain ⟨ap, cp, rfl⟩ := hvp.shape
      clear hop
      have HBp : Below W0.heap.size W0 wp := Below.trans HBA0 (Below.mono hbp (Below.size HBA0))
      dsimp only
      refine hK.out _ _ HBp (fun _ => ?_)
      clear hK K
      (try simp only [Act.put, List.setIfInBounds_toArray, List.set_cons_zero, List.set_cons_succ])
      have rowB0 : wp.heap[W0.drew.heap.size]? = some (.cells Tryd.zeroCells33 33 (0, 0)) := (Below.block hbp _ (lt_of_block rowA)).trans rowA
      refine wpAnyH_ready (rs := [4]) (by kernel_rfl) (by simp) ?_
      refine AllReadyH.cons rfl (fun K hK => ?_) AllReadyH.nil
      go_simp
      go_at_call 38
      refine (HNX.out _ _ _ (HB0.out.trans (Below.mono HBp HB0.out.size)) hvp).mono ?_
      rintro e wn ⟨rfl, hbn⟩
      have HBn : Below W0.heap.size W0 wn := Below.trans HBp (Below.mono hbn (Below.size HBp))
      dsimp only
      refine hK.out _ _ HBn (fun _ => ?_)
      clear hK K
      (try simp only [Act.put, List.setIfInBounds_toArray, List.set_cons_zero, List.set_cons_succ])
      have hvp := hvp.keeps (keeps_below hbn)
      have rowB1 : wn.heap[W0.drew.heap.size]? = some (.cells Tryd.zeroCells33 33 (0, 0)) := (Below.block hbn _ (lt_of_block rowB0)).trans rowB0
      refine wpAnyH_take (i := 5) (v := ?_) rfl (by kernel_rfl) (by kernel_rfl) (by kernel_rfl) (fun _ _ _ h => h) (Or.inl ⟨by rfl, ?_⟩) (by assumption) ?_
      rotate_left
      · (intro W hSW; go_simp; try (with_reducible rfl))
      (try simp only [List.getElem_toArray, List.getElem_cons_succ, List.getElem_cons_zero])
      (try simp only [Act.put, List.setIfInBounds_toArray, List.set_cons_zero, List.set_cons_succ])
      refine wpAnyH_take (i := 6) (v := ?_) rfl (by kernel_rfl) (by kernel_rfl) (by kernel_rfl) (fun _ _ _ h => h) (Or.inl ⟨by rfl, ?_⟩) (by assumption) ?_
      rotate_left
      · (intro W hSW; go_simp; try (with_reducible rfl))
      (try simp only [List.getElem_toArray, List.getElem_cons_succ, List.getElem_cons_zero])
      (try simp only [Act.put, List.setIfInBounds_toArray, List.set_cons_zero, List.set_cons_succ])
      refine wpAnyH_take (i := 7) (v := ?_) rfl (by kernel_rfl) (by kernel_rfl) (by kernel_rfl) (fun _ _ _ h => h) (Or.inl ⟨by rfl, ?_⟩) (by assumption) ?_
      rotate_left
      · (intro W hSW; go_simp; try (with_reducible rfl))
      (try simp only [List.getElem_toArray, List.getElem_cons_succ, List.getElem_cons_zero])
      (try simp only [Act.put, List.setIfInBounds_toArray, List.set_cons_zero, List.set_cons_succ])
      refine wpAnyH_take (i := 8) (v := ?_) rfl (by kernel_rfl) (by kernel_rfl) (by kernel_rfl) (fun _ _ _ h => h) (Or.inl ⟨by rfl, ?_⟩) (by assumption) ?_
      rotate_left
      · (intro W hSW; go_simp; try (with_reducible rfl))
      (try simp only [List.getElem_toArray, List.getElem_cons_succ, List.getElem_cons_zero])
      (try simp only [Act.put, List.setIfInBounds_toArray, List.set_cons_zero, List.set_cons_succ])
      refine wpAnyH_ready (rs := [10]) (by kernel_rfl) (by simp) ?_
      refine AllReadyH.cons rfl (fun K hK => ?_) AllReadyH.nil
      refine wp_store_row 33 _ _ rfl (W0.drew.heap.size) CC.toArray rfl rfl 33 Tryd.zeroCells33 rowB1 i0 hl0 o0 ?_
      have BN : Below W0.heap.size W0 (World.setRow wn (W0.drew.heap.size) CC.toArray) := belowSC HBn (Below.size hHeld) (Below.size HBn) _
      refine hK.out _ _ BN (fun _ => ?_)
      clear hK K
      (try simp only [Act.put, List.setIfInBounds_toArray])
      refine wpAnyH_ready (rs := [11]) (by kernel_rfl) (by simp) ?_
      refine AllReadyH.cons rfl (fun K hK => ?_) AllReadyH.nil
      go_simp
      refine hK.out _ _ BN (fun _ => ?_)
      clear hK K
      (try simp only [Act.put, List.setIfInBounds_toArray, List.set_cons_zero, List.set_cons_succ])
      refine wpAnyH_ready (rs := [12]) (by kernel_rfl) (by simp) ?_
      refine AllReadyH.cons rfl (fun K hK => ?_) AllReadyH.nil
      go_simp
      refine hK.out _ _ BN (fun _ => ?_)
      clear hK K
      (try simp only [Act.put, List.setIfInBounds_toArray, List.set_cons_zero, List.set_cons_succ])
      refine wpAnyH_done (by kernel_rfl) ?_ _
      go_wp2_with fail
      go_meet
      exact ⟨_, rfl, rfl, rfl, setRow_heap _ _ _ _ _ _ rowB1, BN⟩
  case rest =>
    obtain ⟨Gx, rfl, rfl, rfl, rowG, hbc⟩ := hcut
    have HBW : Hid (Below w.heap.size w wc) := HB0.out.trans (hbc.mono HB0.out.size)
    have rs2 := (hbc.block _ (lt_of_block rs)).trans rs
    clear hbc rs HNX HPG
    go_wp2_with (first
      | (refine wpList_load_row rfl 33 (.tmp 4) rfl _ rfl _ _ _ _ rs2 Tryd.underlying33 rfl cc2 ?_)
      | (go_at_call 39; refine (HND.out _ HBW.out).mono ?_; rintro e wz ⟨rfl, hbz⟩; have HA3 : Hid (Below wc.heap.size wc (wz.alloc (.cells CC.toArray 33))) := hbz.alloc hbz.size _; have rG3 := (HA3.out.block _ (lt_of_block rowG)).trans rowG; have rz3 : (wz.alloc (.cells CC.toArray 33)).heap[wz.heap.size]? = some (.cells CC.toArray 33 (0, 0)) := heap_alloc_last wz _; clear hbz)
      | (refine wpList_store_row rfl _ _ _ rfl _ CC.toArray rfl rfl _ _ (heap_alloc_last wz _) i0 hl0 o0 ?_; rw [World.setRow_alloc_new])
      | (refine wpList_load_row rfl 33 (.tmp 7) rfl _ rfl _ _ _ _ rG3 Tryd.underlying33 rfl i0 ?_)
      | (refine wpList_load_row rfl 33 (.tmp 10) rfl _ rfl _ _ _ _ rz3 Tryd.underlying33 rfl i0 ?_))
    go_ret
    exact ⟨rfl, HBW.out.trans (HA3.out.mono HBW.out.size)⟩
end Go.Proofs.YtndogdojcbcjgaaDoor
