/- The walk of tierlinekeep.AnswersMore: at all raw numbers it says true, and nothing that was there has turned. -/
import Derived.Test.YtpkgibdbmmhgdaaDoorXKRun
import Derived.Test.YtpkgibdbmmhgdaaDoorXAnsMath
import Derived.Test.YtpkgibdbmmhgdaaDoorXTopKit
import Derived.Test.YtpkgibdbmmhgdaaDoorXCalledAll
namespace Go.Proofs.YtpkgibdbmmhgdaaDoor
open Go Go.RowKit

set_option maxHeartbeats 8000000 in
set_option maxRecDepth 100000 in
theorem answersMore_walk (l : List Fn) (v : Value) (a0 a1 fuel : Int) (nv : Value) (ln : List Int) (mv : Value) (lm : List Int) (w : World) (ht : TabOk w) (hc : CallOk w) (hv : ProgVal w v l) (hwf : ∀ f ∈ l, f.wf) (hn : IntsVal w nv ln) (hfu : I64 fuel) (hmv : IntsVal w mv lm) :
    Calls Tryd.prog 5 #[v, inVal a0 a1 nv fuel, mv] w fun e w' => e = .returned (.bool true) ∧ Below w.heap.size w w' := by
  obtain ⟨mao, mcp, rfl⟩ := hmv.shape
  have HMV : Hid (∀ W, Below w.heap.size w W → IntsVal W (.slice mao lm.length mcp) lm) := fun W hb => hmv.keeps (keeps_below hb)
  have hmcp := ints_cap hmv
  clear hmv
  obtain ⟨nao, nc, rfl⟩ := hn.shape
  obtain ⟨lao, ll, lc, rfl⟩ := hv.shape
  have HTC : Hid (∀ W, Below w.heap.size w W → TabOk W ∧ CallOk W) := fun W hb => ⟨ht.below hb, hc.below hb⟩
  have HB0 : Hid (Below w.heap.size w (w.alloc (.cells #[.int .i64 a0, .int .i64 a1, .slice nao ln.length nc, .int .i64 fuel] 26))) := (Below.refl _ _).alloc (Nat.le_refl _) _
  have HPR : Hid (Calls Tryd.prog 14 #[.slice lao ll lc] (w.alloc (.cells #[.int .i64 a0, .int .i64 a1, .slice nao ln.length nc, .int .i64 fuel] 26)) fun e w' => ∃ ao n cap P, e = .returned (.agg #[.slice ao n cap]) ∧ ProofAns P 0 ∧ ProgVal w' (.slice ao n cap) P ∧ Below (w.alloc (.cells #[.int .i64 a0, .int .i64 a1, .slice nao ln.length nc, .int .i64 fuel] 26)).heap.size (w.alloc (.cells #[.int .i64 a0, .int .i64 a1, .slice nao ln.length nc, .int .i64 fuel] 26)) w') := kprog l _ _ (HTC.out _ HB0.out).1 (HTC.out _ HB0.out).2 (hv.keeps (keeps_below HB0.out)) hwf
  have HNV : Hid (∀ W, Below w.heap.size w W → IntsVal W (.slice nao ln.length nc) ln) := fun W hb => hn.keeps (keeps_below hb)
  have HFU : Hid (I64 fuel) := hfu
  unfold inVal
  clear ht hc hv hwf hn hfu
  go_enter Tryd.func5, Tryd.ntmps5
  go_upto_region 2 with (go_at_call 14; refine HPR.out.mono ?_; rintro e w1 ⟨ao, n0, cap0, P, rfl, hR, hpv, hb1⟩)
  have HR : Hid (ProofAns P 0) := hR
  have B01 : Hid (Below w.heap.size w (w1.alloc (.cells #[.slice ao n0 cap0] 29))) := (HB0.out.trans (hb1.mono (by simp))).alloc (by have := hb1.size; simp at this; omega) _
  have I1 : (w1.alloc (.cells #[.slice ao n0 cap0] 29)).heap[w.heap.size]? = some (.cells #[.int .i64 a0, .int .i64 a1, .slice nao ln.length nc, .int .i64 fuel] 26 (0, 0)) := (heap_alloc_old _ _ (by have := hb1.size; simp at this; omega)).trans ((hb1.block _ (by simp)).trans (heap_alloc_last w _))
  have HP : Hid (∀ W, Below (w1.alloc (.cells #[.slice ao n0 cap0] 29)).heap.size (w1.alloc (.cells #[.slice ao n0 cap0] 29)) W → W.cell? ⟨w1.heap.size, 0, none⟩ = some (.slice ao n0 cap0) ∧ ProgVal W (.slice ao n0 cap0) P ∧ TabOk W ∧ CallOk W) := fun W hb => ⟨keeps_below hb _ _ (by rw [cell_of_row _ _ _ _ _ _ (heap_alloc_last w1 _)]; rfl), (hpv.keeps (keeps_below ((Below.refl _ _).alloc (Nat.le_refl _) _))).keeps (keeps_below hb), (HTC.out _ (B01.out.trans (hb.mono B01.out.size))).1, (HTC.out _ (B01.out.trans (hb.mono B01.out.size))).2⟩
  clear hR hpv hb1 HPR HB0
  generalize (w1.alloc (.cells #[.slice ao n0 cap0] 29)) = WP at *
  generalize w1.heap.size = PB at *
  obtain ⟨b, off, cap, hvs, d0, hp1, hpc, hpm, q0, q2p⟩ := right_head HR.out (HP.out _ (Below.refl _ _)).2.1
  obtain ⟨rfl, rfl, rfl⟩ : ao = some ⟨b, off, none⟩ ∧ n0 = P.length ∧ cap0 = cap := by simpa using hvs
  obtain ⟨p, hp⟩ := Int.eq_ofNat_of_zero_le q0
  have hp2 : p ≤ 2 := by omega
  have hpI : (p : Int) ≤ 2 := by omega
  rw [hp] at d0
  have HPP : Hid (par0 P = p) := hp
  unfold maxLen at hpm
  have hP0 : (0 : Int) < P.length := by omega
  have hP0n : 0 < P.length := by omega
  obtain ⟨m, hm⟩ : ∃ m : Nat, m = min ln.length 10 := ⟨_, rfl⟩
  have hml : m ≤ ln.length := by omega
  have hmI : (m : Int) ≤ ln.length := by omega
  have hmin : (if (10 : Int) < (ln.length : Int) then (10 : Int) else (ln.length : Int)) = (m : Int) := by split <;> omega
  have hnc := ints_cap (HNV.out _ (Below.refl _ _))
  have hmc : m ≤ nc := by omega
  have hm10 : m ≤ 10 := by omega
  have HLM : Hid (ln.take m = ln.take 10) := by show _ = _; rw [hm]; exact take_ten ln
  obtain ⟨F, hF, eF⟩ : ∃ x : Nat, x < 300 ∧ pickI fuel 300 = x := by have b := pickI_bounds fuel 300 (by omega); obtain ⟨k, hk⟩ := Int.eq_ofNat_of_zero_le b.1; exact ⟨k, by omega, hk⟩
  have HPK : Hid (∀ W, Calls Tryd.prog 21 #[.int .i64 fuel, .int .i64 300] W fun e w' => e = .returned (.int .i64 (F : Int)) ∧ w' = W) := fun W => by have := picked_any fuel 300 W HFU.out (by omega) (by omega); rw [eF] at this; exact this
  have rI : WP.heap[w.heap.size]? = some (.cells #[.int .i64 a0, .int .i64 a1, .slice nao ln.length nc, .int .i64 fuel] 26 (0, 0)) := ((Below.refl _ _).block _ (lt_of_block I1)).trans I1
  have I2 : WP.cell? ⟨w.heap.size, 2, none⟩ = some (.slice nao ln.length nc) := by rw [cell_of_row _ _ _ _ _ _ rI]; rfl
  have I3 : WP.cell? ⟨w.heap.size, 3, none⟩ = some (.int .i64 fuel) := by rw [cell_of_row _ _ _ _ _ _ rI]; rfl
  have HIA : Hid (IntsVal WP (.slice (some ⟨w.heap.size, 0, none⟩) p 2) ([a0, a1].take p)) := args_vals rI hp2
  have HIN : Hid (IntsVal w (.slice nao m nc) (ln.take m)) := ints_cut (HNV.out _ (Below.refl _ _)) hml
  have HAL : Hid ((([a0, a1].take p).length : Int) = par0 P) := by show _ = _; rw [HPP.out, List.length_take]; simp only [List.length_cons, List.length_nil]; omega
  have HNL : Hid ((ln.take m).length ≤ 100) := by show _ ≤ _; rw [List.length_take]; omega
  clear hvs q0 q2p hp eF hm
  have kp := (HP.out _ (Below.refl _ _)).1
  have HAW : Hid (∀ W, Below WP.heap.size WP W → IntsVal W (.slice (some ⟨w.heap.size, 0, none⟩) p 2) ([a0, a1].take p) ∧ IntsVal W (.slice nao m nc) (ln.take m)) := fun W hb => ⟨HIA.out.keeps (keeps_below hb), HIN.out.keeps (keeps_below (B01.out.trans (hb.mono B01.out.size)))⟩
  have HRV : Hid (RunInv P (beginSt ([a0, a1].take p) (ln.take m) (F : Int))) := runInv_begin HR.out _ _ _ (by have := HAL.out; have := HPP.out; omega) HNL.out (by omega) (by omega)
  have HLT : Hid ((ln.take m).length = m) := by show _ = _; rw [List.length_take]; omega
  obtain ⟨mm, hmm⟩ : ∃ mm : Nat, mm = min lm.length 10 := ⟨_, rfl⟩
  have hmml : mm ≤ lm.length := by omega
  have hmmI : (mm : Int) ≤ lm.length := by omega
  have hmmin : (if (10 : Int) < (lm.length : Int) then (10 : Int) else (lm.length : Int)) = (mm : Int) := by split <;> omega
  have hmmc : mm ≤ mcp := by omega
  have hmm10 : mm ≤ 10 := by omega
  have HLM2 : Hid ((lm.take mm).length = mm) := by show _ = _; rw [List.length_take]; omega
  clear hmm
  have HRUN : Hid (∀ W an L, Below WP.heap.size WP W → L.length ≤ 100 → IntsVal W an L → Calls Tryd.prog 20 #[.agg #[.slice (some ⟨b, off, none⟩) P.length cap0], .slice (some ⟨w.heap.size, 0, none⟩) p 2, an, .int .i64 (F : Int)] W fun e w' => ∃ cs, e = .returned (.tuple #[.agg cs, .int .i64 0]) ∧ (Tryd.prog.info? 34).map (·.size) = some cs.size ∧ zeroStCells.size = cs.size ∧ cs.all (·.oneCell') = true ∧ StAt w' W.heap.size (.agg cs) (walkS P (F + 1) (beginSt ([a0, a1].take p) L F)) ∧ Below W.heap.size W w') := fun W an L hb hl hi => run_any P _ _ _ ([a0, a1].take p) L F W (HP.out _ hb).2.2.1 (HP.out _ hb).2.2.2 HR.out (HP.out _ hb).2.1 (HAW.out _ hb).1 hi HAL.out hl (by omega)
  have HANS : Hid (AnsOf (ln.take m) (beginSt ([a0, a1].take p) (ln.take m) (F : Int))) := rfl
  have HADD : Hid (beginSt ([a0, a1].take p) (ln.take m ++ lm.take mm) (F : Int) = addA (lm.take mm) (beginSt ([a0, a1].take p) (ln.take m) (F : Int))) := rfl
  have HRX : Hid (∀ W, Below WP.heap.size WP W → Calls Tryd.prog 20 #[.agg #[.slice (some ⟨b, off, none⟩) P.length cap0], .slice (some ⟨w.heap.size, 0, none⟩) p 2, .slice nao m nc, .int .i64 (F : Int)] W fun e w' => ∃ cs, e = .returned (.tuple #[.agg cs, .int .i64 0]) ∧ (Tryd.prog.info? 34).map (·.size) = some cs.size ∧ zeroStCells.size = cs.size ∧ cs.all (·.oneCell') = true ∧ StAt w' W.heap.size (.agg cs) (walkS P (F + 1) (beginSt ([a0, a1].take p) (ln.take m) F)) ∧ Below W.heap.size W w') := fun W hb => HRUN.out W _ _ hb HNL.out (HAW.out _ hb).2
  have HRUN2 : Hid (∀ W an, Below WP.heap.size WP W → IntsVal W an (ln.take m ++ lm.take mm) → Calls Tryd.prog 20 #[.agg #[.slice (some ⟨b, off, none⟩) P.length cap0], .slice (some ⟨w.heap.size, 0, none⟩) p 2, an, .int .i64 (F : Int)] W fun e w' => ∃ cs, e = .returned (.tuple #[.agg cs, .int .i64 0]) ∧ (Tryd.prog.info? 34).map (·.size) = some cs.size ∧ zeroStCells.size = cs.size ∧ cs.all (·.oneCell') = true ∧ StAt w' W.heap.size (.agg cs) (walkS P (F + 1) (addA (lm.take mm) (beginSt ([a0, a1].take p) (ln.take m) F))) ∧ Below W.heap.size W w') := fun W an hb hi => by
    have h := HRUN.out W an _ hb (by rw [List.length_append]; have := HLT.out; have := HLM2.out; omega) hi
    rw [HADD.out] at h
    exact h
  have HSF : Hid ((beginSt ([a0, a1].take p) (ln.take m) (F : Int)).fuel = F) := rfl
  clear HRUN HADD
  generalize beginSt ([a0, a1].take p) (ln.take m) (F : Int) = S at *
  go_upto_region 3 with fail
  go_cut [9, 10] from 23 to 38 (fun t e wx => ∃ (G : Nat) (csn : Array Value), t = .pointer (some ⟨G, 0, none⟩) ∧ e = .int .i64 0 ∧ wx.heap[G]? = some (.cells csn 34 (0, 0)) ∧ (Tryd.prog.info? 34).map (·.size) = some csn.size ∧ Below WP.heap.size WP wx ∧ WP.heap.size ≤ G ∧ StAt wx WP.heap.size (.agg csn) (walkS P (F + 1) S))
  case first =>
    refine wp_region_held_drew (S := fun W => Below WP.heap.size WP W) (by kernel_rfl) ((Below.refl _ _).drew) (fun hHeld => ?_)
    show wpAnyH _ _ _ _ _ 19 _ _ _
    refine wpAnyH_take (i := 0) (v := ?_) rfl (by kernel_rfl) (by kernel_rfl) (by kernel_rfl) (fun _ _ _ h => h) (Or.inl ⟨by rfl, ?_⟩) (by assumption) ?_
    rotate_left
    · (intro W hSW; have z0 := keeps_below hSW _ _ kp; go_simp; try (with_reducible rfl))
    (try simp only [Act.put, List.setIfInBounds_toArray])
    refine wpAnyH_take (i := 1) (v := ?_) rfl (by kernel_rfl) (by kernel_rfl) (by kernel_rfl) (fun _ _ _ h => h) (Or.inl ⟨by rfl, ?_⟩) (by assumption) ?_
    rotate_left
    · (intro W hSW; go_simp; try (with_reducible rfl))
    (try simp only [Act.put])
    refine wpAnyH_take (i := 2) (v := ?_) rfl (by kernel_rfl) (by kernel_rfl) (by kernel_rfl) (fun _ _ _ h => h) (Or.inl ⟨by rfl, ?_⟩) (by assumption) ?_
    rotate_left
    · (intro W hSW; go_simp; try (with_reducible rfl))
    (try simp only [Act.put])
    refine wpAnyH_take (i := 3) (v := ?_) rfl (by kernel_rfl) (by kernel_rfl) (by kernel_rfl) (fun _ _ _ h => h) (Or.inl ⟨by rfl, ?_⟩) (by assumption) ?_
    rotate_left
    · (intro W hSW; have z0 := keeps_below hSW _ _ kp; go_simp; try (with_reducible rfl))
    (try simp only [Act.put])
    refine wpAnyH_take (i := 4) (v := ?_) rfl (by kernel_rfl) (by kernel_rfl) (by kernel_rfl) (fun _ _ _ h => h) (Or.inl ⟨by rfl, ?_⟩) (by assumption) ?_
    rotate_left
    · (intro W hSW; go_simp; try (with_reducible rfl))
    (try simp only [Act.put])
    refine wpAnyH_take (i := 5) (v := ?_) rfl (by kernel_rfl) (by kernel_rfl) (by kernel_rfl) (fun _ _ _ h => h) (Or.inl ⟨by rfl, ?_⟩) (by assumption) ?_
    rotate_left
    · (intro W hSW; go_simp; try (with_reducible rfl))
    (try simp only [Act.put])
    refine wpAnyH_take (i := 6) (v := ?_) rfl (by kernel_rfl) (by kernel_rfl) (by kernel_rfl) (fun _ _ _ h => h) (Or.inl ⟨by rfl, ?_⟩) (by assumption) ?_
    rotate_left
    · (intro W hSW; have z0 := keeps_below hSW _ _ d0; go_simp; try (with_reducible rfl))
    (try simp only [Act.put])
    refine wpAnyH_take (i := 7) (v := ?_) rfl (by kernel_rfl) (by kernel_rfl) (by kernel_rfl) (fun _ _ _ h => h) (Or.inl ⟨by rfl, ?_⟩) (by assumption) ?_
    rotate_left
    · (intro W hSW; go_simp; try (with_reducible rfl))
    (try simp only [Act.put])
    refine wpAnyH_take (i := 8) (v := ?_) rfl (by kernel_rfl) (by kernel_rfl) (by kernel_rfl) (fun _ _ _ h => h) (Or.inl ⟨by rfl, ?_⟩) (by assumption) ?_
    rotate_left
    · (intro W hSW; go_simp; try (with_reducible rfl))
    (try simp only [Act.put])
    refine wpAnyH_take (i := 9) (v := ?_) rfl (by kernel_rfl) (by kernel_rfl) (by kernel_rfl) (fun _ _ _ h => h) (Or.inl ⟨by rfl, ?_⟩) (by assumption) ?_
    rotate_left
    · (intro W hSW; go_simp; try (with_reducible rfl))
    (try simp only [Act.put])
    refine wpAnyH_take (i := 10) (v := ?_) rfl (by kernel_rfl) (by kernel_rfl) (by kernel_rfl) (fun _ _ _ h => h) (Or.inl ⟨by rfl, ?_⟩) (by assumption) ?_
    rotate_left
    · (intro W hSW; have z0 := keeps_below hSW _ _ I3; go_simp; try (with_reducible rfl))
    (try simp only [Act.put])
    refine wpAnyH_ready (rs := [11, 16]) (by kernel_rfl) (by simp) ?_
    refine AllReadyH.cons rfl (fun K hK => ?_) (AllReadyH.cons rfl (fun K hK => ?_) AllReadyH.nil)
    · go_simp
      go_at_call 21
      refine (HPK.out _).mono ?_
      rintro e wp ⟨rfl, hwp⟩
      replace hwp := hwp.symm
      subst hwp
      dsimp only
      refine hK.out _ _ hHeld (fun _ => ?_)
      clear hK K
      (try simp only [Act.put, List.setIfInBounds_toArray, List.set_cons_zero, List.set_cons_succ])
      refine wpAnyH_ready (rs := [12, 16]) (by kernel_rfl) (by simp) ?_
      refine AllReadyH.cons rfl (fun K hK => ?_) (AllReadyH.cons rfl (fun K hK => ?_) AllReadyH.nil)
      · go_simp
        go_at_call 20
        refine (HRX.out _ hHeld).mono ?_
        rintro e wn ⟨csn, rfl, c1, c2, c3, hst, hb⟩
        have hbn : Below WP.heap.size WP wn := Below.trans hHeld (hb.mono (Below.size hHeld))
        dsimp only
        refine hK.out _ _ hbn (fun _ => ?_)
        clear hK K
        (try simp only [Act.put, List.setIfInBounds_toArray, List.set_cons_zero, List.set_cons_succ])
        refine wpAnyH_take (i := 13) (v := ?_) rfl (by kernel_rfl) (by kernel_rfl) (by kernel_rfl) (fun _ _ _ h => h) (Or.inl ⟨by rfl, ?_⟩) hbn ?_
        rotate_left
        · (intro W hSW; go_simp; try (with_reducible rfl))
        (try simp only [Act.put, List.setIfInBounds_toArray])
        refine wpAnyH_take (i := 14) (v := ?_) rfl (by kernel_rfl) (by kernel_rfl) (by kernel_rfl) (fun _ _ _ h => h) (Or.inl ⟨by rfl, ?_⟩) hbn ?_
        rotate_left
        · (intro W hSW; go_simp; try (with_reducible rfl))
        (try simp only [Act.put])
        refine wpAnyH_take (i := 15) (v := ?_) rfl (by kernel_rfl) (by kernel_rfl) (by kernel_rfl) (fun _ _ _ h => h) (Or.inl ⟨by rfl, ?_⟩) hbn ?_
        rotate_left
        · (intro W hSW; go_simp; try (with_reducible rfl))
        (try simp only [Act.put])
        refine wpAnyH_ready (rs := [16]) (by kernel_rfl) (by simp) ?_
        refine AllReadyH.cons rfl (fun K hK => ?_) AllReadyH.nil
        go_simp
        refine hK.out _ _ (hbn.alloc hbn.size _) (fun hHeld2 => ?_)
        clear hK K
        (try simp only [Act.put, List.setIfInBounds_toArray, List.set_cons_zero, List.set_cons_succ])
        refine wpAnyH_ready (rs := [17]) (by kernel_rfl) (by simp) ?_
        refine AllReadyH.cons rfl (fun K hK => ?_) AllReadyH.nil
        refine wp_store_row 34 _ _ rfl wn.heap.size csn rfl rfl 34 zeroStCells (heap_alloc_last wn _) c1 c2 c3 ?_
        have BN : Below WP.heap.size WP (World.setRow (wn.alloc (.cells #[.int .i64 0, .int .i64 0, .slice none 0 0, .int .i64 0, .int .i64 0, .int .i64 0, .int .i64 0, .int .i64 0, .int .i64 0, .int .i64 0, .int .i64 0, .int .i64 0, .int .i64 0, .int .i64 0, .int .i64 0, .int .i64 0, .int .i64 0, .int .i64 0, .int .i64 0, .int .i64 0, .slice none 0 0, .slice none 0 0] 34)) wn.heap.size csn) := below_setRow (hbn.alloc hbn.size _) (by first | exact Nat.le_refl _ | exact hbn.size) _
        refine hK.out _ _ BN (fun _ => ?_)
        clear hK K
        (try simp only [Act.put, List.setIfInBounds_toArray])
        refine wpAnyH_ready (rs := [18]) (by kernel_rfl) (by simp) ?_
        refine AllReadyH.cons rfl (fun K hK => ?_) AllReadyH.nil
        go_simp
        refine hK.out _ _ BN (fun _ => ?_)
        clear hK K
        (try simp only [Act.put, List.setIfInBounds_toArray, List.set_cons_zero, List.set_cons_succ])
        refine wpAnyH_done (by kernel_rfl) ?_ _
        go_wp2_with fail
        go_meet
        exact ⟨_, csn, rfl, rfl, setRow_heap _ _ _ _ _ _ (heap_alloc_last wn _), c1, BN, by first | exact Nat.le_refl _ | exact hbn.size, (hst.moved (fun ad u ha hu => (World.cell?_of_block (setRow_other _ _ _ _ (by have := World.block_lt_of_cell? _ _ hu; omega))).trans (cell_alloc hu _))).mono (Below.size hHeld)⟩
      · go_simp
        refine hK.out _ _ ((Below.refl _ _).alloc (Nat.le_refl _) _).drew (fun hHeld2 => ?_)
        clear hK K
        (try simp only [Act.put, List.setIfInBounds_toArray, List.set_cons_zero, List.set_cons_succ])
        refine wpAnyH_ready (rs := [12]) (by kernel_rfl) (by simp) ?_
        refine AllReadyH.cons rfl (fun K hK => ?_) AllReadyH.nil
        go_simp
        go_at_call 20
        refine (HRX.out _ hHeld2).mono ?_
        rintro e wn ⟨csn, rfl, c1, c2, c3, hst, hb⟩
        have hbn : Below WP.heap.size WP wn := Below.trans hHeld2 (hb.mono (Below.size hHeld2))
        dsimp only
        refine hK.out _ _ hbn (fun _ => ?_)
        clear hK K
        (try simp only [Act.put, List.setIfInBounds_toArray, List.set_cons_zero, List.set_cons_succ])
        have hgz : wn.heap[WP.heap.size]? = some (.cells zeroStCells 34 (0, 0)) := (hb.block _ (by simp)).trans (heap_alloc_last WP _)
        refine wpAnyH_take (i := 13) (v := ?_) rfl (by kernel_rfl) (by kernel_rfl) (by kernel_rfl) (fun _ _ _ h => h) (Or.inl ⟨by rfl, ?_⟩) hbn ?_
        rotate_left
        · (intro W hSW; go_simp; try (with_reducible rfl))
        (try simp only [Act.put, List.setIfInBounds_toArray])
        refine wpAnyH_take (i := 14) (v := ?_) rfl (by kernel_rfl) (by kernel_rfl) (by kernel_rfl) (fun _ _ _ h => h) (Or.inl ⟨by rfl, ?_⟩) hbn ?_
        rotate_left
        · (intro W hSW; go_simp; try (with_reducible rfl))
        (try simp only [Act.put])
        refine wpAnyH_take (i := 15) (v := ?_) rfl (by kernel_rfl) (by kernel_rfl) (by kernel_rfl) (fun _ _ _ h => h) (Or.inl ⟨by rfl, ?_⟩) hbn ?_
        rotate_left
        · (intro W hSW; go_simp; try (with_reducible rfl))
        (try simp only [Act.put])
        refine wpAnyH_ready (rs := [17]) (by kernel_rfl) (by simp) ?_
        refine AllReadyH.cons rfl (fun K hK => ?_) AllReadyH.nil
        refine wp_store_row 34 _ _ rfl WP.heap.size csn rfl rfl 34 zeroStCells hgz c1 c2 c3 ?_
        have BN : Below WP.heap.size WP (World.setRow wn WP.heap.size csn) := below_setRow hbn (by first | exact Nat.le_refl _ | exact hbn.size) _
        refine hK.out _ _ BN (fun _ => ?_)
        clear hK K
        (try simp only [Act.put])
        refine wpAnyH_ready (rs := [18]) (by kernel_rfl) (by simp) ?_
        refine AllReadyH.cons rfl (fun K hK => ?_) AllReadyH.nil
        go_simp
        refine hK.out _ _ BN (fun _ => ?_)
        clear hK K
        (try simp only [Act.put, List.setIfInBounds_toArray, List.set_cons_zero, List.set_cons_succ])
        refine wpAnyH_done (by kernel_rfl) ?_ _
        go_wp2_with fail
        go_meet
        exact ⟨_, csn, rfl, rfl, setRow_heap _ _ _ _ _ _ hgz, c1, BN, by first | exact Nat.le_refl _ | exact hbn.size, (hst.setRow (by simp) _).mono (by simp)⟩
    · go_simp
      refine hK.out _ _ ((Below.refl _ _).alloc (Nat.le_refl _) _).drew (fun hHeld2 => ?_)
      clear hK K
      (try simp only [Act.put, List.setIfInBounds_toArray, List.set_cons_zero, List.set_cons_succ])
      refine wpAnyH_ready (rs := [11]) (by kernel_rfl) (by simp) ?_
      refine AllReadyH.cons rfl (fun K hK => ?_) AllReadyH.nil
      go_simp
      go_at_call 21
      refine (HPK.out _).mono ?_
      rintro e wp ⟨rfl, hwp⟩
      replace hwp := hwp.symm
      subst hwp
      dsimp only
      refine hK.out _ _ hHeld2 (fun _ => ?_)
      clear hK K
      (try simp only [Act.put, List.setIfInBounds_toArray, List.set_cons_zero, List.set_cons_succ])
      refine wpAnyH_ready (rs := [12]) (by kernel_rfl) (by simp) ?_
      refine AllReadyH.cons rfl (fun K hK => ?_) AllReadyH.nil
      go_simp
      go_at_call 20
      refine (HRX.out _ hHeld2).mono ?_
      rintro e wn ⟨csn, rfl, c1, c2, c3, hst, hb⟩
      have hbn : Below WP.heap.size WP wn := Below.trans hHeld2 (hb.mono (Below.size hHeld2))
      dsimp only
      refine hK.out _ _ hbn (fun _ => ?_)
      clear hK K
      (try simp only [Act.put, List.setIfInBounds_toArray, List.set_cons_zero, List.set_cons_succ])
      have hgz : wn.heap[WP.heap.size]? = some (.cells zeroStCells 34 (0, 0)) := (hb.block _ (by simp)).trans (heap_alloc_last WP _)
      refine wpAnyH_take (i := 13) (v := ?_) rfl (by kernel_rfl) (by kernel_rfl) (by kernel_rfl) (fun _ _ _ h => h) (Or.inl ⟨by rfl, ?_⟩) hbn ?_
      rotate_left
      · (intro W hSW; go_simp; try (with_reducible rfl))
      (try simp only [Act.put, List.setIfInBounds_toArray])
      refine wpAnyH_take (i := 14) (v := ?_) rfl (by kernel_rfl) (by kernel_rfl) (by kernel_rfl) (fun _ _ _ h => h) (Or.inl ⟨by rfl, ?_⟩) hbn ?_
      rotate_left
      · (intro W hSW; go_simp; try (with_reducible rfl))
      (try simp only [Act.put])
      refine wpAnyH_take (i := 15) (v := ?_) rfl (by kernel_rfl) (by kernel_rfl) (by kernel_rfl) (fun _ _ _ h => h) (Or.inl ⟨by rfl, ?_⟩) hbn ?_
      rotate_left
      · (intro W hSW; go_simp; try (with_reducible rfl))
      (try simp only [Act.put])
      refine wpAnyH_ready (rs := [17]) (by kernel_rfl) (by simp) ?_
      refine AllReadyH.cons rfl (fun K hK => ?_) AllReadyH.nil
      refine wp_store_row 34 _ _ rfl WP.heap.size csn rfl rfl 34 zeroStCells hgz c1 c2 c3 ?_
      have BN : Below WP.heap.size WP (World.setRow wn WP.heap.size csn) := below_setRow hbn (by first | exact Nat.le_refl _ | exact hbn.size) _
      refine hK.out _ _ BN (fun _ => ?_)
      clear hK K
      (try simp only [Act.put])
      refine wpAnyH_ready (rs := [18]) (by kernel_rfl) (by simp) ?_
      refine AllReadyH.cons rfl (fun K hK => ?_) AllReadyH.nil
      go_simp
      refine hK.out _ _ BN (fun _ => ?_)
      clear hK K
      (try simp only [Act.put, List.setIfInBounds_toArray, List.set_cons_zero, List.set_cons_succ])
      refine wpAnyH_done (by kernel_rfl) ?_ _
      go_wp2_with fail
      go_meet
      exact ⟨_, csn, rfl, rfl, setRow_heap _ _ _ _ _ _ hgz, c1, BN, by first | exact Nat.le_refl _ | exact hbn.size, (hst.setRow (by simp) _).mono (by simp)⟩
  case rest =>
    obtain ⟨Gr, csr, rfl, rfl, rowGr, qr, Br, hGr, str⟩ := hcut
    obtain ⟨R, hRe⟩ : ∃ R, R = walkS P (F + 1) S := ⟨_, rfl⟩
    have HAR : Hid (AnsOf (ln.take m) R) := by rw [hRe]; exact walk_ans HANS.out (F + 1)
    have HEN : Hid (R.status ≠ 0) := by rw [hRe]; exact run_ended HR.out HRV.out (F + 1) (by rw [HSF.out]; omega)
    have HM16 : Hid (R.mem.length = 16) := by rw [hRe]; exact (runInv_walk HR.out (F + 1) HRV.out).mem
    have HTW : Hid (R.events.length ≤ m → walkS P (F + 1) (addA (lm.take mm) S) = addA (lm.take mm) R) := fun h => by rw [hRe] at h ⊢; exact walk_addA HANS.out (F + 1) (by rw [HLT.out]; exact h)
    rw [← hRe] at str
    clear hRe HRX
    have HALN : Hid (R.answers.length = m - R.events.length) := by show _ = _; rw [HAR.out, List.length_drop, HLT.out]
    have HROW : Hid (wc.heap[Gr]? = some (.cells csr 34 (0, 0))) := rowGr
    have HSTR : Hid (StVal wc (.agg csr) R) := str.val
    obtain ⟨k0, k1, k19, fr0, fc0, er, ec, ar, ac, -, k20, k21⟩ := str.val.at
    have c20 : wc.cell? ⟨Gr, 20, none⟩ = some (.slice er R.events.length ec) := by rw [cell_of_row _ _ _ _ _ _ rowGr]; exact k20
    have c21 : wc.cell? ⟨Gr, 21, none⟩ = some (.slice ar R.answers.length ac) := by rw [cell_of_row _ _ _ _ _ _ rowGr]; exact k21
    have HBr : Hid (Below WP.heap.size WP wc) := Br
    have HWF : Hid (∀ W, Below WP.heap.size WP W → Below w.heap.size w W) := fun W hb => B01.out.trans (hb.mono B01.out.size)
    have HFAC : Hid (∀ W, Below WP.heap.size WP W → W.cell? ⟨PB, 0, none⟩ = some (.slice (some ⟨b, off, none⟩) P.length cap0) ∧ W.cell? ⟨b, off, none⟩ = some (.int .i64 (p : Int)) ∧ W.cell? ⟨w.heap.size, 3, none⟩ = some (.int .i64 fuel)) := fun W hb => ⟨(HP.out _ hb).1, keeps_below hb _ _ d0, keeps_below hb _ _ I3⟩
    clear rowGr str k0 k1 k19 k20 k21 Br kp d0 I3 I2 rI
    by_cases hgt : m < R.events.length
    · have hd1 : decide ((m : Int) < (R.events.length : Int)) = true := by simp only [decide_eq_true_eq]; omega
      have hd1n : decide (m < R.events.length) = true := by simp only [decide_eq_true_eq]; omega
      have hz : R.answers.length = 0 := by rw [HALN.out]; omega
      rw [hz] at c21
      clear hz
      generalize R.events.length = ev at *
      go_wp2
      go_ret
      exact ⟨rfl, HWF.out _ HBr.out⟩
    · have hd1 : decide ((m : Int) < (R.events.length : Int)) = false := by simp only [decide_eq_false_iff_not]; omega
      have hd1n : decide (m < R.events.length) = false := by simp only [decide_eq_false_iff_not]; omega
      have HTE := HTW.out (by omega)
      have HTE2 : Hid (walkS P (F + 1) (addA (lm.take mm) S) = addA (lm.take mm) R) := HTE
      clear HTE
      obtain ⟨i64i, hi64, hz0, hz1', hz2⟩ := info_parts info64
      obtain ⟨ao1, cap1, hv1, hno1, hns1⟩ := ints_slice (HAW.out _ HBr.out).2
      obtain ⟨-, -, -⟩ : ao1 = nao ∧ True ∧ True := ⟨by have := Value.slice.inj hv1; exact this.1.symm, trivial, trivial⟩
      have hmvc := ints_cut (HMV.out _ (HWF.out _ HBr.out)) hmml
      have HMC : Hid (∀ W, Below wc.heap.size wc W → IntsVal W (.slice mao mm mcp) (lm.take mm)) := fun W hb => hmvc.keeps (keeps_below hb)
      have HNC : Hid (∀ W, Below wc.heap.size wc W → IntsVal W (.slice nao m nc) (ln.take m)) := fun W hb => (HAW.out _ (HBr.out.trans (hb.mono HBr.out.size))).2
      clear hv1 hno1 hns1 hmvc
      go_upto_region 6 with fail
      clear c20 c21
      refine wp_region_held_drew (S := fun W => Below wc.heap.size wc W) (by kernel_rfl) ((Below.refl _ _).drew) (fun hHeld => ?_)
      show wpAnyH _ _ _ _ _ 9 _ _ _
      refine wpAnyH_take (i := 0) (v := ?_) rfl (by kernel_rfl) (by kernel_rfl) (by kernel_rfl) (fun _ _ _ h => h) (Or.inl ⟨by rfl, ?_⟩) (by assumption) ?_
      rotate_left
      · (intro W hSW; go_simp; try (with_reducible rfl))
      (try simp only [Act.put, List.setIfInBounds_toArray])
      refine wpAnyH_take (i := 2) (v := ?_) rfl (by kernel_rfl) (by kernel_rfl) (by kernel_rfl) (fun _ _ _ h => h) (Or.inl ⟨by rfl, ?_⟩) (by assumption) ?_
      rotate_left
      · (intro W hSW; go_simp; try (with_reducible rfl))
      (try simp only [Act.put])
      refine wpAnyH_take (i := 3) (v := ?_) rfl (by kernel_rfl) (by kernel_rfl) (by kernel_rfl) (fun _ _ _ h => h) (Or.inl ⟨by rfl, ?_⟩) (by assumption) ?_
      rotate_left
      · (intro W hSW; go_simp; try (with_reducible rfl))
      (try simp only [Act.put])
      refine wpAnyH_take (i := 4) (v := ?_) rfl (by kernel_rfl) (by kernel_rfl) (by kernel_rfl) (fun _ _ _ h => h) (Or.inl ⟨by rfl, ?_⟩) (by assumption) ?_
      rotate_left
      · (intro W hSW; go_simp; try (with_reducible rfl))
      (try simp only [Act.put])
      refine wpAnyH_take (i := 5) (v := ?_) rfl (by kernel_rfl) (by kernel_rfl) (by kernel_rfl) (fun _ _ _ h => h) (Or.inl ⟨by rfl, ?_⟩) (by assumption) ?_
      rotate_left
      · (intro W hSW; go_simp; try (with_reducible rfl))
      (try simp only [Act.put])
      refine wpAnyH_take (i := 6) (v := ?_) rfl (by kernel_rfl) (by kernel_rfl) (by kernel_rfl) (fun _ _ _ h => h) (Or.inl ⟨by rfl, ?_⟩) (by assumption) ?_
      rotate_left
      · (intro W hSW; go_simp; try (with_reducible rfl))
      (try simp only [Act.put])
      refine wpAnyH_ready (rs := [1]) (by kernel_rfl) (by simp) ?_
      refine AllReadyH.cons rfl (fun K hK => ?_) AllReadyH.nil
      obtain ⟨ao1, cap1, hv1, hno1, hns1⟩ := ints_slice (HNC.out _ hHeld)
      rw [HLT.out] at hv1 hno1
      obtain ⟨rfl, rfl⟩ : nao = ao1 ∧ nc = cap1 := by have := Value.slice.inj hv1; exact ⟨this.1, this.2.2⟩
      refine wp_append_slice (.const (.slice none 0 0)) (.tmp 57) 24 rfl wc.heap.size 3 i64i _ 1 8 Tryd.underlying24 hi64 hz0 hz1' hz2 rfl (by decide) (.slice none 0 0) 0 [] rfl (World.ownsRow_nil _ _ _ _) nao m nc (i64s (ln.take m)) rfl hno1 (by rw [show (i64s (ln.take m)).length = (ln.take m).length by simp [i64s], HLT.out]; omega) hns1 (i64s_one _) (by unfold maxLen; omega) (by omega) (Nat.le_refl _) ?_
      intro v1 w7 ho1 hg1
      obtain ⟨bo, bc, rfl⟩ := own_shape ho1
      have hb7 : Below wc.heap.size wc w7 := hHeld.trans ((below_grown hg1).mono (Nat.le_refl _))
      refine hK.out _ _ hb7 (fun _ => ?_)
      clear hK K
      try dsimp only
      (try simp only [List.getElem_toArray, List.getElem_cons_succ, List.getElem_cons_zero, List.set_cons_zero, List.set_cons_succ])
      (try simp only [Act.put, List.setIfInBounds_toArray, List.set_cons_zero, List.set_cons_succ])
      refine wpAnyH_ready (rs := [7]) (by kernel_rfl) (by simp) ?_
      refine AllReadyH.cons rfl (fun K hK => ?_) AllReadyH.nil
      obtain ⟨ao2, cap2, hv2, hno2, hns2⟩ := ints_slice (HMC.out _ hb7)
      rw [HLM2.out] at hv2 hno2
      obtain ⟨rfl, rfl⟩ : mao = ao2 ∧ mcp = cap2 := by have := Value.slice.inj hv2; exact ⟨this.1, this.2.2⟩
      refine wp_append_slice (.tmp 58) (.tmp 63) 24 rfl wc.heap.size 3 i64i _ 1 8 Tryd.underlying24 hi64 hz0 hz1' hz2 rfl (by decide) _ (0 + m) ([] ++ i64s (ln.take m)) rfl ho1 mao mm mcp (i64s (lm.take mm)) rfl hno2 (by rw [show (i64s (lm.take mm)).length = (lm.take mm).length by simp [i64s], HLM2.out]; omega) hns2 (i64s_one _) (by unfold maxLen; omega) (by omega) hb7.size ?_
      intro v2 w8 ho2 hg2
      obtain ⟨bo2, bc2, rfl⟩ := own_shape ho2
      have hb8 : Below wc.heap.size wc w8 := hb7.trans (grown_base ho1 hb7.size hg2)
      refine hK.out _ _ hb8 (fun _ => ?_)
      clear hK K
      try dsimp only
      (try simp only [List.getElem_toArray, List.getElem_cons_succ, List.getElem_cons_zero])
      (try simp only [Act.put, List.setIfInBounds_toArray, List.set_cons_zero, List.set_cons_succ])
      refine wpAnyH_take (i := 8) (v := ?_) rfl (by kernel_rfl) (by kernel_rfl) (by kernel_rfl) (fun _ _ _ h => h) (Or.inl ⟨by rfl, ?_⟩) hb8 ?_
      rotate_left
      · (intro W hSW; go_simp; try (with_reducible rfl))
      (try simp only [List.getElem_toArray, List.getElem_cons_succ, List.getElem_cons_zero])
      (try simp only [Act.put, List.setIfInBounds_toArray, List.set_cons_zero, List.set_cons_succ])
      refine wpAnyH_done (by kernel_rfl) ?_ _
      have hlen : 0 + m + mm = (ln.take m ++ lm.take mm).length := by rw [List.length_append, HLT.out, HLM2.out]; omega
      have hIB : IntsVal w8 (.slice bo2 (0 + m + mm) bc2) (ln.take m ++ lm.take mm) := by
        have h := ho2
        rw [List.nil_append, ← i64s_append] at h
        rw [hlen] at h ⊢
        exact ints_of_own h
      have e0 : 0 + m + mm = m + mm := by omega
      rw [e0] at hIB ⊢
      (try rw [show 0 + m = m from Nat.zero_add m])
      have HIB : Hid (∀ W, Below w8.heap.size w8 W → IntsVal W (.slice bo2 (m + mm) bc2) (ln.take m ++ lm.take mm)) := fun W hb => hIB.keeps (keeps_below hb)
      have HB8 : Hid (Below WP.heap.size WP w8) := HBr.out.trans (hb8.mono HBr.out.size)
      have HRX : Hid (∀ W, Below w8.heap.size w8 W → Calls Tryd.prog 20 #[.agg #[.slice (some ⟨b, off, none⟩) P.length cap0], .slice (some ⟨w.heap.size, 0, none⟩) p 2, .slice bo2 (m + mm) bc2, .int .i64 (F : Int)] W fun e w' => ∃ cs, e = .returned (.tuple #[.agg cs, .int .i64 0]) ∧ (Tryd.prog.info? 34).map (·.size) = some cs.size ∧ zeroStCells.size = cs.size ∧ cs.all (·.oneCell') = true ∧ StAt w' W.heap.size (.agg cs) (walkS P (F + 1) (addA (lm.take mm) S)) ∧ Below W.heap.size W w') := fun W hb => HRUN2.out W _ (HB8.out.trans (hb.mono HB8.out.size)) (HIB.out _ hb)
      obtain ⟨kp, d0, I3⟩ := HFAC.out w8 HB8.out
      have HROW8 : Hid (w8.heap[Gr]? = some (.cells csr 34 (0, 0)) ∧ StVal w8 (.agg csr) R) := ⟨(hb8.block _ (lt_of_block HROW.out)).trans HROW.out, HSTR.out.keeps (keeps_below hb8)⟩
      generalize hmq : m + mm = mq at *
      have HMQ : Hid (m + mm = mq) := hmq
      have hmq20 : mq ≤ 20 := by omega
      clear hmq ho1 ho2 hg1 hg2 hb7 hb8 hHeld hno1 hns1 hv1 hno2 hns2 hv2 hIB hlen e0 HROW HSTR
      go_upto_region 7 with fail
      go_cut [12, 13] from 65 to 80 (fun t e wx => ∃ (G : Nat) (csn : Array Value), t = .pointer (some ⟨G, 0, none⟩) ∧ e = .int .i64 0 ∧ wx.heap[G]? = some (.cells csn 34 (0, 0)) ∧ (Tryd.prog.info? 34).map (·.size) = some csn.size ∧ Below w8.heap.size w8 wx ∧ w8.heap.size ≤ G ∧ StAt wx w8.heap.size (.agg csn) (walkS P (F + 1) (addA (lm.take mm) S)))
      case first =>
        refine wp_region_held_drew (S := fun W => Below w8.heap.size w8 W) (by kernel_rfl) ((Below.refl _ _).drew) (fun hHeld => ?_)
        show wpAnyH _ _ _ _ _ 19 _ _ _
        refine wpAnyH_take (i := 0) (v := ?_) rfl (by kernel_rfl) (by kernel_rfl) (by kernel_rfl) (fun _ _ _ h => h) (Or.inl ⟨by rfl, ?_⟩) (by assumption) ?_
        rotate_left
        · (intro W hSW; have z0 := keeps_below hSW _ _ kp; go_simp; try (with_reducible rfl))
        (try simp only [Act.put, List.setIfInBounds_toArray])
        refine wpAnyH_take (i := 1) (v := ?_) rfl (by kernel_rfl) (by kernel_rfl) (by kernel_rfl) (fun _ _ _ h => h) (Or.inl ⟨by rfl, ?_⟩) (by assumption) ?_
        rotate_left
        · (intro W hSW; go_simp; try (with_reducible rfl))
        (try simp only [Act.put])
        refine wpAnyH_take (i := 2) (v := ?_) rfl (by kernel_rfl) (by kernel_rfl) (by kernel_rfl) (fun _ _ _ h => h) (Or.inl ⟨by rfl, ?_⟩) (by assumption) ?_
        rotate_left
        · (intro W hSW; go_simp; try (with_reducible rfl))
        (try simp only [Act.put])
        refine wpAnyH_take (i := 3) (v := ?_) rfl (by kernel_rfl) (by kernel_rfl) (by kernel_rfl) (fun _ _ _ h => h) (Or.inl ⟨by rfl, ?_⟩) (by assumption) ?_
        rotate_left
        · (intro W hSW; have z0 := keeps_below hSW _ _ kp; go_simp; try (with_reducible rfl))
        (try simp only [Act.put])
        refine wpAnyH_take (i := 4) (v := ?_) rfl (by kernel_rfl) (by kernel_rfl) (by kernel_rfl) (fun _ _ _ h => h) (Or.inl ⟨by rfl, ?_⟩) (by assumption) ?_
        rotate_left
        · (intro W hSW; go_simp; try (with_reducible rfl))
        (try simp only [Act.put])
        refine wpAnyH_take (i := 5) (v := ?_) rfl (by kernel_rfl) (by kernel_rfl) (by kernel_rfl) (fun _ _ _ h => h) (Or.inl ⟨by rfl, ?_⟩) (by assumption) ?_
        rotate_left
        · (intro W hSW; go_simp; try (with_reducible rfl))
        (try simp only [Act.put])
        refine wpAnyH_take (i := 6) (v := ?_) rfl (by kernel_rfl) (by kernel_rfl) (by kernel_rfl) (fun _ _ _ h => h) (Or.inl ⟨by rfl, ?_⟩) (by assumption) ?_
        rotate_left
        · (intro W hSW; have z0 := keeps_below hSW _ _ d0; go_simp; try (with_reducible rfl))
        (try simp only [Act.put])
        refine wpAnyH_take (i := 7) (v := ?_) rfl (by kernel_rfl) (by kernel_rfl) (by kernel_rfl) (fun _ _ _ h => h) (Or.inl ⟨by rfl, ?_⟩) (by assumption) ?_
        rotate_left
        · (intro W hSW; go_simp; try (with_reducible rfl))
        (try simp only [Act.put])
        refine wpAnyH_take (i := 8) (v := ?_) rfl (by kernel_rfl) (by kernel_rfl) (by kernel_rfl) (fun _ _ _ h => h) (Or.inl ⟨by rfl, ?_⟩) (by assumption) ?_
        rotate_left
        · (intro W hSW; go_simp; try (with_reducible rfl))
        (try simp only [Act.put])
        refine wpAnyH_take (i := 9) (v := ?_) rfl (by kernel_rfl) (by kernel_rfl) (by kernel_rfl) (fun _ _ _ h => h) (Or.inl ⟨by rfl, ?_⟩) (by assumption) ?_
        rotate_left
        · (intro W hSW; go_simp; try (with_reducible rfl))
        (try simp only [Act.put])
        refine wpAnyH_take (i := 10) (v := ?_) rfl (by kernel_rfl) (by kernel_rfl) (by kernel_rfl) (fun _ _ _ h => h) (Or.inl ⟨by rfl, ?_⟩) (by assumption) ?_
        rotate_left
        · (intro W hSW; have z0 := keeps_below hSW _ _ I3; go_simp; try (with_reducible rfl))
        (try simp only [Act.put])
        refine wpAnyH_ready (rs := [11, 16]) (by kernel_rfl) (by simp) ?_
        refine AllReadyH.cons rfl (fun K hK => ?_) (AllReadyH.cons rfl (fun K hK => ?_) AllReadyH.nil)
        · go_simp
          go_at_call 21
          refine (HPK.out _).mono ?_
          rintro e wp ⟨rfl, hwp⟩
          replace hwp := hwp.symm
          subst hwp
          dsimp only
          refine hK.out _ _ hHeld (fun _ => ?_)
          clear hK K
          (try simp only [Act.put, List.setIfInBounds_toArray, List.set_cons_zero, List.set_cons_succ])
          refine wpAnyH_ready (rs := [12, 16]) (by kernel_rfl) (by simp) ?_
          refine AllReadyH.cons rfl (fun K hK => ?_) (AllReadyH.cons rfl (fun K hK => ?_) AllReadyH.nil)
          · go_simp
            go_at_call 20
            refine (HRX.out _ hHeld).mono ?_
            rintro e wn ⟨csn, rfl, c1, c2, c3, hst, hb⟩
            have hbn : Below w8.heap.size w8 wn := Below.trans hHeld (hb.mono (Below.size hHeld))
            dsimp only
            refine hK.out _ _ hbn (fun _ => ?_)
            clear hK K
            (try simp only [Act.put, List.setIfInBounds_toArray, List.set_cons_zero, List.set_cons_succ])
            refine wpAnyH_take (i := 13) (v := ?_) rfl (by kernel_rfl) (by kernel_rfl) (by kernel_rfl) (fun _ _ _ h => h) (Or.inl ⟨by rfl, ?_⟩) hbn ?_
            rotate_left
            · (intro W hSW; go_simp; try (with_reducible rfl))
            (try simp only [Act.put, List.setIfInBounds_toArray])
            refine wpAnyH_take (i := 14) (v := ?_) rfl (by kernel_rfl) (by kernel_rfl) (by kernel_rfl) (fun _ _ _ h => h) (Or.inl ⟨by rfl, ?_⟩) hbn ?_
            rotate_left
            · (intro W hSW; go_simp; try (with_reducible rfl))
            (try simp only [Act.put])
            refine wpAnyH_take (i := 15) (v := ?_) rfl (by kernel_rfl) (by kernel_rfl) (by kernel_rfl) (fun _ _ _ h => h) (Or.inl ⟨by rfl, ?_⟩) hbn ?_
            rotate_left
            · (intro W hSW; go_simp; try (with_reducible rfl))
            (try simp only [Act.put])
            refine wpAnyH_ready (rs := [16]) (by kernel_rfl) (by simp) ?_
            refine AllReadyH.cons rfl (fun K hK => ?_) AllReadyH.nil
            go_simp
            refine hK.out _ _ (hbn.alloc hbn.size _) (fun hHeld2 => ?_)
            clear hK K
            (try simp only [Act.put, List.setIfInBounds_toArray, List.set_cons_zero, List.set_cons_succ])
            refine wpAnyH_ready (rs := [17]) (by kernel_rfl) (by simp) ?_
            refine AllReadyH.cons rfl (fun K hK => ?_) AllReadyH.nil
            refine wp_store_row 34 _ _ rfl wn.heap.size csn rfl rfl 34 zeroStCells (heap_alloc_last wn _) c1 c2 c3 ?_
            have BN : Below w8.heap.size w8 (World.setRow (wn.alloc (.cells #[.int .i64 0, .int .i64 0, .slice none 0 0, .int .i64 0, .int .i64 0, .int .i64 0, .int .i64 0, .int .i64 0, .int .i64 0, .int .i64 0, .int .i64 0, .int .i64 0, .int .i64 0, .int .i64 0, .int .i64 0, .int .i64 0, .int .i64 0, .int .i64 0, .int .i64 0, .int .i64 0, .slice none 0 0, .slice none 0 0] 34)) wn.heap.size csn) := below_setRow (hbn.alloc hbn.size _) (by first | exact Nat.le_refl _ | exact hbn.size) _
            refine hK.out _ _ BN (fun _ => ?_)
            clear hK K
            (try simp only [Act.put, List.setIfInBounds_toArray])
            refine wpAnyH_ready (rs := [18]) (by kernel_rfl) (by simp) ?_
            refine AllReadyH.cons rfl (fun K hK => ?_) AllReadyH.nil
            go_simp
            refine hK.out _ _ BN (fun _ => ?_)
            clear hK K
            (try simp only [Act.put, List.setIfInBounds_toArray, List.set_cons_zero, List.set_cons_succ])
            refine wpAnyH_done (by kernel_rfl) ?_ _
            go_wp2_with fail
            go_meet
            exact ⟨_, csn, rfl, rfl, setRow_heap _ _ _ _ _ _ (heap_alloc_last wn _), c1, BN, by first | exact Nat.le_refl _ | exact hbn.size, (hst.moved (fun ad u ha hu => (World.cell?_of_block (setRow_other _ _ _ _ (by have := World.block_lt_of_cell? _ _ hu; omega))).trans (cell_alloc hu _))).mono (Below.size hHeld)⟩
          · go_simp
            refine hK.out _ _ ((Below.refl _ _).alloc (Nat.le_refl _) _).drew (fun hHeld2 => ?_)
            clear hK K
            (try simp only [Act.put, List.setIfInBounds_toArray, List.set_cons_zero, List.set_cons_succ])
            refine wpAnyH_ready (rs := [12]) (by kernel_rfl) (by simp) ?_
            refine AllReadyH.cons rfl (fun K hK => ?_) AllReadyH.nil
            go_simp
            go_at_call 20
            refine (HRX.out _ hHeld2).mono ?_
            rintro e wn ⟨csn, rfl, c1, c2, c3, hst, hb⟩
            have hbn : Below w8.heap.size w8 wn := Below.trans hHeld2 (hb.mono (Below.size hHeld2))
            dsimp only
            refine hK.out _ _ hbn (fun _ => ?_)
            clear hK K
            (try simp only [Act.put, List.setIfInBounds_toArray, List.set_cons_zero, List.set_cons_succ])
            have hgz : wn.heap[w8.heap.size]? = some (.cells zeroStCells 34 (0, 0)) := (hb.block _ (by simp)).trans (heap_alloc_last w8 _)
            refine wpAnyH_take (i := 13) (v := ?_) rfl (by kernel_rfl) (by kernel_rfl) (by kernel_rfl) (fun _ _ _ h => h) (Or.inl ⟨by rfl, ?_⟩) hbn ?_
            rotate_left
            · (intro W hSW; go_simp; try (with_reducible rfl))
            (try simp only [Act.put, List.setIfInBounds_toArray])
            refine wpAnyH_take (i := 14) (v := ?_) rfl (by kernel_rfl) (by kernel_rfl) (by kernel_rfl) (fun _ _ _ h => h) (Or.inl ⟨by rfl, ?_⟩) hbn ?_
            rotate_left
            · (intro W hSW; go_simp; try (with_reducible rfl))
            (try simp only [Act.put])
            refine wpAnyH_take (i := 15) (v := ?_) rfl (by kernel_rfl) (by kernel_rfl) (by kernel_rfl) (fun _ _ _ h => h) (Or.inl ⟨by rfl, ?_⟩) hbn ?_
            rotate_left
            · (intro W hSW; go_simp; try (with_reducible rfl))
            (try simp only [Act.put])
            refine wpAnyH_ready (rs := [17]) (by kernel_rfl) (by simp) ?_
            refine AllReadyH.cons rfl (fun K hK => ?_) AllReadyH.nil
            refine wp_store_row 34 _ _ rfl w8.heap.size csn rfl rfl 34 zeroStCells hgz c1 c2 c3 ?_
            have BN : Below w8.heap.size w8 (World.setRow wn w8.heap.size csn) := below_setRow hbn (by first | exact Nat.le_refl _ | exact hbn.size) _
            refine hK.out _ _ BN (fun _ => ?_)
            clear hK K
            (try simp only [Act.put])
            refine wpAnyH_ready (rs := [18]) (by kernel_rfl) (by simp) ?_
            refine AllReadyH.cons rfl (fun K hK => ?_) AllReadyH.nil
            go_simp
            refine hK.out _ _ BN (fun _ => ?_)
            clear hK K
            (try simp only [Act.put, List.setIfInBounds_toArray, List.set_cons_zero, List.set_cons_succ])
            refine wpAnyH_done (by kernel_rfl) ?_ _
            go_wp2_with fail
            go_meet
            exact ⟨_, csn, rfl, rfl, setRow_heap _ _ _ _ _ _ hgz, c1, BN, by first | exact Nat.le_refl _ | exact hbn.size, (hst.setRow (by simp) _).mono (by simp)⟩
        · go_simp
          refine hK.out _ _ ((Below.refl _ _).alloc (Nat.le_refl _) _).drew (fun hHeld2 => ?_)
          clear hK K
          (try simp only [Act.put, List.setIfInBounds_toArray, List.set_cons_zero, List.set_cons_succ])
          refine wpAnyH_ready (rs := [11]) (by kernel_rfl) (by simp) ?_
          refine AllReadyH.cons rfl (fun K hK => ?_) AllReadyH.nil
          go_simp
          go_at_call 21
          refine (HPK.out _).mono ?_
          rintro e wp ⟨rfl, hwp⟩
          replace hwp := hwp.symm
          subst hwp
          dsimp only
          refine hK.out _ _ hHeld2 (fun _ => ?_)
          clear hK K
          (try simp only [Act.put, List.setIfInBounds_toArray, List.set_cons_zero, List.set_cons_succ])
          refine wpAnyH_ready (rs := [12]) (by kernel_rfl) (by simp) ?_
          refine AllReadyH.cons rfl (fun K hK => ?_) AllReadyH.nil
          go_simp
          go_at_call 20
          refine (HRX.out _ hHeld2).mono ?_
          rintro e wn ⟨csn, rfl, c1, c2, c3, hst, hb⟩
          have hbn : Below w8.heap.size w8 wn := Below.trans hHeld2 (hb.mono (Below.size hHeld2))
          dsimp only
          refine hK.out _ _ hbn (fun _ => ?_)
          clear hK K
          (try simp only [Act.put, List.setIfInBounds_toArray, List.set_cons_zero, List.set_cons_succ])
          have hgz : wn.heap[w8.heap.size]? = some (.cells zeroStCells 34 (0, 0)) := (hb.block _ (by simp)).trans (heap_alloc_last w8 _)
          refine wpAnyH_take (i := 13) (v := ?_) rfl (by kernel_rfl) (by kernel_rfl) (by kernel_rfl) (fun _ _ _ h => h) (Or.inl ⟨by rfl, ?_⟩) hbn ?_
          rotate_left
          · (intro W hSW; go_simp; try (with_reducible rfl))
          (try simp only [Act.put, List.setIfInBounds_toArray])
          refine wpAnyH_take (i := 14) (v := ?_) rfl (by kernel_rfl) (by kernel_rfl) (by kernel_rfl) (fun _ _ _ h => h) (Or.inl ⟨by rfl, ?_⟩) hbn ?_
          rotate_left
          · (intro W hSW; go_simp; try (with_reducible rfl))
          (try simp only [Act.put])
          refine wpAnyH_take (i := 15) (v := ?_) rfl (by kernel_rfl) (by kernel_rfl) (by kernel_rfl) (fun _ _ _ h => h) (Or.inl ⟨by rfl, ?_⟩) hbn ?_
          rotate_left
          · (intro W hSW; go_simp; try (with_reducible rfl))
          (try simp only [Act.put])
          refine wpAnyH_ready (rs := [17]) (by kernel_rfl) (by simp) ?_
          refine AllReadyH.cons rfl (fun K hK => ?_) AllReadyH.nil
          refine wp_store_row 34 _ _ rfl w8.heap.size csn rfl rfl 34 zeroStCells hgz c1 c2 c3 ?_
          have BN : Below w8.heap.size w8 (World.setRow wn w8.heap.size csn) := below_setRow hbn (by first | exact Nat.le_refl _ | exact hbn.size) _
          refine hK.out _ _ BN (fun _ => ?_)
          clear hK K
          (try simp only [Act.put])
          refine wpAnyH_ready (rs := [18]) (by kernel_rfl) (by simp) ?_
          refine AllReadyH.cons rfl (fun K hK => ?_) AllReadyH.nil
          go_simp
          refine hK.out _ _ BN (fun _ => ?_)
          clear hK K
          (try simp only [Act.put, List.setIfInBounds_toArray, List.set_cons_zero, List.set_cons_succ])
          refine wpAnyH_done (by kernel_rfl) ?_ _
          go_wp2_with fail
          go_meet
          exact ⟨_, csn, rfl, rfl, setRow_heap _ _ _ _ _ _ hgz, c1, BN, by first | exact Nat.le_refl _ | exact hbn.size, (hst.setRow (by simp) _).mono (by simp)⟩
      case rest =>
        obtain ⟨Gt, cst, rfl, rfl, rowGt, qt, Bt, hGt, stt⟩ := hcut
        rename World => wz
        rw [HTE2.out] at stt
        obtain ⟨rowR, svR⟩ := HROW8.out
        have hrowR := (Bt.block _ (lt_of_block rowR)).trans rowR
        have svR2 := svR.keeps (keeps_below Bt)
        have svT := stt.val
        have HWL : Hid (Below w.heap.size w wz) := HWF.out _ (HB8.out.trans (Bt.mono HB8.out.size))
        have hm16 := HM16.out
        obtain ⟨m0, m1, m2, m3, m4, m5, m6, m7, m8, m9, m10, m11, m12, m13, m14, m15, hml⟩ := list16_keep hm16
        have x0 : wz.cell? ⟨Gr, 3, none⟩ = some (.int .i64 m0) := by rw [cell_of_row _ _ _ _ _ _ hrowR, show 3 = 3 + 0 by omega, svR2.memAt 0 (by omega), hml]; rfl
        have y0 : wz.cell? ⟨Gt, 3, none⟩ = some (.int .i64 m0) := by rw [cell_of_row _ _ _ _ _ _ rowGt, show 3 = 3 + 0 by omega, svT.memAt 0 (by omega), show (addA (lm.take mm) R).mem = R.mem from rfl, hml]; rfl
        have x1 : wz.cell? ⟨Gr, 4, none⟩ = some (.int .i64 m1) := by rw [cell_of_row _ _ _ _ _ _ hrowR, show 4 = 3 + 1 by omega, svR2.memAt 1 (by omega), hml]; rfl
        have y1 : wz.cell? ⟨Gt, 4, none⟩ = some (.int .i64 m1) := by rw [cell_of_row _ _ _ _ _ _ rowGt, show 4 = 3 + 1 by omega, svT.memAt 1 (by omega), show (addA (lm.take mm) R).mem = R.mem from rfl, hml]; rfl
        have x2 : wz.cell? ⟨Gr, 5, none⟩ = some (.int .i64 m2) := by rw [cell_of_row _ _ _ _ _ _ hrowR, show 5 = 3 + 2 by omega, svR2.memAt 2 (by omega), hml]; rfl
        have y2 : wz.cell? ⟨Gt, 5, none⟩ = some (.int .i64 m2) := by rw [cell_of_row _ _ _ _ _ _ rowGt, show 5 = 3 + 2 by omega, svT.memAt 2 (by omega), show (addA (lm.take mm) R).mem = R.mem from rfl, hml]; rfl
        have x3 : wz.cell? ⟨Gr, 6, none⟩ = some (.int .i64 m3) := by rw [cell_of_row _ _ _ _ _ _ hrowR, show 6 = 3 + 3 by omega, svR2.memAt 3 (by omega), hml]; rfl
        have y3 : wz.cell? ⟨Gt, 6, none⟩ = some (.int .i64 m3) := by rw [cell_of_row _ _ _ _ _ _ rowGt, show 6 = 3 + 3 by omega, svT.memAt 3 (by omega), show (addA (lm.take mm) R).mem = R.mem from rfl, hml]; rfl
        have x4 : wz.cell? ⟨Gr, 7, none⟩ = some (.int .i64 m4) := by rw [cell_of_row _ _ _ _ _ _ hrowR, show 7 = 3 + 4 by omega, svR2.memAt 4 (by omega), hml]; rfl
        have y4 : wz.cell? ⟨Gt, 7, none⟩ = some (.int .i64 m4) := by rw [cell_of_row _ _ _ _ _ _ rowGt, show 7 = 3 + 4 by omega, svT.memAt 4 (by omega), show (addA (lm.take mm) R).mem = R.mem from rfl, hml]; rfl
        have x5 : wz.cell? ⟨Gr, 8, none⟩ = some (.int .i64 m5) := by rw [cell_of_row _ _ _ _ _ _ hrowR, show 8 = 3 + 5 by omega, svR2.memAt 5 (by omega), hml]; rfl
        have y5 : wz.cell? ⟨Gt, 8, none⟩ = some (.int .i64 m5) := by rw [cell_of_row _ _ _ _ _ _ rowGt, show 8 = 3 + 5 by omega, svT.memAt 5 (by omega), show (addA (lm.take mm) R).mem = R.mem from rfl, hml]; rfl
        have x6 : wz.cell? ⟨Gr, 9, none⟩ = some (.int .i64 m6) := by rw [cell_of_row _ _ _ _ _ _ hrowR, show 9 = 3 + 6 by omega, svR2.memAt 6 (by omega), hml]; rfl
        have y6 : wz.cell? ⟨Gt, 9, none⟩ = some (.int .i64 m6) := by rw [cell_of_row _ _ _ _ _ _ rowGt, show 9 = 3 + 6 by omega, svT.memAt 6 (by omega), show (addA (lm.take mm) R).mem = R.mem from rfl, hml]; rfl
        have x7 : wz.cell? ⟨Gr, 10, none⟩ = some (.int .i64 m7) := by rw [cell_of_row _ _ _ _ _ _ hrowR, show 10 = 3 + 7 by omega, svR2.memAt 7 (by omega), hml]; rfl
        have y7 : wz.cell? ⟨Gt, 10, none⟩ = some (.int .i64 m7) := by rw [cell_of_row _ _ _ _ _ _ rowGt, show 10 = 3 + 7 by omega, svT.memAt 7 (by omega), show (addA (lm.take mm) R).mem = R.mem from rfl, hml]; rfl
        have x8 : wz.cell? ⟨Gr, 11, none⟩ = some (.int .i64 m8) := by rw [cell_of_row _ _ _ _ _ _ hrowR, show 11 = 3 + 8 by omega, svR2.memAt 8 (by omega), hml]; rfl
        have y8 : wz.cell? ⟨Gt, 11, none⟩ = some (.int .i64 m8) := by rw [cell_of_row _ _ _ _ _ _ rowGt, show 11 = 3 + 8 by omega, svT.memAt 8 (by omega), show (addA (lm.take mm) R).mem = R.mem from rfl, hml]; rfl
        have x9 : wz.cell? ⟨Gr, 12, none⟩ = some (.int .i64 m9) := by rw [cell_of_row _ _ _ _ _ _ hrowR, show 12 = 3 + 9 by omega, svR2.memAt 9 (by omega), hml]; rfl
        have y9 : wz.cell? ⟨Gt, 12, none⟩ = some (.int .i64 m9) := by rw [cell_of_row _ _ _ _ _ _ rowGt, show 12 = 3 + 9 by omega, svT.memAt 9 (by omega), show (addA (lm.take mm) R).mem = R.mem from rfl, hml]; rfl
        have x10 : wz.cell? ⟨Gr, 13, none⟩ = some (.int .i64 m10) := by rw [cell_of_row _ _ _ _ _ _ hrowR, show 13 = 3 + 10 by omega, svR2.memAt 10 (by omega), hml]; rfl
        have y10 : wz.cell? ⟨Gt, 13, none⟩ = some (.int .i64 m10) := by rw [cell_of_row _ _ _ _ _ _ rowGt, show 13 = 3 + 10 by omega, svT.memAt 10 (by omega), show (addA (lm.take mm) R).mem = R.mem from rfl, hml]; rfl
        have x11 : wz.cell? ⟨Gr, 14, none⟩ = some (.int .i64 m11) := by rw [cell_of_row _ _ _ _ _ _ hrowR, show 14 = 3 + 11 by omega, svR2.memAt 11 (by omega), hml]; rfl
        have y11 : wz.cell? ⟨Gt, 14, none⟩ = some (.int .i64 m11) := by rw [cell_of_row _ _ _ _ _ _ rowGt, show 14 = 3 + 11 by omega, svT.memAt 11 (by omega), show (addA (lm.take mm) R).mem = R.mem from rfl, hml]; rfl
        have x12 : wz.cell? ⟨Gr, 15, none⟩ = some (.int .i64 m12) := by rw [cell_of_row _ _ _ _ _ _ hrowR, show 15 = 3 + 12 by omega, svR2.memAt 12 (by omega), hml]; rfl
        have y12 : wz.cell? ⟨Gt, 15, none⟩ = some (.int .i64 m12) := by rw [cell_of_row _ _ _ _ _ _ rowGt, show 15 = 3 + 12 by omega, svT.memAt 12 (by omega), show (addA (lm.take mm) R).mem = R.mem from rfl, hml]; rfl
        have x13 : wz.cell? ⟨Gr, 16, none⟩ = some (.int .i64 m13) := by rw [cell_of_row _ _ _ _ _ _ hrowR, show 16 = 3 + 13 by omega, svR2.memAt 13 (by omega), hml]; rfl
        have y13 : wz.cell? ⟨Gt, 16, none⟩ = some (.int .i64 m13) := by rw [cell_of_row _ _ _ _ _ _ rowGt, show 16 = 3 + 13 by omega, svT.memAt 13 (by omega), show (addA (lm.take mm) R).mem = R.mem from rfl, hml]; rfl
        have x14 : wz.cell? ⟨Gr, 17, none⟩ = some (.int .i64 m14) := by rw [cell_of_row _ _ _ _ _ _ hrowR, show 17 = 3 + 14 by omega, svR2.memAt 14 (by omega), hml]; rfl
        have y14 : wz.cell? ⟨Gt, 17, none⟩ = some (.int .i64 m14) := by rw [cell_of_row _ _ _ _ _ _ rowGt, show 17 = 3 + 14 by omega, svT.memAt 14 (by omega), show (addA (lm.take mm) R).mem = R.mem from rfl, hml]; rfl
        have x15 : wz.cell? ⟨Gr, 18, none⟩ = some (.int .i64 m15) := by rw [cell_of_row _ _ _ _ _ _ hrowR, show 18 = 3 + 15 by omega, svR2.memAt 15 (by omega), hml]; rfl
        have y15 : wz.cell? ⟨Gt, 18, none⟩ = some (.int .i64 m15) := by rw [cell_of_row _ _ _ _ _ _ rowGt, show 18 = 3 + 15 by omega, svT.memAt 15 (by omega), show (addA (lm.take mm) R).mem = R.mem from rfl, hml]; rfl
        have hq16 : ∀ w, (Op.equalIn 10000 32 (.agg #[.int .i64 m0, .int .i64 m1, .int .i64 m2, .int .i64 m3, .int .i64 m4, .int .i64 m5, .int .i64 m6, .int .i64 m7, .int .i64 m8, .int .i64 m9, .int .i64 m10, .int .i64 m11, .int .i64 m12, .int .i64 m13, .int .i64 m14, .int .i64 m15]) (.agg #[.int .i64 m0, .int .i64 m1, .int .i64 m2, .int .i64 m3, .int .i64 m4, .int .i64 m5, .int .i64 m6, .int .i64 m7, .int .i64 m8, .int .i64 m9, .int .i64 m10, .int .i64 m11, .int .i64 m12, .int .i64 m13, .int .i64 m14, .int .i64 m15])).run Tryd.prog w = .ok true w := fun w => equal_ints_keep 32 [m0, m1, m2, m3, m4, m5, m6, m7, m8, m9, m10, m11, m12, m13, m14, m15] 9998 w Tryd.underlying32
        obtain ⟨k0, k1, k19, -, -, er, ec, ar, ac, -, k20, k21⟩ := svR2.at
        obtain ⟨l0, l1, l19, -, -, er2, ec2, ar2, ac2, -, l20, l21⟩ := svT.at
        have a0c : wz.cell? ⟨Gr, 0, none⟩ = some (.int .i64 R.status) := by rw [cell_of_row _ _ _ _ _ _ hrowR]; exact k0
        have a1c : wz.cell? ⟨Gr, 1, none⟩ = some (.int .i64 R.value) := by rw [cell_of_row _ _ _ _ _ _ hrowR]; exact k1
        have a19 : wz.cell? ⟨Gr, 19, none⟩ = some (.int .i64 R.fuel) := by rw [cell_of_row _ _ _ _ _ _ hrowR]; exact k19
        have a20 : wz.cell? ⟨Gr, 20, none⟩ = some (.slice er R.events.length ec) := by rw [cell_of_row _ _ _ _ _ _ hrowR]; exact k20
        have b0c : wz.cell? ⟨Gt, 0, none⟩ = some (.int .i64 R.status) := by rw [cell_of_row _ _ _ _ _ _ rowGt]; exact l0
        have b1c : wz.cell? ⟨Gt, 1, none⟩ = some (.int .i64 R.value) := by rw [cell_of_row _ _ _ _ _ _ rowGt]; exact l1
        have b19 : wz.cell? ⟨Gt, 19, none⟩ = some (.int .i64 R.fuel) := by rw [cell_of_row _ _ _ _ _ _ rowGt]; exact l19
        have b20 : wz.cell? ⟨Gt, 20, none⟩ = some (.slice er2 R.events.length ec2) := by rw [cell_of_row _ _ _ _ _ _ rowGt]; exact l20
        have hal2 : (addA (lm.take mm) R).answers.length = mq - R.events.length := by
          show (R.answers ++ lm.take mm).length = _
          rw [List.length_append, HALN.out, HLM2.out]
          have := HMQ.out
          omega
        rw [hal2] at l21
        have b21 : wz.cell? ⟨Gt, 21, none⟩ = some (.slice ar2 (mq - R.events.length) ac2) := by rw [cell_of_row _ _ _ _ _ _ rowGt]; exact l21
        have hSI : Calls Tryd.prog 24 #[.slice er R.events.length ec, .slice er2 R.events.length ec2] wz fun e w' => e = .returned (.bool true) ∧ Below wz.heap.size wz w' := by
          obtain ⟨fv3, ev3, av3, ea3, -, -, he3, -⟩ := svR2
          obtain ⟨fv4, ev4, av4, ea4, -, -, he4, -⟩ := svT
          have g3 : ev3 = .slice er R.events.length ec := by have h := k20; rw [Value.agg.inj ea3, (stCells_get _ _ _ _ hm16).2.1] at h; exact Option.some.inj h
          have g4 : ev4 = .slice er2 R.events.length ec2 := by have h := l20; rw [Value.agg.inj ea4, (stCells_get _ _ _ _ (show (addA (lm.take mm) R).mem.length = 16 from hm16)).2.1] at h; exact Option.some.inj h
          rw [g3] at he3
          rw [g4] at he4
          exact sameInts_keep R.events _ _ wz he3 he4
        have hne : (R.status != 0) = true := by simpa using HEN.out
        have heq : IntKind.i64.wrap ((mq : Int) - (R.events.length : Int)) = ((mq - R.events.length : Nat) : Int) := by have := HMQ.out; rw [show (mq : Int) - (R.events.length : Int) = ((mq - R.events.length : Nat) : Int) by omega]; exact wrap_fits _ (by omega) (by omega)
        have HSI : Hid (Calls Tryd.prog 24 #[.slice er R.events.length ec, .slice er2 R.events.length ec2] wz fun e w' => e = .returned (.bool true) ∧ Below wz.heap.size wz w') := hSI
        have HB21 : Hid (wz.cell? ⟨Gt, 21, none⟩ = some (.slice ar2 (mq - R.events.length) ac2)) := b21
        have HB20 : Hid (wz.cell? ⟨Gt, 20, none⟩ = some (.slice er2 R.events.length ec2)) := b20
        clear k0 k1 k19 k20 k21 l0 l1 l19 l20 l21 hal2 hSI svR2 svT svR rowR hrowR rowGt stt Bt hml hm16 kp d0 I3 hd1 hd1n
        generalize mq - R.events.length = la at *
        generalize R.events.length = el at *
        generalize R.status = rs at *
        generalize R.value = rv at *
        generalize R.fuel = rf at *
        go_wp2_with (go_at_call 24; refine HSI.out.mono ?_; rintro e w9 ⟨rfl, hb9⟩; have b21 := keeps_below hb9 _ _ HB21.out; have b20 := keeps_below hb9 _ _ HB20.out)
        go_ret
        exact ⟨by simp, HWL.out.trans (hb9.mono HWL.out.size)⟩
end Go.Proofs.YtpkgibdbmmhgdaaDoor
