/- The walk of tierlinekeep.CountsFlow: at all raw numbers it says true, and nothing that was there has turned. -/
import Derived.Test.YtpkgibdbmmhgdaaDoorXKRun
import Derived.Test.YtpkgibdbmmhgdaaDoorXKRunX
import Derived.Test.YtpkgibdbmmhgdaaDoorXCountSum
import Derived.Test.YtpkgibdbmmhgdaaDoorXFlowTarget
namespace Go.Proofs.YtpkgibdbmmhgdaaDoor
open Go Go.RowKit

set_option maxHeartbeats 8000000 in
set_option maxRecDepth 100000 in
theorem countsFlow_walk (l : List Fn) (v : Value) (a0 a1 fuel : Int) (nv : Value) (ln : List Int) (w : World) (ht : TabOk w) (hc : CallOk w) (hv : ProgVal w v l) (hwf : ∀ f ∈ l, f.wf) (hn : IntsVal w nv ln) (hfu : I64 fuel) :
    Calls Tryd.prog 8 #[v, inVal a0 a1 nv fuel] w fun e w' => e = .returned (.bool true) ∧ Below w.heap.size w w' := by
  obtain ⟨nao, nc, rfl⟩ := hn.shape
  obtain ⟨lao, ll, lc, rfl⟩ := hv.shape
  have HTC : Hid (∀ W, Below w.heap.size w W → TabOk W ∧ CallOk W) := fun W hb => ⟨ht.below hb, hc.below hb⟩
  have HB0 : Hid (Below w.heap.size w (w.alloc (.cells #[.int .i64 a0, .int .i64 a1, .slice nao ln.length nc, .int .i64 fuel] 26))) := (Below.refl _ _).alloc (Nat.le_refl _) _
  have HPR : Hid (Calls Tryd.prog 14 #[.slice lao ll lc] (w.alloc (.cells #[.int .i64 a0, .int .i64 a1, .slice nao ln.length nc, .int .i64 fuel] 26)) fun e w' => ∃ ao n cap P, e = .returned (.agg #[.slice ao n cap]) ∧ ProofAns P 0 ∧ ProgVal w' (.slice ao n cap) P ∧ Below (w.alloc (.cells #[.int .i64 a0, .int .i64 a1, .slice nao ln.length nc, .int .i64 fuel] 26)).heap.size (w.alloc (.cells #[.int .i64 a0, .int .i64 a1, .slice nao ln.length nc, .int .i64 fuel] 26)) w') := kprog l _ _ (HTC.out _ HB0.out).1 (HTC.out _ HB0.out).2 (hv.keeps (keeps_below HB0.out)) hwf
  have HNV : Hid (∀ W, Below w.heap.size w W → IntsVal W (.slice nao ln.length nc) ln) := fun W hb => hn.keeps (keeps_below hb)
  have HFU : Hid (I64 fuel) := hfu
  unfold inVal
  clear ht hc hv hwf hn hfu
  go_enter Tryd.func8, Tryd.ntmps8
  go_upto_region 2 with (go_at_call 14; refine HPR.out.mono ?_; rintro e w1 ⟨ao, n0, cap0, P, rfl, hR, hpv, hb1⟩)
  have HR : Hid (ProofAns P 0) := hR
  have B01 : Hid (Below w.heap.size w (w1.alloc (.cells #[.slice ao n0 cap0] 29))) := (HB0.out.trans (hb1.mono (by simp))).alloc (by have := hb1.size; simp at this; omega) _
  have I1 : (w1.alloc (.cells #[.slice ao n0 cap0] 29)).heap[w.heap.size]? = some (.cells #[.int .i64 a0, .int .i64 a1, .slice nao ln.length nc, .int .i64 fuel] 26 (0, 0)) := (heap_alloc_old _ _ (by have := hb1.size; simp at this; omega)).trans ((hb1.block _ (by simp)).trans (heap_alloc_last w _))
  have HP : Hid (∀ W, Below (w1.alloc (.cells #[.slice ao n0 cap0] 29)).heap.size (w1.alloc (.cells #[.slice ao n0 cap0] 29)) W → W.cell? ⟨w1.heap.size, 0, none⟩ = some (.slice ao n0 cap0) ∧ ProgVal W (.slice ao n0 cap0) P ∧ TabOk W ∧ CallOk W) := fun W hb => ⟨keeps_below hb _ _ (by rw [cell_of_row _ _ _ _ _ _ (heap_alloc_last w1 _)]; rfl), (hpv.keeps (keeps_below ((Below.refl _ _).alloc (Nat.le_refl _) _))).keeps (keeps_below hb), (HTC.out _ (B01.out.trans (hb.mono B01.out.size))).1, (HTC.out _ (B01.out.trans (hb.mono B01.out.size))).2⟩
  clear hR hpv hb1 HPR HB0
  generalize (w1.alloc (.cells #[.slice ao n0 cap0] 29)) = WP at *
  generalize w1.heap.size = PB at *
  obtain ⟨b, off, cap, hvs, d0, hp1, hpc, hpm, q0, q2p⟩ := right_head HR.out (HP.out _ (Below.refl _ _)).2.1
  obtain ⟨rfl, rfl, rfl⟩ : ao = some ⟨b, off, none⟩ ∧ n0 = P.length ∧ cap0 = cap := by simpa using hvs
  obtain ⟨p, hp⟩ := Int.eq_ofNat_of_zero_le q0
  have hp2 : p ≤ 2 := by omega
  have hpI : (p : Int) ≤ 2 := by omega
  rw [hp] at d0
  have HPP : Hid (par0 P = p) := hp
  unfold maxLen at hpm
  have hP0 : (0 : Int) < P.length := by omega
  have hP0n : 0 < P.length := by omega
  obtain ⟨m, hm⟩ : ∃ m : Nat, m = min ln.length 10 := ⟨_, rfl⟩
  have hml : m ≤ ln.length := by omega
  have hmI : (m : Int) ≤ ln.length := by omega
  have hmin : (if (10 : Int) < (ln.length : Int) then (10 : Int) else (ln.length : Int)) = (m : Int) := by split <;> omega
  have hnc := ints_cap (HNV.out _ (Below.refl _ _))
  have hmc : m ≤ nc := by omega
  have hm10 : m ≤ 10 := by omega
  have HLM : Hid (ln.take m = ln.take 10) := by show _ = _; rw [hm]; exact take_ten ln
  obtain ⟨F, hF, eF⟩ : ∃ x : Nat, x < 300 ∧ pickI fuel 300 = x := by have b := pickI_bounds fuel 300 (by omega); obtain ⟨k, hk⟩ := Int.eq_ofNat_of_zero_le b.1; exact ⟨k, by omega, hk⟩
  have HPK : Hid (∀ W, Calls Tryd.prog 21 #[.int .i64 fuel, .int .i64 300] W fun e w' => e = .returned (.int .i64 (F : Int)) ∧ w' = W) := fun W => by have := picked_any fuel 300 W HFU.out (by omega) (by omega); rw [eF] at this; exact this
  have rI : WP.heap[w.heap.size]? = some (.cells #[.int .i64 a0, .int .i64 a1, .slice nao ln.length nc, .int .i64 fuel] 26 (0, 0)) := ((Below.refl _ _).block _ (lt_of_block I1)).trans I1
  have I2 : WP.cell? ⟨w.heap.size, 2, none⟩ = some (.slice nao ln.length nc) := by rw [cell_of_row _ _ _ _ _ _ rI]; rfl
  have I3 : WP.cell? ⟨w.heap.size, 3, none⟩ = some (.int .i64 fuel) := by rw [cell_of_row _ _ _ _ _ _ rI]; rfl
  have HIA : Hid (IntsVal WP (.slice (some ⟨w.heap.size, 0, none⟩) p 2) ([a0, a1].take p)) := args_vals rI hp2
  have HIN : Hid (IntsVal w (.slice nao m nc) (ln.take m)) := ints_cut (HNV.out _ (Below.refl _ _)) hml
  have HAL : Hid ((([a0, a1].take p).length : Int) = par0 P) := by show _ = _; rw [HPP.out, List.length_take]; simp only [List.length_cons, List.length_nil]; omega
  have HNL : Hid ((ln.take m).length ≤ 100) := by show _ ≤ _; rw [List.length_take]; omega
  clear hvs q0 q2p hp eF hm
  have kp := (HP.out _ (Below.refl _ _)).1
  have HAW : Hid (∀ W, Below WP.heap.size WP W → IntsVal W (.slice (some ⟨w.heap.size, 0, none⟩) p 2) ([a0, a1].take p) ∧ IntsVal W (.slice nao m nc) (ln.take m)) := fun W hb => ⟨HIA.out.keeps (keeps_below hb), HIN.out.keeps (keeps_below (B01.out.trans (hb.mono B01.out.size)))⟩
  have HRV : Hid (RunInv P (beginSt ([a0, a1].take p) (ln.take m) (F : Int))) := runInv_begin HR.out _ _ _ (by have := HAL.out; have := HPP.out; omega) HNL.out (by omega) (by omega)
  have HCT : Hid (∀ W, Below WP.heap.size WP W → Calls Tryd.prog 28 #[.agg #[.slice (some ⟨b, off, none⟩) P.length cap0], .slice (some ⟨w.heap.size, 0, none⟩) p 2, .slice nao m nc, .int .i64 (F : Int)] W fun e w' => ∃ g VV n, e = .returned (.tuple #[.slice (some ⟨g, 0, none⟩) P.length P.length, .int .i64 0]) ∧ CntAt w' g P.length VV (cntS P (beginSt ([a0, a1].take p) (ln.take m) F) n) ∧ (walkS P n (beginSt ([a0, a1].take p) (ln.take m) F)).status ≠ 0 ∧ W.heap.size ≤ g ∧ Below W.heap.size W w') := fun W hb => counts_any P _ _ _ ([a0, a1].take p) (ln.take m) F W (HP.out _ hb).2.2.1 (HP.out _ hb).2.2.2 HR.out (HP.out _ hb).2.1 (HAW.out _ hb).1 (HAW.out _ hb).2 HAL.out HNL.out (by omega)
  have HBT : Hid (∀ a b, Eligible P a b → ¬ AtTop (beginSt ([a0, a1].take p) (ln.take m) (F : Int)) a b) := fun a b h => begin_notTop _ _ _ P a b h
  generalize beginSt ([a0, a1].take p) (ln.take m) (F : Int) = S at *
  refine wp_region_held_drew (S := fun W => Below WP.heap.size WP W) (by kernel_rfl) ((Below.refl _ _).drew) (fun hHeld => ?_)
  show wpAnyH _ _ _ _ _ 24 _ _ _
  refine wpAnyH_take (i := 0) (v := ?_) rfl (by kernel_rfl) (by kernel_rfl) (by kernel_rfl) (fun _ _ _ h => h) (Or.inl ⟨by rfl, ?_⟩) (by assumption) ?_
  rotate_left
  · (intro W hSW; have z0 := keeps_below hSW _ _ kp; go_simp; try (with_reducible rfl))
  (try simp only [Act.put, List.setIfInBounds_toArray])
  refine wpAnyH_take (i := 1) (v := ?_) rfl (by kernel_rfl) (by kernel_rfl) (by kernel_rfl) (fun _ _ _ h => h) (Or.inl ⟨by rfl, ?_⟩) (by assumption) ?_
  rotate_left
  · (intro W hSW; go_simp; try (with_reducible rfl))
  (try simp only [Act.put])
  refine wpAnyH_take (i := 2) (v := ?_) rfl (by kernel_rfl) (by kernel_rfl) (by kernel_rfl) (fun _ _ _ h => h) (Or.inl ⟨by rfl, ?_⟩) (by assumption) ?_
  rotate_left
  · (intro W hSW; go_simp; try (with_reducible rfl))
  (try simp only [Act.put])
  refine wpAnyH_take (i := 3) (v := ?_) rfl (by kernel_rfl) (by kernel_rfl) (by kernel_rfl) (fun _ _ _ h => h) (Or.inl ⟨by rfl, ?_⟩) (by assumption) ?_
  rotate_left
  · (intro W hSW; have z0 := keeps_below hSW _ _ kp; go_simp; try (with_reducible rfl))
  (try simp only [Act.put])
  refine wpAnyH_take (i := 4) (v := ?_) rfl (by kernel_rfl) (by kernel_rfl) (by kernel_rfl) (fun _ _ _ h => h) (Or.inl ⟨by rfl, ?_⟩) (by assumption) ?_
  rotate_left
  · (intro W hSW; go_simp; try (with_reducible rfl))
  (try simp only [Act.put])
  refine wpAnyH_take (i := 5) (v := ?_) rfl (by kernel_rfl) (by kernel_rfl) (by kernel_rfl) (fun _ _ _ h => h) (Or.inl ⟨by rfl, ?_⟩) (by assumption) ?_
  rotate_left
  · (intro W hSW; go_simp; try (with_reducible rfl))
  (try simp only [Act.put])
  refine wpAnyH_take (i := 6) (v := ?_) rfl (by kernel_rfl) (by kernel_rfl) (by kernel_rfl) (fun _ _ _ h => h) (Or.inl ⟨by rfl, ?_⟩) (by assumption) ?_
  rotate_left
  · (intro W hSW; have z0 := keeps_below hSW _ _ d0; go_simp; try (with_reducible rfl))
  (try simp only [Act.put])
  refine wpAnyH_take (i := 7) (v := ?_) rfl (by kernel_rfl) (by kernel_rfl) (by kernel_rfl) (fun _ _ _ h => h) (Or.inl ⟨by rfl, ?_⟩) (by assumption) ?_
  rotate_left
  · (intro W hSW; go_simp; try (with_reducible rfl))
  (try simp only [Act.put])
  refine wpAnyH_take (i := 8) (v := ?_) rfl (by kernel_rfl) (by kernel_rfl) (by kernel_rfl) (fun _ _ _ h => h) (Or.inl ⟨by rfl, ?_⟩) (by assumption) ?_
  rotate_left
  · (intro W hSW; go_simp; try (with_reducible rfl))
  (try simp only [Act.put])
  refine wpAnyH_take (i := 9) (v := ?_) rfl (by kernel_rfl) (by kernel_rfl) (by kernel_rfl) (fun _ _ _ h => h) (Or.inl ⟨by rfl, ?_⟩) (by assumption) ?_
  rotate_left
  · (intro W hSW; have z0 := keeps_below hSW _ _ I2; go_simp; try (with_reducible rfl))
  (try simp only [Act.put])
  refine wpAnyH_take (i := 10) (v := ?_) rfl (by kernel_rfl) (by kernel_rfl) (by kernel_rfl) (fun _ _ _ h => h) (Or.inl ⟨by rfl, ?_⟩) (by assumption) ?_
  rotate_left
  · (intro W hSW; go_simp; try (with_reducible rfl))
  (try simp only [Act.put])
  refine wpAnyH_take (i := 11) (v := ?_) rfl (by kernel_rfl) (by kernel_rfl) (by kernel_rfl) (fun _ _ _ h => h) (Or.inl ⟨by rfl, ?_⟩) (by assumption) ?_
  rotate_left
  · (intro W hSW; have z0 := keeps_below hSW _ _ I2; go_simp; try (with_reducible rfl))
  (try simp only [Act.put])
  refine wpAnyH_take (i := 12) (v := ?_) rfl (by kernel_rfl) (by kernel_rfl) (by kernel_rfl) (fun _ _ _ h => h) (Or.inl ⟨by rfl, ?_⟩) (by assumption) ?_
  rotate_left
  · (intro W hSW; go_simp; try (with_reducible rfl))
  (try simp only [Act.put])
  refine wpAnyH_take (i := 13) (v := ?_) rfl (by kernel_rfl) (by kernel_rfl) (by kernel_rfl) (fun _ _ _ h => h) (Or.inl ⟨by rfl, ?_⟩) (by assumption) ?_
  rotate_left
  · (intro W hSW; go_simp; try (with_reducible rfl))
  (try simp only [Act.put])
  refine wpAnyH_take (i := 14) (v := ?_) rfl (by kernel_rfl) (by kernel_rfl) (by kernel_rfl) (fun _ _ _ h => h) (Or.inl ⟨by rfl, ?_⟩) (by assumption) ?_
  rotate_left
  · (intro W hSW; go_simp; try (with_reducible rfl))
  (try simp only [Act.put])
  refine wpAnyH_take (i := 15) (v := ?_) rfl (by kernel_rfl) (by kernel_rfl) (by kernel_rfl) (fun _ _ _ h => h) (Or.inl ⟨by rfl, ?_⟩) (by assumption) ?_
  rotate_left
  · (intro W hSW; go_simp; try (with_reducible rfl))
  (try simp only [Act.put])
  refine wpAnyH_take (i := 16) (v := ?_) rfl (by kernel_rfl) (by kernel_rfl) (by kernel_rfl) (fun _ _ _ h => h) (Or.inl ⟨by rfl, ?_⟩) (by assumption) ?_
  rotate_left
  · (intro W hSW; have z0 := keeps_below hSW _ _ I3; go_simp; try (with_reducible rfl))
  (try simp only [Act.put])
  refine wpAnyH_ready (rs := [17]) (by kernel_rfl) (by simp) ?_
  refine AllReadyH.cons rfl (fun K hK => ?_) AllReadyH.nil
  go_simp
  go_at_call 21
  refine (HPK.out _).mono ?_
  rintro e wp ⟨rfl, hwp⟩
  replace hwp := hwp.symm
  subst hwp
  dsimp only
  refine hK.out _ _ hHeld (fun _ => ?_)
  clear hK K
  (try simp only [Act.put, List.setIfInBounds_toArray, List.set_cons_zero, List.set_cons_succ])
  refine wpAnyH_ready (rs := [18]) (by kernel_rfl) (by simp) ?_
  refine AllReadyH.cons rfl (fun K hK => ?_) AllReadyH.nil
  go_simp
  go_at_call 28
  refine (HCT.out _ hHeld).mono ?_
  rintro e w2 ⟨g, VV, n, rfl, hcn, hend, hgw, hb2⟩
  have hbn : Below WP.heap.size WP w2 := Below.trans hHeld (hb2.mono (Below.size hHeld))
  dsimp only
  refine hK.out _ _ hbn (fun _ => ?_)
  clear hK K
  (try simp only [Act.put, List.setIfInBounds_toArray, List.set_cons_zero, List.set_cons_succ])
  refine wpAnyH_take (i := 19) (v := ?_) rfl (by kernel_rfl) (by kernel_rfl) (by kernel_rfl) (fun _ _ _ h => h) (Or.inl ⟨by rfl, ?_⟩) hbn ?_
  rotate_left
  · (intro W hSW; go_simp; try (with_reducible rfl))
  (try simp only [Act.put, List.setIfInBounds_toArray])
  refine wpAnyH_take (i := 20) (v := ?_) rfl (by kernel_rfl) (by kernel_rfl) (by kernel_rfl) (fun _ _ _ h => h) (Or.inl ⟨by rfl, ?_⟩) hbn ?_
  rotate_left
  · (intro W hSW; go_simp; try (with_reducible rfl))
  (try simp only [Act.put])
  refine wpAnyH_take (i := 21) (v := ?_) rfl (by kernel_rfl) (by kernel_rfl) (by kernel_rfl) (fun _ _ _ h => h) (Or.inl ⟨by rfl, ?_⟩) hbn ?_
  rotate_left
  · (intro W hSW; go_simp; try (with_reducible rfl))
  (try simp only [Act.put])
  refine wpAnyH_take (i := 22) (v := ?_) rfl (by kernel_rfl) (by kernel_rfl) (by kernel_rfl) (fun _ _ _ h => h) (Or.inl ⟨by rfl, ?_⟩) hbn ?_
  rotate_left
  · (intro W hSW; go_simp; try (with_reducible rfl))
  (try simp only [Act.put])
  refine wpAnyH_take (i := 23) (v := ?_) rfl (by kernel_rfl) (by kernel_rfl) (by kernel_rfl) (fun _ _ _ h => h) (Or.inl ⟨by rfl, ?_⟩) hbn ?_
  rotate_left
  · (intro W hSW; go_simp; try (with_reducible rfl))
  (try simp only [Act.put])
  refine wpAnyH_done (by kernel_rfl) ?_ _
  have HW4 : Hid (Below WP.heap.size WP w2) := hbn
  have HSH : Hid (CShape P (cntS P S n)) := cshape_cnt P S n
  have HWF : Hid (Below w.heap.size w w2) := B01.out.trans (HW4.out.mono B01.out.size)
  have HFL : Hid (∀ a b, Eligible P a b → (AtTop (walkS P n S) a b → cellC (cntS P S n) a (b - 1) - cellC (cntS P S n) a b = 1) ∧ (¬ AtTop (walkS P n S) a b → cellC (cntS P S n) a (b - 1) - cellC (cntS P S n) a b = 0)) := fun a b hel => by
    have h := cnt_flow HR.out HRV.out HBT.out hel n
    exact ⟨fun ht => by rw [if_pos ht] at h; exact h, fun ht => by rw [if_neg ht] at h; exact h⟩
  have HRD : Hid (∀ i, (hi : i < P.length) → ∃ r c, (∀ W, Below w2.heap.size w2 W → W.cell? ⟨g, i, none⟩ = some (.slice (some ⟨r, 0, none⟩) P[i].code.length c) ∧ ∀ j, j < P[i].code.length → W.cell? ⟨r, j, none⟩ = some (.int .i64 (cellC (cntS P S n) i j))) ∧ P[i].code.length ≤ c) := fun i hi => by
    obtain ⟨r, c, h1, h2, h3⟩ := hcn.read HSH.out hi (fnOk_of (right_code HR.out) (List.getElem_mem hi)).1.len1
    exact ⟨r, c, fun W hW => ⟨keeps_below hW _ _ h1, fun j hj => keeps_below hW _ _ (h3 j hj)⟩, h2⟩
  have HFN : Hid (∀ i, (hi : i < P.length) → ∃ (b1 o1 c1 : Nat), (∀ W, Below w2.heap.size w2 W → W.cell? ⟨PB, 0, none⟩ = some (.slice (some ⟨b, off, none⟩) P.length cap0) ∧ W.cell? ⟨b, off + i * 3, none⟩ = some (.int .i64 P[i].params) ∧ W.cell? ⟨b, off + i * 3 + 1, none⟩ = some (.int .i64 P[i].regs) ∧ W.cell? ⟨b, off + i * 3 + 2, none⟩ = some (.slice (some ⟨b1, o1, none⟩) P[i].code.length c1) ∧ ∀ q, q < P[i].code.length → W.cell? ⟨b1, o1 + q * 5, none⟩ = some (.int .i64 (insD P[i] q).op) ∧ W.cell? ⟨b1, o1 + q * 5 + 4, none⟩ = some (.int .i64 (insD P[i] q).imm)) ∧ P[i].code.length ≤ c1) := fun i hi => by
    have hl1 := (fnOk_of (right_code HR.out) (List.getElem_mem hi)).1.len1
    obtain ⟨b', off', cap', u, e, d0, d1, d2, hcv, -, -⟩ := prog_fn (HP.out _ HW4.out).2.1 hi
    obtain ⟨⟨rfl, rfl⟩, -⟩ : (b = b' ∧ off = off') ∧ cap0 = cap' := by simpa using e
    obtain ⟨ao1, b1, off1, nn, cap1, rfl, ⟨hln, had1, hat1⟩, hcp1, -⟩ := hcv
    obtain rfl := had1 (by omega)
    refine ⟨b1, off1, cap1, fun W hW => ⟨(HP.out _ (HW4.out.trans (hW.mono HW4.out.size))).1, keeps_below hW _ _ d0, keeps_below hW _ _ d1, by rw [hln]; exact keeps_below hW _ _ d2, fun q hq => ?_⟩, by rw [hln]; exact hcp1.1⟩
    rw [insD_eq hq]
    obtain ⟨e0, -, -, -, e4⟩ := hat1 q hq
    exact ⟨keeps_below hW _ _ e0, keeps_below hW _ _ e4⟩
  have HCL : Hid (∀ i, (hi : i < P.length) → 1 ≤ P[i].code.length ∧ P[i].code.length ≤ 40) := fun i hi => ⟨(fnOk_of (right_code HR.out) (List.getElem_mem hi)).1.len1, (fnOk_of (right_code HR.out) (List.getElem_mem hi)).1.len2⟩
  have kp2 := (HP.out _ hbn).1
  clear hcn hend hgw hb2 hbn kp HCT HAW HIA HIN rI I1 I2 I3 d0 hmin hmI hml hmc hnc hm10 hpI hp2 hHeld
  obtain ⟨C, hC⟩ : ∃ C, C = cntS P S n := ⟨_, rfl⟩
  rw [← hC] at HFL HRD
  obtain ⟨T, hT⟩ : ∃ T, T = walkS P n S := ⟨_, rfl⟩
  rw [← hT] at HFL
  clear hC hT HSH
  go_upto_region 7 with fail
  clear kp2
  go_loopw [8, 9] (fun sm i wr => ∃ (q : Nat) (x : Int), q ≤ P.length ∧ i = .int .i64 q ∧ sm = .int .i64 x ∧ ShortOk T q 0 x ∧ Below w2.heap.size w2 wr) (fun _ i _ => P.length - (intOf i).toNat)
  case atStart => exact ⟨0, 0, Nat.zero_le _, rfl, rfl, ShortOk.start T, Below.refl _ _⟩
  case round =>
    obtain ⟨i, x, hi, rfl, rfl, hsh, hbo⟩ := hrel
    rename World => wo
    have HBO : Hid (Below w2.heap.size w2 wo) := hbo
    have HSHO : Hid (ShortOk T i 0 x) := hsh
    by_cases hlt : i < P.length
    · have hiI : (i : Int) < P.length := by omega
      obtain ⟨r, c, hrd, hlc⟩ := HRD.out i hlt
      obtain ⟨b1, o1, c1, hfn, hlc1⟩ := HFN.out i hlt
      obtain ⟨hl1, hl40⟩ := HCL.out i hlt
      obtain ⟨kp, f0, f1, f2, -⟩ := hfn wo hbo
      have HRR : Hid (∀ W, Below w2.heap.size w2 W → W.cell? ⟨g, i, none⟩ = some (.slice (some ⟨r, 0, none⟩) P[i].code.length c) ∧ ∀ j, j < P[i].code.length → W.cell? ⟨r, j, none⟩ = some (.int .i64 (cellC C i j))) := hrd
      have HCD : Hid (∀ W, Below w2.heap.size w2 W → ∀ q, q < P[i].code.length → W.cell? ⟨b1, o1 + q * 5, none⟩ = some (.int .i64 (insD P[i] q).op) ∧ W.cell? ⟨b1, o1 + q * 5 + 4, none⟩ = some (.int .i64 (insD P[i] q).imm)) := fun W hW q hq => (hfn W hW).2.2.2.2 q hq
      have HEL : Hid (∀ pc, 1 ≤ pc → anyT P[i] pc P[i].code.length = false → ¬ 15 ≤ (insD P[i] (pc - 1)).op → (AtTop T i pc → cellC C i (pc - 1) - cellC C i pc = 1) ∧ (¬ AtTop T i pc → cellC C i (pc - 1) - cellC C i pc = 0)) := fun pc h1 h2 h3 => HFL.out i pc (eligible_of hlt h1 h2 h3)
      clear hsh hbo hrd hfn
      generalize P[i] = f at *
      obtain ⟨nl, hnl⟩ : ∃ nl, nl = f.code.length := ⟨_, rfl⟩
      rw [← hnl] at HRR HCD HEL hlc hlc1 hl1 hl40 f2
      clear hnl
      have HBF : Hid (Below w2.heap.size w2 (wo.alloc (.cells #[.int .i64 f.params, .int .i64 f.regs, .slice (some ⟨b1, o1, none⟩) nl c1] 41))) := HBO.out.alloc HBO.out.size _
      have HF2 : Hid (∀ W, Below (wo.alloc (.cells #[.int .i64 f.params, .int .i64 f.regs, .slice (some ⟨b1, o1, none⟩) nl c1] 41)).heap.size (wo.alloc (.cells #[.int .i64 f.params, .int .i64 f.regs, .slice (some ⟨b1, o1, none⟩) nl c1] 41)) W → W.cell? ⟨wo.heap.size, 2, none⟩ = some (.slice (some ⟨b1, o1, none⟩) nl c1) ∧ Below w2.heap.size w2 W) := fun W hW => ⟨keeps_below hW _ _ (by rw [cell_of_row _ _ _ _ _ _ (heap_alloc_last wo _)]; rfl), HBF.out.trans (hW.mono HBF.out.size)⟩
      generalize f.params = fpa at *
      generalize f.regs = fre at *
      go_upto_region 10 with fail
      clear kp f0 f1 f2
      generalize (wo.alloc (.cells #[.int .i64 fpa, .int .i64 fre, .slice (some ⟨b1, o1, none⟩) nl c1] 41)) = WF at *
      obtain ⟨FB, hFB⟩ : ∃ FB, FB = wo.heap.size := ⟨_, rfl⟩
      rw [← hFB] at HF2 ⊢
      clear hFB
      obtain ⟨cg, -⟩ := HRR.out WF HBF.out
      obtain ⟨cf, -⟩ := HF2.out WF (Below.refl _ _)
      go_quiet (fail)
      go_upto_region 13 with fail
      clear cg cf
      go_loopw [8, 11] (fun sm pc wr => ∃ (q : Nat) (x : Int), 1 ≤ q ∧ (q ≤ nl ∨ q = 1) ∧ pc = .int .i64 q ∧ sm = .int .i64 x ∧ ShortOk T i q x ∧ Below WF.heap.size WF wr) (fun _ pc _ => nl + 1 - (intOf pc).toNat)
      case atStart => exact ⟨1, x, Nat.le_refl _, Or.inr rfl, rfl, rfl, HSHO.out.on (by omega), below_drewN (Below.refl _ _) _⟩
      case round =>
        obtain ⟨pc, x, hpc1, hpcn, rfl, rfl, hsh, hbp⟩ := hrel
        rename World => wp
        have HBP : Hid (Below WF.heap.size WF wp) := hbp
        have HSHP : Hid (ShortOk T i pc x) := hsh
        obtain ⟨cf, -⟩ := HF2.out wp hbp
        clear hsh hbp
        by_cases hlp : pc < nl
        · have hpcI : (pc : Int) < nl := by omega
          go_upto_region 17 with fail
          clear cf
          go_loopw [12, 13] (fun tg k wr => ∃ q : Nat, q ≤ nl ∧ k = .int .i64 q ∧ tg = .bool (anyT f pc q) ∧ Below WF.heap.size WF wr) (fun _ k _ => nl - (intOf k).toNat)
          case atStart => exact ⟨0, Nat.zero_le _, rfl, rfl, HBP.out⟩
          case round =>
            obtain ⟨k, hk, rfl, rfl, hbk⟩ := hrel
            rename World => wk
            have HBK : Hid (Below WF.heap.size WF wk) := hbk
            obtain ⟨cf, hbk2⟩ := HF2.out wk hbk
            by_cases hkn : k < nl
            · have hkI : (k : Int) < nl := by omega
              obtain ⟨e0, e4⟩ := HCD.out wk hbk2 k hkn
              have HN : Hid ((anyT f pc k = true → anyT f pc (k + 1) = true) ∧ (((insD f k).op = 15 ∨ (insD f k).op = 16) → (insD f k).imm = (pc : Int) → anyT f pc (k + 1) = true) ∧ (anyT f pc k = false → (insD f k).op ≠ 15 → (insD f k).op ≠ 16 → anyT f pc (k + 1) = false) ∧ (anyT f pc k = false → (insD f k).imm ≠ (pc : Int) → anyT f pc (k + 1) = false)) := ⟨anyT_more, anyT_yes, anyT_op, anyT_imm⟩
              clear hbk hbk2
              generalize (insD f k).op = op at *
              generalize (insD f k).imm = imm at *
              generalize anyT f pc k = tb at *
              cases tb
              · by_cases h15 : op = 15
                · subst h15
                  by_cases him : imm = (pc : Int)
                  · have hie : (imm == (pc : Int)) = true := by simpa using him
                    have HT : Hid (anyT f pc (k + 1) = true) := HN.out.2.1 (Or.inl rfl) him
                    go_wp2
                    go_roundw
                    case rel => exact ⟨k + 1, by omega, by go_num, by rw [HT.out], HBK.out⟩
                    case measure => simp [intOf]; omega
                  · have hie : (imm == (pc : Int)) = false := by simpa using him
                    have HT : Hid (anyT f pc (k + 1) = false) := HN.out.2.2.2 rfl him
                    go_wp2
                    go_roundw
                    case rel => exact ⟨k + 1, by omega, by go_num, by rw [HT.out], HBK.out⟩
                    case measure => simp [intOf]; omega
                · by_cases h16 : op = 16
                  · subst h16
                    by_cases him : imm = (pc : Int)
                    · have hie : (imm == (pc : Int)) = true := by simpa using him
                      have HT : Hid (anyT f pc (k + 1) = true) := HN.out.2.1 (Or.inr rfl) him
                      go_wp2
                      go_roundw
                      case rel => exact ⟨k + 1, by omega, by go_num, by rw [HT.out], HBK.out⟩
                      case measure => simp [intOf]; omega
                    · have hie : (imm == (pc : Int)) = false := by simpa using him
                      have HT : Hid (anyT f pc (k + 1) = false) := HN.out.2.2.2 rfl him
                      go_wp2
                      go_roundw
                      case rel => exact ⟨k + 1, by omega, by go_num, by rw [HT.out], HBK.out⟩
                      case measure => simp [intOf]; omega
                  · have h15b : (op == 15) = false := by simpa using h15
                    have h16b : (op == 16) = false := by simpa using h16
                    have HT : Hid (anyT f pc (k + 1) = false) := HN.out.2.2.1 rfl h15 h16
                    go_wp2
                    go_roundw
                    case rel => exact ⟨k + 1, by omega, by go_num, by rw [HT.out], HBK.out⟩
                    case measure => simp [intOf]; omega
              · have HT : Hid (anyT f pc (k + 1) = true) := HN.out.1 rfl
                go_wp2
                go_roundw
                case rel => exact ⟨k + 1, by omega, by go_num, by rw [HT.out], HBK.out⟩
                case measure => simp [intOf]; omega
            · obtain rfl : k = nl := by omega
              obtain ⟨pc1, hp1⟩ : ∃ pc1, pc1 = pc - 1 := ⟨_, rfl⟩
              have hpe : pc = pc1 + 1 := by omega
              have hw1 : IntKind.i64.wrap ((pc : Int) - 1) = (pc1 : Int) := by rw [show (pc : Int) - 1 = pc1 by omega]; exact wrap_fits _ (by omega) (by omega)
              have hp1I : (pc1 : Int) < k := by omega
              have hp1n : pc1 < k := by omega
              obtain ⟨e0, -⟩ := HCD.out wk hbk2 pc1 hp1n
              obtain ⟨cg, cr⟩ := HRR.out wk hbk2
              have cc0 := cr pc1 hp1n
              have cc1 := cr pc hlp
              have hE := HEL.out pc hpc1
              rw [← hp1] at hE
              have HE : Hid (anyT f pc k = false → ¬ 15 ≤ (insD f pc1).op → (AtTop T i pc → cellC C i pc1 - cellC C i pc = 1) ∧ (¬ AtTop T i pc → cellC C i pc1 - cellC C i pc = 0)) := fun q1 q2 => hE q1 (by omega)
              clear hE hp1 hbk hbk2 cr hpe
              generalize (insD f pc1).op = op at *
              generalize cellC C i pc1 = v1 at *
              generalize cellC C i pc = v2 at *
              generalize anyT f pc k = tb at *
              have hxb := HSHP.out.le
              cases tb
              · by_cases ho : 15 ≤ op
                · have hob : decide (15 ≤ op) = true := by simpa using ho
                  go_wp2
                  go_roundw
                  case rel => exact ⟨pc + 1, x, by omega, by omega, by go_num, rfl, HSHP.out.on (by omega), HBK.out⟩
                  case measure => simp [intOf]; omega
                · have hob : decide (15 ≤ op) = false := by simpa using ho
                  obtain ⟨he1, he0⟩ := HE.out rfl ho
                  by_cases hat : AtTop T i pc
                  · have hd := he1 hat
                    obtain ⟨hx0, HN1⟩ := HSHP.out.top hat
                    have HN2 : Hid (ShortOk T i (pc + 1) 1) := HN1
                    have hwd : IntKind.i64.wrap (v1 - v2) = 1 := by rw [hd]; rfl
                    subst hx0
                    clear he1 he0 hd ho HN1 hat
                    go_upto_region 21 with fail
                    go_quiet (fail)
                    go_wp2
                    go_roundw
                    case rel => exact ⟨pc + 1, 1, by omega, by omega, by go_num, rfl, HN2.out, below_drewN HBK.out _⟩
                    case measure => simp [intOf]; omega
                  · have hd := he0 hat
                    have hwd : IntKind.i64.wrap (v1 - v2) = 0 := by rw [hd]; rfl
                    have hwx : IntKind.i64.wrap (x + 0) = x := by rw [Int.add_zero]; exact wrap_fits _ (by omega) (by omega)
                    have hwx2 : IntKind.i64.wrap x = x := wrap_fits _ (by omega) (by omega)
                    clear he1 he0 hd ho hat
                    go_upto_region 21 with fail
                    go_quiet (fail)
                    go_wp2
                    go_roundw
                    case rel => exact ⟨pc + 1, x, by omega, by omega, by go_num, by first | rfl | (rw [hwx2]) | (rw [hwx]), HSHP.out.on (by omega), below_drewN HBK.out _⟩
                    case measure => simp [intOf]; omega
              · go_wp2
                go_roundw
                case rel => exact ⟨pc + 1, x, by omega, by omega, by go_num, rfl, HSHP.out.on (by omega), HBK.out⟩
                case measure => simp [intOf]; omega
        · go_wp2
          go_roundw
          case rel => exact ⟨i + 1, x, by omega, by go_num, rfl, HSHP.out.row, (HF2.out _ HBP.out).2⟩
          case measure => simp [intOf]; omega
    · have hxb := hsh.le
      have hx1 : decide (x ≤ 1) = true := by simp only [decide_eq_true_eq]; omega
      clear hsh hbo hxb
      go_wp2
      go_ret
      exact ⟨rfl, HWF.out.trans (HBO.out.mono HWF.out.size)⟩
end Go.Proofs.YtpkgibdbmmhgdaaDoor
