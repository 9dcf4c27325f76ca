/- The walk of tierlinekeep.RunEnds: at all raw numbers it says true, and nothing that was there has turned. -/
import Derived.Test.YtpkgibdbmmhgdaaDoorXKRun
import Derived.Test.YtpkgibdbmmhgdaaDoorXKRunX
import Derived.Test.YtpkgibdbmmhgdaaDoorGroupD
namespace Go.Proofs.YtpkgibdbmmhgdaaDoor
open Go Go.RowKit

set_option maxHeartbeats 8000000 in
set_option maxRecDepth 100000 in
theorem runEnds_walk (l : List Fn) (v : Value) (a0 a1 fuel : Int) (nv : Value) (ln : List Int) (w : World) (ht : TabOk w) (hc : CallOk w) (hv : ProgVal w v l) (hwf : ∀ f ∈ l, f.wf) (hn : IntsVal w nv ln) (hfu : I64 fuel) :
    Calls Tryd.prog 4 #[v, inVal a0 a1 nv fuel] w fun e w' => e = .returned (.bool true) ∧ Below w.heap.size w w' := by
  obtain ⟨nao, nc, rfl⟩ := hn.shape
  obtain ⟨lao, ll, lc, rfl⟩ := hv.shape
  have HTC : Hid (∀ W, Below w.heap.size w W → TabOk W ∧ CallOk W) := fun W hb => ⟨ht.below hb, hc.below hb⟩
  have HB0 : Hid (Below w.heap.size w (w.alloc (.cells #[.int .i64 a0, .int .i64 a1, .slice nao ln.length nc, .int .i64 fuel] 26))) := (Below.refl _ _).alloc (Nat.le_refl _) _
  have HPR : Hid (Calls Tryd.prog 14 #[.slice lao ll lc] (w.alloc (.cells #[.int .i64 a0, .int .i64 a1, .slice nao ln.length nc, .int .i64 fuel] 26)) fun e w' => ∃ ao n cap P, e = .returned (.agg #[.slice ao n cap]) ∧ ProofAns P 0 ∧ ProgVal w' (.slice ao n cap) P ∧ Below (w.alloc (.cells #[.int .i64 a0, .int .i64 a1, .slice nao ln.length nc, .int .i64 fuel] 26)).heap.size (w.alloc (.cells #[.int .i64 a0, .int .i64 a1, .slice nao ln.length nc, .int .i64 fuel] 26)) w') := kprog l _ _ (HTC.out _ HB0.out).1 (HTC.out _ HB0.out).2 (hv.keeps (keeps_below HB0.out)) hwf
  have HNV : Hid (∀ W, Below w.heap.size w W → IntsVal W (.slice nao ln.length nc) ln) := fun W hb => hn.keeps (keeps_below hb)
  have HFU : Hid (I64 fuel) := hfu
  have infoIn : (Tryd.prog.info? 26).map (·.size) = some 4 := by kernel_rfl
  unfold inVal
  clear ht hc hv hwf hn hfu
  go_enter Tryd.func4, Tryd.ntmps4
  go_upto_region 2 with (go_at_call 14; refine HPR.out.mono ?_; rintro e w1 ⟨ao, n0, cap0, P, rfl, hR, hpv, hb1⟩)
  have HR : Hid (ProofAns P 0) := hR
  have B01 : Hid (Below w.heap.size w (w1.alloc (.cells #[.slice ao n0 cap0] 29))) := (HB0.out.trans (hb1.mono (by simp))).alloc (by have := hb1.size; simp at this; omega) _
  have I1 : (w1.alloc (.cells #[.slice ao n0 cap0] 29)).heap[w.heap.size]? = some (.cells #[.int .i64 a0, .int .i64 a1, .slice nao ln.length nc, .int .i64 fuel] 26 (0, 0)) := (heap_alloc_old _ _ (by have := hb1.size; simp at this; omega)).trans ((hb1.block _ (by simp)).trans (heap_alloc_last w _))
  have HP : Hid (∀ W, Below (w1.alloc (.cells #[.slice ao n0 cap0] 29)).heap.size (w1.alloc (.cells #[.slice ao n0 cap0] 29)) W → W.cell? ⟨w1.heap.size, 0, none⟩ = some (.slice ao n0 cap0) ∧ ProgVal W (.slice ao n0 cap0) P ∧ TabOk W ∧ CallOk W) := fun W hb => ⟨keeps_below hb _ _ (by rw [cell_of_row _ _ _ _ _ _ (heap_alloc_last w1 _)]; rfl), (hpv.keeps (keeps_below ((Below.refl _ _).alloc (Nat.le_refl _) _))).keeps (keeps_below hb), (HTC.out _ (B01.out.trans (hb.mono B01.out.size))).1, (HTC.out _ (B01.out.trans (hb.mono B01.out.size))).2⟩
  have HKB : Hid (Calls Tryd.prog 15 #[.agg #[.slice ao n0 cap0], .agg #[.int .i64 a0, .int .i64 a1, .slice nao ln.length nc, .int .i64 fuel]] (w1.alloc (.cells #[.slice ao n0 cap0] 29)) _) := kbeginX P (.slice ao n0 cap0) a0 a1 fuel (.slice nao ln.length nc) ln (w1.alloc (.cells #[.slice ao n0 cap0] 29)) (HP.out _ (Below.refl _ _)).2.2.1 (HP.out _ (Below.refl _ _)).2.2.2 HR.out (HP.out _ (Below.refl _ _)).2.1 (HNV.out _ B01.out) HFU.out
  clear hR hpv hb1
  go_upto_region 3 with (first
    | (refine wpList_load_row rfl _ _ rfl _ rfl _ _ _ _ I1 Tryd.underlying26 rfl infoIn ?_)
    | (go_at_call 15; refine HKB.out.mono ?_; rintro e w2 ⟨cs2, S, rfl, hk, hs0, c1, c2, c3, hst, hb2⟩)
    | (refine wpList_store_row rfl _ _ _ rfl _ _ rfl rfl _ _ (heap_alloc_last w2 _) c1 c2 c3 ?_; rw [World.setRow_alloc_new]))
  have HK : Hid (KRunAt P S) := hk.1
  have HSE : Hid (S = beginSt ([a0, a1].take (par0 P).toNat) (ln.take 10) (pickI fuel 300)) := hk.2
  have HS0 : Hid (S.fuel ≤ 299 ∧ S.answers.length ≤ 10 ∧ S.status = 0) := hs0
  have B12 : Hid (Below (w1.alloc (.cells #[.slice ao n0 cap0] 29)).heap.size (w1.alloc (.cells #[.slice ao n0 cap0] 29)) (w2.alloc (.cells cs2 34))) := hb2.alloc hb2.size _
  have X2 : Hid (∀ W, Below (w2.alloc (.cells cs2 34)).heap.size (w2.alloc (.cells cs2 34)) W → W.heap[w2.heap.size]? = some (.cells cs2 34 (0, 0)) ∧ StVal W (.agg cs2) (walkS P 0 S)) := fun W hb => ⟨(hb.block _ (by simp)).trans (heap_alloc_last w2 _), (hst.val.keeps (keeps_below ((Below.refl _ _).alloc (Nat.le_refl _) _))).keeps (keeps_below hb)⟩
  have q2 : (Tryd.prog.info? 34).map (·.size) = some cs2.size := c1
  have HON2 : Hid (cs2.all (·.oneCell') = true) := c3
  have HZ12 : Hid ((w1.alloc (.cells #[.slice ao n0 cap0] 29)).heap.size ≤ w2.heap.size) := hb2.size
  have hz2 : zeroStCells.size = cs2.size := c2
  clear hk hs0 hst hb2 HKB c1 c2 c3 infoIn
  obtain ⟨b, off, cap, hvs, d0, hp1, hpc, hpm, q0, q2p⟩ := right_head HR.out (HP.out _ B12.out).2.1
  obtain ⟨rfl, rfl, rfl⟩ : ao = some ⟨b, off, none⟩ ∧ n0 = P.length ∧ cap0 = cap := by simpa using hvs
  obtain ⟨p, hp⟩ := Int.eq_ofNat_of_zero_le q0
  have hp2 : p ≤ 2 := by omega
  have hpI : (p : Int) ≤ 2 := by omega
  rw [hp] at d0
  have HPP : Hid (par0 P = p) := hp
  unfold maxLen at hpm
  have hP0 : (0 : Int) < P.length := by omega
  have hP0n : 0 < P.length := by omega
  obtain ⟨m, hm⟩ : ∃ m : Nat, m = min ln.length 10 := ⟨_, rfl⟩
  have hml : m ≤ ln.length := by omega
  have hmI : (m : Int) ≤ ln.length := by omega
  have hmin : (if (10 : Int) < (ln.length : Int) then (10 : Int) else (ln.length : Int)) = (m : Int) := by split <;> omega
  have hnc := ints_cap (HNV.out _ (Below.refl _ _))
  have hmc : m ≤ nc := by omega
  have hm10 : m ≤ 10 := by omega
  have HLM : Hid (ln.take m = ln.take 10) := by show _ = _; rw [hm]; exact take_ten ln
  obtain ⟨F, hF, eF⟩ : ∃ x : Nat, x < 300 ∧ pickI fuel 300 = x := by have b := pickI_bounds fuel 300 (by omega); obtain ⟨k, hk⟩ := Int.eq_ofNat_of_zero_le b.1; exact ⟨k, by omega, hk⟩
  have HPK : Hid (∀ W, Calls Tryd.prog 21 #[.int .i64 fuel, .int .i64 300] W fun e w' => e = .returned (.int .i64 (F : Int)) ∧ w' = W) := fun W => by have := picked_any fuel 300 W HFU.out (by omega) (by omega); rw [eF] at this; exact this
  have rI : (w2.alloc (.cells cs2 34)).heap[w.heap.size]? = some (.cells #[.int .i64 a0, .int .i64 a1, .slice nao ln.length nc, .int .i64 fuel] 26 (0, 0)) := (B12.out.block _ (lt_of_block I1)).trans I1
  have I2 : (w2.alloc (.cells cs2 34)).cell? ⟨w.heap.size, 2, none⟩ = some (.slice nao ln.length nc) := by rw [cell_of_row _ _ _ _ _ _ rI]; rfl
  have I3 : (w2.alloc (.cells cs2 34)).cell? ⟨w.heap.size, 3, none⟩ = some (.int .i64 fuel) := by rw [cell_of_row _ _ _ _ _ _ rI]; rfl
  have HIA : Hid (IntsVal (w2.alloc (.cells cs2 34)) (.slice (some ⟨w.heap.size, 0, none⟩) p 2) ([a0, a1].take p)) := args_vals rI hp2
  have HIN : Hid (IntsVal w (.slice nao m nc) (ln.take m)) := ints_cut (HNV.out _ (Below.refl _ _)) hml
  have HAL : Hid ((([a0, a1].take p).length : Int) = par0 P) := by show _ = _; rw [HPP.out, List.length_take]; simp only [List.length_cons, List.length_nil]; omega
  have HNL : Hid ((ln.take m).length ≤ 100) := by show _ ≤ _; rw [List.length_take]; omega
  have HSF : Hid (S = beginSt ([a0, a1].take p) (ln.take m) (F : Int)) := by show _ = _; rw [HSE.out, HPP.out, eF, HLM.out]; rfl
  have HRX : Hid (∀ W, Below (w2.alloc (.cells cs2 34)).heap.size (w2.alloc (.cells cs2 34)) W → Calls Tryd.prog 20 #[.agg #[.slice (some ⟨b, off, none⟩) P.length cap0], .slice (some ⟨w.heap.size, 0, none⟩) p 2, .slice nao m nc, .int .i64 (F : Int)] W fun e w' => ∃ cs, e = .returned (.tuple #[.agg cs, .int .i64 0]) ∧ (Tryd.prog.info? 34).map (·.size) = some cs.size ∧ zeroStCells.size = cs.size ∧ cs.all (·.oneCell') = true ∧ StAt w' W.heap.size (.agg cs) (walkS P (F + 1) S) ∧ Below W.heap.size W w') := fun W hb => by
    have hb1 := B12.out.trans (hb.mono B12.out.size)
    rw [HSF.out]
    exact run_any P _ _ _ ([a0, a1].take p) (ln.take m) F W (HP.out _ hb1).2.2.1 (HP.out _ hb1).2.2.2 HR.out (HP.out _ hb1).2.1 (HIA.out.keeps (keeps_below hb)) (HIN.out.keeps (keeps_below (B01.out.trans (hb1.mono B01.out.size)))) HAL.out HNL.out (by omega)
  clear hvs q0 q2p hp eF hm HIA HIN
  have hW12 : w2.heap.size + 1 ≤ (w2.alloc (.cells cs2 34)).heap.size := by simp
  generalize (w2.alloc (.cells cs2 34)) = WB at *
  go_upto_region 3 with fail
  have kp := (HP.out _ B12.out).1
  go_cut [8, 9] from 21 to 42 (fun t e wx => ∃ (G : Nat) (csn : Array Value), t = .pointer (some ⟨G, 0, none⟩) ∧ e = .int .i64 0 ∧ wx.heap[G]? = some (.cells csn 34 (0, 0)) ∧ (Tryd.prog.info? 34).map (·.size) = some csn.size ∧ Below WB.heap.size WB wx ∧ WB.heap.size ≤ G ∧ StAt wx WB.heap.size (.agg csn) (walkS P (F + 1) S))
  case first =>
    refine wp_region_held_drew (S := fun W => Below WB.heap.size WB W) (by kernel_rfl) ((Below.refl _ _).drew) (fun hHeld => ?_)
    show wpAnyH _ _ _ _ _ 25 _ _ _
    refine wpAnyH_take (i := 0) (v := ?_) rfl (by kernel_rfl) (by kernel_rfl) (by kernel_rfl) (fun _ _ _ h => h) (Or.inl ⟨by rfl, ?_⟩) (by assumption) ?_
    rotate_left
    · (intro W hSW; have z0 := keeps_below hSW _ _ kp; go_simp; try (with_reducible rfl))
    (try simp only [Act.put, List.setIfInBounds_toArray])
    refine wpAnyH_take (i := 1) (v := ?_) rfl (by kernel_rfl) (by kernel_rfl) (by kernel_rfl) (fun _ _ _ h => h) (Or.inl ⟨by rfl, ?_⟩) (by assumption) ?_
    rotate_left
    · (intro W hSW; go_simp; try (with_reducible rfl))
    (try simp only [Act.put])
    refine wpAnyH_take (i := 2) (v := ?_) rfl (by kernel_rfl) (by kernel_rfl) (by kernel_rfl) (fun _ _ _ h => h) (Or.inl ⟨by rfl, ?_⟩) (by assumption) ?_
    rotate_left
    · (intro W hSW; go_simp; try (with_reducible rfl))
    (try simp only [Act.put])
    refine wpAnyH_take (i := 3) (v := ?_) rfl (by kernel_rfl) (by kernel_rfl) (by kernel_rfl) (fun _ _ _ h => h) (Or.inl ⟨by rfl, ?_⟩) (by assumption) ?_
    rotate_left
    · (intro W hSW; have z0 := keeps_below hSW _ _ kp; go_simp; try (with_reducible rfl))
    (try simp only [Act.put])
    refine wpAnyH_take (i := 4) (v := ?_) rfl (by kernel_rfl) (by kernel_rfl) (by kernel_rfl) (fun _ _ _ h => h) (Or.inl ⟨by rfl, ?_⟩) (by assumption) ?_
    rotate_left
    · (intro W hSW; go_simp; try (with_reducible rfl))
    (try simp only [Act.put])
    refine wpAnyH_take (i := 5) (v := ?_) rfl (by kernel_rfl) (by kernel_rfl) (by kernel_rfl) (fun _ _ _ h => h) (Or.inl ⟨by rfl, ?_⟩) (by assumption) ?_
    rotate_left
    · (intro W hSW; go_simp; try (with_reducible rfl))
    (try simp only [Act.put])
    refine wpAnyH_take (i := 6) (v := ?_) rfl (by kernel_rfl) (by kernel_rfl) (by kernel_rfl) (fun _ _ _ h => h) (Or.inl ⟨by rfl, ?_⟩) (by assumption) ?_
    rotate_left
    · (intro W hSW; have z0 := keeps_below hSW _ _ d0; go_simp; try (with_reducible rfl))
    (try simp only [Act.put])
    refine wpAnyH_take (i := 7) (v := ?_) rfl (by kernel_rfl) (by kernel_rfl) (by kernel_rfl) (fun _ _ _ h => h) (Or.inl ⟨by rfl, ?_⟩) (by assumption) ?_
    rotate_left
    · (intro W hSW; go_simp; try (with_reducible rfl))
    (try simp only [Act.put])
    refine wpAnyH_take (i := 8) (v := ?_) rfl (by kernel_rfl) (by kernel_rfl) (by kernel_rfl) (fun _ _ _ h => h) (Or.inl ⟨by rfl, ?_⟩) (by assumption) ?_
    rotate_left
    · (intro W hSW; go_simp; try (with_reducible rfl))
    (try simp only [Act.put])
    refine wpAnyH_take (i := 9) (v := ?_) rfl (by kernel_rfl) (by kernel_rfl) (by kernel_rfl) (fun _ _ _ h => h) (Or.inl ⟨by rfl, ?_⟩) (by assumption) ?_
    rotate_left
    · (intro W hSW; have z0 := keeps_below hSW _ _ I2; go_simp; try (with_reducible rfl))
    (try simp only [Act.put])
    refine wpAnyH_take (i := 10) (v := ?_) rfl (by kernel_rfl) (by kernel_rfl) (by kernel_rfl) (fun _ _ _ h => h) (Or.inl ⟨by rfl, ?_⟩) (by assumption) ?_
    rotate_left
    · (intro W hSW; go_simp; try (with_reducible rfl))
    (try simp only [Act.put])
    refine wpAnyH_take (i := 11) (v := ?_) rfl (by kernel_rfl) (by kernel_rfl) (by kernel_rfl) (fun _ _ _ h => h) (Or.inl ⟨by rfl, ?_⟩) (by assumption) ?_
    rotate_left
    · (intro W hSW; have z0 := keeps_below hSW _ _ I2; go_simp; try (with_reducible rfl))
    (try simp only [Act.put])
    refine wpAnyH_take (i := 12) (v := ?_) rfl (by kernel_rfl) (by kernel_rfl) (by kernel_rfl) (fun _ _ _ h => h) (Or.inl ⟨by rfl, ?_⟩) (by assumption) ?_
    rotate_left
    · (intro W hSW; go_simp; try (with_reducible rfl))
    (try simp only [Act.put])
    refine wpAnyH_take (i := 13) (v := ?_) rfl (by kernel_rfl) (by kernel_rfl) (by kernel_rfl) (fun _ _ _ h => h) (Or.inl ⟨by rfl, ?_⟩) (by assumption) ?_
    rotate_left
    · (intro W hSW; go_simp; try (with_reducible rfl))
    (try simp only [Act.put])
    refine wpAnyH_take (i := 14) (v := ?_) rfl (by kernel_rfl) (by kernel_rfl) (by kernel_rfl) (fun _ _ _ h => h) (Or.inl ⟨by rfl, ?_⟩) (by assumption) ?_
    rotate_left
    · (intro W hSW; go_simp; try (with_reducible rfl))
    (try simp only [Act.put])
    refine wpAnyH_take (i := 15) (v := ?_) rfl (by kernel_rfl) (by kernel_rfl) (by kernel_rfl) (fun _ _ _ h => h) (Or.inl ⟨by rfl, ?_⟩) (by assumption) ?_
    rotate_left
    · (intro W hSW; go_simp; try (with_reducible rfl))
    (try simp only [Act.put])
    refine wpAnyH_take (i := 16) (v := ?_) rfl (by kernel_rfl) (by kernel_rfl) (by kernel_rfl) (fun _ _ _ h => h) (Or.inl ⟨by rfl, ?_⟩) (by assumption) ?_
    rotate_left
    · (intro W hSW; have z0 := keeps_below hSW _ _ I3; go_simp; try (with_reducible rfl))
    (try simp only [Act.put])
    refine wpAnyH_ready (rs := [17, 22]) (by kernel_rfl) (by simp) ?_
    refine AllReadyH.cons rfl (fun K hK => ?_) (AllReadyH.cons rfl (fun K hK => ?_) AllReadyH.nil)
    · go_simp
      go_at_call 21
      refine (HPK.out _).mono ?_
      rintro e wp ⟨rfl, hwp⟩
      replace hwp := hwp.symm
      subst hwp
      dsimp only
      refine hK.out _ _ hHeld (fun _ => ?_)
      clear hK K
      (try simp only [Act.put, List.setIfInBounds_toArray, List.set_cons_zero, List.set_cons_succ])
      refine wpAnyH_ready (rs := [18, 22]) (by kernel_rfl) (by simp) ?_
      refine AllReadyH.cons rfl (fun K hK => ?_) (AllReadyH.cons rfl (fun K hK => ?_) AllReadyH.nil)
      · go_simp
        go_at_call 20
        refine (HRX.out _ hHeld).mono ?_
        rintro e wn ⟨csn, rfl, c1, c2, c3, hst, hb⟩
        have hbn : Below WB.heap.size WB wn := Below.trans hHeld (hb.mono (Below.size hHeld))
        dsimp only
        refine hK.out _ _ hbn (fun _ => ?_)
        clear hK K
        (try simp only [Act.put, List.setIfInBounds_toArray, List.set_cons_zero, List.set_cons_succ])
        refine wpAnyH_take (i := 19) (v := ?_) rfl (by kernel_rfl) (by kernel_rfl) (by kernel_rfl) (fun _ _ _ h => h) (Or.inl ⟨by rfl, ?_⟩) hbn ?_
        rotate_left
        · (intro W hSW; go_simp; try (with_reducible rfl))
        (try simp only [Act.put, List.setIfInBounds_toArray])
        refine wpAnyH_take (i := 20) (v := ?_) rfl (by kernel_rfl) (by kernel_rfl) (by kernel_rfl) (fun _ _ _ h => h) (Or.inl ⟨by rfl, ?_⟩) hbn ?_
        rotate_left
        · (intro W hSW; go_simp; try (with_reducible rfl))
        (try simp only [Act.put])
        refine wpAnyH_take (i := 21) (v := ?_) rfl (by kernel_rfl) (by kernel_rfl) (by kernel_rfl) (fun _ _ _ h => h) (Or.inl ⟨by rfl, ?_⟩) hbn ?_
        rotate_left
        · (intro W hSW; go_simp; try (with_reducible rfl))
        (try simp only [Act.put])
        refine wpAnyH_ready (rs := [22]) (by kernel_rfl) (by simp) ?_
        refine AllReadyH.cons rfl (fun K hK => ?_) AllReadyH.nil
        go_simp
        refine hK.out _ _ (hbn.alloc hbn.size _) (fun hHeld2 => ?_)
        clear hK K
        (try simp only [Act.put, List.setIfInBounds_toArray, List.set_cons_zero, List.set_cons_succ])
        refine wpAnyH_ready (rs := [23]) (by kernel_rfl) (by simp) ?_
        refine AllReadyH.cons rfl (fun K hK => ?_) AllReadyH.nil
        refine wp_store_row 34 _ _ rfl wn.heap.size csn rfl rfl 34 zeroStCells (heap_alloc_last wn _) c1 c2 c3 ?_
        have BN : Below WB.heap.size WB (World.setRow (wn.alloc (.cells #[.int .i64 0, .int .i64 0, .slice none 0 0, .int .i64 0, .int .i64 0, .int .i64 0, .int .i64 0, .int .i64 0, .int .i64 0, .int .i64 0, .int .i64 0, .int .i64 0, .int .i64 0, .int .i64 0, .int .i64 0, .int .i64 0, .int .i64 0, .int .i64 0, .int .i64 0, .int .i64 0, .slice none 0 0, .slice none 0 0] 34)) wn.heap.size csn) := below_setRow (hbn.alloc hbn.size _) (by first | exact Nat.le_refl _ | exact hbn.size) _
        refine hK.out _ _ BN (fun _ => ?_)
        clear hK K
        (try simp only [Act.put, List.setIfInBounds_toArray])
        refine wpAnyH_ready (rs := [24]) (by kernel_rfl) (by simp) ?_
        refine AllReadyH.cons rfl (fun K hK => ?_) AllReadyH.nil
        go_simp
        refine hK.out _ _ BN (fun _ => ?_)
        clear hK K
        (try simp only [Act.put, List.setIfInBounds_toArray, List.set_cons_zero, List.set_cons_succ])
        refine wpAnyH_done (by kernel_rfl) ?_ _
        go_wp2_with fail
        go_meet
        exact ⟨_, csn, rfl, rfl, setRow_heap _ _ _ _ _ _ (heap_alloc_last wn _), c1, BN, by first | exact Nat.le_refl _ | exact hbn.size, (hst.moved (fun ad u ha hu => (World.cell?_of_block (setRow_other _ _ _ _ (by have := World.block_lt_of_cell? _ _ hu; omega))).trans (cell_alloc hu _))).mono (Below.size hHeld)⟩
      · go_simp
        refine hK.out _ _ ((Below.refl _ _).alloc (Nat.le_refl _) _).drew (fun hHeld2 => ?_)
        clear hK K
        (try simp only [Act.put, List.setIfInBounds_toArray, List.set_cons_zero, List.set_cons_succ])
        refine wpAnyH_ready (rs := [18]) (by kernel_rfl) (by simp) ?_
        refine AllReadyH.cons rfl (fun K hK => ?_) AllReadyH.nil
        go_simp
        go_at_call 20
        refine (HRX.out _ hHeld2).mono ?_
        rintro e wn ⟨csn, rfl, c1, c2, c3, hst, hb⟩
        have hbn : Below WB.heap.size WB wn := Below.trans hHeld2 (hb.mono (Below.size hHeld2))
        dsimp only
        refine hK.out _ _ hbn (fun _ => ?_)
        clear hK K
        (try simp only [Act.put, List.setIfInBounds_toArray, List.set_cons_zero, List.set_cons_succ])
        have hgz : wn.heap[WB.heap.size]? = some (.cells zeroStCells 34 (0, 0)) := (hb.block _ (by simp)).trans (heap_alloc_last WB _)
        refine wpAnyH_take (i := 19) (v := ?_) rfl (by kernel_rfl) (by kernel_rfl) (by kernel_rfl) (fun _ _ _ h => h) (Or.inl ⟨by rfl, ?_⟩) hbn ?_
        rotate_left
        · (intro W hSW; go_simp; try (with_reducible rfl))
        (try simp only [Act.put, List.setIfInBounds_toArray])
        refine wpAnyH_take (i := 20) (v := ?_) rfl (by kernel_rfl) (by kernel_rfl) (by kernel_rfl) (fun _ _ _ h => h) (Or.inl ⟨by rfl, ?_⟩) hbn ?_
        rotate_left
        · (intro W hSW; go_simp; try (with_reducible rfl))
        (try simp only [Act.put])
        refine wpAnyH_take (i := 21) (v := ?_) rfl (by kernel_rfl) (by kernel_rfl) (by kernel_rfl) (fun _ _ _ h => h) (Or.inl ⟨by rfl, ?_⟩) hbn ?_
        rotate_left
        · (intro W hSW; go_simp; try (with_reducible rfl))
        (try simp only [Act.put])
        refine wpAnyH_ready (rs := [23]) (by kernel_rfl) (by simp) ?_
        refine AllReadyH.cons rfl (fun K hK => ?_) AllReadyH.nil
        refine wp_store_row 34 _ _ rfl WB.heap.size csn rfl rfl 34 zeroStCells hgz c1 c2 c3 ?_
        have BN : Below WB.heap.size WB (World.setRow wn WB.heap.size csn) := below_setRow hbn (by first | exact Nat.le_refl _ | exact hbn.size) _
        refine hK.out _ _ BN (fun _ => ?_)
        clear hK K
        (try simp only [Act.put])
        refine wpAnyH_ready (rs := [24]) (by kernel_rfl) (by simp) ?_
        refine AllReadyH.cons rfl (fun K hK => ?_) AllReadyH.nil
        go_simp
        refine hK.out _ _ BN (fun _ => ?_)
        clear hK K
        (try simp only [Act.put, List.setIfInBounds_toArray, List.set_cons_zero, List.set_cons_succ])
        refine wpAnyH_done (by kernel_rfl) ?_ _
        go_wp2_with fail
        go_meet
        exact ⟨_, csn, rfl, rfl, setRow_heap _ _ _ _ _ _ hgz, c1, BN, by first | exact Nat.le_refl _ | exact hbn.size, (hst.setRow (by simp) _).mono (by simp)⟩
    · go_simp
      refine hK.out _ _ ((Below.refl _ _).alloc (Nat.le_refl _) _).drew (fun hHeld2 => ?_)
      clear hK K
      (try simp only [Act.put, List.setIfInBounds_toArray, List.set_cons_zero, List.set_cons_succ])
      refine wpAnyH_ready (rs := [17]) (by kernel_rfl) (by simp) ?_
      refine AllReadyH.cons rfl (fun K hK => ?_) AllReadyH.nil
      go_simp
      go_at_call 21
      refine (HPK.out _).mono ?_
      rintro e wp ⟨rfl, hwp⟩
      replace hwp := hwp.symm
      subst hwp
      dsimp only
      refine hK.out _ _ hHeld2 (fun _ => ?_)
      clear hK K
      (try simp only [Act.put, List.setIfInBounds_toArray, List.set_cons_zero, List.set_cons_succ])
      refine wpAnyH_ready (rs := [18]) (by kernel_rfl) (by simp) ?_
      refine AllReadyH.cons rfl (fun K hK => ?_) AllReadyH.nil
      go_simp
      go_at_call 20
      refine (HRX.out _ hHeld2).mono ?_
      rintro e wn ⟨csn, rfl, c1, c2, c3, hst, hb⟩
      have hbn : Below WB.heap.size WB wn := Below.trans hHeld2 (hb.mono (Below.size hHeld2))
      dsimp only
      refine hK.out _ _ hbn (fun _ => ?_)
      clear hK K
      (try simp only [Act.put, List.setIfInBounds_toArray, List.set_cons_zero, List.set_cons_succ])
      have hgz : wn.heap[WB.heap.size]? = some (.cells zeroStCells 34 (0, 0)) := (hb.block _ (by simp)).trans (heap_alloc_last WB _)
      refine wpAnyH_take (i := 19) (v := ?_) rfl (by kernel_rfl) (by kernel_rfl) (by kernel_rfl) (fun _ _ _ h => h) (Or.inl ⟨by rfl, ?_⟩) hbn ?_
      rotate_left
      · (intro W hSW; go_simp; try (with_reducible rfl))
      (try simp only [Act.put, List.setIfInBounds_toArray])
      refine wpAnyH_take (i := 20) (v := ?_) rfl (by kernel_rfl) (by kernel_rfl) (by kernel_rfl) (fun _ _ _ h => h) (Or.inl ⟨by rfl, ?_⟩) hbn ?_
      rotate_left
      · (intro W hSW; go_simp; try (with_reducible rfl))
      (try simp only [Act.put])
      refine wpAnyH_take (i := 21) (v := ?_) rfl (by kernel_rfl) (by kernel_rfl) (by kernel_rfl) (fun _ _ _ h => h) (Or.inl ⟨by rfl, ?_⟩) hbn ?_
      rotate_left
      · (intro W hSW; go_simp; try (with_reducible rfl))
      (try simp only [Act.put])
      refine wpAnyH_ready (rs := [23]) (by kernel_rfl) (by simp) ?_
      refine AllReadyH.cons rfl (fun K hK => ?_) AllReadyH.nil
      refine wp_store_row 34 _ _ rfl WB.heap.size csn rfl rfl 34 zeroStCells hgz c1 c2 c3 ?_
      have BN : Below WB.heap.size WB (World.setRow wn WB.heap.size csn) := below_setRow hbn (by first | exact Nat.le_refl _ | exact hbn.size) _
      refine hK.out _ _ BN (fun _ => ?_)
      clear hK K
      (try simp only [Act.put])
      refine wpAnyH_ready (rs := [24]) (by kernel_rfl) (by simp) ?_
      refine AllReadyH.cons rfl (fun K hK => ?_) AllReadyH.nil
      go_simp
      refine hK.out _ _ BN (fun _ => ?_)
      clear hK K
      (try simp only [Act.put, List.setIfInBounds_toArray, List.set_cons_zero, List.set_cons_succ])
      refine wpAnyH_done (by kernel_rfl) ?_ _
      go_wp2_with fail
      go_meet
      exact ⟨_, csn, rfl, rfl, setRow_heap _ _ _ _ _ _ hgz, c1, BN, by first | exact Nat.le_refl _ | exact hbn.size, (hst.setRow (by simp) _).mono (by simp)⟩
  case rest =>
    obtain ⟨Gt, cst, rfl, rfl, rowGt, qt, Bt, hGt, stt⟩ := hcut
    have HRR : Hid (StAt wc WB.heap.size (.agg cst) (walkS P (F + 1) S)) := stt
    have HRW : Hid (wc.heap[Gt]? = some (.cells cst 34 (0, 0))) := rowGt
    have HBT : Hid (Below WB.heap.size WB wc) := Bt
    have HEND : Hid ((walkS P (F + 1) S).status ≠ 0) := run_ended HK.out.right HK.out.inv (F + 1) (by rw [HSF.out]; show (F : Int) < _; omega)
    have HFU2 : Hid (∀ k, (walkS P k S).status = 0 → k ≤ F) := fun k hk => by
      rcases Nat.lt_or_ge F k with h | h
      · exact absurd hk (run_ended HK.out.right HK.out.inv k (by rw [HSF.out]; show (F : Int) < _; omega))
      · exact h
    have B1T : Hid (Below (w1.alloc (.cells #[.slice (some ⟨b, off, none⟩) P.length cap0] 29)).heap.size (w1.alloc (.cells #[.slice (some ⟨b, off, none⟩) P.length cap0] 29)) wc) := B12.out.trans (Bt.mono B12.out.size)
    have HST0 : Hid (wc.heap[w2.heap.size]? = some (.cells cs2 34 (0, 0)) ∧ StVal wc (.agg cs2) (walkS P 0 S)) := X2.out _ Bt
    have hGlt : w2.heap.size + 1 ≤ Gt := by omega
    have HZS : Hid ((Tryd.prog.info? 34).map (·.size) = some cs2.size ∧ zeroStCells.size = cs2.size) := ⟨q2, hz2⟩
    clear kp d0 rI I2 I3 HRX stt rowGt Bt X2 hGt hmin hmI hml hmc hnc hm10 hpI hp2 hP0 hP0n hpm hpc hp1 I1 q2 hz2
    go_wp2
    go_loopw [10, 11, 12] (fun i nx f wr => ∃ (k : Nat) (csk : Array Value), k ≤ 300 ∧ i = .int .i64 k ∧ wr.heap[w2.heap.size]? = some (.cells csk 34 (0, 0)) ∧ (Tryd.prog.info? 34).map (·.size) = some csk.size ∧ zeroStCells.size = csk.size ∧ StVal wr (.agg csk) (walkS P k S) ∧ wr.heap[Gt]? = some (.cells cst 34 (0, 0)) ∧ StAt wr (w2.heap.size + 1) (.agg cst) (walkS P (F + 1) S) ∧ Below (w1.alloc (.cells #[.slice (some ⟨b, off, none⟩) P.length cap0] 29)).heap.size (w1.alloc (.cells #[.slice (some ⟨b, off, none⟩) P.length cap0] 29)) wr) (fun i _ _ _ => 301 - (intOf i).toNat)
    case atStart => exact ⟨0, cs2, by omega, rfl, HST0.out.1, HZS.out.1, HZS.out.2, HST0.out.2, HRW.out, HRR.out.mono hW12, B1T.out⟩
    case round =>
      obtain ⟨k, csk, hk, rfl, hrow, hq, hzk, hsv, hrt, hrr, hbr⟩ := hrel
      have HBR : Hid (Below (w1.alloc (.cells #[.slice (some ⟨b, off, none⟩) P.length cap0] 29)).heap.size (w1.alloc (.cells #[.slice (some ⟨b, off, none⟩) P.length cap0] 29)) wr) := hbr
      have HSV : Hid (StVal wr (.agg csk) (walkS P k S)) := hsv
      have HRRr : Hid (StAt wr (w2.heap.size + 1) (.agg cst) (walkS P (F + 1) S)) := hrr
      have hzr : w2.heap.size + 1 ≤ wr.heap.size := lt_of_block hrow
      have kp := (HP.out _ hbr).1
      have k0 : wr.cell? ⟨w2.heap.size, 0, none⟩ = some (.int .i64 (walkS P k S).status) := by rw [cell_of_row _ _ _ _ _ _ hrow]; exact hsv.at.1
      have hkI : decide ((k : Int) ≤ 300) = true := by simp only [decide_eq_true_eq]; omega
      have hkn : decide (k ≤ 300) = true := by simp only [decide_eq_true_eq]; omega
      by_cases hs : (walkS P k S).status = 0
      · have hkF := HFU2.out k hs
        rw [hs] at k0
        have HC : Hid (Calls Tryd.prog 19 #[.agg #[.slice (some ⟨b, off, none⟩) P.length cap0], .agg csk] wr _) := knext HK.out k (by omega) _ _ wr (HP.out _ hbr).2.2.1 (HP.out _ hbr).2.2.2 (HP.out _ hbr).2.1 hsv
        clear hsv hrr hs hbr
        go_upto_region 8 with (first
          | (refine wpList_load_row rfl _ _ rfl _ rfl _ _ _ _ hrow Tryd.underlying34 rfl hq ?_)
          | (go_at_call 19; refine HC.out.mono ?_; rintro e wn ⟨csn, rfl, c1, c2, c3, hst, hb⟩)
          | (refine wpList_store_row rfl _ _ _ rfl _ _ rfl rfl _ _ (heap_alloc_last wn _) c1 c2 c3 ?_; rw [World.setRow_alloc_new]))
        have HBN : Hid (Below wr.heap.size wr (wn.alloc (.cells csn 34))) := hb.alloc hb.size _
        have HSN : Hid (StAt (wn.alloc (.cells csn 34)) (w2.heap.size + 1) (.agg csn) (walkS P (k + 1) S)) := (hst.moved (fun ad u _ hu => cell_alloc hu _)).mono hzr
        have rn : (wn.alloc (.cells csn 34)).heap[wn.heap.size]? = some (.cells csn 34 (0, 0)) := heap_alloc_last wn _
        have hgn : w2.heap.size + 1 ≤ wn.heap.size := Nat.le_trans hzr hb.size
        have hrow2 := (HBN.out.block _ (lt_of_block hrow)).trans hrow
        have hrt2 := (HBN.out.block _ (lt_of_block hrt)).trans hrt
        have HRR2 : Hid (StAt (wn.alloc (.cells csn 34)) (w2.heap.size + 1) (.agg cst) (walkS P (F + 1) S)) := HRRr.out.below HBN.out
        have HB1N : Hid (Below (w1.alloc (.cells #[.slice (some ⟨b, off, none⟩) P.length cap0] 29)).heap.size (w1.alloc (.cells #[.slice (some ⟨b, off, none⟩) P.length cap0] 29)) (wn.alloc (.cells csn 34))) := HBR.out.trans (HBN.out.mono HBR.out.size)
        have hCK := stepCheck_any P (.slice (some ⟨b, off, none⟩) P.length cap0) (.agg csn) (walkS P (k + 1) S) (wn.alloc (.cells csn 34)) (HP.out _ HB1N.out).2.2.1 (HP.out _ HB1N.out).2.2.2 (HP.out _ HB1N.out).2.1 HSN.out.val
        have HCK : Hid (Calls Tryd.prog 22 #[.agg #[.slice (some ⟨b, off, none⟩) P.length cap0], .agg csn] (wn.alloc (.cells csn 34)) fun e w' => e = .returned (.int .i64 0) ∧ Below (wn.alloc (.cells csn 34)).heap.size (wn.alloc (.cells csn 34)) w') := hCK.mono (by
          rintro e w' ⟨E, hE, rfl, hb⟩
          obtain rfl := proofAns_unique hE HR.out
          have hi := (krun_walk HK.out (k + 1)).1
          refine ⟨?_, hb⟩
          have : checkE 0 P (walkS P (k + 1) S) = 0 := by unfold checkE; rw [if_neg (by simp), if_pos (by rw [hi.may, (framesB_iff P _).2 hi.fok]; rfl)]
          rw [this])
        have kp2 := (HP.out _ HB1N.out).1
        have qn : (Tryd.prog.info? 34).map (·.size) = some csn.size := c1
        have zn : zeroStCells.size = csn.size := c2
        have hon : csn.all (·.oneCell') = true := c3
        clear hst hb kp k0 hrow hrt hCK HC c1 c2 c3 HRRr HSV
        generalize (wn.alloc (.cells csn 34)) = WN at *
        go_upto_region 10 with (first
          | (refine wpList_load_row rfl _ _ rfl _ rfl _ _ _ _ rn Tryd.underlying34 rfl qn ?_)
          | (refine wpList_load_wanted_k rfl _ _ rfl _ rfl _ _ _ _ rn Tryd.underlying34 rfl qn ?_)
          | (go_at_call 22; refine HCK.out.mono ?_; rintro e wk ⟨rfl, hbk⟩))
        have hrow3 := (hbk.block _ (lt_of_block hrow2)).trans hrow2
        have hrt3 := (hbk.block _ (lt_of_block hrt2)).trans hrt2
        have rn3 := (hbk.block _ (lt_of_block rn)).trans rn
        have HSN3 : Hid (StAt wk (w2.heap.size + 1) (.agg csn) (walkS P (k + 1) S)) := HSN.out.below hbk
        have HRR3 : Hid (StAt wk (w2.heap.size + 1) (.agg cst) (walkS P (F + 1) S)) := HRR2.out.below hbk
        have HB3 : Hid (Below (w1.alloc (.cells #[.slice (some ⟨b, off, none⟩) P.length cap0] 29)).heap.size (w1.alloc (.cells #[.slice (some ⟨b, off, none⟩) P.length cap0] 29)) wk) := HB1N.out.trans (hbk.mono HB1N.out.size)
        have HZ3 : Hid ((w1.alloc (.cells #[.slice (some ⟨b, off, none⟩) P.length cap0] 29)).heap.size ≤ w2.heap.size) := HZ12.out
        have hstore : csk.size = csn.size := hzk.symm.trans zn
        clear hbk hrow2 hrt2 rn kp2
        go_wp2_with (first
          | (refine wpList_load_row rfl _ _ rfl _ rfl _ _ _ _ rn3 Tryd.underlying34 rfl qn ?_)
          | (refine wpList_store_row rfl _ _ _ rfl w2.heap.size csn rfl rfl 34 csk hrow3 qn hstore hon ?_))
        have hGne : Gt ≠ w2.heap.size := by omega
        go_roundw
        case rel => exact ⟨k + 1, csn, by omega, by go_num, setRow_heap _ _ _ _ _ _ hrow3, qn, zn, (HSN3.out.setRow (by omega) _).val, (setRow_other _ _ _ _ hGne).trans hrt3, HRR3.out.setRow (by omega) _, below_setRow HB3.out HZ3.out _⟩
        case measure => simp [intOf]; omega
      · have e := ended_same P k (F + 1) S hs HEND.out
        rw [e] at hsv
        have r0 : wr.cell? ⟨Gt, 0, none⟩ = some (.int .i64 (walkS P (F + 1) S).status) := by rw [cell_of_row _ _ _ _ _ _ hrt]; exact hrr.val.at.1
        have HSS : Hid (Calls Tryd.prog 23 #[.agg cst, .agg csk] wr _) := sameState_keep (walkS P (F + 1) S) _ _ _ hrr.val hsv
        have hne1 : ((walkS P k S).status == 0) = false := by simpa using hs
        have hne2 : ((walkS P (F + 1) S).status != 0) = true := by simpa using HEND.out
        have HWF : Hid (Below w.heap.size w wr) := B01.out.trans (HBR.out.mono B01.out.size)
        clear hsv hrr hs hbr e
        generalize (walkS P k S).status = s1 at k0 hne1
        generalize (walkS P (F + 1) S).status = s2 at r0 hne2
        go_wp2_with (first
          | (refine wpList_load_wanted_k rfl _ _ rfl w2.heap.size rfl _ _ _ _ hrow Tryd.underlying34 rfl hq ?_)
          | (refine wpList_load_wanted_k rfl _ _ rfl Gt rfl _ _ _ _ hrt Tryd.underlying34 rfl qt ?_)
          | (go_at_call 23; refine HSS.out.mono ?_; rintro e w6 ⟨rfl, hb6⟩))
        go_ret
        exact ⟨rfl, HWF.out.trans (hb6.mono HWF.out.size)⟩
end Go.Proofs.YtpkgibdbmmhgdaaDoor
