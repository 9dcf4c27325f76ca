/- The walk of tierlinekeep.StateStays: at all raw numbers it says true, and nothing that was there has turned. -/
import Derived.Test.YtcjclencbjllhaaDoorXKRun
import Derived.Test.YtcjclencbjllhaaDoorXMoreMath
import Derived.Test.YtcjclencbjllhaaDoorXKNeg
namespace Go.Proofs.YtcjclencbjllhaaDoor
open Go Go.RowKit

set_option maxHeartbeats 8000000 in
set_option maxRecDepth 100000 in
theorem stateStays_walk (l : List Fn) (v : Value) (a0 a1 fuel : Int) (nv : Value) (ln : List Int) (a : Int) (w : World) (ht : TabOk w) (hc : CallOk w) (hv : ProgVal w v l) (hwf : ∀ f ∈ l, f.wf) (hn : IntsVal w nv ln) (hfu : I64 fuel) (ha : I64 a) :
    Calls Tryd.prog 7 #[v, inVal a0 a1 nv fuel, .int .i64 a] w fun e w' => e = .returned (.bool true) ∧ Below w.heap.size w w' := by
  obtain ⟨x, hx, ex⟩ : ∃ x : Nat, x < 50 ∧ pickI a 50 = x := by have b := pickI_bounds a 50 (by omega); obtain ⟨k, hk⟩ := Int.eq_ofNat_of_zero_le b.1; exact ⟨k, by omega, hk⟩
  have hPX : Hid (∀ W, Calls Tryd.prog 22 #[.int .i64 a, .int .i64 50] W fun e w' => e = .returned (.int .i64 (x : Int)) ∧ w' = W) := fun W => by have := picked_any a 50 W ha (by omega) (by omega); rw [ex] at this; exact this
  clear ex ha
  obtain ⟨nao, nc, rfl⟩ := hn.shape
  obtain ⟨lao, ll, lc, rfl⟩ := hv.shape
  have HTC : Hid (∀ W, Below w.heap.size w W → TabOk W ∧ CallOk W) := fun W hb => ⟨ht.below hb, hc.below hb⟩
  have HB0 : Hid (Below w.heap.size w (w.alloc (.cells #[.int .i64 a0, .int .i64 a1, .slice nao ln.length nc, .int .i64 fuel] 26))) := (Below.refl _ _).alloc (Nat.le_refl _) _
  have HPR : Hid (Calls Tryd.prog 15 #[.slice lao ll lc] (w.alloc (.cells #[.int .i64 a0, .int .i64 a1, .slice nao ln.length nc, .int .i64 fuel] 26)) fun e w' => ∃ ao n cap P, e = .returned (.agg #[.slice ao n cap]) ∧ ProofAns P 0 ∧ ProgVal w' (.slice ao n cap) P ∧ Below (w.alloc (.cells #[.int .i64 a0, .int .i64 a1, .slice nao ln.length nc, .int .i64 fuel] 26)).heap.size (w.alloc (.cells #[.int .i64 a0, .int .i64 a1, .slice nao ln.length nc, .int .i64 fuel] 26)) w') := kprog l _ _ (HTC.out _ HB0.out).1 (HTC.out _ HB0.out).2 (hv.keeps (keeps_below HB0.out)) hwf
  have HNV : Hid (∀ W, Below w.heap.size w W → IntsVal W (.slice nao ln.length nc) ln) := fun W hb => hn.keeps (keeps_below hb)
  have HFU : Hid (I64 fuel) := hfu
  have infoIn : (Tryd.prog.info? 26).map (·.size) = some 4 := by kernel_rfl
  unfold inVal
  clear ht hc hv hwf hn hfu
  go_enter Tryd.func7, Tryd.ntmps7
  go_upto_region 2 with (go_at_call 15; refine HPR.out.mono ?_; rintro e w1 ⟨ao, n0, cap0, P, rfl, hR, hpv, hb1⟩)
  have HR : Hid (ProofAns P 0) := hR
  have B01 : Hid (Below w.heap.size w (w1.alloc (.cells #[.slice ao n0 cap0] 29))) := (HB0.out.trans (hb1.mono (by simp))).alloc (by have := hb1.size; simp at this; omega) _
  have I1 : (w1.alloc (.cells #[.slice ao n0 cap0] 29)).heap[w.heap.size]? = some (.cells #[.int .i64 a0, .int .i64 a1, .slice nao ln.length nc, .int .i64 fuel] 26 (0, 0)) := (heap_alloc_old _ _ (by have := hb1.size; simp at this; omega)).trans ((hb1.block _ (by simp)).trans (heap_alloc_last w _))
  have HP : Hid (∀ W, Below (w1.alloc (.cells #[.slice ao n0 cap0] 29)).heap.size (w1.alloc (.cells #[.slice ao n0 cap0] 29)) W → W.cell? ⟨w1.heap.size, 0, none⟩ = some (.slice ao n0 cap0) ∧ ProgVal W (.slice ao n0 cap0) P ∧ TabOk W ∧ CallOk W) := fun W hb => ⟨keeps_below hb _ _ (by rw [cell_of_row _ _ _ _ _ _ (heap_alloc_last w1 _)]; rfl), (hpv.keeps (keeps_below ((Below.refl _ _).alloc (Nat.le_refl _) _))).keeps (keeps_below hb), (HTC.out _ (B01.out.trans (hb.mono B01.out.size))).1, (HTC.out _ (B01.out.trans (hb.mono B01.out.size))).2⟩
  have HKB : Hid (Calls Tryd.prog 16 #[.agg #[.slice ao n0 cap0], .agg #[.int .i64 a0, .int .i64 a1, .slice nao ln.length nc, .int .i64 fuel]] (w1.alloc (.cells #[.slice ao n0 cap0] 29)) _) := kbegin P (.slice ao n0 cap0) a0 a1 fuel (.slice nao ln.length nc) ln (w1.alloc (.cells #[.slice ao n0 cap0] 29)) (HP.out _ (Below.refl _ _)).2.2.1 (HP.out _ (Below.refl _ _)).2.2.2 HR.out (HP.out _ (Below.refl _ _)).2.1 (HNV.out _ B01.out) HFU.out
  clear hR hpv hb1
  go_upto_region 3 with (first
    | (refine wpList_load_row rfl _ _ rfl _ rfl _ _ _ _ I1 Tryd.underlying26 rfl infoIn ?_)
    | (go_at_call 16; refine HKB.out.mono ?_; rintro e w2 ⟨cs2, S, rfl, hk, hs0, c1, c2, c3, hst, hb2⟩)
    | (refine wpList_store_row rfl _ _ _ rfl _ _ rfl rfl _ _ (heap_alloc_last w2 _) c1 c2 c3 ?_; rw [World.setRow_alloc_new]))
  have HK : Hid (KRunAt P S) := hk
  have HS0 : Hid (S.fuel ≤ 299 ∧ S.answers.length ≤ 10 ∧ S.status = 0) := hs0
  have B12 : Hid (Below (w1.alloc (.cells #[.slice ao n0 cap0] 29)).heap.size (w1.alloc (.cells #[.slice ao n0 cap0] 29)) (w2.alloc (.cells cs2 34))) := hb2.alloc hb2.size _
  have X2 : Hid (∀ W, Below (w2.alloc (.cells cs2 34)).heap.size (w2.alloc (.cells cs2 34)) W → W.heap[w2.heap.size]? = some (.cells cs2 34 (0, 0)) ∧ StVal W (.agg cs2) (walkS P 0 S)) := fun W hb => ⟨(hb.block _ (by simp)).trans (heap_alloc_last w2 _), (hst.val.keeps (keeps_below ((Below.refl _ _).alloc (Nat.le_refl _) _))).keeps (keeps_below hb)⟩
  have q2 : (Tryd.prog.info? 34).map (·.size) = some cs2.size := c1
  have HON2 : Hid (cs2.all (·.oneCell') = true) := c3
  have HZ12 : Hid ((w1.alloc (.cells #[.slice ao n0 cap0] 29)).heap.size ≤ w2.heap.size) := hb2.size
  have hz2 : zeroStCells.size = cs2.size := c2
  clear hk hs0 hst hb2 I1 HKB c1 c2 c3 infoIn
  have kp := (HP.out _ B12.out).1
  have r2 := (X2.out _ (Below.refl _ _)).1
  have HC : Hid (Calls Tryd.prog 25 #[.agg #[.slice ao n0 cap0], .agg cs2, .int .i64 ((400 : Nat) : Int)] (w2.alloc (.cells cs2 34)) _) := kwalk HK.out 0 400 (by omega) (by omega) _ _ (w2.alloc (.cells cs2 34)) (HP.out _ B12.out).2.2.1 (HP.out _ B12.out).2.2.2 (HP.out _ B12.out).2.1 (X2.out _ (Below.refl _ _)).2
  go_upto_region 4 with (first
    | (refine wpList_load_row rfl _ _ rfl _ rfl _ _ _ _ r2 Tryd.underlying34 rfl q2 ?_)
    | (go_at_call 25; refine HC.out.mono ?_; rintro e w3 ⟨cs3, rfl, c1, c2, c3, hst, hb⟩; have r3 : w3.heap[w2.heap.size]? = some (.cells cs2 34 (0, 0)) := (hb.block _ (by simp)).trans r2)
    | (refine wpList_store_row rfl _ _ _ rfl w2.heap.size cs3 rfl rfl 34 cs2 r3 c1 (hz2.symm.trans c2) c3 ?_))
  have BN : Hid (Below (w1.alloc (.cells #[.slice ao n0 cap0] 29)).heap.size (w1.alloc (.cells #[.slice ao n0 cap0] 29)) (World.setRow w3 w2.heap.size cs3)) := below_setRow (B12.out.trans (hb.mono B12.out.size)) (by have := HZ12.out; simpa using this) _
  have XN : Hid (∀ W, Below (World.setRow w3 w2.heap.size cs3).heap.size (World.setRow w3 w2.heap.size cs3) W → W.heap[w2.heap.size]? = some (.cells cs3 34 (0, 0)) ∧ StVal W (.agg cs3) (walkS P (0 + 400) S)) := fun W hW => ⟨(hW.block _ (by have := hb.size; simp [World.setRow] at this ⊢; omega)).trans (setRow_heap _ _ _ _ _ _ r3), ((hst.mono (show w2.heap.size + 1 ≤ _ by simp)).setRow (by omega) _).val.keeps (keeps_below hW)⟩
  have q3 : (Tryd.prog.info? 34).map (·.size) = some cs3.size := c1
  generalize World.setRow w3 w2.heap.size cs3 = WW at BN XN ⊢
  clear B12 X2 kp r2 q2 hz2 r3 hst hb c1 c2 c3 HC
  go_upto_region 4 with fail
  have kp := (HP.out _ BN.out).1
  have rr := (XN.out _ (Below.refl _ _)).1
  have HWX : Hid (∀ W, Below WW.heap.size WW W → Calls Tryd.prog 25 #[.agg #[.slice ao n0 cap0], .agg cs3, .int .i64 ((x : Nat) : Int)] W _) := fun W hb => kwalk HK.out (0 + 400) x (by omega) (by omega) _ _ W (HP.out _ (BN.out.trans (hb.mono BN.out.size))).2.2.1 (HP.out _ (BN.out.trans (hb.mono BN.out.size))).2.2.2 (HP.out _ (BN.out.trans (hb.mono BN.out.size))).2.1 (XN.out _ hb).2
  go_cut [11, 12] from 31 to 38 (fun t e wx => ∃ (G : Nat) (csn : Array Value), t = .pointer (some ⟨G, 0, none⟩) ∧ e = .int .i64 0 ∧ wx.heap[G]? = some (.cells csn 34 (0, 0)) ∧ (Tryd.prog.info? 34).map (·.size) = some csn.size ∧ Below WW.heap.size WW wx ∧ G < wx.heap.size ∧ StVal wx (.agg csn) (walkS P (0 + 400 + x) S))
  case first =>
    refine wp_region_held_drew (S := fun W => Below WW.heap.size WW W) (by kernel_rfl) ((Below.refl _ _).drew) (fun hHeld => ?_)
    show wpAnyH _ _ _ _ _ 11 _ _ _
    refine wpAnyH_take (i := 0) (v := ?_) rfl (by kernel_rfl) (by kernel_rfl) (by kernel_rfl) (fun _ _ _ h => h) (Or.inl ⟨by rfl, ?_⟩) (by assumption) ?_
    rotate_left
    · (intro W hSW; have zz := keeps_below hSW _ _ kp; go_simp; try (with_reducible rfl))
    (try simp only [Act.put, List.setIfInBounds_toArray])
    refine wpAnyH_take (i := 1) (v := .agg cs3.toList.toArray) rfl (by kernel_rfl) (by kernel_rfl) (by kernel_rfl) (fun _ _ _ h => h) (yieldsIf_load_mid (by rfl) 34 _ rfl _ 0 rfl cs3.toList _ (fun W hSW j u hu => by rw [cell_of_row _ _ _ _ _ _ ((hSW.block _ (by have := lt_of_block rr; omega)).trans rr)]; simpa using hu) Tryd.underlying34 rfl (by simpa using q3)) (by assumption) ?_
    simp only [Array.toArray_toList]
    (try simp only [List.getElem_toArray, List.getElem_cons_succ, List.getElem_cons_zero, List.set_cons_zero, List.set_cons_succ])
    (try simp only [Act.put, List.setIfInBounds_toArray, List.set_cons_zero, List.set_cons_succ])
    refine wpAnyH_take (i := 2) (v := ?_) rfl (by kernel_rfl) (by kernel_rfl) (by kernel_rfl) (fun _ _ _ h => h) (Or.inl ⟨by rfl, ?_⟩) (by assumption) ?_
    rotate_left
    · (intro W hSW; go_simp; try (with_reducible rfl))
    (try simp only [List.getElem_toArray, List.getElem_cons_succ, List.getElem_cons_zero])
    (try simp only [Act.put, List.setIfInBounds_toArray, List.set_cons_zero, List.set_cons_succ])
    refine wpAnyH_ready (rs := [3, 8]) (by kernel_rfl) (by simp) ?_
    refine AllReadyH.cons rfl (fun K hK => ?_) (AllReadyH.cons rfl (fun K hK => ?_) AllReadyH.nil)
    · go_simp
      go_at_call 22
      refine (hPX.out _).mono ?_
      rintro e wp ⟨rfl, hwp⟩
      replace hwp := hwp.symm
      subst hwp
      dsimp only
      refine hK.out _ _ hHeld (fun _ => ?_)
      clear hK K
      (try simp only [Act.put, List.setIfInBounds_toArray, List.set_cons_zero, List.set_cons_succ])
      refine wpAnyH_ready (rs := [4, 8]) (by kernel_rfl) (by simp) ?_
      refine AllReadyH.cons rfl (fun K hK => ?_) (AllReadyH.cons rfl (fun K hK => ?_) AllReadyH.nil)
      · go_simp
        go_at_call 25
        refine (HWX.out _ hHeld).mono ?_
        rintro e wn ⟨csn, rfl, c1, c2, c3, hst, hb⟩
        have hbn : Below WW.heap.size WW wn := Below.trans hHeld (hb.mono (Below.size hHeld))
        dsimp only
        refine hK.out _ _ hbn (fun _ => ?_)
        clear hK K
        (try simp only [Act.put, List.setIfInBounds_toArray, List.set_cons_zero, List.set_cons_succ])
        refine wpAnyH_take (i := 5) (v := ?_) rfl (by kernel_rfl) (by kernel_rfl) (by kernel_rfl) (fun _ _ _ h => h) (Or.inl ⟨by rfl, ?_⟩) hbn ?_
        rotate_left
        · (intro W hSW; go_simp; try (with_reducible rfl))
        (try simp only [Act.put, List.setIfInBounds_toArray])
        refine wpAnyH_take (i := 6) (v := ?_) rfl (by kernel_rfl) (by kernel_rfl) (by kernel_rfl) (fun _ _ _ h => h) (Or.inl ⟨by rfl, ?_⟩) hbn ?_
        rotate_left
        · (intro W hSW; go_simp; try (with_reducible rfl))
        (try simp only [Act.put])
        refine wpAnyH_take (i := 7) (v := ?_) rfl (by kernel_rfl) (by kernel_rfl) (by kernel_rfl) (fun _ _ _ h => h) (Or.inl ⟨by rfl, ?_⟩) hbn ?_
        rotate_left
        · (intro W hSW; go_simp; try (with_reducible rfl))
        (try simp only [Act.put])
        refine wpAnyH_ready (rs := [8]) (by kernel_rfl) (by simp) ?_
        refine AllReadyH.cons rfl (fun K hK => ?_) AllReadyH.nil
        go_simp
        refine hK.out _ _ (hbn.alloc hbn.size _) (fun hHeld2 => ?_)
        clear hK K
        (try simp only [Act.put, List.setIfInBounds_toArray, List.set_cons_zero, List.set_cons_succ])
        refine wpAnyH_ready (rs := [9]) (by kernel_rfl) (by simp) ?_
        refine AllReadyH.cons rfl (fun K hK => ?_) AllReadyH.nil
        refine wp_store_row 34 _ _ rfl wn.heap.size csn rfl rfl 34 zeroStCells (heap_alloc_last wn _) c1 c2 c3 ?_
        have BN : Below WW.heap.size WW (World.setRow (wn.alloc (.cells #[.int .i64 0, .int .i64 0, .slice none 0 0, .int .i64 0, .int .i64 0, .int .i64 0, .int .i64 0, .int .i64 0, .int .i64 0, .int .i64 0, .int .i64 0, .int .i64 0, .int .i64 0, .int .i64 0, .int .i64 0, .int .i64 0, .int .i64 0, .int .i64 0, .int .i64 0, .int .i64 0, .slice none 0 0, .slice none 0 0] 34)) wn.heap.size csn) := below_setRow (hbn.alloc hbn.size _) (by have := hbn.size; simp; try omega) _
        refine hK.out _ _ BN (fun _ => ?_)
        clear hK K
        (try simp only [Act.put, List.setIfInBounds_toArray])
        refine wpAnyH_ready (rs := [10]) (by kernel_rfl) (by simp) ?_
        refine AllReadyH.cons rfl (fun K hK => ?_) AllReadyH.nil
        go_simp
        refine hK.out _ _ BN (fun _ => ?_)
        clear hK K
        (try simp only [Act.put, List.setIfInBounds_toArray, List.set_cons_zero, List.set_cons_succ])
        refine wpAnyH_done (by kernel_rfl) ?_ _
        go_wp2_with fail
        go_meet
        exact ⟨_, csn, rfl, rfl, setRow_heap _ _ _ _ _ _ (heap_alloc_last wn _), c1, BN, lt_of_block (setRow_heap _ _ _ _ _ _ (heap_alloc_last wn _)), (hst.moved (fun ad u ha hu => (World.cell?_of_block (setRow_other _ _ _ _ (by have := World.block_lt_of_cell? _ _ hu; omega))).trans (cell_alloc hu _))).val⟩
      · go_simp
        refine hK.out _ _ ((Below.refl _ _).alloc (Nat.le_refl _) _).drew (fun hHeld2 => ?_)
        clear hK K
        (try simp only [Act.put, List.setIfInBounds_toArray, List.set_cons_zero, List.set_cons_succ])
        refine wpAnyH_ready (rs := [4]) (by kernel_rfl) (by simp) ?_
        refine AllReadyH.cons rfl (fun K hK => ?_) AllReadyH.nil
        go_simp
        go_at_call 25
        refine (HWX.out _ hHeld2).mono ?_
        rintro e wn ⟨csn, rfl, c1, c2, c3, hst, hb⟩
        have hbn : Below WW.heap.size WW wn := Below.trans hHeld2 (hb.mono (Below.size hHeld2))
        dsimp only
        refine hK.out _ _ hbn (fun _ => ?_)
        clear hK K
        (try simp only [Act.put, List.setIfInBounds_toArray, List.set_cons_zero, List.set_cons_succ])
        have hgz : wn.heap[WW.heap.size]? = some (.cells zeroStCells 34 (0, 0)) := (hb.block _ (by simp)).trans (heap_alloc_last WW _)
        refine wpAnyH_take (i := 5) (v := ?_) rfl (by kernel_rfl) (by kernel_rfl) (by kernel_rfl) (fun _ _ _ h => h) (Or.inl ⟨by rfl, ?_⟩) hbn ?_
        rotate_left
        · (intro W hSW; go_simp; try (with_reducible rfl))
        (try simp only [Act.put, List.setIfInBounds_toArray])
        refine wpAnyH_take (i := 6) (v := ?_) rfl (by kernel_rfl) (by kernel_rfl) (by kernel_rfl) (fun _ _ _ h => h) (Or.inl ⟨by rfl, ?_⟩) hbn ?_
        rotate_left
        · (intro W hSW; go_simp; try (with_reducible rfl))
        (try simp only [Act.put])
        refine wpAnyH_take (i := 7) (v := ?_) rfl (by kernel_rfl) (by kernel_rfl) (by kernel_rfl) (fun _ _ _ h => h) (Or.inl ⟨by rfl, ?_⟩) hbn ?_
        rotate_left
        · (intro W hSW; go_simp; try (with_reducible rfl))
        (try simp only [Act.put])
        refine wpAnyH_ready (rs := [9]) (by kernel_rfl) (by simp) ?_
        refine AllReadyH.cons rfl (fun K hK => ?_) AllReadyH.nil
        refine wp_store_row 34 _ _ rfl WW.heap.size csn rfl rfl 34 zeroStCells hgz c1 c2 c3 ?_
        have BN : Below WW.heap.size WW (World.setRow wn WW.heap.size csn) := below_setRow hbn (by have := hbn.size; simp; try omega) _
        refine hK.out _ _ BN (fun _ => ?_)
        clear hK K
        (try simp only [Act.put])
        refine wpAnyH_ready (rs := [10]) (by kernel_rfl) (by simp) ?_
        refine AllReadyH.cons rfl (fun K hK => ?_) AllReadyH.nil
        go_simp
        refine hK.out _ _ BN (fun _ => ?_)
        clear hK K
        (try simp only [Act.put, List.setIfInBounds_toArray, List.set_cons_zero, List.set_cons_succ])
        refine wpAnyH_done (by kernel_rfl) ?_ _
        go_wp2_with fail
        go_meet
        exact ⟨_, csn, rfl, rfl, setRow_heap _ _ _ _ _ _ hgz, c1, BN, lt_of_block (setRow_heap _ _ _ _ _ _ hgz), (hst.setRow (by simp) _).val⟩
    · go_simp
      refine hK.out _ _ ((Below.refl _ _).alloc (Nat.le_refl _) _).drew (fun hHeld2 => ?_)
      clear hK K
      (try simp only [Act.put, List.setIfInBounds_toArray, List.set_cons_zero, List.set_cons_succ])
      refine wpAnyH_ready (rs := [3]) (by kernel_rfl) (by simp) ?_
      refine AllReadyH.cons rfl (fun K hK => ?_) AllReadyH.nil
      go_simp
      go_at_call 22
      refine (hPX.out _).mono ?_
      rintro e wp ⟨rfl, hwp⟩
      replace hwp := hwp.symm
      subst hwp
      dsimp only
      refine hK.out _ _ hHeld2 (fun _ => ?_)
      clear hK K
      (try simp only [Act.put, List.setIfInBounds_toArray, List.set_cons_zero, List.set_cons_succ])
      refine wpAnyH_ready (rs := [4]) (by kernel_rfl) (by simp) ?_
      refine AllReadyH.cons rfl (fun K hK => ?_) AllReadyH.nil
      go_simp
      go_at_call 25
      refine (HWX.out _ hHeld2).mono ?_
      rintro e wn ⟨csn, rfl, c1, c2, c3, hst, hb⟩
      have hbn : Below WW.heap.size WW wn := Below.trans hHeld2 (hb.mono (Below.size hHeld2))
      dsimp only
      refine hK.out _ _ hbn (fun _ => ?_)
      clear hK K
      (try simp only [Act.put, List.setIfInBounds_toArray, List.set_cons_zero, List.set_cons_succ])
      have hgz : wn.heap[WW.heap.size]? = some (.cells zeroStCells 34 (0, 0)) := (hb.block _ (by simp)).trans (heap_alloc_last WW _)
      refine wpAnyH_take (i := 5) (v := ?_) rfl (by kernel_rfl) (by kernel_rfl) (by kernel_rfl) (fun _ _ _ h => h) (Or.inl ⟨by rfl, ?_⟩) hbn ?_
      rotate_left
      · (intro W hSW; go_simp; try (with_reducible rfl))
      (try simp only [Act.put, List.setIfInBounds_toArray])
      refine wpAnyH_take (i := 6) (v := ?_) rfl (by kernel_rfl) (by kernel_rfl) (by kernel_rfl) (fun _ _ _ h => h) (Or.inl ⟨by rfl, ?_⟩) hbn ?_
      rotate_left
      · (intro W hSW; go_simp; try (with_reducible rfl))
      (try simp only [Act.put])
      refine wpAnyH_take (i := 7) (v := ?_) rfl (by kernel_rfl) (by kernel_rfl) (by kernel_rfl) (fun _ _ _ h => h) (Or.inl ⟨by rfl, ?_⟩) hbn ?_
      rotate_left
      · (intro W hSW; go_simp; try (with_reducible rfl))
      (try simp only [Act.put])
      refine wpAnyH_ready (rs := [9]) (by kernel_rfl) (by simp) ?_
      refine AllReadyH.cons rfl (fun K hK => ?_) AllReadyH.nil
      refine wp_store_row 34 _ _ rfl WW.heap.size csn rfl rfl 34 zeroStCells hgz c1 c2 c3 ?_
      have BN : Below WW.heap.size WW (World.setRow wn WW.heap.size csn) := below_setRow hbn (by have := hbn.size; simp; try omega) _
      refine hK.out _ _ BN (fun _ => ?_)
      clear hK K
      (try simp only [Act.put])
      refine wpAnyH_ready (rs := [10]) (by kernel_rfl) (by simp) ?_
      refine AllReadyH.cons rfl (fun K hK => ?_) AllReadyH.nil
      go_simp
      refine hK.out _ _ BN (fun _ => ?_)
      clear hK K
      (try simp only [Act.put, List.setIfInBounds_toArray, List.set_cons_zero, List.set_cons_succ])
      refine wpAnyH_done (by kernel_rfl) ?_ _
      go_wp2_with fail
      go_meet
      exact ⟨_, csn, rfl, rfl, setRow_heap _ _ _ _ _ _ hgz, c1, BN, lt_of_block (setRow_heap _ _ _ _ _ _ hgz), (hst.setRow (by simp) _).val⟩
  case rest =>
    obtain ⟨Gt, cst, rfl, rfl, rowGt, qt, Bt, hGt, stt⟩ := hcut
    have HBt : Hid (Below WW.heap.size WW wc) := Bt
    have HRT : Hid (∀ W, Below wc.heap.size wc W → W.heap[Gt]? = some (.cells cst 34 (0, 0)) ∧ StVal W (.agg cst) (walkS P (0 + 400 + x) S)) := fun W hW => ⟨(hW.block _ hGt).trans rowGt, stt.keeps (keeps_below hW)⟩
    have B1t : Hid (Below (w1.alloc (.cells #[.slice ao n0 cap0] 29)).heap.size (w1.alloc (.cells #[.slice ao n0 cap0] 29)) wc) := BN.out.trans (Bt.mono BN.out.size)
    clear kp rr HWX Bt rowGt stt hGt
    have kp := (HP.out _ B1t.out).1
    have r3 := (XN.out _ HBt.out).1
    have HCu : Hid (Calls Tryd.prog 20 #[.agg #[.slice ao n0 cap0], .agg cs3] wc _) := knext HK.out (0 + 400) (by omega) _ _ wc (HP.out _ B1t.out).2.2.1 (HP.out _ B1t.out).2.2.2 (HP.out _ B1t.out).2.1 (XN.out _ HBt.out).2
    go_upto_region 6 with (first
      | (refine wpList_load_row rfl _ _ rfl _ rfl _ _ _ _ r3 Tryd.underlying34 rfl q3 ?_)
      | (go_at_call 20; refine HCu.out.mono ?_; rintro e wu ⟨csu, rfl, c1, c2, c3, hst, hb⟩)
      | (refine wpList_store_row rfl _ _ _ rfl _ _ rfl rfl _ _ (heap_alloc_last wu _) c1 c2 c3 ?_; rw [World.setRow_alloc_new]))
    have HBu : Hid (Below wc.heap.size wc (wu.alloc (.cells csu 34))) := hb.alloc hb.size _
    have HRU : Hid (∀ W, Below (wu.alloc (.cells csu 34)).heap.size (wu.alloc (.cells csu 34)) W → W.heap[wu.heap.size]? = some (.cells csu 34 (0, 0)) ∧ StVal W (.agg csu) (walkS P (0 + 400 + 1) S)) := fun W hW => ⟨(hW.block _ (by simp)).trans (heap_alloc_last wu _), (hst.val.keeps (keeps_below ((Below.refl _ _).alloc (Nat.le_refl _) _))).keeps (keeps_below hW)⟩
    have qu : (Tryd.prog.info? 34).map (·.size) = some csu.size := c1
    clear hst hb c1 c2 c3 kp r3 HCu
    have kp := (HP.out _ (B1t.out.trans (HBu.out.mono B1t.out.size))).1
    have r3 := (XN.out _ (HBt.out.trans (HBu.out.mono HBt.out.size))).1
    have HCv : Hid (Calls Tryd.prog 25 #[.agg #[.slice ao n0 cap0], .agg cs3, .int .i64 (-1)] (wu.alloc (.cells csu 34)) _) := walk_neg P _ _ (walkS P (0 + 400) S) (-1) (wu.alloc (.cells csu 34)) (HP.out _ (B1t.out.trans (HBu.out.mono B1t.out.size))).2.2.1 (HP.out _ (B1t.out.trans (HBu.out.mono B1t.out.size))).2.2.2 HR.out (HP.out _ (B1t.out.trans (HBu.out.mono B1t.out.size))).2.1 (XN.out _ (HBt.out.trans (HBu.out.mono HBt.out.size))).2 (krun_walk HK.out (0 + 400)).1.may (krun_walk HK.out (0 + 400)).1.fok (by omega)
    go_upto_region 7 with (first
      | (refine wpList_load_row rfl _ _ rfl _ rfl _ _ _ _ r3 Tryd.underlying34 rfl q3 ?_)
      | (go_at_call 25; refine HCv.out.mono ?_; rintro e wv ⟨rfl, hb⟩)
      | (refine wpList_store_row rfl _ _ _ rfl _ _ rfl rfl _ _ (heap_alloc_last wv _) infoSt rfl zeroSt_one ?_; rw [World.setRow_alloc_new]))
    have HBv : Hid (Below (wu.alloc (.cells csu 34)).heap.size (wu.alloc (.cells csu 34)) (wv.alloc (.cells zeroStCells 34))) := hb.alloc hb.size _
    clear hb kp r3 HCv
    have hend := run_ended HK.out.right HK.out.inv (0 + 400) (by have := HS0.out.1; omega)
    have e1 := walkS_ended P (0 + 400) (0 + 400 + x) S (by omega) hend
    have e2 := walkS_ended P (0 + 400) (0 + 400 + 1) S (by omega) hend
    have HFN : Hid (∀ W, Below (wv.alloc (.cells zeroStCells 34)).heap.size (wv.alloc (.cells zeroStCells 34)) W → W.heap[w2.heap.size]? = some (.cells cs3 34 (0, 0)) ∧ W.heap[Gt]? = some (.cells cst 34 (0, 0)) ∧ W.heap[wu.heap.size]? = some (.cells csu 34 (0, 0)) ∧ StVal W (.agg cs3) (walkS P (0 + 400) S) ∧ StVal W (.agg cst) (walkS P (0 + 400) S) ∧ StVal W (.agg csu) (walkS P (0 + 400) S)) := fun W hW => ⟨(XN.out _ (((HBt.out.trans (HBu.out.mono HBt.out.size)).trans (HBv.out.mono (HBt.out.trans (HBu.out.mono HBt.out.size)).size)).trans (hW.mono ((HBt.out.trans (HBu.out.mono HBt.out.size)).trans (HBv.out.mono (HBt.out.trans (HBu.out.mono HBt.out.size)).size)).size))).1, (HRT.out _ ((HBu.out.trans (HBv.out.mono HBu.out.size)).trans (hW.mono (HBu.out.trans (HBv.out.mono HBu.out.size)).size))).1, (HRU.out _ (HBv.out.trans (hW.mono HBv.out.size))).1, (XN.out _ (((HBt.out.trans (HBu.out.mono HBt.out.size)).trans (HBv.out.mono (HBt.out.trans (HBu.out.mono HBt.out.size)).size)).trans (hW.mono ((HBt.out.trans (HBu.out.mono HBt.out.size)).trans (HBv.out.mono (HBt.out.trans (HBu.out.mono HBt.out.size)).size)).size))).2, by rw [← e1]; exact (HRT.out _ ((HBu.out.trans (HBv.out.mono HBu.out.size)).trans (hW.mono (HBu.out.trans (HBv.out.mono HBu.out.size)).size))).2, by rw [← e2]; exact (HRU.out _ (HBv.out.trans (hW.mono HBv.out.size))).2⟩
    obtain ⟨f3, ft, fu1, s3, st, su⟩ := HFN.out _ (Below.refl _ _)
    have k0 : (wv.alloc (.cells zeroStCells 34)).cell? ⟨w2.heap.size, 0, none⟩ = some (.int .i64 (walkS P (0 + 400) S).status) := by rw [cell_of_row _ _ _ _ _ _ f3]; exact s3.at.1
    generalize (walkS P (0 + 400) S).status = sta at k0 hend
    have hne : (sta == 0) = false := by simpa using hend
    have hne2 : (sta != 0) = true := by simp [hend]
    have hne3 : decide (sta = 0) = false := by simpa using hend
    have BF : Hid (Below w.heap.size w (wv.alloc (.cells zeroStCells 34))) := B01.out.trans (((B1t.out.trans (HBu.out.mono B1t.out.size)).trans (HBv.out.mono (B1t.out.trans (HBu.out.mono B1t.out.size)).size)).mono B01.out.size)
    have HS1 : Hid (Calls Tryd.prog 24 #[.agg cs3, .agg cst] (wv.alloc (.cells zeroStCells 34)) _) := sameState_keep _ _ _ _ s3 st
    clear s3 st su e1 e2
    go_wp2_with (first
      | (refine wpList_load_wanted_k rfl _ _ rfl w2.heap.size rfl _ _ _ _ f3 Tryd.underlying34 rfl q3 ?_)
      | (refine wpList_load_wanted_k rfl _ _ rfl Gt rfl _ _ _ _ ft Tryd.underlying34 rfl qt ?_)
      | (refine wpList_load_wanted_k rfl _ _ rfl w2.heap.size rfl _ _ _ _ g3 Tryd.underlying34 rfl q3 ?_)
      | (refine wpList_load_wanted_k rfl _ _ rfl wu.heap.size rfl _ _ _ _ gu Tryd.underlying34 rfl qu ?_)
      | (go_at_call 24; refine HS1.out.mono ?_; rintro e w6 ⟨rfl, hb6⟩; obtain ⟨g3, -, gu, s3, -, su⟩ := HFN.out _ hb6; have HS2 : Hid (Calls Tryd.prog 24 #[.agg cs3, .agg csu] w6 _) := sameState_keep _ _ _ _ s3 su; clear s3 su HS1 f3 ft)
      | (go_at_call 24; refine HS2.out.mono ?_; rintro e w7 ⟨rfl, hb7⟩))
    go_ret
    exact ⟨rfl, (BF.out.trans (hb6.mono BF.out.size)).trans (hb7.mono (BF.out.trans (hb6.mono BF.out.size)).size)⟩
end Go.Proofs.YtcjclencbjllhaaDoor
