/- The walk of tierlinetop.TopTidy: at all raw numbers it says true, and nothing that was there has turned (written by gen/mktoptidy.py). -/
import Derived.Test.YteabbanjjdmjkaaDoorGroupK
import Derived.Test.YteabbanjjdmjkaaDoorXTopK
import Derived.Test.YteabbanjjdmjkaaDoorXTidyFace
import Derived.Test.YteabbanjjdmjkaaDoorXTidyMath
import Derived.Test.YteabbanjjdmjkaaDoorXJunkKit
namespace Go.Proofs.YteabbanjjdmjkaaDoor
open Go Go.RowKit

set_option maxHeartbeats 8000000 in
set_option maxRecDepth 100000 in
theorem topTidy_walk (l : List Fn) (v : Value) (a0 a1 fuel : Int) (nv : Value) (ln : List Int) (a : Int) (w : World) (ht : TabOk w) (hc : CallOk w) (hv : ProgVal w v l) (hwf : ∀ f ∈ l, f.wf) (hn : IntsVal w nv ln) (hfu : I64 fuel) (ha : I64 a) :
    Calls Tryd.prog 8 #[v, inVal a0 a1 nv fuel, .int .i64 a] w fun e w' => e = .returned (.bool true) ∧ Below w.heap.size w w' := by
  obtain ⟨x, hx, ex⟩ : ∃ x : Nat, x < 200 ∧ pickI a 200 = x := by have b := pickI_bounds a 200 (by omega); obtain ⟨k, hk⟩ := Int.eq_ofNat_of_zero_le b.1; exact ⟨k, by omega, hk⟩
  have hPX : Hid (∀ W, Calls Tryd.prog 27 #[.int .i64 a, .int .i64 200] W fun e w' => e = .returned (.int .i64 (x : Int)) ∧ w' = W) := fun W => by have := pickedK_any a 200 W ha (by omega) (by omega); rw [ex] at this; exact this
  clear ex ha
  obtain ⟨nao, nc, rfl⟩ := hn.shape
  obtain ⟨lao, ll, lc, rfl⟩ := hv.shape
  have HTC : Hid (∀ W, Below w.heap.size w W → TabOk W ∧ CallOk W) := fun W hb => ⟨ht.below hb, hc.below hb⟩
  have HB0 : Hid (Below w.heap.size w (w.alloc (.cells #[.int .i64 a0, .int .i64 a1, .slice nao ln.length nc, .int .i64 fuel] 44))) := (Below.refl _ _).alloc (Nat.le_refl _) _
  have HPR : Hid (Calls Tryd.prog 15 #[.slice lao ll lc] (w.alloc (.cells #[.int .i64 a0, .int .i64 a1, .slice nao ln.length nc, .int .i64 fuel] 44)) fun e w' => ∃ ao n cap P, e = .returned (.agg #[.slice ao n cap]) ∧ ProofAns P 0 ∧ ProgVal w' (.slice ao n cap) P ∧ Below (w.alloc (.cells #[.int .i64 a0, .int .i64 a1, .slice nao ln.length nc, .int .i64 fuel] 44)).heap.size (w.alloc (.cells #[.int .i64 a0, .int .i64 a1, .slice nao ln.length nc, .int .i64 fuel] 44)) w') := kprog l _ _ (HTC.out _ HB0.out).1 (HTC.out _ HB0.out).2 (hv.keeps (keeps_below HB0.out)) hwf
  have HNV : Hid (∀ W, Below w.heap.size w W → IntsVal W (.slice nao ln.length nc) ln) := fun W hb => hn.keeps (keeps_below hb)
  have HFU : Hid (I64 fuel) := hfu
  have infoIn : (Tryd.prog.info? 44).map (·.size) = some 4 := by kernel_rfl
  unfold inVal
  clear ht hc hv hwf hn hfu
  go_enter Tryd.func8, Tryd.ntmps8
  go_upto_region 2 with (go_at_call 15; refine HPR.out.mono ?_; rintro e w1 ⟨ao, n0, cap0, P, rfl, hR, hpv, hb1⟩)
  have HR : Hid (ProofAns P 0) := hR
  have B01 : Hid (Below w.heap.size w (w1.alloc (.cells #[.slice ao n0 cap0] 24))) := (HB0.out.trans (hb1.mono (by simp))).alloc (by have := hb1.size; simp at this; omega) _
  have I1 : (w1.alloc (.cells #[.slice ao n0 cap0] 24)).heap[w.heap.size]? = some (.cells #[.int .i64 a0, .int .i64 a1, .slice nao ln.length nc, .int .i64 fuel] 44 (0, 0)) := (heap_alloc_old _ _ (by have := hb1.size; simp at this; omega)).trans ((hb1.block _ (by simp)).trans (heap_alloc_last w _))
  have HP : Hid (∀ W, Below (w1.alloc (.cells #[.slice ao n0 cap0] 24)).heap.size (w1.alloc (.cells #[.slice ao n0 cap0] 24)) W → W.cell? ⟨w1.heap.size, 0, none⟩ = some (.slice ao n0 cap0) ∧ ProgVal W (.slice ao n0 cap0) P ∧ TabOk W ∧ CallOk W) := fun W hb => ⟨keeps_below hb _ _ (by rw [cell_of_row _ _ _ _ _ _ (heap_alloc_last w1 _)]; rfl), (hpv.keeps (keeps_below ((Below.refl _ _).alloc (Nat.le_refl _) _))).keeps (keeps_below hb), (HTC.out _ (B01.out.trans (hb.mono B01.out.size))).1, (HTC.out _ (B01.out.trans (hb.mono B01.out.size))).2⟩
  have HKB : Hid (Calls Tryd.prog 26 #[.agg #[.slice ao n0 cap0], .agg #[.int .i64 a0, .int .i64 a1, .slice nao ln.length nc, .int .i64 fuel]] (w1.alloc (.cells #[.slice ao n0 cap0] 24)) _) := kbegin P (.slice ao n0 cap0) a0 a1 fuel (.slice nao ln.length nc) ln (w1.alloc (.cells #[.slice ao n0 cap0] 24)) (HP.out _ (Below.refl _ _)).2.2.1 (HP.out _ (Below.refl _ _)).2.2.2 HR.out (HP.out _ (Below.refl _ _)).2.1 (HNV.out _ B01.out) HFU.out
  clear hR hpv hb1
  go_upto_region 3 with (first
    | (refine wpList_load_row rfl _ _ rfl _ rfl _ _ _ _ I1 Tryd.underlying44 rfl infoIn ?_)
    | (go_at_call 26; refine HKB.out.mono ?_; rintro e w2 ⟨cs2, S, rfl, hk, hs0, c1, c2, c3, hst, hb2⟩)
    | (refine wpList_store_row rfl _ _ _ rfl _ _ rfl rfl _ _ (heap_alloc_last w2 _) c1 c2 c3 ?_; rw [World.setRow_alloc_new]))
  have HK : Hid (KRunAt P S) := hk
  have HS0 : Hid (S.fuel ≤ 299 ∧ S.answers.length ≤ 10 ∧ S.status = 0) := hs0
  have B12 : Hid (Below (w1.alloc (.cells #[.slice ao n0 cap0] 24)).heap.size (w1.alloc (.cells #[.slice ao n0 cap0] 24)) (w2.alloc (.cells cs2 29))) := hb2.alloc hb2.size _
  have X2 : Hid (∀ W, Below (w2.alloc (.cells cs2 29)).heap.size (w2.alloc (.cells cs2 29)) W → W.heap[w2.heap.size]? = some (.cells cs2 29 (0, 0)) ∧ StVal W (.agg cs2) (walkS P 0 S)) := fun W hb => ⟨(hb.block _ (by simp)).trans (heap_alloc_last w2 _), (hst.val.keeps (keeps_below ((Below.refl _ _).alloc (Nat.le_refl _) _))).keeps (keeps_below hb)⟩
  have q2 : (Tryd.prog.info? 29).map (·.size) = some cs2.size := c1
  have HON2 : Hid (cs2.all (·.oneCell') = true) := c3
  have HZ12 : Hid ((w1.alloc (.cells #[.slice ao n0 cap0] 24)).heap.size ≤ w2.heap.size) := hb2.size
  have hz2 : zeroStCells.size = cs2.size := c2
  clear hk hs0 hst hb2 I1 HKB c1 c2 c3 infoIn
  go_upto_region 3 with fail
  have kp := (HP.out _ B12.out).1
  have r2 := (X2.out _ (Below.refl _ _)).1
  have HWX : Hid (∀ W, Below (w2.alloc (.cells cs2 29)).heap.size (w2.alloc (.cells cs2 29)) W → Calls Tryd.prog 21 #[.agg #[.slice ao n0 cap0], .agg cs2, .int .i64 ((x : Nat) : Int)] W _) := fun W hb => kwalk HK.out 0 x (by omega) (by omega) _ _ W (HP.out _ (B12.out.trans (hb.mono B12.out.size))).2.2.1 (HP.out _ (B12.out.trans (hb.mono B12.out.size))).2.2.2 (HP.out _ (B12.out.trans (hb.mono B12.out.size))).2.1 (X2.out _ hb).2
  (try simp only [Act.put])
  go_cut [10] from 27 to 35 (fun e wx => ∃ cs3 : Array Value, e = .int .i64 0 ∧ wx.heap[w2.heap.size]? = some (.cells cs3 29 (0, 0)) ∧ (Tryd.prog.info? 29).map (·.size) = some cs3.size ∧ StVal wx (.agg cs3) (walkS P (0 + x) S) ∧ Below (w1.alloc (.cells #[.slice ao n0 cap0] 24)).heap.size (w1.alloc (.cells #[.slice ao n0 cap0] 24)) wx)
  case first =>
    refine wp_region_held_drew (S := fun W => W.cell? ⟨w1.heap.size, 0, none⟩ = some (.slice ao n0 cap0)) (by kernel_rfl) kp (fun hHeld => ?_)
    show wpAnyH _ _ _ _ _ 10 _ _ _
    refine wpAnyH_take (i := 0) (v := ?_) rfl (by kernel_rfl) (by kernel_rfl) (by kernel_rfl) (fun _ _ _ h => h) (Or.inl ⟨by rfl, ?_⟩) (by assumption) ?_
    rotate_left
    · (intro W hSW; go_simp; try (with_reducible rfl))
    (try simp only [Act.put, List.setIfInBounds_toArray])
    refine wpAnyH_take (i := 2) (v := ?_) rfl (by kernel_rfl) (by kernel_rfl) (by kernel_rfl) (fun _ _ _ h => h) (Or.inl ⟨by rfl, ?_⟩) (by assumption) ?_
    rotate_left
    · (intro W hSW; go_simp; try (with_reducible rfl))
    (try simp only [Act.put])
    refine wpAnyH_ready (rs := [1, 3]) (by kernel_rfl) (by simp) ?_
    refine AllReadyH.cons rfl (fun K hK => ?_) (AllReadyH.cons rfl (fun K hK => ?_) AllReadyH.nil)
    · -- the state is loaded first
      refine wp_load_row 29 _ rfl w2.heap.size rfl _ _ _ _ r2 Tryd.underlying29 rfl q2 ?_
      refine hK.out _ _ kp (fun _ => ?_)
      clear hK K
      (try simp only [Act.put])
      refine wpAnyH_ready (rs := [3]) (by kernel_rfl) (by simp) ?_
      refine AllReadyH.cons rfl (fun K hK => ?_) AllReadyH.nil
      go_simp
      go_at_call 27
      refine (hPX.out _).mono ?_
      rintro e wp ⟨rfl, hwp⟩
      replace hwp := hwp.symm
      subst hwp
      dsimp only
      refine hK.out _ _ kp (fun _ => ?_)
      clear hK K
      (try simp only [Act.put, List.setIfInBounds_toArray, List.set_cons_zero, List.set_cons_succ])
      refine wpAnyH_ready (rs := [4]) (by kernel_rfl) (by simp) ?_
      refine AllReadyH.cons rfl (fun K hK => ?_) AllReadyH.nil
      go_simp
      go_at_call 21
      refine (HWX.out _ ((Below.refl _ _).drew)).mono ?_
      rintro e w3 ⟨cs3, rfl, c1, c2, c3, hst, hb⟩
      have hb3 : Below (w2.alloc (.cells cs2 29)).heap.size (w2.alloc (.cells cs2 29)) w3 := (Below.refl _ _).drew.trans (hb.mono (Nat.le_refl _))
      have kp3 := keeps_below hb3 _ _ kp
      have r3 : w3.heap[w2.heap.size]? = some (.cells cs2 29 (0, 0)) := (hb3.block _ (by simp)).trans r2
      dsimp only
      refine hK.out _ _ kp3 (fun _ => ?_)
      clear hK K
      (try simp only [Act.put, List.setIfInBounds_toArray, List.set_cons_zero, List.set_cons_succ])
      refine wpAnyH_take (i := 5) (v := ?_) rfl (by kernel_rfl) (by kernel_rfl) (by kernel_rfl) (fun _ _ _ h => h) (Or.inl ⟨by rfl, ?_⟩) kp3 ?_
      rotate_left
      · (intro W hSW; go_simp; try (with_reducible rfl))
      (try simp only [Act.put, List.setIfInBounds_toArray])
      refine wpAnyH_take (i := 6) (v := ?_) rfl (by kernel_rfl) (by kernel_rfl) (by kernel_rfl) (fun _ _ _ h => h) (Or.inl ⟨by rfl, ?_⟩) kp3 ?_
      rotate_left
      · (intro W hSW; go_simp; try (with_reducible rfl))
      (try simp only [Act.put])
      refine wpAnyH_take (i := 7) (v := ?_) rfl (by kernel_rfl) (by kernel_rfl) (by kernel_rfl) (fun _ _ _ h => h) (Or.inl ⟨by rfl, ?_⟩) kp3 ?_
      rotate_left
      · (intro W hSW; go_simp; try (with_reducible rfl))
      (try simp only [Act.put])
      refine wpAnyH_ready (rs := [8]) (by kernel_rfl) (by simp) ?_
      refine AllReadyH.cons rfl (fun K hK => ?_) AllReadyH.nil
      refine wp_store_row 29 _ _ rfl w2.heap.size cs3 rfl rfl 29 cs2 r3 c1 (hz2.symm.trans c2) c3 ?_
      have BN : Below (w1.alloc (.cells #[.slice ao n0 cap0] 24)).heap.size (w1.alloc (.cells #[.slice ao n0 cap0] 24)) (World.setRow w3 w2.heap.size cs3) := below_setRow (B12.out.trans (hb3.mono B12.out.size)) (by have := HZ12.out; simpa using this) _
      have rN := setRow_heap w3 w2.heap.size _ cs3 _ _ r3
      have sN : StVal (World.setRow w3 w2.heap.size cs3) (.agg cs3) (walkS P (0 + x) S) := ((hst.mono (show w2.heap.size + 1 ≤ _ by simp)).setRow (by omega) _).val
      have kpN := (HP.out _ BN).1
      refine hK.out _ _ kpN (fun _ => ?_)
      clear hK K
      (try simp only [Act.put])
      generalize World.setRow w3 w2.heap.size cs3 = WW at BN rN sN kpN ⊢
      refine wpAnyH_ready (rs := [9]) (by kernel_rfl) (by simp) ?_
      refine AllReadyH.cons rfl (fun K hK => ?_) AllReadyH.nil
      go_simp
      refine hK.out _ _ kpN (fun _ => ?_)
      clear hK K
      (try simp only [Act.put, List.setIfInBounds_toArray, List.set_cons_zero, List.set_cons_succ])
      refine wpAnyH_done (by kernel_rfl) ?_ _
      go_wp2_with fail
      go_meet
      exact ⟨cs3, rfl, rN, c1, sN, BN⟩
    · -- picked first
      go_simp
      go_at_call 27
      refine (hPX.out _).mono ?_
      rintro e wp ⟨rfl, hwp⟩
      replace hwp := hwp.symm
      subst hwp
      dsimp only
      refine hK.out _ _ kp (fun _ => ?_)
      clear hK K
      (try simp only [Act.put, List.setIfInBounds_toArray, List.set_cons_zero, List.set_cons_succ])
      refine wpAnyH_ready (rs := [1]) (by kernel_rfl) (by simp) ?_
      refine AllReadyH.cons rfl (fun K hK => ?_) AllReadyH.nil
      refine wp_load_row 29 _ rfl w2.heap.size rfl _ _ _ _ r2 Tryd.underlying29 rfl q2 ?_
      refine hK.out _ _ kp (fun _ => ?_)
      clear hK K
      (try simp only [Act.put, List.setIfInBounds_toArray])
      refine wpAnyH_ready (rs := [4]) (by kernel_rfl) (by simp) ?_
      refine AllReadyH.cons rfl (fun K hK => ?_) AllReadyH.nil
      go_simp
      go_at_call 21
      refine (HWX.out _ ((Below.refl _ _).drew)).mono ?_
      rintro e w3 ⟨cs3, rfl, c1, c2, c3, hst, hb⟩
      have hb3 : Below (w2.alloc (.cells cs2 29)).heap.size (w2.alloc (.cells cs2 29)) w3 := (Below.refl _ _).drew.trans (hb.mono (Nat.le_refl _))
      have kp3 := keeps_below hb3 _ _ kp
      have r3 : w3.heap[w2.heap.size]? = some (.cells cs2 29 (0, 0)) := (hb3.block _ (by simp)).trans r2
      dsimp only
      refine hK.out _ _ kp3 (fun _ => ?_)
      clear hK K
      (try simp only [Act.put, List.setIfInBounds_toArray, List.set_cons_zero, List.set_cons_succ])
      refine wpAnyH_take (i := 5) (v := ?_) rfl (by kernel_rfl) (by kernel_rfl) (by kernel_rfl) (fun _ _ _ h => h) (Or.inl ⟨by rfl, ?_⟩) kp3 ?_
      rotate_left
      · (intro W hSW; go_simp; try (with_reducible rfl))
      (try simp only [Act.put, List.setIfInBounds_toArray])
      refine wpAnyH_take (i := 6) (v := ?_) rfl (by kernel_rfl) (by kernel_rfl) (by kernel_rfl) (fun _ _ _ h => h) (Or.inl ⟨by rfl, ?_⟩) kp3 ?_
      rotate_left
      · (intro W hSW; go_simp; try (with_reducible rfl))
      (try simp only [Act.put])
      refine wpAnyH_take (i := 7) (v := ?_) rfl (by kernel_rfl) (by kernel_rfl) (by kernel_rfl) (fun _ _ _ h => h) (Or.inl ⟨by rfl, ?_⟩) kp3 ?_
      rotate_left
      · (intro W hSW; go_simp; try (with_reducible rfl))
      (try simp only [Act.put])
      refine wpAnyH_ready (rs := [8]) (by kernel_rfl) (by simp) ?_
      refine AllReadyH.cons rfl (fun K hK => ?_) AllReadyH.nil
      refine wp_store_row 29 _ _ rfl w2.heap.size cs3 rfl rfl 29 cs2 r3 c1 (hz2.symm.trans c2) c3 ?_
      have BN : Below (w1.alloc (.cells #[.slice ao n0 cap0] 24)).heap.size (w1.alloc (.cells #[.slice ao n0 cap0] 24)) (World.setRow w3 w2.heap.size cs3) := below_setRow (B12.out.trans (hb3.mono B12.out.size)) (by have := HZ12.out; simpa using this) _
      have rN := setRow_heap w3 w2.heap.size _ cs3 _ _ r3
      have sN : StVal (World.setRow w3 w2.heap.size cs3) (.agg cs3) (walkS P (0 + x) S) := ((hst.mono (show w2.heap.size + 1 ≤ _ by simp)).setRow (by omega) _).val
      have kpN := (HP.out _ BN).1
      refine hK.out _ _ kpN (fun _ => ?_)
      clear hK K
      (try simp only [Act.put])
      generalize World.setRow w3 w2.heap.size cs3 = WW at BN rN sN kpN ⊢
      refine wpAnyH_ready (rs := [9]) (by kernel_rfl) (by simp) ?_
      refine AllReadyH.cons rfl (fun K hK => ?_) AllReadyH.nil
      go_simp
      refine hK.out _ _ kpN (fun _ => ?_)
      clear hK K
      (try simp only [Act.put, List.setIfInBounds_toArray, List.set_cons_zero, List.set_cons_succ])
      refine wpAnyH_done (by kernel_rfl) ?_ _
      go_wp2_with fail
      go_meet
      exact ⟨cs3, rfl, rN, c1, sN, BN⟩
  case rest =>
    obtain ⟨cs3, rfl, rN, q2n, sN, bN⟩ := hcut
    have B1N : Hid (Below (w1.alloc (.cells #[.slice ao n0 cap0] 24)).heap.size (w1.alloc (.cells #[.slice ao n0 cap0] 24)) wc) := bN
    have XN : Hid (∀ W, Below wc.heap.size wc W → W.heap[w2.heap.size]? = some (.cells cs3 29 (0, 0)) ∧ StVal W (.agg cs3) (walkS P (0 + x) S)) := fun W hb => ⟨(hb.block _ (lt_of_block rN)).trans rN, sN.keeps (keeps_below hb)⟩
    clear B12 X2 HWX kp r2 q2 hz2 rN sN bN
    have B12 : Hid (Below (w1.alloc (.cells #[.slice ao n0 cap0] 24)).heap.size (w1.alloc (.cells #[.slice ao n0 cap0] 24)) wc) := B1N.out
    have X2 : Hid (∀ W, Below wc.heap.size wc W → W.heap[w2.heap.size]? = some (.cells cs3 29 (0, 0)) ∧ StVal W (.agg cs3) (walkS P (0 + x) S)) := XN.out
    have q2 := q2n
    clear B1N XN q2n
    have HI : Hid (RunInv P (walkS P (0 + x) S)) := (krun_walk HK.out (0 + x)).1
    have HEV : Hid ((walkS P (0 + x) S).events.length ≤ 200) := by have := (krun_walk HK.out (0 + x)).2; show _ ≤ _; omega
    have HFL : Hid ((walkS P 400 (walkS P (0 + x) S)).status ≠ 0) := by
      have := run_ended HK.out.right HK.out.inv (0 + x + 400) (by have := HS0.out.1; omega)
      rw [walkS_add] at this; exact this
    generalize hSX : walkS P (0 + x) S = SX at *
    clear hSX
    have kp := (HP.out _ B12.out).1
    have r2 := (X2.out _ (Below.refl _ _)).1
    have HT1 : Hid (Calls Tryd.prog 24 #[.agg #[.slice ao n0 cap0], .agg cs3] wc _) := tidyF_ok P _ _ SX wc (HP.out _ B12.out).2.2.1 (HP.out _ B12.out).2.2.2 HR.out HI.out.may HI.out.fok (HP.out _ B12.out).2.1 (X2.out _ (Below.refl _ _)).2 (by have := HEV.out; omega)
    go_upto_region 5 with (first
      | (refine wpList_load_row rfl _ _ rfl _ rfl _ _ _ _ r2 Tryd.underlying29 rfl q2 ?_)
      | (go_at_call 24; refine HT1.out.mono ?_; rintro e w4 hP4; obtain ⟨cs4, rfl, hst4, hb4⟩ := hP4; obtain ⟨csx, hcx, c1, c2, c3⟩ := hst4.at.val.cells; obtain rfl := Value.agg.inj hcx; clear hcx)
      | (refine wpList_store_row rfl _ _ _ rfl _ _ rfl rfl _ _ (heap_alloc_last w4 _) c1 c2 c3 ?_; rw [World.setRow_alloc_new]))
    have B24 : Hid (Below wc.heap.size wc (w4.alloc (.cells cs4 29))) := hb4.alloc hb4.size _
    have X4 : Hid (∀ W, Below (w4.alloc (.cells cs4 29)).heap.size (w4.alloc (.cells cs4 29)) W → W.heap[w4.heap.size]? = some (.cells cs4 29 (0, 0)) ∧ StVal W (.agg cs4) (tidS P SX)) := fun W hb => ⟨(hb.block _ (by simp)).trans (heap_alloc_last w4 _), (hst4.at.val.keeps (keeps_below ((Below.refl _ _).alloc (Nat.le_refl _) _))).keeps (keeps_below hb)⟩
    have q4 : (Tryd.prog.info? 29).map (·.size) = some cs4.size := c1
    clear hst4 hb4 c1 c2 c3 HT1 kp r2
    generalize (w4.alloc (.cells cs4 29)) = V4 at *
    generalize w4.heap.size = G4 at *
    have B14 : Hid (Below (w1.alloc (.cells #[.slice ao n0 cap0] 24)).heap.size (w1.alloc (.cells #[.slice ao n0 cap0] 24)) V4) := B12.out.trans (B24.out.mono B12.out.size)
    have kp := (HP.out _ B14.out).1
    have r4 := (X4.out _ (Below.refl _ _)).1
    have HT2 : Hid (Calls Tryd.prog 24 #[.agg #[.slice ao n0 cap0], .agg cs4] V4 _) := tidyF_ok P _ _ (tidS P SX) V4 (HP.out _ B14.out).2.2.1 (HP.out _ B14.out).2.2.2 HR.out (tid_inv HI.out).may (tid_inv HI.out).fok (HP.out _ B14.out).2.1 (X4.out _ (Below.refl _ _)).2 (by show SX.events.length * 8 ≤ _; have := HEV.out; omega)
    go_upto_region 6 with (first
      | (refine wpList_load_row rfl _ _ rfl _ rfl _ _ _ _ r4 Tryd.underlying29 rfl q4 ?_)
      | (go_at_call 24; refine HT2.out.mono ?_; rintro e w5 hP5; obtain ⟨cs5, rfl, hst5, hb5⟩ := hP5; obtain ⟨csx, hcx, c1, c2, c3⟩ := hst5.at.val.cells; obtain rfl := Value.agg.inj hcx; clear hcx)
      | (refine wpList_store_row rfl _ _ _ rfl _ _ rfl rfl _ _ (heap_alloc_last w5 _) c1 c2 c3 ?_; rw [World.setRow_alloc_new]))
    have B45 : Hid (Below V4.heap.size V4 (w5.alloc (.cells cs5 29))) := hb5.alloc hb5.size _
    have X5 : Hid (∀ W, Below (w5.alloc (.cells cs5 29)).heap.size (w5.alloc (.cells cs5 29)) W → W.heap[w5.heap.size]? = some (.cells cs5 29 (0, 0)) ∧ StVal W (.agg cs5) (tidS P SX)) := fun W hb => ⟨(hb.block _ (by simp)).trans (heap_alloc_last w5 _), by have := (hst5.at.val.keeps (keeps_below ((Below.refl _ _).alloc (Nat.le_refl _) _))).keeps (keeps_below hb); rw [tidS_idem] at this; exact this⟩
    have q5 : (Tryd.prog.info? 29).map (·.size) = some cs5.size := c1
    clear hst5 hb5 c1 c2 c3 HT2 kp r4
    generalize (w5.alloc (.cells cs5 29)) = V5 at *
    generalize w5.heap.size = G5 at *
    have B25 : Hid (Below wc.heap.size wc V5) := B24.out.trans (B45.out.mono B24.out.size)
    have B15 : Hid (Below (w1.alloc (.cells #[.slice ao n0 cap0] 24)).heap.size (w1.alloc (.cells #[.slice ao n0 cap0] 24)) V5) := B12.out.trans (B25.out.mono B12.out.size)
    have kp := (HP.out _ B15.out).1
    have r2 := (X2.out _ B25.out).1
    have HC6 : Hid (Calls Tryd.prog 21 #[.agg #[.slice ao n0 cap0], .agg cs3, .int .i64 ((400 : Nat) : Int)] V5 _) := walk_anyC P _ _ SX 400 V5 (HP.out _ B15.out).2.2.1 (HP.out _ B15.out).2.2.2 HR.out (HP.out _ B15.out).2.1 (X2.out _ B25.out).2 HI.out (by omega) (by have := HEV.out; omega)
    go_upto_region 7 with (first
      | (refine wpList_load_row rfl _ _ rfl _ rfl _ _ _ _ r2 Tryd.underlying29 rfl q2 ?_)
      | (go_at_call 21; refine HC6.out.mono ?_; rintro e w6 ⟨cs6, rfl, c1, c2, c3, hst, hb6⟩)
      | (refine wpList_store_row rfl _ _ _ rfl _ _ rfl rfl _ _ (heap_alloc_last w6 _) c1 c2 c3 ?_; rw [World.setRow_alloc_new]))
    have B56 : Hid (Below V5.heap.size V5 (w6.alloc (.cells cs6 29))) := hb6.alloc hb6.size _
    have X6 : Hid (∀ W, Below (w6.alloc (.cells cs6 29)).heap.size (w6.alloc (.cells cs6 29)) W → W.heap[w6.heap.size]? = some (.cells cs6 29 (0, 0)) ∧ StVal W (.agg cs6) (walkS P 400 SX)) := fun W hb => ⟨(hb.block _ (by simp)).trans (heap_alloc_last w6 _), (hst.val.keeps (keeps_below ((Below.refl _ _).alloc (Nat.le_refl _) _))).keeps (keeps_below hb)⟩
    clear hst hb6 c1 c2 c3 HC6 kp r2
    generalize (w6.alloc (.cells cs6 29)) = V6 at *
    generalize w6.heap.size = G6 at *
    have B46 : Hid (Below V4.heap.size V4 V6) := B45.out.trans (B56.out.mono B45.out.size)
    have B16 : Hid (Below (w1.alloc (.cells #[.slice ao n0 cap0] 24)).heap.size (w1.alloc (.cells #[.slice ao n0 cap0] 24)) V6) := B15.out.trans (B56.out.mono B15.out.size)
    have kp := (HP.out _ B16.out).1
    have r4 := (X4.out _ B46.out).1
    have HC7 : Hid (Calls Tryd.prog 21 #[.agg #[.slice ao n0 cap0], .agg cs4, .int .i64 ((400 : Nat) : Int)] V6 _) := walk_anyC P _ _ (tidS P SX) 400 V6 (HP.out _ B16.out).2.2.1 (HP.out _ B16.out).2.2.2 HR.out (HP.out _ B16.out).2.1 (X4.out _ B46.out).2 (tid_inv HI.out) (by omega) (by show SX.events.length ≤ _; have := HEV.out; omega)
    go_upto_region 8 with (first
      | (refine wpList_load_row rfl _ _ rfl _ rfl _ _ _ _ r4 Tryd.underlying29 rfl q4 ?_)
      | (go_at_call 21; refine HC7.out.mono ?_; rintro e w7 ⟨cs7, rfl, c1, c2, c3, hst, hb7⟩)
      | (refine wpList_store_row rfl _ _ _ rfl _ _ rfl rfl _ _ (heap_alloc_last w7 _) c1 c2 c3 ?_; rw [World.setRow_alloc_new]))
    have B67 : Hid (Below V6.heap.size V6 (w7.alloc (.cells cs7 29))) := hb7.alloc hb7.size _
    have r7 : (w7.alloc (.cells cs7 29)).heap[w7.heap.size]? = some (.cells cs7 29 (0, 0)) := heap_alloc_last w7 _
    have s7 : StVal (w7.alloc (.cells cs7 29)) (.agg cs7) (walkS P 400 (tidS P SX)) := hst.val.keeps (keeps_below ((Below.refl _ _).alloc (Nat.le_refl _) _))
    clear hst hb7 c1 c2 c3 HC7 kp r4
    generalize (w7.alloc (.cells cs7 29)) = V7 at *
    generalize w7.heap.size = G7 at *
    have B47 : Hid (Below V4.heap.size V4 V7) := B46.out.trans (B67.out.mono B46.out.size)
    have B57 : Hid (Below V5.heap.size V5 V7) := B56.out.trans (B67.out.mono B56.out.size)
    have B17 : Hid (Below w.heap.size w V7) := (B01.out.trans (B16.out.mono B01.out.size)).trans (B67.out.mono (B01.out.trans (B16.out.mono B01.out.size)).size)
    obtain ⟨r6, s6⟩ := X6.out _ B67.out
    have r4 := (X4.out _ B47.out).1
    have r5 := (X5.out _ B57.out).1
    have HSS : Hid (Calls Tryd.prog 28 #[.agg cs4, .agg cs5] V7 _) := sameStateK_any (tidS P SX) _ _ V7 (X4.out _ B47.out).2 (X5.out _ B57.out).2
    obtain ⟨t1, t2, t3, t4⟩ := tid_walk HR.out HI.out 400
    have hst := HFL.out
    clear X2 X4 X5 X6 B12 B24 B14 B45 B25 B15 B56 B46 B16 B67 B47 B57 HFL HI HEV hPX HP
    generalize walkS P 400 SX = A at *
    generalize walkS P 400 (tidS P SX) = Z at *
    have k60 : V7.cell? ⟨G6, 0, none⟩ = some (.int .i64 A.status) := by rw [cell_of_row _ _ _ _ _ _ r6]; exact s6.at.1
    have k61 : V7.cell? ⟨G6, 1, none⟩ = some (.int .i64 A.value) := by rw [cell_of_row _ _ _ _ _ _ r6]; exact s6.at.2.1
    have k69 : V7.cell? ⟨G6, 19, none⟩ = some (.int .i64 A.fuel) := by rw [cell_of_row _ _ _ _ _ _ r6]; exact s6.at.2.2.1
    have k70 : V7.cell? ⟨G7, 0, none⟩ = some (.int .i64 A.status) := by rw [cell_of_row _ _ _ _ _ _ r7, ← t1]; exact s7.at.1
    have k71 : V7.cell? ⟨G7, 1, none⟩ = some (.int .i64 A.value) := by rw [cell_of_row _ _ _ _ _ _ r7, ← t2]; exact s7.at.2.1
    have k79 : V7.cell? ⟨G7, 19, none⟩ = some (.int .i64 A.fuel) := by rw [cell_of_row _ _ _ _ _ _ r7, ← t4]; exact s7.at.2.2.1
    have hm16 : A.mem.length = 16 := by have := s6; obtain ⟨_, _, _, _, h, _⟩ := this; exact h
    obtain ⟨m0, m1', m2, m3, m4, m5, m6, m7, m8, m9, m10, m11, m12, m13, m14, m15, hml⟩ := list16_keep hm16
    have p0 : V7.cell? ⟨G6, 3, none⟩ = some (.int .i64 m0) := by rw [cell_of_row _ _ _ _ _ _ r6, show 3 = 3 + 0 by omega, s6.memAt 0 (by omega), hml]; rfl
    have o0 : V7.cell? ⟨G7, 3, none⟩ = some (.int .i64 m0) := by rw [cell_of_row _ _ _ _ _ _ r7, show 3 = 3 + 0 by omega, s7.memAt 0 (by omega), t3, hml]; rfl
    have p1 : V7.cell? ⟨G6, 4, none⟩ = some (.int .i64 m1') := by rw [cell_of_row _ _ _ _ _ _ r6, show 4 = 3 + 1 by omega, s6.memAt 1 (by omega), hml]; rfl
    have o1 : V7.cell? ⟨G7, 4, none⟩ = some (.int .i64 m1') := by rw [cell_of_row _ _ _ _ _ _ r7, show 4 = 3 + 1 by omega, s7.memAt 1 (by omega), t3, hml]; rfl
    have p2 : V7.cell? ⟨G6, 5, none⟩ = some (.int .i64 m2) := by rw [cell_of_row _ _ _ _ _ _ r6, show 5 = 3 + 2 by omega, s6.memAt 2 (by omega), hml]; rfl
    have o2 : V7.cell? ⟨G7, 5, none⟩ = some (.int .i64 m2) := by rw [cell_of_row _ _ _ _ _ _ r7, show 5 = 3 + 2 by omega, s7.memAt 2 (by omega), t3, hml]; rfl
    have p3 : V7.cell? ⟨G6, 6, none⟩ = some (.int .i64 m3) := by rw [cell_of_row _ _ _ _ _ _ r6, show 6 = 3 + 3 by omega, s6.memAt 3 (by omega), hml]; rfl
    have o3 : V7.cell? ⟨G7, 6, none⟩ = some (.int .i64 m3) := by rw [cell_of_row _ _ _ _ _ _ r7, show 6 = 3 + 3 by omega, s7.memAt 3 (by omega), t3, hml]; rfl
    have p4 : V7.cell? ⟨G6, 7, none⟩ = some (.int .i64 m4) := by rw [cell_of_row _ _ _ _ _ _ r6, show 7 = 3 + 4 by omega, s6.memAt 4 (by omega), hml]; rfl
    have o4 : V7.cell? ⟨G7, 7, none⟩ = some (.int .i64 m4) := by rw [cell_of_row _ _ _ _ _ _ r7, show 7 = 3 + 4 by omega, s7.memAt 4 (by omega), t3, hml]; rfl
    have p5 : V7.cell? ⟨G6, 8, none⟩ = some (.int .i64 m5) := by rw [cell_of_row _ _ _ _ _ _ r6, show 8 = 3 + 5 by omega, s6.memAt 5 (by omega), hml]; rfl
    have o5 : V7.cell? ⟨G7, 8, none⟩ = some (.int .i64 m5) := by rw [cell_of_row _ _ _ _ _ _ r7, show 8 = 3 + 5 by omega, s7.memAt 5 (by omega), t3, hml]; rfl
    have p6 : V7.cell? ⟨G6, 9, none⟩ = some (.int .i64 m6) := by rw [cell_of_row _ _ _ _ _ _ r6, show 9 = 3 + 6 by omega, s6.memAt 6 (by omega), hml]; rfl
    have o6 : V7.cell? ⟨G7, 9, none⟩ = some (.int .i64 m6) := by rw [cell_of_row _ _ _ _ _ _ r7, show 9 = 3 + 6 by omega, s7.memAt 6 (by omega), t3, hml]; rfl
    have p7 : V7.cell? ⟨G6, 10, none⟩ = some (.int .i64 m7) := by rw [cell_of_row _ _ _ _ _ _ r6, show 10 = 3 + 7 by omega, s6.memAt 7 (by omega), hml]; rfl
    have o7 : V7.cell? ⟨G7, 10, none⟩ = some (.int .i64 m7) := by rw [cell_of_row _ _ _ _ _ _ r7, show 10 = 3 + 7 by omega, s7.memAt 7 (by omega), t3, hml]; rfl
    have p8 : V7.cell? ⟨G6, 11, none⟩ = some (.int .i64 m8) := by rw [cell_of_row _ _ _ _ _ _ r6, show 11 = 3 + 8 by omega, s6.memAt 8 (by omega), hml]; rfl
    have o8 : V7.cell? ⟨G7, 11, none⟩ = some (.int .i64 m8) := by rw [cell_of_row _ _ _ _ _ _ r7, show 11 = 3 + 8 by omega, s7.memAt 8 (by omega), t3, hml]; rfl
    have p9 : V7.cell? ⟨G6, 12, none⟩ = some (.int .i64 m9) := by rw [cell_of_row _ _ _ _ _ _ r6, show 12 = 3 + 9 by omega, s6.memAt 9 (by omega), hml]; rfl
    have o9 : V7.cell? ⟨G7, 12, none⟩ = some (.int .i64 m9) := by rw [cell_of_row _ _ _ _ _ _ r7, show 12 = 3 + 9 by omega, s7.memAt 9 (by omega), t3, hml]; rfl
    have p10 : V7.cell? ⟨G6, 13, none⟩ = some (.int .i64 m10) := by rw [cell_of_row _ _ _ _ _ _ r6, show 13 = 3 + 10 by omega, s6.memAt 10 (by omega), hml]; rfl
    have o10 : V7.cell? ⟨G7, 13, none⟩ = some (.int .i64 m10) := by rw [cell_of_row _ _ _ _ _ _ r7, show 13 = 3 + 10 by omega, s7.memAt 10 (by omega), t3, hml]; rfl
    have p11 : V7.cell? ⟨G6, 14, none⟩ = some (.int .i64 m11) := by rw [cell_of_row _ _ _ _ _ _ r6, show 14 = 3 + 11 by omega, s6.memAt 11 (by omega), hml]; rfl
    have o11 : V7.cell? ⟨G7, 14, none⟩ = some (.int .i64 m11) := by rw [cell_of_row _ _ _ _ _ _ r7, show 14 = 3 + 11 by omega, s7.memAt 11 (by omega), t3, hml]; rfl
    have p12 : V7.cell? ⟨G6, 15, none⟩ = some (.int .i64 m12) := by rw [cell_of_row _ _ _ _ _ _ r6, show 15 = 3 + 12 by omega, s6.memAt 12 (by omega), hml]; rfl
    have o12 : V7.cell? ⟨G7, 15, none⟩ = some (.int .i64 m12) := by rw [cell_of_row _ _ _ _ _ _ r7, show 15 = 3 + 12 by omega, s7.memAt 12 (by omega), t3, hml]; rfl
    have p13 : V7.cell? ⟨G6, 16, none⟩ = some (.int .i64 m13) := by rw [cell_of_row _ _ _ _ _ _ r6, show 16 = 3 + 13 by omega, s6.memAt 13 (by omega), hml]; rfl
    have o13 : V7.cell? ⟨G7, 16, none⟩ = some (.int .i64 m13) := by rw [cell_of_row _ _ _ _ _ _ r7, show 16 = 3 + 13 by omega, s7.memAt 13 (by omega), t3, hml]; rfl
    have p14 : V7.cell? ⟨G6, 17, none⟩ = some (.int .i64 m14) := by rw [cell_of_row _ _ _ _ _ _ r6, show 17 = 3 + 14 by omega, s6.memAt 14 (by omega), hml]; rfl
    have o14 : V7.cell? ⟨G7, 17, none⟩ = some (.int .i64 m14) := by rw [cell_of_row _ _ _ _ _ _ r7, show 17 = 3 + 14 by omega, s7.memAt 14 (by omega), t3, hml]; rfl
    have p15 : V7.cell? ⟨G6, 18, none⟩ = some (.int .i64 m15) := by rw [cell_of_row _ _ _ _ _ _ r6, show 18 = 3 + 15 by omega, s6.memAt 15 (by omega), hml]; rfl
    have o15 : V7.cell? ⟨G7, 18, none⟩ = some (.int .i64 m15) := by rw [cell_of_row _ _ _ _ _ _ r7, show 18 = 3 + 15 by omega, s7.memAt 15 (by omega), t3, hml]; rfl
    have hq16 : ∀ w, (Op.equalIn 10000 26 (.agg #[.int .i64 m0, .int .i64 m1', .int .i64 m2, .int .i64 m3, .int .i64 m4, .int .i64 m5, .int .i64 m6, .int .i64 m7, .int .i64 m8, .int .i64 m9, .int .i64 m10, .int .i64 m11, .int .i64 m12, .int .i64 m13, .int .i64 m14, .int .i64 m15]) (.agg #[.int .i64 m0, .int .i64 m1', .int .i64 m2, .int .i64 m3, .int .i64 m4, .int .i64 m5, .int .i64 m6, .int .i64 m7, .int .i64 m8, .int .i64 m9, .int .i64 m10, .int .i64 m11, .int .i64 m12, .int .i64 m13, .int .i64 m14, .int .i64 m15])).run Tryd.prog w = .ok true w := fun w => equal_ints_keep 26 [m0, m1', m2, m3, m4, m5, m6, m7, m8, m9, m10, m11, m12, m13, m14, m15] 9998 w Tryd.underlying26
    clear t1 t2 t3 t4 hml hm16 r6 r7 s6 s7
    generalize A.status = ast at *
    generalize A.value = avl at *
    generalize A.fuel = afu at *
    have hsb : (ast != 0) = true := by simpa using hst
    go_wp2_with (first
      | (refine wpList_load_wanted_k rfl _ (.tmp 11) rfl G4 rfl _ _ _ _ r4 Tryd.underlying29 rfl q4 ?_)
      | (refine wpList_load_wanted_k rfl _ (.tmp 13) rfl G5 rfl _ _ _ _ r5 Tryd.underlying29 rfl q5 ?_)
      | (go_at_call 28; refine HSS.out.mono ?_; rintro e w8 ⟨rfl, hb8⟩; have k60 := keeps_below hb8 _ _ k60; have k61 := keeps_below hb8 _ _ k61; have k69 := keeps_below hb8 _ _ k69; have k70 := keeps_below hb8 _ _ k70; have k71 := keeps_below hb8 _ _ k71; have k79 := keeps_below hb8 _ _ k79; have p0 := keeps_below hb8 _ _ p0; have p1 := keeps_below hb8 _ _ p1; have p2 := keeps_below hb8 _ _ p2; have p3 := keeps_below hb8 _ _ p3; have p4 := keeps_below hb8 _ _ p4; have p5 := keeps_below hb8 _ _ p5; have p6 := keeps_below hb8 _ _ p6; have p7 := keeps_below hb8 _ _ p7; have p8 := keeps_below hb8 _ _ p8; have p9 := keeps_below hb8 _ _ p9; have p10 := keeps_below hb8 _ _ p10; have p11 := keeps_below hb8 _ _ p11; have p12 := keeps_below hb8 _ _ p12; have p13 := keeps_below hb8 _ _ p13; have p14 := keeps_below hb8 _ _ p14; have p15 := keeps_below hb8 _ _ p15; have o0 := keeps_below hb8 _ _ o0; have o1 := keeps_below hb8 _ _ o1; have o2 := keeps_below hb8 _ _ o2; have o3 := keeps_below hb8 _ _ o3; have o4 := keeps_below hb8 _ _ o4; have o5 := keeps_below hb8 _ _ o5; have o6 := keeps_below hb8 _ _ o6; have o7 := keeps_below hb8 _ _ o7; have o8 := keeps_below hb8 _ _ o8; have o9 := keeps_below hb8 _ _ o9; have o10 := keeps_below hb8 _ _ o10; have o11 := keeps_below hb8 _ _ o11; have o12 := keeps_below hb8 _ _ o12; have o13 := keeps_below hb8 _ _ o13; have o14 := keeps_below hb8 _ _ o14; have o15 := keeps_below hb8 _ _ o15))
    go_ret
    exact ⟨rfl, B17.out.trans (hb8.mono B17.out.size)⟩
end Go.Proofs.YteabbanjjdmjkaaDoor
