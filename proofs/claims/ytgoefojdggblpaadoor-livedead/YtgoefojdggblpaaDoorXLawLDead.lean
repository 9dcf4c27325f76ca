/- The walk of tierlinekeep.LiveDead: at all raw numbers it says true, and nothing that was there has turned. -/
import Derived.Test.YtgoefojdggblpaaDoorXKRun
import Derived.Test.YtgoefojdggblpaaDoorXJunkKit
import Derived.Test.YtgoefojdggblpaaDoorXTopKit
import Derived.Test.YtgoefojdggblpaaDoorXSameStK
import Derived.Test.YtgoefojdggblpaaDoorXFlowFace
namespace Go.Proofs.YtgoefojdggblpaaDoor
open Go Go.RowKit

set_option maxHeartbeats 8000000 in
set_option maxRecDepth 100000 in
theorem liveDead_walk (l : List Fn) (v : Value) (a0 a1 fuel : Int) (nv : Value) (ln : List Int) (a junk : Int) (w : World) (ht : TabOk w) (hc : CallOk w) (hv : ProgVal w v l) (hwf : ∀ f ∈ l, f.wf) (hn : IntsVal w nv ln) (hfu : I64 fuel) (ha : I64 a) :
    Calls Tryd.prog 4 #[v, inVal a0 a1 nv fuel, .int .i64 a, .int .i64 junk] w fun e w' => e = .returned (.bool true) ∧ Below w.heap.size w w' := by
  obtain ⟨x, hx, ex⟩ : ∃ x : Nat, x < 200 ∧ pickI a 200 = x := by have b := pickI_bounds a 200 (by omega); obtain ⟨k, hk⟩ := Int.eq_ofNat_of_zero_le b.1; exact ⟨k, by omega, hk⟩
  have hPX : Hid (∀ W, Calls Tryd.prog 21 #[.int .i64 a, .int .i64 200] W fun e w' => e = .returned (.int .i64 (x : Int)) ∧ w' = W) := fun W => by have := picked_any a 200 W ha (by omega) (by omega); rw [ex] at this; exact this
  clear ex ha
  obtain ⟨nao, nc, rfl⟩ := hn.shape
  obtain ⟨lao, ll, lc, rfl⟩ := hv.shape
  have HTC : Hid (∀ W, Below w.heap.size w W → TabOk W ∧ CallOk W) := fun W hb => ⟨ht.below hb, hc.below hb⟩
  have HB0 : Hid (Below w.heap.size w (w.alloc (.cells #[.int .i64 a0, .int .i64 a1, .slice nao ln.length nc, .int .i64 fuel] 26))) := (Below.refl _ _).alloc (Nat.le_refl _) _
  have HPR : Hid (Calls Tryd.prog 14 #[.slice lao ll lc] (w.alloc (.cells #[.int .i64 a0, .int .i64 a1, .slice nao ln.length nc, .int .i64 fuel] 26)) fun e w' => ∃ ao n cap P, e = .returned (.agg #[.slice ao n cap]) ∧ ProofAns P 0 ∧ ProgVal w' (.slice ao n cap) P ∧ Below (w.alloc (.cells #[.int .i64 a0, .int .i64 a1, .slice nao ln.length nc, .int .i64 fuel] 26)).heap.size (w.alloc (.cells #[.int .i64 a0, .int .i64 a1, .slice nao ln.length nc, .int .i64 fuel] 26)) w') := kprog l _ _ (HTC.out _ HB0.out).1 (HTC.out _ HB0.out).2 (hv.keeps (keeps_below HB0.out)) hwf
  have HNV : Hid (∀ W, Below w.heap.size w W → IntsVal W (.slice nao ln.length nc) ln) := fun W hb => hn.keeps (keeps_below hb)
  have HFU : Hid (I64 fuel) := hfu
  have infoIn : (Tryd.prog.info? 26).map (·.size) = some 4 := by kernel_rfl
  unfold inVal
  clear ht hc hv hwf hn hfu
  go_enter Tryd.func4, Tryd.ntmps4
  go_upto_region 2 with (go_at_call 14; refine HPR.out.mono ?_; rintro e w1 ⟨ao, n0, cap0, P, rfl, hR, hpv, hb1⟩)
  have HR : Hid (ProofAns P 0) := hR
  have B01 : Hid (Below w.heap.size w (w1.alloc (.cells #[.slice ao n0 cap0] 29))) := (HB0.out.trans (hb1.mono (by simp))).alloc (by have := hb1.size; simp at this; omega) _
  have I1 : (w1.alloc (.cells #[.slice ao n0 cap0] 29)).heap[w.heap.size]? = some (.cells #[.int .i64 a0, .int .i64 a1, .slice nao ln.length nc, .int .i64 fuel] 26 (0, 0)) := (heap_alloc_old _ _ (by have := hb1.size; simp at this; omega)).trans ((hb1.block _ (by simp)).trans (heap_alloc_last w _))
  have HP : Hid (∀ W, Below (w1.alloc (.cells #[.slice ao n0 cap0] 29)).heap.size (w1.alloc (.cells #[.slice ao n0 cap0] 29)) W → W.cell? ⟨w1.heap.size, 0, none⟩ = some (.slice ao n0 cap0) ∧ ProgVal W (.slice ao n0 cap0) P ∧ TabOk W ∧ CallOk W) := fun W hb => ⟨keeps_below hb _ _ (by rw [cell_of_row _ _ _ _ _ _ (heap_alloc_last w1 _)]; rfl), (hpv.keeps (keeps_below ((Below.refl _ _).alloc (Nat.le_refl _) _))).keeps (keeps_below hb), (HTC.out _ (B01.out.trans (hb.mono B01.out.size))).1, (HTC.out _ (B01.out.trans (hb.mono B01.out.size))).2⟩
  have HKB : Hid (Calls Tryd.prog 15 #[.agg #[.slice ao n0 cap0], .agg #[.int .i64 a0, .int .i64 a1, .slice nao ln.length nc, .int .i64 fuel]] (w1.alloc (.cells #[.slice ao n0 cap0] 29)) _) := kbegin P (.slice ao n0 cap0) a0 a1 fuel (.slice nao ln.length nc) ln (w1.alloc (.cells #[.slice ao n0 cap0] 29)) (HP.out _ (Below.refl _ _)).2.2.1 (HP.out _ (Below.refl _ _)).2.2.2 HR.out (HP.out _ (Below.refl _ _)).2.1 (HNV.out _ B01.out) HFU.out
  clear hR hpv hb1
  go_upto_region 3 with (first
    | (refine wpList_load_row rfl _ _ rfl _ rfl _ _ _ _ I1 Tryd.underlying26 rfl infoIn ?_)
    | (go_at_call 15; refine HKB.out.mono ?_; rintro e w2 ⟨cs2, S, rfl, hk, hs0, c1, c2, c3, hst, hb2⟩)
    | (refine wpList_store_row rfl _ _ _ rfl _ _ rfl rfl _ _ (heap_alloc_last w2 _) c1 c2 c3 ?_; rw [World.setRow_alloc_new]))
  have HK : Hid (KRunAt P S) := hk
  have HS0 : Hid (S.fuel ≤ 299 ∧ S.answers.length ≤ 10 ∧ S.status = 0) := hs0
  have B12 : Hid (Below (w1.alloc (.cells #[.slice ao n0 cap0] 29)).heap.size (w1.alloc (.cells #[.slice ao n0 cap0] 29)) (w2.alloc (.cells cs2 34))) := hb2.alloc hb2.size _
  have X2 : Hid (∀ W, Below (w2.alloc (.cells cs2 34)).heap.size (w2.alloc (.cells cs2 34)) W → W.heap[w2.heap.size]? = some (.cells cs2 34 (0, 0)) ∧ StVal W (.agg cs2) (walkS P 0 S)) := fun W hb => ⟨(hb.block _ (by simp)).trans (heap_alloc_last w2 _), (hst.val.keeps (keeps_below ((Below.refl _ _).alloc (Nat.le_refl _) _))).keeps (keeps_below hb)⟩
  have q2 : (Tryd.prog.info? 34).map (·.size) = some cs2.size := c1
  have HON2 : Hid (cs2.all (·.oneCell') = true) := c3
  have HZ12 : Hid ((w1.alloc (.cells #[.slice ao n0 cap0] 29)).heap.size ≤ w2.heap.size) := hb2.size
  have hz2 : zeroStCells.size = cs2.size := c2
  clear hk hs0 hst hb2 I1 HKB c1 c2 c3 infoIn
  go_upto_region 3 with fail
  have kp := (HP.out _ B12.out).1
  have r2 := (X2.out _ (Below.refl _ _)).1
  have HWX : Hid (∀ W, Below (w2.alloc (.cells cs2 34)).heap.size (w2.alloc (.cells cs2 34)) W → Calls Tryd.prog 20 #[.agg #[.slice ao n0 cap0], .agg cs2, .int .i64 ((x : Nat) : Int)] W _) := fun W hb => kwalk HK.out 0 x (by omega) (by omega) _ _ W (HP.out _ (B12.out.trans (hb.mono B12.out.size))).2.2.1 (HP.out _ (B12.out.trans (hb.mono B12.out.size))).2.2.2 (HP.out _ (B12.out.trans (hb.mono B12.out.size))).2.1 (X2.out _ hb).2
  go_cut [12] from 31 to 38 (fun e wx => e = .int .i64 0 ∧ ∃ csn : Array Value, wx.heap[w2.heap.size]? = some (.cells csn 34 (0, 0)) ∧ (Tryd.prog.info? 34).map (·.size) = some csn.size ∧ Below (w1.alloc (.cells #[.slice ao n0 cap0] 29)).heap.size (w1.alloc (.cells #[.slice ao n0 cap0] 29)) wx ∧ StVal wx (.agg csn) (walkS P (0 + x) S))
  case first =>
    refine wp_region_held_drew (S := fun W => W.cell? ⟨w1.heap.size, 0, none⟩ = some (.slice ao n0 cap0)) (by kernel_rfl) kp (fun hHeld => ?_)
    show wpAnyH _ _ _ _ _ 10 _ _ _
    refine wpAnyH_take (i := 0) (v := ?_) rfl (by kernel_rfl) (by kernel_rfl) (by kernel_rfl) (fun _ _ _ h => h) (Or.inl ⟨by rfl, ?_⟩) (by assumption) ?_
    rotate_left
    · (intro W hSW; go_simp; try (with_reducible rfl))
    (try simp only [Act.put, List.setIfInBounds_toArray])
    refine wpAnyH_take (i := 2) (v := ?_) rfl (by kernel_rfl) (by kernel_rfl) (by kernel_rfl) (fun _ _ _ h => h) (Or.inl ⟨by rfl, ?_⟩) (by assumption) ?_
    rotate_left
    · (intro W hSW; go_simp; try (with_reducible rfl))
    (try simp only [Act.put])
    refine wpAnyH_ready (rs := [1, 3]) (by kernel_rfl) (by simp) ?_
    refine AllReadyH.cons rfl (fun K hK => ?_) (AllReadyH.cons rfl (fun K hK => ?_) AllReadyH.nil)
    · -- the state is loaded first
      refine wp_load_row 34 _ rfl w2.heap.size rfl _ _ _ _ r2 Tryd.underlying34 rfl q2 ?_
      refine hK.out _ _ kp (fun _ => ?_)
      clear hK K
      (try simp only [Act.put])
      refine wpAnyH_ready (rs := [3]) (by kernel_rfl) (by simp) ?_
      refine AllReadyH.cons rfl (fun K hK => ?_) AllReadyH.nil
      go_simp
      go_at_call 21
      refine (hPX.out _).mono ?_
      rintro e wp ⟨rfl, hwp⟩
      replace hwp := hwp.symm
      subst hwp
      dsimp only
      refine hK.out _ _ kp (fun _ => ?_)
      clear hK K
      (try simp only [Act.put, List.setIfInBounds_toArray, List.set_cons_zero, List.set_cons_succ])
      refine wpAnyH_ready (rs := [4]) (by kernel_rfl) (by simp) ?_
      refine AllReadyH.cons rfl (fun K hK => ?_) AllReadyH.nil
      go_simp
      go_at_call 20
      refine (HWX.out _ ((Below.refl _ _).drew)).mono ?_
      rintro e w3 ⟨cs3, rfl, c1, c2, c3, hst, hb⟩
      have hb3 : Below (w2.alloc (.cells cs2 34)).heap.size (w2.alloc (.cells cs2 34)) w3 := (Below.refl _ _).drew.trans (hb.mono (Nat.le_refl _))
      have kp3 := keeps_below hb3 _ _ kp
      have r3 : w3.heap[w2.heap.size]? = some (.cells cs2 34 (0, 0)) := (hb3.block _ (by simp)).trans r2
      dsimp only
      refine hK.out _ _ kp3 (fun _ => ?_)
      clear hK K
      (try simp only [Act.put, List.setIfInBounds_toArray, List.set_cons_zero, List.set_cons_succ])
      refine wpAnyH_take (i := 5) (v := ?_) rfl (by kernel_rfl) (by kernel_rfl) (by kernel_rfl) (fun _ _ _ h => h) (Or.inl ⟨by rfl, ?_⟩) kp3 ?_
      rotate_left
      · (intro W hSW; go_simp; try (with_reducible rfl))
      (try simp only [Act.put, List.setIfInBounds_toArray])
      refine wpAnyH_take (i := 6) (v := ?_) rfl (by kernel_rfl) (by kernel_rfl) (by kernel_rfl) (fun _ _ _ h => h) (Or.inl ⟨by rfl, ?_⟩) kp3 ?_
      rotate_left
      · (intro W hSW; go_simp; try (with_reducible rfl))
      (try simp only [Act.put])
      refine wpAnyH_take (i := 7) (v := ?_) rfl (by kernel_rfl) (by kernel_rfl) (by kernel_rfl) (fun _ _ _ h => h) (Or.inl ⟨by rfl, ?_⟩) kp3 ?_
      rotate_left
      · (intro W hSW; go_simp; try (with_reducible rfl))
      (try simp only [Act.put])
      refine wpAnyH_ready (rs := [8]) (by kernel_rfl) (by simp) ?_
      refine AllReadyH.cons rfl (fun K hK => ?_) AllReadyH.nil
      refine wp_store_row 34 _ _ rfl w2.heap.size cs3 rfl rfl 34 cs2 r3 c1 (hz2.symm.trans c2) c3 ?_
      have BN : Below (w1.alloc (.cells #[.slice ao n0 cap0] 29)).heap.size (w1.alloc (.cells #[.slice ao n0 cap0] 29)) (World.setRow w3 w2.heap.size cs3) := below_setRow (B12.out.trans (hb3.mono B12.out.size)) (by have := HZ12.out; simpa using this) _
      have XN : (World.setRow w3 w2.heap.size cs3).heap[w2.heap.size]? = some (.cells cs3 34 (0, 0)) ∧ StVal (World.setRow w3 w2.heap.size cs3) (.agg cs3) (walkS P (0 + x) S) := ⟨setRow_heap _ _ _ _ _ _ r3, ((hst.mono (show w2.heap.size + 1 ≤ _ by simp)).setRow (by omega) _).val⟩
      have kpN := (HP.out _ BN).1
      refine hK.out _ _ kpN (fun _ => ?_)
      clear hK K
      (try simp only [Act.put])
      generalize World.setRow w3 w2.heap.size cs3 = WW at BN XN kpN ⊢
      refine wpAnyH_ready (rs := [9]) (by kernel_rfl) (by simp) ?_
      refine AllReadyH.cons rfl (fun K hK => ?_) AllReadyH.nil
      go_simp
      refine hK.out _ _ kpN (fun _ => ?_)
      clear hK K
      (try simp only [Act.put, List.setIfInBounds_toArray, List.set_cons_zero, List.set_cons_succ])
      refine wpAnyH_done (by kernel_rfl) ?_ _
      go_wp2_with fail
      go_meet
      exact ⟨rfl, cs3, XN.1, c1, BN, XN.2⟩
    · -- picked first
      go_simp
      go_at_call 21
      refine (hPX.out _).mono ?_
      rintro e wp ⟨rfl, hwp⟩
      replace hwp := hwp.symm
      subst hwp
      dsimp only
      refine hK.out _ _ kp (fun _ => ?_)
      clear hK K
      (try simp only [Act.put, List.setIfInBounds_toArray, List.set_cons_zero, List.set_cons_succ])
      refine wpAnyH_ready (rs := [1]) (by kernel_rfl) (by simp) ?_
      refine AllReadyH.cons rfl (fun K hK => ?_) AllReadyH.nil
      refine wp_load_row 34 _ rfl w2.heap.size rfl _ _ _ _ r2 Tryd.underlying34 rfl q2 ?_
      refine hK.out _ _ kp (fun _ => ?_)
      clear hK K
      (try simp only [Act.put, List.setIfInBounds_toArray])
      refine wpAnyH_ready (rs := [4]) (by kernel_rfl) (by simp) ?_
      refine AllReadyH.cons rfl (fun K hK => ?_) AllReadyH.nil
      go_simp
      go_at_call 20
      refine (HWX.out _ ((Below.refl _ _).drew)).mono ?_
      rintro e w3 ⟨cs3, rfl, c1, c2, c3, hst, hb⟩
      have hb3 : Below (w2.alloc (.cells cs2 34)).heap.size (w2.alloc (.cells cs2 34)) w3 := (Below.refl _ _).drew.trans (hb.mono (Nat.le_refl _))
      have kp3 := keeps_below hb3 _ _ kp
      have r3 : w3.heap[w2.heap.size]? = some (.cells cs2 34 (0, 0)) := (hb3.block _ (by simp)).trans r2
      dsimp only
      refine hK.out _ _ kp3 (fun _ => ?_)
      clear hK K
      (try simp only [Act.put, List.setIfInBounds_toArray, List.set_cons_zero, List.set_cons_succ])
      refine wpAnyH_take (i := 5) (v := ?_) rfl (by kernel_rfl) (by kernel_rfl) (by kernel_rfl) (fun _ _ _ h => h) (Or.inl ⟨by rfl, ?_⟩) kp3 ?_
      rotate_left
      · (intro W hSW; go_simp; try (with_reducible rfl))
      (try simp only [Act.put, List.setIfInBounds_toArray])
      refine wpAnyH_take (i := 6) (v := ?_) rfl (by kernel_rfl) (by kernel_rfl) (by kernel_rfl) (fun _ _ _ h => h) (Or.inl ⟨by rfl, ?_⟩) kp3 ?_
      rotate_left
      · (intro W hSW; go_simp; try (with_reducible rfl))
      (try simp only [Act.put])
      refine wpAnyH_take (i := 7) (v := ?_) rfl (by kernel_rfl) (by kernel_rfl) (by kernel_rfl) (fun _ _ _ h => h) (Or.inl ⟨by rfl, ?_⟩) kp3 ?_
      rotate_left
      · (intro W hSW; go_simp; try (with_reducible rfl))
      (try simp only [Act.put])
      refine wpAnyH_ready (rs := [8]) (by kernel_rfl) (by simp) ?_
      refine AllReadyH.cons rfl (fun K hK => ?_) AllReadyH.nil
      refine wp_store_row 34 _ _ rfl w2.heap.size cs3 rfl rfl 34 cs2 r3 c1 (hz2.symm.trans c2) c3 ?_
      have BN : Below (w1.alloc (.cells #[.slice ao n0 cap0] 29)).heap.size (w1.alloc (.cells #[.slice ao n0 cap0] 29)) (World.setRow w3 w2.heap.size cs3) := below_setRow (B12.out.trans (hb3.mono B12.out.size)) (by have := HZ12.out; simpa using this) _
      have XN : (World.setRow w3 w2.heap.size cs3).heap[w2.heap.size]? = some (.cells cs3 34 (0, 0)) ∧ StVal (World.setRow w3 w2.heap.size cs3) (.agg cs3) (walkS P (0 + x) S) := ⟨setRow_heap _ _ _ _ _ _ r3, ((hst.mono (show w2.heap.size + 1 ≤ _ by simp)).setRow (by omega) _).val⟩
      have kpN := (HP.out _ BN).1
      refine hK.out _ _ kpN (fun _ => ?_)
      clear hK K
      (try simp only [Act.put])
      generalize World.setRow w3 w2.heap.size cs3 = WW at BN XN kpN ⊢
      refine wpAnyH_ready (rs := [9]) (by kernel_rfl) (by simp) ?_
      refine AllReadyH.cons rfl (fun K hK => ?_) AllReadyH.nil
      go_simp
      refine hK.out _ _ kpN (fun _ => ?_)
      clear hK K
      (try simp only [Act.put, List.setIfInBounds_toArray, List.set_cons_zero, List.set_cons_succ])
      refine wpAnyH_done (by kernel_rfl) ?_ _
      go_wp2_with fail
      go_meet
      exact ⟨rfl, cs3, XN.1, c1, BN, XN.2⟩
  case rest =>
    obtain ⟨rfl, cs3, r3, q3, BN, st3⟩ := hcut
    have HB1 : Hid (Below (w1.alloc (.cells #[.slice ao n0 cap0] 29)).heap.size (w1.alloc (.cells #[.slice ao n0 cap0] 29)) wc) := BN
    have X3 : Hid (∀ W, Below wc.heap.size wc W → W.heap[w2.heap.size]? = some (.cells cs3 34 (0, 0)) ∧ StVal W (.agg cs3) (walkS P (0 + x) S)) := fun W hb => ⟨(hb.block _ (lt_of_block r3)).trans r3, st3.keeps (keeps_below hb)⟩
    obtain ⟨hv1, hev⟩ := krun_walk HK.out (0 + x)
    have HI : Hid (RunInv P (walkS P (0 + x) S)) := hv1
    have HEV : Hid ((walkS P (0 + x) S).events.length ≤ 200) := Nat.le_trans hev (by omega)
    clear BN st3 HWX X2 B12 r2 q2 hz2 HON2 HZ12 hv1 hev
    have HC4 : Hid (Calls Tryd.prog 20 #[.agg #[.slice ao n0 cap0], .agg cs3, .int .i64 ((0 : Nat) : Int)] wc _) := walk_ownC P _ _ (walkS P (0 + x) S) wc (HP.out _ HB1.out).2.2.1 (HP.out _ HB1.out).2.2.2 HR.out (HP.out _ HB1.out).2.1 (X3.out _ (Below.refl _ _)).2 HI.out HEV.out
    have kp := (HP.out _ HB1.out).1
    go_upto_region 5 with (first
      | (refine wpList_load_row rfl _ _ rfl _ rfl _ _ _ _ r3 Tryd.underlying34 rfl q3 ?_)
      | (go_at_call 20; refine HC4.out.mono ?_; rintro e w4 ⟨cs4, rfl, c1, c2, c3, hst, hb4⟩)
      | (refine wpList_store_row rfl _ _ _ rfl _ _ rfl rfl _ _ (heap_alloc_last w4 _) c1 c2 c3 ?_; rw [World.setRow_alloc_new]))
    have HB4 : Hid (Below wc.heap.size wc (w4.alloc (.cells cs4 34))) := hb4.alloc hb4.size _
    have r4 : (w4.alloc (.cells cs4 34)).heap[w4.heap.size]? = some (.cells cs4 34 (0, 0)) := heap_alloc_last w4 _
    have q4 : (Tryd.prog.info? 34).map (·.size) = some cs4.size := c1
    obtain ⟨fv, ev, av, ecs, hj⟩ := hst.junk
    obtain ⟨fa, fb, fcap, efv, hfa, hfc, hfm, hfb⟩ := hj.form
    subst efv
    have hGT : wc.heap.size ≤ w4.heap.size := hb4.size
    have HJ : Hid (Junk (w4.alloc (.cells cs4 34)) wc.heap.size (.slice fa (walkS P (0 + x) S).frames.length fcap) ev av (walkS P (0 + x) S) (walkS P (0 + x) S).frames) := hj.below ((Below.refl _ _).alloc (Nat.le_refl _) _)
    generalize (w4.alloc (.cells cs4 34)) = W4 at *
    generalize w4.heap.size = GT at *
    have HECS : Hid (cs4 = (stCells (walkS P (0 + x) S) (.slice fa (walkS P (0 + x) S).frames.length fcap) ev av).toArray) := ecs
    have HFP : Hid (∀ f ∈ (walkS P (0 + x) S).frames, placeB P f = true ∧ ReachFr P f) := fun f hf => ⟨HI.out.fok.1 f hf, HI.out.reach f hf⟩
    have HF8 : (walkS P (0 + x) S).frames.length ≤ 8 := ((mayB_iff _).1 HI.out.may).2.2.2.2.1
    have HFV : Hid (cs4[2]? = some (.slice fa (walkS P (0 + x) S).frames.length fcap)) := by show _ = _; rw [HECS.out]; rfl
    clear hst hb4 c1 c2 c3 kp HC4 hj ecs r3
    generalize hSX : walkS P (0 + x) S = SX at *
    have HSX : Hid (walkS P (0 + x) S = SX) := hSX
    clear hSX
    generalize hn : SX.frames.length = n at *
    have HN : Hid (SX.frames.length = n) := hn
    clear hn
    go_wp2
    go_loopw [15, 16, 17, 18] (fun i lv g r wr => ∃ (q : Nat) (gs : List Fr), q ≤ n ∧ i = .int .i64 q ∧ Junk wr wc.heap.size (.slice fa n fcap) ev av SX gs ∧ AgFs P SX.frames gs ∧ wr.heap[GT]? = some (.cells cs4 34 (0, 0)) ∧ Below wc.heap.size wc wr) (fun i _ _ _ _ => n - (intOf i).toNat)
    case atStart => exact ⟨0, SX.frames, Nat.zero_le _, rfl, HJ.out, AgFs.refl _ _, r4, HB4.out⟩
    case round =>
      obtain ⟨q, gs, hq, rfl, hj, hag, hrow, hbr⟩ := hrel
      have HBR : Hid (Below wc.heap.size wc wr) := hbr
      have HJR : Hid (Junk wr wc.heap.size (.slice fa n fcap) ev av SX gs) := hj
      have HAG : Hid (AgFs P SX.frames gs) := hag
      have HB1R : Hid (Below (w1.alloc (.cells #[.slice ao n0 cap0] 29)).heap.size (w1.alloc (.cells #[.slice ao n0 cap0] 29)) wr) := HB1.out.trans (hbr.mono HB1.out.size)
      have kp := (HP.out _ HB1R.out).1
      have k2 : wr.cell? ⟨GT, 2, none⟩ = some (.slice fa n fcap) := by rw [cell_of_row _ _ _ _ _ _ hrow]; exact HFV.out
      clear hj hag hbr
      by_cases hlt : q < n
      · have hqI : (q : Int) < n := by omega
        obtain rfl := hfa (by omega)
        obtain ⟨f, hf⟩ : ∃ f, SX.frames[q]? = some f := ⟨_, List.getElem?_eq_getElem (by rw [HN.out]; exact hlt)⟩
        obtain ⟨g, hg⟩ : ∃ g, gs[q]? = some g := ⟨_, List.getElem?_eq_getElem (by rw [HAG.out.len, HN.out]; exact hlt)⟩
        have hfg := HAG.out.get q f g hf hg
        obtain ⟨hpl, hre⟩ := HFP.out f (List.mem_of_getElem? hf)
        obtain ⟨k, j, hk, hjl, e1, e2, e3, e4⟩ := place_nat hpl
        have HFF : Hid (SX.frames[q]? = some f ∧ fnD P f.fn = P[k] ∧ f.pc.toNat = j) := ⟨hf, e3, by rw [e2]; rfl⟩
        have HFJ : Hid (f.pc = (j : Int)) := e2
        have hGF : GT ≠ fb := by have := (hfb (by omega)).2; omega
        have HLOW : Hid (wc.heap.size ≤ fb) := (hfb (by omega)).1
        have HWY : Hid (Way P[k] 63 j) := by show _; unfold ReachFr at hre; rw [e3, e2] at hre; exact hre
        have hrg := (HJR.out.frame q g hg).1
        have cfn : wr.cell? ⟨fb, q * 14, none⟩ = some (.int .i64 (k : Int)) := by have := hrg 0 _ rfl; rw [hfg.fn, e1] at this; simpa using this
        have cpc : wr.cell? ⟨fb, q * 14 + 1, none⟩ = some (.int .i64 (j : Int)) := by have := hrg 1 _ rfl; rw [hfg.pc, e2] at this; simpa using this
        have HLV : Hid (∀ W, Below wr.heap.size wr W → Calls Tryd.prog 22 #[.agg #[.slice ao n0 cap0], .int .i64 k] W _) := fun W hW => Live_low P HR.out k hk _ W (HP.out _ (HB1R.out.trans (hW.mono HB1R.out.size))).2.2.1 (HP.out _ (HB1R.out.trans (hW.mono HB1R.out.size))).2.2.2 (HP.out _ (HB1R.out.trans (hW.mono HB1R.out.size))).2.1
        have HJL : Hid (j < P[k].code.length) := hjl
        have hfbz : fb < wr.heap.size := World.block_lt_of_cell? _ _ cfn
        clear hrg hfg hpl hre e1 e2 e3 e4 hf hg hjl
        generalize P[k] = fn at *
        clear hk
        go_upto_region 10 with fail
        refine wp_region_held_drew (S := fun W => Below wr.heap.size wr W) (by kernel_rfl) ((Below.refl _ _).drew) (fun hHeld => ?_)
        show wpAnyH _ _ _ _ _ 13 _ _ _
        refine wpAnyH_take (i := 0) (v := ?_) rfl (by kernel_rfl) (by kernel_rfl) (by kernel_rfl) (fun _ _ _ h => h) (Or.inl ⟨by rfl, ?_⟩) (by assumption) ?_
        rotate_left
        · (intro W hSW; have z0 := keeps_below hSW _ _ kp; go_simp; try (with_reducible rfl))
        (try simp only [Act.put, List.setIfInBounds_toArray])
        refine wpAnyH_take (i := 1) (v := ?_) rfl (by kernel_rfl) (by kernel_rfl) (by kernel_rfl) (fun _ _ _ h => h) (Or.inl ⟨by rfl, ?_⟩) (by assumption) ?_
        rotate_left
        · (intro W hSW; go_simp; try (with_reducible rfl))
        (try simp only [Act.put])
        refine wpAnyH_take (i := 2) (v := ?_) rfl (by kernel_rfl) (by kernel_rfl) (by kernel_rfl) (fun _ _ _ h => h) (Or.inl ⟨by rfl, ?_⟩) (by assumption) ?_
        rotate_left
        · (intro W hSW; have z0 := keeps_below hSW _ _ k2; go_simp; try (with_reducible rfl))
        (try simp only [Act.put])
        refine wpAnyH_take (i := 3) (v := ?_) rfl (by kernel_rfl) (by kernel_rfl) (by kernel_rfl) (fun _ _ _ h => h) (Or.inl ⟨by rfl, ?_⟩) (by assumption) ?_
        rotate_left
        · (intro W hSW; go_simp; try (with_reducible rfl))
        (try simp only [Act.put])
        refine wpAnyH_take (i := 4) (v := ?_) rfl (by kernel_rfl) (by kernel_rfl) (by kernel_rfl) (fun _ _ _ h => h) (Or.inl ⟨by rfl, ?_⟩) (by assumption) ?_
        rotate_left
        · (intro W hSW; go_simp; try (with_reducible rfl))
        (try simp only [Act.put])
        refine wpAnyH_take (i := 5) (v := ?_) rfl (by kernel_rfl) (by kernel_rfl) (by kernel_rfl) (fun _ _ _ h => h) (Or.inl ⟨by rfl, ?_⟩) (by assumption) ?_
        rotate_left
        · (intro W hSW; go_simp; try (with_reducible rfl))
        (try simp only [Act.put])
        refine wpAnyH_take (i := 6) (v := ?_) rfl (by kernel_rfl) (by kernel_rfl) (by kernel_rfl) (fun _ _ _ h => h) (Or.inl ⟨by rfl, ?_⟩) (by assumption) ?_
        rotate_left
        · (intro W hSW; have z0 := keeps_below hSW _ _ cfn; go_simp; try (with_reducible rfl))
        (try simp only [Act.put])
        refine wpAnyH_ready (rs := [7]) (by kernel_rfl) (by simp) ?_
        refine AllReadyH.cons rfl (fun K hK => ?_) AllReadyH.nil
        go_simp
        go_at_call 22
        refine (HLV.out _ hHeld).mono ?_
        rintro e w8 ⟨v8, Lv, rfl, hsp, hI, hlo, hb8⟩
        obtain ⟨sa, sb, so, sn, sc, rfl, hsl, hsa, hsc, hscp, hsm⟩ := ints_get hI
        have hbn : Below wr.heap.size wr w8 := Below.trans hHeld (hb8.mono (Below.size hHeld))
        have hlow := fun a n c e => Nat.le_trans (Below.size hHeld) (hlo a n c e)
        dsimp only
        refine hK.out _ _ hbn (fun _ => ?_)
        clear hK K
        (try simp only [Act.put, List.setIfInBounds_toArray, List.set_cons_zero, List.set_cons_succ])
        refine wpAnyH_take (i := 8) (v := ?_) rfl (by kernel_rfl) (by kernel_rfl) (by kernel_rfl) (fun _ _ _ h => h) (Or.inl ⟨by rfl, ?_⟩) hbn ?_
        rotate_left
        · (intro W hSW; go_simp; try (with_reducible rfl))
        (try simp only [Act.put, List.setIfInBounds_toArray])
        refine wpAnyH_take (i := 9) (v := ?_) rfl (by kernel_rfl) (by kernel_rfl) (by kernel_rfl) (fun _ _ _ h => h) (Or.inl ⟨by rfl, ?_⟩) hbn ?_
        rotate_left
        · (intro W hSW; go_simp; try (with_reducible rfl))
        (try simp only [Act.put])
        refine wpAnyH_take (i := 10) (v := ?_) rfl (by kernel_rfl) (by kernel_rfl) (by kernel_rfl) (fun _ _ _ h => h) (Or.inl ⟨by rfl, ?_⟩) hbn ?_
        rotate_left
        · (intro W hSW; go_simp; try (with_reducible rfl))
        (try simp only [Act.put])
        refine wpAnyH_take (i := 11) (v := ?_) rfl (by kernel_rfl) (by kernel_rfl) (by kernel_rfl) (fun _ _ _ h => h) (Or.inl ⟨by rfl, ?_⟩) hbn ?_
        rotate_left
        · (intro W hSW; go_simp; try (with_reducible rfl))
        (try simp only [Act.put])
        refine wpAnyH_take (i := 12) (v := ?_) rfl (by kernel_rfl) (by kernel_rfl) (by kernel_rfl) (fun _ _ _ h => h) (Or.inl ⟨by rfl, ?_⟩) hbn ?_
        rotate_left
        · (intro W hSW; go_simp; try (with_reducible rfl))
        (try simp only [Act.put])
        refine wpAnyH_done (by kernel_rfl) ?_ _
        have hjl := HJL.out
        have hjn : j < sn := by have := hsp.1; omega
        have hjI : ¬ ((sn : Int) ≤ j) := by omega
        have hjI2 : (j : Int) < sn := by omega
        obtain rfl := hsa (by omega)
        have cat := hsc j hjn
        obtain ⟨m, hm, em, hbit⟩ : ∃ m : Nat, m < 4096 ∧ Lv.getD j 0 = m ∧ ∀ r, r < 12 → (m.testBit r = true ↔ LiveW P fn r j) := by
          rcases hsp.2 j hjl with ⟨h, _⟩ | ⟨_, h⟩
          · exact absurd HWY.out h
          · exact h
        rw [em] at cat
        have HBIT : Hid (∀ r, r < 12 → (m.testBit r = true ↔ LiveW P fn r j)) := hbit
        have hsbf : sb ≠ fb := by have := hlow _ _ _ rfl; dsimp only at this; omega
        have HB8 : Hid (Below wc.heap.size wc w8) := HBR.out.trans (hbn.mono HBR.out.size)
        have HJ8 : Hid (Junk w8 wc.heap.size (.slice (some ⟨fb, 0, none⟩) n fcap) ev av SX gs) := HJR.out.below hbn
        have row8 := (hbn.block _ (lt_of_block hrow)).trans hrow
        have k28 := keeps_below hbn _ _ k2
        have cpc8 := keeps_below hbn _ _ cpc
        have hm0 : ¬ ((m : Int) < 0) := by omega
        clear hsl hsa hsc hI hb8 hlow hlo hsp hbit hjl kp k2 cfn cpc hrow hbn hHeld HJR HLV
        go_wp2
        go_loopw [18] (fun r wi => ∃ (u : Nat) (gi : List Fr), u ≤ 12 ∧ r = .int .i64 u ∧ Junk wi wc.heap.size (.slice (some ⟨fb, 0, none⟩) n fcap) ev av SX gi ∧ AgFs P SX.frames gi ∧ wi.heap[GT]? = some (.cells cs4 34 (0, 0)) ∧ Below wc.heap.size wc wi ∧ wi.cell? ⟨sb, so + j, none⟩ = some (.int .i64 (m : Int))) (fun r _ => 12 - (intOf r).toNat)
        case atStart => exact ⟨0, gs, by omega, rfl, HJ8.out, HAG.out, row8, HB8.out, cat⟩
        case round =>
          obtain ⟨u, gi, hu, rfl, hj, hag, hrow, hbi, cml⟩ := hrel
          have HJI : Hid (Junk wr wc.heap.size (.slice (some ⟨fb, 0, none⟩) n fcap) ev av SX gi) := hj
          have HAI : Hid (AgFs P SX.frames gi) := hag
          have HBI : Hid (Below wc.heap.size wc wr) := hbi
          have k2 : wr.cell? ⟨GT, 2, none⟩ = some (.slice (some ⟨fb, 0, none⟩) n fcap) := by rw [cell_of_row _ _ _ _ _ _ hrow]; exact HFV.out
          obtain ⟨g, hg⟩ : ∃ g, gi[q]? = some g := ⟨_, List.getElem?_eq_getElem (by rw [HAI.out.len, HN.out]; exact hlt)⟩
          have hfg := HAI.out.get q f g HFF.out.1 hg
          have hrg := (HJI.out.frame q g hg).1
          have cpc : wr.cell? ⟨fb, q * 14 + 1, none⟩ = some (.int .i64 (j : Int)) := by have := hrg 1 _ rfl; rw [hfg.pc, show f.pc = (j : Int) from HFJ.out] at this; simpa using this
          clear hj hag hbi hrg
          by_cases hu12 : u < 12
          · have huI : (u : Int) < 12 := by omega
            obtain ⟨hcv, hfz⟩ := HJI.out.reg q g hg u hu12
            have hand := bit_down m u hm hu12
            have hu64 : (u : Int) ≤ 64 := by omega
            cases hb : m.testBit u
            · rw [hb] at hand; simp only [Bool.false_eq_true, if_false] at hand
              have HJS : Hid (Junk (wr.setCell ⟨fb, q * 14 + 2 + u, none⟩ (.int .i64 junk)) wc.heap.size (.slice (some ⟨fb, 0, none⟩) n fcap) ev av SX (gi.set q ⟨g.fn, g.pc, g.regs.set u junk⟩)) := HJI.out.store q u hu12 junk g hg
              have HAS : Hid (AgFs P SX.frames (gi.set q ⟨g.fn, g.pc, g.regs.set u junk⟩)) := HAI.out.set q _ (fun f2 hf2 => by
                obtain rfl : f = f2 := by have := HFF.out.1; rw [hf2] at this; exact (Option.some.inj this).symm
                refine hfg.junk u junk (fun hl => ?_)
                rw [HFF.out.2.1, HFF.out.2.2] at hl
                have := (HBIT.out u hu12).2 hl
                rw [hb] at this; cases this)
              have hrow2 := (heap_setCell_other wr ⟨fb, q * 14 + 2 + u, none⟩ GT (.int .i64 junk) hGF).trans hrow
              have HBS : Hid (Below wc.heap.size wc (wr.setCell ⟨fb, q * 14 + 2 + u, none⟩ (.int .i64 junk))) := HBI.out.setCell (by have := HLOW.out; simpa using this) _
              have cml2 : (wr.setCell ⟨fb, q * 14 + 2 + u, none⟩ (.int .i64 junk)).cell? ⟨sb, so + j, none⟩ = some (.int .i64 (m : Int)) := cell_setCell_other cml hsbf
              clear hfg hb
              go_wp2
              go_roundw
              case rel => exact ⟨u + 1, _, by omega, by go_num, HJS.out, HAS.out, hrow2, HBS.out, cml2⟩
              case measure => simp [intOf]; omega
            · rw [hb] at hand; simp only [if_true] at hand
              clear hfg hb
              go_wp2
              go_roundw
              case rel => exact ⟨u + 1, gi, by omega, by go_num, HJI.out, HAI.out, hrow, HBI.out, cml⟩
              case measure => simp [intOf]; omega
          · clear hfg
            go_wp2
            go_roundw
            case rel => exact ⟨q + 1, gi, by omega, by go_num, HJI.out, HAI.out, hrow, HBI.out⟩
            case measure => simp [intOf]; omega
      · obtain rfl : q = n := by omega
        have r3 := (X3.out _ HBR.out).1
        have HC5 : Hid (Calls Tryd.prog 20 #[.agg #[.slice ao n0 cap0], .agg cs3, .int .i64 ((400 : Nat) : Int)] wr _) := kwalk HK.out (0 + x) 400 (by omega) (by omega) _ _ wr (HP.out _ HB1R.out).2.2.1 (HP.out _ HB1R.out).2.2.2 (HP.out _ HB1R.out).2.1 (by have := (X3.out _ HBR.out).2; rw [← HSX.out] at this; exact this)
        go_upto_region 19 with (first
          | (refine wpList_load_row rfl _ _ rfl _ rfl _ _ _ _ r3 Tryd.underlying34 rfl q3 ?_)
          | (go_at_call 20; refine HC5.out.mono ?_; rintro e w5 ⟨cs5, rfl, c1, c2, c3, hst, hb5⟩)
          | (refine wpList_store_row rfl _ _ _ rfl _ _ rfl rfl _ _ (heap_alloc_last w5 _) c1 c2 c3 ?_; rw [World.setRow_alloc_new]))
        have HB5 : Hid (Below wr.heap.size wr (w5.alloc (.cells cs5 34))) := hb5.alloc hb5.size _
        have X5 : Hid (∀ W, Below (w5.alloc (.cells cs5 34)).heap.size (w5.alloc (.cells cs5 34)) W → W.heap[w5.heap.size]? = some (.cells cs5 34 (0, 0)) ∧ StVal W (.agg cs5) (walkS P (0 + x + 400) S)) := fun W hb => ⟨(hb.block _ (by simp)).trans (heap_alloc_last w5 _), (hst.val.keeps (keeps_below ((Below.refl _ _).alloc (Nat.le_refl _) _))).keeps (keeps_below hb)⟩
        have q5 : (Tryd.prog.info? 34).map (·.size) = some cs5.size := c1
        clear hst c1 c2 c3 hb5 r3 HC5 kp k2
        generalize (w5.alloc (.cells cs5 34)) = W5 at *
        generalize w5.heap.size = G5 at *
        have HB15 : Hid (Below (w1.alloc (.cells #[.slice ao n0 cap0] 29)).heap.size (w1.alloc (.cells #[.slice ao n0 cap0] 29)) W5) := HB1R.out.trans (HB5.out.mono HB1R.out.size)
        have row5 := (HB5.out.block _ (lt_of_block hrow)).trans hrow
        have kp := (HP.out _ HB15.out).1
        have HSV : Hid (StVal W5 (.agg cs4) { SX with frames := gs }) := by have := (HJR.out.below HB5.out).val; show StVal _ _ _; rw [HECS.out]; exact this
        have HC6 : Hid (Calls Tryd.prog 20 #[.agg #[.slice ao n0 cap0], .agg cs4, .int .i64 ((400 : Nat) : Int)] W5 _) := walk_anyC P _ _ { SX with frames := gs } 400 W5 (HP.out _ HB15.out).2.2.1 (HP.out _ HB15.out).2.2.2 HR.out (HP.out _ HB15.out).2.1 HSV.out (ag_inv HI.out HAG.out) (by omega) (by show SX.events.length ≤ _; have := HEV.out; omega)
        go_upto_region 20 with (first
          | (refine wpList_load_row rfl _ _ rfl _ rfl _ _ _ _ row5 Tryd.underlying34 rfl q4 ?_)
          | (go_at_call 20; refine HC6.out.mono ?_; rintro e w6 ⟨cs6, rfl, c1, c2, c3, hst, hb6⟩)
          | (refine wpList_store_row rfl _ _ _ rfl _ _ rfl rfl _ _ (heap_alloc_last w6 _) c1 c2 c3 ?_; rw [World.setRow_alloc_new]))
        have HB6 : Hid (Below W5.heap.size W5 (w6.alloc (.cells cs6 34))) := hb6.alloc hb6.size _
        obtain ⟨r5, s5⟩ := X5.out _ HB6.out
        have r6 : (w6.alloc (.cells cs6 34)).heap[w6.heap.size]? = some (.cells cs6 34 (0, 0)) := heap_alloc_last w6 _
        have s6 : StVal (w6.alloc (.cells cs6 34)) (.agg cs6) (walkS P 400 { SX with frames := gs }) := hst.val.keeps (keeps_below ((Below.refl _ _).alloc (Nat.le_refl _) _))
        obtain ⟨gs2, hgs, hag2⟩ := ag_walk HR.out 400 HI.out HAG.out
        rw [walkS_add, HSX.out] at s5
        rw [hgs] at s6
        have hlen : gs2.length = (walkS P 400 SX).frames.length := hag2.len
        have HBF : Hid (Below w.heap.size w (w6.alloc (.cells cs6 34))) := B01.out.trans ((HB15.out.trans (HB6.out.mono HB15.out.size)).mono B01.out.size)
        have q6 : (Tryd.prog.info? 34).map (·.size) = some cs6.size := c1
        clear hst c1 c2 c3 hb6 HC6 kp hgs hag2 X5 row5
        generalize (w6.alloc (.cells cs6 34)) = W6 at *
        generalize w6.heap.size = G6 at *
        generalize walkS P 400 SX = A at *
        obtain ⟨f5, fb5, fo5, fc5, g52, fl5, fm5, -, -⟩ := s5.framesJ
        obtain ⟨f6, fb6, fo6, fc6, g62, fl6, fm6, -, -⟩ := s6.framesJ
        dsimp only at g62 fl6
        have k50 : W6.cell? ⟨G5, 0, none⟩ = some (.int .i64 A.status) := by rw [cell_of_row _ _ _ _ _ _ r5]; exact s5.at.1
        have k60 : W6.cell? ⟨G6, 0, none⟩ = some (.int .i64 A.status) := by rw [cell_of_row _ _ _ _ _ _ r6]; exact s6.at.1
        have k51 : W6.cell? ⟨G5, 1, none⟩ = some (.int .i64 A.value) := by rw [cell_of_row _ _ _ _ _ _ r5]; exact s5.at.2.1
        have k61 : W6.cell? ⟨G6, 1, none⟩ = some (.int .i64 A.value) := by rw [cell_of_row _ _ _ _ _ _ r6]; exact s6.at.2.1
        have k59 : W6.cell? ⟨G5, 19, none⟩ = some (.int .i64 A.fuel) := by rw [cell_of_row _ _ _ _ _ _ r5]; exact s5.at.2.2.1
        have k69 : W6.cell? ⟨G6, 19, none⟩ = some (.int .i64 A.fuel) := by rw [cell_of_row _ _ _ _ _ _ r6]; exact s6.at.2.2.1
        have k52 : W6.cell? ⟨G5, 2, none⟩ = some (.slice f5 A.frames.length fc5) := by rw [cell_of_row _ _ _ _ _ _ r5]; exact g52
        have k62 : W6.cell? ⟨G6, 2, none⟩ = some (.slice f6 A.frames.length fc6) := by rw [cell_of_row _ _ _ _ _ _ r6, ← hlen]; exact g62
        have hm16 : A.mem.length = 16 := by have := s5; obtain ⟨_, _, _, _, h, _⟩ := this; exact h
        obtain ⟨m0, m1', m2, m3, m4, m5, m6, m7, m8, m9, m10, m11, m12, m13, m14, m15, hml⟩ := list16_keep hm16
        have p0 : W6.cell? ⟨G5, 3, none⟩ = some (.int .i64 m0) := by rw [cell_of_row _ _ _ _ _ _ r5, show 3 = 3 + 0 by omega, s5.memAt 0 (by omega), hml]; rfl
        have o0 : W6.cell? ⟨G6, 3, none⟩ = some (.int .i64 m0) := by rw [cell_of_row _ _ _ _ _ _ r6, show 3 = 3 + 0 by omega, s6.memAt 0 (by omega)]; dsimp only; rw [hml]; rfl
        have p1 : W6.cell? ⟨G5, 4, none⟩ = some (.int .i64 m1') := by rw [cell_of_row _ _ _ _ _ _ r5, show 4 = 3 + 1 by omega, s5.memAt 1 (by omega), hml]; rfl
        have o1 : W6.cell? ⟨G6, 4, none⟩ = some (.int .i64 m1') := by rw [cell_of_row _ _ _ _ _ _ r6, show 4 = 3 + 1 by omega, s6.memAt 1 (by omega)]; dsimp only; rw [hml]; rfl
        have p2 : W6.cell? ⟨G5, 5, none⟩ = some (.int .i64 m2) := by rw [cell_of_row _ _ _ _ _ _ r5, show 5 = 3 + 2 by omega, s5.memAt 2 (by omega), hml]; rfl
        have o2 : W6.cell? ⟨G6, 5, none⟩ = some (.int .i64 m2) := by rw [cell_of_row _ _ _ _ _ _ r6, show 5 = 3 + 2 by omega, s6.memAt 2 (by omega)]; dsimp only; rw [hml]; rfl
        have p3 : W6.cell? ⟨G5, 6, none⟩ = some (.int .i64 m3) := by rw [cell_of_row _ _ _ _ _ _ r5, show 6 = 3 + 3 by omega, s5.memAt 3 (by omega), hml]; rfl
        have o3 : W6.cell? ⟨G6, 6, none⟩ = some (.int .i64 m3) := by rw [cell_of_row _ _ _ _ _ _ r6, show 6 = 3 + 3 by omega, s6.memAt 3 (by omega)]; dsimp only; rw [hml]; rfl
        have p4 : W6.cell? ⟨G5, 7, none⟩ = some (.int .i64 m4) := by rw [cell_of_row _ _ _ _ _ _ r5, show 7 = 3 + 4 by omega, s5.memAt 4 (by omega), hml]; rfl
        have o4 : W6.cell? ⟨G6, 7, none⟩ = some (.int .i64 m4) := by rw [cell_of_row _ _ _ _ _ _ r6, show 7 = 3 + 4 by omega, s6.memAt 4 (by omega)]; dsimp only; rw [hml]; rfl
        have p5 : W6.cell? ⟨G5, 8, none⟩ = some (.int .i64 m5) := by rw [cell_of_row _ _ _ _ _ _ r5, show 8 = 3 + 5 by omega, s5.memAt 5 (by omega), hml]; rfl
        have o5 : W6.cell? ⟨G6, 8, none⟩ = some (.int .i64 m5) := by rw [cell_of_row _ _ _ _ _ _ r6, show 8 = 3 + 5 by omega, s6.memAt 5 (by omega)]; dsimp only; rw [hml]; rfl
        have p6 : W6.cell? ⟨G5, 9, none⟩ = some (.int .i64 m6) := by rw [cell_of_row _ _ _ _ _ _ r5, show 9 = 3 + 6 by omega, s5.memAt 6 (by omega), hml]; rfl
        have o6 : W6.cell? ⟨G6, 9, none⟩ = some (.int .i64 m6) := by rw [cell_of_row _ _ _ _ _ _ r6, show 9 = 3 + 6 by omega, s6.memAt 6 (by omega)]; dsimp only; rw [hml]; rfl
        have p7 : W6.cell? ⟨G5, 10, none⟩ = some (.int .i64 m7) := by rw [cell_of_row _ _ _ _ _ _ r5, show 10 = 3 + 7 by omega, s5.memAt 7 (by omega), hml]; rfl
        have o7 : W6.cell? ⟨G6, 10, none⟩ = some (.int .i64 m7) := by rw [cell_of_row _ _ _ _ _ _ r6, show 10 = 3 + 7 by omega, s6.memAt 7 (by omega)]; dsimp only; rw [hml]; rfl
        have p8 : W6.cell? ⟨G5, 11, none⟩ = some (.int .i64 m8) := by rw [cell_of_row _ _ _ _ _ _ r5, show 11 = 3 + 8 by omega, s5.memAt 8 (by omega), hml]; rfl
        have o8 : W6.cell? ⟨G6, 11, none⟩ = some (.int .i64 m8) := by rw [cell_of_row _ _ _ _ _ _ r6, show 11 = 3 + 8 by omega, s6.memAt 8 (by omega)]; dsimp only; rw [hml]; rfl
        have p9 : W6.cell? ⟨G5, 12, none⟩ = some (.int .i64 m9) := by rw [cell_of_row _ _ _ _ _ _ r5, show 12 = 3 + 9 by omega, s5.memAt 9 (by omega), hml]; rfl
        have o9 : W6.cell? ⟨G6, 12, none⟩ = some (.int .i64 m9) := by rw [cell_of_row _ _ _ _ _ _ r6, show 12 = 3 + 9 by omega, s6.memAt 9 (by omega)]; dsimp only; rw [hml]; rfl
        have p10 : W6.cell? ⟨G5, 13, none⟩ = some (.int .i64 m10) := by rw [cell_of_row _ _ _ _ _ _ r5, show 13 = 3 + 10 by omega, s5.memAt 10 (by omega), hml]; rfl
        have o10 : W6.cell? ⟨G6, 13, none⟩ = some (.int .i64 m10) := by rw [cell_of_row _ _ _ _ _ _ r6, show 13 = 3 + 10 by omega, s6.memAt 10 (by omega)]; dsimp only; rw [hml]; rfl
        have p11 : W6.cell? ⟨G5, 14, none⟩ = some (.int .i64 m11) := by rw [cell_of_row _ _ _ _ _ _ r5, show 14 = 3 + 11 by omega, s5.memAt 11 (by omega), hml]; rfl
        have o11 : W6.cell? ⟨G6, 14, none⟩ = some (.int .i64 m11) := by rw [cell_of_row _ _ _ _ _ _ r6, show 14 = 3 + 11 by omega, s6.memAt 11 (by omega)]; dsimp only; rw [hml]; rfl
        have p12 : W6.cell? ⟨G5, 15, none⟩ = some (.int .i64 m12) := by rw [cell_of_row _ _ _ _ _ _ r5, show 15 = 3 + 12 by omega, s5.memAt 12 (by omega), hml]; rfl
        have o12 : W6.cell? ⟨G6, 15, none⟩ = some (.int .i64 m12) := by rw [cell_of_row _ _ _ _ _ _ r6, show 15 = 3 + 12 by omega, s6.memAt 12 (by omega)]; dsimp only; rw [hml]; rfl
        have p13 : W6.cell? ⟨G5, 16, none⟩ = some (.int .i64 m13) := by rw [cell_of_row _ _ _ _ _ _ r5, show 16 = 3 + 13 by omega, s5.memAt 13 (by omega), hml]; rfl
        have o13 : W6.cell? ⟨G6, 16, none⟩ = some (.int .i64 m13) := by rw [cell_of_row _ _ _ _ _ _ r6, show 16 = 3 + 13 by omega, s6.memAt 13 (by omega)]; dsimp only; rw [hml]; rfl
        have p14 : W6.cell? ⟨G5, 17, none⟩ = some (.int .i64 m14) := by rw [cell_of_row _ _ _ _ _ _ r5, show 17 = 3 + 14 by omega, s5.memAt 14 (by omega), hml]; rfl
        have o14 : W6.cell? ⟨G6, 17, none⟩ = some (.int .i64 m14) := by rw [cell_of_row _ _ _ _ _ _ r6, show 17 = 3 + 14 by omega, s6.memAt 14 (by omega)]; dsimp only; rw [hml]; rfl
        have p15 : W6.cell? ⟨G5, 18, none⟩ = some (.int .i64 m15) := by rw [cell_of_row _ _ _ _ _ _ r5, show 18 = 3 + 15 by omega, s5.memAt 15 (by omega), hml]; rfl
        have o15 : W6.cell? ⟨G6, 18, none⟩ = some (.int .i64 m15) := by rw [cell_of_row _ _ _ _ _ _ r6, show 18 = 3 + 15 by omega, s6.memAt 15 (by omega)]; dsimp only; rw [hml]; rfl
        have hq16 : ∀ w, (Op.equalIn 10000 32 (.agg #[.int .i64 m0, .int .i64 m1', .int .i64 m2, .int .i64 m3, .int .i64 m4, .int .i64 m5, .int .i64 m6, .int .i64 m7, .int .i64 m8, .int .i64 m9, .int .i64 m10, .int .i64 m11, .int .i64 m12, .int .i64 m13, .int .i64 m14, .int .i64 m15]) (.agg #[.int .i64 m0, .int .i64 m1', .int .i64 m2, .int .i64 m3, .int .i64 m4, .int .i64 m5, .int .i64 m6, .int .i64 m7, .int .i64 m8, .int .i64 m9, .int .i64 m10, .int .i64 m11, .int .i64 m12, .int .i64 m13, .int .i64 m14, .int .i64 m15])).run Tryd.prog w = .ok true w := fun w => equal_ints_keep 32 [m0, m1', m2, m3, m4, m5, m6, m7, m8, m9, m10, m11, m12, m13, m14, m15] 9998 w Tryd.underlying32
        obtain ⟨fv5, ev5, av5, ea5, -, -, he5, -⟩ := s5
        obtain ⟨fv6, ev6, av6, ea6, -, -, he6, -⟩ := s6
        dsimp only at he6
        have ev5c : W6.cell? ⟨G5, 20, none⟩ = some ev5 := by rw [cell_of_row _ _ _ _ _ _ r5, Value.agg.inj ea5]; exact (stCells_get _ _ _ _ hm16).2.1
        have ev6c : W6.cell? ⟨G6, 20, none⟩ = some ev6 := by rw [cell_of_row _ _ _ _ _ _ r6, Value.agg.inj ea6]; exact (stCells_get _ _ _ _ hm16).2.1
        have hSI := sameInts_keep _ ev5 ev6 W6 he5 he6
        obtain ⟨eo5, ec5, rfl⟩ := he5.shape
        obtain ⟨eo6, ec6, rfl⟩ := he6.shape
        have hl5 : A.frames.length ≤ fc5 := fl5
        have hl6 : A.frames.length ≤ fc6 := by omega
        clear ea5 ea6 he5 he6 hml hm16 g52 g62 hlen r5 r6
        generalize A.events.length = el at *
        generalize A.status = ast at *
        generalize A.value = avl at *
        generalize A.fuel = afu at *
        go_wp2_with (go_at_call 23; refine hSI.mono ?_; rintro e w7 ⟨rfl, hb7⟩; have k52b := keeps_below hb7 _ _ k52; have k62b := keeps_below hb7 _ _ k62)
        go_ret
        exact ⟨rfl, HBF.out.trans (hb7.mono HBF.out.size)⟩
end Go.Proofs.YtgoefojdggblpaaDoor
