/- The walk of tierlinekeep.StepPure: at all raw numbers it says true, and nothing that was there has turned. -/
import Derived.Test.YtcjclencbjllhaaDoorXKRun
import Derived.Test.YtcjclencbjllhaaDoorXTopKit
namespace Go.Proofs.YtcjclencbjllhaaDoor
open Go Go.RowKit

set_option maxHeartbeats 8000000 in
set_option maxRecDepth 100000 in
theorem stepPure_walk (l : List Fn) (v : Value) (a0 a1 fuel : Int) (nv : Value) (ln : List Int) (a : Int) (w : World) (ht : TabOk w) (hc : CallOk w) (hv : ProgVal w v l) (hwf : ∀ f ∈ l, f.wf) (hn : IntsVal w nv ln) (hfu : I64 fuel) (ha : I64 a) :
    Calls Tryd.prog 9 #[v, inVal a0 a1 nv fuel, .int .i64 a] w fun e w' => e = .returned (.bool true) ∧ Below w.heap.size w w' := by
  obtain ⟨x, hx, ex⟩ : ∃ x : Nat, x < 250 ∧ pickI a 250 = x := by have b := pickI_bounds a 250 (by omega); obtain ⟨k, hk⟩ := Int.eq_ofNat_of_zero_le b.1; exact ⟨k, by omega, hk⟩
  have hPX : Hid (∀ W, Calls Tryd.prog 22 #[.int .i64 a, .int .i64 250] W fun e w' => e = .returned (.int .i64 (x : Int)) ∧ w' = W) := fun W => by have := picked_any a 250 W ha (by omega) (by omega); rw [ex] at this; exact this
  clear ex ha
  obtain ⟨nao, nc, rfl⟩ := hn.shape
  obtain ⟨lao, ll, lc, rfl⟩ := hv.shape
  have HTC : Hid (∀ W, Below w.heap.size w W → TabOk W ∧ CallOk W) := fun W hb => ⟨ht.below hb, hc.below hb⟩
  have HB0 : Hid (Below w.heap.size w (w.alloc (.cells #[.int .i64 a0, .int .i64 a1, .slice nao ln.length nc, .int .i64 fuel] 26))) := (Below.refl _ _).alloc (Nat.le_refl _) _
  have HPR : Hid (Calls Tryd.prog 15 #[.slice lao ll lc] (w.alloc (.cells #[.int .i64 a0, .int .i64 a1, .slice nao ln.length nc, .int .i64 fuel] 26)) fun e w' => ∃ ao n cap P, e = .returned (.agg #[.slice ao n cap]) ∧ ProofAns P 0 ∧ ProgVal w' (.slice ao n cap) P ∧ Below (w.alloc (.cells #[.int .i64 a0, .int .i64 a1, .slice nao ln.length nc, .int .i64 fuel] 26)).heap.size (w.alloc (.cells #[.int .i64 a0, .int .i64 a1, .slice nao ln.length nc, .int .i64 fuel] 26)) w') := kprog l _ _ (HTC.out _ HB0.out).1 (HTC.out _ HB0.out).2 (hv.keeps (keeps_below HB0.out)) hwf
  have HNV : Hid (∀ W, Below w.heap.size w W → IntsVal W (.slice nao ln.length nc) ln) := fun W hb => hn.keeps (keeps_below hb)
  have HFU : Hid (I64 fuel) := hfu
  have infoIn : (Tryd.prog.info? 26).map (·.size) = some 4 := by kernel_rfl
  unfold inVal
  clear ht hc hv hwf hn hfu
  go_enter Tryd.func9, Tryd.ntmps9
  go_upto_region 2 with (go_at_call 15; refine HPR.out.mono ?_; rintro e w1 ⟨ao, n0, cap0, P, rfl, hR, hpv, hb1⟩)
  have HR : Hid (ProofAns P 0) := hR
  have B01 : Hid (Below w.heap.size w (w1.alloc (.cells #[.slice ao n0 cap0] 29))) := (HB0.out.trans (hb1.mono (by simp))).alloc (by have := hb1.size; simp at this; omega) _
  have I1 : (w1.alloc (.cells #[.slice ao n0 cap0] 29)).heap[w.heap.size]? = some (.cells #[.int .i64 a0, .int .i64 a1, .slice nao ln.length nc, .int .i64 fuel] 26 (0, 0)) := (heap_alloc_old _ _ (by have := hb1.size; simp at this; omega)).trans ((hb1.block _ (by simp)).trans (heap_alloc_last w _))
  have HP : Hid (∀ W, Below (w1.alloc (.cells #[.slice ao n0 cap0] 29)).heap.size (w1.alloc (.cells #[.slice ao n0 cap0] 29)) W → W.cell? ⟨w1.heap.size, 0, none⟩ = some (.slice ao n0 cap0) ∧ ProgVal W (.slice ao n0 cap0) P ∧ TabOk W ∧ CallOk W) := fun W hb => ⟨keeps_below hb _ _ (by rw [cell_of_row _ _ _ _ _ _ (heap_alloc_last w1 _)]; rfl), (hpv.keeps (keeps_below ((Below.refl _ _).alloc (Nat.le_refl _) _))).keeps (keeps_below hb), (HTC.out _ (B01.out.trans (hb.mono B01.out.size))).1, (HTC.out _ (B01.out.trans (hb.mono B01.out.size))).2⟩
  have HKB : Hid (Calls Tryd.prog 16 #[.agg #[.slice ao n0 cap0], .agg #[.int .i64 a0, .int .i64 a1, .slice nao ln.length nc, .int .i64 fuel]] (w1.alloc (.cells #[.slice ao n0 cap0] 29)) _) := kbegin P (.slice ao n0 cap0) a0 a1 fuel (.slice nao ln.length nc) ln (w1.alloc (.cells #[.slice ao n0 cap0] 29)) (HP.out _ (Below.refl _ _)).2.2.1 (HP.out _ (Below.refl _ _)).2.2.2 HR.out (HP.out _ (Below.refl _ _)).2.1 (HNV.out _ B01.out) HFU.out
  clear hR hpv hb1
  go_upto_region 3 with (first
    | (refine wpList_load_row rfl _ _ rfl _ rfl _ _ _ _ I1 Tryd.underlying26 rfl infoIn ?_)
    | (go_at_call 16; refine HKB.out.mono ?_; rintro e w2 ⟨cs2, S, rfl, hk, hs0, c1, c2, c3, hst, hb2⟩)
    | (refine wpList_store_row rfl _ _ _ rfl _ _ rfl rfl _ _ (heap_alloc_last w2 _) c1 c2 c3 ?_; rw [World.setRow_alloc_new]))
  have HK : Hid (KRunAt P S) := hk
  have HS0 : Hid (S.fuel ≤ 299 ∧ S.answers.length ≤ 10 ∧ S.status = 0) := hs0
  have B12 : Hid (Below (w1.alloc (.cells #[.slice ao n0 cap0] 29)).heap.size (w1.alloc (.cells #[.slice ao n0 cap0] 29)) (w2.alloc (.cells cs2 34))) := hb2.alloc hb2.size _
  have X2 : Hid (∀ W, Below (w2.alloc (.cells cs2 34)).heap.size (w2.alloc (.cells cs2 34)) W → W.heap[w2.heap.size]? = some (.cells cs2 34 (0, 0)) ∧ StVal W (.agg cs2) (walkS P 0 S)) := fun W hb => ⟨(hb.block _ (by simp)).trans (heap_alloc_last w2 _), (hst.val.keeps (keeps_below ((Below.refl _ _).alloc (Nat.le_refl _) _))).keeps (keeps_below hb)⟩
  have q2 : (Tryd.prog.info? 34).map (·.size) = some cs2.size := c1
  have HON2 : Hid (cs2.all (·.oneCell') = true) := c3
  have HZ12 : Hid ((w1.alloc (.cells #[.slice ao n0 cap0] 29)).heap.size ≤ w2.heap.size) := hb2.size
  have hz2 : zeroStCells.size = cs2.size := c2
  clear hk hs0 hst hb2 I1 HKB c1 c2 c3 infoIn
  go_upto_region 3 with fail
  have kp := (HP.out _ B12.out).1
  have r2 := (X2.out _ (Below.refl _ _)).1
  have HWX : Hid (∀ W, Below (w2.alloc (.cells cs2 34)).heap.size (w2.alloc (.cells cs2 34)) W → Calls Tryd.prog 25 #[.agg #[.slice ao n0 cap0], .agg cs2, .int .i64 ((x : Nat) : Int)] W _) := fun W hb => kwalk HK.out 0 x (by omega) (by omega) _ _ W (HP.out _ (B12.out.trans (hb.mono B12.out.size))).2.2.1 (HP.out _ (B12.out.trans (hb.mono B12.out.size))).2.2.2 (HP.out _ (B12.out.trans (hb.mono B12.out.size))).2.1 (X2.out _ hb).2
  go_cut [10] from 29 to 35 (fun e wx => ∃ csn : Array Value, e = .int .i64 0 ∧ wx.heap[w2.heap.size]? = some (.cells csn 34 (0, 0)) ∧ (Tryd.prog.info? 34).map (·.size) = some csn.size ∧ Below (w1.alloc (.cells #[.slice ao n0 cap0] 29)).heap.size (w1.alloc (.cells #[.slice ao n0 cap0] 29)) wx ∧ StVal wx (.agg csn) (walkS P (0 + x) S))
  case first =>
    refine wp_region_held_drew (S := fun W => W.cell? ⟨w1.heap.size, 0, none⟩ = some (.slice ao n0 cap0)) (by kernel_rfl) kp (fun hHeld => ?_)
    show wpAnyH _ _ _ _ _ 10 _ _ _
    refine wpAnyH_take (i := 0) (v := ?_) rfl (by kernel_rfl) (by kernel_rfl) (by kernel_rfl) (fun _ _ _ h => h) (Or.inl ⟨by rfl, ?_⟩) (by assumption) ?_
    rotate_left
    · (intro W hSW; go_simp; try (with_reducible rfl))
    (try simp only [Act.put, List.setIfInBounds_toArray])
    refine wpAnyH_take (i := 2) (v := ?_) rfl (by kernel_rfl) (by kernel_rfl) (by kernel_rfl) (fun _ _ _ h => h) (Or.inl ⟨by rfl, ?_⟩) (by assumption) ?_
    rotate_left
    · (intro W hSW; go_simp; try (with_reducible rfl))
    (try simp only [Act.put])
    refine wpAnyH_ready (rs := [1, 3]) (by kernel_rfl) (by simp) ?_
    refine AllReadyH.cons rfl (fun K hK => ?_) (AllReadyH.cons rfl (fun K hK => ?_) AllReadyH.nil)
    · -- the state is loaded first
      refine wp_load_row 34 _ rfl w2.heap.size rfl _ _ _ _ r2 Tryd.underlying34 rfl q2 ?_
      refine hK.out _ _ kp (fun _ => ?_)
      clear hK K
      (try simp only [Act.put])
      refine wpAnyH_ready (rs := [3]) (by kernel_rfl) (by simp) ?_
      refine AllReadyH.cons rfl (fun K hK => ?_) AllReadyH.nil
      go_simp
      go_at_call 22
      refine (hPX.out _).mono ?_
      rintro e wp ⟨rfl, hwp⟩
      replace hwp := hwp.symm
      subst hwp
      dsimp only
      refine hK.out _ _ kp (fun _ => ?_)
      clear hK K
      (try simp only [Act.put, List.setIfInBounds_toArray, List.set_cons_zero, List.set_cons_succ])
      refine wpAnyH_ready (rs := [4]) (by kernel_rfl) (by simp) ?_
      refine AllReadyH.cons rfl (fun K hK => ?_) AllReadyH.nil
      go_simp
      go_at_call 25
      refine (HWX.out _ ((Below.refl _ _).drew)).mono ?_
      rintro e w3 ⟨cs3, rfl, c1, c2, c3, hst, hb⟩
      have hb3 : Below (w2.alloc (.cells cs2 34)).heap.size (w2.alloc (.cells cs2 34)) w3 := (Below.refl _ _).drew.trans (hb.mono (Nat.le_refl _))
      have kp3 := keeps_below hb3 _ _ kp
      have r3 : w3.heap[w2.heap.size]? = some (.cells cs2 34 (0, 0)) := (hb3.block _ (by simp)).trans r2
      dsimp only
      refine hK.out _ _ kp3 (fun _ => ?_)
      clear hK K
      (try simp only [Act.put, List.setIfInBounds_toArray, List.set_cons_zero, List.set_cons_succ])
      refine wpAnyH_take (i := 5) (v := ?_) rfl (by kernel_rfl) (by kernel_rfl) (by kernel_rfl) (fun _ _ _ h => h) (Or.inl ⟨by rfl, ?_⟩) kp3 ?_
      rotate_left
      · (intro W hSW; go_simp; try (with_reducible rfl))
      (try simp only [Act.put, List.setIfInBounds_toArray])
      refine wpAnyH_take (i := 6) (v := ?_) rfl (by kernel_rfl) (by kernel_rfl) (by kernel_rfl) (fun _ _ _ h => h) (Or.inl ⟨by rfl, ?_⟩) kp3 ?_
      rotate_left
      · (intro W hSW; go_simp; try (with_reducible rfl))
      (try simp only [Act.put])
      refine wpAnyH_take (i := 7) (v := ?_) rfl (by kernel_rfl) (by kernel_rfl) (by kernel_rfl) (fun _ _ _ h => h) (Or.inl ⟨by rfl, ?_⟩) kp3 ?_
      rotate_left
      · (intro W hSW; go_simp; try (with_reducible rfl))
      (try simp only [Act.put])
      refine wpAnyH_ready (rs := [8]) (by kernel_rfl) (by simp) ?_
      refine AllReadyH.cons rfl (fun K hK => ?_) AllReadyH.nil
      refine wp_store_row 34 _ _ rfl w2.heap.size cs3 rfl rfl 34 cs2 r3 c1 (hz2.symm.trans c2) c3 ?_
      have BN : Below (w1.alloc (.cells #[.slice ao n0 cap0] 29)).heap.size (w1.alloc (.cells #[.slice ao n0 cap0] 29)) (World.setRow w3 w2.heap.size cs3) := below_setRow (B12.out.trans (hb3.mono B12.out.size)) (by have := HZ12.out; simpa using this) _
      have SN : StVal (World.setRow w3 w2.heap.size cs3) (.agg cs3) (walkS P (0 + x) S) := ((hst.mono (show w2.heap.size + 1 ≤ _ by simp)).setRow (by omega) _).val
      have kpN := (HP.out _ BN).1
      refine hK.out _ _ kpN (fun _ => ?_)
      clear hK K
      (try simp only [Act.put])
      refine wpAnyH_ready (rs := [9]) (by kernel_rfl) (by simp) ?_
      refine AllReadyH.cons rfl (fun K hK => ?_) AllReadyH.nil
      go_simp
      refine hK.out _ _ kpN (fun _ => ?_)
      clear hK K
      (try simp only [Act.put, List.setIfInBounds_toArray, List.set_cons_zero, List.set_cons_succ])
      refine wpAnyH_done (by kernel_rfl) ?_ _
      go_wp2_with fail
      go_meet
      exact ⟨cs3, rfl, setRow_heap _ _ _ _ _ _ r3, c1, BN, SN⟩
    · -- picked first
      go_simp
      go_at_call 22
      refine (hPX.out _).mono ?_
      rintro e wp ⟨rfl, hwp⟩
      replace hwp := hwp.symm
      subst hwp
      dsimp only
      refine hK.out _ _ kp (fun _ => ?_)
      clear hK K
      (try simp only [Act.put, List.setIfInBounds_toArray, List.set_cons_zero, List.set_cons_succ])
      refine wpAnyH_ready (rs := [1]) (by kernel_rfl) (by simp) ?_
      refine AllReadyH.cons rfl (fun K hK => ?_) AllReadyH.nil
      refine wp_load_row 34 _ rfl w2.heap.size rfl _ _ _ _ r2 Tryd.underlying34 rfl q2 ?_
      refine hK.out _ _ kp (fun _ => ?_)
      clear hK K
      (try simp only [Act.put, List.setIfInBounds_toArray])
      refine wpAnyH_ready (rs := [4]) (by kernel_rfl) (by simp) ?_
      refine AllReadyH.cons rfl (fun K hK => ?_) AllReadyH.nil
      go_simp
      go_at_call 25
      refine (HWX.out _ ((Below.refl _ _).drew)).mono ?_
      rintro e w3 ⟨cs3, rfl, c1, c2, c3, hst, hb⟩
      have hb3 : Below (w2.alloc (.cells cs2 34)).heap.size (w2.alloc (.cells cs2 34)) w3 := (Below.refl _ _).drew.trans (hb.mono (Nat.le_refl _))
      have kp3 := keeps_below hb3 _ _ kp
      have r3 : w3.heap[w2.heap.size]? = some (.cells cs2 34 (0, 0)) := (hb3.block _ (by simp)).trans r2
      dsimp only
      refine hK.out _ _ kp3 (fun _ => ?_)
      clear hK K
      (try simp only [Act.put, List.setIfInBounds_toArray, List.set_cons_zero, List.set_cons_succ])
      refine wpAnyH_take (i := 5) (v := ?_) rfl (by kernel_rfl) (by kernel_rfl) (by kernel_rfl) (fun _ _ _ h => h) (Or.inl ⟨by rfl, ?_⟩) kp3 ?_
      rotate_left
      · (intro W hSW; go_simp; try (with_reducible rfl))
      (try simp only [Act.put, List.setIfInBounds_toArray])
      refine wpAnyH_take (i := 6) (v := ?_) rfl (by kernel_rfl) (by kernel_rfl) (by kernel_rfl) (fun _ _ _ h => h) (Or.inl ⟨by rfl, ?_⟩) kp3 ?_
      rotate_left
      · (intro W hSW; go_simp; try (with_reducible rfl))
      (try simp only [Act.put])
      refine wpAnyH_take (i := 7) (v := ?_) rfl (by kernel_rfl) (by kernel_rfl) (by kernel_rfl) (fun _ _ _ h => h) (Or.inl ⟨by rfl, ?_⟩) kp3 ?_
      rotate_left
      · (intro W hSW; go_simp; try (with_reducible rfl))
      (try simp only [Act.put])
      refine wpAnyH_ready (rs := [8]) (by kernel_rfl) (by simp) ?_
      refine AllReadyH.cons rfl (fun K hK => ?_) AllReadyH.nil
      refine wp_store_row 34 _ _ rfl w2.heap.size cs3 rfl rfl 34 cs2 r3 c1 (hz2.symm.trans c2) c3 ?_
      have BN : Below (w1.alloc (.cells #[.slice ao n0 cap0] 29)).heap.size (w1.alloc (.cells #[.slice ao n0 cap0] 29)) (World.setRow w3 w2.heap.size cs3) := below_setRow (B12.out.trans (hb3.mono B12.out.size)) (by have := HZ12.out; simpa using this) _
      have SN : StVal (World.setRow w3 w2.heap.size cs3) (.agg cs3) (walkS P (0 + x) S) := ((hst.mono (show w2.heap.size + 1 ≤ _ by simp)).setRow (by omega) _).val
      have kpN := (HP.out _ BN).1
      refine hK.out _ _ kpN (fun _ => ?_)
      clear hK K
      (try simp only [Act.put])
      refine wpAnyH_ready (rs := [9]) (by kernel_rfl) (by simp) ?_
      refine AllReadyH.cons rfl (fun K hK => ?_) AllReadyH.nil
      go_simp
      refine hK.out _ _ kpN (fun _ => ?_)
      clear hK K
      (try simp only [Act.put, List.setIfInBounds_toArray, List.set_cons_zero, List.set_cons_succ])
      refine wpAnyH_done (by kernel_rfl) ?_ _
      go_wp2_with fail
      go_meet
      exact ⟨cs3, rfl, setRow_heap _ _ _ _ _ _ r3, c1, BN, SN⟩
  case rest =>
    rename World => WW
    obtain ⟨cs3, rfl, row3, q3, B1W0, st3⟩ := hcut
    have B1W : Hid (Below (w1.alloc (.cells #[.slice ao n0 cap0] 29)).heap.size (w1.alloc (.cells #[.slice ao n0 cap0] 29)) WW) := B1W0
    clear B1W0 kp r2 q2 hz2 HWX X2 B12
    have kp := (HP.out _ B1W.out).1
    have HC : Hid (Calls Tryd.prog 20 #[.agg #[.slice ao n0 cap0], .agg cs3] WW _) := knext HK.out (0 + x) (by omega) _ _ WW (HP.out _ B1W.out).2.2.1 (HP.out _ B1W.out).2.2.2 (HP.out _ B1W.out).2.1 st3
    go_upto_region 5 with (first
      | (refine wpList_load_row rfl _ _ rfl _ rfl _ _ _ _ row3 Tryd.underlying34 rfl q3 ?_)
      | (go_at_call 20; refine HC.out.mono ?_; rintro e w4 ⟨cs4, rfl, c1, c2, c3, hst, hb⟩)
      | (refine wpList_store_row rfl _ _ _ rfl _ _ rfl rfl _ _ (heap_alloc_last w4 _) c1 c2 c3 ?_; rw [World.setRow_alloc_new]))
    have B24 : Below WW.heap.size WW (w4.alloc (.cells cs4 34)) := hb.alloc hb.size _
    have r4 : (w4.alloc (.cells cs4 34)).heap[w4.heap.size]? = some (.cells cs4 34 (0, 0)) := heap_alloc_last w4 _
    have r3 : (w4.alloc (.cells cs4 34)).heap[w2.heap.size]? = some (.cells cs3 34 (0, 0)) := (B24.block _ (lt_of_block row3)).trans row3
    have s3 : StVal (w4.alloc (.cells cs4 34)) (.agg cs3) (walkS P (0 + x) S) := st3.keeps (keeps_below B24)
    have s4 : StVal (w4.alloc (.cells cs4 34)) (.agg cs4) (walkS P (0 + x + 1) S) := hst.val.keeps (keeps_below ((Below.refl _ _).alloc (Nat.le_refl _) _))
    have B14 : Hid (Below (w1.alloc (.cells #[.slice ao n0 cap0] 29)).heap.size (w1.alloc (.cells #[.slice ao n0 cap0] 29)) (w4.alloc (.cells cs4 34))) := B1W.out.trans (B24.mono B1W.out.size)
    have BF : Hid (Below w.heap.size w (w4.alloc (.cells cs4 34))) := B01.out.trans (B14.out.mono B01.out.size)
    obtain ⟨hv1, -⟩ := krun_walk HK.out (0 + x)
    clear HC kp row3 st3 hst hb c1 c2 c3 q3
    have e3 := s3.at
    have e4 := s4.at
    obtain ⟨g30, g31, -, fr3, fc3, -, -, -, -, g32, -, -⟩ := e3
    obtain ⟨g40, g41, -, fr4, fc4, -, -, -, -, g42, -, -⟩ := e4
    have k30 : (w4.alloc (.cells cs4 34)).cell? ⟨w2.heap.size, 0, none⟩ = some (.int .i64 (walkS P (0 + x) S).status) := by rw [cell_of_row _ _ _ _ _ _ r3]; exact g30
    have k40 : (w4.alloc (.cells cs4 34)).cell? ⟨w4.heap.size, 0, none⟩ = some (.int .i64 (walkS P (0 + x + 1) S).status) := by rw [cell_of_row _ _ _ _ _ _ r4]; exact g40
    by_cases hs0 : (walkS P (0 + x) S).status = 0
    case neg =>
      have hne : ((walkS P (0 + x) S).status != 0) = true := by simpa using hs0
      generalize (walkS P (0 + x) S).status = st at k30 hne
      clear s3 s4 hv1 r3 r4 B24 k40 g30 g31 g32 g40 g41 g42 hs0
      go_wp2
      go_ret
      exact ⟨rfl, BF.out⟩
    by_cases hs1 : (walkS P (0 + x + 1) S).status = 0
    case neg =>
      have hne : ((walkS P (0 + x + 1) S).status != 0) = true := by simpa using hs1
      rw [hs0] at k30
      generalize (walkS P (0 + x + 1) S).status = st at k40 hne
      clear s3 s4 hv1 r3 r4 B24 g30 g31 g32 g40 g41 g42 hs0 hs1
      go_wp2
      go_ret
      exact ⟨rfl, BF.out⟩
    rw [hs0] at k30
    rw [hs1] at k40
    obtain ⟨fs, f, hsn⟩ : ∃ fs f, (walkS P (0 + x) S).frames = fs ++ [f] := by
      rcases List.eq_nil_or_concat (walkS P (0 + x) S).frames with hnil | ⟨fs, f, hsn⟩
      · exact absurd hnil (run_frames hv1 hs0)
      · exact ⟨fs, f, by rw [hsn, List.concat_eq_append]⟩
    obtain ⟨fb, foff, fcap, g2, frng, f12, fc1, fc2⟩ := s3.framesAt hsn
    have k2 : (w4.alloc (.cells cs4 34)).cell? ⟨w2.heap.size, 2, none⟩ = some (.slice (some ⟨fb, foff, none⟩) (fs.length + 1) fcap) := by rw [cell_of_row _ _ _ _ _ _ r3]; exact g2
    have HK2 : Hid ((w4.alloc (.cells cs4 34)).cell? ⟨w2.heap.size, 2, none⟩ = some (.slice (some ⟨fb, foff, none⟩) (fs.length + 1) fcap)) := k2
    have HFR : Hid ((w4.alloc (.cells cs4 34)).rangeAt fb (foff + fs.length * 14) (frCells f)) := frng
    have hpf : placeB P f = true := hv1.fok.place f (by rw [hsn]; simp)
    have hix := place_ins (right_code HR.out) hpf
    obtain ⟨m, hm⟩ : ∃ m : Nat, m = fs.length + 1 := ⟨_, rfl⟩
    obtain ⟨j, hj⟩ : ∃ j : Nat, j = fs.length := ⟨_, rfl⟩
    have HMJ : Hid (m = j + 1 ∧ j = fs.length) := ⟨by omega, hj⟩
    rw [← hm] at k2 fc1
    rw [← hj] at frng
    have hw1 : IntKind.i64.wrap ((m : Int) - 1) = (j : Int) := by rw [show (m : Int) - 1 = j by omega]; exact wrap_fits _ (by omega) (by omega)
    have hjm : (j : Int) < m := by omega
    have hjn : j < m := by omega
    have hm0 : ¬ m = 0 := by omega
    have hfl : (Tryd.prog.info? 44).map (·.size) = some (frCells f).length := by rw [frCells_length f f12]; exact infoFr
    have hfs : (Tryd.prog.info? 44).map (·.size) = some (frCells f).toArray.size := by rw [List.size_toArray]; exact hfl
    have hfo : (frCells f).toArray.all (·.oneCell') = true := by rw [Array.all_eq_true_iff_forall_mem]; intro u hu; exact frCells_one _ u (by simpa using hu)
    have hfz : (zeroFr 0).toArray.size = (frCells f).toArray.size := by rw [List.size_toArray, List.size_toArray, frCells_length f f12]; rfl
    clear g2 hm hj
    go_upto_region 11 with (first
      | (refine wpList_load_mid rfl _ _ rfl fb (foff + j * 14) rfl (frCells f) _ frng Tryd.underlying44 rfl hfl ?_)
      | (refine wpList_store_row rfl _ _ _ rfl _ (frCells f).toArray rfl rfl 44 (zeroFr 0).toArray (heap_alloc2_new w4 _ _) hfs hfz hfo ?_; rw [setRow_alloc2m]))
    have B45 : Below (w4.alloc (.cells cs4 34)).heap.size (w4.alloc (.cells cs4 34)) ((w4.alloc (.cells cs4 34)).alloc (.cells (frCells f).toArray 44)) := (Below.refl _ _).alloc (Nat.le_refl _) _
    have B15 : Hid (Below (w1.alloc (.cells #[.slice ao n0 cap0] 29)).heap.size (w1.alloc (.cells #[.slice ao n0 cap0] 29)) ((w4.alloc (.cells cs4 34)).alloc (.cells (frCells f).toArray 44))) := B14.out.trans (B45.mono B14.out.size)
    obtain ⟨k, jj, pb, po, pcap, b1, off1, m1, cap1, e1, e2, e3, hk, d2, hjj, hm1, hc1, hpc, hpm, hins⟩ := prog_ins (HP.out _ B15.out).2.1 hpf
    have kp := (HP.out _ B15.out).1
    rw [e3] at kp
    have rt : ((w4.alloc (.cells cs4 34)).alloc (.cells (frCells f).toArray 44)).heap[(w4.heap.size + 1)]? = some (.cells (frCells f).toArray 44 (0, 0)) := heap_alloc2_new w4 _ _
    have t0 : ((w4.alloc (.cells cs4 34)).alloc (.cells (frCells f).toArray 44)).cell? ⟨(w4.heap.size + 1), 0, none⟩ = some (.int .i64 (k : Int)) := by rw [cell_of_row _ _ _ _ _ _ rt, ← e1]; rfl
    have t1 : ((w4.alloc (.cells cs4 34)).alloc (.cells (frCells f).toArray 44)).cell? ⟨(w4.heap.size + 1), 1, none⟩ = some (.int .i64 (jj : Int)) := by rw [cell_of_row _ _ _ _ _ _ rt, ← e2]; rfl
    have HFN : Hid (f.fn = (k : Int) ∧ f.pc = (jj : Int) ∧ k < P.length ∧ (jj : Int) + 1 ≤ 9223372036854775807) := ⟨e1, e2, by omega, by omega⟩
    have HTR : Hid (∀ W, Below ((w4.alloc (.cells cs4 34)).alloc (.cells (frCells f).toArray 44)).heap.size ((w4.alloc (.cells cs4 34)).alloc (.cells (frCells f).toArray 44)) W → W.cell? ⟨(w4.heap.size + 1), 0, none⟩ = some (.int .i64 (k : Int)) ∧ W.cell? ⟨(w4.heap.size + 1), 1, none⟩ = some (.int .i64 (jj : Int)) ∧ ∀ r : Nat, r < 12 → W.cell? ⟨(w4.heap.size + 1), 2 + r, none⟩ = some (.int .i64 (f.regs.getD r 0))) := fun W hW => ⟨keeps_below hW _ _ t0, keeps_below hW _ _ t1, fun r hr => keeps_below hW _ _ (by rw [cell_of_row _ _ _ _ _ _ rt, List.getElem?_toArray, show 2 + r = r + 1 + 1 by omega]; simp [frCells, i64s, List.getD, f12, hr])⟩
    have HS3 : Hid (∀ W, Below ((w4.alloc (.cells cs4 34)).alloc (.cells (frCells f).toArray 44)).heap.size ((w4.alloc (.cells cs4 34)).alloc (.cells (frCells f).toArray 44)) W → W.heap[w2.heap.size]? = some (.cells cs3 34 (0, 0)) ∧ W.heap[w4.heap.size]? = some (.cells cs4 34 (0, 0)) ∧ StVal W (.agg cs3) (walkS P (0 + x) S) ∧ StVal W (.agg cs4) (walkS P (0 + x + 1) S)) := fun W hW => ⟨(hW.block _ (by have := lt_of_block r3; simp at this ⊢; omega)).trans ((B45.block _ (lt_of_block r3)).trans r3), (hW.block _ (by simp; omega)).trans ((B45.block _ (by simp)).trans r4), (s3.keeps (keeps_below B45)).keeps (keeps_below hW), (s4.keeps (keeps_below B45)).keeps (keeps_below hW)⟩
    have hkI : (k : Int) < P.length := by omega
    have hjI : (jj : Int) < m1 := by omega
    have hix2 : InsOk P (insOfFr P f) := hix
    have hins2 : insAt ((w4.alloc (.cells cs4 34)).alloc (.cells (frCells f).toArray 44)) b1 (off1 + jj * 5) (insOfFr P f) := hins
    have F12 : Hid (f.regs.length = 12) := f12
    clear hix frng hins f12
    obtain ⟨xo, xd, xa, xb, xi, HXE, HIX, i0, i1, i2, i3, i4⟩ : ∃ xo xd xa xb xi, Hid (insOfFr P f = ⟨xo, xd, xa, xb, xi⟩) ∧ Hid (InsOk P ⟨xo, xd, xa, xb, xi⟩) ∧ ((w4.alloc (.cells cs4 34)).alloc (.cells (frCells f).toArray 44)).cell? ⟨b1, off1 + jj * 5, none⟩ = some (.int .i64 xo) ∧ ((w4.alloc (.cells cs4 34)).alloc (.cells (frCells f).toArray 44)).cell? ⟨b1, off1 + jj * 5 + 1, none⟩ = some (.int .i64 xd) ∧ ((w4.alloc (.cells cs4 34)).alloc (.cells (frCells f).toArray 44)).cell? ⟨b1, off1 + jj * 5 + 2, none⟩ = some (.int .i64 xa) ∧ ((w4.alloc (.cells cs4 34)).alloc (.cells (frCells f).toArray 44)).cell? ⟨b1, off1 + jj * 5 + 3, none⟩ = some (.int .i64 xb) ∧ ((w4.alloc (.cells cs4 34)).alloc (.cells (frCells f).toArray 44)).cell? ⟨b1, off1 + jj * 5 + 4, none⟩ = some (.int .i64 xi) := ⟨_, _, _, _, _, (rfl : insOfFr P f = _), hix2, hins2.1, hins2.2.1, hins2.2.2.1, hins2.2.2.2.1, hins2.2.2.2.2⟩
    have BF5 : Hid (Below w.heap.size w ((w4.alloc (.cells cs4 34)).alloc (.cells (frCells f).toArray 44))) := BF.out.trans (B45.mono BF.out.size)
    clear hix2 hins2 s3 s4 r3 r4 B24 k2 hv1 hpf fc1 fc2 hw1 hjm hjn hm0 hfl hfs hfo hfz rt e1 e2 BF k30 k40 g30 g31 g32 g40 g41 g42
    simp only [Act.put]
    go_cut [15] from 69 to 79 (fun t wx => ∃ G : Nat, t = .pointer (some ⟨G, 0, none⟩) ∧ wx.heap[G]? = some (.cells #[.int .i64 xo, .int .i64 xd, .int .i64 xa, .int .i64 xb, .int .i64 xi] 46 (0, 0)) ∧ Below ((w4.alloc (.cells cs4 34)).alloc (.cells (frCells f).toArray 44)).heap.size ((w4.alloc (.cells cs4 34)).alloc (.cells (frCells f).toArray 44)) wx)
    case first =>
      refine wp_region_held_drew (S := fun W => Below ((w4.alloc (.cells cs4 34)).alloc (.cells (frCells f).toArray 44)).heap.size ((w4.alloc (.cells cs4 34)).alloc (.cells (frCells f).toArray 44)) W) (by kernel_rfl) ((Below.refl _ _).drew) (fun hHeld => ?_)
      show wpAnyH _ _ _ _ _ 13 _ _ _
      refine wpAnyH_take (i := 0) (v := ?_) rfl (by kernel_rfl) (by kernel_rfl) (by kernel_rfl) (fun _ _ _ h => h) (Or.inl ⟨by rfl, ?_⟩) (by assumption) ?_
      rotate_left
      · (intro W hSW; go_simp; try (with_reducible rfl))
      (try simp only [Act.put, List.setIfInBounds_toArray])
      refine wpAnyH_take (i := 1) (v := ?_) rfl (by kernel_rfl) (by kernel_rfl) (by kernel_rfl) (fun _ _ _ h => h) (Or.inl ⟨by rfl, ?_⟩) (by assumption) ?_
      rotate_left
      · (intro W hSW; have z0 := keeps_below hSW _ _ kp; go_simp; try (with_reducible rfl))
      (try simp only [Act.put])
      refine wpAnyH_take (i := 2) (v := ?_) rfl (by kernel_rfl) (by kernel_rfl) (by kernel_rfl) (fun _ _ _ h => h) (Or.inl ⟨by rfl, ?_⟩) (by assumption) ?_
      rotate_left
      · (intro W hSW; go_simp; try (with_reducible rfl))
      (try simp only [Act.put])
      refine wpAnyH_take (i := 3) (v := ?_) rfl (by kernel_rfl) (by kernel_rfl) (by kernel_rfl) (fun _ _ _ h => h) (Or.inl ⟨by rfl, ?_⟩) (by assumption) ?_
      rotate_left
      · (intro W hSW; have z0 := keeps_below hSW _ _ t0; go_simp; try (with_reducible rfl))
      (try simp only [Act.put])
      refine wpAnyH_take (i := 4) (v := ?_) rfl (by kernel_rfl) (by kernel_rfl) (by kernel_rfl) (fun _ _ _ h => h) (Or.inl ⟨by rfl, ?_⟩) (by assumption) ?_
      rotate_left
      · (intro W hSW; go_simp; try (with_reducible rfl))
      (try simp only [Act.put])
      refine wpAnyH_take (i := 5) (v := ?_) rfl (by kernel_rfl) (by kernel_rfl) (by kernel_rfl) (fun _ _ _ h => h) (Or.inl ⟨by rfl, ?_⟩) (by assumption) ?_
      rotate_left
      · (intro W hSW; go_simp; try (with_reducible rfl))
      (try simp only [Act.put])
      refine wpAnyH_take (i := 6) (v := ?_) rfl (by kernel_rfl) (by kernel_rfl) (by kernel_rfl) (fun _ _ _ h => h) (Or.inl ⟨by rfl, ?_⟩) (by assumption) ?_
      rotate_left
      · (intro W hSW; have z0 := keeps_below hSW _ _ d2; go_simp; try (with_reducible rfl))
      (try simp only [Act.put])
      refine wpAnyH_take (i := 7) (v := ?_) rfl (by kernel_rfl) (by kernel_rfl) (by kernel_rfl) (fun _ _ _ h => h) (Or.inl ⟨by rfl, ?_⟩) (by assumption) ?_
      rotate_left
      · (intro W hSW; go_simp; try (with_reducible rfl))
      (try simp only [Act.put])
      refine wpAnyH_take (i := 8) (v := ?_) rfl (by kernel_rfl) (by kernel_rfl) (by kernel_rfl) (fun _ _ _ h => h) (Or.inl ⟨by rfl, ?_⟩) (by assumption) ?_
      rotate_left
      · (intro W hSW; have z0 := keeps_below hSW _ _ t1; go_simp; try (with_reducible rfl))
      (try simp only [Act.put])
      refine wpAnyH_take (i := 9) (v := ?_) rfl (by kernel_rfl) (by kernel_rfl) (by kernel_rfl) (fun _ _ _ h => h) (Or.inl ⟨by rfl, ?_⟩) (by assumption) ?_
      rotate_left
      · (intro W hSW; go_simp; try (with_reducible rfl))
      (try simp only [Act.put])
      refine wpAnyH_take (i := 10) (v := ?_) rfl (by kernel_rfl) (by kernel_rfl) (by kernel_rfl) (fun _ _ _ h => h) (Or.inl ⟨by rfl, ?_⟩) (by assumption) ?_
      rotate_left
      · (intro W hSW; have z0 := keeps_below hSW _ _ i0; have z1 := keeps_below hSW _ _ i1; have z2 := keeps_below hSW _ _ i2; have z3 := keeps_below hSW _ _ i3; have z4 := keeps_below hSW _ _ i4; go_simp; try (with_reducible rfl))
      (try simp only [Act.put])
      refine wpAnyH_ready (rs := [11]) (by kernel_rfl) (by simp) ?_
      refine AllReadyH.cons rfl (fun K hK => ?_) AllReadyH.nil
      go_simp
      refine hK.out _ _ ((Below.refl _ _).alloc (Nat.le_refl _) _).drew (fun _ => ?_)
      clear hK K
      (try simp only [Act.put, List.setIfInBounds_toArray, List.set_cons_zero, List.set_cons_succ])
      refine wpAnyH_ready (rs := [12]) (by kernel_rfl) (by simp) ?_
      refine AllReadyH.cons rfl (fun K hK => ?_) AllReadyH.nil
      go_simp
      refine hK.out _ _ ((Below.refl _ _).alloc (Nat.le_refl _) _).drew (fun _ => ?_)
      clear hK K
      (try simp only [Act.put, List.setIfInBounds_toArray, List.set_cons_zero, List.set_cons_succ])
      refine wpAnyH_done (by kernel_rfl) ?_ _
      go_wp2_with fail
      go_meet
      exact ⟨_, rfl, heap_alloc3_new w4 _ _ _, ((Below.refl _ _).alloc (Nat.le_refl _) _).drew⟩
    case rest =>
      rename World => WX
      obtain ⟨G, rfl, rowX, BX⟩ := hcut
      have HBX : Hid (Below ((w4.alloc (.cells cs4 34)).alloc (.cells (frCells f).toArray 44)).heap.size ((w4.alloc (.cells cs4 34)).alloc (.cells (frCells f).toArray 44)) WX) := BX
      have HCX : Hid (∀ W, Below WX.heap.size WX W → W.cell? ⟨G, 0, none⟩ = some (.int .i64 xo) ∧ W.cell? ⟨G, 1, none⟩ = some (.int .i64 xd) ∧ W.cell? ⟨G, 2, none⟩ = some (.int .i64 xa) ∧ W.cell? ⟨G, 3, none⟩ = some (.int .i64 xb) ∧ W.cell? ⟨G, 4, none⟩ = some (.int .i64 xi)) := fun W hW => ⟨keeps_below hW _ _ (by rw [cell_of_row _ _ _ _ _ _ rowX]; rfl), keeps_below hW _ _ (by rw [cell_of_row _ _ _ _ _ _ rowX]; rfl), keeps_below hW _ _ (by rw [cell_of_row _ _ _ _ _ _ rowX]; rfl), keeps_below hW _ _ (by rw [cell_of_row _ _ _ _ _ _ rowX]; rfl), keeps_below hW _ _ (by rw [cell_of_row _ _ _ _ _ _ rowX]; rfl)⟩
      have HPX : Hid (∀ W, Below WX.heap.size WX W → W.cell? ⟨w1.heap.size, 0, none⟩ = some (.slice (some ⟨pb, po, none⟩) P.length pcap) ∧ ProgVal W (.slice (some ⟨pb, po, none⟩) P.length pcap) P) := fun W hW => by have h := HP.out W (B15.out.trans ((HBX.out.trans (hW.mono HBX.out.size)).mono B15.out.size)); rw [e3] at h; exact ⟨h.1, h.2.1⟩
      have HS3X : Hid (∀ W, Below WX.heap.size WX W → W.heap[w2.heap.size]? = some (.cells cs3 34 (0, 0)) ∧ W.heap[w4.heap.size]? = some (.cells cs4 34 (0, 0)) ∧ StVal W (.agg cs3) (walkS P (0 + x) S) ∧ StVal W (.agg cs4) (walkS P (0 + x + 1) S)) := fun W hW => HS3.out W (HBX.out.trans (hW.mono HBX.out.size))
      have HTX : Hid (∀ W, Below WX.heap.size WX W → W.cell? ⟨(w4.heap.size + 1), 0, none⟩ = some (.int .i64 (k : Int)) ∧ W.cell? ⟨(w4.heap.size + 1), 1, none⟩ = some (.int .i64 (jj : Int)) ∧ ∀ r : Nat, r < 12 → W.cell? ⟨(w4.heap.size + 1), 2 + r, none⟩ = some (.int .i64 (f.regs.getD r 0))) := fun W hW => HTR.out W (HBX.out.trans (hW.mono HBX.out.size))
      have BFX : Hid (Below w.heap.size w WX) := BF5.out.trans (HBX.out.mono BF5.out.size)
      obtain ⟨c0, c1, c2, c3, c4⟩ := HCX.out _ (Below.refl _ _)
      clear kp t0 t1 d2 i0 i1 i2 i3 i4 rowX BX B45
      have HS01 : Hid ((walkS P (0 + x) S).status = 0 ∧ (walkS P (0 + x + 1) S).status = 0 ∧ (walkS P (0 + x) S).frames = fs ++ [f]) := ⟨hs0, hs1, hsn⟩
      clear hs0 hs1 hsn
      by_cases hop : 12 < xo
      case pos =>
        have hop2 : decide (12 < xo) = true := by simpa using hop
        clear c1 c2 c3 c4
        go_wp2
        go_ret
        exact ⟨rfl, BFX.out⟩
      have hop2 : decide (12 < xo) = false := by simpa using hop
      obtain ⟨hfr, hme, hev, hmk⟩ : (walkS P (0 + x + 1) S).frames = fs ++ [putF f xd (mk xo (regD f xa) (regD f xb) xi)] ∧ (walkS P (0 + x + 1) S).mem = (walkS P (0 + x) S).mem ∧ (walkS P (0 + x + 1) S).events = (walkS P (0 + x) S).events ∧ mkE xo (regD f xb) = 0 := by
        have h := step_pure (P := P) HS01.out.2.2 (by rw [← walkS_succ P (0 + x) S HS01.out.1]; exact HS01.out.2.1) (by rw [HXE.out]; exact HIX.out.op1) (by rw [HXE.out]; dsimp only; omega)
        rw [← walkS_succ P (0 + x) S HS01.out.1, HXE.out] at h
        exact h
      have sX := HS3X.out WX (Below.refl _ _)
      obtain ⟨row3, row4, sx3, sx4⟩ := sX
      obtain ⟨gb, goff, gcap, g2, grng, g12, gc1, gc2⟩ := sx4.framesAt hfr
      have kx2 := keeps_below HBX.out _ _ (keeps_below ((Below.refl _ _).alloc (Nat.le_refl _) _) _ _ HK2.out)
      have ky2 : WX.cell? ⟨w4.heap.size, 2, none⟩ = some (.slice (some ⟨gb, goff, none⟩) (fs.length + 1) gcap) := by rw [cell_of_row _ _ _ _ _ _ row4]; exact g2
      have hfl : (Tryd.prog.info? 44).map (·.size) = some (frCells (putF f xd (mk xo (regD f xa) (regD f xb) xi))).length := by rw [frCells_length _ g12]; exact infoFr
      have hfs : (Tryd.prog.info? 44).map (·.size) = some (frCells (putF f xd (mk xo (regD f xa) (regD f xb) xi))).toArray.size := by rw [List.size_toArray]; exact hfl
      have hfo : (frCells (putF f xd (mk xo (regD f xa) (regD f xb) xi))).toArray.all (·.oneCell') = true := by rw [Array.all_eq_true_iff_forall_mem]; intro u hu; exact frCells_one _ u (by simpa using hu)
      have hfz : (zeroFr 0).toArray.size = (frCells (putF f xd (mk xo (regD f xa) (regD f xb) xi))).toArray.size := by rw [List.size_toArray, List.size_toArray, frCells_length _ g12]; rfl
      obtain ⟨ka, hka⟩ := Int.eq_ofNat_of_zero_le HIX.out.a0
      obtain ⟨kb, hkb⟩ := Int.eq_ofNat_of_zero_le HIX.out.b0
      obtain ⟨kd, hkd⟩ := Int.eq_ofNat_of_zero_le HIX.out.dst0
      have la : ka < 12 := by have := HIX.out.a1; omega
      have lb : kb < 12 := by have := HIX.out.b1; omega
      have ld : kd < 12 := by have := HIX.out.dst1; omega
      dsimp only at hka hkb hkd
      subst hka hkb hkd
      have hra : regD f (ka : Int) = f.regs.getD ka 0 := rfl
      have hrb : regD f (kb : Int) = f.regs.getD kb 0 := rfl
      rw [hra, hrb] at hfr hfl hfs hfo hfz grng g12
      rw [hrb] at hmk
      obtain ⟨vv, hvv⟩ : ∃ vv, vv = mk xo (f.regs.getD ka 0) (f.regs.getD kb 0) xi := ⟨_, rfl⟩
      have hMk : ∀ W, Calls Tryd.prog 26 #[.int .i64 xo, .int .i64 (f.regs.getD ka 0), .int .i64 (f.regs.getD kb 0), .int .i64 xi] W fun e w' => e = .returned (.tuple #[.int .i64 vv, .int .i64 0]) ∧ w' = W := fun W => by have h := make_any xo (f.regs.getD ka 0) (f.regs.getD kb 0) xi W; rw [hmk, ← hvv] at h; exact h
      rw [← hvv] at hfr hfl hfs hfo hfz grng g12
      have hm1 : m = fs.length + 1 := by have := HMJ.out; omega
      rw [← hm1] at kx2 ky2 gc1
      rw [← HMJ.out.2] at grng
      have hjm : (j : Int) < m := by have := HMJ.out; omega
      have hjn : j < m := by have := HMJ.out; omega
      have hm0 : ¬ m = 0 := by omega
      clear hm1 hvv hmk
      go_upto_region 17 with (first
        | (refine wpList_load_mid rfl _ _ rfl gb (goff + j * 14) rfl (frCells (putF f (kd : Int) vv)) _ grng Tryd.underlying44 rfl hfl ?_)
        | (refine wpList_store_row rfl _ _ _ rfl _ (frCells (putF f (kd : Int) vv)).toArray rfl rfl 44 (zeroFr 0).toArray (heap_alloc_last WX _) hfs hfz hfo ?_; rw [World.setRow_alloc_new]))
      have BY : Below WX.heap.size WX (WX.alloc (.cells (frCells (putF f (kd : Int) vv)).toArray 44)) := (Below.refl _ _).alloc (Nat.le_refl _) _
      have ry : (WX.alloc (.cells (frCells (putF f (kd : Int) vv)).toArray 44)).heap[WX.heap.size]? = some (.cells (frCells (putF f (kd : Int) vv)).toArray 44 (0, 0)) := heap_alloc_last WX _
      obtain ⟨tb0, tb1, tbr⟩ := HTX.out _ BY
      obtain ⟨y0, y1, y2, y3, y4⟩ := HCX.out _ BY
      have ya := tbr ka la
      have yb := tbr kb lb
      have laI : (ka : Int) < 12 := by omega
      have lbI : (kb : Int) < 12 := by omega
      have HTY : Hid (∀ W, Keeps (WX.alloc (.cells (frCells (putF f (kd : Int) vv)).toArray 44)) W → ∀ r : Nat, r < 12 → W.cell? ⟨(w4.heap.size + 1), 2 + r, none⟩ = some (.int .i64 (f.regs.getD r 0)) ∧ W.cell? ⟨WX.heap.size, 2 + r, none⟩ = some (.int .i64 ((f.regs.set kd vv).getD r 0))) := fun W hW r hr => ⟨hW _ _ (tbr r hr), hW _ _ (by rw [cell_of_row _ _ _ _ _ _ ry]; exact frCells_reg12 _ ((putF_len f _ _).trans F12.out) r hr)⟩
      have z0 : (WX.alloc (.cells (frCells (putF f (kd : Int) vv)).toArray 44)).cell? ⟨WX.heap.size, 0, none⟩ = some (.int .i64 (k : Int)) := by rw [cell_of_row _ _ _ _ _ _ ry, ← HFN.out.1]; rfl
      have z1 : (WX.alloc (.cells (frCells (putF f (kd : Int) vv)).toArray 44)).cell? ⟨WX.heap.size, 1, none⟩ = some (.int .i64 ((jj : Int) + 1)) := by rw [cell_of_row _ _ _ _ _ _ ry, ← HFN.out.2.1]; rfl
      have HSY : Hid (StVal (WX.alloc (.cells (frCells (putF f (kd : Int) vv)).toArray 44)) (.agg cs3) (walkS P (0 + x) S) ∧ StVal (WX.alloc (.cells (frCells (putF f (kd : Int) vv)).toArray 44)) (.agg cs4) (walkS P (0 + x + 1) S)) := ⟨sx3.keeps (keeps_below BY), sx4.keeps (keeps_below BY)⟩
      have HRY : Hid ((WX.alloc (.cells (frCells (putF f (kd : Int) vv)).toArray 44)).heap[w2.heap.size]? = some (.cells cs3 34 (0, 0)) ∧ (WX.alloc (.cells (frCells (putF f (kd : Int) vv)).toArray 44)).heap[w4.heap.size]? = some (.cells cs4 34 (0, 0))) := ⟨(BY.block _ (lt_of_block row3)).trans row3, (BY.block _ (lt_of_block row4)).trans row4⟩
      have HBY : Hid (Below w.heap.size w (WX.alloc (.cells (frCells (putF f (kd : Int) vv)).toArray 44))) := BFX.out.trans (BY.mono BFX.out.size)
      have HME : Hid ((walkS P (0 + x + 1) S).mem = (walkS P (0 + x) S).mem ∧ (walkS P (0 + x + 1) S).events = (walkS P (0 + x) S).events) := ⟨hme, hev⟩
      clear hme hev hfr sx3 sx4 row3 row4 kx2 ky2 g2 grng gc1 gc2 hfl hfs hfo hfz tbr BY ry c0 c1 c2 c3 c4 hjm hjn hm0
      go_quiet ((go_at_call 26; exact Calls.quiet_of_same (hMk _)))
      clear hMk ya yb
      go_wp2_with fail
      go_loopw [19] (fun i wr => ∃ q : Nat, q ≤ 12 ∧ i = .int .i64 q ∧ Below w.heap.size w wr ∧ Keeps (WX.alloc (.cells (frCells (putF f (kd : Int) vv)).toArray 44)) wr) (fun i _ => 12 - (intOf i).toNat)
      case atStart => exact ⟨0, by omega, rfl, below_drewN HBY.out _, fun _ _ h => h⟩
      case round =>
        obtain ⟨q, hq, rfl, hbr, hkp⟩ := hrel
        have HBR : Hid (Below w.heap.size w wr) := hbr
        have HKP : Hid (Keeps (WX.alloc (.cells (frCells (putF f (kd : Int) vv)).toArray 44)) wr) := hkp
        by_cases hlt : q < 12
        · obtain ⟨va, vb⟩ := HTY.out wr hkp q hlt
          have x1 := hkp _ _ y1
          have hqI : (q : Int) < 12 := by omega
          clear hbr hkp
          by_cases hqd : q = kd
          · subst hqd
            generalize f.regs.getD q 0 = za at va
            generalize (f.regs.set q vv).getD q 0 = zb at vb
            go_wp2
            go_quiet (fail)
            go_wp2
            go_roundw
            case rel => exact ⟨q + 1, by omega, by go_num, below_drewN HBR.out _, fun a v h => HKP.out a v h⟩
            case measure => simp [intOf]; omega
          · have hne : ((q : Int) != (kd : Int)) = true := by simp; omega
            have hsame : (f.regs.set kd vv).getD q 0 = f.regs.getD q 0 := by simp only [List.getD_eq_getElem?_getD]; rw [List.getElem?_set_ne (fun h => hqd h.symm)]
            rw [hsame] at vb
            generalize f.regs.getD q 0 = za at va vb
            clear hsame
            go_wp2
            go_quiet (fail)
            go_wp2
            go_roundw
            case rel => exact ⟨q + 1, by omega, by go_num, below_drewN HBR.out _, fun a v h => HKP.out a v h⟩
            case measure => simp [intOf]; omega
        · clear hbr
          obtain ⟨-, vd⟩ := HTY.out wr hkp kd ld
          have hset : (f.regs.set kd vv).getD kd 0 = vv := by simp [List.getD, F12.out, ld]
          rw [hset] at vd
          have x1 := hkp _ _ y1
          have ta0 := hkp _ _ tb0
          have ta1 := hkp _ _ tb1
          have za0 := hkp _ _ z0
          have za1 := hkp _ _ z1
          have ldI : (kd : Int) < 12 := by omega
          have hwj : IntKind.i64.wrap ((jj : Int) + 1) = (jj : Int) + 1 := wrap_fits _ (by omega) (by have := HFN.out; omega)
          have hm16 : (walkS P (0 + x) S).mem.length = 16 := by obtain ⟨_, _, _, _, h, _⟩ := HSY.out.1; exact h
          obtain ⟨m0, m1', m2, m3, m4, m5, m6, m7, m8, m9, m10, m11, m12, m13, m14, m15, hml⟩ := list16_keep hm16
          have p0 : wr.cell? ⟨w2.heap.size, 3, none⟩ = some (.int .i64 m0) := hkp _ _ (by rw [cell_of_row _ _ _ _ _ _ HRY.out.1, show 3 = 3 + 0 by omega, HSY.out.1.memAt 0 (by omega), hml]; rfl)
          have o0 : wr.cell? ⟨w4.heap.size, 3, none⟩ = some (.int .i64 m0) := hkp _ _ (by rw [cell_of_row _ _ _ _ _ _ HRY.out.2, show 3 = 3 + 0 by omega, HSY.out.2.memAt 0 (by omega), HME.out.1, hml]; rfl)
          have p1 : wr.cell? ⟨w2.heap.size, 4, none⟩ = some (.int .i64 m1') := hkp _ _ (by rw [cell_of_row _ _ _ _ _ _ HRY.out.1, show 4 = 3 + 1 by omega, HSY.out.1.memAt 1 (by omega), hml]; rfl)
          have o1 : wr.cell? ⟨w4.heap.size, 4, none⟩ = some (.int .i64 m1') := hkp _ _ (by rw [cell_of_row _ _ _ _ _ _ HRY.out.2, show 4 = 3 + 1 by omega, HSY.out.2.memAt 1 (by omega), HME.out.1, hml]; rfl)
          have p2 : wr.cell? ⟨w2.heap.size, 5, none⟩ = some (.int .i64 m2) := hkp _ _ (by rw [cell_of_row _ _ _ _ _ _ HRY.out.1, show 5 = 3 + 2 by omega, HSY.out.1.memAt 2 (by omega), hml]; rfl)
          have o2 : wr.cell? ⟨w4.heap.size, 5, none⟩ = some (.int .i64 m2) := hkp _ _ (by rw [cell_of_row _ _ _ _ _ _ HRY.out.2, show 5 = 3 + 2 by omega, HSY.out.2.memAt 2 (by omega), HME.out.1, hml]; rfl)
          have p3 : wr.cell? ⟨w2.heap.size, 6, none⟩ = some (.int .i64 m3) := hkp _ _ (by rw [cell_of_row _ _ _ _ _ _ HRY.out.1, show 6 = 3 + 3 by omega, HSY.out.1.memAt 3 (by omega), hml]; rfl)
          have o3 : wr.cell? ⟨w4.heap.size, 6, none⟩ = some (.int .i64 m3) := hkp _ _ (by rw [cell_of_row _ _ _ _ _ _ HRY.out.2, show 6 = 3 + 3 by omega, HSY.out.2.memAt 3 (by omega), HME.out.1, hml]; rfl)
          have p4 : wr.cell? ⟨w2.heap.size, 7, none⟩ = some (.int .i64 m4) := hkp _ _ (by rw [cell_of_row _ _ _ _ _ _ HRY.out.1, show 7 = 3 + 4 by omega, HSY.out.1.memAt 4 (by omega), hml]; rfl)
          have o4 : wr.cell? ⟨w4.heap.size, 7, none⟩ = some (.int .i64 m4) := hkp _ _ (by rw [cell_of_row _ _ _ _ _ _ HRY.out.2, show 7 = 3 + 4 by omega, HSY.out.2.memAt 4 (by omega), HME.out.1, hml]; rfl)
          have p5 : wr.cell? ⟨w2.heap.size, 8, none⟩ = some (.int .i64 m5) := hkp _ _ (by rw [cell_of_row _ _ _ _ _ _ HRY.out.1, show 8 = 3 + 5 by omega, HSY.out.1.memAt 5 (by omega), hml]; rfl)
          have o5 : wr.cell? ⟨w4.heap.size, 8, none⟩ = some (.int .i64 m5) := hkp _ _ (by rw [cell_of_row _ _ _ _ _ _ HRY.out.2, show 8 = 3 + 5 by omega, HSY.out.2.memAt 5 (by omega), HME.out.1, hml]; rfl)
          have p6 : wr.cell? ⟨w2.heap.size, 9, none⟩ = some (.int .i64 m6) := hkp _ _ (by rw [cell_of_row _ _ _ _ _ _ HRY.out.1, show 9 = 3 + 6 by omega, HSY.out.1.memAt 6 (by omega), hml]; rfl)
          have o6 : wr.cell? ⟨w4.heap.size, 9, none⟩ = some (.int .i64 m6) := hkp _ _ (by rw [cell_of_row _ _ _ _ _ _ HRY.out.2, show 9 = 3 + 6 by omega, HSY.out.2.memAt 6 (by omega), HME.out.1, hml]; rfl)
          have p7 : wr.cell? ⟨w2.heap.size, 10, none⟩ = some (.int .i64 m7) := hkp _ _ (by rw [cell_of_row _ _ _ _ _ _ HRY.out.1, show 10 = 3 + 7 by omega, HSY.out.1.memAt 7 (by omega), hml]; rfl)
          have o7 : wr.cell? ⟨w4.heap.size, 10, none⟩ = some (.int .i64 m7) := hkp _ _ (by rw [cell_of_row _ _ _ _ _ _ HRY.out.2, show 10 = 3 + 7 by omega, HSY.out.2.memAt 7 (by omega), HME.out.1, hml]; rfl)
          have p8 : wr.cell? ⟨w2.heap.size, 11, none⟩ = some (.int .i64 m8) := hkp _ _ (by rw [cell_of_row _ _ _ _ _ _ HRY.out.1, show 11 = 3 + 8 by omega, HSY.out.1.memAt 8 (by omega), hml]; rfl)
          have o8 : wr.cell? ⟨w4.heap.size, 11, none⟩ = some (.int .i64 m8) := hkp _ _ (by rw [cell_of_row _ _ _ _ _ _ HRY.out.2, show 11 = 3 + 8 by omega, HSY.out.2.memAt 8 (by omega), HME.out.1, hml]; rfl)
          have p9 : wr.cell? ⟨w2.heap.size, 12, none⟩ = some (.int .i64 m9) := hkp _ _ (by rw [cell_of_row _ _ _ _ _ _ HRY.out.1, show 12 = 3 + 9 by omega, HSY.out.1.memAt 9 (by omega), hml]; rfl)
          have o9 : wr.cell? ⟨w4.heap.size, 12, none⟩ = some (.int .i64 m9) := hkp _ _ (by rw [cell_of_row _ _ _ _ _ _ HRY.out.2, show 12 = 3 + 9 by omega, HSY.out.2.memAt 9 (by omega), HME.out.1, hml]; rfl)
          have p10 : wr.cell? ⟨w2.heap.size, 13, none⟩ = some (.int .i64 m10) := hkp _ _ (by rw [cell_of_row _ _ _ _ _ _ HRY.out.1, show 13 = 3 + 10 by omega, HSY.out.1.memAt 10 (by omega), hml]; rfl)
          have o10 : wr.cell? ⟨w4.heap.size, 13, none⟩ = some (.int .i64 m10) := hkp _ _ (by rw [cell_of_row _ _ _ _ _ _ HRY.out.2, show 13 = 3 + 10 by omega, HSY.out.2.memAt 10 (by omega), HME.out.1, hml]; rfl)
          have p11 : wr.cell? ⟨w2.heap.size, 14, none⟩ = some (.int .i64 m11) := hkp _ _ (by rw [cell_of_row _ _ _ _ _ _ HRY.out.1, show 14 = 3 + 11 by omega, HSY.out.1.memAt 11 (by omega), hml]; rfl)
          have o11 : wr.cell? ⟨w4.heap.size, 14, none⟩ = some (.int .i64 m11) := hkp _ _ (by rw [cell_of_row _ _ _ _ _ _ HRY.out.2, show 14 = 3 + 11 by omega, HSY.out.2.memAt 11 (by omega), HME.out.1, hml]; rfl)
          have p12 : wr.cell? ⟨w2.heap.size, 15, none⟩ = some (.int .i64 m12) := hkp _ _ (by rw [cell_of_row _ _ _ _ _ _ HRY.out.1, show 15 = 3 + 12 by omega, HSY.out.1.memAt 12 (by omega), hml]; rfl)
          have o12 : wr.cell? ⟨w4.heap.size, 15, none⟩ = some (.int .i64 m12) := hkp _ _ (by rw [cell_of_row _ _ _ _ _ _ HRY.out.2, show 15 = 3 + 12 by omega, HSY.out.2.memAt 12 (by omega), HME.out.1, hml]; rfl)
          have p13 : wr.cell? ⟨w2.heap.size, 16, none⟩ = some (.int .i64 m13) := hkp _ _ (by rw [cell_of_row _ _ _ _ _ _ HRY.out.1, show 16 = 3 + 13 by omega, HSY.out.1.memAt 13 (by omega), hml]; rfl)
          have o13 : wr.cell? ⟨w4.heap.size, 16, none⟩ = some (.int .i64 m13) := hkp _ _ (by rw [cell_of_row _ _ _ _ _ _ HRY.out.2, show 16 = 3 + 13 by omega, HSY.out.2.memAt 13 (by omega), HME.out.1, hml]; rfl)
          have p14 : wr.cell? ⟨w2.heap.size, 17, none⟩ = some (.int .i64 m14) := hkp _ _ (by rw [cell_of_row _ _ _ _ _ _ HRY.out.1, show 17 = 3 + 14 by omega, HSY.out.1.memAt 14 (by omega), hml]; rfl)
          have o14 : wr.cell? ⟨w4.heap.size, 17, none⟩ = some (.int .i64 m14) := hkp _ _ (by rw [cell_of_row _ _ _ _ _ _ HRY.out.2, show 17 = 3 + 14 by omega, HSY.out.2.memAt 14 (by omega), HME.out.1, hml]; rfl)
          have p15 : wr.cell? ⟨w2.heap.size, 18, none⟩ = some (.int .i64 m15) := hkp _ _ (by rw [cell_of_row _ _ _ _ _ _ HRY.out.1, show 18 = 3 + 15 by omega, HSY.out.1.memAt 15 (by omega), hml]; rfl)
          have o15 : wr.cell? ⟨w4.heap.size, 18, none⟩ = some (.int .i64 m15) := hkp _ _ (by rw [cell_of_row _ _ _ _ _ _ HRY.out.2, show 18 = 3 + 15 by omega, HSY.out.2.memAt 15 (by omega), HME.out.1, hml]; rfl)
          have hq16 : ∀ w, (Op.equalIn 10000 32 (.agg #[.int .i64 m0, .int .i64 m1', .int .i64 m2, .int .i64 m3, .int .i64 m4, .int .i64 m5, .int .i64 m6, .int .i64 m7, .int .i64 m8, .int .i64 m9, .int .i64 m10, .int .i64 m11, .int .i64 m12, .int .i64 m13, .int .i64 m14, .int .i64 m15]) (.agg #[.int .i64 m0, .int .i64 m1', .int .i64 m2, .int .i64 m3, .int .i64 m4, .int .i64 m5, .int .i64 m6, .int .i64 m7, .int .i64 m8, .int .i64 m9, .int .i64 m10, .int .i64 m11, .int .i64 m12, .int .i64 m13, .int .i64 m14, .int .i64 m15])).run Tryd.prog w = .ok true w := fun w => equal_ints_keep 32 [m0, m1', m2, m3, m4, m5, m6, m7, m8, m9, m10, m11, m12, m13, m14, m15] 9998 w Tryd.underlying32
          obtain ⟨fv3, ev3, av3, ea3, -, -, he3, -⟩ := HSY.out.1
          obtain ⟨fv4, ev4, av4, ea4, -, -, he4, -⟩ := HSY.out.2
          rw [HME.out.2] at he4
          have ev3c : wr.cell? ⟨w2.heap.size, 20, none⟩ = some ev3 := hkp _ _ (by rw [cell_of_row _ _ _ _ _ _ HRY.out.1, Value.agg.inj ea3]; exact (stCells_get _ _ _ _ hm16).2.1)
          have ev4c : wr.cell? ⟨w4.heap.size, 20, none⟩ = some ev4 := hkp _ _ (by rw [cell_of_row _ _ _ _ _ _ HRY.out.2, Value.agg.inj ea4]; exact (stCells_get _ _ _ _ (by rw [HME.out.1]; exact hm16)).2.1)
          have hSI := sameInts_keep _ ev3 ev4 wr (he3.keeps hkp) (he4.keeps hkp)
          obtain ⟨eo3, ec3, rfl⟩ := he3.shape
          obtain ⟨eo4, ec4, rfl⟩ := he4.shape
          clear hkp ea3 ea4 he3 he4 hml hm16 hset y0 y1 y2 y3 y4 tb0 tb1 z0 z1
          generalize (walkS P (0 + x) S).events.length = el at *
          go_wp2_with (go_at_call 27; refine hSI.mono ?_; rintro e w9 ⟨rfl, hb9⟩)
          go_ret
          exact ⟨rfl, HBR.out.trans (hb9.mono HBR.out.size)⟩
end Go.Proofs.YtcjclencbjllhaaDoor
