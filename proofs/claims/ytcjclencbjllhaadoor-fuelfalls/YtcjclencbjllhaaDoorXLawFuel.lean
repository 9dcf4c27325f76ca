/- The walk of tierlinekeep.FuelFalls: at all raw numbers it says true, and nothing that was there has turned. -/
import Derived.Test.YtcjclencbjllhaaDoorXKRun
import Derived.Test.YtcjclencbjllhaaDoorXMoreMath
namespace Go.Proofs.YtcjclencbjllhaaDoor
open Go Go.RowKit

set_option maxHeartbeats 8000000 in
set_option maxRecDepth 100000 in
theorem fuelFalls_walk (l : List Fn) (v : Value) (a0 a1 fuel : Int) (nv : Value) (ln : List Int) (a : Int) (w : World) (ht : TabOk w) (hc : CallOk w) (hv : ProgVal w v l) (hwf : ∀ f ∈ l, f.wf) (hn : IntsVal w nv ln) (hfu : I64 fuel) (ha : I64 a) :
    Calls Tryd.prog 5 #[v, inVal a0 a1 nv fuel, .int .i64 a] w fun e w' => e = .returned (.bool true) ∧ Below w.heap.size w w' := by
  obtain ⟨x, hx, ex⟩ : ∃ x : Nat, x < 300 ∧ pickI a 300 = x := by have b := pickI_bounds a 300 (by omega); obtain ⟨k, hk⟩ := Int.eq_ofNat_of_zero_le b.1; exact ⟨k, by omega, hk⟩
  have hPX : Hid (∀ W, Calls Tryd.prog 22 #[.int .i64 a, .int .i64 300] W fun e w' => e = .returned (.int .i64 (x : Int)) ∧ w' = W) := fun W => by have := picked_any a 300 W ha (by omega) (by omega); rw [ex] at this; exact this
  clear ex ha
  obtain ⟨nao, nc, rfl⟩ := hn.shape
  obtain ⟨lao, ll, lc, rfl⟩ := hv.shape
  have HTC : Hid (∀ W, Below w.heap.size w W → TabOk W ∧ CallOk W) := fun W hb => ⟨ht.below hb, hc.below hb⟩
  have HB0 : Hid (Below w.heap.size w (w.alloc (.cells #[.int .i64 a0, .int .i64 a1, .slice nao ln.length nc, .int .i64 fuel] 26))) := (Below.refl _ _).alloc (Nat.le_refl _) _
  have HPR : Hid (Calls Tryd.prog 15 #[.slice lao ll lc] (w.alloc (.cells #[.int .i64 a0, .int .i64 a1, .slice nao ln.length nc, .int .i64 fuel] 26)) fun e w' => ∃ ao n cap P, e = .returned (.agg #[.slice ao n cap]) ∧ ProofAns P 0 ∧ ProgVal w' (.slice ao n cap) P ∧ Below (w.alloc (.cells #[.int .i64 a0, .int .i64 a1, .slice nao ln.length nc, .int .i64 fuel] 26)).heap.size (w.alloc (.cells #[.int .i64 a0, .int .i64 a1, .slice nao ln.length nc, .int .i64 fuel] 26)) w') := kprog l _ _ (HTC.out _ HB0.out).1 (HTC.out _ HB0.out).2 (hv.keeps (keeps_below HB0.out)) hwf
  have HNV : Hid (∀ W, Below w.heap.size w W → IntsVal W (.slice nao ln.length nc) ln) := fun W hb => hn.keeps (keeps_below hb)
  have HFU : Hid (I64 fuel) := hfu
  have infoIn : (Tryd.prog.info? 26).map (·.size) = some 4 := by kernel_rfl
  unfold inVal
  clear ht hc hv hwf hn hfu
  go_enter Tryd.func5, Tryd.ntmps5
  go_upto_region 2 with (go_at_call 15; refine HPR.out.mono ?_; rintro e w1 ⟨ao, n0, cap0, P, rfl, hR, hpv, hb1⟩)
  have HR : Hid (ProofAns P 0) := hR
  have B01 : Hid (Below w.heap.size w (w1.alloc (.cells #[.slice ao n0 cap0] 29))) := (HB0.out.trans (hb1.mono (by simp))).alloc (by have := hb1.size; simp at this; omega) _
  have I1 : (w1.alloc (.cells #[.slice ao n0 cap0] 29)).heap[w.heap.size]? = some (.cells #[.int .i64 a0, .int .i64 a1, .slice nao ln.length nc, .int .i64 fuel] 26 (0, 0)) := (heap_alloc_old _ _ (by have := hb1.size; simp at this; omega)).trans ((hb1.block _ (by simp)).trans (heap_alloc_last w _))
  have HP : Hid (∀ W, Below (w1.alloc (.cells #[.slice ao n0 cap0] 29)).heap.size (w1.alloc (.cells #[.slice ao n0 cap0] 29)) W → W.cell? ⟨w1.heap.size, 0, none⟩ = some (.slice ao n0 cap0) ∧ ProgVal W (.slice ao n0 cap0) P ∧ TabOk W ∧ CallOk W) := fun W hb => ⟨keeps_below hb _ _ (by rw [cell_of_row _ _ _ _ _ _ (heap_alloc_last w1 _)]; rfl), (hpv.keeps (keeps_below ((Below.refl _ _).alloc (Nat.le_refl _) _))).keeps (keeps_below hb), (HTC.out _ (B01.out.trans (hb.mono B01.out.size))).1, (HTC.out _ (B01.out.trans (hb.mono B01.out.size))).2⟩
  have HKB : Hid (Calls Tryd.prog 16 #[.agg #[.slice ao n0 cap0], .agg #[.int .i64 a0, .int .i64 a1, .slice nao ln.length nc, .int .i64 fuel]] (w1.alloc (.cells #[.slice ao n0 cap0] 29)) _) := kbegin P (.slice ao n0 cap0) a0 a1 fuel (.slice nao ln.length nc) ln (w1.alloc (.cells #[.slice ao n0 cap0] 29)) (HP.out _ (Below.refl _ _)).2.2.1 (HP.out _ (Below.refl _ _)).2.2.2 HR.out (HP.out _ (Below.refl _ _)).2.1 (HNV.out _ B01.out) HFU.out
  clear hR hpv hb1
  go_upto_region 3 with (first
    | (refine wpList_load_row rfl _ _ rfl _ rfl _ _ _ _ I1 Tryd.underlying26 rfl infoIn ?_)
    | (go_at_call 16; refine HKB.out.mono ?_; rintro e w2 ⟨cs2, S, rfl, hk, hs0, c1, c2, c3, hst, hb2⟩)
    | (refine wpList_store_row rfl _ _ _ rfl _ _ rfl rfl _ _ (heap_alloc_last w2 _) c1 c2 c3 ?_; rw [World.setRow_alloc_new]))
  have HK : Hid (KRunAt P S) := hk
  have HS0 : Hid (S.fuel ≤ 299 ∧ S.answers.length ≤ 10 ∧ S.status = 0) := hs0
  have B12 : Hid (Below (w1.alloc (.cells #[.slice ao n0 cap0] 29)).heap.size (w1.alloc (.cells #[.slice ao n0 cap0] 29)) (w2.alloc (.cells cs2 34))) := hb2.alloc hb2.size _
  have X2 : Hid (∀ W, Below (w2.alloc (.cells cs2 34)).heap.size (w2.alloc (.cells cs2 34)) W → W.heap[w2.heap.size]? = some (.cells cs2 34 (0, 0)) ∧ StVal W (.agg cs2) (walkS P 0 S)) := fun W hb => ⟨(hb.block _ (by simp)).trans (heap_alloc_last w2 _), (hst.val.keeps (keeps_below ((Below.refl _ _).alloc (Nat.le_refl _) _))).keeps (keeps_below hb)⟩
  have q2 : (Tryd.prog.info? 34).map (·.size) = some cs2.size := c1
  have HZ12 : Hid ((w1.alloc (.cells #[.slice ao n0 cap0] 29)).heap.size ≤ w2.heap.size) := hb2.size
  have hz2 : zeroStCells.size = cs2.size := c2
  clear hk hs0 hst hb2 I1 HKB c1 c2 c3 infoIn
  go_upto_region 3 with fail
  have kp := (HP.out _ B12.out).1
  have r2 := (X2.out _ (Below.refl _ _)).1
  have HWX : Hid (∀ W, Below (w2.alloc (.cells cs2 34)).heap.size (w2.alloc (.cells cs2 34)) W → Calls Tryd.prog 25 #[.agg #[.slice ao n0 cap0], .agg cs2, .int .i64 ((x : Nat) : Int)] W _) := fun W hb => kwalk HK.out 0 x (by omega) (by omega) _ _ W (HP.out _ (B12.out.trans (hb.mono B12.out.size))).2.2.1 (HP.out _ (B12.out.trans (hb.mono B12.out.size))).2.2.2 (HP.out _ (B12.out.trans (hb.mono B12.out.size))).2.1 (X2.out _ hb).2
  refine wp_region_held_drew (S := fun W => W.cell? ⟨w1.heap.size, 0, none⟩ = some (.slice ao n0 cap0)) (by kernel_rfl) kp (fun hHeld => ?_)
  show wpAnyH _ _ _ _ _ 10 _ _ _
  refine wpAnyH_take (i := 0) (v := ?_) rfl (by kernel_rfl) (by kernel_rfl) (by kernel_rfl) (fun _ _ _ h => h) (Or.inl ⟨by rfl, ?_⟩) (by assumption) ?_
  rotate_left
  · (intro W hSW; go_simp; try (with_reducible rfl))
  (try simp only [Act.put, List.setIfInBounds_toArray])
  refine wpAnyH_take (i := 2) (v := ?_) rfl (by kernel_rfl) (by kernel_rfl) (by kernel_rfl) (fun _ _ _ h => h) (Or.inl ⟨by rfl, ?_⟩) (by assumption) ?_
  rotate_left
  · (intro W hSW; go_simp; try (with_reducible rfl))
  (try simp only [Act.put])
  refine wpAnyH_ready (rs := [1, 3]) (by kernel_rfl) (by simp) ?_
  refine AllReadyH.cons rfl (fun K hK => ?_) (AllReadyH.cons rfl (fun K hK => ?_) AllReadyH.nil)
  · -- the state is loaded first
    refine wp_load_row 34 _ rfl w2.heap.size rfl _ _ _ _ r2 Tryd.underlying34 rfl q2 ?_
    refine hK.out _ _ kp (fun _ => ?_)
    clear hK K
    (try simp only [Act.put])
    refine wpAnyH_ready (rs := [3]) (by kernel_rfl) (by simp) ?_
    refine AllReadyH.cons rfl (fun K hK => ?_) AllReadyH.nil
    go_simp
    go_at_call 22
    refine (hPX.out _).mono ?_
    rintro e wp ⟨rfl, hwp⟩
    replace hwp := hwp.symm
    subst hwp
    dsimp only
    refine hK.out _ _ kp (fun _ => ?_)
    clear hK K
    (try simp only [Act.put, List.setIfInBounds_toArray, List.set_cons_zero, List.set_cons_succ])
    refine wpAnyH_ready (rs := [4]) (by kernel_rfl) (by simp) ?_
    refine AllReadyH.cons rfl (fun K hK => ?_) AllReadyH.nil
    go_simp
    go_at_call 25
    refine (HWX.out _ ((Below.refl _ _).drew)).mono ?_
    rintro e w3 ⟨cs3, rfl, c1, c2, c3, hst, hb⟩
    have hb3 : Below (w2.alloc (.cells cs2 34)).heap.size (w2.alloc (.cells cs2 34)) w3 := (Below.refl _ _).drew.trans (hb.mono (Nat.le_refl _))
    have kp3 := keeps_below hb3 _ _ kp
    have r3 : w3.heap[w2.heap.size]? = some (.cells cs2 34 (0, 0)) := (hb3.block _ (by simp)).trans r2
    dsimp only
    refine hK.out _ _ kp3 (fun _ => ?_)
    clear hK K
    (try simp only [Act.put, List.setIfInBounds_toArray, List.set_cons_zero, List.set_cons_succ])
    refine wpAnyH_take (i := 5) (v := ?_) rfl (by kernel_rfl) (by kernel_rfl) (by kernel_rfl) (fun _ _ _ h => h) (Or.inl ⟨by rfl, ?_⟩) kp3 ?_
    rotate_left
    · (intro W hSW; go_simp; try (with_reducible rfl))
    (try simp only [Act.put, List.setIfInBounds_toArray])
    refine wpAnyH_take (i := 6) (v := ?_) rfl (by kernel_rfl) (by kernel_rfl) (by kernel_rfl) (fun _ _ _ h => h) (Or.inl ⟨by rfl, ?_⟩) kp3 ?_
    rotate_left
    · (intro W hSW; go_simp; try (with_reducible rfl))
    (try simp only [Act.put])
    refine wpAnyH_take (i := 7) (v := ?_) rfl (by kernel_rfl) (by kernel_rfl) (by kernel_rfl) (fun _ _ _ h => h) (Or.inl ⟨by rfl, ?_⟩) kp3 ?_
    rotate_left
    · (intro W hSW; go_simp; try (with_reducible rfl))
    (try simp only [Act.put])
    refine wpAnyH_ready (rs := [8]) (by kernel_rfl) (by simp) ?_
    refine AllReadyH.cons rfl (fun K hK => ?_) AllReadyH.nil
    refine wp_store_row 34 _ _ rfl w2.heap.size cs3 rfl rfl 34 cs2 r3 c1 (hz2.symm.trans c2) c3 ?_
    have BN : Below (w1.alloc (.cells #[.slice ao n0 cap0] 29)).heap.size (w1.alloc (.cells #[.slice ao n0 cap0] 29)) (World.setRow w3 w2.heap.size cs3) := below_setRow (B12.out.trans (hb3.mono B12.out.size)) (by have := HZ12.out; simpa using this) _
    have XN : Hid (∀ W, Below (World.setRow w3 w2.heap.size cs3).heap.size (World.setRow w3 w2.heap.size cs3) W → W.heap[w2.heap.size]? = some (.cells cs3 34 (0, 0)) ∧ StVal W (.agg cs3) (walkS P (0 + x) S)) := fun W hW => ⟨(hW.block _ (by have := hb3.size; simp [World.setRow] at this ⊢; omega)).trans (setRow_heap _ _ _ _ _ _ r3), ((hst.mono (show w2.heap.size + 1 ≤ _ by simp)).setRow (by omega) _).val.keeps (keeps_below hW)⟩
    have kpN := (HP.out _ BN).1
    refine hK.out _ _ kpN (fun _ => ?_)
    clear hK K
    (try simp only [Act.put])
    generalize World.setRow w3 w2.heap.size cs3 = WW at BN XN kpN ⊢
    refine wpAnyH_ready (rs := [9]) (by kernel_rfl) (by simp) ?_
    refine AllReadyH.cons rfl (fun K hK => ?_) AllReadyH.nil
    go_simp
    refine hK.out _ _ kpN (fun _ => ?_)
    clear hK K
    (try simp only [Act.put, List.setIfInBounds_toArray, List.set_cons_zero, List.set_cons_succ])
    refine wpAnyH_done (by kernel_rfl) ?_ _
    have q2n : (Tryd.prog.info? 34).map (·.size) = some cs3.size := c1
    have B1N : Hid (Below (w1.alloc (.cells #[.slice ao n0 cap0] 29)).heap.size (w1.alloc (.cells #[.slice ao n0 cap0] 29)) WW) := BN
    clear B12 X2 HWX kp r2 q2 hz2 kp3 r3 hst hb hb3 c1 c2 c3 kpN BN hHeld
    have B12 : Hid (Below (w1.alloc (.cells #[.slice ao n0 cap0] 29)).heap.size (w1.alloc (.cells #[.slice ao n0 cap0] 29)) WW) := B1N.out
    have X2 : Hid (∀ W, Below WW.heap.size WW W → W.heap[w2.heap.size]? = some (.cells cs3 34 (0, 0)) ∧ StVal W (.agg cs3) (walkS P (0 + x) S)) := XN.out
    have q2 := q2n
    clear B1N XN q2n
    have kp := (HP.out _ B12.out).1
    have r2 := (X2.out _ (Below.refl _ _)).1
    have HC : Hid (Calls Tryd.prog 20 #[.agg #[.slice ao n0 cap0], .agg cs3] WW _) := knext HK.out (0 + x) (by omega) _ _ WW (HP.out _ B12.out).2.2.1 (HP.out _ B12.out).2.2.2 (HP.out _ B12.out).2.1 (X2.out _ (Below.refl _ _)).2
    go_upto_region 5 with (first
      | (refine wpList_load_row rfl _ _ rfl _ rfl _ _ _ _ r2 Tryd.underlying34 rfl q2 ?_)
      | (go_at_call 20; refine HC.out.mono ?_; rintro e w4 ⟨cs4, rfl, c1, c2, c3, hst, hb⟩)
      | (refine wpList_store_row rfl _ _ _ rfl _ _ rfl rfl _ _ (heap_alloc_last w4 _) c1 c2 c3 ?_; rw [World.setRow_alloc_new]))
    have B24 : Below WW.heap.size WW (w4.alloc (.cells cs4 34)) := hb.alloc hb.size _
    have r4 : (w4.alloc (.cells cs4 34)).heap[w4.heap.size]? = some (.cells cs4 34 (0, 0)) := heap_alloc_last w4 _
    obtain ⟨r2n, s2⟩ := X2.out _ B24
    have s4 : StVal (w4.alloc (.cells cs4 34)) (.agg cs4) (walkS P (0 + x + 1) S) := hst.val.keeps (keeps_below ((Below.refl _ _).alloc (Nat.le_refl _) _))
    obtain ⟨g20, -, g219, -⟩ := s2.at
    obtain ⟨g40, -, g419, -⟩ := s4.at
    have k20 : (w4.alloc (.cells cs4 34)).cell? ⟨w2.heap.size, 0, none⟩ = some (.int .i64 (walkS P (0 + x) S).status) := by rw [cell_of_row _ _ _ _ _ _ r2n]; exact g20
    have k219 : (w4.alloc (.cells cs4 34)).cell? ⟨w2.heap.size, 19, none⟩ = some (.int .i64 (walkS P (0 + x) S).fuel) := by rw [cell_of_row _ _ _ _ _ _ r2n]; exact g219
    have k40 : (w4.alloc (.cells cs4 34)).cell? ⟨w4.heap.size, 0, none⟩ = some (.int .i64 (walkS P (0 + x + 1) S).status) := by rw [cell_of_row _ _ _ _ _ _ r4]; exact g40
    have k419 : (w4.alloc (.cells cs4 34)).cell? ⟨w4.heap.size, 19, none⟩ = some (.int .i64 (walkS P (0 + x + 1) S).fuel) := by rw [cell_of_row _ _ _ _ _ _ r4]; exact g419
    have BF : Hid (Below w.heap.size w (w4.alloc (.cells cs4 34))) := B01.out.trans ((B12.out.trans (B24.mono B12.out.size)).mono B01.out.size)
    obtain ⟨hv1, -⟩ := krun_walk HK.out (0 + x)
    have hfu1 := ((mayB_iff _).1 hv1.may).2.2
    by_cases hs : (walkS P (0 + x) S).status = 0
    · rw [walkS_succ P (0 + x) S hs] at g40 g419
      have hcs := stepS_cases2 P (walkS P (0 + x) S) (run_frames hv1 hs)
      rw [hs] at k20
      generalize (walkS P (0 + x) S).fuel = fu at k219 hcs hfu1
      have hw1 : IntKind.i64.wrap (fu - 1) = fu - 1 ∨ fu = 0 := by rcases Int.lt_or_le 0 fu with h | h; exact Or.inl (wrap_fits _ (by omega) (by omega)); exact Or.inr (by omega)
      clear g20 g219 s2 s4 r2n r2 r4 kp HC hst hb c1 c2 c3 hfu1 hs k40 k419 hv1 B24
      rcases hcs with ⟨n0f, e1, e2 | e2 | e2⟩ | ⟨n0f, e1, e2⟩ | ⟨n0f, e1, e2 | e2⟩
      · rw [e1] at g419; rw [e2] at g40
        have hw2 : IntKind.i64.wrap (fu - 1) = fu - 1 := hw1.resolve_right n0f
        clear hw1 e1 e2
        go_wp2
        go_ret
        exact ⟨rfl, BF.out⟩
      · rw [e1] at g419; rw [e2] at g40
        have hw2 : IntKind.i64.wrap (fu - 1) = fu - 1 := hw1.resolve_right n0f
        clear hw1 e1 e2
        go_wp2
        go_ret
        exact ⟨rfl, BF.out⟩
      · rw [e1] at g419; rw [e2] at g40
        have hw2 : IntKind.i64.wrap (fu - 1) = fu - 1 := hw1.resolve_right n0f
        clear hw1 e1 e2
        go_wp2
        go_ret
        exact ⟨rfl, BF.out⟩
      · rw [e1] at g419; rw [e2] at g40
        subst n0f
        clear hw1 e1 e2
        go_wp2
        go_ret
        exact ⟨rfl, BF.out⟩
      · rw [e1] at g419; rw [e2] at g40
        clear hw1 e1 e2
        go_wp2
        go_ret
        exact ⟨rfl, BF.out⟩
      · rw [e1] at g419; rw [e2] at g40
        clear hw1 e1 e2
        go_wp2
        go_ret
        exact ⟨rfl, BF.out⟩
    · have e := walkS_ended P (0 + x) (0 + x + 1) S (by omega) hs
      rw [e] at s4
      have HSS : Hid (Calls Tryd.prog 24 #[.agg cs3, .agg cs4] (w4.alloc (.cells cs4 34)) _) := sameState_keep (walkS P (0 + x) S) _ _ _ s2 s4
      have q4 : (Tryd.prog.info? 34).map (·.size) = some cs4.size := c1
      clear g20 g219 g40 g419 s2 s4 r2 kp HC hst hb c1 c2 c3 k40 k219 k419 hfu1 hv1 e B24
      generalize (walkS P (0 + x) S).status = st at k20 hs
      go_wp2_with (first
        | (refine wpList_load_row rfl _ _ rfl w2.heap.size rfl _ _ _ _ r2n Tryd.underlying34 rfl q2 ?_)
        | (refine wpList_load_row rfl _ _ rfl w4.heap.size rfl _ _ _ _ r4 Tryd.underlying34 rfl q4 ?_)
        | (go_at_call 24; refine HSS.out.mono ?_; rintro e w6 ⟨rfl, hb6⟩))
      go_ret
      exact ⟨rfl, BF.out.trans (hb6.mono BF.out.size)⟩
  · -- picked first
    go_simp
    go_at_call 22
    refine (hPX.out _).mono ?_
    rintro e wp ⟨rfl, hwp⟩
    replace hwp := hwp.symm
    subst hwp
    dsimp only
    refine hK.out _ _ kp (fun _ => ?_)
    clear hK K
    (try simp only [Act.put, List.setIfInBounds_toArray, List.set_cons_zero, List.set_cons_succ])
    refine wpAnyH_ready (rs := [1]) (by kernel_rfl) (by simp) ?_
    refine AllReadyH.cons rfl (fun K hK => ?_) AllReadyH.nil
    refine wp_load_row 34 _ rfl w2.heap.size rfl _ _ _ _ r2 Tryd.underlying34 rfl q2 ?_
    refine hK.out _ _ kp (fun _ => ?_)
    clear hK K
    (try simp only [Act.put, List.setIfInBounds_toArray])
    refine wpAnyH_ready (rs := [4]) (by kernel_rfl) (by simp) ?_
    refine AllReadyH.cons rfl (fun K hK => ?_) AllReadyH.nil
    go_simp
    go_at_call 25
    refine (HWX.out _ ((Below.refl _ _).drew)).mono ?_
    rintro e w3 ⟨cs3, rfl, c1, c2, c3, hst, hb⟩
    have hb3 : Below (w2.alloc (.cells cs2 34)).heap.size (w2.alloc (.cells cs2 34)) w3 := (Below.refl _ _).drew.trans (hb.mono (Nat.le_refl _))
    have kp3 := keeps_below hb3 _ _ kp
    have r3 : w3.heap[w2.heap.size]? = some (.cells cs2 34 (0, 0)) := (hb3.block _ (by simp)).trans r2
    dsimp only
    refine hK.out _ _ kp3 (fun _ => ?_)
    clear hK K
    (try simp only [Act.put, List.setIfInBounds_toArray, List.set_cons_zero, List.set_cons_succ])
    refine wpAnyH_take (i := 5) (v := ?_) rfl (by kernel_rfl) (by kernel_rfl) (by kernel_rfl) (fun _ _ _ h => h) (Or.inl ⟨by rfl, ?_⟩) kp3 ?_
    rotate_left
    · (intro W hSW; go_simp; try (with_reducible rfl))
    (try simp only [Act.put, List.setIfInBounds_toArray])
    refine wpAnyH_take (i := 6) (v := ?_) rfl (by kernel_rfl) (by kernel_rfl) (by kernel_rfl) (fun _ _ _ h => h) (Or.inl ⟨by rfl, ?_⟩) kp3 ?_
    rotate_left
    · (intro W hSW; go_simp; try (with_reducible rfl))
    (try simp only [Act.put])
    refine wpAnyH_take (i := 7) (v := ?_) rfl (by kernel_rfl) (by kernel_rfl) (by kernel_rfl) (fun _ _ _ h => h) (Or.inl ⟨by rfl, ?_⟩) kp3 ?_
    rotate_left
    · (intro W hSW; go_simp; try (with_reducible rfl))
    (try simp only [Act.put])
    refine wpAnyH_ready (rs := [8]) (by kernel_rfl) (by simp) ?_
    refine AllReadyH.cons rfl (fun K hK => ?_) AllReadyH.nil
    refine wp_store_row 34 _ _ rfl w2.heap.size cs3 rfl rfl 34 cs2 r3 c1 (hz2.symm.trans c2) c3 ?_
    have BN : Below (w1.alloc (.cells #[.slice ao n0 cap0] 29)).heap.size (w1.alloc (.cells #[.slice ao n0 cap0] 29)) (World.setRow w3 w2.heap.size cs3) := below_setRow (B12.out.trans (hb3.mono B12.out.size)) (by have := HZ12.out; simpa using this) _
    have XN : Hid (∀ W, Below (World.setRow w3 w2.heap.size cs3).heap.size (World.setRow w3 w2.heap.size cs3) W → W.heap[w2.heap.size]? = some (.cells cs3 34 (0, 0)) ∧ StVal W (.agg cs3) (walkS P (0 + x) S)) := fun W hW => ⟨(hW.block _ (by have := hb3.size; simp [World.setRow] at this ⊢; omega)).trans (setRow_heap _ _ _ _ _ _ r3), ((hst.mono (show w2.heap.size + 1 ≤ _ by simp)).setRow (by omega) _).val.keeps (keeps_below hW)⟩
    have kpN := (HP.out _ BN).1
    refine hK.out _ _ kpN (fun _ => ?_)
    clear hK K
    (try simp only [Act.put])
    generalize World.setRow w3 w2.heap.size cs3 = WW at BN XN kpN ⊢
    refine wpAnyH_ready (rs := [9]) (by kernel_rfl) (by simp) ?_
    refine AllReadyH.cons rfl (fun K hK => ?_) AllReadyH.nil
    go_simp
    refine hK.out _ _ kpN (fun _ => ?_)
    clear hK K
    (try simp only [Act.put, List.setIfInBounds_toArray, List.set_cons_zero, List.set_cons_succ])
    refine wpAnyH_done (by kernel_rfl) ?_ _
    have q2n : (Tryd.prog.info? 34).map (·.size) = some cs3.size := c1
    have B1N : Hid (Below (w1.alloc (.cells #[.slice ao n0 cap0] 29)).heap.size (w1.alloc (.cells #[.slice ao n0 cap0] 29)) WW) := BN
    clear B12 X2 HWX kp r2 q2 hz2 kp3 r3 hst hb hb3 c1 c2 c3 kpN BN hHeld
    have B12 : Hid (Below (w1.alloc (.cells #[.slice ao n0 cap0] 29)).heap.size (w1.alloc (.cells #[.slice ao n0 cap0] 29)) WW) := B1N.out
    have X2 : Hid (∀ W, Below WW.heap.size WW W → W.heap[w2.heap.size]? = some (.cells cs3 34 (0, 0)) ∧ StVal W (.agg cs3) (walkS P (0 + x) S)) := XN.out
    have q2 := q2n
    clear B1N XN q2n
    have kp := (HP.out _ B12.out).1
    have r2 := (X2.out _ (Below.refl _ _)).1
    have HC : Hid (Calls Tryd.prog 20 #[.agg #[.slice ao n0 cap0], .agg cs3] WW _) := knext HK.out (0 + x) (by omega) _ _ WW (HP.out _ B12.out).2.2.1 (HP.out _ B12.out).2.2.2 (HP.out _ B12.out).2.1 (X2.out _ (Below.refl _ _)).2
    go_upto_region 5 with (first
      | (refine wpList_load_row rfl _ _ rfl _ rfl _ _ _ _ r2 Tryd.underlying34 rfl q2 ?_)
      | (go_at_call 20; refine HC.out.mono ?_; rintro e w4 ⟨cs4, rfl, c1, c2, c3, hst, hb⟩)
      | (refine wpList_store_row rfl _ _ _ rfl _ _ rfl rfl _ _ (heap_alloc_last w4 _) c1 c2 c3 ?_; rw [World.setRow_alloc_new]))
    have B24 : Below WW.heap.size WW (w4.alloc (.cells cs4 34)) := hb.alloc hb.size _
    have r4 : (w4.alloc (.cells cs4 34)).heap[w4.heap.size]? = some (.cells cs4 34 (0, 0)) := heap_alloc_last w4 _
    obtain ⟨r2n, s2⟩ := X2.out _ B24
    have s4 : StVal (w4.alloc (.cells cs4 34)) (.agg cs4) (walkS P (0 + x + 1) S) := hst.val.keeps (keeps_below ((Below.refl _ _).alloc (Nat.le_refl _) _))
    obtain ⟨g20, -, g219, -⟩ := s2.at
    obtain ⟨g40, -, g419, -⟩ := s4.at
    have k20 : (w4.alloc (.cells cs4 34)).cell? ⟨w2.heap.size, 0, none⟩ = some (.int .i64 (walkS P (0 + x) S).status) := by rw [cell_of_row _ _ _ _ _ _ r2n]; exact g20
    have k219 : (w4.alloc (.cells cs4 34)).cell? ⟨w2.heap.size, 19, none⟩ = some (.int .i64 (walkS P (0 + x) S).fuel) := by rw [cell_of_row _ _ _ _ _ _ r2n]; exact g219
    have k40 : (w4.alloc (.cells cs4 34)).cell? ⟨w4.heap.size, 0, none⟩ = some (.int .i64 (walkS P (0 + x + 1) S).status) := by rw [cell_of_row _ _ _ _ _ _ r4]; exact g40
    have k419 : (w4.alloc (.cells cs4 34)).cell? ⟨w4.heap.size, 19, none⟩ = some (.int .i64 (walkS P (0 + x + 1) S).fuel) := by rw [cell_of_row _ _ _ _ _ _ r4]; exact g419
    have BF : Hid (Below w.heap.size w (w4.alloc (.cells cs4 34))) := B01.out.trans ((B12.out.trans (B24.mono B12.out.size)).mono B01.out.size)
    obtain ⟨hv1, -⟩ := krun_walk HK.out (0 + x)
    have hfu1 := ((mayB_iff _).1 hv1.may).2.2
    by_cases hs : (walkS P (0 + x) S).status = 0
    · rw [walkS_succ P (0 + x) S hs] at g40 g419
      have hcs := stepS_cases2 P (walkS P (0 + x) S) (run_frames hv1 hs)
      rw [hs] at k20
      generalize (walkS P (0 + x) S).fuel = fu at k219 hcs hfu1
      have hw1 : IntKind.i64.wrap (fu - 1) = fu - 1 ∨ fu = 0 := by rcases Int.lt_or_le 0 fu with h | h; exact Or.inl (wrap_fits _ (by omega) (by omega)); exact Or.inr (by omega)
      clear g20 g219 s2 s4 r2n r2 r4 kp HC hst hb c1 c2 c3 hfu1 hs k40 k419 hv1 B24
      rcases hcs with ⟨n0f, e1, e2 | e2 | e2⟩ | ⟨n0f, e1, e2⟩ | ⟨n0f, e1, e2 | e2⟩
      · rw [e1] at g419; rw [e2] at g40
        have hw2 : IntKind.i64.wrap (fu - 1) = fu - 1 := hw1.resolve_right n0f
        clear hw1 e1 e2
        go_wp2
        go_ret
        exact ⟨rfl, BF.out⟩
      · rw [e1] at g419; rw [e2] at g40
        have hw2 : IntKind.i64.wrap (fu - 1) = fu - 1 := hw1.resolve_right n0f
        clear hw1 e1 e2
        go_wp2
        go_ret
        exact ⟨rfl, BF.out⟩
      · rw [e1] at g419; rw [e2] at g40
        have hw2 : IntKind.i64.wrap (fu - 1) = fu - 1 := hw1.resolve_right n0f
        clear hw1 e1 e2
        go_wp2
        go_ret
        exact ⟨rfl, BF.out⟩
      · rw [e1] at g419; rw [e2] at g40
        subst n0f
        clear hw1 e1 e2
        go_wp2
        go_ret
        exact ⟨rfl, BF.out⟩
      · rw [e1] at g419; rw [e2] at g40
        clear hw1 e1 e2
        go_wp2
        go_ret
        exact ⟨rfl, BF.out⟩
      · rw [e1] at g419; rw [e2] at g40
        clear hw1 e1 e2
        go_wp2
        go_ret
        exact ⟨rfl, BF.out⟩
    · have e := walkS_ended P (0 + x) (0 + x + 1) S (by omega) hs
      rw [e] at s4
      have HSS : Hid (Calls Tryd.prog 24 #[.agg cs3, .agg cs4] (w4.alloc (.cells cs4 34)) _) := sameState_keep (walkS P (0 + x) S) _ _ _ s2 s4
      have q4 : (Tryd.prog.info? 34).map (·.size) = some cs4.size := c1
      clear g20 g219 g40 g419 s2 s4 r2 kp HC hst hb c1 c2 c3 k40 k219 k419 hfu1 hv1 e B24
      generalize (walkS P (0 + x) S).status = st at k20 hs
      go_wp2_with (first
        | (refine wpList_load_row rfl _ _ rfl w2.heap.size rfl _ _ _ _ r2n Tryd.underlying34 rfl q2 ?_)
        | (refine wpList_load_row rfl _ _ rfl w4.heap.size rfl _ _ _ _ r4 Tryd.underlying34 rfl q4 ?_)
        | (go_at_call 24; refine HSS.out.mono ?_; rintro e w6 ⟨rfl, hb6⟩))
      go_ret
      exact ⟨rfl, BF.out.trans (hb6.mono BF.out.size)⟩
end Go.Proofs.YtcjclencbjllhaaDoor
