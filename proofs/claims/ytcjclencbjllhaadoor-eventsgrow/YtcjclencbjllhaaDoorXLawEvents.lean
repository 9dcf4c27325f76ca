/- The walk of tierlinekeep.EventsGrow: at all raw numbers it says true, and nothing that was there has turned. -/
import Derived.Test.YtcjclencbjllhaaDoorXKRun
import Derived.Test.YtcjclencbjllhaaDoorXMoreMath
namespace Go.Proofs.YtcjclencbjllhaaDoor
open Go Go.RowKit

theorem walkS_events (P : List Fn) (S : St) (k n : Nat) : ∃ l, (walkS P (k + n) S).events = (walkS P k S).events ++ l := by
  induction n with
  | zero => exact ⟨[], by simp⟩
  | succ n ih =>
    obtain ⟨l, hl⟩ := ih
    by_cases h : (walkS P (k + n) S).status = 0
    · rw [← Nat.add_assoc, walkS_succ P (k + n) S h]
      obtain ⟨l2, h2⟩ := stepS_events P (walkS P (k + n) S)
      exact ⟨l ++ l2, by rw [h2, hl, List.append_assoc]⟩
    · rw [walkS_ended P (k + n) (k + (n + 1)) S (by omega) h]; exact ⟨l, hl⟩
theorem retS_answers (P : List Fn) (S : St) (fs : List Fr) (a : Int) : (retS P S fs a).answers = S.answers := by
  unfold retS; split <;> rfl
/-- One answer is taken for each that is told, as long as there are answers. -/
theorem stepS_told (P : List Fn) (S : St) (n : Nat) (h : S.answers.length = n - S.events.length) : (stepS P S).answers.length = n - (stepS P S).events.length := by
  unfold stepS
  split
  · exact h
  · split
    · exact h
    · split
      · unfold doS
        repeat' split
        all_goals first
          | exact h
          | (rw [retS_answers, retS_events]; exact h)
          | (simp only [List.length_tail, List.length_append, List.length_cons, List.length_nil]; omega)
      · exact h
theorem walkS_told (P : List Fn) (S : St) (hS : S.events = []) (k : Nat) : (walkS P k S).answers.length = S.answers.length - (walkS P k S).events.length := by
  induction k with
  | zero => rw [show walkS P 0 S = S from rfl, hS]; simp
  | succ k ih =>
    by_cases h : (walkS P k S).status = 0
    · rw [walkS_succ P k S h]; exact stepS_told P _ _ ih
    · rw [walkS_ended P k (k + 1) S (by omega) h]; exact ih
theorem wrap_diff (a b : Nat) (ha : a ≤ 1000000) (hb : b ≤ 1000000) : IntKind.i64.wrap ((a : Int) - (b : Int)) = (a : Int) - (b : Int) := by
  by_cases h : b ≤ a
  · exact wrap_fits _ (by omega) (by omega)
  · have e : ((a : Int) - b) % 2 ^ 64 = (a : Int) - b + 2 ^ 64 := by omega
    simp only [IntKind.wrap, IntKind.bits, IntKind.signed, e]
    rw [if_pos (by simp; omega)]
    omega

set_option maxHeartbeats 8000000 in
set_option maxRecDepth 100000 in
theorem eventsGrow_walk (l : List Fn) (v : Value) (a0 a1 fuel : Int) (nv : Value) (ln : List Int) (a b : Int) (w : World) (ht : TabOk w) (hc : CallOk w) (hv : ProgVal w v l) (hwf : ∀ f ∈ l, f.wf) (hn : IntsVal w nv ln) (hfu : I64 fuel) (ha : I64 a) (hb : I64 b) :
    Calls Tryd.prog 12 #[v, inVal a0 a1 nv fuel, .int .i64 a, .int .i64 b] w fun e w' => e = .returned (.bool true) ∧ Below w.heap.size w w' := by
  obtain ⟨x, hx, ex⟩ : ∃ x : Nat, x < 200 ∧ pickI a 200 = x := by have b := pickI_bounds a 200 (by omega); obtain ⟨k, hk⟩ := Int.eq_ofNat_of_zero_le b.1; exact ⟨k, by omega, hk⟩
  have hPX : Hid (∀ W, Calls Tryd.prog 22 #[.int .i64 a, .int .i64 200] W fun e w' => e = .returned (.int .i64 (x : Int)) ∧ w' = W) := fun W => by have := picked_any a 200 W ha (by omega) (by omega); rw [ex] at this; exact this
  obtain ⟨y, hy, ey⟩ : ∃ x : Nat, x < 100 ∧ pickI b 100 = x := by have b := pickI_bounds b 100 (by omega); obtain ⟨k, hk⟩ := Int.eq_ofNat_of_zero_le b.1; exact ⟨k, by omega, hk⟩
  have hPY : Hid (∀ W, Calls Tryd.prog 22 #[.int .i64 b, .int .i64 100] W fun e w' => e = .returned (.int .i64 (y : Int)) ∧ w' = W) := fun W => by have := picked_any b 100 W hb (by omega) (by omega); rw [ey] at this; exact this
  clear ex ey ha hb
  obtain ⟨nao, nc, rfl⟩ := hn.shape
  obtain ⟨lao, ll, lc, rfl⟩ := hv.shape
  have HTC : Hid (∀ W, Below w.heap.size w W → TabOk W ∧ CallOk W) := fun W hb => ⟨ht.below hb, hc.below hb⟩
  have HB0 : Hid (Below w.heap.size w (w.alloc (.cells #[.int .i64 a0, .int .i64 a1, .slice nao ln.length nc, .int .i64 fuel] 26))) := (Below.refl _ _).alloc (Nat.le_refl _) _
  have HPR : Hid (Calls Tryd.prog 15 #[.slice lao ll lc] (w.alloc (.cells #[.int .i64 a0, .int .i64 a1, .slice nao ln.length nc, .int .i64 fuel] 26)) fun e w' => ∃ ao n cap P, e = .returned (.agg #[.slice ao n cap]) ∧ ProofAns P 0 ∧ ProgVal w' (.slice ao n cap) P ∧ Below (w.alloc (.cells #[.int .i64 a0, .int .i64 a1, .slice nao ln.length nc, .int .i64 fuel] 26)).heap.size (w.alloc (.cells #[.int .i64 a0, .int .i64 a1, .slice nao ln.length nc, .int .i64 fuel] 26)) w') := kprog l _ _ (HTC.out _ HB0.out).1 (HTC.out _ HB0.out).2 (hv.keeps (keeps_below HB0.out)) hwf
  have HNV : Hid (∀ W, Below w.heap.size w W → IntsVal W (.slice nao ln.length nc) ln) := fun W hb => hn.keeps (keeps_below hb)
  have HFU : Hid (I64 fuel) := hfu
  have infoIn : (Tryd.prog.info? 26).map (·.size) = some 4 := by kernel_rfl
  unfold inVal
  clear ht hc hv hwf hn hfu
  go_enter Tryd.func12, Tryd.ntmps12
  go_upto_region 2 with (go_at_call 15; refine HPR.out.mono ?_; rintro e w1 ⟨ao, n0, cap0, P, rfl, hR, hpv, hb1⟩)
  have HR : Hid (ProofAns P 0) := hR
  have B01 : Hid (Below w.heap.size w (w1.alloc (.cells #[.slice ao n0 cap0] 29))) := (HB0.out.trans (hb1.mono (by simp))).alloc (by have := hb1.size; simp at this; omega) _
  have I1 : (w1.alloc (.cells #[.slice ao n0 cap0] 29)).heap[w.heap.size]? = some (.cells #[.int .i64 a0, .int .i64 a1, .slice nao ln.length nc, .int .i64 fuel] 26 (0, 0)) := (heap_alloc_old _ _ (by have := hb1.size; simp at this; omega)).trans ((hb1.block _ (by simp)).trans (heap_alloc_last w _))
  have HP : Hid (∀ W, Below (w1.alloc (.cells #[.slice ao n0 cap0] 29)).heap.size (w1.alloc (.cells #[.slice ao n0 cap0] 29)) W → W.cell? ⟨w1.heap.size, 0, none⟩ = some (.slice ao n0 cap0) ∧ ProgVal W (.slice ao n0 cap0) P ∧ TabOk W ∧ CallOk W) := fun W hb => ⟨keeps_below hb _ _ (by rw [cell_of_row _ _ _ _ _ _ (heap_alloc_last w1 _)]; rfl), (hpv.keeps (keeps_below ((Below.refl _ _).alloc (Nat.le_refl _) _))).keeps (keeps_below hb), (HTC.out _ (B01.out.trans (hb.mono B01.out.size))).1, (HTC.out _ (B01.out.trans (hb.mono B01.out.size))).2⟩
  have HKB : Hid (Calls Tryd.prog 16 #[.agg #[.slice ao n0 cap0], .agg #[.int .i64 a0, .int .i64 a1, .slice nao ln.length nc, .int .i64 fuel]] (w1.alloc (.cells #[.slice ao n0 cap0] 29)) _) := kbegin P (.slice ao n0 cap0) a0 a1 fuel (.slice nao ln.length nc) ln (w1.alloc (.cells #[.slice ao n0 cap0] 29)) (HP.out _ (Below.refl _ _)).2.2.1 (HP.out _ (Below.refl _ _)).2.2.2 HR.out (HP.out _ (Below.refl _ _)).2.1 (HNV.out _ B01.out) HFU.out
  clear hR hpv hb1
  go_upto_region 3 with (first
    | (refine wpList_load_row rfl _ _ rfl _ rfl _ _ _ _ I1 Tryd.underlying26 rfl infoIn ?_)
    | (go_at_call 16; refine HKB.out.mono ?_; rintro e w2 ⟨cs2, S, rfl, hk, hs0, c1, c2, c3, hst, hb2⟩)
    | (refine wpList_store_row rfl _ _ _ rfl _ _ rfl rfl _ _ (heap_alloc_last w2 _) c1 c2 c3 ?_; rw [World.setRow_alloc_new]))
  have HK : Hid (KRunAt P S) := hk
  have HS0 : Hid (S.fuel ≤ 299 ∧ S.answers.length ≤ 10 ∧ S.status = 0) := hs0
  have B12 : Hid (Below (w1.alloc (.cells #[.slice ao n0 cap0] 29)).heap.size (w1.alloc (.cells #[.slice ao n0 cap0] 29)) (w2.alloc (.cells cs2 34))) := hb2.alloc hb2.size _
  have X2 : Hid (∀ W, Below (w2.alloc (.cells cs2 34)).heap.size (w2.alloc (.cells cs2 34)) W → W.heap[w2.heap.size]? = some (.cells cs2 34 (0, 0)) ∧ StVal W (.agg cs2) (walkS P 0 S)) := fun W hb => ⟨(hb.block _ (by simp)).trans (heap_alloc_last w2 _), (hst.val.keeps (keeps_below ((Below.refl _ _).alloc (Nat.le_refl _) _))).keeps (keeps_below hb)⟩
  have q2 : (Tryd.prog.info? 34).map (·.size) = some cs2.size := c1
  have HON2 : Hid (cs2.all (·.oneCell') = true) := c3
  have HZ12 : Hid ((w1.alloc (.cells #[.slice ao n0 cap0] 29)).heap.size ≤ w2.heap.size) := hb2.size
  have hz2 : zeroStCells.size = cs2.size := c2
  clear hk hs0 hst hb2 I1 HKB c1 c2 c3 infoIn
  obtain ⟨WW, hWW⟩ : ∃ W : World, W = (w2.alloc (.cells cs2 34)) := ⟨_, rfl⟩
  rw [← hWW] at B12 X2 ⊢
  clear hWW
  go_upto_region 3 with fail
  have kp := (HP.out _ B12.out).1
  have rr := (X2.out _ (Below.refl _ _)).1
  have HWX : Hid (∀ W, Below WW.heap.size WW W → Calls Tryd.prog 25 #[.agg #[.slice ao n0 cap0], .agg cs2, .int .i64 ((x : Nat) : Int)] W _) := fun W hb => kwalk HK.out (0) x (by omega) (by omega) _ _ W (HP.out _ (B12.out.trans (hb.mono B12.out.size))).2.2.1 (HP.out _ (B12.out.trans (hb.mono B12.out.size))).2.2.2 (HP.out _ (B12.out.trans (hb.mono B12.out.size))).2.1 (X2.out _ hb).2
  go_cut [12, 13] from 25 to 32 (fun t e wx => ∃ (G : Nat) (csn : Array Value), t = .pointer (some ⟨G, 0, none⟩) ∧ e = .int .i64 0 ∧ wx.heap[G]? = some (.cells csn 34 (0, 0)) ∧ (Tryd.prog.info? 34).map (·.size) = some csn.size ∧ Below WW.heap.size WW wx ∧ G < wx.heap.size ∧ StVal wx (.agg csn) (walkS P (0 + x) S))
  case first =>
    refine wp_region_held_drew (S := fun W => Below WW.heap.size WW W) (by kernel_rfl) ((Below.refl _ _).drew) (fun hHeld => ?_)
    show wpAnyH _ _ _ _ _ 11 _ _ _
    refine wpAnyH_take (i := 0) (v := ?_) rfl (by kernel_rfl) (by kernel_rfl) (by kernel_rfl) (fun _ _ _ h => h) (Or.inl ⟨by rfl, ?_⟩) (by assumption) ?_
    rotate_left
    · (intro W hSW; have zz := keeps_below hSW _ _ kp; go_simp; try (with_reducible rfl))
    (try simp only [Act.put, List.setIfInBounds_toArray])
    refine wpAnyH_take (i := 1) (v := .agg cs2.toList.toArray) rfl (by kernel_rfl) (by kernel_rfl) (by kernel_rfl) (fun _ _ _ h => h) (yieldsIf_load_mid (by rfl) 34 _ rfl _ 0 rfl cs2.toList _ (fun W hSW j u hu => by rw [cell_of_row _ _ _ _ _ _ ((hSW.block _ (by have := lt_of_block rr; omega)).trans rr)]; simpa using hu) Tryd.underlying34 rfl (by simpa using q2)) (by assumption) ?_
    simp only [Array.toArray_toList]
    (try simp only [List.getElem_toArray, List.getElem_cons_succ, List.getElem_cons_zero, List.set_cons_zero, List.set_cons_succ])
    (try simp only [Act.put, List.setIfInBounds_toArray, List.set_cons_zero, List.set_cons_succ])
    refine wpAnyH_take (i := 2) (v := ?_) rfl (by kernel_rfl) (by kernel_rfl) (by kernel_rfl) (fun _ _ _ h => h) (Or.inl ⟨by rfl, ?_⟩) (by assumption) ?_
    rotate_left
    · (intro W hSW; go_simp; try (with_reducible rfl))
    (try simp only [List.getElem_toArray, List.getElem_cons_succ, List.getElem_cons_zero])
    (try simp only [Act.put, List.setIfInBounds_toArray, List.set_cons_zero, List.set_cons_succ])
    refine wpAnyH_ready (rs := [3, 8]) (by kernel_rfl) (by simp) ?_
    refine AllReadyH.cons rfl (fun K hK => ?_) (AllReadyH.cons rfl (fun K hK => ?_) AllReadyH.nil)
    · go_simp
      go_at_call 22
      refine (hPX.out _).mono ?_
      rintro e wp ⟨rfl, hwp⟩
      replace hwp := hwp.symm
      subst hwp
      dsimp only
      refine hK.out _ _ hHeld (fun _ => ?_)
      clear hK K
      (try simp only [Act.put, List.setIfInBounds_toArray, List.set_cons_zero, List.set_cons_succ])
      refine wpAnyH_ready (rs := [4, 8]) (by kernel_rfl) (by simp) ?_
      refine AllReadyH.cons rfl (fun K hK => ?_) (AllReadyH.cons rfl (fun K hK => ?_) AllReadyH.nil)
      · go_simp
        go_at_call 25
        refine (HWX.out _ hHeld).mono ?_
        rintro e wn ⟨csn, rfl, c1, c2, c3, hst, hb⟩
        have hbn : Below WW.heap.size WW wn := Below.trans hHeld (hb.mono (Below.size hHeld))
        dsimp only
        refine hK.out _ _ hbn (fun _ => ?_)
        clear hK K
        (try simp only [Act.put, List.setIfInBounds_toArray, List.set_cons_zero, List.set_cons_succ])
        refine wpAnyH_take (i := 5) (v := ?_) rfl (by kernel_rfl) (by kernel_rfl) (by kernel_rfl) (fun _ _ _ h => h) (Or.inl ⟨by rfl, ?_⟩) hbn ?_
        rotate_left
        · (intro W hSW; go_simp; try (with_reducible rfl))
        (try simp only [Act.put, List.setIfInBounds_toArray])
        refine wpAnyH_take (i := 6) (v := ?_) rfl (by kernel_rfl) (by kernel_rfl) (by kernel_rfl) (fun _ _ _ h => h) (Or.inl ⟨by rfl, ?_⟩) hbn ?_
        rotate_left
        · (intro W hSW; go_simp; try (with_reducible rfl))
        (try simp only [Act.put])
        refine wpAnyH_take (i := 7) (v := ?_) rfl (by kernel_rfl) (by kernel_rfl) (by kernel_rfl) (fun _ _ _ h => h) (Or.inl ⟨by rfl, ?_⟩) hbn ?_
        rotate_left
        · (intro W hSW; go_simp; try (with_reducible rfl))
        (try simp only [Act.put])
        refine wpAnyH_ready (rs := [8]) (by kernel_rfl) (by simp) ?_
        refine AllReadyH.cons rfl (fun K hK => ?_) AllReadyH.nil
        go_simp
        refine hK.out _ _ (hbn.alloc hbn.size _) (fun hHeld2 => ?_)
        clear hK K
        (try simp only [Act.put, List.setIfInBounds_toArray, List.set_cons_zero, List.set_cons_succ])
        refine wpAnyH_ready (rs := [9]) (by kernel_rfl) (by simp) ?_
        refine AllReadyH.cons rfl (fun K hK => ?_) AllReadyH.nil
        refine wp_store_row 34 _ _ rfl wn.heap.size csn rfl rfl 34 zeroStCells (heap_alloc_last wn _) c1 c2 c3 ?_
        have BN : Below WW.heap.size WW (World.setRow (wn.alloc (.cells #[.int .i64 0, .int .i64 0, .slice none 0 0, .int .i64 0, .int .i64 0, .int .i64 0, .int .i64 0, .int .i64 0, .int .i64 0, .int .i64 0, .int .i64 0, .int .i64 0, .int .i64 0, .int .i64 0, .int .i64 0, .int .i64 0, .int .i64 0, .int .i64 0, .int .i64 0, .int .i64 0, .slice none 0 0, .slice none 0 0] 34)) wn.heap.size csn) := below_setRow (hbn.alloc hbn.size _) (by have := hbn.size; simp; try omega) _
        refine hK.out _ _ BN (fun _ => ?_)
        clear hK K
        (try simp only [Act.put, List.setIfInBounds_toArray])
        refine wpAnyH_ready (rs := [10]) (by kernel_rfl) (by simp) ?_
        refine AllReadyH.cons rfl (fun K hK => ?_) AllReadyH.nil
        go_simp
        refine hK.out _ _ BN (fun _ => ?_)
        clear hK K
        (try simp only [Act.put, List.setIfInBounds_toArray, List.set_cons_zero, List.set_cons_succ])
        refine wpAnyH_done (by kernel_rfl) ?_ _
        go_wp2_with fail
        go_meet
        exact ⟨_, csn, rfl, rfl, setRow_heap _ _ _ _ _ _ (heap_alloc_last wn _), c1, BN, lt_of_block (setRow_heap _ _ _ _ _ _ (heap_alloc_last wn _)), (hst.moved (fun ad u ha hu => (World.cell?_of_block (setRow_other _ _ _ _ (by have := World.block_lt_of_cell? _ _ hu; omega))).trans (cell_alloc hu _))).val⟩
      · go_simp
        refine hK.out _ _ ((Below.refl _ _).alloc (Nat.le_refl _) _).drew (fun hHeld2 => ?_)
        clear hK K
        (try simp only [Act.put, List.setIfInBounds_toArray, List.set_cons_zero, List.set_cons_succ])
        refine wpAnyH_ready (rs := [4]) (by kernel_rfl) (by simp) ?_
        refine AllReadyH.cons rfl (fun K hK => ?_) AllReadyH.nil
        go_simp
        go_at_call 25
        refine (HWX.out _ hHeld2).mono ?_
        rintro e wn ⟨csn, rfl, c1, c2, c3, hst, hb⟩
        have hbn : Below WW.heap.size WW wn := Below.trans hHeld2 (hb.mono (Below.size hHeld2))
        dsimp only
        refine hK.out _ _ hbn (fun _ => ?_)
        clear hK K
        (try simp only [Act.put, List.setIfInBounds_toArray, List.set_cons_zero, List.set_cons_succ])
        have hgz : wn.heap[WW.heap.size]? = some (.cells zeroStCells 34 (0, 0)) := (hb.block _ (by simp)).trans (heap_alloc_last WW _)
        refine wpAnyH_take (i := 5) (v := ?_) rfl (by kernel_rfl) (by kernel_rfl) (by kernel_rfl) (fun _ _ _ h => h) (Or.inl ⟨by rfl, ?_⟩) hbn ?_
        rotate_left
        · (intro W hSW; go_simp; try (with_reducible rfl))
        (try simp only [Act.put, List.setIfInBounds_toArray])
        refine wpAnyH_take (i := 6) (v := ?_) rfl (by kernel_rfl) (by kernel_rfl) (by kernel_rfl) (fun _ _ _ h => h) (Or.inl ⟨by rfl, ?_⟩) hbn ?_
        rotate_left
        · (intro W hSW; go_simp; try (with_reducible rfl))
        (try simp only [Act.put])
        refine wpAnyH_take (i := 7) (v := ?_) rfl (by kernel_rfl) (by kernel_rfl) (by kernel_rfl) (fun _ _ _ h => h) (Or.inl ⟨by rfl, ?_⟩) hbn ?_
        rotate_left
        · (intro W hSW; go_simp; try (with_reducible rfl))
        (try simp only [Act.put])
        refine wpAnyH_ready (rs := [9]) (by kernel_rfl) (by simp) ?_
        refine AllReadyH.cons rfl (fun K hK => ?_) AllReadyH.nil
        refine wp_store_row 34 _ _ rfl WW.heap.size csn rfl rfl 34 zeroStCells hgz c1 c2 c3 ?_
        have BN : Below WW.heap.size WW (World.setRow wn WW.heap.size csn) := below_setRow hbn (by have := hbn.size; simp; try omega) _
        refine hK.out _ _ BN (fun _ => ?_)
        clear hK K
        (try simp only [Act.put])
        refine wpAnyH_ready (rs := [10]) (by kernel_rfl) (by simp) ?_
        refine AllReadyH.cons rfl (fun K hK => ?_) AllReadyH.nil
        go_simp
        refine hK.out _ _ BN (fun _ => ?_)
        clear hK K
        (try simp only [Act.put, List.setIfInBounds_toArray, List.set_cons_zero, List.set_cons_succ])
        refine wpAnyH_done (by kernel_rfl) ?_ _
        go_wp2_with fail
        go_meet
        exact ⟨_, csn, rfl, rfl, setRow_heap _ _ _ _ _ _ hgz, c1, BN, lt_of_block (setRow_heap _ _ _ _ _ _ hgz), (hst.setRow (by simp) _).val⟩
    · go_simp
      refine hK.out _ _ ((Below.refl _ _).alloc (Nat.le_refl _) _).drew (fun hHeld2 => ?_)
      clear hK K
      (try simp only [Act.put, List.setIfInBounds_toArray, List.set_cons_zero, List.set_cons_succ])
      refine wpAnyH_ready (rs := [3]) (by kernel_rfl) (by simp) ?_
      refine AllReadyH.cons rfl (fun K hK => ?_) AllReadyH.nil
      go_simp
      go_at_call 22
      refine (hPX.out _).mono ?_
      rintro e wp ⟨rfl, hwp⟩
      replace hwp := hwp.symm
      subst hwp
      dsimp only
      refine hK.out _ _ hHeld2 (fun _ => ?_)
      clear hK K
      (try simp only [Act.put, List.setIfInBounds_toArray, List.set_cons_zero, List.set_cons_succ])
      refine wpAnyH_ready (rs := [4]) (by kernel_rfl) (by simp) ?_
      refine AllReadyH.cons rfl (fun K hK => ?_) AllReadyH.nil
      go_simp
      go_at_call 25
      refine (HWX.out _ hHeld2).mono ?_
      rintro e wn ⟨csn, rfl, c1, c2, c3, hst, hb⟩
      have hbn : Below WW.heap.size WW wn := Below.trans hHeld2 (hb.mono (Below.size hHeld2))
      dsimp only
      refine hK.out _ _ hbn (fun _ => ?_)
      clear hK K
      (try simp only [Act.put, List.setIfInBounds_toArray, List.set_cons_zero, List.set_cons_succ])
      have hgz : wn.heap[WW.heap.size]? = some (.cells zeroStCells 34 (0, 0)) := (hb.block _ (by simp)).trans (heap_alloc_last WW _)
      refine wpAnyH_take (i := 5) (v := ?_) rfl (by kernel_rfl) (by kernel_rfl) (by kernel_rfl) (fun _ _ _ h => h) (Or.inl ⟨by rfl, ?_⟩) hbn ?_
      rotate_left
      · (intro W hSW; go_simp; try (with_reducible rfl))
      (try simp only [Act.put, List.setIfInBounds_toArray])
      refine wpAnyH_take (i := 6) (v := ?_) rfl (by kernel_rfl) (by kernel_rfl) (by kernel_rfl) (fun _ _ _ h => h) (Or.inl ⟨by rfl, ?_⟩) hbn ?_
      rotate_left
      · (intro W hSW; go_simp; try (with_reducible rfl))
      (try simp only [Act.put])
      refine wpAnyH_take (i := 7) (v := ?_) rfl (by kernel_rfl) (by kernel_rfl) (by kernel_rfl) (fun _ _ _ h => h) (Or.inl ⟨by rfl, ?_⟩) hbn ?_
      rotate_left
      · (intro W hSW; go_simp; try (with_reducible rfl))
      (try simp only [Act.put])
      refine wpAnyH_ready (rs := [9]) (by kernel_rfl) (by simp) ?_
      refine AllReadyH.cons rfl (fun K hK => ?_) AllReadyH.nil
      refine wp_store_row 34 _ _ rfl WW.heap.size csn rfl rfl 34 zeroStCells hgz c1 c2 c3 ?_
      have BN : Below WW.heap.size WW (World.setRow wn WW.heap.size csn) := below_setRow hbn (by have := hbn.size; simp; try omega) _
      refine hK.out _ _ BN (fun _ => ?_)
      clear hK K
      (try simp only [Act.put])
      refine wpAnyH_ready (rs := [10]) (by kernel_rfl) (by simp) ?_
      refine AllReadyH.cons rfl (fun K hK => ?_) AllReadyH.nil
      go_simp
      refine hK.out _ _ BN (fun _ => ?_)
      clear hK K
      (try simp only [Act.put, List.setIfInBounds_toArray, List.set_cons_zero, List.set_cons_succ])
      refine wpAnyH_done (by kernel_rfl) ?_ _
      go_wp2_with fail
      go_meet
      exact ⟨_, csn, rfl, rfl, setRow_heap _ _ _ _ _ _ hgz, c1, BN, lt_of_block (setRow_heap _ _ _ _ _ _ hgz), (hst.setRow (by simp) _).val⟩
  case rest =>
    obtain ⟨Ga, csa, rfl, rfl, rowGa, qa, Ba, hGa, sta⟩ := hcut
    rename World => Wa
    clear kp rr HWX
    have HRA : Hid (∀ W, Below Wa.heap.size Wa W → W.heap[Ga]? = some (.cells csa 34 (0, 0)) ∧ StVal W (.agg csa) (walkS P (0 + x) S)) := fun W hW => ⟨(hW.block _ hGa).trans rowGa, sta.keeps (keeps_below hW)⟩
    have HB2a : Hid (Below WW.heap.size WW Wa) := Ba
    have B1a : Hid (Below (w1.alloc (.cells #[.slice ao n0 cap0] 29)).heap.size (w1.alloc (.cells #[.slice ao n0 cap0] 29)) Wa) := B12.out.trans (Ba.mono B12.out.size)
    clear Ba rowGa sta hGa
    go_upto_region 4 with fail
    have kp := (HP.out _ B1a.out).1
    have rr := (HRA.out _ (Below.refl _ _)).1
    have HWX : Hid (∀ W, Below Wa.heap.size Wa W → Calls Tryd.prog 25 #[.agg #[.slice ao n0 cap0], .agg csa, .int .i64 ((y : Nat) : Int)] W _) := fun W hb => kwalk HK.out (0 + x) y (by omega) (by omega) _ _ W (HP.out _ (B1a.out.trans (hb.mono B1a.out.size))).2.2.1 (HP.out _ (B1a.out.trans (hb.mono B1a.out.size))).2.2.2 (HP.out _ (B1a.out.trans (hb.mono B1a.out.size))).2.1 (HRA.out _ hb).2
    go_cut [14, 15] from 33 to 40 (fun t e wx => ∃ (G : Nat) (csn : Array Value), t = .pointer (some ⟨G, 0, none⟩) ∧ e = .int .i64 0 ∧ wx.heap[G]? = some (.cells csn 34 (0, 0)) ∧ (Tryd.prog.info? 34).map (·.size) = some csn.size ∧ Below Wa.heap.size Wa wx ∧ G < wx.heap.size ∧ StVal wx (.agg csn) (walkS P (0 + x + y) S))
    case first =>
      refine wp_region_held_drew (S := fun W => Below Wa.heap.size Wa W) (by kernel_rfl) ((Below.refl _ _).drew) (fun hHeld => ?_)
      show wpAnyH _ _ _ _ _ 11 _ _ _
      refine wpAnyH_take (i := 0) (v := ?_) rfl (by kernel_rfl) (by kernel_rfl) (by kernel_rfl) (fun _ _ _ h => h) (Or.inl ⟨by rfl, ?_⟩) (by assumption) ?_
      rotate_left
      · (intro W hSW; have zz := keeps_below hSW _ _ kp; go_simp; try (with_reducible rfl))
      (try simp only [Act.put, List.setIfInBounds_toArray])
      refine wpAnyH_take (i := 1) (v := .agg csa.toList.toArray) rfl (by kernel_rfl) (by kernel_rfl) (by kernel_rfl) (fun _ _ _ h => h) (yieldsIf_load_mid (by rfl) 34 _ rfl _ 0 rfl csa.toList _ (fun W hSW j u hu => by rw [cell_of_row _ _ _ _ _ _ ((hSW.block _ (by have := lt_of_block rr; omega)).trans rr)]; simpa using hu) Tryd.underlying34 rfl (by simpa using qa)) (by assumption) ?_
      simp only [Array.toArray_toList]
      (try simp only [List.getElem_toArray, List.getElem_cons_succ, List.getElem_cons_zero, List.set_cons_zero, List.set_cons_succ])
      (try simp only [Act.put, List.setIfInBounds_toArray, List.set_cons_zero, List.set_cons_succ])
      refine wpAnyH_take (i := 2) (v := ?_) rfl (by kernel_rfl) (by kernel_rfl) (by kernel_rfl) (fun _ _ _ h => h) (Or.inl ⟨by rfl, ?_⟩) (by assumption) ?_
      rotate_left
      · (intro W hSW; go_simp; try (with_reducible rfl))
      (try simp only [List.getElem_toArray, List.getElem_cons_succ, List.getElem_cons_zero])
      (try simp only [Act.put, List.setIfInBounds_toArray, List.set_cons_zero, List.set_cons_succ])
      refine wpAnyH_ready (rs := [3, 8]) (by kernel_rfl) (by simp) ?_
      refine AllReadyH.cons rfl (fun K hK => ?_) (AllReadyH.cons rfl (fun K hK => ?_) AllReadyH.nil)
      · go_simp
        go_at_call 22
        refine (hPY.out _).mono ?_
        rintro e wp ⟨rfl, hwp⟩
        replace hwp := hwp.symm
        subst hwp
        dsimp only
        refine hK.out _ _ hHeld (fun _ => ?_)
        clear hK K
        (try simp only [Act.put, List.setIfInBounds_toArray, List.set_cons_zero, List.set_cons_succ])
        refine wpAnyH_ready (rs := [4, 8]) (by kernel_rfl) (by simp) ?_
        refine AllReadyH.cons rfl (fun K hK => ?_) (AllReadyH.cons rfl (fun K hK => ?_) AllReadyH.nil)
        · go_simp
          go_at_call 25
          refine (HWX.out _ hHeld).mono ?_
          rintro e wn ⟨csn, rfl, c1, c2, c3, hst, hb⟩
          have hbn : Below Wa.heap.size Wa wn := Below.trans hHeld (hb.mono (Below.size hHeld))
          dsimp only
          refine hK.out _ _ hbn (fun _ => ?_)
          clear hK K
          (try simp only [Act.put, List.setIfInBounds_toArray, List.set_cons_zero, List.set_cons_succ])
          refine wpAnyH_take (i := 5) (v := ?_) rfl (by kernel_rfl) (by kernel_rfl) (by kernel_rfl) (fun _ _ _ h => h) (Or.inl ⟨by rfl, ?_⟩) hbn ?_
          rotate_left
          · (intro W hSW; go_simp; try (with_reducible rfl))
          (try simp only [Act.put, List.setIfInBounds_toArray])
          refine wpAnyH_take (i := 6) (v := ?_) rfl (by kernel_rfl) (by kernel_rfl) (by kernel_rfl) (fun _ _ _ h => h) (Or.inl ⟨by rfl, ?_⟩) hbn ?_
          rotate_left
          · (intro W hSW; go_simp; try (with_reducible rfl))
          (try simp only [Act.put])
          refine wpAnyH_take (i := 7) (v := ?_) rfl (by kernel_rfl) (by kernel_rfl) (by kernel_rfl) (fun _ _ _ h => h) (Or.inl ⟨by rfl, ?_⟩) hbn ?_
          rotate_left
          · (intro W hSW; go_simp; try (with_reducible rfl))
          (try simp only [Act.put])
          refine wpAnyH_ready (rs := [8]) (by kernel_rfl) (by simp) ?_
          refine AllReadyH.cons rfl (fun K hK => ?_) AllReadyH.nil
          go_simp
          refine hK.out _ _ (hbn.alloc hbn.size _) (fun hHeld2 => ?_)
          clear hK K
          (try simp only [Act.put, List.setIfInBounds_toArray, List.set_cons_zero, List.set_cons_succ])
          refine wpAnyH_ready (rs := [9]) (by kernel_rfl) (by simp) ?_
          refine AllReadyH.cons rfl (fun K hK => ?_) AllReadyH.nil
          refine wp_store_row 34 _ _ rfl wn.heap.size csn rfl rfl 34 zeroStCells (heap_alloc_last wn _) c1 c2 c3 ?_
          have BN : Below Wa.heap.size Wa (World.setRow (wn.alloc (.cells #[.int .i64 0, .int .i64 0, .slice none 0 0, .int .i64 0, .int .i64 0, .int .i64 0, .int .i64 0, .int .i64 0, .int .i64 0, .int .i64 0, .int .i64 0, .int .i64 0, .int .i64 0, .int .i64 0, .int .i64 0, .int .i64 0, .int .i64 0, .int .i64 0, .int .i64 0, .int .i64 0, .slice none 0 0, .slice none 0 0] 34)) wn.heap.size csn) := below_setRow (hbn.alloc hbn.size _) (by have := hbn.size; simp; try omega) _
          refine hK.out _ _ BN (fun _ => ?_)
          clear hK K
          (try simp only [Act.put, List.setIfInBounds_toArray])
          refine wpAnyH_ready (rs := [10]) (by kernel_rfl) (by simp) ?_
          refine AllReadyH.cons rfl (fun K hK => ?_) AllReadyH.nil
          go_simp
          refine hK.out _ _ BN (fun _ => ?_)
          clear hK K
          (try simp only [Act.put, List.setIfInBounds_toArray, List.set_cons_zero, List.set_cons_succ])
          refine wpAnyH_done (by kernel_rfl) ?_ _
          go_wp2_with fail
          go_meet
          exact ⟨_, csn, rfl, rfl, setRow_heap _ _ _ _ _ _ (heap_alloc_last wn _), c1, BN, lt_of_block (setRow_heap _ _ _ _ _ _ (heap_alloc_last wn _)), (hst.moved (fun ad u ha hu => (World.cell?_of_block (setRow_other _ _ _ _ (by have := World.block_lt_of_cell? _ _ hu; omega))).trans (cell_alloc hu _))).val⟩
        · go_simp
          refine hK.out _ _ ((Below.refl _ _).alloc (Nat.le_refl _) _).drew (fun hHeld2 => ?_)
          clear hK K
          (try simp only [Act.put, List.setIfInBounds_toArray, List.set_cons_zero, List.set_cons_succ])
          refine wpAnyH_ready (rs := [4]) (by kernel_rfl) (by simp) ?_
          refine AllReadyH.cons rfl (fun K hK => ?_) AllReadyH.nil
          go_simp
          go_at_call 25
          refine (HWX.out _ hHeld2).mono ?_
          rintro e wn ⟨csn, rfl, c1, c2, c3, hst, hb⟩
          have hbn : Below Wa.heap.size Wa wn := Below.trans hHeld2 (hb.mono (Below.size hHeld2))
          dsimp only
          refine hK.out _ _ hbn (fun _ => ?_)
          clear hK K
          (try simp only [Act.put, List.setIfInBounds_toArray, List.set_cons_zero, List.set_cons_succ])
          have hgz : wn.heap[Wa.heap.size]? = some (.cells zeroStCells 34 (0, 0)) := (hb.block _ (by simp)).trans (heap_alloc_last Wa _)
          refine wpAnyH_take (i := 5) (v := ?_) rfl (by kernel_rfl) (by kernel_rfl) (by kernel_rfl) (fun _ _ _ h => h) (Or.inl ⟨by rfl, ?_⟩) hbn ?_
          rotate_left
          · (intro W hSW; go_simp; try (with_reducible rfl))
          (try simp only [Act.put, List.setIfInBounds_toArray])
          refine wpAnyH_take (i := 6) (v := ?_) rfl (by kernel_rfl) (by kernel_rfl) (by kernel_rfl) (fun _ _ _ h => h) (Or.inl ⟨by rfl, ?_⟩) hbn ?_
          rotate_left
          · (intro W hSW; go_simp; try (with_reducible rfl))
          (try simp only [Act.put])
          refine wpAnyH_take (i := 7) (v := ?_) rfl (by kernel_rfl) (by kernel_rfl) (by kernel_rfl) (fun _ _ _ h => h) (Or.inl ⟨by rfl, ?_⟩) hbn ?_
          rotate_left
          · (intro W hSW; go_simp; try (with_reducible rfl))
          (try simp only [Act.put])
          refine wpAnyH_ready (rs := [9]) (by kernel_rfl) (by simp) ?_
          refine AllReadyH.cons rfl (fun K hK => ?_) AllReadyH.nil
          refine wp_store_row 34 _ _ rfl Wa.heap.size csn rfl rfl 34 zeroStCells hgz c1 c2 c3 ?_
          have BN : Below Wa.heap.size Wa (World.setRow wn Wa.heap.size csn) := below_setRow hbn (by have := hbn.size; simp; try omega) _
          refine hK.out _ _ BN (fun _ => ?_)
          clear hK K
          (try simp only [Act.put])
          refine wpAnyH_ready (rs := [10]) (by kernel_rfl) (by simp) ?_
          refine AllReadyH.cons rfl (fun K hK => ?_) AllReadyH.nil
          go_simp
          refine hK.out _ _ BN (fun _ => ?_)
          clear hK K
          (try simp only [Act.put, List.setIfInBounds_toArray, List.set_cons_zero, List.set_cons_succ])
          refine wpAnyH_done (by kernel_rfl) ?_ _
          go_wp2_with fail
          go_meet
          exact ⟨_, csn, rfl, rfl, setRow_heap _ _ _ _ _ _ hgz, c1, BN, lt_of_block (setRow_heap _ _ _ _ _ _ hgz), (hst.setRow (by simp) _).val⟩
      · go_simp
        refine hK.out _ _ ((Below.refl _ _).alloc (Nat.le_refl _) _).drew (fun hHeld2 => ?_)
        clear hK K
        (try simp only [Act.put, List.setIfInBounds_toArray, List.set_cons_zero, List.set_cons_succ])
        refine wpAnyH_ready (rs := [3]) (by kernel_rfl) (by simp) ?_
        refine AllReadyH.cons rfl (fun K hK => ?_) AllReadyH.nil
        go_simp
        go_at_call 22
        refine (hPY.out _).mono ?_
        rintro e wp ⟨rfl, hwp⟩
        replace hwp := hwp.symm
        subst hwp
        dsimp only
        refine hK.out _ _ hHeld2 (fun _ => ?_)
        clear hK K
        (try simp only [Act.put, List.setIfInBounds_toArray, List.set_cons_zero, List.set_cons_succ])
        refine wpAnyH_ready (rs := [4]) (by kernel_rfl) (by simp) ?_
        refine AllReadyH.cons rfl (fun K hK => ?_) AllReadyH.nil
        go_simp
        go_at_call 25
        refine (HWX.out _ hHeld2).mono ?_
        rintro e wn ⟨csn, rfl, c1, c2, c3, hst, hb⟩
        have hbn : Below Wa.heap.size Wa wn := Below.trans hHeld2 (hb.mono (Below.size hHeld2))
        dsimp only
        refine hK.out _ _ hbn (fun _ => ?_)
        clear hK K
        (try simp only [Act.put, List.setIfInBounds_toArray, List.set_cons_zero, List.set_cons_succ])
        have hgz : wn.heap[Wa.heap.size]? = some (.cells zeroStCells 34 (0, 0)) := (hb.block _ (by simp)).trans (heap_alloc_last Wa _)
        refine wpAnyH_take (i := 5) (v := ?_) rfl (by kernel_rfl) (by kernel_rfl) (by kernel_rfl) (fun _ _ _ h => h) (Or.inl ⟨by rfl, ?_⟩) hbn ?_
        rotate_left
        · (intro W hSW; go_simp; try (with_reducible rfl))
        (try simp only [Act.put, List.setIfInBounds_toArray])
        refine wpAnyH_take (i := 6) (v := ?_) rfl (by kernel_rfl) (by kernel_rfl) (by kernel_rfl) (fun _ _ _ h => h) (Or.inl ⟨by rfl, ?_⟩) hbn ?_
        rotate_left
        · (intro W hSW; go_simp; try (with_reducible rfl))
        (try simp only [Act.put])
        refine wpAnyH_take (i := 7) (v := ?_) rfl (by kernel_rfl) (by kernel_rfl) (by kernel_rfl) (fun _ _ _ h => h) (Or.inl ⟨by rfl, ?_⟩) hbn ?_
        rotate_left
        · (intro W hSW; go_simp; try (with_reducible rfl))
        (try simp only [Act.put])
        refine wpAnyH_ready (rs := [9]) (by kernel_rfl) (by simp) ?_
        refine AllReadyH.cons rfl (fun K hK => ?_) AllReadyH.nil
        refine wp_store_row 34 _ _ rfl Wa.heap.size csn rfl rfl 34 zeroStCells hgz c1 c2 c3 ?_
        have BN : Below Wa.heap.size Wa (World.setRow wn Wa.heap.size csn) := below_setRow hbn (by have := hbn.size; simp; try omega) _
        refine hK.out _ _ BN (fun _ => ?_)
        clear hK K
        (try simp only [Act.put])
        refine wpAnyH_ready (rs := [10]) (by kernel_rfl) (by simp) ?_
        refine AllReadyH.cons rfl (fun K hK => ?_) AllReadyH.nil
        go_simp
        refine hK.out _ _ BN (fun _ => ?_)
        clear hK K
        (try simp only [Act.put, List.setIfInBounds_toArray, List.set_cons_zero, List.set_cons_succ])
        refine wpAnyH_done (by kernel_rfl) ?_ _
        go_wp2_with fail
        go_meet
        exact ⟨_, csn, rfl, rfl, setRow_heap _ _ _ _ _ _ hgz, c1, BN, lt_of_block (setRow_heap _ _ _ _ _ _ hgz), (hst.setRow (by simp) _).val⟩
    case rest =>
      obtain ⟨Gb, csb, rfl, rfl, rowGb, qb, Bb, hGb, stb⟩ := hcut
      rename World => Wb
      clear kp rr HWX
      have B2b : Below WW.heap.size WW Wb := HB2a.out.trans (Bb.mono HB2a.out.size)
      obtain ⟨r2, s2⟩ := X2.out _ B2b
      obtain ⟨ra, sa⟩ := HRA.out _ Bb
      obtain ⟨-, -, -, -, -, -, -, ar2, ac2, -, -, g2⟩ := s2.at
      replace g2 : cs2[21]? = some (.slice ar2 S.answers.length ac2) := g2
      obtain ⟨-, -, -, -, -, -, -, ara, aca, -, -, ga21⟩ := sa.at
      obtain ⟨-, -, -, -, -, -, -, arb, acb, -, -, gb21⟩ := stb.at
      obtain ⟨fva, eva, ava, qqa, hma, -, hea, -⟩ := sa
      obtain ⟨fvb, evb, avb, qqb, hmb, -, heb, -⟩ := stb
      have ga20 : csa[20]? = some eva := by obtain rfl := Value.agg.inj qqa; exact (stCells_get _ _ _ _ hma).2.1
      have gb20 : csb[20]? = some evb := by obtain rfl := Value.agg.inj qqb; exact (stCells_get _ _ _ _ hmb).2.1
      obtain ⟨aoa, ba, offa, na, capa, rfl, hla, haa, hca, ⟨hna, -⟩, hxa⟩ := hea
      obtain ⟨aob, bb, offb, nb, capb, rfl, hlb, hab, hcb, ⟨hnb, -⟩, hxb⟩ := heb
      unfold maxLen at hxa hxb
      obtain ⟨l2, hl2⟩ := walkS_events P S (0 + x) y
      have hta := walkS_told P S HK.out.ev (0 + x)
      have htb := walkS_told P S HK.out.ev (0 + x + y)
      have hva := (krun_walk HK.out (0 + x)).2
      have hvb := (krun_walk HK.out (0 + x + y)).2
      have hans := HS0.out.2.1
      have hle : na ≤ nb := by rw [← hla, ← hlb, hl2]; simp
      have HEL : Hid (∀ k : Nat, k < na → ∃ z, Wb.cell? ⟨ba, offa + k, none⟩ = some (.int .i64 z) ∧ Wb.cell? ⟨bb, offb + k, none⟩ = some (.int .i64 z)) := fun k hk => by
        have e1 := hca k (by omega)
        have e2 := hcb k (by omega)
        refine ⟨_, e1, ?_⟩
        rw [e2]
        congr 2
        simp only [hl2]
        rw [List.getElem_append_left (by omega)]
      have HAD : Hid ((0 < na → aoa = some ⟨ba, offa, none⟩) ∧ (0 < nb → aob = some ⟨bb, offb, none⟩)) := ⟨haa, hab⟩
      generalize (walkS P (0 + x) S).answers.length = la at ga21 hta
      generalize (walkS P (0 + x + y) S).answers.length = lb at gb21 htb
      generalize S.answers.length = ls at g2 hans hta htb
      rw [hla] at hta hva
      rw [hlb] at htb hvb
      have hd1 := wrap_diff ls na (by omega) (by omega)
      have hd2 := wrap_diff ls nb (by omega) (by omega)
      have HTA : Hid (la = ls - na) := hta
      have HTB : Hid (lb = ls - nb) := htb
      clear hta htb
      have HCE : Hid (∀ W, Below Wb.heap.size Wb W → W.cell? ⟨Ga, 20, none⟩ = some (.slice aoa na capa) ∧ W.cell? ⟨Gb, 20, none⟩ = some (.slice aob nb capb) ∧ W.cell? ⟨Ga, 21, none⟩ = some (.slice ara la aca) ∧ W.cell? ⟨Gb, 21, none⟩ = some (.slice arb lb acb) ∧ W.cell? ⟨w2.heap.size, 21, none⟩ = some (.slice ar2 ls ac2)) := fun W hW => by
        have f : ∀ {g i : Nat} {cs : Array Value} {u : Value}, Wb.heap[g]? = some (.cells cs 34 (0, 0)) → cs[i]? = some u → W.cell? ⟨g, i, none⟩ = some u := fun h1 h2 => keeps_below hW _ _ (by rw [cell_of_row _ _ _ _ _ _ h1]; exact h2)
        exact ⟨f ra ga20, f rowGb gb20, f ra ga21, f rowGb gb21, f r2 g2⟩
      obtain ⟨k1, k2, k3, k4, k5⟩ := HCE.out _ (Below.refl _ _)
      have hlI : decide ((nb : Int) < (na : Int)) = false := by simp; omega
      have hlN : decide (nb < na) = false := by simp; omega
      have BF : Hid (Below w.heap.size w Wb) := B01.out.trans ((B1a.out.trans (Bb.mono B1a.out.size)).mono B01.out.size)
      clear r2 s2 ra g2 ga21 gb21 ga20 gb20 qqa qqb hma hmb hca hcb haa hab hl2 rowGb hGb Bb B2b hla hlb
      go_wp2_with fail
      go_loopw [16] (fun i wr => ∃ k : Nat, k ≤ na ∧ i = .int .i64 k ∧ Below Wb.heap.size Wb wr) (fun i _ => na - (intOf i).toNat)
      case atStart => exact ⟨0, Nat.zero_le _, rfl, Below.refl _ _⟩
      case round =>
        obtain ⟨k, hk, rfl, hbr⟩ := hrel
        have HBR : Hid (Below Wb.heap.size Wb wr) := hbr
        clear k1 k2 k3 k4 k5
        obtain ⟨k1, k2, k3, k4, k5⟩ := HCE.out _ hbr
        by_cases hlt : k < na
        · obtain ⟨z, e1, e2⟩ := HEL.out k hlt
          have z1 := keeps_below hbr _ _ e1
          have z2 := keeps_below hbr _ _ e2
          obtain rfl := HAD.out.1 (by omega)
          obtain rfl := HAD.out.2 (by omega)
          have hkI : (k : Int) < na := by omega
          have hkb : k < nb := by omega
          have hkJ : (k : Int) < nb := by omega
          have hw1 : IntKind.i64.wrap ((k : Int) + 1) = (k : Int) + 1 := wrap_fits _ (by omega) (by omega)
          clear e1 e2 hbr hd1 hd2 k3 k4 k5
          go_wp2
          go_quiet (fail)
          go_wp2
          go_roundw
          case rel => exact ⟨k + 1, by omega, by go_num, below_drewN HBR.out _⟩
          case measure => simp [intOf]; omega
        · have hkI : decide ((k : Int) < (na : Int)) = false := by simp; omega
          clear hbr
          rcases Nat.lt_or_ge na ls with q1 | q1 <;> rcases Nat.lt_or_ge nb ls with q2 | q2
          · have p1 : (0 : Int) < (ls : Int) - (na : Int) := by omega
            have p2 : (0 : Int) < (ls : Int) - (nb : Int) := by omega
            have e1 : ((la : Int) == (ls : Int) - (na : Int)) = true := by have := HTA.out; simp; omega
            have e2 : ((lb : Int) == (ls : Int) - (nb : Int)) = true := by have := HTB.out; simp; omega
            clear q1 q2
            go_wp2
            go_ret
            exact ⟨rfl, BF.out.trans (HBR.out.mono BF.out.size)⟩
          · have p1 : (0 : Int) < (ls : Int) - (na : Int) := by omega
            have p2 : ¬ (0 : Int) < (ls : Int) - (nb : Int) := by omega
            have e1 : ((la : Int) == (ls : Int) - (na : Int)) = true := by have := HTA.out; simp; omega
            have e2 : ((lb : Int) == 0) = true := by have := HTB.out; simp; omega
            clear q1 q2
            go_wp2
            go_ret
            exact ⟨rfl, BF.out.trans (HBR.out.mono BF.out.size)⟩
          · exfalso; omega
          · have p1 : ¬ (0 : Int) < (ls : Int) - (na : Int) := by omega
            have p2 : ¬ (0 : Int) < (ls : Int) - (nb : Int) := by omega
            have e1 : ((la : Int) == 0) = true := by have := HTA.out; simp; omega
            have e2 : ((lb : Int) == 0) = true := by have := HTB.out; simp; omega
            clear q1 q2
            go_wp2
            go_ret
            exact ⟨rfl, BF.out.trans (HBR.out.mono BF.out.size)⟩
end Go.Proofs.YtcjclencbjllhaaDoor
