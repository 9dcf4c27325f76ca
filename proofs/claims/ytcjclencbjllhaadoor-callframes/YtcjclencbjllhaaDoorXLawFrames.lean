/- The walk of tierlinekeep.CallFrames: at all raw numbers it says true, and nothing that was there has turned. -/
import Derived.Test.YtcjclencbjllhaaDoorXKRun
import Derived.Test.YtcjclencbjllhaaDoorXTopKit
namespace Go.Proofs.YtcjclencbjllhaaDoor
open Go Go.RowKit

theorem StVal.framesI {w : World} {cs : Array Value} {S : St} (h : StVal w (.agg cs) S) {b off n cap : Nat} (hc : cs[2]? = some (.slice (some ⟨b, off, none⟩) n cap)) (i : Nat) (hi : i < S.frames.length) : w.rangeAt b (off + i * 14) (frCells S.frames[i]) ∧ S.frames[i].regs.length = 12 := by
  obtain ⟨fv, ev, av, e, hm, hf, -⟩ := h
  obtain rfl := Value.agg.inj e
  obtain ⟨hw, ao, b', off', n', cap', rfl, hl, ha, hcs, hcp, hx⟩ := hf
  have e2 := ha (by omega)
  subst e2
  have e3 : (stCells S (.slice (some ⟨b', off', none⟩) n' cap') ev av).toArray[2]? = some (.slice (some ⟨b', off', none⟩) n' cap') := rfl
  rw [e3] at hc
  cases hc
  exact ⟨hcs i hi, hw _ (List.getElem_mem hi)⟩
theorem begun_reg (fn a b : Int) (np q : Nat) (h : q < np) (h2 : np ≤ 2) : (begunFr fn ([a, b].take np)).regs.getD q 0 = [a, b].getD q 0 := by
  rcases (show (np = 1 ∧ q = 0) ∨ (np = 2 ∧ q = 0) ∨ (np = 2 ∧ q = 1) by omega) with ⟨rfl, rfl⟩ | ⟨rfl, rfl⟩ | ⟨rfl, rfl⟩ <;> rfl
theorem begun_len (fn a b : Int) (np : Nat) : (begunFr fn ([a, b].take np)).regs.length = 12 := regsOf_length _ (by simp; omega)

set_option maxHeartbeats 8000000 in
set_option maxRecDepth 100000 in
theorem callFrames_walk (l : List Fn) (v : Value) (a0 a1 fuel : Int) (nv : Value) (ln : List Int) (a : Int) (w : World) (ht : TabOk w) (hc : CallOk w) (hv : ProgVal w v l) (hwf : ∀ f ∈ l, f.wf) (hn : IntsVal w nv ln) (hfu : I64 fuel) (ha : I64 a) :
    Calls Tryd.prog 8 #[v, inVal a0 a1 nv fuel, .int .i64 a] w fun e w' => e = .returned (.bool true) ∧ Below w.heap.size w w' := by
  obtain ⟨x, hx, ex⟩ : ∃ x : Nat, x < 250 ∧ pickI a 250 = x := by have b := pickI_bounds a 250 (by omega); obtain ⟨k, hk⟩ := Int.eq_ofNat_of_zero_le b.1; exact ⟨k, by omega, hk⟩
  have hPX : Hid (∀ W, Calls Tryd.prog 22 #[.int .i64 a, .int .i64 250] W fun e w' => e = .returned (.int .i64 (x : Int)) ∧ w' = W) := fun W => by have := picked_any a 250 W ha (by omega) (by omega); rw [ex] at this; exact this
  clear ex ha
  obtain ⟨nao, nc, rfl⟩ := hn.shape
  obtain ⟨lao, ll, lc, rfl⟩ := hv.shape
  have HTC : Hid (∀ W, Below w.heap.size w W → TabOk W ∧ CallOk W) := fun W hb => ⟨ht.below hb, hc.below hb⟩
  have HB0 : Hid (Below w.heap.size w (w.alloc (.cells #[.int .i64 a0, .int .i64 a1, .slice nao ln.length nc, .int .i64 fuel] 26))) := (Below.refl _ _).alloc (Nat.le_refl _) _
  have HPR : Hid (Calls Tryd.prog 15 #[.slice lao ll lc] (w.alloc (.cells #[.int .i64 a0, .int .i64 a1, .slice nao ln.length nc, .int .i64 fuel] 26)) fun e w' => ∃ ao n cap P, e = .returned (.agg #[.slice ao n cap]) ∧ ProofAns P 0 ∧ ProgVal w' (.slice ao n cap) P ∧ Below (w.alloc (.cells #[.int .i64 a0, .int .i64 a1, .slice nao ln.length nc, .int .i64 fuel] 26)).heap.size (w.alloc (.cells #[.int .i64 a0, .int .i64 a1, .slice nao ln.length nc, .int .i64 fuel] 26)) w') := kprog l _ _ (HTC.out _ HB0.out).1 (HTC.out _ HB0.out).2 (hv.keeps (keeps_below HB0.out)) hwf
  have HNV : Hid (∀ W, Below w.heap.size w W → IntsVal W (.slice nao ln.length nc) ln) := fun W hb => hn.keeps (keeps_below hb)
  have HFU : Hid (I64 fuel) := hfu
  have infoIn : (Tryd.prog.info? 26).map (·.size) = some 4 := by kernel_rfl
  unfold inVal
  clear ht hc hv hwf hn hfu
  go_enter Tryd.func8, Tryd.ntmps8
  go_upto_region 2 with (go_at_call 15; refine HPR.out.mono ?_; rintro e w1 ⟨ao, n0, cap0, P, rfl, hR, hpv, hb1⟩)
  have HR : Hid (ProofAns P 0) := hR
  have B01 : Hid (Below w.heap.size w (w1.alloc (.cells #[.slice ao n0 cap0] 29))) := (HB0.out.trans (hb1.mono (by simp))).alloc (by have := hb1.size; simp at this; omega) _
  have I1 : (w1.alloc (.cells #[.slice ao n0 cap0] 29)).heap[w.heap.size]? = some (.cells #[.int .i64 a0, .int .i64 a1, .slice nao ln.length nc, .int .i64 fuel] 26 (0, 0)) := (heap_alloc_old _ _ (by have := hb1.size; simp at this; omega)).trans ((hb1.block _ (by simp)).trans (heap_alloc_last w _))
  have HP : Hid (∀ W, Below (w1.alloc (.cells #[.slice ao n0 cap0] 29)).heap.size (w1.alloc (.cells #[.slice ao n0 cap0] 29)) W → W.cell? ⟨w1.heap.size, 0, none⟩ = some (.slice ao n0 cap0) ∧ ProgVal W (.slice ao n0 cap0) P ∧ TabOk W ∧ CallOk W) := fun W hb => ⟨keeps_below hb _ _ (by rw [cell_of_row _ _ _ _ _ _ (heap_alloc_last w1 _)]; rfl), (hpv.keeps (keeps_below ((Below.refl _ _).alloc (Nat.le_refl _) _))).keeps (keeps_below hb), (HTC.out _ (B01.out.trans (hb.mono B01.out.size))).1, (HTC.out _ (B01.out.trans (hb.mono B01.out.size))).2⟩
  have HKB : Hid (Calls Tryd.prog 16 #[.agg #[.slice ao n0 cap0], .agg #[.int .i64 a0, .int .i64 a1, .slice nao ln.length nc, .int .i64 fuel]] (w1.alloc (.cells #[.slice ao n0 cap0] 29)) _) := kbegin P (.slice ao n0 cap0) a0 a1 fuel (.slice nao ln.length nc) ln (w1.alloc (.cells #[.slice ao n0 cap0] 29)) (HP.out _ (Below.refl _ _)).2.2.1 (HP.out _ (Below.refl _ _)).2.2.2 HR.out (HP.out _ (Below.refl _ _)).2.1 (HNV.out _ B01.out) HFU.out
  clear hR hpv hb1
  go_upto_region 3 with (first
    | (refine wpList_load_row rfl _ _ rfl _ rfl _ _ _ _ I1 Tryd.underlying26 rfl infoIn ?_)
    | (go_at_call 16; refine HKB.out.mono ?_; rintro e w2 ⟨cs2, S, rfl, hk, hs0, c1, c2, c3, hst, hb2⟩)
    | (refine wpList_store_row rfl _ _ _ rfl _ _ rfl rfl _ _ (heap_alloc_last w2 _) c1 c2 c3 ?_; rw [World.setRow_alloc_new]))
  have HK : Hid (KRunAt P S) := hk
  have HS0 : Hid (S.fuel ≤ 299 ∧ S.answers.length ≤ 10 ∧ S.status = 0) := hs0
  have B12 : Hid (Below (w1.alloc (.cells #[.slice ao n0 cap0] 29)).heap.size (w1.alloc (.cells #[.slice ao n0 cap0] 29)) (w2.alloc (.cells cs2 34))) := hb2.alloc hb2.size _
  have X2 : Hid (∀ W, Below (w2.alloc (.cells cs2 34)).heap.size (w2.alloc (.cells cs2 34)) W → W.heap[w2.heap.size]? = some (.cells cs2 34 (0, 0)) ∧ StVal W (.agg cs2) (walkS P 0 S)) := fun W hb => ⟨(hb.block _ (by simp)).trans (heap_alloc_last w2 _), (hst.val.keeps (keeps_below ((Below.refl _ _).alloc (Nat.le_refl _) _))).keeps (keeps_below hb)⟩
  have q2 : (Tryd.prog.info? 34).map (·.size) = some cs2.size := c1
  have HON2 : Hid (cs2.all (·.oneCell') = true) := c3
  have HZ12 : Hid ((w1.alloc (.cells #[.slice ao n0 cap0] 29)).heap.size ≤ w2.heap.size) := hb2.size
  have hz2 : zeroStCells.size = cs2.size := c2
  clear hk hs0 hst hb2 I1 HKB c1 c2 c3 infoIn
  go_upto_region 3 with fail
  have kp := (HP.out _ B12.out).1
  have r2 := (X2.out _ (Below.refl _ _)).1
  have HWX : Hid (∀ W, Below (w2.alloc (.cells cs2 34)).heap.size (w2.alloc (.cells cs2 34)) W → Calls Tryd.prog 25 #[.agg #[.slice ao n0 cap0], .agg cs2, .int .i64 ((x : Nat) : Int)] W _) := fun W hb => kwalk HK.out 0 x (by omega) (by omega) _ _ W (HP.out _ (B12.out.trans (hb.mono B12.out.size))).2.2.1 (HP.out _ (B12.out.trans (hb.mono B12.out.size))).2.2.2 (HP.out _ (B12.out.trans (hb.mono B12.out.size))).2.1 (X2.out _ hb).2
  go_cut [10] from 28 to 34 (fun e wx => ∃ csn : Array Value, e = .int .i64 0 ∧ wx.heap[w2.heap.size]? = some (.cells csn 34 (0, 0)) ∧ (Tryd.prog.info? 34).map (·.size) = some csn.size ∧ Below (w1.alloc (.cells #[.slice ao n0 cap0] 29)).heap.size (w1.alloc (.cells #[.slice ao n0 cap0] 29)) wx ∧ StVal wx (.agg csn) (walkS P (0 + x) S))
  case first =>
    refine wp_region_held_drew (S := fun W => W.cell? ⟨w1.heap.size, 0, none⟩ = some (.slice ao n0 cap0)) (by kernel_rfl) kp (fun hHeld => ?_)
    show wpAnyH _ _ _ _ _ 10 _ _ _
    refine wpAnyH_take (i := 0) (v := ?_) rfl (by kernel_rfl) (by kernel_rfl) (by kernel_rfl) (fun _ _ _ h => h) (Or.inl ⟨by rfl, ?_⟩) (by assumption) ?_
    rotate_left
    · (intro W hSW; go_simp; try (with_reducible rfl))
    (try simp only [Act.put, List.setIfInBounds_toArray])
    refine wpAnyH_take (i := 2) (v := ?_) rfl (by kernel_rfl) (by kernel_rfl) (by kernel_rfl) (fun _ _ _ h => h) (Or.inl ⟨by rfl, ?_⟩) (by assumption) ?_
    rotate_left
    · (intro W hSW; go_simp; try (with_reducible rfl))
    (try simp only [Act.put])
    refine wpAnyH_ready (rs := [1, 3]) (by kernel_rfl) (by simp) ?_
    refine AllReadyH.cons rfl (fun K hK => ?_) (AllReadyH.cons rfl (fun K hK => ?_) AllReadyH.nil)
    · -- the state is loaded first
      refine wp_load_row 34 _ rfl w2.heap.size rfl _ _ _ _ r2 Tryd.underlying34 rfl q2 ?_
      refine hK.out _ _ kp (fun _ => ?_)
      clear hK K
      (try simp only [Act.put])
      refine wpAnyH_ready (rs := [3]) (by kernel_rfl) (by simp) ?_
      refine AllReadyH.cons rfl (fun K hK => ?_) AllReadyH.nil
      go_simp
      go_at_call 22
      refine (hPX.out _).mono ?_
      rintro e wp ⟨rfl, hwp⟩
      replace hwp := hwp.symm
      subst hwp
      dsimp only
      refine hK.out _ _ kp (fun _ => ?_)
      clear hK K
      (try simp only [Act.put, List.setIfInBounds_toArray, List.set_cons_zero, List.set_cons_succ])
      refine wpAnyH_ready (rs := [4]) (by kernel_rfl) (by simp) ?_
      refine AllReadyH.cons rfl (fun K hK => ?_) AllReadyH.nil
      go_simp
      go_at_call 25
      refine (HWX.out _ ((Below.refl _ _).drew)).mono ?_
      rintro e w3 ⟨cs3, rfl, c1, c2, c3, hst, hb⟩
      have hb3 : Below (w2.alloc (.cells cs2 34)).heap.size (w2.alloc (.cells cs2 34)) w3 := (Below.refl _ _).drew.trans (hb.mono (Nat.le_refl _))
      have kp3 := keeps_below hb3 _ _ kp
      have r3 : w3.heap[w2.heap.size]? = some (.cells cs2 34 (0, 0)) := (hb3.block _ (by simp)).trans r2
      dsimp only
      refine hK.out _ _ kp3 (fun _ => ?_)
      clear hK K
      (try simp only [Act.put, List.setIfInBounds_toArray, List.set_cons_zero, List.set_cons_succ])
      refine wpAnyH_take (i := 5) (v := ?_) rfl (by kernel_rfl) (by kernel_rfl) (by kernel_rfl) (fun _ _ _ h => h) (Or.inl ⟨by rfl, ?_⟩) kp3 ?_
      rotate_left
      · (intro W hSW; go_simp; try (with_reducible rfl))
      (try simp only [Act.put, List.setIfInBounds_toArray])
      refine wpAnyH_take (i := 6) (v := ?_) rfl (by kernel_rfl) (by kernel_rfl) (by kernel_rfl) (fun _ _ _ h => h) (Or.inl ⟨by rfl, ?_⟩) kp3 ?_
      rotate_left
      · (intro W hSW; go_simp; try (with_reducible rfl))
      (try simp only [Act.put])
      refine wpAnyH_take (i := 7) (v := ?_) rfl (by kernel_rfl) (by kernel_rfl) (by kernel_rfl) (fun _ _ _ h => h) (Or.inl ⟨by rfl, ?_⟩) kp3 ?_
      rotate_left
      · (intro W hSW; go_simp; try (with_reducible rfl))
      (try simp only [Act.put])
      refine wpAnyH_ready (rs := [8]) (by kernel_rfl) (by simp) ?_
      refine AllReadyH.cons rfl (fun K hK => ?_) AllReadyH.nil
      refine wp_store_row 34 _ _ rfl w2.heap.size cs3 rfl rfl 34 cs2 r3 c1 (hz2.symm.trans c2) c3 ?_
      have BN : Below (w1.alloc (.cells #[.slice ao n0 cap0] 29)).heap.size (w1.alloc (.cells #[.slice ao n0 cap0] 29)) (World.setRow w3 w2.heap.size cs3) := below_setRow (B12.out.trans (hb3.mono B12.out.size)) (by have := HZ12.out; simpa using this) _
      have SN : StVal (World.setRow w3 w2.heap.size cs3) (.agg cs3) (walkS P (0 + x) S) := ((hst.mono (show w2.heap.size + 1 ≤ _ by simp)).setRow (by omega) _).val
      have kpN := (HP.out _ BN).1
      refine hK.out _ _ kpN (fun _ => ?_)
      clear hK K
      (try simp only [Act.put])
      refine wpAnyH_ready (rs := [9]) (by kernel_rfl) (by simp) ?_
      refine AllReadyH.cons rfl (fun K hK => ?_) AllReadyH.nil
      go_simp
      refine hK.out _ _ kpN (fun _ => ?_)
      clear hK K
      (try simp only [Act.put, List.setIfInBounds_toArray, List.set_cons_zero, List.set_cons_succ])
      refine wpAnyH_done (by kernel_rfl) ?_ _
      go_wp2_with fail
      go_meet
      exact ⟨cs3, rfl, setRow_heap _ _ _ _ _ _ r3, c1, BN, SN⟩
    · -- picked first
      go_simp
      go_at_call 22
      refine (hPX.out _).mono ?_
      rintro e wp ⟨rfl, hwp⟩
      replace hwp := hwp.symm
      subst hwp
      dsimp only
      refine hK.out _ _ kp (fun _ => ?_)
      clear hK K
      (try simp only [Act.put, List.setIfInBounds_toArray, List.set_cons_zero, List.set_cons_succ])
      refine wpAnyH_ready (rs := [1]) (by kernel_rfl) (by simp) ?_
      refine AllReadyH.cons rfl (fun K hK => ?_) AllReadyH.nil
      refine wp_load_row 34 _ rfl w2.heap.size rfl _ _ _ _ r2 Tryd.underlying34 rfl q2 ?_
      refine hK.out _ _ kp (fun _ => ?_)
      clear hK K
      (try simp only [Act.put, List.setIfInBounds_toArray])
      refine wpAnyH_ready (rs := [4]) (by kernel_rfl) (by simp) ?_
      refine AllReadyH.cons rfl (fun K hK => ?_) AllReadyH.nil
      go_simp
      go_at_call 25
      refine (HWX.out _ ((Below.refl _ _).drew)).mono ?_
      rintro e w3 ⟨cs3, rfl, c1, c2, c3, hst, hb⟩
      have hb3 : Below (w2.alloc (.cells cs2 34)).heap.size (w2.alloc (.cells cs2 34)) w3 := (Below.refl _ _).drew.trans (hb.mono (Nat.le_refl _))
      have kp3 := keeps_below hb3 _ _ kp
      have r3 : w3.heap[w2.heap.size]? = some (.cells cs2 34 (0, 0)) := (hb3.block _ (by simp)).trans r2
      dsimp only
      refine hK.out _ _ kp3 (fun _ => ?_)
      clear hK K
      (try simp only [Act.put, List.setIfInBounds_toArray, List.set_cons_zero, List.set_cons_succ])
      refine wpAnyH_take (i := 5) (v := ?_) rfl (by kernel_rfl) (by kernel_rfl) (by kernel_rfl) (fun _ _ _ h => h) (Or.inl ⟨by rfl, ?_⟩) kp3 ?_
      rotate_left
      · (intro W hSW; go_simp; try (with_reducible rfl))
      (try simp only [Act.put, List.setIfInBounds_toArray])
      refine wpAnyH_take (i := 6) (v := ?_) rfl (by kernel_rfl) (by kernel_rfl) (by kernel_rfl) (fun _ _ _ h => h) (Or.inl ⟨by rfl, ?_⟩) kp3 ?_
      rotate_left
      · (intro W hSW; go_simp; try (with_reducible rfl))
      (try simp only [Act.put])
      refine wpAnyH_take (i := 7) (v := ?_) rfl (by kernel_rfl) (by kernel_rfl) (by kernel_rfl) (fun _ _ _ h => h) (Or.inl ⟨by rfl, ?_⟩) kp3 ?_
      rotate_left
      · (intro W hSW; go_simp; try (with_reducible rfl))
      (try simp only [Act.put])
      refine wpAnyH_ready (rs := [8]) (by kernel_rfl) (by simp) ?_
      refine AllReadyH.cons rfl (fun K hK => ?_) AllReadyH.nil
      refine wp_store_row 34 _ _ rfl w2.heap.size cs3 rfl rfl 34 cs2 r3 c1 (hz2.symm.trans c2) c3 ?_
      have BN : Below (w1.alloc (.cells #[.slice ao n0 cap0] 29)).heap.size (w1.alloc (.cells #[.slice ao n0 cap0] 29)) (World.setRow w3 w2.heap.size cs3) := below_setRow (B12.out.trans (hb3.mono B12.out.size)) (by have := HZ12.out; simpa using this) _
      have SN : StVal (World.setRow w3 w2.heap.size cs3) (.agg cs3) (walkS P (0 + x) S) := ((hst.mono (show w2.heap.size + 1 ≤ _ by simp)).setRow (by omega) _).val
      have kpN := (HP.out _ BN).1
      refine hK.out _ _ kpN (fun _ => ?_)
      clear hK K
      (try simp only [Act.put])
      refine wpAnyH_ready (rs := [9]) (by kernel_rfl) (by simp) ?_
      refine AllReadyH.cons rfl (fun K hK => ?_) AllReadyH.nil
      go_simp
      refine hK.out _ _ kpN (fun _ => ?_)
      clear hK K
      (try simp only [Act.put, List.setIfInBounds_toArray, List.set_cons_zero, List.set_cons_succ])
      refine wpAnyH_done (by kernel_rfl) ?_ _
      go_wp2_with fail
      go_meet
      exact ⟨cs3, rfl, setRow_heap _ _ _ _ _ _ r3, c1, BN, SN⟩
  case rest =>
    rename World => WW
    obtain ⟨cs3, rfl, row3, q3, B1W0, st3⟩ := hcut
    have B1W : Hid (Below (w1.alloc (.cells #[.slice ao n0 cap0] 29)).heap.size (w1.alloc (.cells #[.slice ao n0 cap0] 29)) WW) := B1W0
    clear B1W0 kp r2 q2 hz2 HWX X2 B12
    have kp := (HP.out _ B1W.out).1
    have HC : Hid (Calls Tryd.prog 20 #[.agg #[.slice ao n0 cap0], .agg cs3] WW _) := knext HK.out (0 + x) (by omega) _ _ WW (HP.out _ B1W.out).2.2.1 (HP.out _ B1W.out).2.2.2 (HP.out _ B1W.out).2.1 st3
    go_upto_region 5 with (first
      | (refine wpList_load_row rfl _ _ rfl _ rfl _ _ _ _ row3 Tryd.underlying34 rfl q3 ?_)
      | (go_at_call 20; refine HC.out.mono ?_; rintro e w4 ⟨cs4, rfl, c1, c2, c3, hst, hb⟩)
      | (refine wpList_store_row rfl _ _ _ rfl _ _ rfl rfl _ _ (heap_alloc_last w4 _) c1 c2 c3 ?_; rw [World.setRow_alloc_new]))
    have B24 : Below WW.heap.size WW (w4.alloc (.cells cs4 34)) := hb.alloc hb.size _
    have r4 : (w4.alloc (.cells cs4 34)).heap[w4.heap.size]? = some (.cells cs4 34 (0, 0)) := heap_alloc_last w4 _
    have r3 : (w4.alloc (.cells cs4 34)).heap[w2.heap.size]? = some (.cells cs3 34 (0, 0)) := (B24.block _ (lt_of_block row3)).trans row3
    have s3 : StVal (w4.alloc (.cells cs4 34)) (.agg cs3) (walkS P (0 + x) S) := st3.keeps (keeps_below B24)
    have s4 : StVal (w4.alloc (.cells cs4 34)) (.agg cs4) (walkS P (0 + x + 1) S) := hst.val.keeps (keeps_below ((Below.refl _ _).alloc (Nat.le_refl _) _))
    have B14 : Hid (Below (w1.alloc (.cells #[.slice ao n0 cap0] 29)).heap.size (w1.alloc (.cells #[.slice ao n0 cap0] 29)) (w4.alloc (.cells cs4 34))) := B1W.out.trans (B24.mono B1W.out.size)
    have BF : Hid (Below w.heap.size w (w4.alloc (.cells cs4 34))) := B01.out.trans (B14.out.mono B01.out.size)
    obtain ⟨hv1, -⟩ := krun_walk HK.out (0 + x)
    clear HC kp row3 st3 hst hb c1 c2 c3 q3
    have e3 := s3.at
    have e4 := s4.at
    obtain ⟨g30, g31, -, fr3, fc3, -, -, -, -, g32, -, -⟩ := e3
    obtain ⟨g40, g41, -, fr4, fc4, -, -, -, -, g42, -, -⟩ := e4
    have k30 : (w4.alloc (.cells cs4 34)).cell? ⟨w2.heap.size, 0, none⟩ = some (.int .i64 (walkS P (0 + x) S).status) := by rw [cell_of_row _ _ _ _ _ _ r3]; exact g30
    have k40 : (w4.alloc (.cells cs4 34)).cell? ⟨w4.heap.size, 0, none⟩ = some (.int .i64 (walkS P (0 + x + 1) S).status) := by rw [cell_of_row _ _ _ _ _ _ r4]; exact g40
    have k32 : (w4.alloc (.cells cs4 34)).cell? ⟨w2.heap.size, 2, none⟩ = some (.slice fr3 (walkS P (0 + x) S).frames.length fc3) := by rw [cell_of_row _ _ _ _ _ _ r3]; exact g32
    have k42 : (w4.alloc (.cells cs4 34)).cell? ⟨w4.heap.size, 2, none⟩ = some (.slice fr4 (walkS P (0 + x + 1) S).frames.length fc4) := by rw [cell_of_row _ _ _ _ _ _ r4]; exact g42
    by_cases hs0 : (walkS P (0 + x) S).status = 0
    case neg =>
      have hne : ((walkS P (0 + x) S).status != 0) = true := by simpa using hs0
      rw [walkS_ended P (0 + x) (0 + x + 1) S (by omega) hs0] at k40 k42
      generalize (walkS P (0 + x) S).status = st at k30 k40 hne
      generalize (walkS P (0 + x) S).frames.length = fl at k32 k42
      clear s3 s4 hv1 r3 r4 B24 k40 g30 g31 g32 g40 g41 g42 hs0
      go_wp2
      go_ret
      exact ⟨rfl, BF.out⟩
    have HSN : Hid (∃ fs f, (walkS P (0 + x) S).frames = fs ++ [f]) := by
      rcases List.eq_nil_or_concat (walkS P (0 + x) S).frames with hnil | ⟨fs, f, hsn⟩
      · exact absurd hnil (run_frames hv1 hs0)
      · exact ⟨fs, f, by rw [hsn, List.concat_eq_append]⟩
    by_cases hs1 : (walkS P (0 + x + 1) S).status = 0 ∨ (walkS P (0 + x + 1) S).status = 1
    case neg =>
      have hn1 : ((walkS P (0 + x + 1) S).status != 0) = true := by simp only [bne_iff_ne, ne_eq]; omega
      have hn2 : ((walkS P (0 + x + 1) S).status != 1) = true := by simp only [bne_iff_ne, ne_eq]; omega
      have hfl : (walkS P (0 + x + 1) S).frames.length = (walkS P (0 + x) S).frames.length := by
        obtain ⟨fs, f, hsn⟩ := HSN.out
        rw [walkS_succ P (0 + x) S hs0] at hs1 ⊢
        exact step_ends hsn (fun h => hs1 (Or.inl h)) (fun h => hs1 (Or.inr h))
      rw [hs0] at k30
      rw [hfl] at k42
      generalize (walkS P (0 + x + 1) S).status = st at k40 hn1 hn2 hs1
      generalize (walkS P (0 + x) S).frames.length = fl at k32 k42 hfl
      clear s3 s4 hv1 r3 r4 B24 g30 g31 g32 g40 g41 g42 hs0 hs1 hfl
      go_wp2
      go_ret
      exact ⟨rfl, BF.out⟩
    have HV1 : Hid (RunInv P (walkS P (0 + x) S)) := hv1
    rw [hs0] at k30
    have HS1 : Hid ((walkS P (0 + x + 1) S).status = 0 ∨ (walkS P (0 + x + 1) S).status = 1) := hs1
    go_upto_region 7 with fail
    go_cut [63] from 51 to 62 (fun u wx => u = .bool false ∧ wx = (w4.alloc (.cells cs4 34)))
    case first =>
      clear s3 s4 hv1 r3 r4 B24 g30 g31 g32 g40 g41 g42 k32 k42
      rcases hs1 with hs1 | hs1
      · rw [hs1] at k40
        clear hs1 hs0
        go_wp2
        go_meet
        exact ⟨rfl, rfl⟩
      · rw [hs1] at k40
        clear hs1 hs0
        go_wp2
        go_meet
        exact ⟨rfl, rfl⟩
    case rest =>
      obtain ⟨hu, hwx⟩ := hcut
      subst hu
      subst hwx
      clear k32 k42 hs1
      obtain ⟨fs, f, hsn⟩ : ∃ fs f, (walkS P (0 + x) S).frames = fs ++ [f] := by
        rcases List.eq_nil_or_concat (walkS P (0 + x) S).frames with hnil | ⟨fs, f, hsn⟩
        · exact absurd hnil (run_frames hv1 hs0)
        · exact ⟨fs, f, by rw [hsn, List.concat_eq_append]⟩
      obtain ⟨fb, foff, fcap, g2, frng, f12, fc1, fc2⟩ := s3.framesAt hsn
      have k2 : (w4.alloc (.cells cs4 34)).cell? ⟨w2.heap.size, 2, none⟩ = some (.slice (some ⟨fb, foff, none⟩) (fs.length + 1) fcap) := by rw [cell_of_row _ _ _ _ _ _ r3]; exact g2
      have HK2 : Hid ((w4.alloc (.cells cs4 34)).cell? ⟨w2.heap.size, 2, none⟩ = some (.slice (some ⟨fb, foff, none⟩) (fs.length + 1) fcap)) := k2
      have HFR : Hid ((w4.alloc (.cells cs4 34)).rangeAt fb (foff + fs.length * 14) (frCells f)) := frng
      have hpf : placeB P f = true := hv1.fok.place f (by rw [hsn]; simp)
      have hix := place_ins (right_code HR.out) hpf
      obtain ⟨m, hm⟩ : ∃ m : Nat, m = fs.length + 1 := ⟨_, rfl⟩
      obtain ⟨j, hj⟩ : ∃ j : Nat, j = fs.length := ⟨_, rfl⟩
      have HMJ : Hid (m = j + 1 ∧ j = fs.length) := ⟨by omega, hj⟩
      rw [← hm] at k2 fc1
      rw [← hj] at frng
      have hw1 : IntKind.i64.wrap ((m : Int) - 1) = (j : Int) := by rw [show (m : Int) - 1 = j by omega]; exact wrap_fits _ (by omega) (by omega)
      have hjm : (j : Int) < m := by omega
      have hjn : j < m := by omega
      have hm0 : ¬ m = 0 := by omega
      have hfl : (Tryd.prog.info? 44).map (·.size) = some (frCells f).length := by rw [frCells_length f f12]; exact infoFr
      have hfs : (Tryd.prog.info? 44).map (·.size) = some (frCells f).toArray.size := by rw [List.size_toArray]; exact hfl
      have hfo : (frCells f).toArray.all (·.oneCell') = true := by rw [Array.all_eq_true_iff_forall_mem]; intro u hu; exact frCells_one _ u (by simpa using hu)
      have hfz : (zeroFr 0).toArray.size = (frCells f).toArray.size := by rw [List.size_toArray, List.size_toArray, frCells_length f f12]; rfl
      clear g2 hm hj
      go_upto_region 10 with (first
        | (refine wpList_load_mid rfl _ _ rfl fb (foff + j * 14) rfl (frCells f) _ frng Tryd.underlying44 rfl hfl ?_)
        | (refine wpList_store_row rfl _ _ _ rfl _ (frCells f).toArray rfl rfl 44 (zeroFr 0).toArray (heap_alloc2_new w4 _ _) hfs hfz hfo ?_; rw [setRow_alloc2m]))
      have B45 : Below (w4.alloc (.cells cs4 34)).heap.size (w4.alloc (.cells cs4 34)) ((w4.alloc (.cells cs4 34)).alloc (.cells (frCells f).toArray 44)) := (Below.refl _ _).alloc (Nat.le_refl _) _
      have B15 : Hid (Below (w1.alloc (.cells #[.slice ao n0 cap0] 29)).heap.size (w1.alloc (.cells #[.slice ao n0 cap0] 29)) ((w4.alloc (.cells cs4 34)).alloc (.cells (frCells f).toArray 44))) := B14.out.trans (B45.mono B14.out.size)
      obtain ⟨k, jj, pb, po, pcap, b1, off1, m1, cap1, e1, e2, e3, hk, d2, hjj, hm1, hc1, hpc, hpm, hins⟩ := prog_ins (HP.out _ B15.out).2.1 hpf
      have kp := (HP.out _ B15.out).1
      rw [e3] at kp
      have rt : ((w4.alloc (.cells cs4 34)).alloc (.cells (frCells f).toArray 44)).heap[(w4.heap.size + 1)]? = some (.cells (frCells f).toArray 44 (0, 0)) := heap_alloc2_new w4 _ _
      have t0 : ((w4.alloc (.cells cs4 34)).alloc (.cells (frCells f).toArray 44)).cell? ⟨(w4.heap.size + 1), 0, none⟩ = some (.int .i64 (k : Int)) := by rw [cell_of_row _ _ _ _ _ _ rt, ← e1]; rfl
      have t1 : ((w4.alloc (.cells cs4 34)).alloc (.cells (frCells f).toArray 44)).cell? ⟨(w4.heap.size + 1), 1, none⟩ = some (.int .i64 (jj : Int)) := by rw [cell_of_row _ _ _ _ _ _ rt, ← e2]; rfl
      have HFN : Hid (f.fn = (k : Int) ∧ f.pc = (jj : Int) ∧ k < P.length ∧ (jj : Int) + 1 ≤ 9223372036854775807) := ⟨e1, e2, by omega, by omega⟩
      have HTR : Hid (∀ W, Below ((w4.alloc (.cells cs4 34)).alloc (.cells (frCells f).toArray 44)).heap.size ((w4.alloc (.cells cs4 34)).alloc (.cells (frCells f).toArray 44)) W → W.cell? ⟨(w4.heap.size + 1), 0, none⟩ = some (.int .i64 (k : Int)) ∧ W.cell? ⟨(w4.heap.size + 1), 1, none⟩ = some (.int .i64 (jj : Int)) ∧ ∀ r : Nat, r < 12 → W.cell? ⟨(w4.heap.size + 1), 2 + r, none⟩ = some (.int .i64 (f.regs.getD r 0))) := fun W hW => ⟨keeps_below hW _ _ t0, keeps_below hW _ _ t1, fun r hr => keeps_below hW _ _ (by rw [cell_of_row _ _ _ _ _ _ rt, List.getElem?_toArray, show 2 + r = r + 1 + 1 by omega]; simp [frCells, i64s, List.getD, f12, hr])⟩
      have HS3 : Hid (∀ W, Below ((w4.alloc (.cells cs4 34)).alloc (.cells (frCells f).toArray 44)).heap.size ((w4.alloc (.cells cs4 34)).alloc (.cells (frCells f).toArray 44)) W → W.heap[w2.heap.size]? = some (.cells cs3 34 (0, 0)) ∧ W.heap[w4.heap.size]? = some (.cells cs4 34 (0, 0)) ∧ StVal W (.agg cs3) (walkS P (0 + x) S) ∧ StVal W (.agg cs4) (walkS P (0 + x + 1) S)) := fun W hW => ⟨(hW.block _ (by have := lt_of_block r3; simp at this ⊢; omega)).trans ((B45.block _ (lt_of_block r3)).trans r3), (hW.block _ (by simp; omega)).trans ((B45.block _ (by simp)).trans r4), (s3.keeps (keeps_below B45)).keeps (keeps_below hW), (s4.keeps (keeps_below B45)).keeps (keeps_below hW)⟩
      have hkI : (k : Int) < P.length := by omega
      have hjI : (jj : Int) < m1 := by omega
      have hix2 : InsOk P (insOfFr P f) := hix
      have hins2 : insAt ((w4.alloc (.cells cs4 34)).alloc (.cells (frCells f).toArray 44)) b1 (off1 + jj * 5) (insOfFr P f) := hins
      have F12 : Hid (f.regs.length = 12) := f12
      clear hix frng hins f12
      obtain ⟨xo, xd, xa, xb, xi, HXE, HIX, i0, i1, i2, i3, i4⟩ : ∃ xo xd xa xb xi, Hid (insOfFr P f = ⟨xo, xd, xa, xb, xi⟩) ∧ Hid (InsOk P ⟨xo, xd, xa, xb, xi⟩) ∧ ((w4.alloc (.cells cs4 34)).alloc (.cells (frCells f).toArray 44)).cell? ⟨b1, off1 + jj * 5, none⟩ = some (.int .i64 xo) ∧ ((w4.alloc (.cells cs4 34)).alloc (.cells (frCells f).toArray 44)).cell? ⟨b1, off1 + jj * 5 + 1, none⟩ = some (.int .i64 xd) ∧ ((w4.alloc (.cells cs4 34)).alloc (.cells (frCells f).toArray 44)).cell? ⟨b1, off1 + jj * 5 + 2, none⟩ = some (.int .i64 xa) ∧ ((w4.alloc (.cells cs4 34)).alloc (.cells (frCells f).toArray 44)).cell? ⟨b1, off1 + jj * 5 + 3, none⟩ = some (.int .i64 xb) ∧ ((w4.alloc (.cells cs4 34)).alloc (.cells (frCells f).toArray 44)).cell? ⟨b1, off1 + jj * 5 + 4, none⟩ = some (.int .i64 xi) := ⟨_, _, _, _, _, (rfl : insOfFr P f = _), hix2, hins2.1, hins2.2.1, hins2.2.2.1, hins2.2.2.2.1, hins2.2.2.2.2⟩
      have BF5 : Hid (Below w.heap.size w ((w4.alloc (.cells cs4 34)).alloc (.cells (frCells f).toArray 44))) := BF.out.trans (B45.mono BF.out.size)
      clear hix2 hins2 s3 s4 r3 r4 B24 k2 hv1 hpf fc1 fc2 hw1 hjm hjn hm0 hfl hfs hfo hfz rt e1 e2 BF k30 k40 g30 g31 g32 g40 g41 g42
      simp only [Act.put]
      go_cut [14] from 79 to 89 (fun t wx => ∃ G : Nat, t = .pointer (some ⟨G, 0, none⟩) ∧ wx.heap[G]? = some (.cells #[.int .i64 xo, .int .i64 xd, .int .i64 xa, .int .i64 xb, .int .i64 xi] 46 (0, 0)) ∧ Below ((w4.alloc (.cells cs4 34)).alloc (.cells (frCells f).toArray 44)).heap.size ((w4.alloc (.cells cs4 34)).alloc (.cells (frCells f).toArray 44)) wx)
      case first =>
        refine wp_region_held_drew (S := fun W => Below ((w4.alloc (.cells cs4 34)).alloc (.cells (frCells f).toArray 44)).heap.size ((w4.alloc (.cells cs4 34)).alloc (.cells (frCells f).toArray 44)) W) (by kernel_rfl) ((Below.refl _ _).drew) (fun hHeld => ?_)
        show wpAnyH _ _ _ _ _ 13 _ _ _
        refine wpAnyH_take (i := 0) (v := ?_) rfl (by kernel_rfl) (by kernel_rfl) (by kernel_rfl) (fun _ _ _ h => h) (Or.inl ⟨by rfl, ?_⟩) (by assumption) ?_
        rotate_left
        · (intro W hSW; go_simp; try (with_reducible rfl))
        (try simp only [Act.put, List.setIfInBounds_toArray])
        refine wpAnyH_take (i := 1) (v := ?_) rfl (by kernel_rfl) (by kernel_rfl) (by kernel_rfl) (fun _ _ _ h => h) (Or.inl ⟨by rfl, ?_⟩) (by assumption) ?_
        rotate_left
        · (intro W hSW; have z0 := keeps_below hSW _ _ kp; go_simp; try (with_reducible rfl))
        (try simp only [Act.put])
        refine wpAnyH_take (i := 2) (v := ?_) rfl (by kernel_rfl) (by kernel_rfl) (by kernel_rfl) (fun _ _ _ h => h) (Or.inl ⟨by rfl, ?_⟩) (by assumption) ?_
        rotate_left
        · (intro W hSW; go_simp; try (with_reducible rfl))
        (try simp only [Act.put])
        refine wpAnyH_take (i := 3) (v := ?_) rfl (by kernel_rfl) (by kernel_rfl) (by kernel_rfl) (fun _ _ _ h => h) (Or.inl ⟨by rfl, ?_⟩) (by assumption) ?_
        rotate_left
        · (intro W hSW; have z0 := keeps_below hSW _ _ t0; go_simp; try (with_reducible rfl))
        (try simp only [Act.put])
        refine wpAnyH_take (i := 4) (v := ?_) rfl (by kernel_rfl) (by kernel_rfl) (by kernel_rfl) (fun _ _ _ h => h) (Or.inl ⟨by rfl, ?_⟩) (by assumption) ?_
        rotate_left
        · (intro W hSW; go_simp; try (with_reducible rfl))
        (try simp only [Act.put])
        refine wpAnyH_take (i := 5) (v := ?_) rfl (by kernel_rfl) (by kernel_rfl) (by kernel_rfl) (fun _ _ _ h => h) (Or.inl ⟨by rfl, ?_⟩) (by assumption) ?_
        rotate_left
        · (intro W hSW; go_simp; try (with_reducible rfl))
        (try simp only [Act.put])
        refine wpAnyH_take (i := 6) (v := ?_) rfl (by kernel_rfl) (by kernel_rfl) (by kernel_rfl) (fun _ _ _ h => h) (Or.inl ⟨by rfl, ?_⟩) (by assumption) ?_
        rotate_left
        · (intro W hSW; have z0 := keeps_below hSW _ _ d2; go_simp; try (with_reducible rfl))
        (try simp only [Act.put])
        refine wpAnyH_take (i := 7) (v := ?_) rfl (by kernel_rfl) (by kernel_rfl) (by kernel_rfl) (fun _ _ _ h => h) (Or.inl ⟨by rfl, ?_⟩) (by assumption) ?_
        rotate_left
        · (intro W hSW; go_simp; try (with_reducible rfl))
        (try simp only [Act.put])
        refine wpAnyH_take (i := 8) (v := ?_) rfl (by kernel_rfl) (by kernel_rfl) (by kernel_rfl) (fun _ _ _ h => h) (Or.inl ⟨by rfl, ?_⟩) (by assumption) ?_
        rotate_left
        · (intro W hSW; have z0 := keeps_below hSW _ _ t1; go_simp; try (with_reducible rfl))
        (try simp only [Act.put])
        refine wpAnyH_take (i := 9) (v := ?_) rfl (by kernel_rfl) (by kernel_rfl) (by kernel_rfl) (fun _ _ _ h => h) (Or.inl ⟨by rfl, ?_⟩) (by assumption) ?_
        rotate_left
        · (intro W hSW; go_simp; try (with_reducible rfl))
        (try simp only [Act.put])
        refine wpAnyH_take (i := 10) (v := ?_) rfl (by kernel_rfl) (by kernel_rfl) (by kernel_rfl) (fun _ _ _ h => h) (Or.inl ⟨by rfl, ?_⟩) (by assumption) ?_
        rotate_left
        · (intro W hSW; have z0 := keeps_below hSW _ _ i0; have z1 := keeps_below hSW _ _ i1; have z2 := keeps_below hSW _ _ i2; have z3 := keeps_below hSW _ _ i3; have z4 := keeps_below hSW _ _ i4; go_simp; try (with_reducible rfl))
        (try simp only [Act.put])
        refine wpAnyH_ready (rs := [11]) (by kernel_rfl) (by simp) ?_
        refine AllReadyH.cons rfl (fun K hK => ?_) AllReadyH.nil
        go_simp
        refine hK.out _ _ ((Below.refl _ _).alloc (Nat.le_refl _) _).drew (fun _ => ?_)
        clear hK K
        (try simp only [Act.put, List.setIfInBounds_toArray, List.set_cons_zero, List.set_cons_succ])
        refine wpAnyH_ready (rs := [12]) (by kernel_rfl) (by simp) ?_
        refine AllReadyH.cons rfl (fun K hK => ?_) AllReadyH.nil
        go_simp
        refine hK.out _ _ ((Below.refl _ _).alloc (Nat.le_refl _) _).drew (fun _ => ?_)
        clear hK K
        (try simp only [Act.put, List.setIfInBounds_toArray, List.set_cons_zero, List.set_cons_succ])
        refine wpAnyH_done (by kernel_rfl) ?_ _
        go_wp2_with fail
        go_meet
        exact ⟨_, rfl, heap_alloc3_new w4 _ _ _, ((Below.refl _ _).alloc (Nat.le_refl _) _).drew⟩
      case rest =>
        rename World => WX
        obtain ⟨G, rfl, rowX, BX⟩ := hcut
        have HBX : Hid (Below ((w4.alloc (.cells cs4 34)).alloc (.cells (frCells f).toArray 44)).heap.size ((w4.alloc (.cells cs4 34)).alloc (.cells (frCells f).toArray 44)) WX) := BX
        have HCX : Hid (∀ W, Below WX.heap.size WX W → W.cell? ⟨G, 0, none⟩ = some (.int .i64 xo) ∧ W.cell? ⟨G, 1, none⟩ = some (.int .i64 xd) ∧ W.cell? ⟨G, 2, none⟩ = some (.int .i64 xa) ∧ W.cell? ⟨G, 3, none⟩ = some (.int .i64 xb) ∧ W.cell? ⟨G, 4, none⟩ = some (.int .i64 xi)) := fun W hW => ⟨keeps_below hW _ _ (by rw [cell_of_row _ _ _ _ _ _ rowX]; rfl), keeps_below hW _ _ (by rw [cell_of_row _ _ _ _ _ _ rowX]; rfl), keeps_below hW _ _ (by rw [cell_of_row _ _ _ _ _ _ rowX]; rfl), keeps_below hW _ _ (by rw [cell_of_row _ _ _ _ _ _ rowX]; rfl), keeps_below hW _ _ (by rw [cell_of_row _ _ _ _ _ _ rowX]; rfl)⟩
        have HPX : Hid (∀ W, Below WX.heap.size WX W → W.cell? ⟨w1.heap.size, 0, none⟩ = some (.slice (some ⟨pb, po, none⟩) P.length pcap) ∧ ProgVal W (.slice (some ⟨pb, po, none⟩) P.length pcap) P) := fun W hW => by have h := HP.out W (B15.out.trans ((HBX.out.trans (hW.mono HBX.out.size)).mono B15.out.size)); rw [e3] at h; exact ⟨h.1, h.2.1⟩
        have HS3X : Hid (∀ W, Below WX.heap.size WX W → W.heap[w2.heap.size]? = some (.cells cs3 34 (0, 0)) ∧ W.heap[w4.heap.size]? = some (.cells cs4 34 (0, 0)) ∧ StVal W (.agg cs3) (walkS P (0 + x) S) ∧ StVal W (.agg cs4) (walkS P (0 + x + 1) S)) := fun W hW => HS3.out W (HBX.out.trans (hW.mono HBX.out.size))
        have HTX : Hid (∀ W, Below WX.heap.size WX W → W.cell? ⟨(w4.heap.size + 1), 0, none⟩ = some (.int .i64 (k : Int)) ∧ W.cell? ⟨(w4.heap.size + 1), 1, none⟩ = some (.int .i64 (jj : Int)) ∧ ∀ r : Nat, r < 12 → W.cell? ⟨(w4.heap.size + 1), 2 + r, none⟩ = some (.int .i64 (f.regs.getD r 0))) := fun W hW => HTR.out W (HBX.out.trans (hW.mono HBX.out.size))
        have BFX : Hid (Below w.heap.size w WX) := BF5.out.trans (HBX.out.mono BF5.out.size)
        obtain ⟨c0, c1, c2, c3, c4⟩ := HCX.out _ (Below.refl _ _)
        clear kp t0 t1 d2 i0 i1 i2 i3 i4 rowX BX B45
        have HS01 : Hid ((walkS P (0 + x) S).status = 0 ∧ (walkS P (0 + x) S).frames = fs ++ [f]) := ⟨hs0, hsn⟩
        have hF := step_frames (P := P) hsn (by rw [← walkS_succ P (0 + x) S hs0]; exact HS1.out)
        rw [← walkS_succ P (0 + x) S hs0, HXE.out] at hF
        dsimp only at hF
        clear hs0 hsn e3
        obtain ⟨row3, row4, sx3, sx4⟩ := HS3X.out WX (Below.refl _ _)
        have kx2 := keeps_below HBX.out _ _ (keeps_below ((Below.refl _ _).alloc (Nat.le_refl _) _) _ _ HK2.out)
        obtain ⟨ka, hka⟩ := Int.eq_ofNat_of_zero_le HIX.out.a0
        obtain ⟨kb, hkb⟩ := Int.eq_ofNat_of_zero_le HIX.out.b0
        have la : ka < 12 := by have := HIX.out.a1; omega
        have lb : kb < 12 := by have := HIX.out.b1; omega
        dsimp only at hka hkb
        subst hka hkb
        have laI : (ka : Int) < 12 := by omega
        have lbI : (kb : Int) < 12 := by omega
        have hra : regD f (ka : Int) = f.regs.getD ka 0 := rfl
        have hrb : regD f (kb : Int) = f.regs.getD kb 0 := rfl
        rw [hra, hrb] at hF
        clear hra hrb
        rcases hF with ⟨h17, hfr⟩ | ⟨h19, hfs0, hfr, hval⟩ | ⟨h19, gs, hh, hgs, hfr⟩ | ⟨h17, h19, hfl⟩
        · -- a Call
          subst h17
          obtain ⟨ci0, ci1, cp0, cp2⟩ := HIX.out.call rfl
          dsimp only at ci0 ci1 cp0 cp2
          obtain ⟨kc, hkc⟩ := Int.eq_ofNat_of_zero_le ci0
          subst hkc
          have hkcP : kc < P.length := by omega
          have epa : paramsAt P (kc : Int) = P[kc].params := by simp [paramsAt, List.getD, hkcP]
          obtain ⟨np, hnp⟩ := Int.eq_ofNat_of_zero_le cp0
          have enp : (fnD P (kc : Int)).params.toNat = np := by have : (fnD P (kc : Int)).params = paramsAt P (kc : Int) := rfl; rw [this, hnp]; rfl
          rw [enp] at hfr
          have hnp2 : np ≤ 2 := by omega
          have hfr2 : (walkS P (0 + x + 1) S).frames = (fs ++ [f]) ++ [begunFr (kc : Int) ([f.regs.getD ka 0, f.regs.getD kb 0].take np)] := by rw [hfr]; simp
          have HBR : Hid (∀ q, q < np → (begunFr (kc : Int) ([f.regs.getD ka 0, f.regs.getD kb 0].take np)).regs.getD q 0 = [f.regs.getD ka 0, f.regs.getD kb 0].getD q 0) := fun q hq => begun_reg _ _ _ np q hq hnp2
          have g12 := begun_len (kc : Int) (f.regs.getD ka 0) (f.regs.getD kb 0) np
          have HGF : Hid ((begunFr (kc : Int) ([f.regs.getD ka 0, f.regs.getD kb 0].take np)).fn = (kc : Int) ∧ (begunFr (kc : Int) ([f.regs.getD ka 0, f.regs.getD kb 0].take np)).pc = 0) := ⟨rfl, rfl⟩
          obtain ⟨gb, goff, gcap, g2, grng, -, gc1, gc2⟩ := sx4.framesAt hfr2
          generalize begunFr (kc : Int) ([f.regs.getD ka 0, f.regs.getD kb 0].take np) = gg at *
          have ky2 : WX.cell? ⟨w4.heap.size, 2, none⟩ = some (.slice (some ⟨gb, goff, none⟩) ((fs ++ [f]).length + 1) gcap) := by rw [cell_of_row _ _ _ _ _ _ row4]; exact g2
          have elen : (fs ++ [f]).length = m := by have := HMJ.out; simp; omega
          rw [elen] at ky2 grng gc1
          have em : fs.length + 1 = m := by have := HMJ.out; omega
          rw [em] at kx2
          have HM2 : Hid (m + 1 ≤ 9223372036854775807) := by show _ ≤ _; omega
          have hfl : (Tryd.prog.info? 44).map (·.size) = some (frCells gg).length := by rw [frCells_length _ g12]; exact infoFr
          have hfs : (Tryd.prog.info? 44).map (·.size) = some (frCells gg).toArray.size := by rw [List.size_toArray]; exact hfl
          have hfo : (frCells gg).toArray.all (·.oneCell') = true := by rw [Array.all_eq_true_iff_forall_mem]; intro u hu; exact frCells_one _ u (by simpa using hu)
          have hfz : (zeroFr 0).toArray.size = (frCells gg).toArray.size := by rw [List.size_toArray, List.size_toArray, frCells_length _ g12]; rfl
          have hwm : IntKind.i64.wrap (((m + 1 : Nat) : Int) - 1) = (m : Int) := by rw [show ((m + 1 : Nat) : Int) - 1 = m by omega]; exact wrap_fits _ (by omega) (by have := HM2.out; omega)
          have hwm2 : IntKind.i64.wrap ((m : Int) + 1) = ((m + 1 : Nat) : Int) := by rw [show (m : Int) + 1 = ((m + 1 : Nat) : Int) by omega]; exact wrap_fits _ (by omega) (by have := HM2.out; omega)
          obtain ⟨mt, hmt⟩ : ∃ mt : Nat, mt = m + 1 := ⟨_, rfl⟩
          rw [← hmt] at ky2 gc1 hwm hwm2
          have hmmI : (m : Int) < mt := by omega
          have hmm : m < mt := by omega
          have hmt0 : ¬ mt = 0 := by omega
          clear hmt elen em hfr hfr2 g2 epa enp cp0 cp2 ci0 ci1
          go_upto_region 15 with (first
            | (refine wpList_load_mid rfl _ _ rfl gb (goff + m * 14) rfl (frCells gg) _ grng Tryd.underlying44 rfl hfl ?_)
            | (refine wpList_store_row rfl _ _ _ rfl _ (frCells gg).toArray rfl rfl 44 (zeroFr 0).toArray (heap_alloc_last WX _) hfs hfz hfo ?_; rw [World.setRow_alloc_new]))
          have BY : Below WX.heap.size WX (WX.alloc (.cells (frCells gg).toArray 44)) := (Below.refl _ _).alloc (Nat.le_refl _) _
          have ry : (WX.alloc (.cells (frCells gg).toArray 44)).heap[WX.heap.size]? = some (.cells (frCells gg).toArray 44 (0, 0)) := heap_alloc_last WX _
          generalize (WX.alloc (.cells (frCells gg).toArray 44)) = WY at BY ry ⊢
          have BFY : Hid (Below w.heap.size w WY) := BFX.out.trans (BY.mono BFX.out.size)
          have HCY : Hid (∀ W, Below WY.heap.size WY W → W.cell? ⟨WX.heap.size, 0, none⟩ = some (.int .i64 (kc : Int)) ∧ W.cell? ⟨WX.heap.size, 1, none⟩ = some (.int .i64 0) ∧ (∀ r : Nat, r < 12 → W.cell? ⟨WX.heap.size, 2 + r, none⟩ = some (.int .i64 (gg.regs.getD r 0))) ∧ W.cell? ⟨w4.heap.size, 2, none⟩ = some (.slice (some ⟨gb, goff, none⟩) mt gcap) ∧ W.cell? ⟨w2.heap.size, 2, none⟩ = some (.slice (some ⟨fb, foff, none⟩) m fcap)) := fun W hW => ⟨keeps_below hW _ _ (by rw [cell_of_row _ _ _ _ _ _ ry, ← HGF.out.1]; rfl), keeps_below hW _ _ (by rw [cell_of_row _ _ _ _ _ _ ry, ← HGF.out.2]; rfl), fun r hr => keeps_below hW _ _ (by rw [cell_of_row _ _ _ _ _ _ ry]; exact frCells_reg12 _ g12 r hr), keeps_below hW _ _ (keeps_below BY _ _ ky2), keeps_below hW _ _ (keeps_below BY _ _ kx2)⟩
          have HBYX : Hid (Below WX.heap.size WX WY) := BY
          have HXW : Hid (∀ W, Below WY.heap.size WY W → W.cell? ⟨w1.heap.size, 0, none⟩ = some (.slice (some ⟨pb, po, none⟩) P.length pcap) ∧ W.cell? ⟨pb, po + kc * 3, none⟩ = some (.int .i64 (np : Int)) ∧ W.cell? ⟨G, 2, none⟩ = some (.int .i64 (ka : Int)) ∧ W.cell? ⟨G, 3, none⟩ = some (.int .i64 (kb : Int)) ∧ W.cell? ⟨G, 4, none⟩ = some (.int .i64 (kc : Int)) ∧ ∀ r : Nat, r < 12 → W.cell? ⟨(w4.heap.size + 1), 2 + r, none⟩ = some (.int .i64 (f.regs.getD r 0))) := fun W hW => by
            have hX := HBYX.out.trans (hW.mono HBYX.out.size)
            obtain ⟨p1, p2⟩ := HPX.out W hX
            obtain ⟨_, _, _, _, e, d0, -⟩ := prog_fn p2 hkcP
            cases e
            have hq := HCX.out W hX
            refine ⟨p1, ?_, hq.2.2.1, hq.2.2.2.1, hq.2.2.2.2, (HTX.out W hX).2.2⟩
            rw [d0, ← hnp]; simp [paramsAt, List.getD, hkcP]
          have HNP : Hid (np ≤ 2) := hnp2
          have hkcI : (kc : Int) < P.length := by omega
          have hnpI : (np : Int) ≤ 2 := by omega
          clear BY ry ky2 kx2 grng gc1 gc2 hfl hfs hfo hfz hwm hmmI hmm hmt0 c0 c1 c2 c3 c4 row3 row4 sx3 sx4 g12 hnp
          generalize hPl : P.length = PL at *
          clear hPl
          go_loopw [16] (fun i wr => ∃ q : Nat, q ≤ np ∧ i = .int .i64 q ∧ Below WY.heap.size WY wr) (fun i _ => np - (intOf i).toNat)
          case atStart => exact ⟨0, Nat.zero_le _, rfl, Below.refl _ _⟩
          case round =>
            obtain ⟨q, hq, rfl, hbr⟩ := hrel
            have HBQ : Hid (Below WY.heap.size WY wr) := hbr
            obtain ⟨x1, x2, x3, x4, x5, x6⟩ := HXW.out wr hbr
            obtain ⟨y1, y2, y3, y4, y5⟩ := HCY.out wr hbr
            clear hbr
            by_cases hlt : q < np
            · have hqI : (q : Int) < np := by omega
              have hreg := HBR.out q hlt
              rcases (show q = 0 ∨ q = 1 by omega) with rfl | rfl
              · have z1 := y3 0 (by omega)
                have z2 := x6 ka la
                have hsame : gg.regs.getD 0 0 = f.regs.getD ka 0 := hreg
                rw [hsame] at z1
                generalize f.regs.getD ka 0 = zz at z1 z2
                clear hsame hreg y3 x6
                go_wp2_with fail
                refine wp_region_held_drew (S := fun W => Below wr.heap.size wr W) (by kernel_rfl) ((Below.refl _ _).drew) (fun hHeld => ?_)
                show wpAnyH _ _ _ _ _ 16 _ _ _
                refine wpAnyH_take (i := 0) (v := ?_) rfl (by kernel_rfl) (by kernel_rfl) (by kernel_rfl) (fun _ _ _ h => h) (Or.inl ⟨by rfl, ?_⟩) (by assumption) ?_
                rotate_left
                · (intro W hSW; go_simp; try (with_reducible rfl))
                (try simp only [Act.put, List.setIfInBounds_toArray])
                refine wpAnyH_take (i := 1) (v := ?_) rfl (by kernel_rfl) (by kernel_rfl) (by kernel_rfl) (fun _ _ _ h => h) (Or.inl ⟨by rfl, ?_⟩) (by assumption) ?_
                rotate_left
                · (intro W hSW; go_simp; try (with_reducible rfl))
                (try simp only [Act.put])
                refine wpAnyH_take (i := 2) (v := ?_) rfl (by kernel_rfl) (by kernel_rfl) (by kernel_rfl) (fun _ _ _ h => h) (Or.inl ⟨by rfl, ?_⟩) (by assumption) ?_
                rotate_left
                · (intro W hSW; go_simp; try (with_reducible rfl))
                (try simp only [Act.put])
                refine wpAnyH_take (i := 3) (v := ?_) rfl (by kernel_rfl) (by kernel_rfl) (by kernel_rfl) (fun _ _ _ h => h) (Or.inl ⟨by rfl, ?_⟩) (by assumption) ?_
                rotate_left
                · (intro W hSW; have v0 := keeps_below hSW _ _ z1; go_simp; try (with_reducible rfl))
                (try simp only [Act.put])
                refine wpAnyH_take (i := 4) (v := ?_) rfl (by kernel_rfl) (by kernel_rfl) (by kernel_rfl) (fun _ _ _ h => h) (Or.inl ⟨by rfl, ?_⟩) (by assumption) ?_
                rotate_left
                · (intro W hSW; go_simp; try (with_reducible rfl))
                (try simp only [Act.put])
                refine wpAnyH_take (i := 5) (v := ?_) rfl (by kernel_rfl) (by kernel_rfl) (by kernel_rfl) (fun _ _ _ h => h) (Or.inl ⟨by rfl, ?_⟩) (by assumption) ?_
                rotate_left
                · (intro W hSW; have v0 := keeps_below hSW _ _ x3; go_simp; try (with_reducible rfl))
                (try simp only [Act.put])
                refine wpAnyH_take (i := 6) (v := ?_) rfl (by kernel_rfl) (by kernel_rfl) (by kernel_rfl) (fun _ _ _ h => h) (Or.inl ⟨by rfl, ?_⟩) (by assumption) ?_
                rotate_left
                · (intro W hSW; go_simp; try (with_reducible rfl))
                (try simp only [Act.put])
                refine wpAnyH_take (i := 7) (v := ?_) rfl (by kernel_rfl) (by kernel_rfl) (by kernel_rfl) (fun _ _ _ h => h) (Or.inl ⟨by rfl, ?_⟩) (by assumption) ?_
                rotate_left
                · (intro W hSW; have v0 := keeps_below hSW _ _ x4; go_simp; try (with_reducible rfl))
                (try simp only [Act.put])
                refine wpAnyH_take (i := 9) (v := ?_) rfl (by kernel_rfl) (by kernel_rfl) (by kernel_rfl) (fun _ _ _ h => h) (Or.inl ⟨by rfl, ?_⟩) (by assumption) ?_
                rotate_left
                · (intro W hSW; go_simp; try (with_reducible rfl))
                (try simp only [Act.put])
                refine wpAnyH_take (i := 12) (v := ?_) rfl (by kernel_rfl) (by kernel_rfl) (by kernel_rfl) (fun _ _ _ h => h) (Or.inl ⟨by rfl, ?_⟩) (by assumption) ?_
                rotate_left
                · (intro W hSW; go_simp; try (with_reducible rfl))
                (try simp only [Act.put])
                refine wpAnyH_ready (rs := [8]) (by kernel_rfl) (by simp) ?_
                refine AllReadyH.cons rfl (fun K hK => ?_) AllReadyH.nil
                go_simp
                refine hK.out _ _ ((Below.refl _ _).alloc (Nat.le_refl _) _).drew (fun _ => ?_)
                clear hK K
                (try simp only [Act.put, List.setIfInBounds_toArray, List.set_cons_zero, List.set_cons_succ])
                refine wpAnyH_take (i := 10) (v := ?_) rfl (by kernel_rfl) (by kernel_rfl) (by kernel_rfl) (fun _ _ _ h => h) (Or.inl ⟨by rfl, ?_⟩) ((Below.refl _ _).alloc (Nat.le_refl _) _).drew ?_
                rotate_left
                · (intro W hSW; go_simp; try (with_reducible rfl))
                (try simp only [Act.put, List.setIfInBounds_toArray])
                refine wpAnyH_ready (rs := [11]) (by kernel_rfl) (by simp) ?_
                refine AllReadyH.cons rfl (fun K hK => ?_) AllReadyH.nil
                go_simp
                refine hK.out _ _ ((Below.refl _ _).alloc (Nat.le_refl _) _).drew (fun _ => ?_)
                clear hK K
                (try simp only [Act.put, List.setIfInBounds_toArray, List.set_cons_zero, List.set_cons_succ])
                refine wpAnyH_take (i := 13) (v := ?_) rfl (by kernel_rfl) (by kernel_rfl) (by kernel_rfl) (fun _ _ _ h => h) (Or.inl ⟨by rfl, ?_⟩) ((Below.refl _ _).alloc (Nat.le_refl _) _).drew ?_
                rotate_left
                · (intro W hSW; go_simp; try (with_reducible rfl))
                (try simp only [Act.put, List.setIfInBounds_toArray])
                refine wpAnyH_take (i := 14) (v := ?_) rfl (by kernel_rfl) (by kernel_rfl) (by kernel_rfl) (fun _ _ _ h => h) (Or.inl ⟨by rfl, ?_⟩) ((Below.refl _ _).alloc (Nat.le_refl _) _).drew ?_
                rotate_left
                · (intro W hSW; have v0 := keeps_below hSW _ _ z2; go_simp; try (with_reducible rfl))
                (try simp only [Act.put])
                refine wpAnyH_take (i := 15) (v := ?_) rfl (by kernel_rfl) (by kernel_rfl) (by kernel_rfl) (fun _ _ _ h => h) (Or.inl ⟨by rfl, ?_⟩) ((Below.refl _ _).alloc (Nat.le_refl _) _).drew ?_
                rotate_left
                · (intro W hSW; go_simp; try (with_reducible rfl))
                (try simp only [Act.put])
                refine wpAnyH_done (by kernel_rfl) ?_ _
                go_wp2
                go_roundw
                case rel => exact ⟨1, by omega, by go_num, HBQ.out.trans ((((Below.refl _ _).alloc (Nat.le_refl _) _).drew).mono HBQ.out.size)⟩
                case measure => simp [intOf]; omega
              · have z1 := y3 1 (by omega)
                have z2 := x6 kb lb
                have hsame : gg.regs.getD 1 0 = f.regs.getD kb 0 := hreg
                rw [hsame] at z1
                generalize f.regs.getD kb 0 = zz at z1 z2
                clear hsame hreg y3 x6
                go_wp2_with fail
                refine wp_region_held_drew (S := fun W => Below wr.heap.size wr W) (by kernel_rfl) ((Below.refl _ _).drew) (fun hHeld => ?_)
                show wpAnyH _ _ _ _ _ 16 _ _ _
                refine wpAnyH_take (i := 0) (v := ?_) rfl (by kernel_rfl) (by kernel_rfl) (by kernel_rfl) (fun _ _ _ h => h) (Or.inl ⟨by rfl, ?_⟩) (by assumption) ?_
                rotate_left
                · (intro W hSW; go_simp; try (with_reducible rfl))
                (try simp only [Act.put, List.setIfInBounds_toArray])
                refine wpAnyH_take (i := 1) (v := ?_) rfl (by kernel_rfl) (by kernel_rfl) (by kernel_rfl) (fun _ _ _ h => h) (Or.inl ⟨by rfl, ?_⟩) (by assumption) ?_
                rotate_left
                · (intro W hSW; go_simp; try (with_reducible rfl))
                (try simp only [Act.put])
                refine wpAnyH_take (i := 2) (v := ?_) rfl (by kernel_rfl) (by kernel_rfl) (by kernel_rfl) (fun _ _ _ h => h) (Or.inl ⟨by rfl, ?_⟩) (by assumption) ?_
                rotate_left
                · (intro W hSW; go_simp; try (with_reducible rfl))
                (try simp only [Act.put])
                refine wpAnyH_take (i := 3) (v := ?_) rfl (by kernel_rfl) (by kernel_rfl) (by kernel_rfl) (fun _ _ _ h => h) (Or.inl ⟨by rfl, ?_⟩) (by assumption) ?_
                rotate_left
                · (intro W hSW; have v0 := keeps_below hSW _ _ z1; go_simp; try (with_reducible rfl))
                (try simp only [Act.put])
                refine wpAnyH_take (i := 4) (v := ?_) rfl (by kernel_rfl) (by kernel_rfl) (by kernel_rfl) (fun _ _ _ h => h) (Or.inl ⟨by rfl, ?_⟩) (by assumption) ?_
                rotate_left
                · (intro W hSW; go_simp; try (with_reducible rfl))
                (try simp only [Act.put])
                refine wpAnyH_take (i := 5) (v := ?_) rfl (by kernel_rfl) (by kernel_rfl) (by kernel_rfl) (fun _ _ _ h => h) (Or.inl ⟨by rfl, ?_⟩) (by assumption) ?_
                rotate_left
                · (intro W hSW; have v0 := keeps_below hSW _ _ x3; go_simp; try (with_reducible rfl))
                (try simp only [Act.put])
                refine wpAnyH_take (i := 6) (v := ?_) rfl (by kernel_rfl) (by kernel_rfl) (by kernel_rfl) (fun _ _ _ h => h) (Or.inl ⟨by rfl, ?_⟩) (by assumption) ?_
                rotate_left
                · (intro W hSW; go_simp; try (with_reducible rfl))
                (try simp only [Act.put])
                refine wpAnyH_take (i := 7) (v := ?_) rfl (by kernel_rfl) (by kernel_rfl) (by kernel_rfl) (fun _ _ _ h => h) (Or.inl ⟨by rfl, ?_⟩) (by assumption) ?_
                rotate_left
                · (intro W hSW; have v0 := keeps_below hSW _ _ x4; go_simp; try (with_reducible rfl))
                (try simp only [Act.put])
                refine wpAnyH_take (i := 9) (v := ?_) rfl (by kernel_rfl) (by kernel_rfl) (by kernel_rfl) (fun _ _ _ h => h) (Or.inl ⟨by rfl, ?_⟩) (by assumption) ?_
                rotate_left
                · (intro W hSW; go_simp; try (with_reducible rfl))
                (try simp only [Act.put])
                refine wpAnyH_take (i := 12) (v := ?_) rfl (by kernel_rfl) (by kernel_rfl) (by kernel_rfl) (fun _ _ _ h => h) (Or.inl ⟨by rfl, ?_⟩) (by assumption) ?_
                rotate_left
                · (intro W hSW; go_simp; try (with_reducible rfl))
                (try simp only [Act.put])
                refine wpAnyH_ready (rs := [8]) (by kernel_rfl) (by simp) ?_
                refine AllReadyH.cons rfl (fun K hK => ?_) AllReadyH.nil
                go_simp
                refine hK.out _ _ ((Below.refl _ _).alloc (Nat.le_refl _) _).drew (fun _ => ?_)
                clear hK K
                (try simp only [Act.put, List.setIfInBounds_toArray, List.set_cons_zero, List.set_cons_succ])
                refine wpAnyH_take (i := 10) (v := ?_) rfl (by kernel_rfl) (by kernel_rfl) (by kernel_rfl) (fun _ _ _ h => h) (Or.inl ⟨by rfl, ?_⟩) ((Below.refl _ _).alloc (Nat.le_refl _) _).drew ?_
                rotate_left
                · (intro W hSW; go_simp; try (with_reducible rfl))
                (try simp only [Act.put, List.setIfInBounds_toArray])
                refine wpAnyH_ready (rs := [11]) (by kernel_rfl) (by simp) ?_
                refine AllReadyH.cons rfl (fun K hK => ?_) AllReadyH.nil
                go_simp
                refine hK.out _ _ ((Below.refl _ _).alloc (Nat.le_refl _) _).drew (fun _ => ?_)
                clear hK K
                (try simp only [Act.put, List.setIfInBounds_toArray, List.set_cons_zero, List.set_cons_succ])
                refine wpAnyH_take (i := 13) (v := ?_) rfl (by kernel_rfl) (by kernel_rfl) (by kernel_rfl) (fun _ _ _ h => h) (Or.inl ⟨by rfl, ?_⟩) ((Below.refl _ _).alloc (Nat.le_refl _) _).drew ?_
                rotate_left
                · (intro W hSW; go_simp; try (with_reducible rfl))
                (try simp only [Act.put, List.setIfInBounds_toArray])
                refine wpAnyH_take (i := 14) (v := ?_) rfl (by kernel_rfl) (by kernel_rfl) (by kernel_rfl) (fun _ _ _ h => h) (Or.inl ⟨by rfl, ?_⟩) ((Below.refl _ _).alloc (Nat.le_refl _) _).drew ?_
                rotate_left
                · (intro W hSW; have v0 := keeps_below hSW _ _ z2; go_simp; try (with_reducible rfl))
                (try simp only [Act.put])
                refine wpAnyH_take (i := 15) (v := ?_) rfl (by kernel_rfl) (by kernel_rfl) (by kernel_rfl) (fun _ _ _ h => h) (Or.inl ⟨by rfl, ?_⟩) ((Below.refl _ _).alloc (Nat.le_refl _) _).drew ?_
                rotate_left
                · (intro W hSW; go_simp; try (with_reducible rfl))
                (try simp only [Act.put])
                refine wpAnyH_done (by kernel_rfl) ?_ _
                go_wp2
                go_roundw
                case rel => exact ⟨2, by omega, by go_num, HBQ.out.trans ((((Below.refl _ _).alloc (Nat.le_refl _) _).drew).mono HBQ.out.size)⟩
                case measure => simp [intOf]; omega
            · clear x6 y3
              go_wp2
              go_ret
              exact ⟨rfl, BFY.out.trans (HBQ.out.mono BFY.out.size)⟩
        · -- the first frame returns
          subst h19 hfs0
          obtain ⟨w0, w1v, -, frn, fcn, -, -, -, -, w2v, -, -⟩ := sx4.at
          rw [hfr] at w2v
          rw [hval] at w1v
          have ky2 : WX.cell? ⟨w4.heap.size, 2, none⟩ = some (.slice frn 0 fcn) := by rw [cell_of_row _ _ _ _ _ _ row4]; exact w2v
          have ky1 : WX.cell? ⟨w4.heap.size, 1, none⟩ = some (.int .i64 (f.regs.getD ka 0)) := by rw [cell_of_row _ _ _ _ _ _ row4]; exact w1v
          have ya := (HTX.out WX (Below.refl _ _)).2.2 ka la
          simp only [List.length_nil, Nat.zero_add] at kx2
          generalize f.regs.getD ka 0 = zz at ky1 ya
          clear row3 row4 sx3 sx4 w0 w1v w2v hfr hval c1 c3 c4
          go_wp2
          go_quiet (fail)
          go_wp2
          go_ret
          exact ⟨rfl, below_drewN BFX.out _⟩
        · -- another frame returns
          subst h19 hgs
          have hsn2 : (walkS P (0 + x) S).frames = gs ++ [hh] ++ [f] := HS01.out.2
          obtain ⟨_, _, fcap2, _, _, _, sc1, sc2⟩ := sx3.framesAt hsn2
          have g2s : cs3[2]? = some (.slice (some ⟨fb, foff, none⟩) ((gs ++ [hh]).length + 1) fcap) := (cell_of_row _ _ _ _ _ _ row3).symm.trans kx2
          have kx2b := kx2
          have hlen : gs.length < (walkS P (0 + x) S).frames.length := by rw [hsn2]; simp
          have hI := sx3.framesI g2s gs.length hlen
          have eh : (walkS P (0 + x) S).frames[gs.length] = hh := by rw [List.getElem_of_eq hsn2 hlen]; simp
          rw [eh] at hI
          obtain ⟨hrng, h12⟩ := hI
          obtain ⟨gb, goff, gcap, g2, grng, g12, gc1, gc2⟩ := sx4.framesAt hfr
          have ky2 : WX.cell? ⟨w4.heap.size, 2, none⟩ = some (.slice (some ⟨gb, goff, none⟩) (gs.length + 1) gcap) := by rw [cell_of_row _ _ _ _ _ _ row4]; exact g2
          have hph : placeB P hh = true := HV1.out.fok.place hh (by rw [hsn2]; simp)
          have hixh := place_ins (right_code HR.out) hph
          obtain ⟨kd, hkd⟩ := Int.eq_ofNat_of_zero_le hixh.dst0
          have ld : kd < 12 := by have := hixh.dst1; omega
          obtain ⟨kh, jh, pb2, po2, pcap2, b2, off2, m2, cap2, e1h, e2h, e3h, hkh, d2h, hjh, hm2, hc2, hpc2, hpm2, hinsh⟩ := prog_ins (HPX.out WX (Below.refl _ _)).2 hph
          have kpx := (HPX.out WX (Below.refl _ _)).1
          cases e3h
          have dh : WX.cell? ⟨b2, off2 + jh * 5 + 1, none⟩ = some (.int .i64 (kd : Int)) := by rw [← hkd]; exact hinsh.2.1
          have ya := (HTX.out WX (Below.refl _ _)).2.2 ka la
          have hkd2 : (insOfFr P hh).dst = (kd : Int) := hkd
          rw [hkd2] at hfr grng g12
          generalize f.regs.getD ka 0 = vv at *
          have HGP : Hid ((putF hh (kd : Int) vv).pc = (jh : Int) + 1 ∧ (putF hh (kd : Int) vv).regs.getD kd 0 = vv) := ⟨by show hh.pc + 1 = _; rw [e2h], by show (hh.regs.set kd vv).getD kd 0 = vv; simp [List.getD, h12, ld]⟩
          generalize putF hh (kd : Int) vv = gg at *
          obtain ⟨jg, hjg⟩ : ∃ jg : Nat, jg = gs.length := ⟨_, rfl⟩
          obtain ⟨n1, hn1⟩ : ∃ n1 : Nat, n1 = jg + 1 := ⟨_, rfl⟩
          obtain ⟨n2, hn2⟩ : ∃ n2 : Nat, n2 = n1 + 1 := ⟨_, rfl⟩
          have el : (gs ++ [hh]).length + 1 = n2 := by simp; omega
          rw [el] at kx2b sc1
          clear kx2
          have el2 : gs.length + 1 = n1 := by omega
          rw [el2] at ky2 gc1
          rw [← hjg] at hrng grng
          have hcapS : n2 ≤ 9223372036854775807 := by omega
          have hw2 : IntKind.i64.wrap ((n2 : Int) - 2) = (jg : Int) := by rw [show (n2 : Int) - 2 = jg by omega]; exact wrap_fits _ (by omega) (by omega)
          have hw1 : IntKind.i64.wrap ((n1 : Int) - 1) = (jg : Int) := by rw [show (n1 : Int) - 1 = jg by omega]; exact wrap_fits _ (by omega) (by omega)
          have hw21 : IntKind.i64.wrap ((n2 : Int) - 1) = (n1 : Int) := by rw [show (n2 : Int) - 1 = n1 by omega]; exact wrap_fits _ (by omega) (by omega)
          have hwj : IntKind.i64.wrap ((jh : Int) + 1) = (jh : Int) + 1 := wrap_fits _ (by omega) (by omega)
          have hne1 : ((n2 : Int) == 1) = false := beq_eq_false_iff_ne.2 (by omega)
          have hne1n : ¬ n2 = 1 := by omega
          have hne1b : (n2 == 1) = false := beq_eq_false_iff_ne.2 (by omega)
          have hn20 : ¬ n2 = 0 := by omega
          have hn10 : ¬ n1 = 0 := by omega
          have hj2 : (jg : Int) < n2 := by omega
          have hj1 : (jg : Int) < n1 := by omega
          have hj2n : jg < n2 := by omega
          have hj1n : jg < n1 := by omega
          have flhh : (Tryd.prog.info? 44).map (·.size) = some (frCells hh).length := by rw [frCells_length _ h12]; exact infoFr
          have fshh : (Tryd.prog.info? 44).map (·.size) = some (frCells hh).toArray.size := by rw [List.size_toArray]; exact flhh
          have fohh : (frCells hh).toArray.all (·.oneCell') = true := by rw [Array.all_eq_true_iff_forall_mem]; intro u hu; exact frCells_one _ u (by simpa using hu)
          have fzhh : (zeroFr 0).toArray.size = (frCells hh).toArray.size := by rw [List.size_toArray, List.size_toArray, frCells_length _ h12]; rfl
          have flgg : (Tryd.prog.info? 44).map (·.size) = some (frCells gg).length := by rw [frCells_length _ g12]; exact infoFr
          have fsgg : (Tryd.prog.info? 44).map (·.size) = some (frCells gg).toArray.size := by rw [List.size_toArray]; exact flgg
          have fogg : (frCells gg).toArray.all (·.oneCell') = true := by rw [Array.all_eq_true_iff_forall_mem]; intro u hu; exact frCells_one _ u (by simpa using hu)
          have fzgg : (zeroFr 0).toArray.size = (frCells gg).toArray.size := by rw [List.size_toArray, List.size_toArray, frCells_length _ g12]; rfl
          have hpk := And.intro kx2b (And.intro ky2 (And.intro kpx (And.intro d2h (And.intro dh (And.intro c2 ya)))))
          have HPK : Hid _ := hpk
          have hnm := And.intro hw1 (And.intro hw21 (And.intro hwj (And.intro hj1 (And.intro hj1n hn10))))
          have HNM : Hid _ := hnm
          have hgg := And.intro flgg (And.intro fsgg (And.intro fogg fzgg))
          have HGG : Hid _ := hgg
          have HGR : Hid (WX.rangeAt gb (goff + jg * 14) (frCells gg)) := grng
          have HNB : Hid ((kh : Int) < P.length ∧ (jh : Int) < m2 ∧ (kd : Int) < 12 ∧ (ka : Int) < 12) := ⟨by omega, by omega, by omega, laI⟩
          have HEH : Hid (hh.fn = (kh : Int) ∧ hh.pc = (jh : Int)) := ⟨e1h, e2h⟩
          have HLD : Hid (kd < 12) := ld
          have HG12 : Hid (gg.regs.length = 12) := g12
          clear hpk hnm hgg grng kpx d2h dh ya ky2 hw1 hw21 hwj hj1 hj1n hn10 flgg fsgg fogg fzgg c2 laI lbI la lb e1h e2h ld g12 row3 row4 sx3 sx4 hsn2 hlen eh g2s g2 hixh hph hfr hkd hkd2 hinsh hjg hn1 hn2 el el2 c1 c3 c4 hkh hjh hm2 hc2 hpc2 hpm2 sc1 sc2 gc1 gc2 hcapS h12
          go_upto_region 24 with (first
            | (refine wpList_load_mid rfl _ _ rfl fb (foff + jg * 14) rfl (frCells hh) _ hrng Tryd.underlying44 rfl flhh ?_)
            | (refine wpList_store_row rfl _ _ _ rfl _ (frCells hh).toArray rfl rfl 44 (zeroFr 0).toArray (heap_alloc_last WX _) fshh fzhh fohh ?_; rw [World.setRow_alloc_new]))
          have BU : Below WX.heap.size WX (WX.alloc (.cells (frCells hh).toArray 44)) := (Below.refl _ _).alloc (Nat.le_refl _) _
          have ru : (WX.alloc (.cells (frCells hh).toArray 44)).heap[WX.heap.size]? = some (.cells (frCells hh).toArray 44 (0, 0)) := heap_alloc_last WX _
          generalize (WX.alloc (.cells (frCells hh).toArray 44)) = WU at BU ru ⊢
          obtain ⟨hw1, -, -, hj1, hj1n, hn10⟩ := HNM.out
          obtain ⟨flgg, fsgg, fogg, fzgg⟩ := HGG.out
          have grng2 : WU.rangeAt gb (goff + jg * 14) (frCells gg) := fun jx u hu => keeps_below BU _ _ (HGR.out jx u hu)
          have ky2u := keeps_below BU _ _ HPK.out.2.1
          have HRU : Hid (WU.heap[WX.heap.size]? = some (.cells (frCells hh).toArray 44 (0, 0))) := ru
          have HBU : Hid (Below WX.heap.size WX WU) := BU
          clear hrng flhh fshh fzhh fohh kx2b hw2 hj2 hj2n hn20 hne1 hne1n hne1b c0 BU ru
          go_upto_region 25 with (first
            | (refine wpList_load_mid rfl _ _ rfl gb (goff + jg * 14) rfl (frCells gg) _ grng2 Tryd.underlying44 rfl flgg ?_)
            | (refine wpList_store_row rfl _ _ _ rfl _ (frCells gg).toArray rfl rfl 44 (zeroFr 0).toArray (heap_alloc_last WU _) fsgg fzgg fogg ?_; rw [World.setRow_alloc_new]))
          have BV : Below WU.heap.size WU (WU.alloc (.cells (frCells gg).toArray 44)) := (Below.refl _ _).alloc (Nat.le_refl _) _
          have rv : (WU.alloc (.cells (frCells gg).toArray 44)).heap[WU.heap.size]? = some (.cells (frCells gg).toArray 44 (0, 0)) := heap_alloc_last WU _
          generalize (WU.alloc (.cells (frCells gg).toArray 44)) = WV at BV rv ⊢
          have BXV : Below WX.heap.size WX WV := HBU.out.trans (BV.mono HBU.out.size)
          have BFV : Hid (Below w.heap.size w WV) := BFX.out.trans (BXV.mono BFX.out.size)
          obtain ⟨o1, o2, o3, o4, o5, o6, o7⟩ := HPK.out
          have r1 := keeps_below BXV _ _ o1
          have r2 := keeps_below BXV _ _ o2
          have r3v : WV.cell? ⟨WU.heap.size, 1, none⟩ = some (.int .i64 ((jh : Int) + 1)) := by rw [cell_of_row _ _ _ _ _ _ rv, ← HGP.out.1]; rfl
          have r4v : WV.cell? ⟨WU.heap.size, 2 + kd, none⟩ = some (.int .i64 vv) := by have h := frCells_reg12 gg HG12.out kd HLD.out; rw [HGP.out.2] at h; rw [cell_of_row _ _ _ _ _ _ rv]; exact h
          have r5 : WV.cell? ⟨WX.heap.size, 0, none⟩ = some (.int .i64 (kh : Int)) := keeps_below BV _ _ (by rw [cell_of_row _ _ _ _ _ _ HRU.out, ← HEH.out.1]; rfl)
          have r6 : WV.cell? ⟨WX.heap.size, 1, none⟩ = some (.int .i64 (jh : Int)) := keeps_below BV _ _ (by rw [cell_of_row _ _ _ _ _ _ HRU.out, ← HEH.out.2]; rfl)
          have r7 := keeps_below BXV _ _ o3
          have r8 := keeps_below BXV _ _ o4
          have r9 := keeps_below BXV _ _ o5
          have r10 := keeps_below BXV _ _ o6
          have r11 := keeps_below BXV _ _ o7
          obtain ⟨hkhI, hjhI, ldI, laI⟩ := HNB.out
          obtain ⟨-, hw21, hwj, -, -, -⟩ := HNM.out
          clear o1 o2 o3 o4 o5 o6 o7 ky2u BXV BV rv grng2 flgg fsgg fzgg fogg hw1 hj1 hj1n hn10
          go_quiet (fail)
          go_wp2
          go_ret
          exact ⟨rfl, below_drewN BFV.out _⟩
        · -- all others
          have h17b : (xo == 17) = false := beq_eq_false_iff_ne.2 h17
          have h19b : (xo == 19) = false := beq_eq_false_iff_ne.2 h19
          obtain ⟨w0, w1v, -, frn, fcn, -, -, -, -, w2v, -, -⟩ := sx4.at
          rw [hfl] at w2v
          have ky2 : WX.cell? ⟨w4.heap.size, 2, none⟩ = some (.slice frn (fs.length + 1) fcn) := by rw [cell_of_row _ _ _ _ _ _ row4]; exact w2v
          generalize fs.length + 1 = fl at kx2 ky2
          clear row3 row4 sx3 sx4 w0 w1v w2v hfl h17 h19 c1 c2 c3 c4
          go_wp2
          go_ret
          exact ⟨rfl, BFX.out⟩
end Go.Proofs.YtcjclencbjllhaaDoor
