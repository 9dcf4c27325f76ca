/- The walk of tierlinekeep.MemoryStays: at all raw numbers it says true, and nothing that was there has turned. -/
import Derived.Test.YtcjclencbjllhaaDoorXKRun
import Derived.Test.YtcjclencbjllhaaDoorXStepMem
namespace Go.Proofs.YtcjclencbjllhaaDoor
open Go Go.RowKit

theorem setRow_alloc2m (w : World) (o : Obj) (old cs : Array Value) (t : TypeId) : ((w.alloc o).alloc (.cells old t)).setRow (w.heap.size + 1) cs = (w.alloc o).alloc (.cells cs t) := by
  have := World.setRow_alloc_new (w.alloc o) old cs t
  rw [World.size_alloc] at this
  exact this
theorem StVal.memAt {w : World} {cs : Array Value} {S : St} (h : StVal w (.agg cs) S) (i : Nat) (hi : i < 16) : cs[3 + i]? = some (.int .i64 (S.mem.getD i 0)) := by
  obtain ⟨fv, ev, av, e, hm, -⟩ := h
  obtain rfl := Value.agg.inj e
  rw [List.getElem?_toArray]
  unfold stCells
  rw [List.append_assoc, List.getElem?_append_right (by simp), List.getElem?_append_left (by simp [i64s, hm]; exact hi)]
  simp [i64s, hm, hi, List.getD]
theorem StVal.framesAt {w : World} {cs : Array Value} {S : St} (h : StVal w (.agg cs) S) {fs : List Fr} {f : Fr} (hS : S.frames = fs ++ [f]) : ∃ b off cap, cs[2]? = some (.slice (some ⟨b, off, none⟩) (fs.length + 1) cap) ∧ w.rangeAt b (off + fs.length * 14) (frCells f) ∧ f.regs.length = 12 ∧ fs.length + 1 ≤ cap ∧ cap ≤ 9223372036854775807 := by
  obtain ⟨fv, ev, av, e, hm, hf, -⟩ := h
  obtain rfl := Value.agg.inj e
  obtain ⟨hw, ao, b, off, n, cap, rfl, hl, ha, hc, hcp, hx⟩ := hf
  have hn : n = fs.length + 1 := by rw [← hl, hS]; simp
  subst hn
  obtain rfl := ha (by omega)
  unfold maxLen at hx
  refine ⟨b, off, cap, rfl, ?_, hw f (by rw [hS]; simp), hcp.1, by omega⟩
  have h1 := hc fs.length (by omega)
  have e1 : S.frames[fs.length]'(by omega) = f := by simp [hS]
  rw [e1] at h1
  exact h1

set_option maxHeartbeats 8000000 in
set_option maxRecDepth 100000 in
theorem memoryStays_walk (l : List Fn) (v : Value) (a0 a1 fuel : Int) (nv : Value) (ln : List Int) (a : Int) (w : World) (ht : TabOk w) (hc : CallOk w) (hv : ProgVal w v l) (hwf : ∀ f ∈ l, f.wf) (hn : IntsVal w nv ln) (hfu : I64 fuel) (ha : I64 a) :
    Calls Tryd.prog 6 #[v, inVal a0 a1 nv fuel, .int .i64 a] w fun e w' => e = .returned (.bool true) ∧ Below w.heap.size w w' := by
  obtain ⟨x, hx, ex⟩ : ∃ x : Nat, x < 300 ∧ pickI a 300 = x := by have b := pickI_bounds a 300 (by omega); obtain ⟨k, hk⟩ := Int.eq_ofNat_of_zero_le b.1; exact ⟨k, by omega, hk⟩
  have hPX : Hid (∀ W, Calls Tryd.prog 22 #[.int .i64 a, .int .i64 300] W fun e w' => e = .returned (.int .i64 (x : Int)) ∧ w' = W) := fun W => by have := picked_any a 300 W ha (by omega) (by omega); rw [ex] at this; exact this
  clear ex ha
  obtain ⟨nao, nc, rfl⟩ := hn.shape
  obtain ⟨lao, ll, lc, rfl⟩ := hv.shape
  have HTC : Hid (∀ W, Below w.heap.size w W → TabOk W ∧ CallOk W) := fun W hb => ⟨ht.below hb, hc.below hb⟩
  have HB0 : Hid (Below w.heap.size w (w.alloc (.cells #[.int .i64 a0, .int .i64 a1, .slice nao ln.length nc, .int .i64 fuel] 26))) := (Below.refl _ _).alloc (Nat.le_refl _) _
  have HPR : Hid (Calls Tryd.prog 15 #[.slice lao ll lc] (w.alloc (.cells #[.int .i64 a0, .int .i64 a1, .slice nao ln.length nc, .int .i64 fuel] 26)) fun e w' => ∃ ao n cap P, e = .returned (.agg #[.slice ao n cap]) ∧ ProofAns P 0 ∧ ProgVal w' (.slice ao n cap) P ∧ Below (w.alloc (.cells #[.int .i64 a0, .int .i64 a1, .slice nao ln.length nc, .int .i64 fuel] 26)).heap.size (w.alloc (.cells #[.int .i64 a0, .int .i64 a1, .slice nao ln.length nc, .int .i64 fuel] 26)) w') := kprog l _ _ (HTC.out _ HB0.out).1 (HTC.out _ HB0.out).2 (hv.keeps (keeps_below HB0.out)) hwf
  have HNV : Hid (∀ W, Below w.heap.size w W → IntsVal W (.slice nao ln.length nc) ln) := fun W hb => hn.keeps (keeps_below hb)
  have HFU : Hid (I64 fuel) := hfu
  have infoIn : (Tryd.prog.info? 26).map (·.size) = some 4 := by kernel_rfl
  unfold inVal
  clear ht hc hv hwf hn hfu
  go_enter Tryd.func6, Tryd.ntmps6
  go_upto_region 2 with (go_at_call 15; refine HPR.out.mono ?_; rintro e w1 ⟨ao, n0, cap0, P, rfl, hR, hpv, hb1⟩)
  have HR : Hid (ProofAns P 0) := hR
  have B01 : Hid (Below w.heap.size w (w1.alloc (.cells #[.slice ao n0 cap0] 29))) := (HB0.out.trans (hb1.mono (by simp))).alloc (by have := hb1.size; simp at this; omega) _
  have I1 : (w1.alloc (.cells #[.slice ao n0 cap0] 29)).heap[w.heap.size]? = some (.cells #[.int .i64 a0, .int .i64 a1, .slice nao ln.length nc, .int .i64 fuel] 26 (0, 0)) := (heap_alloc_old _ _ (by have := hb1.size; simp at this; omega)).trans ((hb1.block _ (by simp)).trans (heap_alloc_last w _))
  have HP : Hid (∀ W, Below (w1.alloc (.cells #[.slice ao n0 cap0] 29)).heap.size (w1.alloc (.cells #[.slice ao n0 cap0] 29)) W → W.cell? ⟨w1.heap.size, 0, none⟩ = some (.slice ao n0 cap0) ∧ ProgVal W (.slice ao n0 cap0) P ∧ TabOk W ∧ CallOk W) := fun W hb => ⟨keeps_below hb _ _ (by rw [cell_of_row _ _ _ _ _ _ (heap_alloc_last w1 _)]; rfl), (hpv.keeps (keeps_below ((Below.refl _ _).alloc (Nat.le_refl _) _))).keeps (keeps_below hb), (HTC.out _ (B01.out.trans (hb.mono B01.out.size))).1, (HTC.out _ (B01.out.trans (hb.mono B01.out.size))).2⟩
  have HKB : Hid (Calls Tryd.prog 16 #[.agg #[.slice ao n0 cap0], .agg #[.int .i64 a0, .int .i64 a1, .slice nao ln.length nc, .int .i64 fuel]] (w1.alloc (.cells #[.slice ao n0 cap0] 29)) _) := kbegin P (.slice ao n0 cap0) a0 a1 fuel (.slice nao ln.length nc) ln (w1.alloc (.cells #[.slice ao n0 cap0] 29)) (HP.out _ (Below.refl _ _)).2.2.1 (HP.out _ (Below.refl _ _)).2.2.2 HR.out (HP.out _ (Below.refl _ _)).2.1 (HNV.out _ B01.out) HFU.out
  clear hR hpv hb1
  go_upto_region 3 with (first
    | (refine wpList_load_row rfl _ _ rfl _ rfl _ _ _ _ I1 Tryd.underlying26 rfl infoIn ?_)
    | (go_at_call 16; refine HKB.out.mono ?_; rintro e w2 ⟨cs2, S, rfl, hk, hs0, c1, c2, c3, hst, hb2⟩)
    | (refine wpList_store_row rfl _ _ _ rfl _ _ rfl rfl _ _ (heap_alloc_last w2 _) c1 c2 c3 ?_; rw [World.setRow_alloc_new]))
  have HK : Hid (KRunAt P S) := hk
  have HS0 : Hid (S.fuel ≤ 299 ∧ S.answers.length ≤ 10 ∧ S.status = 0) := hs0
  have B12 : Hid (Below (w1.alloc (.cells #[.slice ao n0 cap0] 29)).heap.size (w1.alloc (.cells #[.slice ao n0 cap0] 29)) (w2.alloc (.cells cs2 34))) := hb2.alloc hb2.size _
  have X2 : Hid (∀ W, Below (w2.alloc (.cells cs2 34)).heap.size (w2.alloc (.cells cs2 34)) W → W.heap[w2.heap.size]? = some (.cells cs2 34 (0, 0)) ∧ StVal W (.agg cs2) (walkS P 0 S)) := fun W hb => ⟨(hb.block _ (by simp)).trans (heap_alloc_last w2 _), (hst.val.keeps (keeps_below ((Below.refl _ _).alloc (Nat.le_refl _) _))).keeps (keeps_below hb)⟩
  have q2 : (Tryd.prog.info? 34).map (·.size) = some cs2.size := c1
  have HON2 : Hid (cs2.all (·.oneCell') = true) := c3
  have HZ12 : Hid ((w1.alloc (.cells #[.slice ao n0 cap0] 29)).heap.size ≤ w2.heap.size) := hb2.size
  have hz2 : zeroStCells.size = cs2.size := c2
  clear hk hs0 hst hb2 I1 HKB c1 c2 c3 infoIn
  go_upto_region 3 with fail
  have kp := (HP.out _ B12.out).1
  have r2 := (X2.out _ (Below.refl _ _)).1
  have HWX : Hid (∀ W, Below (w2.alloc (.cells cs2 34)).heap.size (w2.alloc (.cells cs2 34)) W → Calls Tryd.prog 25 #[.agg #[.slice ao n0 cap0], .agg cs2, .int .i64 ((x : Nat) : Int)] W _) := fun W hb => kwalk HK.out 0 x (by omega) (by omega) _ _ W (HP.out _ (B12.out.trans (hb.mono B12.out.size))).2.2.1 (HP.out _ (B12.out.trans (hb.mono B12.out.size))).2.2.2 (HP.out _ (B12.out.trans (hb.mono B12.out.size))).2.1 (X2.out _ hb).2
  go_cut [10] from 24 to 31 (fun e wx => ∃ csn : Array Value, e = .int .i64 0 ∧ wx.heap[w2.heap.size]? = some (.cells csn 34 (0, 0)) ∧ (Tryd.prog.info? 34).map (·.size) = some csn.size ∧ Below (w1.alloc (.cells #[.slice ao n0 cap0] 29)).heap.size (w1.alloc (.cells #[.slice ao n0 cap0] 29)) wx ∧ StVal wx (.agg csn) (walkS P (0 + x) S))
  case first =>
    refine wp_region_held_drew (S := fun W => W.cell? ⟨w1.heap.size, 0, none⟩ = some (.slice ao n0 cap0)) (by kernel_rfl) kp (fun hHeld => ?_)
    show wpAnyH _ _ _ _ _ 10 _ _ _
    refine wpAnyH_take (i := 0) (v := ?_) rfl (by kernel_rfl) (by kernel_rfl) (by kernel_rfl) (fun _ _ _ h => h) (Or.inl ⟨by rfl, ?_⟩) (by assumption) ?_
    rotate_left
    · (intro W hSW; go_simp; try (with_reducible rfl))
    (try simp only [Act.put, List.setIfInBounds_toArray])
    refine wpAnyH_take (i := 2) (v := ?_) rfl (by kernel_rfl) (by kernel_rfl) (by kernel_rfl) (fun _ _ _ h => h) (Or.inl ⟨by rfl, ?_⟩) (by assumption) ?_
    rotate_left
    · (intro W hSW; go_simp; try (with_reducible rfl))
    (try simp only [Act.put])
    refine wpAnyH_ready (rs := [1, 3]) (by kernel_rfl) (by simp) ?_
    refine AllReadyH.cons rfl (fun K hK => ?_) (AllReadyH.cons rfl (fun K hK => ?_) AllReadyH.nil)
    · -- the state is loaded first
      refine wp_load_row 34 _ rfl w2.heap.size rfl _ _ _ _ r2 Tryd.underlying34 rfl q2 ?_
      refine hK.out _ _ kp (fun _ => ?_)
      clear hK K
      (try simp only [Act.put])
      refine wpAnyH_ready (rs := [3]) (by kernel_rfl) (by simp) ?_
      refine AllReadyH.cons rfl (fun K hK => ?_) AllReadyH.nil
      go_simp
      go_at_call 22
      refine (hPX.out _).mono ?_
      rintro e wp ⟨rfl, hwp⟩
      replace hwp := hwp.symm
      subst hwp
      dsimp only
      refine hK.out _ _ kp (fun _ => ?_)
      clear hK K
      (try simp only [Act.put, List.setIfInBounds_toArray, List.set_cons_zero, List.set_cons_succ])
      refine wpAnyH_ready (rs := [4]) (by kernel_rfl) (by simp) ?_
      refine AllReadyH.cons rfl (fun K hK => ?_) AllReadyH.nil
      go_simp
      go_at_call 25
      refine (HWX.out _ ((Below.refl _ _).drew)).mono ?_
      rintro e w3 ⟨cs3, rfl, c1, c2, c3, hst, hb⟩
      have hb3 : Below (w2.alloc (.cells cs2 34)).heap.size (w2.alloc (.cells cs2 34)) w3 := (Below.refl _ _).drew.trans (hb.mono (Nat.le_refl _))
      have kp3 := keeps_below hb3 _ _ kp
      have r3 : w3.heap[w2.heap.size]? = some (.cells cs2 34 (0, 0)) := (hb3.block _ (by simp)).trans r2
      dsimp only
      refine hK.out _ _ kp3 (fun _ => ?_)
      clear hK K
      (try simp only [Act.put, List.setIfInBounds_toArray, List.set_cons_zero, List.set_cons_succ])
      refine wpAnyH_take (i := 5) (v := ?_) rfl (by kernel_rfl) (by kernel_rfl) (by kernel_rfl) (fun _ _ _ h => h) (Or.inl ⟨by rfl, ?_⟩) kp3 ?_
      rotate_left
      · (intro W hSW; go_simp; try (with_reducible rfl))
      (try simp only [Act.put, List.setIfInBounds_toArray])
      refine wpAnyH_take (i := 6) (v := ?_) rfl (by kernel_rfl) (by kernel_rfl) (by kernel_rfl) (fun _ _ _ h => h) (Or.inl ⟨by rfl, ?_⟩) kp3 ?_
      rotate_left
      · (intro W hSW; go_simp; try (with_reducible rfl))
      (try simp only [Act.put])
      refine wpAnyH_take (i := 7) (v := ?_) rfl (by kernel_rfl) (by kernel_rfl) (by kernel_rfl) (fun _ _ _ h => h) (Or.inl ⟨by rfl, ?_⟩) kp3 ?_
      rotate_left
      · (intro W hSW; go_simp; try (with_reducible rfl))
      (try simp only [Act.put])
      refine wpAnyH_ready (rs := [8]) (by kernel_rfl) (by simp) ?_
      refine AllReadyH.cons rfl (fun K hK => ?_) AllReadyH.nil
      refine wp_store_row 34 _ _ rfl w2.heap.size cs3 rfl rfl 34 cs2 r3 c1 (hz2.symm.trans c2) c3 ?_
      have BN : Below (w1.alloc (.cells #[.slice ao n0 cap0] 29)).heap.size (w1.alloc (.cells #[.slice ao n0 cap0] 29)) (World.setRow w3 w2.heap.size cs3) := below_setRow (B12.out.trans (hb3.mono B12.out.size)) (by have := HZ12.out; simpa using this) _
      have SN : StVal (World.setRow w3 w2.heap.size cs3) (.agg cs3) (walkS P (0 + x) S) := ((hst.mono (show w2.heap.size + 1 ≤ _ by simp)).setRow (by omega) _).val
      have kpN := (HP.out _ BN).1
      refine hK.out _ _ kpN (fun _ => ?_)
      clear hK K
      (try simp only [Act.put])
      refine wpAnyH_ready (rs := [9]) (by kernel_rfl) (by simp) ?_
      refine AllReadyH.cons rfl (fun K hK => ?_) AllReadyH.nil
      go_simp
      refine hK.out _ _ kpN (fun _ => ?_)
      clear hK K
      (try simp only [Act.put, List.setIfInBounds_toArray, List.set_cons_zero, List.set_cons_succ])
      refine wpAnyH_done (by kernel_rfl) ?_ _
      go_wp2_with fail
      go_meet
      exact ⟨cs3, rfl, setRow_heap _ _ _ _ _ _ r3, c1, BN, SN⟩
    · -- picked first
      go_simp
      go_at_call 22
      refine (hPX.out _).mono ?_
      rintro e wp ⟨rfl, hwp⟩
      replace hwp := hwp.symm
      subst hwp
      dsimp only
      refine hK.out _ _ kp (fun _ => ?_)
      clear hK K
      (try simp only [Act.put, List.setIfInBounds_toArray, List.set_cons_zero, List.set_cons_succ])
      refine wpAnyH_ready (rs := [1]) (by kernel_rfl) (by simp) ?_
      refine AllReadyH.cons rfl (fun K hK => ?_) AllReadyH.nil
      refine wp_load_row 34 _ rfl w2.heap.size rfl _ _ _ _ r2 Tryd.underlying34 rfl q2 ?_
      refine hK.out _ _ kp (fun _ => ?_)
      clear hK K
      (try simp only [Act.put, List.setIfInBounds_toArray])
      refine wpAnyH_ready (rs := [4]) (by kernel_rfl) (by simp) ?_
      refine AllReadyH.cons rfl (fun K hK => ?_) AllReadyH.nil
      go_simp
      go_at_call 25
      refine (HWX.out _ ((Below.refl _ _).drew)).mono ?_
      rintro e w3 ⟨cs3, rfl, c1, c2, c3, hst, hb⟩
      have hb3 : Below (w2.alloc (.cells cs2 34)).heap.size (w2.alloc (.cells cs2 34)) w3 := (Below.refl _ _).drew.trans (hb.mono (Nat.le_refl _))
      have kp3 := keeps_below hb3 _ _ kp
      have r3 : w3.heap[w2.heap.size]? = some (.cells cs2 34 (0, 0)) := (hb3.block _ (by simp)).trans r2
      dsimp only
      refine hK.out _ _ kp3 (fun _ => ?_)
      clear hK K
      (try simp only [Act.put, List.setIfInBounds_toArray, List.set_cons_zero, List.set_cons_succ])
      refine wpAnyH_take (i := 5) (v := ?_) rfl (by kernel_rfl) (by kernel_rfl) (by kernel_rfl) (fun _ _ _ h => h) (Or.inl ⟨by rfl, ?_⟩) kp3 ?_
      rotate_left
      · (intro W hSW; go_simp; try (with_reducible rfl))
      (try simp only [Act.put, List.setIfInBounds_toArray])
      refine wpAnyH_take (i := 6) (v := ?_) rfl (by kernel_rfl) (by kernel_rfl) (by kernel_rfl) (fun _ _ _ h => h) (Or.inl ⟨by rfl, ?_⟩) kp3 ?_
      rotate_left
      · (intro W hSW; go_simp; try (with_reducible rfl))
      (try simp only [Act.put])
      refine wpAnyH_take (i := 7) (v := ?_) rfl (by kernel_rfl) (by kernel_rfl) (by kernel_rfl) (fun _ _ _ h => h) (Or.inl ⟨by rfl, ?_⟩) kp3 ?_
      rotate_left
      · (intro W hSW; go_simp; try (with_reducible rfl))
      (try simp only [Act.put])
      refine wpAnyH_ready (rs := [8]) (by kernel_rfl) (by simp) ?_
      refine AllReadyH.cons rfl (fun K hK => ?_) AllReadyH.nil
      refine wp_store_row 34 _ _ rfl w2.heap.size cs3 rfl rfl 34 cs2 r3 c1 (hz2.symm.trans c2) c3 ?_
      have BN : Below (w1.alloc (.cells #[.slice ao n0 cap0] 29)).heap.size (w1.alloc (.cells #[.slice ao n0 cap0] 29)) (World.setRow w3 w2.heap.size cs3) := below_setRow (B12.out.trans (hb3.mono B12.out.size)) (by have := HZ12.out; simpa using this) _
      have SN : StVal (World.setRow w3 w2.heap.size cs3) (.agg cs3) (walkS P (0 + x) S) := ((hst.mono (show w2.heap.size + 1 ≤ _ by simp)).setRow (by omega) _).val
      have kpN := (HP.out _ BN).1
      refine hK.out _ _ kpN (fun _ => ?_)
      clear hK K
      (try simp only [Act.put])
      refine wpAnyH_ready (rs := [9]) (by kernel_rfl) (by simp) ?_
      refine AllReadyH.cons rfl (fun K hK => ?_) AllReadyH.nil
      go_simp
      refine hK.out _ _ kpN (fun _ => ?_)
      clear hK K
      (try simp only [Act.put, List.setIfInBounds_toArray, List.set_cons_zero, List.set_cons_succ])
      refine wpAnyH_done (by kernel_rfl) ?_ _
      go_wp2_with fail
      go_meet
      exact ⟨cs3, rfl, setRow_heap _ _ _ _ _ _ r3, c1, BN, SN⟩
  case rest =>
    rename World => WW
    obtain ⟨cs3, rfl, row3, q3, B1W0, st3⟩ := hcut
    have B1W : Hid (Below (w1.alloc (.cells #[.slice ao n0 cap0] 29)).heap.size (w1.alloc (.cells #[.slice ao n0 cap0] 29)) WW) := B1W0
    clear B1W0 kp r2 q2 hz2 HWX X2 B12
    have kp := (HP.out _ B1W.out).1
    have HC : Hid (Calls Tryd.prog 20 #[.agg #[.slice ao n0 cap0], .agg cs3] WW _) := knext HK.out (0 + x) (by omega) _ _ WW (HP.out _ B1W.out).2.2.1 (HP.out _ B1W.out).2.2.2 (HP.out _ B1W.out).2.1 st3
    go_upto_region 5 with (first
      | (refine wpList_load_row rfl _ _ rfl _ rfl _ _ _ _ row3 Tryd.underlying34 rfl q3 ?_)
      | (go_at_call 20; refine HC.out.mono ?_; rintro e w4 ⟨cs4, rfl, c1, c2, c3, hst, hb⟩)
      | (refine wpList_store_row rfl _ _ _ rfl _ _ rfl rfl _ _ (heap_alloc_last w4 _) c1 c2 c3 ?_; rw [World.setRow_alloc_new]))
    have B24 : Below WW.heap.size WW (w4.alloc (.cells cs4 34)) := hb.alloc hb.size _
    have r4 : (w4.alloc (.cells cs4 34)).heap[w4.heap.size]? = some (.cells cs4 34 (0, 0)) := heap_alloc_last w4 _
    have r3 : (w4.alloc (.cells cs4 34)).heap[w2.heap.size]? = some (.cells cs3 34 (0, 0)) := (B24.block _ (lt_of_block row3)).trans row3
    have s3 : StVal (w4.alloc (.cells cs4 34)) (.agg cs3) (walkS P (0 + x) S) := st3.keeps (keeps_below B24)
    have s4 : StVal (w4.alloc (.cells cs4 34)) (.agg cs4) (walkS P (0 + x + 1) S) := hst.val.keeps (keeps_below ((Below.refl _ _).alloc (Nat.le_refl _) _))
    have B14 : Hid (Below (w1.alloc (.cells #[.slice ao n0 cap0] 29)).heap.size (w1.alloc (.cells #[.slice ao n0 cap0] 29)) (w4.alloc (.cells cs4 34))) := B1W.out.trans (B24.mono B1W.out.size)
    have BF : Hid (Below w.heap.size w (w4.alloc (.cells cs4 34))) := B01.out.trans (B14.out.mono B01.out.size)
    obtain ⟨hv1, -⟩ := krun_walk HK.out (0 + x)
    clear HC kp row3 st3 hst hb c1 c2 c3 q3
    rcases List.eq_nil_or_concat (walkS P (0 + x) S).frames with hnil | ⟨fs, f, hsn⟩
    · have hs1 : (walkS P (0 + x) S).status = 1 := ((mayB_iff _).1 hv1.may).2.2.2.2.2.2.1.2 (by rw [hnil]; rfl)
      obtain ⟨g0, -, -, fr, fc, -, -, -, -, g2, -, -⟩ := s3.at
      rw [hnil] at g2
      rw [hs1] at g0
      have k0 : (w4.alloc (.cells cs4 34)).cell? ⟨w2.heap.size, 0, none⟩ = some (.int .i64 1) := by rw [cell_of_row _ _ _ _ _ _ r3]; exact g0
      have k2 : (w4.alloc (.cells cs4 34)).cell? ⟨w2.heap.size, 2, none⟩ = some (.slice fr 0 fc) := by rw [cell_of_row _ _ _ _ _ _ r3]; exact g2
      clear g0 g2 s3 s4 hv1 hs1 hnil r3 r4 B24
      go_wp2
      go_ret
      exact ⟨rfl, BF.out⟩
    · rw [List.concat_eq_append] at hsn
      obtain ⟨fb, foff, fcap, g2, frng, f12, fc1, fc2⟩ := s3.framesAt hsn
      have k2 : (w4.alloc (.cells cs4 34)).cell? ⟨w2.heap.size, 2, none⟩ = some (.slice (some ⟨fb, foff, none⟩) (fs.length + 1) fcap) := by rw [cell_of_row _ _ _ _ _ _ r3]; exact g2
      have hpf : placeB P f = true := hv1.fok.place f (by rw [hsn]; simp)
      have hix := place_ins (right_code HR.out) hpf
      have hwm := fun i hi => walk_mem HR.out HK.out.inv (0 + x) fs f hsn i hi
      obtain ⟨m, hm⟩ : ∃ m : Nat, m = fs.length + 1 := ⟨_, rfl⟩
      obtain ⟨j, hj⟩ : ∃ j : Nat, j = fs.length := ⟨_, rfl⟩
      rw [← hm] at k2 fc1
      rw [← hj] at frng
      have hw1 : IntKind.i64.wrap ((m : Int) - 1) = (j : Int) := by rw [show (m : Int) - 1 = j by omega]; exact wrap_fits _ (by omega) (by omega)
      have hjm : (j : Int) < m := by omega
      have hjn : j < m := by omega
      have hm0 : ¬ m = 0 := by omega
      have hfl : (Tryd.prog.info? 44).map (·.size) = some (frCells f).length := by rw [frCells_length f f12]; exact infoFr
      have hfs : (Tryd.prog.info? 44).map (·.size) = some (frCells f).toArray.size := by rw [List.size_toArray]; exact hfl
      have hfo : (frCells f).toArray.all (·.oneCell') = true := by rw [Array.all_eq_true_iff_forall_mem]; intro u hu; exact frCells_one _ u (by simpa using hu)
      have hfz : (zeroFr 0).toArray.size = (frCells f).toArray.size := by rw [List.size_toArray, List.size_toArray, frCells_length f f12]; rfl
      clear g2 hm hj
      go_upto_region 8 with (first
        | (refine wpList_load_mid rfl _ _ rfl fb (foff + j * 14) rfl (frCells f) _ frng Tryd.underlying44 rfl hfl ?_)
        | (refine wpList_store_row rfl _ _ _ rfl _ (frCells f).toArray rfl rfl 44 (zeroFr 0).toArray (heap_alloc2_new w4 _ _) hfs hfz hfo ?_; rw [setRow_alloc2m]))
      have B45 : Below (w4.alloc (.cells cs4 34)).heap.size (w4.alloc (.cells cs4 34)) ((w4.alloc (.cells cs4 34)).alloc (.cells (frCells f).toArray 44)) := (Below.refl _ _).alloc (Nat.le_refl _) _
      have B15 : Hid (Below (w1.alloc (.cells #[.slice ao n0 cap0] 29)).heap.size (w1.alloc (.cells #[.slice ao n0 cap0] 29)) ((w4.alloc (.cells cs4 34)).alloc (.cells (frCells f).toArray 44))) := B14.out.trans (B45.mono B14.out.size)
      obtain ⟨k, jj, pb, po, pcap, b1, off1, m1, cap1, e1, e2, e3, hk, d2, hjj, hm1, hc1, hpc, hpm, hins⟩ := prog_ins (HP.out _ B15.out).2.1 hpf
      have kp := (HP.out _ B15.out).1
      rw [e3] at kp
      have rt : ((w4.alloc (.cells cs4 34)).alloc (.cells (frCells f).toArray 44)).heap[(w4.heap.size + 1)]? = some (.cells (frCells f).toArray 44 (0, 0)) := heap_alloc2_new w4 _ _
      have t0 : ((w4.alloc (.cells cs4 34)).alloc (.cells (frCells f).toArray 44)).cell? ⟨(w4.heap.size + 1), 0, none⟩ = some (.int .i64 (k : Int)) := by rw [cell_of_row _ _ _ _ _ _ rt, ← e1]; rfl
      have t1 : ((w4.alloc (.cells cs4 34)).alloc (.cells (frCells f).toArray 44)).cell? ⟨(w4.heap.size + 1), 1, none⟩ = some (.int .i64 (jj : Int)) := by rw [cell_of_row _ _ _ _ _ _ rt, ← e2]; rfl
      have HTR : Hid (∀ W, Below ((w4.alloc (.cells cs4 34)).alloc (.cells (frCells f).toArray 44)).heap.size ((w4.alloc (.cells cs4 34)).alloc (.cells (frCells f).toArray 44)) W → ∀ r : Nat, r < 12 → W.cell? ⟨(w4.heap.size + 1), 2 + r, none⟩ = some (.int .i64 (f.regs.getD r 0))) := fun W hW r hr => keeps_below hW _ _ (by rw [cell_of_row _ _ _ _ _ _ rt, List.getElem?_toArray, show 2 + r = r + 1 + 1 by omega]; simp [frCells, i64s, List.getD, f12, hr])
      have HMS : Hid (∀ W, Below ((w4.alloc (.cells cs4 34)).alloc (.cells (frCells f).toArray 44)).heap.size ((w4.alloc (.cells cs4 34)).alloc (.cells (frCells f).toArray 44)) W → ∀ i : Nat, i < 16 → W.cell? ⟨w2.heap.size, 3 + i, none⟩ = some (.int .i64 ((walkS P (0 + x) S).mem.getD i 0)) ∧ W.cell? ⟨w4.heap.size, 3 + i, none⟩ = some (.int .i64 ((walkS P (0 + x + 1) S).mem.getD i 0))) := fun W hW i hi => ⟨keeps_below hW _ _ (keeps_below B45 _ _ (by rw [cell_of_row _ _ _ _ _ _ r3]; exact s3.memAt i hi)), keeps_below hW _ _ (keeps_below B45 _ _ (by rw [cell_of_row _ _ _ _ _ _ r4]; exact s4.memAt i hi))⟩
      have hkI : (k : Int) < P.length := by omega
      have hjI : (jj : Int) < m1 := by omega
      have hix2 : InsOk P (insAtFr P f) := hix
      have hwm2 : Hid (∀ i : Nat, i < 16 → (walkS P (0 + x + 1) S).mem.getD i 0 = (walkS P (0 + x) S).mem.getD i 0 ∨ ((insAtFr P f).op = 14 ∧ regD f (insAtFr P f).a = i ∧ (walkS P (0 + x + 1) S).mem.getD i 0 = regD f (insAtFr P f).b)) := hwm
      clear hix hwm frng
      generalize insAtFr P f = xx at hins hix2 hwm2
      obtain ⟨xo, xd, xa, xb, xi⟩ := xx
      obtain ⟨i0, i1, i2, i3, i4⟩ := hins
      dsimp only at i0 i1 i2 i3 i4
      have HIX : Hid (InsOk P ⟨xo, xd, xa, xb, xi⟩) := hix2
      have BF5 : Hid (Below w.heap.size w ((w4.alloc (.cells cs4 34)).alloc (.cells (frCells f).toArray 44))) := BF.out.trans (B45.mono BF.out.size)
      clear hix2 s3 s4 r3 r4 B24 k2 hv1 hsn hpf fc1 fc2 hw1 hjm hjn hm0 hfl hfs hfo hfz rt e1 e2 BF
      simp only [Act.put]
      go_cut [14] from 76 to 86 (fun t wx => ∃ G : Nat, t = .pointer (some ⟨G, 0, none⟩) ∧ wx.heap[G]? = some (.cells #[.int .i64 xo, .int .i64 xd, .int .i64 xa, .int .i64 xb, .int .i64 xi] 46 (0, 0)) ∧ Below ((w4.alloc (.cells cs4 34)).alloc (.cells (frCells f).toArray 44)).heap.size ((w4.alloc (.cells cs4 34)).alloc (.cells (frCells f).toArray 44)) wx)
      case first =>
        refine wp_region_held_drew (S := fun W => Below ((w4.alloc (.cells cs4 34)).alloc (.cells (frCells f).toArray 44)).heap.size ((w4.alloc (.cells cs4 34)).alloc (.cells (frCells f).toArray 44)) W) (by kernel_rfl) ((Below.refl _ _).drew) (fun hHeld => ?_)
        show wpAnyH _ _ _ _ _ 13 _ _ _
        refine wpAnyH_take (i := 0) (v := ?_) rfl (by kernel_rfl) (by kernel_rfl) (by kernel_rfl) (fun _ _ _ h => h) (Or.inl ⟨by rfl, ?_⟩) (by assumption) ?_
        rotate_left
        · (intro W hSW; go_simp; try (with_reducible rfl))
        (try simp only [Act.put, List.setIfInBounds_toArray])
        refine wpAnyH_take (i := 1) (v := ?_) rfl (by kernel_rfl) (by kernel_rfl) (by kernel_rfl) (fun _ _ _ h => h) (Or.inl ⟨by rfl, ?_⟩) (by assumption) ?_
        rotate_left
        · (intro W hSW; have z0 := keeps_below hSW _ _ kp; go_simp; try (with_reducible rfl))
        (try simp only [Act.put])
        refine wpAnyH_take (i := 2) (v := ?_) rfl (by kernel_rfl) (by kernel_rfl) (by kernel_rfl) (fun _ _ _ h => h) (Or.inl ⟨by rfl, ?_⟩) (by assumption) ?_
        rotate_left
        · (intro W hSW; go_simp; try (with_reducible rfl))
        (try simp only [Act.put])
        refine wpAnyH_take (i := 3) (v := ?_) rfl (by kernel_rfl) (by kernel_rfl) (by kernel_rfl) (fun _ _ _ h => h) (Or.inl ⟨by rfl, ?_⟩) (by assumption) ?_
        rotate_left
        · (intro W hSW; have z0 := keeps_below hSW _ _ t0; go_simp; try (with_reducible rfl))
        (try simp only [Act.put])
        refine wpAnyH_take (i := 4) (v := ?_) rfl (by kernel_rfl) (by kernel_rfl) (by kernel_rfl) (fun _ _ _ h => h) (Or.inl ⟨by rfl, ?_⟩) (by assumption) ?_
        rotate_left
        · (intro W hSW; go_simp; try (with_reducible rfl))
        (try simp only [Act.put])
        refine wpAnyH_take (i := 5) (v := ?_) rfl (by kernel_rfl) (by kernel_rfl) (by kernel_rfl) (fun _ _ _ h => h) (Or.inl ⟨by rfl, ?_⟩) (by assumption) ?_
        rotate_left
        · (intro W hSW; go_simp; try (with_reducible rfl))
        (try simp only [Act.put])
        refine wpAnyH_take (i := 6) (v := ?_) rfl (by kernel_rfl) (by kernel_rfl) (by kernel_rfl) (fun _ _ _ h => h) (Or.inl ⟨by rfl, ?_⟩) (by assumption) ?_
        rotate_left
        · (intro W hSW; have z0 := keeps_below hSW _ _ d2; go_simp; try (with_reducible rfl))
        (try simp only [Act.put])
        refine wpAnyH_take (i := 7) (v := ?_) rfl (by kernel_rfl) (by kernel_rfl) (by kernel_rfl) (fun _ _ _ h => h) (Or.inl ⟨by rfl, ?_⟩) (by assumption) ?_
        rotate_left
        · (intro W hSW; go_simp; try (with_reducible rfl))
        (try simp only [Act.put])
        refine wpAnyH_take (i := 8) (v := ?_) rfl (by kernel_rfl) (by kernel_rfl) (by kernel_rfl) (fun _ _ _ h => h) (Or.inl ⟨by rfl, ?_⟩) (by assumption) ?_
        rotate_left
        · (intro W hSW; have z0 := keeps_below hSW _ _ t1; go_simp; try (with_reducible rfl))
        (try simp only [Act.put])
        refine wpAnyH_take (i := 9) (v := ?_) rfl (by kernel_rfl) (by kernel_rfl) (by kernel_rfl) (fun _ _ _ h => h) (Or.inl ⟨by rfl, ?_⟩) (by assumption) ?_
        rotate_left
        · (intro W hSW; go_simp; try (with_reducible rfl))
        (try simp only [Act.put])
        refine wpAnyH_take (i := 10) (v := ?_) rfl (by kernel_rfl) (by kernel_rfl) (by kernel_rfl) (fun _ _ _ h => h) (Or.inl ⟨by rfl, ?_⟩) (by assumption) ?_
        rotate_left
        · (intro W hSW; have z0 := keeps_below hSW _ _ i0; have z1 := keeps_below hSW _ _ i1; have z2 := keeps_below hSW _ _ i2; have z3 := keeps_below hSW _ _ i3; have z4 := keeps_below hSW _ _ i4; go_simp; try (with_reducible rfl))
        (try simp only [Act.put])
        refine wpAnyH_ready (rs := [11]) (by kernel_rfl) (by simp) ?_
        refine AllReadyH.cons rfl (fun K hK => ?_) AllReadyH.nil
        go_simp
        refine hK.out _ _ ((Below.refl _ _).alloc (Nat.le_refl _) _).drew (fun _ => ?_)
        clear hK K
        (try simp only [Act.put, List.setIfInBounds_toArray, List.set_cons_zero, List.set_cons_succ])
        refine wpAnyH_ready (rs := [12]) (by kernel_rfl) (by simp) ?_
        refine AllReadyH.cons rfl (fun K hK => ?_) AllReadyH.nil
        go_simp
        refine hK.out _ _ ((Below.refl _ _).alloc (Nat.le_refl _) _).drew (fun _ => ?_)
        clear hK K
        (try simp only [Act.put, List.setIfInBounds_toArray, List.set_cons_zero, List.set_cons_succ])
        refine wpAnyH_done (by kernel_rfl) ?_ _
        go_wp2_with fail
        go_meet
        exact ⟨_, rfl, heap_alloc3_new w4 _ _ _, ((Below.refl _ _).alloc (Nat.le_refl _) _).drew⟩
      case rest =>
        rename World => WX
        obtain ⟨G, rfl, rowX, BX⟩ := hcut
        obtain ⟨ka, hka⟩ := Int.eq_ofNat_of_zero_le HIX.out.a0
        obtain ⟨kb, hkb⟩ := Int.eq_ofNat_of_zero_le HIX.out.b0
        have la : ka < 12 := by have := HIX.out.a1; omega
        have lb : kb < 12 := by have := HIX.out.b1; omega
        dsimp only at hka hkb
        subst hka hkb
        have HCX : Hid (∀ W, Below WX.heap.size WX W → W.cell? ⟨G, 0, none⟩ = some (.int .i64 xo) ∧ W.cell? ⟨G, 2, none⟩ = some (.int .i64 (ka : Int)) ∧ W.cell? ⟨G, 3, none⟩ = some (.int .i64 (kb : Int)) ∧ W.cell? ⟨(w4.heap.size + 1), 2 + ka, none⟩ = some (.int .i64 (f.regs.getD ka 0)) ∧ W.cell? ⟨(w4.heap.size + 1), 2 + kb, none⟩ = some (.int .i64 (f.regs.getD kb 0))) := fun W hW => ⟨keeps_below hW _ _ (by rw [cell_of_row _ _ _ _ _ _ rowX]; rfl), keeps_below hW _ _ (by rw [cell_of_row _ _ _ _ _ _ rowX]; rfl), keeps_below hW _ _ (by rw [cell_of_row _ _ _ _ _ _ rowX]; rfl), HTR.out _ (BX.trans (hW.mono BX.size)) ka la, HTR.out _ (BX.trans (hW.mono BX.size)) kb lb⟩
        have HBX : Hid (Below ((w4.alloc (.cells cs4 34)).alloc (.cells (frCells f).toArray 44)).heap.size ((w4.alloc (.cells cs4 34)).alloc (.cells (frCells f).toArray 44)) WX) := BX
        have HWM : Hid (∀ i : Nat, i < 16 → (walkS P (0 + x + 1) S).mem.getD i 0 = (walkS P (0 + x) S).mem.getD i 0 ∨ (xo = 14 ∧ f.regs.getD ka 0 = i ∧ (walkS P (0 + x + 1) S).mem.getD i 0 = f.regs.getD kb 0)) := hwm2.out
        clear rowX BX kp t0 t1 d2 i0 i1 i2 i3 i4 hwm2
        go_wp2_with fail
        go_loopw [15] (fun i wr => ∃ k : Nat, k ≤ 16 ∧ i = .int .i64 k ∧ Below WX.heap.size WX wr) (fun i _ => 16 - (intOf i).toNat)
        case atStart => exact ⟨0, by omega, rfl, Below.refl _ _⟩
        case round =>
          obtain ⟨q, hq, rfl, hbr⟩ := hrel
          have HBR : Hid (Below WX.heap.size WX wr) := hbr
          by_cases hlt : q < 16
          · obtain ⟨ms, mn⟩ := HMS.out _ (HBX.out.trans (hbr.mono HBX.out.size)) q hlt
            obtain ⟨c0, c2, c3, c4, c5⟩ := HCX.out _ hbr
            have hw := HWM.out q hlt
            have hqI : (q : Int) < 16 := by omega
            have hw1 : IntKind.i64.wrap ((q : Int) + 1) = (q : Int) + 1 := wrap_fits _ (by omega) (by omega)
            have laI : (ka : Int) < 12 := by omega
            have lbI : (kb : Int) < 12 := by omega
            generalize (walkS P (0 + x + 1) S).mem.getD q 0 = mb at mn hw
            generalize (walkS P (0 + x) S).mem.getD q 0 = ma at ms hw
            generalize f.regs.getD ka 0 = va at c4 hw
            generalize f.regs.getD kb 0 = vb at c5 hw
            clear hbr
            by_cases hab : mb = ma
            · subst hab
              clear hw c0 c2 c3 c4 c5
              go_wp2
              go_quiet (fail)
              go_wp2
              go_roundw
              case rel => exact ⟨q + 1, by omega, by go_num, below_drewN HBR.out _⟩
              case measure => simp [intOf]; omega
            · obtain ⟨h1, h2, h3⟩ := hw.resolve_left hab
              subst h1 h2 h3
              have hne : (ma == mb) = false := by simp; exact fun h => hab h.symm
              have hne2 : ¬ ma = mb := fun h => hab h.symm
              clear hw hab
              go_wp2
              go_quiet (fail)
              go_wp2
              go_roundw
              case rel => exact ⟨q + 1, by omega, by go_num, below_drewN HBR.out _⟩
              case measure => simp [intOf]; omega
          · clear hbr
            go_wp2
            go_ret
            exact ⟨rfl, (BF5.out.trans (HBX.out.mono BF5.out.size)).trans (HBR.out.mono (BF5.out.trans (HBX.out.mono BF5.out.size)).size)⟩
end Go.Proofs.YtcjclencbjllhaaDoor
