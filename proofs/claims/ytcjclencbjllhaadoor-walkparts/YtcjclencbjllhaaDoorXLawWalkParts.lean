/- The walk of tierlinekeep.WalkParts: at all raw numbers it says true, and nothing that was there has turned. -/
import Derived.Test.YtcjclencbjllhaaDoorXKRun
namespace Go.Proofs.YtcjclencbjllhaaDoor
open Go Go.RowKit

set_option maxHeartbeats 8000000 in
set_option maxRecDepth 100000 in
theorem walkParts_walk (l : List Fn) (v : Value) (a0 a1 fuel : Int) (nv : Value) (ln : List Int) (a b : Int) (w : World) (ht : TabOk w) (hc : CallOk w) (hv : ProgVal w v l) (hwf : ∀ f ∈ l, f.wf) (hn : IntsVal w nv ln) (hfu : I64 fuel) (ha : I64 a) (hb : I64 b) :
    Calls Tryd.prog 11 #[v, inVal a0 a1 nv fuel, .int .i64 a, .int .i64 b] w fun e w' => e = .returned (.bool true) ∧ Below w.heap.size w w' := by
  obtain ⟨x, hx, ex⟩ : ∃ x : Nat, x < 150 ∧ pickI a 150 = x := by have b := pickI_bounds a 150 (by omega); obtain ⟨k, hk⟩ := Int.eq_ofNat_of_zero_le b.1; exact ⟨k, by omega, hk⟩
  obtain ⟨y, hy, ey⟩ : ∃ x : Nat, x < 150 ∧ pickI b 150 = x := by have b := pickI_bounds b 150 (by omega); obtain ⟨k, hk⟩ := Int.eq_ofNat_of_zero_le b.1; exact ⟨k, by omega, hk⟩
  have hPX : Hid (∀ W, Calls Tryd.prog 22 #[.int .i64 a, .int .i64 150] W fun e w' => e = .returned (.int .i64 (x : Int)) ∧ w' = W) := fun W => by have := picked_any a 150 W ha (by omega) (by omega); rw [ex] at this; exact this
  have hPY : Hid (∀ W, Calls Tryd.prog 22 #[.int .i64 b, .int .i64 150] W fun e w' => e = .returned (.int .i64 (y : Int)) ∧ w' = W) := fun W => by have := picked_any b 150 W hb (by omega) (by omega); rw [ey] at this; exact this
  clear ex ey ha hb
  obtain ⟨nao, nc, rfl⟩ := hn.shape
  obtain ⟨lao, ll, lc, rfl⟩ := hv.shape
  have HTC : Hid (∀ W, Below w.heap.size w W → TabOk W ∧ CallOk W) := fun W hb => ⟨ht.below hb, hc.below hb⟩
  have HB0 : Hid (Below w.heap.size w (w.alloc (.cells #[.int .i64 a0, .int .i64 a1, .slice nao ln.length nc, .int .i64 fuel] 26))) := (Below.refl _ _).alloc (Nat.le_refl _) _
  have HPR : Hid (Calls Tryd.prog 15 #[.slice lao ll lc] (w.alloc (.cells #[.int .i64 a0, .int .i64 a1, .slice nao ln.length nc, .int .i64 fuel] 26)) fun e w' => ∃ ao n cap P, e = .returned (.agg #[.slice ao n cap]) ∧ ProofAns P 0 ∧ ProgVal w' (.slice ao n cap) P ∧ Below (w.alloc (.cells #[.int .i64 a0, .int .i64 a1, .slice nao ln.length nc, .int .i64 fuel] 26)).heap.size (w.alloc (.cells #[.int .i64 a0, .int .i64 a1, .slice nao ln.length nc, .int .i64 fuel] 26)) w') := kprog l _ _ (HTC.out _ HB0.out).1 (HTC.out _ HB0.out).2 (hv.keeps (keeps_below HB0.out)) hwf
  have HNV : Hid (∀ W, Below w.heap.size w W → IntsVal W (.slice nao ln.length nc) ln) := fun W hb => hn.keeps (keeps_below hb)
  have HFU : Hid (I64 fuel) := hfu
  have infoIn : (Tryd.prog.info? 26).map (·.size) = some 4 := by kernel_rfl
  unfold inVal
  clear ht hc hv hwf hn hfu
  go_enter Tryd.func11, Tryd.ntmps11
  go_upto_region 2 with (go_at_call 15; refine HPR.out.mono ?_; rintro e w1 ⟨ao, n0, cap0, P, rfl, hR, hpv, hb1⟩)
  have HR : Hid (ProofAns P 0) := hR
  have B01 : Hid (Below w.heap.size w (w1.alloc (.cells #[.slice ao n0 cap0] 29))) := (HB0.out.trans (hb1.mono (by simp))).alloc (by have := hb1.size; simp at this; omega) _
  have I1 : (w1.alloc (.cells #[.slice ao n0 cap0] 29)).heap[w.heap.size]? = some (.cells #[.int .i64 a0, .int .i64 a1, .slice nao ln.length nc, .int .i64 fuel] 26 (0, 0)) := (heap_alloc_old _ _ (by have := hb1.size; simp at this; omega)).trans ((hb1.block _ (by simp)).trans (heap_alloc_last w _))
  have HP : Hid (∀ W, Below (w1.alloc (.cells #[.slice ao n0 cap0] 29)).heap.size (w1.alloc (.cells #[.slice ao n0 cap0] 29)) W → W.cell? ⟨w1.heap.size, 0, none⟩ = some (.slice ao n0 cap0) ∧ ProgVal W (.slice ao n0 cap0) P ∧ TabOk W ∧ CallOk W) := fun W hb => ⟨keeps_below hb _ _ (by rw [cell_of_row _ _ _ _ _ _ (heap_alloc_last w1 _)]; rfl), (hpv.keeps (keeps_below ((Below.refl _ _).alloc (Nat.le_refl _) _))).keeps (keeps_below hb), (HTC.out _ (B01.out.trans (hb.mono B01.out.size))).1, (HTC.out _ (B01.out.trans (hb.mono B01.out.size))).2⟩
  have HKB : Hid (Calls Tryd.prog 16 #[.agg #[.slice ao n0 cap0], .agg #[.int .i64 a0, .int .i64 a1, .slice nao ln.length nc, .int .i64 fuel]] (w1.alloc (.cells #[.slice ao n0 cap0] 29)) _) := kbegin P (.slice ao n0 cap0) a0 a1 fuel (.slice nao ln.length nc) ln (w1.alloc (.cells #[.slice ao n0 cap0] 29)) (HP.out _ (Below.refl _ _)).2.2.1 (HP.out _ (Below.refl _ _)).2.2.2 HR.out (HP.out _ (Below.refl _ _)).2.1 (HNV.out _ B01.out) HFU.out
  clear hR hpv hb1
  go_upto_region 3 with (first
    | (refine wpList_load_row rfl _ _ rfl _ rfl _ _ _ _ I1 Tryd.underlying26 rfl infoIn ?_)
    | (go_at_call 16; refine HKB.out.mono ?_; rintro e w2 ⟨cs2, S, rfl, hk, hs0, c1, c2, c3, hst, hb2⟩)
    | (refine wpList_store_row rfl _ _ _ rfl _ _ rfl rfl _ _ (heap_alloc_last w2 _) c1 c2 c3 ?_; rw [World.setRow_alloc_new]))
  have HK : Hid (KRunAt P S) := hk
  have HS0 : Hid (S.fuel ≤ 299 ∧ S.answers.length ≤ 10 ∧ S.status = 0) := hs0
  have B12 : Hid (Below (w1.alloc (.cells #[.slice ao n0 cap0] 29)).heap.size (w1.alloc (.cells #[.slice ao n0 cap0] 29)) (w2.alloc (.cells cs2 34))) := hb2.alloc hb2.size _
  have X2 : Hid (∀ W, Below (w2.alloc (.cells cs2 34)).heap.size (w2.alloc (.cells cs2 34)) W → W.heap[w2.heap.size]? = some (.cells cs2 34 (0, 0)) ∧ StVal W (.agg cs2) (walkS P 0 S)) := fun W hb => ⟨(hb.block _ (by simp)).trans (heap_alloc_last w2 _), (hst.val.keeps (keeps_below ((Below.refl _ _).alloc (Nat.le_refl _) _))).keeps (keeps_below hb)⟩
  have q2 : (Tryd.prog.info? 34).map (·.size) = some cs2.size := c1
  clear hk hs0 hst hb2 I1 HKB c1 c2 c3 infoIn
  go_upto_region 4 with (go_at_call 22; refine (hPX.out _).mono ?_; rintro e wp ⟨rfl, hwp⟩; replace hwp := hwp.symm; subst hwp)
  go_upto_region 5 with (go_at_call 22; refine (hPY.out _).mono ?_; rintro e wp ⟨rfl, hwp⟩; replace hwp := hwp.symm; subst hwp)
  have hxy : IntKind.i64.wrap ((x : Int) + (y : Int)) = ((x + y : Nat) : Int) := by rw [wrap_fits _ (by omega) (by omega)]; omega
  have kp := (HP.out _ B12.out).1
  have r2 := (X2.out _ (Below.refl _ _)).1
  have HC3 : Hid (Calls Tryd.prog 25 #[.agg #[.slice ao n0 cap0], .agg cs2, .int .i64 ((x + y : Nat) : Int)] (w2.alloc (.cells cs2 34)) _) := kwalk HK.out (0) (x + y) (by omega) (by omega) _ _ (w2.alloc (.cells cs2 34)) (HP.out _ B12.out).2.2.1 (HP.out _ B12.out).2.2.2 (HP.out _ B12.out).2.1 (X2.out _ (Below.refl _ _)).2
  go_upto_region 6 with (first
    | (refine wpList_load_row rfl _ _ rfl _ rfl _ _ _ _ r2 Tryd.underlying34 rfl q2 ?_)
    | (go_at_call 25; refine HC3.out.mono ?_; rintro e w3 ⟨cs3, rfl, c1, c2, c3, hst, hb⟩)
    | (refine wpList_store_row rfl _ _ _ rfl _ _ rfl rfl _ _ (heap_alloc_last w3 _) c1 c2 c3 ?_; rw [World.setRow_alloc_new]))
  have B23 : Hid (Below (w2.alloc (.cells cs2 34)).heap.size (w2.alloc (.cells cs2 34)) (w3.alloc (.cells cs3 34))) := hb.alloc hb.size _
  have X3 : Hid (∀ W, Below (w3.alloc (.cells cs3 34)).heap.size (w3.alloc (.cells cs3 34)) W → W.heap[w3.heap.size]? = some (.cells cs3 34 (0, 0)) ∧ StVal W (.agg cs3) (walkS P (0 + (x + y)) S)) := fun W hb => ⟨(hb.block _ (by simp)).trans (heap_alloc_last w3 _), (hst.val.keeps (keeps_below ((Below.refl _ _).alloc (Nat.le_refl _) _))).keeps (keeps_below hb)⟩
  have q3 : (Tryd.prog.info? 34).map (·.size) = some cs3.size := c1
  clear hst hb c1 c2 c3 kp HC3
  clear r2
  have kp := (HP.out _ (B12.out.trans (B23.out.mono B12.out.size))).1
  have r2 := (X2.out _ B23.out).1
  have HC4 : Hid (Calls Tryd.prog 25 #[.agg #[.slice ao n0 cap0], .agg cs2, .int .i64 ((x : Nat) : Int)] (w3.alloc (.cells cs3 34)) _) := kwalk HK.out (0) (x) (by omega) (by omega) _ _ (w3.alloc (.cells cs3 34)) (HP.out _ (B12.out.trans (B23.out.mono B12.out.size))).2.2.1 (HP.out _ (B12.out.trans (B23.out.mono B12.out.size))).2.2.2 (HP.out _ (B12.out.trans (B23.out.mono B12.out.size))).2.1 (X2.out _ B23.out).2
  go_upto_region 7 with (first
    | (refine wpList_load_row rfl _ _ rfl _ rfl _ _ _ _ r2 Tryd.underlying34 rfl q2 ?_)
    | (go_at_call 25; refine HC4.out.mono ?_; rintro e w4 ⟨cs4, rfl, c1, c2, c3, hst, hb⟩)
    | (refine wpList_store_row rfl _ _ _ rfl _ _ rfl rfl _ _ (heap_alloc_last w4 _) c1 c2 c3 ?_; rw [World.setRow_alloc_new]))
  have B34 : Hid (Below (w3.alloc (.cells cs3 34)).heap.size (w3.alloc (.cells cs3 34)) (w4.alloc (.cells cs4 34))) := hb.alloc hb.size _
  have X4 : Hid (∀ W, Below (w4.alloc (.cells cs4 34)).heap.size (w4.alloc (.cells cs4 34)) W → W.heap[w4.heap.size]? = some (.cells cs4 34 (0, 0)) ∧ StVal W (.agg cs4) (walkS P (0 + x) S)) := fun W hb => ⟨(hb.block _ (by simp)).trans (heap_alloc_last w4 _), (hst.val.keeps (keeps_below ((Below.refl _ _).alloc (Nat.le_refl _) _))).keeps (keeps_below hb)⟩
  have q4 : (Tryd.prog.info? 34).map (·.size) = some cs4.size := c1
  clear hst hb c1 c2 c3 kp HC4
  clear r2
  have kp := (HP.out _ ((B12.out.trans (B23.out.mono B12.out.size)).trans (B34.out.mono (B12.out.trans (B23.out.mono B12.out.size)).size))).1
  have r4 := (X4.out _ (Below.refl _ _)).1
  have HC5 : Hid (Calls Tryd.prog 25 #[.agg #[.slice ao n0 cap0], .agg cs4, .int .i64 ((y : Nat) : Int)] (w4.alloc (.cells cs4 34)) _) := kwalk HK.out (0 + x) (y) (by omega) (by omega) _ _ (w4.alloc (.cells cs4 34)) (HP.out _ ((B12.out.trans (B23.out.mono B12.out.size)).trans (B34.out.mono (B12.out.trans (B23.out.mono B12.out.size)).size))).2.2.1 (HP.out _ ((B12.out.trans (B23.out.mono B12.out.size)).trans (B34.out.mono (B12.out.trans (B23.out.mono B12.out.size)).size))).2.2.2 (HP.out _ ((B12.out.trans (B23.out.mono B12.out.size)).trans (B34.out.mono (B12.out.trans (B23.out.mono B12.out.size)).size))).2.1 (X4.out _ (Below.refl _ _)).2
  go_upto_region 8 with (first
    | (refine wpList_load_row rfl _ _ rfl _ rfl _ _ _ _ r4 Tryd.underlying34 rfl q4 ?_)
    | (go_at_call 25; refine HC5.out.mono ?_; rintro e w5 ⟨cs5, rfl, c1, c2, c3, hst, hb⟩)
    | (refine wpList_store_row rfl _ _ _ rfl _ _ rfl rfl _ _ (heap_alloc_last w5 _) c1 c2 c3 ?_; rw [World.setRow_alloc_new]))
  have B45 : Hid (Below (w4.alloc (.cells cs4 34)).heap.size (w4.alloc (.cells cs4 34)) (w5.alloc (.cells cs5 34))) := hb.alloc hb.size _
  have X5 : Hid (∀ W, Below (w5.alloc (.cells cs5 34)).heap.size (w5.alloc (.cells cs5 34)) W → W.heap[w5.heap.size]? = some (.cells cs5 34 (0, 0)) ∧ StVal W (.agg cs5) (walkS P (0 + x + y) S)) := fun W hb => ⟨(hb.block _ (by simp)).trans (heap_alloc_last w5 _), (hst.val.keeps (keeps_below ((Below.refl _ _).alloc (Nat.le_refl _) _))).keeps (keeps_below hb)⟩
  have q5 : (Tryd.prog.info? 34).map (·.size) = some cs5.size := c1
  clear hst hb c1 c2 c3 kp HC5
  clear r4
  have kp := (HP.out _ (((B12.out.trans (B23.out.mono B12.out.size)).trans (B34.out.mono (B12.out.trans (B23.out.mono B12.out.size)).size)).trans (B45.out.mono ((B12.out.trans (B23.out.mono B12.out.size)).trans (B34.out.mono (B12.out.trans (B23.out.mono B12.out.size)).size)).size))).1
  have r3 := (X3.out _ (B34.out.trans (B45.out.mono B34.out.size))).1
  have r5 := (X5.out _ (Below.refl _ _)).1
  have f3 : ∃ fr fn fc, cs3[2]? = some (.slice fr fn fc) ∧ fn ≤ 8 := by
    obtain ⟨fv, ev, av, e1, -, hf, -⟩ := (X3.out _ (B34.out.trans (B45.out.mono B34.out.size))).2
    obtain ⟨fr, fc, rfl⟩ := hf.shape
    obtain rfl : cs3 = _ := by simpa using e1
    exact ⟨fr, _, fc, rfl, ((mayB_iff _).1 (krun_walk HK.out _).1.may).2.2.2.2.1⟩
  obtain ⟨fr, fn, fc, f3, f8⟩ := f3
  have HSS : Hid (∀ W, Below (w5.alloc (.cells cs5 34)).heap.size (w5.alloc (.cells cs5 34)) W → Calls Tryd.prog 24 #[.agg cs3, .agg cs5] W fun e w' => e = .returned (.bool true) ∧ Below W.heap.size W w') := fun W hW => sameState_keep (walkS P (0 + (x + y)) S) _ _ W ((X3.out _ (B34.out.trans (B45.out.mono B34.out.size))).2.keeps (keeps_below hW)) (by have := (X5.out _ (Below.refl _ _)).2.keeps (keeps_below hW); rwa [show 0 + x + y = 0 + (x + y) by omega] at this)
  have f8I : (fn : Int) ≤ 8 := by omega
  go_wp2_with (first
    | (refine wpList_load_wanted_k rfl _ _ rfl w3.heap.size rfl _ _ _ _ r3 Tryd.underlying34 rfl q3 ?_)
    | (refine wpList_load_wanted_k rfl _ _ rfl w5.heap.size rfl _ _ _ _ r5 Tryd.underlying34 rfl q5 ?_)
    | (go_at_call 24; refine (HSS.out _ (Below.refl _ _)).mono ?_; rintro e w6 ⟨rfl, hb6⟩; have g3 : w6.cell? ⟨w3.heap.size, 2, none⟩ = some (.slice fr fn fc) := (by rw [cell_of_row _ _ _ _ _ _ ((X3.out _ ((B34.out.trans (B45.out.mono B34.out.size)).trans (hb6.mono (B34.out.trans (B45.out.mono B34.out.size)).size))).1)]; exact f3)))
  go_ret
  exact ⟨rfl, (B01.out.trans ((((B12.out.trans (B23.out.mono B12.out.size)).trans (B34.out.mono (B12.out.trans (B23.out.mono B12.out.size)).size)).trans (B45.out.mono ((B12.out.trans (B23.out.mono B12.out.size)).trans (B34.out.mono (B12.out.trans (B23.out.mono B12.out.size)).size)).size)).mono B01.out.size)).trans (hb6.mono ((B01.out.trans ((((B12.out.trans (B23.out.mono B12.out.size)).trans (B34.out.mono (B12.out.trans (B23.out.mono B12.out.size)).size)).trans (B45.out.mono ((B12.out.trans (B23.out.mono B12.out.size)).trans (B34.out.mono (B12.out.trans (B23.out.mono B12.out.size)).size)).size)).mono B01.out.size)).size))⟩
end Go.Proofs.YtcjclencbjllhaaDoor
