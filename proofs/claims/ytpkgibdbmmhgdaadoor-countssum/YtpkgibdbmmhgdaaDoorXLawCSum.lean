/- The walk of tierlinekeep.CountsSum: at all raw numbers it says true, and nothing that was there has turned. -/
import Derived.Test.YtpkgibdbmmhgdaaDoorXKRun
import Derived.Test.YtpkgibdbmmhgdaaDoorXKRunX
import Derived.Test.YtpkgibdbmmhgdaaDoorXCountSum
import Derived.Test.YtpkgibdbmmhgdaaDoorXRightRaw
namespace Go.Proofs.YtpkgibdbmmhgdaaDoor
open Go Go.RowKit

set_option maxHeartbeats 8000000 in
set_option maxRecDepth 100000 in
theorem countsSum_walk (l : List Fn) (v : Value) (a0 a1 fuel : Int) (nv : Value) (ln : List Int) (w : World) (ht : TabOk w) (hc : CallOk w) (hv : ProgVal w v l) (hwf : ∀ f ∈ l, f.wf) (hn : IntsVal w nv ln) (hfu : I64 fuel) :
    Calls Tryd.prog 7 #[v, inVal a0 a1 nv fuel] w fun e w' => e = .returned (.bool true) ∧ Below w.heap.size w w' := by
  obtain ⟨nao, nc, rfl⟩ := hn.shape
  obtain ⟨lao, ll, lc, rfl⟩ := hv.shape
  have HTC : Hid (∀ W, Below w.heap.size w W → TabOk W ∧ CallOk W) := fun W hb => ⟨ht.below hb, hc.below hb⟩
  have HB0 : Hid (Below w.heap.size w (w.alloc (.cells #[.int .i64 a0, .int .i64 a1, .slice nao ln.length nc, .int .i64 fuel] 26))) := (Below.refl _ _).alloc (Nat.le_refl _) _
  have HPR : Hid (Calls Tryd.prog 14 #[.slice lao ll lc] (w.alloc (.cells #[.int .i64 a0, .int .i64 a1, .slice nao ln.length nc, .int .i64 fuel] 26)) fun e w' => ∃ ao n cap P, e = .returned (.agg #[.slice ao n cap]) ∧ ProofAns P 0 ∧ ProgVal w' (.slice ao n cap) P ∧ Below (w.alloc (.cells #[.int .i64 a0, .int .i64 a1, .slice nao ln.length nc, .int .i64 fuel] 26)).heap.size (w.alloc (.cells #[.int .i64 a0, .int .i64 a1, .slice nao ln.length nc, .int .i64 fuel] 26)) w') := kprog l _ _ (HTC.out _ HB0.out).1 (HTC.out _ HB0.out).2 (hv.keeps (keeps_below HB0.out)) hwf
  have HNV : Hid (∀ W, Below w.heap.size w W → IntsVal W (.slice nao ln.length nc) ln) := fun W hb => hn.keeps (keeps_below hb)
  have HFU : Hid (I64 fuel) := hfu
  unfold inVal
  clear ht hc hv hwf hn hfu
  go_enter Tryd.func7, Tryd.ntmps7
  go_upto_region 2 with (go_at_call 14; refine HPR.out.mono ?_; rintro e w1 ⟨ao, n0, cap0, P, rfl, hR, hpv, hb1⟩)
  have HR : Hid (ProofAns P 0) := hR
  have B01 : Hid (Below w.heap.size w (w1.alloc (.cells #[.slice ao n0 cap0] 29))) := (HB0.out.trans (hb1.mono (by simp))).alloc (by have := hb1.size; simp at this; omega) _
  have I1 : (w1.alloc (.cells #[.slice ao n0 cap0] 29)).heap[w.heap.size]? = some (.cells #[.int .i64 a0, .int .i64 a1, .slice nao ln.length nc, .int .i64 fuel] 26 (0, 0)) := (heap_alloc_old _ _ (by have := hb1.size; simp at this; omega)).trans ((hb1.block _ (by simp)).trans (heap_alloc_last w _))
  have HP : Hid (∀ W, Below (w1.alloc (.cells #[.slice ao n0 cap0] 29)).heap.size (w1.alloc (.cells #[.slice ao n0 cap0] 29)) W → W.cell? ⟨w1.heap.size, 0, none⟩ = some (.slice ao n0 cap0) ∧ ProgVal W (.slice ao n0 cap0) P ∧ TabOk W ∧ CallOk W) := fun W hb => ⟨keeps_below hb _ _ (by rw [cell_of_row _ _ _ _ _ _ (heap_alloc_last w1 _)]; rfl), (hpv.keeps (keeps_below ((Below.refl _ _).alloc (Nat.le_refl _) _))).keeps (keeps_below hb), (HTC.out _ (B01.out.trans (hb.mono B01.out.size))).1, (HTC.out _ (B01.out.trans (hb.mono B01.out.size))).2⟩
  clear hR hpv hb1 HPR HB0
  generalize (w1.alloc (.cells #[.slice ao n0 cap0] 29)) = WP at *
  generalize w1.heap.size = PB at *
  obtain ⟨b, off, cap, hvs, d0, hp1, hpc, hpm, q0, q2p⟩ := right_head HR.out (HP.out _ (Below.refl _ _)).2.1
  obtain ⟨rfl, rfl, rfl⟩ : ao = some ⟨b, off, none⟩ ∧ n0 = P.length ∧ cap0 = cap := by simpa using hvs
  obtain ⟨p, hp⟩ := Int.eq_ofNat_of_zero_le q0
  have hp2 : p ≤ 2 := by omega
  have hpI : (p : Int) ≤ 2 := by omega
  rw [hp] at d0
  have HPP : Hid (par0 P = p) := hp
  unfold maxLen at hpm
  have hP0 : (0 : Int) < P.length := by omega
  have hP0n : 0 < P.length := by omega
  obtain ⟨m, hm⟩ : ∃ m : Nat, m = min ln.length 10 := ⟨_, rfl⟩
  have hml : m ≤ ln.length := by omega
  have hmI : (m : Int) ≤ ln.length := by omega
  have hmin : (if (10 : Int) < (ln.length : Int) then (10 : Int) else (ln.length : Int)) = (m : Int) := by split <;> omega
  have hnc := ints_cap (HNV.out _ (Below.refl _ _))
  have hmc : m ≤ nc := by omega
  have hm10 : m ≤ 10 := by omega
  have HLM : Hid (ln.take m = ln.take 10) := by show _ = _; rw [hm]; exact take_ten ln
  obtain ⟨F, hF, eF⟩ : ∃ x : Nat, x < 300 ∧ pickI fuel 300 = x := by have b := pickI_bounds fuel 300 (by omega); obtain ⟨k, hk⟩ := Int.eq_ofNat_of_zero_le b.1; exact ⟨k, by omega, hk⟩
  have HPK : Hid (∀ W, Calls Tryd.prog 21 #[.int .i64 fuel, .int .i64 300] W fun e w' => e = .returned (.int .i64 (F : Int)) ∧ w' = W) := fun W => by have := picked_any fuel 300 W HFU.out (by omega) (by omega); rw [eF] at this; exact this
  have rI : WP.heap[w.heap.size]? = some (.cells #[.int .i64 a0, .int .i64 a1, .slice nao ln.length nc, .int .i64 fuel] 26 (0, 0)) := ((Below.refl _ _).block _ (lt_of_block I1)).trans I1
  have I2 : WP.cell? ⟨w.heap.size, 2, none⟩ = some (.slice nao ln.length nc) := by rw [cell_of_row _ _ _ _ _ _ rI]; rfl
  have I3 : WP.cell? ⟨w.heap.size, 3, none⟩ = some (.int .i64 fuel) := by rw [cell_of_row _ _ _ _ _ _ rI]; rfl
  have HIA : Hid (IntsVal WP (.slice (some ⟨w.heap.size, 0, none⟩) p 2) ([a0, a1].take p)) := args_vals rI hp2
  have HIN : Hid (IntsVal w (.slice nao m nc) (ln.take m)) := ints_cut (HNV.out _ (Below.refl _ _)) hml
  have HAL : Hid ((([a0, a1].take p).length : Int) = par0 P) := by show _ = _; rw [HPP.out, List.length_take]; simp only [List.length_cons, List.length_nil]; omega
  have HNL : Hid ((ln.take m).length ≤ 100) := by show _ ≤ _; rw [List.length_take]; omega
  clear hvs q0 q2p hp eF hm
  have kp := (HP.out _ (Below.refl _ _)).1
  go_upto_region 5 with (go_at_call 21; refine (HPK.out _).mono ?_; rintro e wp ⟨rfl, hwp⟩; replace hwp := hwp.symm; subst hwp)
  have HAW : Hid (∀ W, Below WP.heap.size WP W → IntsVal W (.slice (some ⟨w.heap.size, 0, none⟩) p 2) ([a0, a1].take p) ∧ IntsVal W (.slice nao m nc) (ln.take m)) := fun W hb => ⟨HIA.out.keeps (keeps_below hb), HIN.out.keeps (keeps_below (B01.out.trans (hb.mono B01.out.size)))⟩
  have HRV : Hid (RunInv P (beginSt ([a0, a1].take p) (ln.take m) (F : Int))) := runInv_begin HR.out _ _ _ (by have := HAL.out; have := HPP.out; omega) HNL.out (by omega) (by omega)
  clear HIA HIN rI I1 I2 I3 d0 hmin hmI hml hmc hnc hm10 hpI hp2
  have hCT := counts_any P (.slice (some ⟨b, off, none⟩) P.length cap0) _ _ ([a0, a1].take p) (ln.take m) F WP (HP.out _ (Below.refl _ _)).2.2.1 (HP.out _ (Below.refl _ _)).2.2.2 HR.out (HP.out _ (Below.refl _ _)).2.1 (HAW.out _ (Below.refl _ _)).1 (HAW.out _ (Below.refl _ _)).2 HAL.out HNL.out (by omega)
  have HRN : Hid (∀ W, Below WP.heap.size WP W → Calls Tryd.prog 20 #[.agg #[.slice (some ⟨b, off, none⟩) P.length cap0], .slice (some ⟨w.heap.size, 0, none⟩) p 2, .slice nao m nc, .int .i64 (F : Int)] W fun e w' => ∃ cs, e = .returned (.tuple #[.agg cs, .int .i64 0]) ∧ (Tryd.prog.info? 34).map (·.size) = some cs.size ∧ zeroStCells.size = cs.size ∧ cs.all (·.oneCell') = true ∧ StAt w' W.heap.size (.agg cs) (walkS P (F + 1) (beginSt ([a0, a1].take p) (ln.take m) F)) ∧ Below W.heap.size W w') := fun W hb => run_any P _ _ _ ([a0, a1].take p) (ln.take m) F W (HP.out _ hb).2.2.1 (HP.out _ hb).2.2.2 HR.out (HP.out _ hb).2.1 (HAW.out _ hb).1 (HAW.out _ hb).2 HAL.out HNL.out (by omega)
  have HSF : Hid ((beginSt ([a0, a1].take p) (ln.take m) (F : Int)).fuel = F) := rfl
  generalize beginSt ([a0, a1].take p) (ln.take m) (F : Int) = S at *
  go_upto_region 7 with (first
    | (go_at_call 28; refine hCT.mono ?_; rintro e w2 ⟨g, VV, n, rfl, hcn, hend, hgw, hb2⟩; have kp2 := keeps_below hb2 _ _ kp; have hRN := HRN.out w2 hb2)
    | (go_at_call 20; refine hRN.mono ?_; rintro e w3 ⟨cs3, rfl, c1, c2, c3, hst, hb3⟩)
    | (refine wpList_store_row rfl _ _ _ rfl _ _ rfl rfl _ _ (heap_alloc_last w3 _) c1 c2 c3 ?_; rw [World.setRow_alloc_new]))
  have hb34 : Below w2.heap.size w2 (w3.alloc (.cells cs3 34)) := hb3.alloc hb3.size _
  have HW4 : Hid (Below WP.heap.size WP (w3.alloc (.cells cs3 34))) := hb2.trans (hb34.mono hb2.size)
  have HCN : Hid (CntAt (w3.alloc (.cells cs3 34)) g P.length VV (cntS P S n)) := hcn.below hb34
  have r19 : (w3.alloc (.cells cs3 34)).cell? ⟨w3.heap.size, 19, none⟩ = some (.int .i64 (walkS P (F + 1) S).fuel) := by rw [cell_of_row _ _ _ _ _ _ (heap_alloc_last w3 _)]; exact hst.val.at.2.2.1
  have HEQ : Hid (walkS P n S = walkS P (F + 1) S) := ended_same P n (F + 1) S hend (run_ended HR.out HRV.out (F + 1) (by rw [HSF.out]; omega))
  have hG3 : w3.heap.size < (w3.alloc (.cells cs3 34)).heap.size := by simp
  clear hcn hend hgw hb2 hst hb3 hb34 c1 c2 c3 kp kp2 hRN hCT HRN HAW
  generalize (w3.alloc (.cells cs3 34)) = WC at *
  generalize w3.heap.size = RB at *
  have kp := (HP.out _ HW4.out).1
  have HNN : Hid (∀ a b, 0 ≤ cellC (cntS P S n) a b) := fun a b => (cnt_cell HR.out HRV.out a b n).1
  have HNW : Hid (∀ a b, (ha : a < P.length) → ¬ Way P[a] 63 b → cellC (cntS P S n) a b = 0) := fun a b ha hw => (cnt_cell HR.out HRV.out a b n).2 ha hw
  have HSH : Hid (CShape P (cntS P S n)) := cshape_cnt P S n
  have HSM : Hid (sumLL (cntS P S n) = F - (walkS P (F + 1) S).fuel) := by show _ = _; rw [cnt_sum HR.out HRV.out n, HSF.out, HEQ.out]
  have hfr : 0 ≤ (walkS P (F + 1) S).fuel ∧ (walkS P (F + 1) S).fuel ≤ 10000 := by have := (mayB_iff _).1 (runInv_walk HR.out (F + 1) HRV.out).may; omega
  have HRD : Hid (∀ i, (hi : i < P.length) → ∃ r c, (∀ W, Below WC.heap.size WC W → W.cell? ⟨g, i, none⟩ = some (.slice (some ⟨r, 0, none⟩) P[i].code.length c) ∧ ∀ j, j < P[i].code.length → W.cell? ⟨r, j, none⟩ = some (.int .i64 (cellC (cntS P S n) i j))) ∧ P[i].code.length ≤ c) := fun i hi => by
    obtain ⟨r, c, h1, h2, h3⟩ := HCN.out.read HSH.out hi (fnOk_of (right_code HR.out) (List.getElem_mem hi)).1.len1
    exact ⟨r, c, fun W hW => ⟨keeps_below hW _ _ h1, fun j hj => keeps_below hW _ _ (h3 j hj)⟩, h2⟩
  have HSU : Hid (∀ i, (hi : i < P.length) → ∀ W, Below WC.heap.size WC W → Calls Tryd.prog 17 #[.agg #[.slice (some ⟨b, off, none⟩) P.length cap0], .int .i64 i] W fun e w' => ∃ v' A, e = .returned (.tuple #[v', .int .i64 0]) ∧ (A.length = P[i].code.length ∧ ∀ q, q < P[i].code.length → (0 ≤ A.getD q 0 ↔ Way P[i] 63 q)) ∧ IntsVal w' v' A ∧ Below W.heap.size W w') := fun i hi W hW => by
    have hb := HW4.out.trans (hW.mono HW4.out.size)
    have hfe := fnErr_ok (right_code HR.out) hi
    have h := sure_all P (.slice (some ⟨b, off, none⟩) P.length cap0) i W (HP.out _ hb).2.2.1 (HP.out _ hb).2.1
    rw [hfe] at h
    exact h.mono fun e w' ⟨v', A, h1, h2, h3⟩ => ⟨v', A, h1, reach_sure hfe hi h2, h3⟩
  have HCL : Hid (∀ i, (hi : i < P.length) → P[i].code.length ≤ 40) := fun i hi => (fnOk_of (right_code HR.out) (List.getElem_mem hi)).1.len2
  have HKP : Hid (∀ W, Below WC.heap.size WC W → W.cell? ⟨PB, 0, none⟩ = some (.slice (some ⟨b, off, none⟩) P.length cap0)) := fun W hW => (HP.out _ (HW4.out.trans (hW.mono HW4.out.size))).1
  have HWF : Hid (Below w.heap.size w WC) := B01.out.trans (HW4.out.mono B01.out.size)
  have hwr : IntKind.i64.wrap ((F : Int) - (walkS P (F + 1) S).fuel) = (F : Int) - (walkS P (F + 1) S).fuel := by have h1 := (sumLL_get HNN.out 0).2; have h2 := HSM.out; exact wrap_fits _ (by omega) (by omega)
  have HR19 : Hid (WC.cell? ⟨RB, 19, none⟩ = some (.int .i64 (walkS P (F + 1) S).fuel)) := r19
  clear r19
  generalize cntS P S n = C at *
  generalize (walkS P (F + 1) S).fuel = fr at *
  go_upto_region 11 with fail
  clear kp
  go_loopw [13, 14] (fun sm i wr => ∃ q : Nat, q ≤ P.length ∧ i = .int .i64 q ∧ sm = .int .i64 (psC C q 0) ∧ Below WC.heap.size WC wr) (fun _ i _ => P.length - (intOf i).toNat)
  case atStart => exact ⟨0, Nat.zero_le _, rfl, by rw [psC_zero], Below.refl _ _⟩
  case round =>
    obtain ⟨i, hi, rfl, rfl, hbo⟩ := hrel
    rename World => wo
    have HBO : Hid (Below WC.heap.size WC wo) := hbo
    by_cases hlt : i < P.length
    · have hiI : (i : Int) < P.length := by omega
      have kpo := HKP.out wo hbo
      obtain ⟨r, c, hrd, hlc⟩ := HRD.out i hlt
      have hl40 := HCL.out i hlt
      have HRR : Hid (∀ W, Below WC.heap.size WC W → W.cell? ⟨g, i, none⟩ = some (.slice (some ⟨r, 0, none⟩) P[i].code.length c) ∧ ∀ j, j < P[i].code.length → W.cell? ⟨r, j, none⟩ = some (.int .i64 (cellC C i j))) := hrd
      have hSu := HSU.out i hlt wo hbo
      have HWN : Hid (∀ b, ¬ Way P[i] 63 b → cellC C i b = 0) := fun b h => HNW.out i b hlt h
      have HRL : Hid ((C.getD i []).length = P[i].code.length) := HSH.out.2 i hlt
      have HEN : Hid (psC C i P[i].code.length = psC C (i + 1) 0) := by show _ = _; rw [← HRL.out]; exact psC_row (by rw [HSH.out.1]; exact hlt)
      clear hbo hrd
      generalize P[i] = f at *
      go_upto_region 14 with (go_at_call 17; refine hSu.mono ?_; rintro e ws ⟨vs, A, rfl, hA, hI, hbs⟩; obtain ⟨sa, sb, so, sn, sc, rfl, hsl, hsa, hsc, hscp, hsm⟩ := ints_get hI)
      have hls := hA.1
      have HBS : Hid (Below WC.heap.size WC ws) := HBO.out.trans (hbs.mono HBO.out.size)
      have esn : sn = f.code.length := by omega
      subst esn
      have HSC : Hid (∀ q, q < f.code.length → sa = some ⟨sb, so, none⟩ ∧ ∀ W, Below ws.heap.size ws W → W.cell? ⟨sb, so + q, none⟩ = some (.int .i64 (A.getD q 0))) := fun q hq => ⟨hsa (by omega), fun W hW => keeps_below hW _ _ (hsc q hq)⟩
      have HAW2 : Hid (∀ q, q < f.code.length → (0 ≤ A.getD q 0 ↔ Way f 63 q)) := hA.2
      have cg := (HRR.out ws HBS.out).1
      clear hsl hls hsa hsc hA hI hbs hSu kpo
      generalize hnl : f.code.length = nl at *
      clear hnl
      go_upto_region 17 with fail
      clear cg
      go_loopw [13, 17] (fun sm k wr => ∃ q : Nat, q ≤ nl ∧ k = .int .i64 q ∧ sm = .int .i64 (psC C i q) ∧ wr = ws) (fun _ k _ => nl - (intOf k).toNat)
      case atStart => exact ⟨0, Nat.zero_le _, rfl, rfl, rfl⟩
      case round =>
        obtain ⟨q, hq, rfl, rfl, hwr2⟩ := hrel
        subst hwr2
        by_cases hqn : q < nl
        · have hqI : (q : Int) < nl := by omega
          obtain ⟨esa, hcs⟩ := HSC.out q hqn
          subst esa
          have cs := hcs _ (Below.refl _ _)
          obtain ⟨cg, cr⟩ := HRR.out _ HBS.out
          have cc := cr q hqn
          have h0 := HNN.out i q
          have hps := psC_le HNN.out i q
          have hps1 := psC_le HNN.out i (q + 1)
          have hsm2 := HSM.out
          have HNX : Hid (psC C i (q + 1) = psC C i q + cellC C i q) := psC_next (by rw [HRL.out]; exact hqn)
          have hnx := HNX.out
          have hws : IntKind.i64.wrap (psC C i q + cellC C i q) = psC C i q + cellC C i q := wrap_fits _ (by omega) (by omega)
          have hd0 : decide (cellC C i q < 0) = false := by simp only [decide_eq_false_iff_not]; omega
          have haw := HAW2.out q hqn
          have HZ : Hid (A.getD q 0 < 0 → cellC C i q = 0) := fun h => HWN.out q (fun hw => by have := haw.2 hw; omega)
          clear hcs cr h0 hps hps1 hsm2 hnx haw
          generalize A.getD q 0 = z at *
          generalize cellC C i q = cv at *
          generalize psC C i q = pv at *
          by_cases hz : z < 0
          · have hz1 : decide (z < 0) = true := by simpa using hz
            have hcv : (cv != 0) = false := by simpa using HZ.out hz
            clear hz
            go_wp2
            go_roundw
            case rel => exact ⟨q + 1, by omega, by go_num, by rw [HNX.out], by trivial⟩
            case measure => simp [intOf]; omega
          · have hz1 : decide (z < 0) = false := by simpa using hz
            clear hz
            go_wp2
            go_roundw
            case rel => exact ⟨q + 1, by omega, by go_num, by rw [HNX.out], by trivial⟩
            case measure => simp [intOf]; omega
        · obtain rfl : q = nl := by omega
          go_wp2
          go_roundw
          case rel => exact ⟨i + 1, by omega, by go_num, by rw [HEN.out], HBS.out⟩
          case measure => simp [intOf]; omega
    · obtain rfl : i = P.length := by omega
      have r19 := keeps_below hbo _ _ HR19.out
      have hfin : psC C P.length 0 = (F : Int) - fr := by rw [← HSM.out, ← HSH.out.1]; exact psC_end
      rw [hfin]
      clear hbo hfin
      go_wp2
      go_ret
      exact ⟨by simp, HWF.out.trans (HBO.out.mono HWF.out.size)⟩
end Go.Proofs.YtpkgibdbmmhgdaaDoor
