/- The walk of tierlinekeep.HotMost: at all raw numbers it says true, and nothing that was there has turned. -/
import Derived.Test.YtpkgibdbmmhgdaaDoorXKRun
import Derived.Test.YtpkgibdbmmhgdaaDoorXKRunX
import Derived.Test.YtpkgibdbmmhgdaaDoorXProfHot
namespace Go.Proofs.YtpkgibdbmmhgdaaDoor
open Go Go.RowKit

set_option maxHeartbeats 8000000 in
set_option maxRecDepth 100000 in
theorem hotMost_walk (l : List Fn) (v : Value) (a0 a1 fuel : Int) (nv : Value) (ln : List Int) (w : World) (ht : TabOk w) (hc : CallOk w) (hv : ProgVal w v l) (hwf : ∀ f ∈ l, f.wf) (hn : IntsVal w nv ln) (hfu : I64 fuel) :
    Calls Tryd.prog 9 #[v, inVal a0 a1 nv fuel] w fun e w' => e = .returned (.bool true) ∧ Below w.heap.size w w' := by
  obtain ⟨nao, nc, rfl⟩ := hn.shape
  obtain ⟨lao, ll, lc, rfl⟩ := hv.shape
  have HTC : Hid (∀ W, Below w.heap.size w W → TabOk W ∧ CallOk W) := fun W hb => ⟨ht.below hb, hc.below hb⟩
  have HB0 : Hid (Below w.heap.size w (w.alloc (.cells #[.int .i64 a0, .int .i64 a1, .slice nao ln.length nc, .int .i64 fuel] 26))) := (Below.refl _ _).alloc (Nat.le_refl _) _
  have HPR : Hid (Calls Tryd.prog 14 #[.slice lao ll lc] (w.alloc (.cells #[.int .i64 a0, .int .i64 a1, .slice nao ln.length nc, .int .i64 fuel] 26)) fun e w' => ∃ ao n cap P, e = .returned (.agg #[.slice ao n cap]) ∧ ProofAns P 0 ∧ ProgVal w' (.slice ao n cap) P ∧ Below (w.alloc (.cells #[.int .i64 a0, .int .i64 a1, .slice nao ln.length nc, .int .i64 fuel] 26)).heap.size (w.alloc (.cells #[.int .i64 a0, .int .i64 a1, .slice nao ln.length nc, .int .i64 fuel] 26)) w') := kprog l _ _ (HTC.out _ HB0.out).1 (HTC.out _ HB0.out).2 (hv.keeps (keeps_below HB0.out)) hwf
  have HNV : Hid (∀ W, Below w.heap.size w W → IntsVal W (.slice nao ln.length nc) ln) := fun W hb => hn.keeps (keeps_below hb)
  have HFU : Hid (I64 fuel) := hfu
  unfold inVal
  clear ht hc hv hwf hn hfu
  go_enter Tryd.func9, Tryd.ntmps9
  go_upto_region 2 with (go_at_call 14; refine HPR.out.mono ?_; rintro e w1 ⟨ao, n0, cap0, P, rfl, hR, hpv, hb1⟩)
  have HR : Hid (ProofAns P 0) := hR
  have B01 : Hid (Below w.heap.size w (w1.alloc (.cells #[.slice ao n0 cap0] 29))) := (HB0.out.trans (hb1.mono (by simp))).alloc (by have := hb1.size; simp at this; omega) _
  have I1 : (w1.alloc (.cells #[.slice ao n0 cap0] 29)).heap[w.heap.size]? = some (.cells #[.int .i64 a0, .int .i64 a1, .slice nao ln.length nc, .int .i64 fuel] 26 (0, 0)) := (heap_alloc_old _ _ (by have := hb1.size; simp at this; omega)).trans ((hb1.block _ (by simp)).trans (heap_alloc_last w _))
  have HP : Hid (∀ W, Below (w1.alloc (.cells #[.slice ao n0 cap0] 29)).heap.size (w1.alloc (.cells #[.slice ao n0 cap0] 29)) W → W.cell? ⟨w1.heap.size, 0, none⟩ = some (.slice ao n0 cap0) ∧ ProgVal W (.slice ao n0 cap0) P ∧ TabOk W ∧ CallOk W) := fun W hb => ⟨keeps_below hb _ _ (by rw [cell_of_row _ _ _ _ _ _ (heap_alloc_last w1 _)]; rfl), (hpv.keeps (keeps_below ((Below.refl _ _).alloc (Nat.le_refl _) _))).keeps (keeps_below hb), (HTC.out _ (B01.out.trans (hb.mono B01.out.size))).1, (HTC.out _ (B01.out.trans (hb.mono B01.out.size))).2⟩
  clear hR hpv hb1 HPR HB0
  generalize (w1.alloc (.cells #[.slice ao n0 cap0] 29)) = WP at *
  generalize w1.heap.size = PB at *
  obtain ⟨b, off, cap, hvs, d0, hp1, hpc, hpm, q0, q2p⟩ := right_head HR.out (HP.out _ (Below.refl _ _)).2.1
  obtain ⟨rfl, rfl, rfl⟩ : ao = some ⟨b, off, none⟩ ∧ n0 = P.length ∧ cap0 = cap := by simpa using hvs
  obtain ⟨p, hp⟩ := Int.eq_ofNat_of_zero_le q0
  have hp2 : p ≤ 2 := by omega
  have hpI : (p : Int) ≤ 2 := by omega
  rw [hp] at d0
  have HPP : Hid (par0 P = p) := hp
  unfold maxLen at hpm
  have hP0 : (0 : Int) < P.length := by omega
  have hP0n : 0 < P.length := by omega
  obtain ⟨m, hm⟩ : ∃ m : Nat, m = min ln.length 10 := ⟨_, rfl⟩
  have hml : m ≤ ln.length := by omega
  have hmI : (m : Int) ≤ ln.length := by omega
  have hmin : (if (10 : Int) < (ln.length : Int) then (10 : Int) else (ln.length : Int)) = (m : Int) := by split <;> omega
  have hnc := ints_cap (HNV.out _ (Below.refl _ _))
  have hmc : m ≤ nc := by omega
  have hm10 : m ≤ 10 := by omega
  have HLM : Hid (ln.take m = ln.take 10) := by show _ = _; rw [hm]; exact take_ten ln
  obtain ⟨F, hF, eF⟩ : ∃ x : Nat, x < 300 ∧ pickI fuel 300 = x := by have b := pickI_bounds fuel 300 (by omega); obtain ⟨k, hk⟩ := Int.eq_ofNat_of_zero_le b.1; exact ⟨k, by omega, hk⟩
  have HPK : Hid (∀ W, Calls Tryd.prog 21 #[.int .i64 fuel, .int .i64 300] W fun e w' => e = .returned (.int .i64 (F : Int)) ∧ w' = W) := fun W => by have := picked_any fuel 300 W HFU.out (by omega) (by omega); rw [eF] at this; exact this
  have rI : WP.heap[w.heap.size]? = some (.cells #[.int .i64 a0, .int .i64 a1, .slice nao ln.length nc, .int .i64 fuel] 26 (0, 0)) := ((Below.refl _ _).block _ (lt_of_block I1)).trans I1
  have I2 : WP.cell? ⟨w.heap.size, 2, none⟩ = some (.slice nao ln.length nc) := by rw [cell_of_row _ _ _ _ _ _ rI]; rfl
  have I3 : WP.cell? ⟨w.heap.size, 3, none⟩ = some (.int .i64 fuel) := by rw [cell_of_row _ _ _ _ _ _ rI]; rfl
  have HIA : Hid (IntsVal WP (.slice (some ⟨w.heap.size, 0, none⟩) p 2) ([a0, a1].take p)) := args_vals rI hp2
  have HIN : Hid (IntsVal w (.slice nao m nc) (ln.take m)) := ints_cut (HNV.out _ (Below.refl _ _)) hml
  have HAL : Hid ((([a0, a1].take p).length : Int) = par0 P) := by show _ = _; rw [HPP.out, List.length_take]; simp only [List.length_cons, List.length_nil]; omega
  have HNL : Hid ((ln.take m).length ≤ 100) := by show _ ≤ _; rw [List.length_take]; omega
  clear hvs q0 q2p hp eF hm
  have kp := (HP.out _ (Below.refl _ _)).1
  go_upto_region 5 with (go_at_call 21; refine (HPK.out _).mono ?_; rintro e wp ⟨rfl, hwp⟩; replace hwp := hwp.symm; subst hwp)
  have HAW : Hid (∀ W, Below WP.heap.size WP W → IntsVal W (.slice (some ⟨w.heap.size, 0, none⟩) p 2) ([a0, a1].take p) ∧ IntsVal W (.slice nao m nc) (ln.take m)) := fun W hb => ⟨HIA.out.keeps (keeps_below hb), HIN.out.keeps (keeps_below (B01.out.trans (hb.mono B01.out.size)))⟩
  have HRV : Hid (RunInv P (beginSt ([a0, a1].take p) (ln.take m) (F : Int))) := runInv_begin HR.out _ _ _ (by have := HAL.out; have := HPP.out; omega) HNL.out (by omega) (by omega)
  clear HIA HIN rI I1 I2 I3 d0 hmin hmI hml hmc hnc hm10 hpI hp2
  have hCT := counts_any P (.slice (some ⟨b, off, none⟩) P.length cap0) _ _ ([a0, a1].take p) (ln.take m) F WP (HP.out _ (Below.refl _ _)).2.2.1 (HP.out _ (Below.refl _ _)).2.2.2 HR.out (HP.out _ (Below.refl _ _)).2.1 (HAW.out _ (Below.refl _ _)).1 (HAW.out _ (Below.refl _ _)).2 HAL.out HNL.out (by omega)
  have HHT : Hid (∀ W, Below WP.heap.size WP W → Calls Tryd.prog 29 #[.agg #[.slice (some ⟨b, off, none⟩) P.length cap0], .slice (some ⟨w.heap.size, 0, none⟩) p 2, .slice nao m nc, .int .i64 (F : Int)] W fun e w' => ∃ (n h : Nat) (m2 : Int), e = .returned (.tuple #[.int .i64 (h : Int), .int .i64 m2, .int .i64 0]) ∧ HotOk (cntS P (beginSt ([a0, a1].take p) (ln.take m) F) n) P.length h m2 ∧ (walkS P n (beginSt ([a0, a1].take p) (ln.take m) F)).status ≠ 0 ∧ Below W.heap.size W w') := fun W hb => hot_any P _ _ _ ([a0, a1].take p) (ln.take m) F W (HP.out _ hb).2.2.1 (HP.out _ hb).2.2.2 HR.out (HP.out _ hb).2.1 (HAW.out _ hb).1 (HAW.out _ hb).2 HAL.out HNL.out (by omega)
  have HSF : Hid ((beginSt ([a0, a1].take p) (ln.take m) (F : Int)).fuel ≤ 10000) := by show (F : Int) ≤ 10000; omega
  generalize beginSt ([a0, a1].take p) (ln.take m) (F : Int) = S at *
  go_upto_region 7 with (first
    | (go_at_call 28; refine hCT.mono ?_; rintro e w2 ⟨g, VV, n, rfl, hcn, hend, hgw, hb2⟩; have kp2 := keeps_below hb2 _ _ kp; have hHT := HHT.out w2 hb2)
    | (go_at_call 29; refine hHT.mono ?_; rintro e w3 ⟨n2, hh, mm, rfl, hok, hend2, hb3⟩))
  have HW4 : Hid (Below WP.heap.size WP w3) := hb2.trans (hb3.mono hb2.size)
  have HCN : Hid (CntAt w3 g P.length VV (cntS P S n)) := hcn.below hb3
  have HOK : Hid (HotOk (cntS P S n) P.length hh mm) := by show HotOk _ _ _ _; rw [cnt_same P S n n2 hend hend2]; exact hok
  have HNN : Hid (∀ a b, 0 ≤ cellC (cntS P S n) a b) := fun a b => (cnt_cell HR.out HRV.out a b n).1
  have HSH : Hid (CShape P (cntS P S n)) := cshape_cnt P S n
  have HSM : Hid (sumLL (cntS P S n) ≤ 10000) := by show _ ≤ _; rw [cnt_sum HR.out HRV.out n]; have h1 := HSF.out; have h3 := ((mayB_iff _).1 (runInv_walk HR.out n HRV.out).may).2.2.1; omega
  have HRD : Hid (∀ i, (hi : i < P.length) → ∃ r c, w3.cell? ⟨g, i, none⟩ = some (.slice (some ⟨r, 0, none⟩) P[i].code.length c) ∧ (∀ j, j < P[i].code.length → w3.cell? ⟨r, j, none⟩ = some (.int .i64 (cellC (cntS P S n) i j))) ∧ P[i].code.length ≤ c) := fun i hi => by
    obtain ⟨r, c, h1, h2, h3⟩ := HCN.out.read HSH.out hi (fnOk_of (right_code HR.out) (List.getElem_mem hi)).1.len1
    exact ⟨r, c, h1, h3, h2⟩
  have HCL : Hid (∀ i, (hi : i < P.length) → P[i].code.length ≤ 40) := fun i hi => (fnOk_of (right_code HR.out) (List.getElem_mem hi)).1.len2
  have hN4 := (codeProg_zero (right_code HR.out)).2.1
  have HWF : Hid (Below w.heap.size w w3) := B01.out.trans (HW4.out.mono B01.out.size)
  have kp3 := keeps_below hb3 _ _ kp2
  obtain ⟨hhP, htop⟩ := HOK.out.top (by omega)
  have HTOP : Hid (sumL ((cntS P S n).getD hh []) = mm) := htop
  have hhI : decide ((hh : Int) < 0) = false := by simp only [decide_eq_false_iff_not]; omega
  have hhJ : decide ((P.length : Int) ≤ (hh : Int)) = false := by simp only [decide_eq_false_iff_not]; omega
  have hhJn : decide (P.length ≤ hh) = false := by simp only [decide_eq_false_iff_not]; omega
  clear hcn hend hgw hb2 hok hend2 hb3 kp kp2 hHT hCT HHT HAW htop
  generalize cntS P S n = C at *
  go_upto_region 10 with fail
  clear kp3 hhI hhJ hhJn
  go_loopw [14] (fun i wr => ∃ q : Nat, q ≤ P.length ∧ i = .int .i64 q ∧ wr = w3) (fun i _ => P.length - (intOf i).toNat)
  case atStart => exact ⟨0, Nat.zero_le _, rfl, rfl⟩
  case round =>
    obtain ⟨i, hi, rfl, hwo⟩ := hrel
    subst hwo
    rename World => wo
    by_cases hlt : i < P.length
    · have hiI : (i : Int) < P.length := by omega
      obtain ⟨r, c, cg, hcr, hlc⟩ := HRD.out i hlt
      have hl40 := HCL.out i hlt
      have HRR : Hid (∀ j, j < P[i].code.length → wo.cell? ⟨r, j, none⟩ = some (.int .i64 (cellC C i j))) := hcr
      have HRL : Hid ((C.getD i []).length = P[i].code.length) := HSH.out.2 i hlt
      clear hcr
      generalize P[i].code.length = nl at *
      go_wp2
      go_loopw [15, 16] (fun sm k wr => ∃ q : Nat, q ≤ nl ∧ k = .int .i64 q ∧ sm = .int .i64 (sumL ((C.getD i []).take q)) ∧ wr = wo) (fun _ k _ => nl - (intOf k).toNat)
      case atStart => exact ⟨0, Nat.zero_le _, rfl, by simp [sumL], rfl⟩
      case round =>
        obtain ⟨q, hq, rfl, rfl, hwr2⟩ := hrel
        subst hwr2
        by_cases hqn : q < nl
        · have hqI : (q : Int) < nl := by omega
          have cc := HRR.out q hqn
          have hpos : ∀ b, 0 ≤ (C.getD i []).getD b 0 := fun b => HNN.out i b
          have h1 := sumL_take_le hpos q
          have h2 := sumL_take_le hpos (q + 1)
          have h3 := (sumLL_get HNN.out i).1
          have h4 := HSM.out
          have HNX : Hid (sumL ((C.getD i []).take (q + 1)) = sumL ((C.getD i []).take q) + cellC C i q) := by
            have h := psC_next (C := C) (i := i) (k := q) (by rw [HRL.out]; exact hqn)
            unfold psC at h
            show _ = _
            omega
          have hnx := HNX.out
          have hws : IntKind.i64.wrap (sumL ((C.getD i []).take q) + cellC C i q) = sumL ((C.getD i []).take q) + cellC C i q := wrap_fits _ (by omega) (by omega)
          clear h1 h2 h3 h4 hnx hpos
          generalize cellC C i q = cv at *
          generalize sumL ((C.getD i []).take q) = pv at *
          go_wp2
          go_roundw
          case rel => exact ⟨q + 1, by omega, by go_num, by rw [HNX.out], by trivial⟩
          case measure => simp [intOf]; omega
        · obtain rfl : q = nl := by omega
          have hfin : (C.getD i []).take q = C.getD i [] := List.take_of_length_le (by rw [HRL.out]; exact Nat.le_refl _)
          rw [hfin]
          have g1 := HOK.out.all i hlt
          have hd1 : decide (mm < sumL (C.getD i [])) = false := by simp only [decide_eq_false_iff_not]; omega
          clear hfin
          by_cases hlh : i < hh
          · have g2 := HOK.out.ahead i hlh
            have hd2 : decide ((i : Int) < (hh : Int)) = true := by simp only [decide_eq_true_eq]; omega
            have hd2n : decide (i < hh) = true := by simp only [decide_eq_true_eq]; omega
            have hd3 : (sumL (C.getD i []) == mm) = false := beq_eq_false_iff_ne.2 (by omega)
            have hd4 : ((i : Int) == (hh : Int)) = false := beq_eq_false_iff_ne.2 (by omega)
            have hd4n : (i == hh) = false := beq_eq_false_iff_ne.2 (by omega)
            clear g1 g2 hlh
            generalize sumL (C.getD i []) = x at *
            go_wp2
            go_roundw
            case rel => exact ⟨i + 1, by omega, by go_num, by trivial⟩
            case measure => simp [intOf]; omega
          · have hd2 : decide ((i : Int) < (hh : Int)) = false := by simp only [decide_eq_false_iff_not]; omega
            have hd2n : decide (i < hh) = false := by simp only [decide_eq_false_iff_not]; omega
            by_cases hie : i = hh
            · have hd3 : (sumL (C.getD i []) != mm) = false := by rw [hie, HTOP.out]; simp
              have hd4 : ((i : Int) == (hh : Int)) = true := by rw [hie]; simp
              have hd4n : (i == hh) = true := by rw [hie]; simp
              clear g1 hie hlh
              generalize sumL (C.getD i []) = x at *
              go_wp2
              go_roundw
              case rel => exact ⟨i + 1, by omega, by go_num, by trivial⟩
              case measure => simp [intOf]; omega
            · have hd4 : ((i : Int) == (hh : Int)) = false := beq_eq_false_iff_ne.2 (by omega)
              have hd4n : (i == hh) = false := beq_eq_false_iff_ne.2 (by omega)
              clear g1 hie hlh
              generalize sumL (C.getD i []) = x at *
              go_wp2
              go_roundw
              case rel => exact ⟨i + 1, by omega, by go_num, by trivial⟩
              case measure => simp [intOf]; omega
    · go_wp2
      go_ret
      exact ⟨rfl, HWF.out⟩
end Go.Proofs.YtpkgibdbmmhgdaaDoor
