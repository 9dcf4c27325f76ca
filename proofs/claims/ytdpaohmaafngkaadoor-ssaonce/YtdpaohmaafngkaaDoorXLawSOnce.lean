/- The walk of tierlinekeep.SsaOnce: at all raw numbers it says true, and nothing that was there has turned. -/
import Derived.Test.YtdpaohmaafngkaaDoorXSsaOrd
import Derived.Test.YtdpaohmaafngkaaDoorXRightRaw
namespace Go.Proofs.YtdpaohmaafngkaaDoor
open Go Go.RowKit

theorem infoIns6p : (Tryd.prog.info? 55).map (·.size) = some 6 := by kernel_rfl
theorem infoPhi3p : (Tryd.prog.info? 53).map (·.size) = some 3 := by kernel_rfl
set_option maxHeartbeats 8000000 in
set_option maxRecDepth 100000 in
theorem ssaOnce_walk (l : List Fn) (v : Value) (fn : Int) (w : World) (ht : TabOk w) (hc : CallOk w) (hv : ProgVal w v l) (hwf : ∀ f ∈ l, f.wf) (hfn : I64 fn) :
    Calls Tryd.prog 4 #[v, .int .i64 fn] w fun e w' => e = .returned (.bool true) ∧ Below w.heap.size w w' := by
  have hSh := program_raw l v w ht hc hv hwf
  obtain ⟨aol, nl, capl, rfl⟩ := hv.shape
  have HT : Hid (TabOk w) := ht
  have HCO : Hid (CallOk w) := hc
  clear hv hwf ht hc
  go_enter Tryd.func4, Tryd.ntmps4
  go_upto_region 2 with (go_at_call 9; refine hSh.mono ?_; rintro e w1 ⟨v1, P, us, rfl, hpi, hbt, hb1⟩; have hp1 := hbt.prog; have hcp := progIs_code hpi; obtain ⟨hn1, hn4, -⟩ := codeProg_zero hcp; obtain ⟨k, hk, ek⟩ := pick_some fn P.length hn1; obtain ⟨b, off, cap, u, rfl, d0, d1, d2, hcv, hm, hcc⟩ := prog_fn hp1 hk)
  have hRi := progIs_ans hpi
  have OK : Hid (FlowOk P P[k]) := flowOk_of hRi (List.getElem_mem hk)
  have hl1 := OK.out.ok.len1
  have hl2 := OK.out.ok.len2
  have hfe := fnErr_ok hcp hk
  have hca : codeAt P k = P[k].code := by simp [codeAt, List.getD, hk]
  have HBL : Hid (∀ W, Below w1.heap.size w1 W → Calls Tryd.prog 13 #[.agg #[.slice (some ⟨b, off, none⟩) P.length cap], .int .i64 k] W fun e w' => ∃ g S T VV LL, e = .returned (.tuple #[.slice (some ⟨g, 0, none⟩) S.length S.length, .int .i64 0]) ∧ BlocksAt w' W.heap.size g P[k] S T VV LL ∧ W.heap.size ≤ g ∧ Below W.heap.size W w') := fun W hb => Blocks_right P hRi k hk _ W ((HT.out.below hb1).below hb) ((HCO.out.below hb1).below hb) (hp1.keeps (keeps_below hb))
  have HBD : Hid (∀ W, Below w1.heap.size w1 W → Calls Tryd.prog 11 #[.agg #[.slice (some ⟨b, off, none⟩) P.length cap], .int .i64 k] W (BuildPost W P P[k])) := fun W hb => Build_right P hRi k hk _ W ((HT.out.below hb1).below hb) ((HCO.out.below hb1).below hb) (hp1.keeps (keeps_below hb))
  have HUR : Hid (∀ q, q < P[k].code.length → Way P[k] 63 q → ∀ r, r < 12 → (rdMask P (insD P[k] q)).testBit r = true → ¬ Way P[k] r q) := right_reads hRi (List.getElem_mem hk)
  obtain ⟨ao2, b2, off2, n, cap2, rfl, ⟨hlen2, haddr2, hat2⟩, hcap2, hmx2⟩ := hcv
  obtain rfl := haddr2 (by omega)
  have HIN : Hid (∀ W, Below w1.heap.size w1 W → ∀ q, q < n → W.cell? ⟨b2, off2 + q * 5, none⟩ = some (.int .i64 (insD P[k] q).op)) := fun W hW q hq => by
    have hqf : q < P[k].code.length := by rw [hlen2]; exact hq
    rw [insD_eq hqf]
    exact keeps_below hW _ _ (hat2 q hqf).1
  have HB1 : Hid (Below w.heap.size w w1) := hb1
  have hz1 := hb1.size
  have hkI : (k : Int) < P.length := by omega
  have hcc2 := hcap2.1
  have HN : Hid (P[k].code.length = n) := hlen2
  clear hfe hRi hpi hcp hbt hp1 hb1 hSh hca hat2 haddr2 hcap2
  rw [hlen2] at hl1 hl2
  generalize P[k] = f at *
  clear hlen2
  unfold maxLen at hmx2
  have d0' := fun o => cell_alloc d0 o
  have d1' := fun o => cell_alloc d1 o
  have t2 := fun o => cell_alloc d2 o
  generalize hNN : P.length = N at *
  clear hNN
  have HWA : Hid (Below w1.heap.size w1 (w1.alloc (.cells #[.slice (some ⟨b, off, none⟩) N cap] 25))) := (Below.refl _ _).alloc (Nat.le_refl _) _
  go_upto_region 5 with (first
    | (go_at_call 12; refine (picked_any _ _ _ hfn (by omega) (by omega)).mono ?_; rintro e w' ⟨rfl, hw'⟩; replace hw' := hw'.symm; subst hw')
    | (go_at_call 11; refine (HBD.out _ HWA.out).mono ?_; rintro e w2 hp; obtain ⟨S, T, L, pn, g0, D, ar, gp, Ly, rfl, hIS, hPA, hb2⟩ := hp; have q0 := keeps_below hb2 ⟨w1.heap.size, 0, none⟩ (.slice (some ⟨b, off, none⟩) N cap) (by simp); have q2 := keeps_below hb2 _ _ (t2 _); have q3 := keeps_below hb2 _ _ (d0' _); have q0' := fun o => cell_alloc q0 o; have HB2 : Hid (Below w1.heap.size w1 w2) := HWA.out.trans (hb2.mono HWA.out.size); have HIS : Hid (SsaIs P f S T L pn g0 D) := hIS; have HPA : Hid (PartsAt w2 _ gp S.length (finD pn S.length g0 D ar) Ly) := hPA; clear hIS hPA hb2)
    | (go_at_call 13; refine (HBL.out _ (HB2.out.alloc HB2.out.size _)).mono ?_; rintro e w4 ⟨g, S', T', VV, LL, rfl, hB, hgw, hb3⟩; obtain ⟨hSS, hTT⟩ := HIS.out.ok.same hB.ok; subst hSS; have p0 := keeps_below hb3 _ _ (cell_alloc q0 _); have p2 := keeps_below hb3 _ _ (cell_alloc q2 _); have p3 := keeps_below hb3 _ _ (cell_alloc q3 _); have s0 := keeps_below hb3 ⟨w2.heap.size, 0, none⟩ (.int .i64 (pn : Int)) (by simp); have s1 := keeps_below hb3 ⟨w2.heap.size, 1, none⟩ (.int .i64 ((idsD pn S.length D).length : Int)) (by simp); have s2 := keeps_below hb3 ⟨w2.heap.size, 2, none⟩ (.slice (some ⟨gp, 0, none⟩) S.length S.length) (by simp)))
  have HB24 : Hid (Below w2.heap.size w2 w4) := ((Below.refl _ _).alloc (Nat.le_refl _) _).trans (hb3.mono (by simp))
  have HB14 : Hid (Below w1.heap.size w1 w4) := HB2.out.trans (HB24.out.mono HB2.out.size)
  have HB4 : Hid (Below w.heap.size w w4) := HB1.out.trans (HB14.out.mono hz1)
  have hkn : S.length ≤ 40 := blocks40 OK.out HIS.out.ok
  obtain ⟨BB, hBB⟩ : ∃ BB : Nat → Nat, ∀ i, BB i = (idsTo pn D.ph D.ins i).length := ⟨_, fun _ => rfl⟩
  have hOF := HIS.out.once OK.out HUR.out (HPA.out.below HB24.out) BB hBB
  have HOF : Hid (∀ i, i < S.length → ∃ (ao : Option Addr) (q c np : Nat) (R : Nat → Nat) (ao2 : Option Addr) (q2 c2 ni : Nat) (CI : Nat → Nat), np ≤ 12 ∧ np ≤ c ∧ (0 < np → ao = some ⟨q, 0, none⟩) ∧ S.getD i 0 + ni = T i ∧ ni ≤ 40 ∧ ni ≤ c2 ∧ (0 < ni → ao2 = some ⟨q2, 0, none⟩) ∧ CI 0 = 0 ∧ (∀ j, CI j ≤ j) ∧ BB (i + 1) = BB i + np + CI ni ∧
      (∀ W, Below w4.heap.size w4 W → W.cell? ⟨gp, i * 15, none⟩ = some (.int .i64 (i : Int)) ∧ W.cell? ⟨gp, i * 15 + 1, none⟩ = some (.slice ao np c) ∧ W.cell? ⟨gp, i * 15 + 2, none⟩ = some (.slice ao2 ni c2)) ∧
      (∀ j, j < np → ∃ (aA : Option Addr) (cA : Nat), (∀ j', j' < j → R j' < R j) ∧ ∀ W, Below w4.heap.size w4 W → W.rangeAt q (j * 3) [.int .i64 (R j : Int), .int .i64 ((BB i + j : Nat) : Int), .slice aA (prevs f S T i).length cA]) ∧
      (∀ j, j < ni → ∃ x : InsD, x.pc = ((S.getD i 0 + j : Nat) : Int) ∧ S.getD i 0 + j < f.code.length ∧ x.op = (insD f (S.getD i 0 + j)).op ∧ ((x.id = -1 ∧ CI (j + 1) = CI j) ∨ (x.id = ((BB i + np + CI j : Nat) : Int) ∧ CI (j + 1) = CI j + 1)) ∧ ∀ W, Below w4.heap.size w4 W → W.rangeAt q2 (j * 6) (inC x))) := hOF
  have HBK : Hid (BB 0 = pn ∧ BB S.length = (idsD pn S.length D).length ∧ ∀ i, i ≤ S.length → BB i ≤ 2200) := by
    refine ⟨by rw [hBB]; simp [idsTo], hBB _, fun i hi => ?_⟩
    rw [hBB]
    have hpn : pn ≤ 12 := by have := OK.out.ok.p2; rw [HIS.out.par] at this; omega
    have := idsTo_len pn (PH := D.ph) (IN := D.ins) (n := i) (fun b hb => Nat.le_trans (HIS.out.left.ph b (by omega)).length_le (phi_len f S T L b)) (fun b hb => by
      rw [HIS.out.left.ins b (by omega), insL_len]
      have := (HIS.out.ok.ends b (by omega)).le; have := OK.out.ok.len2; omega)
    omega
  have HBF : Hid (∀ i, i < S.length → ∃ (ap : Option Addr) (cp : Nat), (prevs f S T i).length ≤ 1000 ∧ T i ≤ 40 ∧ ∀ W, Below w4.heap.size w4 W → W.cell? ⟨g, i * 4, none⟩ = some (.int .i64 ((S.getD i 0 : Nat) : Int)) ∧ W.cell? ⟨g, i * 4 + 1, none⟩ = some (.int .i64 ((T i : Nat) : Int)) ∧ W.cell? ⟨g, i * 4 + 3, none⟩ = some (.slice ap (prevs f S T i).length cp)) := fun i hi => by
    obtain ⟨c0, c1, -, c3⟩ := hB.cells i hi
    obtain ⟨ap, -, -, nv, cp, e, hl, -⟩ := ints_get (hB.next i hi).2
    rw [prevs_congr hTT i] at hl
    rw [e, ← hl] at c3
    have eS : S.getD i 0 = S[i] := by simp [List.getD, hi]
    rw [← hTT i hi] at c1
    rw [← eS] at c0
    exact ⟨ap, cp, prevs_len hkn, by have := (HIS.out.ok.ends i hi).le; have := OK.out.ok.len2; omega, fun W hW => ⟨keeps_below hW _ _ c0, keeps_below hW _ _ c1, keeps_below hW _ _ c3⟩⟩
  rw [HIS.out.par] at p3
  have HQQ : Hid (∀ W, Below w4.heap.size w4 W → W.cell? ⟨w1.heap.size, 0, none⟩ = some (.slice (some ⟨b, off, none⟩) N cap) ∧ W.cell? ⟨b, off + k * 3 + 2, none⟩ = some (.slice (some ⟨b2, off2, none⟩) n cap2) ∧ W.cell? ⟨w2.heap.size, 1, none⟩ = some (.int .i64 ((idsD pn S.length D).length : Int)) ∧ W.cell? ⟨w2.heap.size, 2, none⟩ = some (.slice (some ⟨gp, 0, none⟩) S.length S.length)) := fun W hW => ⟨keeps_below hW _ _ p0, keeps_below hW _ _ p2, keeps_below hW _ _ s1, keeps_below hW _ _ s2⟩
  have HIO : Hid (∀ W, Below w4.heap.size w4 W → ∀ q, q < n → W.cell? ⟨b2, off2 + q * 5, none⟩ = some (.int .i64 (insD f q).op)) := fun W hW q hq => HIN.out W (HB14.out.trans (hW.mono HB14.out.size)) q hq
  clear hOF hBB hB hTT hb3 hgw q0 q2 q3 q0' t2 d0' d1' d0 d1 d2 HBL HBD HIN
  have HBK0 := HBK.out.1
  generalize ((idsD pn S.length D).length) = VL at *
  generalize S.length = K at *
  go_quiet (fail)
  obtain ⟨w5, hw5⟩ : ∃ w5, w5 = w4.drewN nq := ⟨_, rfl⟩
  have HB45 : Hid (Below w4.heap.size w4 w5) := by show Below _ _ _; rw [hw5]; exact below_drewN (Below.refl _ _) nq
  rw [← hw5]
  have s0' := keeps_below HB45.out _ _ s0
  obtain ⟨-, -, -, s2'⟩ := HQQ.out w5 HB45.out
  clear hw5 p0 p2 p3 s0 s1 s2
  go_upto_region 9 with fail
  clear s0' s2'
  go_loopw [11, 12] (fun nx i wr => ∃ q : Nat, q ≤ K ∧ i = .int .i64 q ∧ nx = .int .i64 ((BB q : Nat) : Int) ∧ Below w4.heap.size w4 wr) (fun _ i _ => K - (intOf i).toNat)
  case atStart => exact ⟨0, Nat.zero_le _, rfl, by rw [HBK.out.1], HB45.out⟩
  case round =>
    clear HBK0
    obtain ⟨i, hi, rfl, rfl, hbo⟩ := hrel
    rename World => wo
    have HBO : Hid (Below w4.heap.size w4 wo) := hbo
    obtain ⟨u0, -, u1, u2⟩ := HQQ.out wo hbo
    clear hbo
    have hBi := HBK.out.2.2 i hi
    by_cases hlt : i < K
    · have hiI : (i : Int) < K := by omega
      obtain ⟨ao, q, c, np, R, ao2, q2, c2, ni, CI, hnp, hnc, hao, hTI, hni, hnc2, hao2, hC0, hCI, hBn, hcp, hjp, hji⟩ := HOF.out i hlt
      obtain ⟨ap, cp, hnv, hT40, hcb⟩ := HBF.out i hlt
      have hBn' := HBK.out.2.2 (i + 1) (by omega)
      have HBN : Hid (BB (i + 1) = BB i + np + CI ni) := hBn
      obtain ⟨st, hst⟩ : ∃ st, st = S.getD i 0 := ⟨_, rfl⟩
      obtain ⟨tt, htt⟩ : ∃ tt, tt = T i := ⟨_, rfl⟩
      rw [← hst, ← htt] at hTI hcb
      rw [← hst] at hji
      rw [← htt] at hT40
      generalize (prevs f S T i).length = nv at *
      have HPP : Hid (∀ W, Below w4.heap.size w4 W → W.cell? ⟨gp, i * 15, none⟩ = some (.int .i64 (i : Int)) ∧ W.cell? ⟨gp, i * 15 + 1, none⟩ = some (.slice ao np c) ∧ W.cell? ⟨gp, i * 15 + 2, none⟩ = some (.slice ao2 ni c2)) := hcp
      have HBC : Hid (∀ W, Below w4.heap.size w4 W → W.cell? ⟨g, i * 4, none⟩ = some (.int .i64 (st : Int)) ∧ W.cell? ⟨g, i * 4 + 1, none⟩ = some (.int .i64 (tt : Int)) ∧ W.cell? ⟨g, i * 4 + 3, none⟩ = some (.slice ap nv cp)) := hcb
      have HAO : Hid ((0 < np → ao = some ⟨q, 0, none⟩) ∧ (0 < ni → ao2 = some ⟨q2, 0, none⟩)) := ⟨hao, hao2⟩
      have HCI : Hid (CI 0 = 0 ∧ ∀ j, CI j ≤ j) := ⟨hC0, hCI⟩
      obtain ⟨B0, hB0⟩ : ∃ B0, B0 = BB i := ⟨_, rfl⟩
      rw [← hB0] at hjp hji hBi hBn
      have HB0 : Hid (B0 = BB i) := hB0
      have HJP : Hid (∀ j, j < np → ∃ (aA : Option Addr) (cA : Nat), (∀ j', j' < j → R j' < R j) ∧ ∀ W, Below w4.heap.size w4 W → W.rangeAt q (j * 3) [.int .i64 (R j : Int), .int .i64 ((B0 + j : Nat) : Int), .slice aA nv cA]) := hjp
      have HJI : Hid (∀ j, j < ni → ∃ x : InsD, x.pc = ((st + j : Nat) : Int) ∧ st + j < f.code.length ∧ x.op = (insD f (st + j)).op ∧ ((x.id = -1 ∧ CI (j + 1) = CI j) ∨ (x.id = ((B0 + np + CI j : Nat) : Int) ∧ CI (j + 1) = CI j + 1)) ∧ ∀ W, Below w4.heap.size w4 W → W.rangeAt q2 (j * 6) (inC x)) := hji
      have hwr : IntKind.i64.wrap ((tt : Int) - (st : Int)) = (ni : Int) := by rw [show (tt : Int) - st = ni by omega]; exact wrap_signed _ (by omega) (by omega)
      obtain ⟨c0, c1, c2'⟩ := hcp wo HBO.out
      obtain ⟨e0, e1, e3⟩ := hcb wo HBO.out
      rw [← hB0]
      clear hcp hcb hao hao2 hC0 hCI hjp hji hBn hst htt hB0
      go_upto_region 11 with fail
      go_quiet (fail)
      go_wp2
      go_loopw [11, 13] (fun nx j wr => ∃ z nn : Nat, z ≤ np ∧ nn = B0 + z ∧ j = .int .i64 z ∧ nx = .int .i64 (nn : Int) ∧ Below w4.heap.size w4 wr) (fun _ j _ => np - (intOf j).toNat)
      case atStart => exact ⟨0, B0, Nat.zero_le _, rfl, rfl, rfl, below_drewN HBO.out _⟩
      case round =>
        clear c0 c1 c2' e0 e1 e3 u0 u1 u2 hwr
        obtain ⟨j, nn, hj, hnn, rfl, rfl, hbi⟩ := hrel
        have HNN : Hid (nn = B0 + j) := hnn
        have hnle : nn ≤ 2300 := by omega
        clear hnn
        rename World => wi
        have HBI : Hid (Below w4.heap.size w4 wi) := hbi
        obtain ⟨-, -, -, u2⟩ := HQQ.out wi hbi
        obtain ⟨-, c1, -⟩ := HPP.out wi hbi
        clear hbi
        by_cases hlj : j < np
        · have hjI : (j : Int) < np := by omega
          obtain ⟨aA, cA, hRR, hw⟩ := HJP.out j hlj
          have hao := HAO.out.1 (by omega)
          subst hao
          have hrk := hw wi HBI.out
          rw [← HNN.out] at hrk
          have HRR : Hid (∀ j', j' < j → R j' < R j) := hRR
          clear hw hRR
          go_upto_region 17 with (refine wpList_load_mid rfl 53 _ rfl q (j * 3) rfl _ _ hrk Tryd.underlying53 rfl infoPhi3p ?_)
          have HBA : Hid (Below w4.heap.size w4 (wi.alloc (.cells #[.int .i64 (R j : Int), .int .i64 (nn : Int), .slice aA nv cA] 53))) := HBI.out.alloc HBI.out.size _
          have r14 : (wi.alloc (.cells #[.int .i64 (R j : Int), .int .i64 (nn : Int), .slice aA nv cA] 53)).heap[wi.heap.size]? = some (.cells #[.int .i64 (R j : Int), .int .i64 (nn : Int), .slice aA nv cA] 53 (0, 0)) := heap_alloc_last wi _
          clear c1 u2 hrk
          generalize (wi.alloc (.cells #[.int .i64 (R j : Int), .int .i64 (nn : Int), .slice aA nv cA] 53)) = V at *
          have x0 : V.cell? ⟨wi.heap.size, 0, none⟩ = some (.int .i64 (R j : Int)) := by rw [cell_of_row _ _ _ _ _ _ r14]; rfl
          have x1 : V.cell? ⟨wi.heap.size, 1, none⟩ = some (.int .i64 (nn : Int)) := by rw [cell_of_row _ _ _ _ _ _ r14]; rfl
          have x2 : V.cell? ⟨wi.heap.size, 2, none⟩ = some (.slice aA nv cA) := by rw [cell_of_row _ _ _ _ _ _ r14]; rfl
          obtain ⟨-, -, -, u2⟩ := HQQ.out V HBA.out
          obtain ⟨-, c1, -⟩ := HPP.out V HBA.out
          obtain ⟨-, -, e3⟩ := HBC.out V HBA.out
          have hwn : IntKind.i64.wrap ((nn : Int) + 1) = ((nn + 1 : Nat) : Int) := by rw [show (nn : Int) + 1 = ((nn + 1 : Nat) : Int) by omega]; exact wrap_signed _ (by omega) (by omega)
          clear r14
          rcases Nat.eq_zero_or_pos j with h0 | h0
          · have hd1 : decide (0 < (j : Int)) = false := by simp only [decide_eq_false_iff_not]; omega
            have hd2 : decide (0 < j) = false := by simp only [decide_eq_false_iff_not]; omega
            clear h0
            go_quiet (fail)
            go_wp2
            go_roundw
            case rel => exact ⟨j + 1, nn + 1, by omega, by have := HNN.out; omega, by go_num, by go_num, below_drewN HBA.out _⟩
            case measure => simp [intOf]; omega
          · have hd1 : decide (0 < (j : Int)) = true := by simp only [decide_eq_true_eq]; omega
            have hd2 : decide (0 < j) = true := by simp only [decide_eq_true_eq]; omega
            obtain ⟨j', hj'⟩ : ∃ j', j = j' + 1 := ⟨j - 1, by omega⟩
            have hjn' : j' < np := by omega
            have hjI' : (j' : Int) < np := by omega
            have hw1 : IntKind.i64.wrap ((j : Int) - 1) = (j' : Int) := by rw [show (j : Int) - 1 = j' by omega]; exact wrap_signed _ (by omega) (by omega)
            have hlt2 := HRR.out j' (by omega)
            have hle : decide ((R j : Int) ≤ (R j' : Int)) = false := by simp only [decide_eq_false_iff_not]; omega
            have hleN : decide (R j ≤ R j') = false := by simp only [decide_eq_false_iff_not]; omega
            obtain ⟨aA', cA', -, hw'⟩ := HJP.out j' (by omega)
            have k0 := hw' V HBA.out 0 _ rfl
            rw [Nat.add_zero] at k0
            have HJJ : Hid (j = j' + 1) := hj'
            clear hj' hw' hlt2 h0
            go_quiet (fail)
            go_wp2
            go_roundw
            case rel => exact ⟨j + 1, nn + 1, by omega, by have := HNN.out; omega, by go_num, by go_num, below_drewN HBA.out _⟩
            case measure => simp [intOf]; omega
        · have hjn : j = np := by omega
          subst hjn
          go_wp2
          clear c1 u2
          go_loopw [11, 15] (fun nx y wr => ∃ z nn : Nat, z ≤ ni ∧ nn = B0 + j + CI z ∧ y = .int .i64 z ∧ nx = .int .i64 (nn : Int) ∧ Below w4.heap.size w4 wr) (fun _ y _ => ni - (intOf y).toNat)
          case atStart => exact ⟨0, nn, Nat.zero_le _, by rw [HCI.out.1]; have := HNN.out; omega, rfl, rfl, HBI.out⟩
          case round =>
            clear HNN hnle
            obtain ⟨y, nn, hy, hnn, rfl, rfl, hbi⟩ := hrel
            rename World => wi
            have HBI : Hid (Below w4.heap.size w4 wi) := hbi
            obtain ⟨-, -, -, u2⟩ := HQQ.out wi hbi
            obtain ⟨-, -, c1⟩ := HPP.out wi hbi
            have hcy := HCI.out.2 y
            have HNN : Hid (nn = B0 + j + CI y) := hnn
            have hnle : nn ≤ 2300 := by omega
            clear hbi hcy
            clear hnn
            by_cases hly : y < ni
            · have hyI : (y : Int) < ni := by omega
              obtain ⟨x, k5, k6, k0, kid, hw⟩ := HJI.out y hly
              have hao := HAO.out.2 (by omega)
              subst hao
              rw [HN.out] at k6
              obtain ⟨xo, xi, xa, xb, xm, xp⟩ := x
              dsimp only at k5 k0 kid
              subst k5
              subst k0
              have hrk := hw wi HBI.out
              unfold inC at hrk
              dsimp only at hrk
              rw [← HNN.out] at kid
              have HKI : Hid ((xi = -1 ∧ CI (y + 1) = CI y) ∨ (xi = (nn : Int) ∧ CI (y + 1) = CI y + 1)) := kid
              obtain ⟨pc, hpc⟩ : ∃ pc, pc = st + y := ⟨_, rfl⟩
              rw [← hpc] at hrk k6
              have hwp : IntKind.i64.wrap ((st : Int) + (y : Int)) = (pc : Int) := by rw [show (st : Int) + y = pc by omega]; exact wrap_signed _ (by omega) (by omega)
              have kop := fun W hW => HIO.out W hW pc k6
              have hpcI : (pc : Int) < n := by omega
              clear hw kid hpc
              generalize (insD f pc).op = xo at *
              go_upto_region 24 with (refine wpList_load_mid rfl 55 _ rfl q2 (y * 6) rfl _ _ hrk Tryd.underlying55 rfl infoIns6p ?_)
              have HBA : Hid (Below w4.heap.size w4 (wi.alloc (.cells #[.int .i64 xo, .int .i64 xi, .int .i64 xa, .int .i64 xb, .int .i64 xm, .int .i64 (pc : Int)] 55))) := HBI.out.alloc HBI.out.size _
              have r16 : (wi.alloc (.cells #[.int .i64 xo, .int .i64 xi, .int .i64 xa, .int .i64 xb, .int .i64 xm, .int .i64 (pc : Int)] 55)).heap[wi.heap.size]? = some (.cells #[.int .i64 xo, .int .i64 xi, .int .i64 xa, .int .i64 xb, .int .i64 xm, .int .i64 (pc : Int)] 55 (0, 0)) := heap_alloc_last wi _
              clear c1 u2 hrk
              generalize (wi.alloc (.cells #[.int .i64 xo, .int .i64 xi, .int .i64 xa, .int .i64 xb, .int .i64 xm, .int .i64 (pc : Int)] 55)) = V at *
              have x0 : V.cell? ⟨wi.heap.size, 0, none⟩ = some (.int .i64 xo) := by rw [cell_of_row _ _ _ _ _ _ r16]; rfl
              have x1 : V.cell? ⟨wi.heap.size, 1, none⟩ = some (.int .i64 xi) := by rw [cell_of_row _ _ _ _ _ _ r16]; rfl
              have x5 : V.cell? ⟨wi.heap.size, 5, none⟩ = some (.int .i64 (pc : Int)) := by rw [cell_of_row _ _ _ _ _ _ r16]; rfl
              obtain ⟨u0, u1, -, -⟩ := HQQ.out V HBA.out
              obtain ⟨e0, -, -⟩ := HBC.out V HBA.out
              have kop := kop V HBA.out
              have hwn : IntKind.i64.wrap ((nn : Int) + 1) = ((nn + 1 : Nat) : Int) := by rw [show (nn : Int) + 1 = ((nn + 1 : Nat) : Int) by omega]; exact wrap_signed _ (by omega) (by omega)
              have hns1 : ((-1 : Int) < 0) := by omega
              have hnn0 : (0 : Int) ≤ nn := by omega
              clear r16
              rcases HKI.out with ⟨rfl, hci⟩ | ⟨rfl, hci⟩
              · have HC : Hid (CI (y + 1) = CI y) := hci
                clear hci
                go_quiet (fail)
                go_wp2
                go_roundw
                case rel => exact ⟨y + 1, nn, by omega, by rw [HC.out]; exact HNN.out, by go_num, rfl, below_drewN HBA.out _⟩
                case measure => simp [intOf]; omega
              · have HC : Hid (CI (y + 1) = CI y + 1) := hci
                clear hci
                go_quiet (fail)
                go_wp2
                go_roundw
                case rel => exact ⟨y + 1, nn + 1, by omega, by rw [HC.out]; have := HNN.out; omega, by go_num, by go_num, below_drewN HBA.out _⟩
                case measure => simp [intOf]; omega
            · have hyn : y = ni := by omega
              subst hyn
              have hb1 : nn = BB (i + 1) := by have := HBN.out; have := HB0.out; have := HNN.out; omega
              go_wp2
              go_roundw
              case rel => exact ⟨i + 1, by omega, by go_num, by rw [hb1], HBI.out⟩
              case measure => simp [intOf]; omega
    · have hik : i = K := by omega
      have hbk : BB i = VL := by rw [hik]; exact HBK.out.2.1
      rw [hbk]
      clear hik hbk
      go_wp2
      go_ret
      exact ⟨rfl, HB4.out.trans (HBO.out.mono HB4.out.size)⟩
end Go.Proofs.YtdpaohmaafngkaaDoor
