/- The walk of tierlinekeep.LoopsHeads: at all raw numbers it says true, and nothing that was there has turned. -/
import Derived.Test.YtpkgibdbmmhgdaaDoorXLoopFacts
import Derived.Test.YtpkgibdbmmhgdaaDoorXRightRaw
namespace Go.Proofs.YtpkgibdbmmhgdaaDoor
open Go Go.RowKit

set_option maxHeartbeats 8000000 in
set_option maxRecDepth 100000 in
theorem loopsHeads_walk (l : List Fn) (v : Value) (fn : Int) (w : World) (ht : TabOk w) (hc : CallOk w) (hv : ProgVal w v l) (hwf : ∀ f ∈ l, f.wf) (hfn : I64 fn) :
    Calls Tryd.prog 10 #[v, .int .i64 fn] w fun e w' => e = .returned (.bool true) ∧ Below w.heap.size w w' := by
  have hSh := program_raw l v w ht hc hv hwf
  obtain ⟨aol, nl, capl, rfl⟩ := hv.shape
  have HT : Hid (TabOk w) := ht
  have HCO : Hid (CallOk w) := hc
  clear hv hwf ht hc
  go_enter Tryd.func10, Tryd.ntmps10
  go_upto_region 2 with (go_at_call 14; refine hSh.mono ?_; rintro e w1 ⟨v1, P, us, rfl, hpi, hbt, hb1⟩; have hp1 := hbt.prog; have hcp := progIs_code hpi; obtain ⟨hn1, hn4, -⟩ := codeProg_zero hcp; obtain ⟨k, hk, ek⟩ := pick_some fn P.length hn1; obtain ⟨b, off, cap, u, rfl, d0, d1, d2, hcv, hm, hcc⟩ := prog_fn hp1 hk)
  have hRi := progIs_ans hpi
  have OK : Hid (FlowOk P P[k]) := flowOk_of hRi (List.getElem_mem hk)
  have hl1 := OK.out.ok.len1
  have hl2 := OK.out.ok.len2
  have hfe := fnErr_ok hcp hk
  have hca : codeAt P k = P[k].code := by simp [codeAt, List.getD, hk]
  have HBL : Hid (∀ W, Below w1.heap.size w1 W → Calls Tryd.prog 32 #[.agg #[.slice (some ⟨b, off, none⟩) P.length cap], .int .i64 k] W fun e w' => ∃ g S T VV LL, e = .returned (.tuple #[.slice (some ⟨g, 0, none⟩) S.length S.length, .int .i64 0]) ∧ BlocksAt w' W.heap.size g P[k] S T VV LL ∧ W.heap.size ≤ g ∧ Below W.heap.size W w') := fun W hb => Blocks_right P hRi k hk _ W ((HT.out.below hb1).below hb) ((HCO.out.below hb1).below hb) (hp1.keeps (keeps_below hb))
  have HAB : Hid (∀ W, Below w1.heap.size w1 W → Calls Tryd.prog 31 #[.agg #[.slice (some ⟨b, off, none⟩) P.length cap], .int .i64 k] W fun e w' => ∃ v' A, e = .returned (.tuple #[v', .int .i64 0]) ∧ AboveOk P[k] A ∧ IntsVal w' v' A ∧ Below W.heap.size W w') := fun W hb => Above_right P hRi k hk _ W ((HT.out.below hb1).below hb) ((HCO.out.below hb1).below hb) (hp1.keeps (keeps_below hb))
  have HLO : Hid (∀ W, Below w1.heap.size w1 W → Calls Tryd.prog 30 #[.agg #[.slice (some ⟨b, off, none⟩) P.length cap], .int .i64 k] W fun e w' => ∃ v' vs Ls, e = .returned (.tuple #[v', .int .i64 0]) ∧ LoopsOk P[k] Ls ∧ RowsAt w' W.heap.size v' vs Ls ∧ Below W.heap.size W w') := fun W hb => Loops_right P hRi k hk _ W ((HT.out.below hb1).below hb) ((HCO.out.below hb1).below hb) (hp1.keeps (keeps_below hb))
  obtain ⟨ao2, b2, off2, n, cap2, rfl, ⟨hlen2, haddr2, hat2⟩, hcap2, hmx2⟩ := hcv
  obtain rfl := haddr2 (by omega)
  have HIN : Hid (∀ W, Below w1.heap.size w1 W → ∀ q, q < n → W.cell? ⟨b2, off2 + q * 5, none⟩ = some (.int .i64 (insD P[k] q).op)) := fun W hW q hq => by
    have hqf : q < P[k].code.length := by rw [hlen2]; exact hq
    rw [insD_eq hqf]
    exact keeps_below hW _ _ (hat2 q hqf).1
  have HB1 : Hid (Below w.heap.size w w1) := hb1
  have hz1 := hb1.size
  have hkI : (k : Int) < P.length := by omega
  have hcc2 := hcap2.1
  have HN : Hid (P[k].code.length = n) := hlen2
  clear hfe hRi hpi hcp hbt hp1 hb1 hSh hca hat2 haddr2 hcap2
  rw [hlen2] at hl1 hl2
  generalize P[k] = f at *
  clear hlen2
  unfold maxLen at hmx2
  have d0' := fun o => cell_alloc d0 o
  have d1' := fun o => cell_alloc d1 o
  have t2 := fun o => cell_alloc d2 o
  generalize hNN : P.length = N at *
  clear hNN
  have HWA : Hid (Below w1.heap.size w1 (w1.alloc (.cells #[.slice (some ⟨b, off, none⟩) N cap] 29))) := (Below.refl _ _).alloc (Nat.le_refl _) _
  go_upto_region 6 with (first
    | (go_at_call 21; refine (picked_any _ _ _ hfn (by omega) (by omega)).mono ?_; rintro e w' ⟨rfl, hw'⟩; replace hw' := hw'.symm; subst hw')
    | (go_at_call 30; refine (HLO.out _ HWA.out).mono ?_; rintro e wl ⟨vl, vs, Ls, rfl, hLO, hRA, hbl⟩; obtain ⟨aov, capv, rfl⟩ := own_shape hRA.row; have q0 := keeps_below hbl ⟨w1.heap.size, 0, none⟩ (.slice (some ⟨b, off, none⟩) N cap) (by simp); have HBL1 : Hid (Below w1.heap.size w1 wl) := HWA.out.trans (hbl.mono HWA.out.size))
    | (go_at_call 31; refine (HAB.out _ HBL1.out).mono ?_; rintro e w2 ⟨v2, A, rfl, hA, hI2, hb2⟩; obtain ⟨ao3, b3, off3, n3, cap3, rfl, hl3, ha3, hc3, hcp3, hm3⟩ := ints_get hI2; have q1 := keeps_below hb2 _ _ q0; have HB2 : Hid (Below w1.heap.size w1 w2) := HBL1.out.trans (hb2.mono HBL1.out.size))
    | (go_at_call 32; refine (HBL.out _ HB2.out).mono ?_; rintro e w3 ⟨g, S, T, VV, LL, rfl, hB, hgw, hb3⟩))
  have HBA : Hid (BlocksAt w3 _ g f S T VV LL) := hB
  have HB3 : Hid (Below w1.heap.size w1 w3) := HB2.out.trans (hb3.mono HB2.out.size)
  have HW3 : Hid (Below w.heap.size w w3) := HB1.out.trans (HB3.out.mono hz1)
  obtain ⟨hAl, hAn⟩ := hA.of HBA.out.ok
  have hLT := hLO.of HBA.out.ok
  have hkn : S.length ≤ 1000 := by
    have h1 := starts_len OK.out HBA.out.starts
    have h2 := HN.out
    omega
  obtain ⟨hk0, -⟩ := HBA.out.starts.first
  have en3 : n3 = S.length := by omega
  subst en3
  obtain rfl := ha3 (by omega)
  have HC3 : Hid (∀ W, Below w3.heap.size w3 W → ∀ q, q < S.length → W.cell? ⟨b3, off3 + q, none⟩ = some (.int .i64 (A.getD q 0))) := fun W hW q hq => keeps_below hW _ _ (keeps_below hb3 _ _ (hc3 q hq))
  have hCm : ∀ b, b < S.length → Come (pvN f S T) b := fun b hb => HBA.out.ok.come OK.out hb
  have hPl : ∀ b p, p ∈ pvN f S T b → p < S.length := fun b p hp => (HBA.out.ok.pvN_lt OK.out b p hp).1
  have HUP : Hid (∀ i hd, 1 ≤ i → i < S.length → hd < S.length → i ≠ hd → Dom (pvN f S T) hd i → ∃ a : Nat, A.getD i 0 = (a : Int) ∧ a < S.length ∧ domCt (pvN f S T) a S.length < domCt (pvN f S T) i S.length ∧ Dom (pvN f S T) hd a) := fun i hd h1 hi hh hne hdm => near_head hCm (hAn i hi) hi h1 hh hne hdm
  have hRA3 : RowsAt w3 _ (.slice aov vs.length capv) vs Ls := (hRA.below hb2).below hb3
  have hvl := hRA3.len
  have HLF : Hid (∀ i, i < vs.length → ∃ (G hd bL n cp : Nat) (L : List Int), aov = some ⟨G, 0, none⟩ ∧ (∀ W, Below w3.heap.size w3 W → W.cell? ⟨G, i, none⟩ = some (.slice (some ⟨bL, 0, none⟩) n cp) ∧ (∀ q, q < n → W.cell? ⟨bL, q, none⟩ = some (.int .i64 (L.getD q 0))) ∧ ∀ z m, Calls Tryd.prog 33 #[.slice (some ⟨bL, 0, none⟩) n cp, .int .i64 z] (W.drewN m) (fun e w' => e = .returned (.bool (decide (z ∈ L))) ∧ w' = W.drewN m)) ∧ L.length = n ∧ n ≤ cp ∧ LoopFine (pvN f S T) S.length hd L) := fun i hi => by
    have hmem : Ls.getD i [] ∈ Ls := by
      have : i < Ls.length := by omega
      simp [List.getD, this]
    obtain ⟨bb, hd, hp, hdm, hli⟩ := hLT.each _ hmem
    obtain ⟨hbb, hnx⟩ := pairsOf_mem _ _ _ _ hp
    have hhd := HBA.out.ok.nxN_lt OK.out hbb hnx
    have hfine := LoopIs.fine hPl hhd hdm hli
    obtain ⟨G, capG, eG, -, -, -, -⟩ := own_at hRA3.row (by omega)
    have eA : aov = some ⟨G, 0, none⟩ := by simpa using (show (Value.slice aov vs.length capv) = .slice (some ⟨G, 0, none⟩) vs.length capG from eG) |> fun h => (Value.slice.inj h).1
    have hown := hRA3.own i hi
    obtain ⟨bL, cp, eL, -, -, -, hle⟩ := own_at hown hfine.some
    refine ⟨G, hd, bL, _, cp, Ls.getD i [], eA, fun W hW => ⟨?_, fun q hq => ?_, fun z m => ?_⟩, rfl, hle, hfine⟩
    · have hr := hRA3.row
      rw [eA] at hr
      have := hr.cellAt i (by simpa using hi)
      rw [← eL]
      refine keeps_below hW _ _ (this.trans ?_)
      exact List.getElem?_eq_getElem hi
    · rw [eL] at hown
      exact keeps_below hW _ _ (row_cell hown q hq)
    · have hI := own_ints hown
      rw [eL] at hI
      exact hasList_any _ _ z (W.drewN m) ((hI.keeps (keeps_below hW)).keeps (fun _ _ e => e))
  have HDL : Hid (∀ i, domCt (pvN f S T) i S.length ≤ S.length) := fun i => domCt_le _ _ _
  have HPV : Hid (∀ i, 1 ≤ i → i < S.length → ∃ (ap : Option Addr) (np cp : Nat), (∀ W, Below w3.heap.size w3 W → W.cell? ⟨g, i * 4 + 3, none⟩ = some (.slice ap np cp)) ∧ np ≤ 1000 ∧ np ≤ cp ∧ ∀ m, m < np → ∃ (bp op p : Nat), ap = some ⟨bp, op, none⟩ ∧ p ∈ pvN f S T i ∧ ∀ W, Below w3.heap.size w3 W → W.cell? ⟨bp, op + m, none⟩ = some (.int .i64 (p : Int))) := fun i h1 hi => by
    have hn := (HBA.out.next i hi).2
    rw [pvN_pvI f S T i (by omega)] at hn
    obtain ⟨x1, x2, x3, x4, x5, e1, e2, e3, e4, e5, -⟩ := ints_get hn
    have hpn : (pvN f S T i).length ≤ S.length := by
      unfold pvN
      have := List.length_filter_le (fun j => decide (((i : Nat) : Int) ∈ nxI f S (T j))) (List.range S.length)
      rw [List.length_range] at this
      exact this
    rw [List.length_map] at e2
    refine ⟨x1, x4, x5, fun W hW => ?_, by omega, e5, fun m hm => ⟨x2, x3, (pvN f S T i)[m]'(by omega), e3 (by omega), List.getElem_mem _, fun W hW => ?_⟩⟩
    · rw [← e1]; exact ((HBA.out.below hW).cells i hi).2.2.2
    · refine keeps_below hW _ _ ?_
      rw [e4 m hm]
      simp [List.getD, show m < (pvN f S T i).length by omega]
  have hk0I : ((S.length : Int) == 0) = false := beq_eq_false_iff_ne.2 (by omega)
  have HVC : Hid (vs.length ≤ capv ∧ vs.length ≤ 9223372036854775807) := by
    rcases hRA3.row.2 with ⟨e, e2⟩ | ⟨g', cap', cur, e, _, _, hn, hm, _⟩
    · have h0 : vs.length = 0 := by have := Value.slice.inj e; omega
      exact ⟨by omega, by omega⟩
    · have hh := Value.slice.inj e
      rw [hh.2.2]
      exact ⟨hn, by unfold maxLen at hm; omega⟩
  clear hB hgw hb2 hb3 hbl q0 q1 hI2 hc3 ha3 hA hAl hAn hCm hPl hl3 t2 d0' d1' d0 d1 d2 HAB HBL HLO hRA hRA3 hLO hLT hvl
  generalize (pvN f S T) = pv at *
  generalize S.length = K at *
  obtain ⟨hvc1, hvc2⟩ := HVC.out
  generalize vs.length = NL at *
  go_upto_region 9 with fail
  clear hk0I
  go_loopw [13] (fun i wr => ∃ q : Nat, q ≤ NL ∧ i = .int .i64 q ∧ Below w3.heap.size w3 wr) (fun i _ => NL - (intOf i).toNat)
  case atStart => exact ⟨0, Nat.zero_le _, rfl, Below.refl _ _⟩
  case round =>
    obtain ⟨i, hi, rfl, hbo⟩ := hrel
    rename World => wo
    have HBO : Hid (Below w3.heap.size w3 wo) := hbo
    clear hbo
    by_cases hlt : i < NL
    · have hiI : (i : Int) < NL := by omega
      obtain ⟨G, hd, bL, n, cp, L, eG, hcl, hLn, hncp, hfine⟩ := HLF.out i hlt
      subst eG
      have HCL : Hid (∀ W, Below w3.heap.size w3 W → W.cell? ⟨G, i, none⟩ = some (.slice (some ⟨bL, 0, none⟩) n cp) ∧ (∀ q, q < n → W.cell? ⟨bL, q, none⟩ = some (.int .i64 (L.getD q 0))) ∧ ∀ z m, Calls Tryd.prog 33 #[.slice (some ⟨bL, 0, none⟩) n cp, .int .i64 z] (W.drewN m) (fun e w' => e = .returned (.bool (decide (z ∈ L))) ∧ w' = W.drewN m)) := hcl
      have HLN : Hid (L.length = n) := hLn
      have HFI : Hid (LoopFine pv K hd L) := hfine
      have hn0 : 0 < n := by have := hfine.some; omega
      have hn1 : n ≤ 1001 := by have := hfine.few; omega
      have hn0b : ((n : Int) == 0) = false := beq_eq_false_iff_ne.2 (by omega)
      have hn0c : (n == 0) = false := beq_eq_false_iff_ne.2 (by omega)
      have hhK := hfine.head
      have cG := (hcl wo HBO.out).1
      clear hcl hLn hfine
      go_upto_region 14 with fail
      clear cG hn0b hn0c
      go_loopw [14] (fun i wr => ∃ q : Nat, q ≤ n ∧ i = .int .i64 q ∧ Below w3.heap.size w3 wr) (fun i _ => n - (intOf i).toNat)
      case atStart => exact ⟨0, Nat.zero_le _, rfl, HBO.out⟩
      case round =>
        obtain ⟨j, hj, rfl, hbj⟩ := hrel
        rename World => wj
        have HBJ : Hid (Below w3.heap.size w3 wj) := hbj
        clear hbj
        have cG := (HCL.out wj HBJ.out).1
        by_cases hjn : j < n
        · have hjI : (j : Int) < n := by omega
          obtain ⟨c, ec, hcK, hdc, hrise, hin⟩ := HFI.out.each j (by rw [HLN.out]; exact hjn)
          have cj := (HCL.out wj HBJ.out).2.1 j hjn
          rw [ec] at cj
          have HDC : Hid (Dom pv hd c) := hdc
          have HIN2 : Hid (1 ≤ j → 1 ≤ c ∧ ∀ p ∈ pv c, ((p : Nat) : Int) ∈ L) := hin
          have hcI : (c : Int) < K := by omega
          have hg2 : decide ((c : Int) < 0) = false := by simp only [decide_eq_false_iff_not]; omega
          have hg3 : decide ((K : Int) ≤ (c : Int)) = false := by simp only [decide_eq_false_iff_not]; omega
          have hg3n : decide (K ≤ c) = false := by simp only [decide_eq_false_iff_not]; omega
          by_cases hj2 : 2 ≤ j
          · have hz := hrise hj2
            have hw1 : IntKind.i64.wrap ((j : Int) - 1) = ((j - 1 : Nat) : Int) := by rw [show (j : Int) - 1 = ((j - 1 : Nat) : Int) by omega]; exact wrap_signed _ (by omega) (by omega)
            have cz := (HCL.out wj HBJ.out).2.1 (j - 1) (by omega)
            have hle : decide ((c : Int) ≤ L.getD (j - 1) 0) = false := by simp only [decide_eq_false_iff_not]; omega
            have hj1 : decide ((1 : Int) < (j : Int)) = true := by simp only [decide_eq_true_eq]; omega
            have hj1n : decide (1 < j) = true := by simp only [decide_eq_true_eq]; omega
            have hjz : ((j - 1 : Nat) : Int) < n := by omega
            have hjzn : j - 1 < n := by omega
            clear hrise hz ec hdc hin
            generalize L.getD (j - 1) 0 = z at cz hle
            generalize j - 1 = jz at *
            go_upto_region 20 with fail
            clear hw1 cz hle hj1 hj1n hjz hjzn cj cG hg2 hg3 hg3n
            go_loopw [16] (fun a wr => ∃ q : Nat, q < K ∧ a = .int .i64 q ∧ Dom pv hd q ∧ Below w3.heap.size w3 wr) (fun a _ => domCt pv (intOf a).toNat K)
            case atStart => exact ⟨c, hcK, rfl, HDC.out, HBJ.out⟩
            case round =>
              obtain ⟨q, hq, rfl, hdq, hbi⟩ := hrel
              rename World => wi
              have HBI : Hid (Below w3.heap.size w3 wi) := hbi
              clear hbi
              obtain ⟨cG, cL, -⟩ := HCL.out wi HBI.out
              have c0 := cL 0 hn0
              rw [HFI.out.first] at c0
              clear cL
              by_cases hend : q = hd
              · subst hend
                have hqq : ((q : Int) != (q : Int)) = false := by simp
                clear hdq
                by_cases hq0 : q = 0
                · have hqp : decide ((0 : Int) < (q : Int)) = false := by simp only [decide_eq_false_iff_not]; omega
                  have hqpn : decide (0 < q) = false := by simp only [decide_eq_false_iff_not]; omega
                  clear hq0
                  go_upto_region 25 with fail
                  obtain ⟨hc1, hpin⟩ := HIN2.out (by omega)
                  obtain ⟨ap, np, cpp, cprev, hnp1, hnpc, hprv⟩ := HPV.out c hc1 hcK
                  have HPR : Hid (∀ m, m < np → ∃ (bp op p : Nat), ap = some ⟨bp, op, none⟩ ∧ p ∈ pv c ∧ ∀ W, Below w3.heap.size w3 W → W.cell? ⟨bp, op + m, none⟩ = some (.int .i64 (p : Int))) := hprv
                  have HPI : Hid (∀ p ∈ pv c, ((p : Nat) : Int) ∈ L) := hpin
                  have HCP : Hid (∀ W, Below w3.heap.size w3 W → W.cell? ⟨g, c * 4 + 3, none⟩ = some (.slice ap np cpp)) := cprev
                  have hjp : decide ((0 : Int) < (j : Int)) = true := by simp only [decide_eq_true_eq]; omega
                  have hjpn : decide (0 < j) = true := by simp only [decide_eq_true_eq]; omega
                  clear hprv hpin cprev c0 cG hqp hqpn hqq
                  go_loopw [17] (fun a wr => ∃ m : Nat, m ≤ np ∧ a = .int .i64 m ∧ Below w3.heap.size w3 wr) (fun a _ => np - (intOf a).toNat)
                  case atStart => exact ⟨0, Nat.zero_le _, rfl, HBI.out⟩
                  case round =>
                    obtain ⟨m, hm, rfl, hbm⟩ := hrel
                    rename World => wm
                    have HBM : Hid (Below w3.heap.size w3 wm) := hbm
                    clear hbm
                    have cp3 := HCP.out wm HBM.out
                    by_cases hmn : m < np
                    · have hmI : (m : Int) < np := by omega
                      obtain ⟨bp, op, p, eap, hpm, hpc⟩ := HPR.out m hmn
                      subst eap
                      have cpc := hpc wm HBM.out
                      have hmem : decide (((p : Nat) : Int) ∈ L) = true := by simpa using HPI.out p hpm
                      obtain ⟨cG, -, gh⟩ := HCL.out wm HBM.out
                      have g1 := fun mm => gh ((p : Nat) : Int) mm
                      rw [hmem] at g1
                      clear hpm hpc hmem gh
                      go_wp2
                      go_quiet ((go_at_call 33; refine (g1 _).mono ?_; exact fun _ _ h => ⟨h.1, _, h.2⟩))
                      go_wp2
                      go_roundw
                      case rel => exact ⟨m + 1, by omega, by go_num, below_drewN HBM.out _⟩
                      case measure => simp [intOf]; omega
                    · have hmx : decide ((m : Int) < (np : Int)) = false := by simp only [decide_eq_false_iff_not]; omega
                      have hmxn : decide (m < np) = false := by simp only [decide_eq_false_iff_not]; omega
                      go_wp2
                      go_roundw
                      case rel => exact ⟨j + 1, by omega, by go_num, HBM.out⟩
                      case measure => simp [intOf]; omega
                · have hqp : decide ((0 : Int) < (q : Int)) = true := by simp only [decide_eq_true_eq]; omega
                  have hqpn : decide (0 < q) = true := by simp only [decide_eq_true_eq]; omega
                  clear hq0
                  go_upto_region 25 with fail
                  obtain ⟨hc1, hpin⟩ := HIN2.out (by omega)
                  obtain ⟨ap, np, cpp, cprev, hnp1, hnpc, hprv⟩ := HPV.out c hc1 hcK
                  have HPR : Hid (∀ m, m < np → ∃ (bp op p : Nat), ap = some ⟨bp, op, none⟩ ∧ p ∈ pv c ∧ ∀ W, Below w3.heap.size w3 W → W.cell? ⟨bp, op + m, none⟩ = some (.int .i64 (p : Int))) := hprv
                  have HPI : Hid (∀ p ∈ pv c, ((p : Nat) : Int) ∈ L) := hpin
                  have HCP : Hid (∀ W, Below w3.heap.size w3 W → W.cell? ⟨g, c * 4 + 3, none⟩ = some (.slice ap np cpp)) := cprev
                  have hjp : decide ((0 : Int) < (j : Int)) = true := by simp only [decide_eq_true_eq]; omega
                  have hjpn : decide (0 < j) = true := by simp only [decide_eq_true_eq]; omega
                  clear hprv hpin cprev c0 cG hqp hqpn hqq
                  go_loopw [17] (fun a wr => ∃ m : Nat, m ≤ np ∧ a = .int .i64 m ∧ Below w3.heap.size w3 wr) (fun a _ => np - (intOf a).toNat)
                  case atStart => exact ⟨0, Nat.zero_le _, rfl, HBI.out⟩
                  case round =>
                    obtain ⟨m, hm, rfl, hbm⟩ := hrel
                    rename World => wm
                    have HBM : Hid (Below w3.heap.size w3 wm) := hbm
                    clear hbm
                    have cp3 := HCP.out wm HBM.out
                    by_cases hmn : m < np
                    · have hmI : (m : Int) < np := by omega
                      obtain ⟨bp, op, p, eap, hpm, hpc⟩ := HPR.out m hmn
                      subst eap
                      have cpc := hpc wm HBM.out
                      have hmem : decide (((p : Nat) : Int) ∈ L) = true := by simpa using HPI.out p hpm
                      obtain ⟨cG, -, gh⟩ := HCL.out wm HBM.out
                      have g1 := fun mm => gh ((p : Nat) : Int) mm
                      rw [hmem] at g1
                      clear hpm hpc hmem gh
                      go_wp2
                      go_quiet ((go_at_call 33; refine (g1 _).mono ?_; exact fun _ _ h => ⟨h.1, _, h.2⟩))
                      go_wp2
                      go_roundw
                      case rel => exact ⟨m + 1, by omega, by go_num, below_drewN HBM.out _⟩
                      case measure => simp [intOf]; omega
                    · have hmx : decide ((m : Int) < (np : Int)) = false := by simp only [decide_eq_false_iff_not]; omega
                      have hmxn : decide (m < np) = false := by simp only [decide_eq_false_iff_not]; omega
                      go_wp2
                      go_roundw
                      case rel => exact ⟨j + 1, by omega, by go_num, HBM.out⟩
                      case measure => simp [intOf]; omega
              · have hq1 : 1 ≤ q := by
                  rcases Nat.eq_zero_or_pos q with h0 | h0
                  · subst h0; exact absurd (dom_first hdq).symm hend
                  · exact h0
                obtain ⟨a, ea, ha, had, hda⟩ := HUP.out q hd hq1 hq hhK hend hdq
                have ca := HC3.out wi HBI.out q hq
                rw [ea] at ca
                have HDA : Hid (Dom pv hd a) := hda
                have HMS : Hid (domCt pv a K < domCt pv q K) := had
                have hqI : (q : Int) < K := by omega
                have hqp : decide ((0 : Int) < (q : Int)) = true := by simp only [decide_eq_true_eq]; omega
                have hqpn : decide (0 < q) = true := by simp only [decide_eq_true_eq]; omega
                have hne : ((q : Int) != (hd : Int)) = true := by simp only [bne_iff_ne, ne_eq]; omega
                have hnen : (q != hd) = true := by simp only [bne_iff_ne, ne_eq]; exact hend
                clear ea had hda hdq hend
                go_wp2
                go_roundw
                case rel => exact ⟨a, ha, rfl, HDA.out, HBI.out⟩
                case measure => simpa [intOf] using HMS.out
          · have hj1 : decide ((1 : Int) < (j : Int)) = false := by simp only [decide_eq_false_iff_not]; omega
            have hj1n : decide (1 < j) = false := by simp only [decide_eq_false_iff_not]; omega
            clear hrise ec hdc hin
            go_upto_region 20 with fail
            clear hj1 hj1n cj cG hg2 hg3 hg3n
            by_cases hj0 : j = 0
            · have hjp : decide ((0 : Int) < (j : Int)) = false := by simp only [decide_eq_false_iff_not]; omega
              have hjpn : decide (0 < j) = false := by simp only [decide_eq_false_iff_not]; omega
              clear hj0
              go_loopw [16] (fun a wr => ∃ q : Nat, q < K ∧ a = .int .i64 q ∧ Dom pv hd q ∧ Below w3.heap.size w3 wr) (fun a _ => domCt pv (intOf a).toNat K)
              case atStart => exact ⟨c, hcK, rfl, HDC.out, HBJ.out⟩
              case round =>
                obtain ⟨q, hq, rfl, hdq, hbi⟩ := hrel
                rename World => wi
                have HBI : Hid (Below w3.heap.size w3 wi) := hbi
                clear hbi
                obtain ⟨cG, cL, -⟩ := HCL.out wi HBI.out
                have c0 := cL 0 hn0
                rw [HFI.out.first] at c0
                clear cL
                by_cases hend : q = hd
                · subst hend
                  have hqq : ((q : Int) != (q : Int)) = false := by simp
                  clear hdq
                  by_cases hq0 : q = 0
                  · have hqp : decide ((0 : Int) < (q : Int)) = false := by simp only [decide_eq_false_iff_not]; omega
                    have hqpn : decide (0 < q) = false := by simp only [decide_eq_false_iff_not]; omega
                    clear hq0
                    go_upto_region 25 with fail
                    go_loopw [17] (fun a wr => a = .int .i64 0 ∧ Below w3.heap.size w3 wr) (fun _ _ => 0)
                    case atStart => exact ⟨rfl, HBI.out⟩
                    case round =>
                      obtain ⟨rfl, hbm⟩ := hrel
                      rename World => wm
                      have HBM : Hid (Below w3.heap.size w3 wm) := hbm
                      clear hbm
                      go_wp2
                      go_roundw
                      case rel => exact ⟨j + 1, by omega, by go_num, HBM.out⟩
                      case measure => simp [intOf]; omega
                  · have hqp : decide ((0 : Int) < (q : Int)) = true := by simp only [decide_eq_true_eq]; omega
                    have hqpn : decide (0 < q) = true := by simp only [decide_eq_true_eq]; omega
                    clear hq0
                    go_upto_region 25 with fail
                    go_loopw [17] (fun a wr => a = .int .i64 0 ∧ Below w3.heap.size w3 wr) (fun _ _ => 0)
                    case atStart => exact ⟨rfl, HBI.out⟩
                    case round =>
                      obtain ⟨rfl, hbm⟩ := hrel
                      rename World => wm
                      have HBM : Hid (Below w3.heap.size w3 wm) := hbm
                      clear hbm
                      go_wp2
                      go_roundw
                      case rel => exact ⟨j + 1, by omega, by go_num, HBM.out⟩
                      case measure => simp [intOf]; omega
                · have hq1 : 1 ≤ q := by
                    rcases Nat.eq_zero_or_pos q with h0 | h0
                    · subst h0; exact absurd (dom_first hdq).symm hend
                    · exact h0
                  obtain ⟨a, ea, ha, had, hda⟩ := HUP.out q hd hq1 hq hhK hend hdq
                  have ca := HC3.out wi HBI.out q hq
                  rw [ea] at ca
                  have HDA : Hid (Dom pv hd a) := hda
                  have HMS : Hid (domCt pv a K < domCt pv q K) := had
                  have hqI : (q : Int) < K := by omega
                  have hqp : decide ((0 : Int) < (q : Int)) = true := by simp only [decide_eq_true_eq]; omega
                  have hqpn : decide (0 < q) = true := by simp only [decide_eq_true_eq]; omega
                  have hne : ((q : Int) != (hd : Int)) = true := by simp only [bne_iff_ne, ne_eq]; omega
                  have hnen : (q != hd) = true := by simp only [bne_iff_ne, ne_eq]; exact hend
                  clear ea had hda hdq hend
                  go_wp2
                  go_roundw
                  case rel => exact ⟨a, ha, rfl, HDA.out, HBI.out⟩
                  case measure => simpa [intOf] using HMS.out
            · go_loopw [16] (fun a wr => ∃ q : Nat, q < K ∧ a = .int .i64 q ∧ Dom pv hd q ∧ Below w3.heap.size w3 wr) (fun a _ => domCt pv (intOf a).toNat K)
              case atStart => exact ⟨c, hcK, rfl, HDC.out, HBJ.out⟩
              case round =>
                obtain ⟨q, hq, rfl, hdq, hbi⟩ := hrel
                rename World => wi
                have HBI : Hid (Below w3.heap.size w3 wi) := hbi
                clear hbi
                obtain ⟨cG, cL, -⟩ := HCL.out wi HBI.out
                have c0 := cL 0 hn0
                rw [HFI.out.first] at c0
                clear cL
                by_cases hend : q = hd
                · subst hend
                  have hqq : ((q : Int) != (q : Int)) = false := by simp
                  clear hdq
                  by_cases hq0 : q = 0
                  · have hqp : decide ((0 : Int) < (q : Int)) = false := by simp only [decide_eq_false_iff_not]; omega
                    have hqpn : decide (0 < q) = false := by simp only [decide_eq_false_iff_not]; omega
                    clear hq0
                    go_upto_region 25 with fail
                    obtain ⟨hc1, hpin⟩ := HIN2.out (by omega)
                    obtain ⟨ap, np, cpp, cprev, hnp1, hnpc, hprv⟩ := HPV.out c hc1 hcK
                    have HPR : Hid (∀ m, m < np → ∃ (bp op p : Nat), ap = some ⟨bp, op, none⟩ ∧ p ∈ pv c ∧ ∀ W, Below w3.heap.size w3 W → W.cell? ⟨bp, op + m, none⟩ = some (.int .i64 (p : Int))) := hprv
                    have HPI : Hid (∀ p ∈ pv c, ((p : Nat) : Int) ∈ L) := hpin
                    have HCP : Hid (∀ W, Below w3.heap.size w3 W → W.cell? ⟨g, c * 4 + 3, none⟩ = some (.slice ap np cpp)) := cprev
                    have hjp : decide ((0 : Int) < (j : Int)) = true := by simp only [decide_eq_true_eq]; omega
                    have hjpn : decide (0 < j) = true := by simp only [decide_eq_true_eq]; omega
                    clear hprv hpin cprev c0 cG hqp hqpn hqq
                    go_loopw [17] (fun a wr => ∃ m : Nat, m ≤ np ∧ a = .int .i64 m ∧ Below w3.heap.size w3 wr) (fun a _ => np - (intOf a).toNat)
                    case atStart => exact ⟨0, Nat.zero_le _, rfl, HBI.out⟩
                    case round =>
                      obtain ⟨m, hm, rfl, hbm⟩ := hrel
                      rename World => wm
                      have HBM : Hid (Below w3.heap.size w3 wm) := hbm
                      clear hbm
                      have cp3 := HCP.out wm HBM.out
                      by_cases hmn : m < np
                      · have hmI : (m : Int) < np := by omega
                        obtain ⟨bp, op, p, eap, hpm, hpc⟩ := HPR.out m hmn
                        subst eap
                        have cpc := hpc wm HBM.out
                        have hmem : decide (((p : Nat) : Int) ∈ L) = true := by simpa using HPI.out p hpm
                        obtain ⟨cG, -, gh⟩ := HCL.out wm HBM.out
                        have g1 := fun mm => gh ((p : Nat) : Int) mm
                        rw [hmem] at g1
                        clear hpm hpc hmem gh
                        go_wp2
                        go_quiet ((go_at_call 33; refine (g1 _).mono ?_; exact fun _ _ h => ⟨h.1, _, h.2⟩))
                        go_wp2
                        go_roundw
                        case rel => exact ⟨m + 1, by omega, by go_num, below_drewN HBM.out _⟩
                        case measure => simp [intOf]; omega
                      · have hmx : decide ((m : Int) < (np : Int)) = false := by simp only [decide_eq_false_iff_not]; omega
                        have hmxn : decide (m < np) = false := by simp only [decide_eq_false_iff_not]; omega
                        go_wp2
                        go_roundw
                        case rel => exact ⟨j + 1, by omega, by go_num, HBM.out⟩
                        case measure => simp [intOf]; omega
                  · have hqp : decide ((0 : Int) < (q : Int)) = true := by simp only [decide_eq_true_eq]; omega
                    have hqpn : decide (0 < q) = true := by simp only [decide_eq_true_eq]; omega
                    clear hq0
                    go_upto_region 25 with fail
                    obtain ⟨hc1, hpin⟩ := HIN2.out (by omega)
                    obtain ⟨ap, np, cpp, cprev, hnp1, hnpc, hprv⟩ := HPV.out c hc1 hcK
                    have HPR : Hid (∀ m, m < np → ∃ (bp op p : Nat), ap = some ⟨bp, op, none⟩ ∧ p ∈ pv c ∧ ∀ W, Below w3.heap.size w3 W → W.cell? ⟨bp, op + m, none⟩ = some (.int .i64 (p : Int))) := hprv
                    have HPI : Hid (∀ p ∈ pv c, ((p : Nat) : Int) ∈ L) := hpin
                    have HCP : Hid (∀ W, Below w3.heap.size w3 W → W.cell? ⟨g, c * 4 + 3, none⟩ = some (.slice ap np cpp)) := cprev
                    have hjp : decide ((0 : Int) < (j : Int)) = true := by simp only [decide_eq_true_eq]; omega
                    have hjpn : decide (0 < j) = true := by simp only [decide_eq_true_eq]; omega
                    clear hprv hpin cprev c0 cG hqp hqpn hqq
                    go_loopw [17] (fun a wr => ∃ m : Nat, m ≤ np ∧ a = .int .i64 m ∧ Below w3.heap.size w3 wr) (fun a _ => np - (intOf a).toNat)
                    case atStart => exact ⟨0, Nat.zero_le _, rfl, HBI.out⟩
                    case round =>
                      obtain ⟨m, hm, rfl, hbm⟩ := hrel
                      rename World => wm
                      have HBM : Hid (Below w3.heap.size w3 wm) := hbm
                      clear hbm
                      have cp3 := HCP.out wm HBM.out
                      by_cases hmn : m < np
                      · have hmI : (m : Int) < np := by omega
                        obtain ⟨bp, op, p, eap, hpm, hpc⟩ := HPR.out m hmn
                        subst eap
                        have cpc := hpc wm HBM.out
                        have hmem : decide (((p : Nat) : Int) ∈ L) = true := by simpa using HPI.out p hpm
                        obtain ⟨cG, -, gh⟩ := HCL.out wm HBM.out
                        have g1 := fun mm => gh ((p : Nat) : Int) mm
                        rw [hmem] at g1
                        clear hpm hpc hmem gh
                        go_wp2
                        go_quiet ((go_at_call 33; refine (g1 _).mono ?_; exact fun _ _ h => ⟨h.1, _, h.2⟩))
                        go_wp2
                        go_roundw
                        case rel => exact ⟨m + 1, by omega, by go_num, below_drewN HBM.out _⟩
                        case measure => simp [intOf]; omega
                      · have hmx : decide ((m : Int) < (np : Int)) = false := by simp only [decide_eq_false_iff_not]; omega
                        have hmxn : decide (m < np) = false := by simp only [decide_eq_false_iff_not]; omega
                        go_wp2
                        go_roundw
                        case rel => exact ⟨j + 1, by omega, by go_num, HBM.out⟩
                        case measure => simp [intOf]; omega
                · have hq1 : 1 ≤ q := by
                    rcases Nat.eq_zero_or_pos q with h0 | h0
                    · subst h0; exact absurd (dom_first hdq).symm hend
                    · exact h0
                  obtain ⟨a, ea, ha, had, hda⟩ := HUP.out q hd hq1 hq hhK hend hdq
                  have ca := HC3.out wi HBI.out q hq
                  rw [ea] at ca
                  have HDA : Hid (Dom pv hd a) := hda
                  have HMS : Hid (domCt pv a K < domCt pv q K) := had
                  have hqI : (q : Int) < K := by omega
                  have hqp : decide ((0 : Int) < (q : Int)) = true := by simp only [decide_eq_true_eq]; omega
                  have hqpn : decide (0 < q) = true := by simp only [decide_eq_true_eq]; omega
                  have hne : ((q : Int) != (hd : Int)) = true := by simp only [bne_iff_ne, ne_eq]; omega
                  have hnen : (q != hd) = true := by simp only [bne_iff_ne, ne_eq]; exact hend
                  clear ea had hda hdq hend
                  go_wp2
                  go_roundw
                  case rel => exact ⟨a, ha, rfl, HDA.out, HBI.out⟩
                  case measure => simpa [intOf] using HMS.out
        · go_wp2
          go_roundw
          case rel => exact ⟨i + 1, by omega, by go_num, HBJ.out⟩
          case measure => simp [intOf]; omega
    · go_wp2
      go_ret
      exact ⟨rfl, HW3.out.trans (HBO.out.mono HW3.out.size)⟩
end Go.Proofs.YtpkgibdbmmhgdaaDoor
