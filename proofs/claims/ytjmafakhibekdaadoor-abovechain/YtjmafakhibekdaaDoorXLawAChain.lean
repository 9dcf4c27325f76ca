/- The walk of tierlinekeep.AboveChain: at all raw numbers it says true, and nothing that was there has turned. -/
import Derived.Test.YtjmafakhibekdaaDoorXFlowAboves
import Derived.Test.YtjmafakhibekdaaDoorXRightRaw
namespace Go.Proofs.YtjmafakhibekdaaDoor
open Go Go.RowKit

set_option maxHeartbeats 8000000 in
set_option maxRecDepth 100000 in
theorem aboveChain_walk (l : List Fn) (v : Value) (fn : Int) (w : World) (ht : TabOk w) (hc : CallOk w) (hv : ProgVal w v l) (hwf : ∀ f ∈ l, f.wf) (hfn : I64 fn) :
    Calls Tryd.prog 6 #[v, .int .i64 fn] w fun e w' => e = .returned (.bool true) ∧ Below w.heap.size w w' := by
  have hSh := program_raw l v w ht hc hv hwf
  obtain ⟨aol, nl, capl, rfl⟩ := hv.shape
  have HT : Hid (TabOk w) := ht
  have HCO : Hid (CallOk w) := hc
  clear hv hwf ht hc
  go_enter Tryd.func6, Tryd.ntmps6
  go_upto_region 2 with (go_at_call 13; refine hSh.mono ?_; rintro e w1 ⟨v1, P, us, rfl, hpi, hbt, hb1⟩; have hp1 := hbt.prog; have hcp := progIs_code hpi; obtain ⟨hn1, hn4, -⟩ := codeProg_zero hcp; obtain ⟨k, hk, ek⟩ := pick_some fn P.length hn1; obtain ⟨b, off, cap, u, rfl, d0, d1, d2, hcv, hm, hcc⟩ := prog_fn hp1 hk)
  have hRi := progIs_ans hpi
  have OK : Hid (FlowOk P P[k]) := flowOk_of hRi (List.getElem_mem hk)
  have hl1 := OK.out.ok.len1
  have hl2 := OK.out.ok.len2
  have hfe := fnErr_ok hcp hk
  have hca : codeAt P k = P[k].code := by simp [codeAt, List.getD, hk]
  have HBL : Hid (∀ W, Below w1.heap.size w1 W → Calls Tryd.prog 15 #[.agg #[.slice (some ⟨b, off, none⟩) P.length cap], .int .i64 k] W fun e w' => ∃ g S T VV LL, e = .returned (.tuple #[.slice (some ⟨g, 0, none⟩) S.length S.length, .int .i64 0]) ∧ BlocksAt w' W.heap.size g P[k] S T VV LL ∧ W.heap.size ≤ g ∧ Below W.heap.size W w') := fun W hb => Blocks_right P hRi k hk _ W ((HT.out.below hb1).below hb) ((HCO.out.below hb1).below hb) (hp1.keeps (keeps_below hb))
  have HAB : Hid (∀ W, Below w1.heap.size w1 W → Calls Tryd.prog 20 #[.agg #[.slice (some ⟨b, off, none⟩) P.length cap], .int .i64 k] W fun e w' => ∃ v' A, e = .returned (.tuple #[v', .int .i64 0]) ∧ AboveOk P[k] A ∧ IntsVal w' v' A ∧ Below W.heap.size W w') := fun W hb => Above_right P hRi k hk _ W ((HT.out.below hb1).below hb) ((HCO.out.below hb1).below hb) (hp1.keeps (keeps_below hb))
  obtain ⟨ao2, b2, off2, n, cap2, rfl, ⟨hlen2, haddr2, hat2⟩, hcap2, hmx2⟩ := hcv
  obtain rfl := haddr2 (by omega)
  have HIN : Hid (∀ W, Below w1.heap.size w1 W → ∀ q, q < n → W.cell? ⟨b2, off2 + q * 5, none⟩ = some (.int .i64 (insD P[k] q).op)) := fun W hW q hq => by
    have hqf : q < P[k].code.length := by rw [hlen2]; exact hq
    rw [insD_eq hqf]
    exact keeps_below hW _ _ (hat2 q hqf).1
  have HB1 : Hid (Below w.heap.size w w1) := hb1
  have hz1 := hb1.size
  have hkI : (k : Int) < P.length := by omega
  have hcc2 := hcap2.1
  have HN : Hid (P[k].code.length = n) := hlen2
  clear hfe hRi hpi hcp hbt hp1 hb1 hSh hca hat2 haddr2 hcap2
  rw [hlen2] at hl1 hl2
  generalize P[k] = f at *
  clear hlen2
  unfold maxLen at hmx2
  have d0' := fun o => cell_alloc d0 o
  have d1' := fun o => cell_alloc d1 o
  have t2 := fun o => cell_alloc d2 o
  generalize hNN : P.length = N at *
  clear hNN
  have HWA : Hid (Below w1.heap.size w1 (w1.alloc (.cells #[.slice (some ⟨b, off, none⟩) N cap] 25))) := (Below.refl _ _).alloc (Nat.le_refl _) _
  go_upto_region 5 with (first
    | (go_at_call 14; refine (picked_any _ _ _ hfn (by omega) (by omega)).mono ?_; rintro e w' ⟨rfl, hw'⟩; replace hw' := hw'.symm; subst hw')
    | (go_at_call 20; refine (HAB.out _ HWA.out).mono ?_; rintro e w2 ⟨v2, A, rfl, hA, hI2, hb2⟩; obtain ⟨ao3, b3, off3, n3, cap3, rfl, hl3, ha3, hc3, hcp3, hm3⟩ := ints_get hI2; have q0 := keeps_below hb2 ⟨w1.heap.size, 0, none⟩ (.slice (some ⟨b, off, none⟩) N cap) (by simp); have HB2 : Hid (Below w1.heap.size w1 w2) := HWA.out.trans (hb2.mono HWA.out.size))
    | (go_at_call 15; refine (HBL.out _ HB2.out).mono ?_; rintro e w3 ⟨g, S, T, VV, LL, rfl, hB, hgw, hb3⟩))
  have HBA : Hid (BlocksAt w3 _ g f S T VV LL) := hB
  have HB3 : Hid (Below w1.heap.size w1 w3) := HB2.out.trans (hb3.mono HB2.out.size)
  have HW3 : Hid (Below w.heap.size w w3) := HB1.out.trans (HB3.out.mono hz1)
  obtain ⟨hAl, hAn⟩ := hA.of HBA.out.ok
  have hkn : S.length ≤ 1000 := by
    have h1 := starts_len OK.out HBA.out.starts
    have h2 := HN.out
    omega
  obtain ⟨hk0, -⟩ := HBA.out.starts.first
  have en3 : n3 = S.length := by omega
  subst en3
  obtain rfl := ha3 (by omega)
  have HC3 : Hid (∀ W, Below w3.heap.size w3 W → ∀ q, q < S.length → W.cell? ⟨b3, off3 + q, none⟩ = some (.int .i64 (A.getD q 0))) := fun W hW q hq => keeps_below hW _ _ (keeps_below hb3 _ _ (hc3 q hq))
  have hCm : ∀ b, b < S.length → Come (pvN f S T) b := fun b hb => HBA.out.ok.come OK.out hb
  have hPl : ∀ b p, p ∈ pvN f S T b → p < S.length := fun b p hp => (HBA.out.ok.pvN_lt OK.out b p hp).1
  have HUP : Hid (∀ i, 1 ≤ i → i < S.length → ∃ a : Nat, A.getD i 0 = (a : Int) ∧ a < S.length ∧ domCt (pvN f S T) a S.length < domCt (pvN f S T) i S.length ∧ ∀ p, pvN f S T i = [p] → a = p) := fun i h1 hi => near_up hCm hPl (hAn i hi) hi h1
  have hA0 : A.getD 0 0 = -1 := NearTo.none (hCm 0 hk0) (hAn 0 hk0)
  have c00 := HC3.out w3 (Below.refl _ _) 0 hk0
  rw [hA0, Nat.add_zero] at c00
  have HDL : Hid (∀ i, domCt (pvN f S T) i S.length ≤ S.length) := fun i => domCt_le _ _ _
  have HPV : Hid (∀ i, 1 ≤ i → i < S.length → ∃ (bp op np cp : Nat), (∀ W, Below w3.heap.size w3 W → W.cell? ⟨g, i * 4 + 3, none⟩ = some (.slice (some ⟨bp, op, none⟩) np cp)) ∧ 0 < np ∧ np ≤ cp ∧ (np = 1 → ∃ p : Nat, pvN f S T i = [p] ∧ ∀ W, Below w3.heap.size w3 W → W.cell? ⟨bp, op, none⟩ = some (.int .i64 (p : Int)))) := fun i h1 hi => by
    have hn := (HBA.out.next i hi).2
    have hpos := HBA.out.ok.prev OK.out hi
    rw [pvN_pvI f S T i (by omega)] at hn hpos
    obtain ⟨x1, x2, x3, x4, x5, e1, e2, e3, e4, e5, -⟩ := ints_get hn
    rw [e3 (by omega)] at e1
    refine ⟨x2, x3, x4, x5, fun W hW => ?_, by omega, e5, fun h => ?_⟩
    · rw [← e1]; exact ((HBA.out.below hW).cells i hi).2.2.2
    · have hlen : (pvN f S T i).length = 1 := by rw [List.length_map] at e2; omega
      obtain ⟨p, hp⟩ := List.length_eq_one_iff.1 hlen
      refine ⟨p, hp, fun W hW => ?_⟩
      have := keeps_below hW _ _ (e4 0 (by omega))
      rw [hp, Nat.add_zero] at this
      exact this
  have hk0I : ((S.length : Int) == 0) = false := beq_eq_false_iff_ne.2 (by omega)
  clear hB hgw hb2 hb3 q0 hI2 hc3 ha3 hA hAl hAn hCm hPl hA0 hl3 t2 d0' d1' d0 d1 d2 HAB HBL
  generalize (pvN f S T) = pv at *
  generalize S.length = K at *
  go_upto_region 8 with fail
  clear c00 hk0I
  go_loopw [11] (fun i wr => ∃ q : Nat, 1 ≤ q ∧ q ≤ K ∧ i = .int .i64 q ∧ Below w3.heap.size w3 wr) (fun i _ => K - (intOf i).toNat)
  case atStart => exact ⟨1, Nat.le_refl _, by omega, rfl, Below.refl _ _⟩
  case round =>
    obtain ⟨i, hi1, hi, rfl, hbo⟩ := hrel
    rename World => wo
    have HBO : Hid (Below w3.heap.size w3 wo) := hbo
    clear hbo
    by_cases hlt : i < K
    · have hiI : (i : Int) < K := by omega
      have hdl := HDL.out i
      go_wp2
      go_loopw [12, 13] (fun a n wr => ∃ (q m : Nat), q < K ∧ a = .int .i64 q ∧ n = .int .i64 m ∧ m + domCt pv q K ≤ domCt pv i K ∧ Below w3.heap.size w3 wr) (fun _ n _ => K + 1 - (intOf n).toNat)
      case atStart => exact ⟨i, 0, hlt, rfl, rfl, by omega, HBO.out⟩
      case round =>
        obtain ⟨q, m, hq, rfl, rfl, hmd, hbi⟩ := hrel
        rename World => wi
        have HBI : Hid (Below w3.heap.size w3 wi) := hbi
        clear hbi
        by_cases hq0 : q = 0
        · subst hq0
          obtain ⟨bp, op, np, cp, cc, hn0, hnc, hone⟩ := HPV.out i hi1 hlt
          have c3 := cc wi HBI.out
          have ca := HC3.out wi HBI.out i hlt
          obtain ⟨a, ea, ha, -, hap⟩ := HUP.out i hi1 hlt
          rw [ea] at ca
          clear ea hmd
          by_cases h1 : np = 1
          · obtain ⟨p, hp, cpp⟩ := hone h1
            have cp0 := cpp wi HBI.out
            have eap := hap p hp
            subst h1 eap
            clear hone hap cpp cc hp hn0
            go_wp2
            go_quiet (fail)
            go_wp2
            go_roundw
            case rel => exact ⟨i + 1, by omega, by omega, by go_num, below_drewN HBI.out _⟩
            case measure => simp [intOf]; omega
          · have h1b : ((np : Int) == 1) = false := beq_eq_false_iff_ne.2 (by omega)
            have h1c : (np == 1) = false := beq_eq_false_iff_ne.2 (by omega)
            clear hone hap cc
            go_wp2
            go_quiet (fail)
            go_wp2
            go_roundw
            case rel => exact ⟨i + 1, by omega, by omega, by go_num, below_drewN HBI.out _⟩
            case measure => simp [intOf]; omega
        · have hqn : ((q : Int) != 0) = true := by simp only [bne_iff_ne, ne_eq]; omega
          have hqI : (q : Int) < K := by omega
          obtain ⟨a, ea, ha, had, -⟩ := HUP.out q (by omega) hq
          have ca := HC3.out wi HBI.out q hq
          rw [ea] at ca
          have hg1 : decide ((K : Int) < (m : Int)) = false := by simp only [decide_eq_false_iff_not]; omega
          have hg1n : decide (K < m) = false := by simp only [decide_eq_false_iff_not]; omega
          have hg2 : decide ((a : Int) < 0) = false := by simp only [decide_eq_false_iff_not]; omega
          have hg3 : decide ((K : Int) ≤ (a : Int)) = false := by simp only [decide_eq_false_iff_not]; omega
          have hg3n : decide (K ≤ a) = false := by simp only [decide_eq_false_iff_not]; omega
          have HMD : Hid (m + 1 + domCt pv a K ≤ domCt pv i K ∧ m + 1 ≤ K) := ⟨by omega, by omega⟩
          have hmK : m ≤ 1000 := by omega
          have hw1 : IntKind.i64.wrap ((m : Int) + 1) = (m : Int) + 1 := wrap_signed _ (by omega) (by omega)
          clear ea had hmd hq0
          go_wp2
          go_roundw
          case rel => exact ⟨a, m + 1, ha, rfl, by go_num, HMD.out.1, HBI.out⟩
          case measure => have := HMD.out.2; simp [intOf]; omega
    · go_wp2
      go_ret
      exact ⟨rfl, HW3.out.trans (HBO.out.mono HW3.out.size)⟩
end Go.Proofs.YtjmafakhibekdaaDoor
