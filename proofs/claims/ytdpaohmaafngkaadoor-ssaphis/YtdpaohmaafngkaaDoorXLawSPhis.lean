/- The walk of tierlinekeep.SsaPhis: at all raw numbers it says true, and nothing that was there has turned. -/
import Derived.Test.YtdpaohmaafngkaaDoorXSsaFact
import Derived.Test.YtdpaohmaafngkaaDoorXRightRaw
namespace Go.Proofs.YtdpaohmaafngkaaDoor
open Go Go.RowKit

theorem infoPhi3p : (Tryd.prog.info? 53).map (·.size) = some 3 := by kernel_rfl
set_option maxHeartbeats 8000000 in
set_option maxRecDepth 100000 in
theorem ssaPhis_walk (l : List Fn) (v : Value) (fn : Int) (w : World) (ht : TabOk w) (hc : CallOk w) (hv : ProgVal w v l) (hwf : ∀ f ∈ l, f.wf) (hfn : I64 fn) :
    Calls Tryd.prog 7 #[v, .int .i64 fn] w fun e w' => e = .returned (.bool true) ∧ Below w.heap.size w w' := by
  have hSh := program_raw l v w ht hc hv hwf
  obtain ⟨aol, nl, capl, rfl⟩ := hv.shape
  have HT : Hid (TabOk w) := ht
  have HCO : Hid (CallOk w) := hc
  clear hv hwf ht hc
  go_enter Tryd.func7, Tryd.ntmps7
  go_upto_region 2 with (go_at_call 9; refine hSh.mono ?_; rintro e w1 ⟨v1, P, us, rfl, hpi, hbt, hb1⟩; have hp1 := hbt.prog; have hcp := progIs_code hpi; obtain ⟨hn1, hn4, -⟩ := codeProg_zero hcp; obtain ⟨k, hk, ek⟩ := pick_some fn P.length hn1; obtain ⟨b, off, cap, u, rfl, d0, d1, d2, hcv, hm, hcc⟩ := prog_fn hp1 hk)
  have hRi := progIs_ans hpi
  have OK : Hid (FlowOk P P[k]) := flowOk_of hRi (List.getElem_mem hk)
  have hl1 := OK.out.ok.len1
  have hl2 := OK.out.ok.len2
  have hfe := fnErr_ok hcp hk
  have hca : codeAt P k = P[k].code := by simp [codeAt, List.getD, hk]
  have HBL : Hid (∀ W, Below w1.heap.size w1 W → Calls Tryd.prog 13 #[.agg #[.slice (some ⟨b, off, none⟩) P.length cap], .int .i64 k] W fun e w' => ∃ g S T VV LL, e = .returned (.tuple #[.slice (some ⟨g, 0, none⟩) S.length S.length, .int .i64 0]) ∧ BlocksAt w' W.heap.size g P[k] S T VV LL ∧ W.heap.size ≤ g ∧ Below W.heap.size W w') := fun W hb => Blocks_right P hRi k hk _ W ((HT.out.below hb1).below hb) ((HCO.out.below hb1).below hb) (hp1.keeps (keeps_below hb))
  have HLI : Hid (∀ W, Below w1.heap.size w1 W → Calls Tryd.prog 15 #[.agg #[.slice (some ⟨b, off, none⟩) P.length cap], .int .i64 k] W fun e w' => ∃ v' L, e = .returned (.tuple #[v', .int .i64 0]) ∧ LiveSpec P P[k] L ∧ IntsVal w' v' L ∧ Below W.heap.size W w') := fun W hb => Live_right P hRi k hk _ W ((HT.out.below hb1).below hb) ((HCO.out.below hb1).below hb) (hp1.keeps (keeps_below hb))
  have HBD : Hid (∀ W, Below w1.heap.size w1 W → Calls Tryd.prog 11 #[.agg #[.slice (some ⟨b, off, none⟩) P.length cap], .int .i64 k] W (BuildPost W P P[k])) := fun W hb => Build_right P hRi k hk _ W ((HT.out.below hb1).below hb) ((HCO.out.below hb1).below hb) (hp1.keeps (keeps_below hb))
  obtain ⟨ao2, b2, off2, n, cap2, rfl, ⟨hlen2, haddr2, hat2⟩, hcap2, hmx2⟩ := hcv
  obtain rfl := haddr2 (by omega)
  have HIN : Hid (∀ W, Below w1.heap.size w1 W → ∀ q, q < n → W.cell? ⟨b2, off2 + q * 5, none⟩ = some (.int .i64 (insD P[k] q).op)) := fun W hW q hq => by
    have hqf : q < P[k].code.length := by rw [hlen2]; exact hq
    rw [insD_eq hqf]
    exact keeps_below hW _ _ (hat2 q hqf).1
  have HB1 : Hid (Below w.heap.size w w1) := hb1
  have hz1 := hb1.size
  have hkI : (k : Int) < P.length := by omega
  have hcc2 := hcap2.1
  have HN : Hid (P[k].code.length = n) := hlen2
  clear hfe hRi hpi hcp hbt hp1 hb1 hSh hca hat2 haddr2 hcap2
  rw [hlen2] at hl1 hl2
  generalize P[k] = f at *
  clear hlen2
  unfold maxLen at hmx2
  have d0' := fun o => cell_alloc d0 o
  have d1' := fun o => cell_alloc d1 o
  have t2 := fun o => cell_alloc d2 o
  generalize hNN : P.length = N at *
  clear hNN
  have HWA : Hid (Below w1.heap.size w1 (w1.alloc (.cells #[.slice (some ⟨b, off, none⟩) N cap] 25))) := (Below.refl _ _).alloc (Nat.le_refl _) _
  obtain ⟨fp, fr, fc⟩ := f
  dsimp only at *
  go_upto_region 6 with (first
    | (go_at_call 12; refine (picked_any _ _ _ hfn (by omega) (by omega)).mono ?_; rintro e w' ⟨rfl, hw'⟩; replace hw' := hw'.symm; subst hw')
    | (go_at_call 11; refine (HBD.out _ HWA.out).mono ?_; rintro e w2 hp; obtain ⟨S, T, L, pn, g0, D, ar, gp, Ly, rfl, hIS, hPA, hb2⟩ := hp; have q0 := keeps_below hb2 ⟨w1.heap.size, 0, none⟩ (.slice (some ⟨b, off, none⟩) N cap) (by simp); have q2 := keeps_below hb2 _ _ (t2 _); have q0' := fun o => cell_alloc q0 o; have q2' := fun o => cell_alloc q2 o; have HB2 : Hid (Below w1.heap.size w1 w2) := HWA.out.trans (hb2.mono HWA.out.size); have HIS : Hid (SsaIs P ⟨fp, fr, fc⟩ S T L pn g0 D) := hIS; have HPA : Hid (PartsAt w2 _ gp S.length (finD pn S.length g0 D ar) Ly) := hPA; clear hIS hPA hb2)
    | (go_at_call 13; refine (HBL.out _ (HB2.out.alloc HB2.out.size _)).mono ?_; rintro e w3 ⟨g, S', T', VV, LL, rfl, hB, hgw, hb3⟩; obtain ⟨hSS, hTT⟩ := HIS.out.ok.same hB.ok; subst hSS; have p0 := keeps_below hb3 _ _ (cell_alloc q0 _); have p2 := keeps_below hb3 _ _ (cell_alloc q2 _); have s2 := keeps_below hb3 ⟨w2.heap.size, 2, none⟩ (.slice (some ⟨gp, 0, none⟩) S.length S.length) (by simp); have HBA : Hid (BlocksAt w3 _ g ⟨fp, fr, fc⟩ S T' VV LL) := hB; have HTT : Hid (∀ i, i < S.length → T i = T' i) := hTT; have HB3 : Hid (Below w2.heap.size w2 w3) := ((Below.refl _ _).alloc (Nat.le_refl _) _).trans (hb3.mono (by simp)); clear hB hTT hb3)
    | (go_at_call 15; refine (HLI.out _ (HB2.out.trans (HB3.out.mono HB2.out.size))).mono ?_; rintro e w4 ⟨v4, L', rfl, hL, hI4, hb4⟩; have hLL := spec_unique HIS.out.live hL; subst hLL; obtain ⟨ao3, b3, off3, n3, cap3, rfl, hl3, ha3, hc3, hcp3, hm3⟩ := ints_get hI4; rw [hL.1, HN.out] at hl3; subst hl3; obtain rfl := ha3 (by omega); have r0 := keeps_below hb4 _ _ p0; have r2 := keeps_below hb4 _ _ p2; have u2 := keeps_below hb4 _ _ s2))

  obtain ⟨hk0, -⟩ := HBA.out.starts.first
  have hk0I : ((S.length : Int) == 0) = false := beq_eq_false_iff_ne.2 (by omega)
  have hkn : S.length ≤ 40 := blocks40 OK.out HIS.out.ok
  have HB4 : Hid (Below w.heap.size w w4) := HB1.out.trans ((HB2.out.trans ((HB3.out.trans (hb4.mono HB3.out.size)).mono HB2.out.size)).mono hz1)
  have HPF := HIS.out.phs OK.out (HPA.out.below (HB3.out.trans (hb4.mono HB3.out.size)))
  have HPF : Hid (∀ i, i < S.length → ∃ (ao : Option Addr) (q c np : Nat), np ≤ 12 ∧ np ≤ c ∧ (0 < np → ao = some ⟨q, 0, none⟩ ∧ 1 < (prevs ⟨fp, fr, fc⟩ S T i).length) ∧ (∀ W, Below w4.heap.size w4 W → W.cell? ⟨gp, i * 15 + 1, none⟩ = some (.slice ao np c)) ∧
      ∀ j, j < np → ∃ (r : Nat) (id : Int) (aA : Option Addr) (nA cA : Nat), r < 12 ∧ (mkL L (S.getD i 0)).testBit r = true ∧ ∀ W, Below w4.heap.size w4 W → W.rangeAt q (j * 3) [.int .i64 (r : Int), .int .i64 id, .slice aA nA cA] ∧ W.cell? ⟨gp, i * 15 + 3 + r, none⟩ = some (.int .i64 id)) := HPF
  have HBF : Hid (∀ i, i < S.length → ∃ (ap : Option Addr) (nv cp st m : Nat), nv = (prevs ⟨fp, fr, fc⟩ S T i).length ∧ nv ≤ 1000 ∧ st < n ∧ m < 4096 ∧ m = mkL L (S.getD i 0) ∧ ∀ W, Below w4.heap.size w4 W → W.cell? ⟨g, i * 4, none⟩ = some (.int .i64 (st : Int)) ∧ W.cell? ⟨g, i * 4 + 3, none⟩ = some (.slice ap nv cp) ∧ W.cell? ⟨b3, off3 + st, none⟩ = some (.int .i64 (m : Int))) := fun i hi => by
    have h := HBA.out.below hb4
    obtain ⟨c0, -, -, c3⟩ := h.cells i hi
    obtain ⟨ap, -, -, nv, cp, e, hl, -⟩ := ints_get (h.next i hi).2
    rw [prevs_congr HTT.out i] at hl
    rw [e] at c3
    have hE := HIS.out.ok.ends i hi
    have hn : (⟨fp, fr, fc⟩ : Fn).code.length = n := HN.out
    have hst : S[i] < n := by have h1 := hE.lt; have h2 := hE.le; rw [hn] at h2; omega
    have hrc := HIS.out.ok.starts.reach OK.out (List.getElem_mem hi)
    have eS : S.getD i 0 = S[i] := by simp [List.getD, hi]
    rcases hL.2 S[i] hrc.2 with ⟨h2, -⟩ | ⟨-, m, hm, e2, -⟩
    · exact absurd hrc.1 h2
    · have c4 := hc3 S[i] hst
      rw [e2] at c4
      refine ⟨ap, nv, cp, S[i], m, hl.symm, ?_, hst, hm, ?_, fun W hW => ⟨keeps_below hW _ _ c0, keeps_below hW _ _ c3, keeps_below hW _ _ c4⟩⟩
      · have := prevs_len (f := ⟨fp, fr, fc⟩) (T := T) (b := i) hkn
        omega
      · rw [eS]; unfold mkL; rw [e2]; rfl
  have HU2 : Hid (∀ W, Below w4.heap.size w4 W → W.cell? ⟨w2.heap.size, 2, none⟩ = some (.slice (some ⟨gp, 0, none⟩) S.length S.length)) := fun W hW => keeps_below hW _ _ u2
  go_upto_region 8 with fail
  clear hL hI4 hb4 hc3 r0 r2 p0 p2 s2 q0 q2 q0' q2' d0 d1 d2 d0' d1' t2 HBL HLI HBD hk0I hgw ha3 HPA HBA HTT
  generalize S.length = K at *
  go_upto_region 9 with fail
  clear u2
  go_loopw [13] (fun i wr => ∃ q : Nat, q ≤ K ∧ i = .int .i64 q ∧ Below w4.heap.size w4 wr) (fun i _ => K - (intOf i).toNat)
  case atStart => exact ⟨0, Nat.zero_le _, rfl, Below.refl _ _⟩
  case round =>
    obtain ⟨i, hi, rfl, hbo⟩ := hrel
    rename World => wo
    have HBO : Hid (Below w4.heap.size w4 wo) := hbo
    have u2 := HU2.out wo hbo
    clear hbo
    by_cases hlt : i < K
    · have hiI : (i : Int) < K := by omega
      obtain ⟨ao, q, c, np, hnp, hnc, hao, hcp, hj⟩ := HPF.out i hlt
      obtain ⟨ap, nv, cp, st, m, hnv, hnv2, hst, hm, hmk, hcb⟩ := HBF.out i hlt
      rw [← hnv] at hao
      rw [← hmk] at hj
      have HCP : Hid (∀ W, Below w4.heap.size w4 W → W.cell? ⟨gp, i * 15 + 1, none⟩ = some (.slice ao np c)) := hcp
      have HAO : Hid (0 < np → ao = some ⟨q, 0, none⟩ ∧ 1 < nv) := hao
      have HJ : Hid (∀ j, j < np → ∃ (r : Nat) (id : Int) (aA : Option Addr) (nA cA : Nat), r < 12 ∧ m.testBit r = true ∧ ∀ W, Below w4.heap.size w4 W → W.rangeAt q (j * 3) [.int .i64 (r : Int), .int .i64 id, .slice aA nA cA] ∧ W.cell? ⟨gp, i * 15 + 3 + r, none⟩ = some (.int .i64 id)) := hj
      have HCB : Hid (∀ W, Below w4.heap.size w4 W → W.cell? ⟨g, i * 4, none⟩ = some (.int .i64 (st : Int)) ∧ W.cell? ⟨g, i * 4 + 3, none⟩ = some (.slice ap nv cp) ∧ W.cell? ⟨b3, off3 + st, none⟩ = some (.int .i64 (m : Int))) := hcb
      have c1 := hcp wo HBO.out
      obtain ⟨-, c3, -⟩ := hcb wo HBO.out
      clear hao hcp hj hcb hmk hnv
      have hcond : (decide (0 < (np : Int)) = false ∧ decide (0 < np) = false) ∨ (decide (0 < (np : Int)) = true ∧ decide (0 < np) = true ∧ decide ((nv : Int) < 2) = false) := by
        rcases Nat.eq_zero_or_pos np with h | h
        · left; constructor <;> (simp only [decide_eq_false_iff_not]; omega)
        · right
          have := (HAO.out h).2
          refine ⟨by simp only [decide_eq_true_eq]; omega, by simp only [decide_eq_true_eq]; omega, by simp only [decide_eq_false_iff_not]; omega⟩
      rcases hcond with ⟨hc0, hc1⟩ | ⟨hc0, hc1, hc2⟩
      · go_wp2
        go_loopw [14] (fun j wr => ∃ z : Nat, z ≤ np ∧ j = .int .i64 z ∧ Below w4.heap.size w4 wr) (fun j _ => np - (intOf j).toNat)
        case atStart => exact ⟨0, Nat.zero_le _, rfl, HBO.out⟩
        case round =>
          obtain ⟨j, hj, rfl, hbi⟩ := hrel
          rename World => wi
          have HBI : Hid (Below w4.heap.size w4 wi) := hbi
          have u2 := HU2.out wi hbi
          have c1 := HCP.out wi hbi
          clear hbi
          by_cases hlj : j < np
          · exfalso; have := of_decide_eq_false hc1; omega
          · go_wp2
            go_roundw
            case rel => exact ⟨i + 1, by omega, by go_num, HBI.out⟩
            case measure => simp [intOf]; omega
      · go_wp2
        go_loopw [14] (fun j wr => ∃ z : Nat, z ≤ np ∧ j = .int .i64 z ∧ Below w4.heap.size w4 wr) (fun j _ => np - (intOf j).toNat)
        case atStart => exact ⟨0, Nat.zero_le _, rfl, HBO.out⟩
        case round =>
          obtain ⟨j, hj, rfl, hbi⟩ := hrel
          rename World => wi
          have HBI : Hid (Below w4.heap.size w4 wi) := hbi
          have u2 := HU2.out wi hbi
          have c1 := HCP.out wi hbi
          clear hbi
          by_cases hlj : j < np
          · have hjI : (j : Int) < np := by omega
            obtain ⟨r, id, aA, nA, cA, hr, hbit, hw⟩ := HJ.out j hlj
            obtain ⟨eao, -⟩ := HAO.out (by omega)
            subst eao
            have hrk := (hw wi HBI.out).1
            have HW : Hid (∀ W, Below w4.heap.size w4 W → W.cell? ⟨gp, i * 15 + 3 + r, none⟩ = some (.int .i64 id)) := fun W hW => (hw W hW).2
            have hbd : bits .and .i64 ((m : Int) / 2 ^ r) 1 = 1 := by rw [bit_downS m r hm, if_pos hbit]
            clear hw hbit
            go_upto_region 17 with (refine wpList_load_mid rfl 53 _ rfl q (j * 3) rfl _ _ hrk Tryd.underlying53 rfl infoPhi3p ?_)
            have HBA : Hid (Below w4.heap.size w4 (wi.alloc (.cells #[.int .i64 (r : Int), .int .i64 id, .slice aA nA cA] 53))) := HBI.out.alloc HBI.out.size _
            have r15 : (wi.alloc (.cells #[.int .i64 (r : Int), .int .i64 id, .slice aA nA cA] 53)).heap[wi.heap.size]? = some (.cells #[.int .i64 (r : Int), .int .i64 id, .slice aA nA cA] 53 (0, 0)) := heap_alloc_last wi _
            clear c1 u2 hrk
            generalize (wi.alloc (.cells #[.int .i64 (r : Int), .int .i64 id, .slice aA nA cA] 53)) = V at *
            have x0 : V.cell? ⟨wi.heap.size, 0, none⟩ = some (.int .i64 (r : Int)) := by rw [cell_of_row _ _ _ _ _ _ r15]; rfl
            have x1 : V.cell? ⟨wi.heap.size, 1, none⟩ = some (.int .i64 id) := by rw [cell_of_row _ _ _ _ _ _ r15]; rfl
            have u2 := HU2.out V HBA.out
            have hW := HW.out V HBA.out
            obtain ⟨e0, -, e4⟩ := HCB.out V HBA.out
            have hrI : (r : Int) < 12 := by omega
            have hrn : ¬ (r : Int) < 0 := by omega
            have hr64 : (r : Int) < 64 := by omega
            have hstI : (st : Int) < n := by omega
            clear r15
            go_quiet (fail)
            go_wp2
            go_roundw
            case rel => exact ⟨j + 1, by omega, by go_num, below_drewN HBA.out _⟩
            case measure => simp [intOf]; omega
          · go_wp2
            go_roundw
            case rel => exact ⟨i + 1, by omega, by go_num, HBI.out⟩
            case measure => simp [intOf]; omega
    · go_wp2
      go_ret
      exact ⟨rfl, HB4.out.trans (HBO.out.mono HB4.out.size)⟩
end Go.Proofs.YtdpaohmaafngkaaDoor
