/- The walk of tierlinekeep.SsaIn: at all raw numbers it says true, and nothing that was there has turned. -/
import Derived.Test.YtdpaohmaafngkaaDoorXSsaSame
import Derived.Test.YtdpaohmaafngkaaDoorXRightRaw
namespace Go.Proofs.YtdpaohmaafngkaaDoor
open Go Go.RowKit

set_option maxHeartbeats 8000000 in
set_option maxRecDepth 100000 in
theorem ssaIn_walk (l : List Fn) (v : Value) (fn : Int) (w : World) (ht : TabOk w) (hc : CallOk w) (hv : ProgVal w v l) (hwf : ∀ f ∈ l, f.wf) (hfn : I64 fn) :
    Calls Tryd.prog 6 #[v, .int .i64 fn] w fun e w' => e = .returned (.bool true) ∧ Below w.heap.size w w' := by
  have hSh := program_raw l v w ht hc hv hwf
  obtain ⟨aol, nl, capl, rfl⟩ := hv.shape
  have HT : Hid (TabOk w) := ht
  have HCO : Hid (CallOk w) := hc
  clear hv hwf ht hc
  go_enter Tryd.func6, Tryd.ntmps6
  go_upto_region 2 with (go_at_call 9; refine hSh.mono ?_; rintro e w1 ⟨v1, P, us, rfl, hpi, hbt, hb1⟩; have hp1 := hbt.prog; have hcp := progIs_code hpi; obtain ⟨hn1, hn4, -⟩ := codeProg_zero hcp; obtain ⟨k, hk, ek⟩ := pick_some fn P.length hn1; obtain ⟨b, off, cap, u, rfl, d0, d1, d2, hcv, hm, hcc⟩ := prog_fn hp1 hk)
  have hRi := progIs_ans hpi
  have OK : Hid (FlowOk P P[k]) := flowOk_of hRi (List.getElem_mem hk)
  have hl1 := OK.out.ok.len1
  have hl2 := OK.out.ok.len2
  have hfe := fnErr_ok hcp hk
  have hca : codeAt P k = P[k].code := by simp [codeAt, List.getD, hk]
  have HBL : Hid (∀ W, Below w1.heap.size w1 W → Calls Tryd.prog 13 #[.agg #[.slice (some ⟨b, off, none⟩) P.length cap], .int .i64 k] W fun e w' => ∃ g S T VV LL, e = .returned (.tuple #[.slice (some ⟨g, 0, none⟩) S.length S.length, .int .i64 0]) ∧ BlocksAt w' W.heap.size g P[k] S T VV LL ∧ W.heap.size ≤ g ∧ Below W.heap.size W w') := fun W hb => Blocks_right P hRi k hk _ W ((HT.out.below hb1).below hb) ((HCO.out.below hb1).below hb) (hp1.keeps (keeps_below hb))
  have HLI : Hid (∀ W, Below w1.heap.size w1 W → Calls Tryd.prog 15 #[.agg #[.slice (some ⟨b, off, none⟩) P.length cap], .int .i64 k] W fun e w' => ∃ v' L, e = .returned (.tuple #[v', .int .i64 0]) ∧ LiveSpec P P[k] L ∧ IntsVal w' v' L ∧ Below W.heap.size W w') := fun W hb => Live_right P hRi k hk _ W ((HT.out.below hb1).below hb) ((HCO.out.below hb1).below hb) (hp1.keeps (keeps_below hb))
  have HBD : Hid (∀ W, Below w1.heap.size w1 W → Calls Tryd.prog 11 #[.agg #[.slice (some ⟨b, off, none⟩) P.length cap], .int .i64 k] W (BuildPost W P P[k])) := fun W hb => Build_right P hRi k hk _ W ((HT.out.below hb1).below hb) ((HCO.out.below hb1).below hb) (hp1.keeps (keeps_below hb))
  have HAT : Hid (∀ pc (hpc : pc < P[k].code.length), Way P[k] 63 pc → ∀ W, Below w1.heap.size w1 W → Calls Tryd.prog 16 #[.agg #[.slice (some ⟨b, off, none⟩) P.length cap], .int .i64 k, .int .i64 pc] W (AtPost W P P[k] pc)) := fun pc hpc hw W hb => At_right P hRi k hk pc hpc hw _ W ((HT.out.below hb1).below hb) ((HCO.out.below hb1).below hb) (hp1.keeps (keeps_below hb))
  have HUR : Hid (∀ q, q < P[k].code.length → Way P[k] 63 q → ∀ r, r < 12 → (rdMask P (insD P[k] q)).testBit r = true → ¬ Way P[k] r q) := right_reads hRi (List.getElem_mem hk)
  obtain ⟨ao2, b2, off2, n, cap2, rfl, ⟨hlen2, haddr2, hat2⟩, hcap2, hmx2⟩ := hcv
  obtain rfl := haddr2 (by omega)
  have HIN : Hid (∀ W, Below w1.heap.size w1 W → ∀ q, q < n → W.cell? ⟨b2, off2 + q * 5, none⟩ = some (.int .i64 (insD P[k] q).op)) := fun W hW q hq => by
    have hqf : q < P[k].code.length := by rw [hlen2]; exact hq
    rw [insD_eq hqf]
    exact keeps_below hW _ _ (hat2 q hqf).1
  have HB1 : Hid (Below w.heap.size w w1) := hb1
  have hz1 := hb1.size
  have hkI : (k : Int) < P.length := by omega
  have hcc2 := hcap2.1
  have HN : Hid (P[k].code.length = n) := hlen2
  clear hfe hRi hpi hcp hbt hp1 hb1 hSh hca hat2 haddr2 hcap2
  rw [hlen2] at hl1 hl2
  generalize P[k] = f at *
  clear hlen2
  unfold maxLen at hmx2
  have d0' := fun o => cell_alloc d0 o
  have d1' := fun o => cell_alloc d1 o
  have t2 := fun o => cell_alloc d2 o
  generalize hNN : P.length = N at *
  clear hNN
  have HWA : Hid (Below w1.heap.size w1 (w1.alloc (.cells #[.slice (some ⟨b, off, none⟩) N cap] 25))) := (Below.refl _ _).alloc (Nat.le_refl _) _
  obtain ⟨fp, fr, fc⟩ := f
  dsimp only at *
  go_upto_region 6 with (first
    | (go_at_call 12; refine (picked_any _ _ _ hfn (by omega) (by omega)).mono ?_; rintro e w' ⟨rfl, hw'⟩; replace hw' := hw'.symm; subst hw')
    | (go_at_call 11; refine (HBD.out _ HWA.out).mono ?_; rintro e w2 hp; obtain ⟨S, T, L, pn, g0, D, ar, gp, Ly, rfl, hIS, hPA, hb2⟩ := hp; have q0 := keeps_below hb2 ⟨w1.heap.size, 0, none⟩ (.slice (some ⟨b, off, none⟩) N cap) (by simp); have q2 := keeps_below hb2 _ _ (t2 _); have q0' := fun o => cell_alloc q0 o; have q2' := fun o => cell_alloc q2 o; have HB2 : Hid (Below w1.heap.size w1 w2) := HWA.out.trans (hb2.mono HWA.out.size); have HIS : Hid (SsaIs P ⟨fp, fr, fc⟩ S T L pn g0 D) := hIS; have HPA : Hid (PartsAt w2 _ gp S.length (finD pn S.length g0 D ar) Ly) := hPA; clear hIS hPA hb2)
    | (go_at_call 13; refine (HBL.out _ (HB2.out.alloc HB2.out.size _)).mono ?_; rintro e w3 ⟨g, S', T', VV, LL, rfl, hB, hgw, hb3⟩; obtain ⟨hSS, hTT⟩ := HIS.out.ok.same hB.ok; subst hSS; have p0 := keeps_below hb3 _ _ (cell_alloc q0 _); have p2 := keeps_below hb3 _ _ (cell_alloc q2 _); have s2 := keeps_below hb3 ⟨w2.heap.size, 2, none⟩ (.slice (some ⟨gp, 0, none⟩) S.length S.length) (by simp); have HBA : Hid (BlocksAt w3 _ g ⟨fp, fr, fc⟩ S T' VV LL) := hB; have HTT : Hid (∀ i, i < S.length → T i = T' i) := hTT; have HB3 : Hid (Below w2.heap.size w2 w3) := ((Below.refl _ _).alloc (Nat.le_refl _) _).trans (hb3.mono (by simp)); clear hB hTT hb3)
    | (go_at_call 15; refine (HLI.out _ (HB2.out.trans (HB3.out.mono HB2.out.size))).mono ?_; rintro e w4 ⟨v4, L', rfl, hL, hI4, hb4⟩; have hLL := spec_unique HIS.out.live hL; subst hLL; obtain ⟨ao3, b3, off3, n3, cap3, rfl, hl3, ha3, hc3, hcp3, hm3⟩ := ints_get hI4; rw [hL.1, HN.out] at hl3; subst hl3; obtain rfl := ha3 (by omega); have r0 := keeps_below hb4 _ _ p0; have r2 := keeps_below hb4 _ _ p2; have u2 := keeps_below hb4 _ _ s2))

  obtain ⟨hk0, -⟩ := HBA.out.starts.first
  have hk0I : ((S.length : Int) == 0) = false := beq_eq_false_iff_ne.2 (by omega)
  have hkn : S.length ≤ 40 := blocks40 OK.out HIS.out.ok
  have HB4 : Hid (Below w.heap.size w w4) := HB1.out.trans ((HB2.out.trans ((HB3.out.trans (hb4.mono HB3.out.size)).mono HB2.out.size)).mono hz1)
  have HU2 : Hid (∀ W, Below w4.heap.size w4 W → W.cell? ⟨w2.heap.size, 2, none⟩ = some (.slice (some ⟨gp, 0, none⟩) S.length S.length)) := fun W hW => keeps_below hW _ _ u2
  have HP4 : Hid (∀ W, Below w4.heap.size w4 W → W.cell? ⟨w1.heap.size, 0, none⟩ = some (.slice (some ⟨b, off, none⟩) N cap)) := fun W hW => keeps_below hW _ _ r0
  have HB14 : Hid (Below w1.heap.size w1 w4) := HB2.out.trans ((HB3.out.trans (hb4.mono HB3.out.size)).mono HB2.out.size)
  have HPA4 : Hid (PartsAt w4 _ gp S.length (finD pn S.length g0 D ar) Ly) := HPA.out.below (HB3.out.trans (hb4.mono HB3.out.size))
  have HIF : Hid (∀ i, i < S.length → ∃ (st m : Nat) (R : List Int), st < n ∧ m < 4096 ∧ (∀ r, r < 12 → (0 ≤ R.getD r 0 ↔ m.testBit r = true)) ∧ (∀ W, Below w4.heap.size w4 W → W.cell? ⟨g, i * 4, none⟩ = some (.int .i64 (st : Int)) ∧ W.cell? ⟨b3, off3 + st, none⟩ = some (.int .i64 (m : Int)) ∧ ∀ r, r < 12 → W.cell? ⟨gp, i * 15 + 3 + r, none⟩ = some (.int .i64 (R.getD r 0))) ∧ ∀ W, Below w4.heap.size w4 W → Calls Tryd.prog 16 #[.agg #[.slice (some ⟨b, off, none⟩) N cap], .int .i64 k, .int .i64 (st : Int)] W fun e w' => ∃ q, e = .returned (.tuple #[.slice (some ⟨q, 0, none⟩) 12 12, .int .i64 0]) ∧ (∀ r, r < 12 → w'.cell? ⟨q, r, none⟩ = some (.int .i64 (R.getD r 0))) ∧ Below W.heap.size W w') := fun i hi => by
    have h := HBA.out.below hb4
    obtain ⟨c0, -, -, -⟩ := h.cells i hi
    have hE := HIS.out.ok.ends i hi
    have hn : (⟨fp, fr, fc⟩ : Fn).code.length = n := HN.out
    have hst : S[i] < n := by have h1 := hE.lt; have h2 := hE.le; rw [hn] at h2; omega
    have hrc := HIS.out.ok.starts.reach OK.out (List.getElem_mem hi)
    obtain ⟨hin, hrg, hlen, hbit⟩ := HIS.out.inAt OK.out HUR.out ar hi
    rcases hL.2 S[i] hrc.2 with ⟨h2, -⟩ | ⟨-, m, hm, e2, -⟩
    · exact absurd hrc.1 h2
    · have c4 := hc3 S[i] hst
      rw [e2] at c4
      have hmk : mkL L S[i] = m := by unfold mkL; rw [e2]; rfl
      rw [hmk] at hbit
      refine ⟨S[i], m, (finD pn S.length g0 D ar).rg i, hst, hm, hbit, fun W hW => ⟨keeps_below hW _ _ c0, keeps_below hW _ _ c4, fun r hr => (HPA4.out.below hW).cellR hi hr⟩, fun W hW => ?_⟩
      refine (HAT.out S[i] hrc.2 hrc.1 W (HB14.out.trans (hW.mono HB14.out.size))).mono ?_
      rintro e w' hp
      obtain ⟨S2, T2, L2, pn2, g2, D2, b2', q, rfl, hIS2, hin2, hrow, -, hb'⟩ := hp
      obtain ⟨-, e3⟩ := HIS.out.atSame OK.out hIS2 hin hin2
      rw [e3, hrg] at hrow
      refine ⟨q, rfl, fun r hr => ?_, hb'⟩
      rw [cell_of_row _ _ _ _ _ _ hrow]
      simp [i64s, List.getD, show r < ((finD pn S.length g0 D ar).rg i).length by omega]
  go_upto_region 8 with fail
  clear hL hI4 hb4 hc3 r0 r2 p0 p2 s2 q0 q2 q0' q2' d0 d1 d2 d0' d1' t2 HBL HLI HBD HAT hk0I hgw ha3 HPA HPA4 HBA HTT
  generalize S.length = K at *
  go_upto_region 9 with fail
  clear u2
  go_loopw [13] (fun i wr => ∃ q : Nat, q ≤ K ∧ i = .int .i64 q ∧ Below w4.heap.size w4 wr) (fun i _ => K - (intOf i).toNat)
  case atStart => exact ⟨0, Nat.zero_le _, rfl, Below.refl _ _⟩
  case round =>
    obtain ⟨i, hi, rfl, hbo⟩ := hrel
    rename World => wo
    have HBO : Hid (Below w4.heap.size w4 wo) := hbo
    clear hbo
    by_cases hlt : i < K
    · have hiI : (i : Int) < K := by omega
      obtain ⟨st, m, R, hst, hm, hbit, hcs, hat⟩ := HIF.out i hlt
      have HBT : Hid (∀ r, r < 12 → (0 ≤ R.getD r 0 ↔ m.testBit r = true)) := hbit
      have HCS : Hid (∀ W, Below w4.heap.size w4 W → W.cell? ⟨g, i * 4, none⟩ = some (.int .i64 (st : Int)) ∧ W.cell? ⟨b3, off3 + st, none⟩ = some (.int .i64 (m : Int)) ∧ ∀ r, r < 12 → W.cell? ⟨gp, i * 15 + 3 + r, none⟩ = some (.int .i64 (R.getD r 0))) := hcs
      have HAC : Hid (∀ W, Below w4.heap.size w4 W → Calls Tryd.prog 16 #[.agg #[.slice (some ⟨b, off, none⟩) N cap], .int .i64 k, .int .i64 (st : Int)] W fun e w' => ∃ q, e = .returned (.tuple #[.slice (some ⟨q, 0, none⟩) 12 12, .int .i64 0]) ∧ (∀ r, r < 12 → w'.cell? ⟨q, r, none⟩ = some (.int .i64 (R.getD r 0))) ∧ Below W.heap.size W w') := hat
      have kp := HP4.out wo HBO.out
      obtain ⟨e0, -, -⟩ := HCS.out wo HBO.out
      clear hbit hcs hat
      go_upto_region 11 with fail
      refine wp_region_held_drew (S := fun W => Below wo.heap.size wo W) (by kernel_rfl) ((Below.refl _ _).drew) (fun hHeld => ?_)
      show wpAnyH _ _ _ _ _ 13 _ _ _
      refine wpAnyH_take (i := 0) (v := ?_) rfl (by kernel_rfl) (by kernel_rfl) (by kernel_rfl) (fun _ _ _ h => h) (Or.inl ⟨by rfl, ?_⟩) (by assumption) ?_
      rotate_left
      · (intro W hSW; have zz := keeps_below hSW _ _ kp; go_simp; try (with_reducible rfl))
      (try simp only [List.getElem_toArray, List.getElem_cons_zero])
      (try simp only [Act.put, List.setIfInBounds_toArray, List.set_cons_zero, List.set_cons_succ])
      refine wpAnyH_take (i := 1) (v := ?_) rfl (by kernel_rfl) (by kernel_rfl) (by kernel_rfl) (fun _ _ _ h => h) (Or.inl ⟨by rfl, ?_⟩) (by assumption) ?_
      rotate_left
      · (intro W hSW; go_simp; try (with_reducible rfl))
      (try simp only [List.getElem_toArray, List.getElem_cons_succ, List.getElem_cons_zero])
      (try simp only [Act.put, List.setIfInBounds_toArray, List.set_cons_zero, List.set_cons_succ])
      refine wpAnyH_take (i := 2) (v := ?_) rfl (by kernel_rfl) (by kernel_rfl) (by kernel_rfl) (fun _ _ _ h => h) (Or.inl ⟨by rfl, ?_⟩) (by assumption) ?_
      rotate_left
      · (intro W hSW; go_simp; try (with_reducible rfl))
      (try simp only [List.getElem_toArray, List.getElem_cons_succ, List.getElem_cons_zero])
      (try simp only [Act.put, List.setIfInBounds_toArray, List.set_cons_zero, List.set_cons_succ])
      refine wpAnyH_take (i := 3) (v := ?_) rfl (by kernel_rfl) (by kernel_rfl) (by kernel_rfl) (fun _ _ _ h => h) (Or.inl ⟨by rfl, ?_⟩) (by assumption) ?_
      rotate_left
      · (intro W hSW; go_simp; try (with_reducible rfl))
      (try simp only [List.getElem_toArray, List.getElem_cons_succ, List.getElem_cons_zero])
      (try simp only [Act.put, List.setIfInBounds_toArray, List.set_cons_zero, List.set_cons_succ])
      refine wpAnyH_take (i := 4) (v := ?_) rfl (by kernel_rfl) (by kernel_rfl) (by kernel_rfl) (fun _ _ _ h => h) (Or.inl ⟨by rfl, ?_⟩) (by assumption) ?_
      rotate_left
      · (intro W hSW; go_simp; try (with_reducible rfl))
      (try simp only [List.getElem_toArray, List.getElem_cons_succ, List.getElem_cons_zero])
      (try simp only [Act.put, List.setIfInBounds_toArray, List.set_cons_zero, List.set_cons_succ])
      refine wpAnyH_take (i := 5) (v := ?_) rfl (by kernel_rfl) (by kernel_rfl) (by kernel_rfl) (fun _ _ _ h => h) (Or.inl ⟨by rfl, ?_⟩) (by assumption) ?_
      rotate_left
      · (intro W hSW; go_simp; try (with_reducible rfl))
      (try simp only [List.getElem_toArray, List.getElem_cons_succ, List.getElem_cons_zero])
      (try simp only [Act.put, List.setIfInBounds_toArray, List.set_cons_zero, List.set_cons_succ])
      refine wpAnyH_take (i := 6) (v := ?_) rfl (by kernel_rfl) (by kernel_rfl) (by kernel_rfl) (fun _ _ _ h => h) (Or.inl ⟨by rfl, ?_⟩) (by assumption) ?_
      rotate_left
      · (intro W hSW; have zz := keeps_below hSW _ _ e0; go_simp; try (with_reducible rfl))
      (try simp only [List.getElem_toArray, List.getElem_cons_succ, List.getElem_cons_zero])
      (try simp only [Act.put, List.setIfInBounds_toArray, List.set_cons_zero, List.set_cons_succ])
      refine wpAnyH_ready (rs := [7]) (by kernel_rfl) (by simp) ?_
      refine AllReadyH.cons rfl (fun K hK => ?_) AllReadyH.nil
      go_simp
      go_at_call 16
      refine (HAC.out _ (HBO.out.trans (Below.mono hHeld HBO.out.size))).mono ?_
      rintro e w5 ⟨qa, rfl, hac, hbc⟩
      have HBW5 : Below wo.heap.size wo w5 := Below.trans hHeld (Below.mono hbc (Below.size hHeld))
      dsimp only
      refine hK.out _ _ HBW5 (fun _ => ?_)
      clear hK K hbc hHeld
      have hHeld := HBW5
      (try simp only [Act.put, List.setIfInBounds_toArray, List.set_cons_zero, List.set_cons_succ])
      refine wpAnyH_take (i := 8) (v := ?_) rfl (by kernel_rfl) (by kernel_rfl) (by kernel_rfl) (fun _ _ _ h => h) (Or.inl ⟨by rfl, ?_⟩) (by assumption) ?_
      rotate_left
      · (intro W hSW; go_simp; try (with_reducible rfl))
      (try simp only [List.getElem_toArray, List.getElem_cons_succ, List.getElem_cons_zero])
      (try simp only [Act.put, List.setIfInBounds_toArray, List.set_cons_zero, List.set_cons_succ])
      refine wpAnyH_take (i := 9) (v := ?_) rfl (by kernel_rfl) (by kernel_rfl) (by kernel_rfl) (fun _ _ _ h => h) (Or.inl ⟨by rfl, ?_⟩) (by assumption) ?_
      rotate_left
      · (intro W hSW; go_simp; try (with_reducible rfl))
      (try simp only [List.getElem_toArray, List.getElem_cons_succ, List.getElem_cons_zero])
      (try simp only [Act.put, List.setIfInBounds_toArray, List.set_cons_zero, List.set_cons_succ])
      refine wpAnyH_take (i := 10) (v := ?_) rfl (by kernel_rfl) (by kernel_rfl) (by kernel_rfl) (fun _ _ _ h => h) (Or.inl ⟨by rfl, ?_⟩) (by assumption) ?_
      rotate_left
      · (intro W hSW; go_simp; try (with_reducible rfl))
      (try simp only [List.getElem_toArray, List.getElem_cons_succ, List.getElem_cons_zero])
      (try simp only [Act.put, List.setIfInBounds_toArray, List.set_cons_zero, List.set_cons_succ])
      refine wpAnyH_take (i := 11) (v := ?_) rfl (by kernel_rfl) (by kernel_rfl) (by kernel_rfl) (fun _ _ _ h => h) (Or.inl ⟨by rfl, ?_⟩) (by assumption) ?_
      rotate_left
      · (intro W hSW; go_simp; try (with_reducible rfl))
      (try simp only [List.getElem_toArray, List.getElem_cons_succ, List.getElem_cons_zero])
      (try simp only [Act.put, List.setIfInBounds_toArray, List.set_cons_zero, List.set_cons_succ])
      refine wpAnyH_take (i := 12) (v := ?_) rfl (by kernel_rfl) (by kernel_rfl) (by kernel_rfl) (fun _ _ _ h => h) (Or.inl ⟨by rfl, ?_⟩) (by assumption) ?_
      rotate_left
      · (intro W hSW; go_simp; try (with_reducible rfl))
      (try simp only [List.getElem_toArray, List.getElem_cons_succ, List.getElem_cons_zero])
      (try simp only [Act.put, List.setIfInBounds_toArray, List.set_cons_zero, List.set_cons_succ])
      refine wpAnyH_done (by kernel_rfl) ?_ _
      have HB5 : Hid (Below w4.heap.size w4 w5) := HBO.out.trans (hHeld.mono HBO.out.size)
      have HAC5 : Hid (∀ W, Below w5.heap.size w5 W → ∀ r, r < 12 → W.cell? ⟨qa, r, none⟩ = some (.int .i64 (R.getD r 0))) := fun W hW r hr => keeps_below hW _ _ (hac r hr)
      clear hHeld hac HAC kp e0
      go_upto_region 15 with fail
      go_loopw [16] (fun j wr => ∃ z : Nat, z ≤ 12 ∧ j = .int .i64 z ∧ Below w5.heap.size w5 wr) (fun j _ => 12 - (intOf j).toNat)
      case atStart => exact ⟨0, Nat.zero_le _, rfl, by first | exact Below.refl _ _ | exact below_drewN (Below.refl _ _) _⟩
      case round =>
        obtain ⟨r, hr, rfl, hbi⟩ := hrel
        rename World => wi
        have HBI : Hid (Below w5.heap.size w5 wi) := hbi
        have HB4I : Hid (Below w4.heap.size w4 wi) := HB5.out.trans (hbi.mono HB5.out.size)
        have u2 := HU2.out wi HB4I.out
        obtain ⟨e0, e1, e2⟩ := HCS.out wi HB4I.out
        clear hbi
        by_cases hlr : r < 12
        · have hrI : (r : Int) < 12 := by omega
          have hrn : ¬ (r : Int) < 0 := by omega
          have hr64 : (r : Int) < 64 := by omega
          have hstI : (st : Int) < n := by omega
          have k0 := HAC5.out wi HBI.out r hlr
          have k1 := e2 r hlr
          have hb := HBT.out r hlr
          have hbd := bit_downS m r hm
          clear e2
          generalize R.getD r 0 = z at *
          cases hB : m.testBit r
          · rw [hB] at hb hbd
            have hd : decide (0 ≤ z) = false := by simp only [decide_eq_false_iff_not]; intro h; exact absurd (hb.1 h) (by simp)
            rw [if_neg (by simp)] at hbd
            clear hb hB
            go_wp2
            go_quiet (fail)
            go_wp2
            go_roundw
            case rel => exact ⟨r + 1, by omega, by go_num, below_drewN HBI.out _⟩
            case measure => simp [intOf]; omega
          · rw [hB] at hb hbd
            have hd : decide (0 ≤ z) = true := by simp only [decide_eq_true_eq]; exact hb.2 rfl
            rw [if_pos rfl] at hbd
            clear hb hB
            go_wp2
            go_quiet (fail)
            go_wp2
            go_roundw
            case rel => exact ⟨r + 1, by omega, by go_num, below_drewN HBI.out _⟩
            case measure => simp [intOf]; omega
        · go_wp2
          go_roundw
          case rel => exact ⟨i + 1, by omega, by go_num, HB4I.out⟩
          case measure => simp [intOf]; omega
    · go_wp2
      go_ret
      exact ⟨rfl, HB4.out.trans (HBO.out.mono HB4.out.size)⟩
end Go.Proofs.YtdpaohmaafngkaaDoor
