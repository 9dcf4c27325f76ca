/- The walk of tierlinekeep.TrimSmall: at all raw numbers it says true, and nothing that was there has turned. -/
import Derived.Test.YtepnhemlhogmgaaDoorSmallMath
namespace Go.Proofs.YtepnhemlhogmgaaDoor
open Go Go.RowKit

set_option maxHeartbeats 8000000 in
set_option maxRecDepth 100000 in
theorem trimSmall_walk (l : List Fn) (v : Value) (fn : Int) (w : World) (ht : TabOk w) (hc : CallOk w) (hv : ProgVal w v l) (hwf : ∀ f ∈ l, f.wf) (hfn : I64 fn) :
    Calls Tryd.prog 7 #[v, .int .i64 fn] w fun e w' => e = .returned (.bool true) ∧ Below w.heap.size w w' := by
  have hSh := program_raw l v w ht hc hv hwf
  obtain ⟨aol, nl, capl, rfl⟩ := hv.shape
  have HT : Hid (TabOk w) := ht
  have HCO : Hid (CallOk w) := hc
  clear hv hwf ht hc
  go_enter Tryd.func7, Tryd.ntmps7
  go_upto_region 2 with (go_at_call 19; refine hSh.mono ?_; rintro e w1 ⟨v1, P, us, rfl, hpi, hbt, hb1⟩; have hp1 := hbt.prog; have hcp := progIs_code hpi; obtain ⟨hn1, hn4, -⟩ := codeProg_zero hcp; obtain ⟨k, hk, ek⟩ := pickI_nat fn P.length hn1; obtain ⟨b, off, cap, u, rfl, d0, d1, d2, hcv, hm, hcc⟩ := prog_fn hp1 hk)
  have hRi : Right P := progIs_right hpi
  have hfo := (fnOk_of hcp (List.getElem_mem hk)).1
  have hl1 := hfo.len1
  have hl2 := hfo.len2
  have hfe := fnErr_ok hcp hk
  have HAL : Hid (∀ o, Below w.heap.size w (w1.alloc o)) := fun o => hb1.alloc hb1.size o
  have hWh := fun o => Where_right P hRi k hk (.slice (some ⟨b, off, none⟩) P.length cap) (w1.alloc o) (HT.out.below (HAL.out o)) (HCO.out.below (HAL.out o)) (hp1.keeps (keeps_below ((Below.refl _ _).alloc (Nat.le_refl _) o)))
  have HSU : Hid (∀ W, Below w1.heap.size w1 W → Calls Tryd.prog 23 #[.agg #[.slice (some ⟨b, off, none⟩) P.length cap], .int .i64 k] W fun e w' => ∃ v' A, e = .returned (.tuple #[v', .int .i64 0]) ∧ SureAns P k A ∧ IntsVal w' v' A ∧ Below W.heap.size W w') := fun W hb => by
    have := sure_all P (.slice (some ⟨b, off, none⟩) P.length cap) k W ((HT.out.below hb1).below (hb.mono hb1.size |> fun h => ((Below.refl _ _).trans hb))) (hp1.keeps (keeps_below hb))
    rw [hfe] at this; exact this
  have HTR : Hid (∀ W, Below w1.heap.size w1 W → Calls Tryd.prog 16 #[.agg #[.slice (some ⟨b, off, none⟩) P.length cap]] W fun e w' => ∃ v' c Q us, e = .returned (.tuple #[.agg #[v'], .int .i64 0]) ∧ CalledSpec P c ∧ KeptTo P c P.length Q ∧ Built w' W.heap.size 44 70 v' Q us ∧ Below W.heap.size W w') := fun W hb => Trim_right P hRi _ W ((HT.out.below hb1).below hb) ((HCO.out.below hb1).below hb) (hp1.keeps (keeps_below hb))
  have HRS : Hid (∀ A, SureAns P k A → A.length = P[k].code.length ∧ ∀ q, q < P[k].code.length → (0 ≤ A.getD q 0 ↔ Way P[k] 63 q)) := fun A hA => reach_sure hfe hk hA
  have HFI : Hid (∀ c Q s, CalledSpec P c → KeptTo P c P.length Q → Reach P[k] s → Q.length ≤ P.length ∧ (k = 0 → ∃ h : 0 < Q.length, Q[0].code.length = ctT s P[k].code.length)) := fun c Q s h1 h2 h3 => ⟨keptTo_len h2, fun h0 => by rw [← h3.1]; exact small_first hn1 h1 h2 hk h3 h0⟩
  have HRR : Hid (∀ s, Reach P[k] s → s.length = P[k].code.length ∧ ∀ q, q < P[k].code.length → (s.getD q false = true ↔ Way P[k] 63 q)) := fun s h => h
  have HB1 : Hid (Below w.heap.size w w1) := hb1
  have hz1 := hb1.size
  have hkI : (k : Int) < P.length := by omega
  obtain ⟨ao2, b2, off2, n, cap2, rfl, ⟨hlen2, -, -⟩, -, hmx2⟩ := hcv
  clear hfo hfe hRi hpi hcp hbt hp1 hb1 hSh d0 d1
  rw [hlen2] at hl1 hl2 HRS HFI HRR
  generalize P[k] = f at hWh HRS HFI HRR hlen2
  clear hlen2
  unfold maxLen at hmx2
  generalize P.length = N at *
  have t2 := fun o => cell_alloc d2 o
  go_wp2_with (first
    | (go_at_call 22; refine (picked_any _ _ _ hfn (by omega) (by omega)).mono ?_; rintro e w' ⟨rfl, hw'⟩; replace hw' := hw'.symm; subst hw')
    | (go_at_call 9; refine (hWh _).mono ?_; rintro e w2 ⟨v2, s, rfl, -, hrs, hI2, hb2⟩; obtain ⟨ao3, b3, off3, n3, cap3, rfl, hl3, ha3, hc3, hcp3, hm3⟩ := ints_get hI2; obtain ⟨hsl, hsw⟩ := HRR.out s hrs; rw [whereL_length, hsl] at hl3; subst hl3; obtain rfl := ha3 (by omega); have q0 := keeps_below hb2 ⟨w1.heap.size, 0, none⟩ (.slice (some ⟨b, off, none⟩) N cap) (by simp); have q2 := keeps_below hb2 _ _ (t2 _); have HRE : Hid (Reach f s) := hrs; have HC3 : Hid (∀ q, q < n → w2.cell? ⟨b3, off3 + q, none⟩ = some (.int .i64 (whereI s q))) := (fun q hq => by rw [hc3 q hq, whereL_getD s q (by omega)]); have HB2 : Hid (Below w1.heap.size w1 w2) := ((Below.refl _ _).alloc (Nat.le_refl _) _).trans (hb2.mono (by simp)); have HSW : Hid (∀ q, q < n → (s.getD q false = true ↔ Way f 63 q)) := hsw; clear hrs hI2 ha3 hc3 hb2 hsw)
    | (go_at_call 23; refine (HSU.out _ HB2.out).mono ?_; rintro e w3 ⟨v3, A, rfl, hA, hI3, hb3⟩; obtain ⟨ao4, b4, off4, n4, cap4, rfl, hl4, ha4, hc4, hcp4, hm4⟩ := ints_get hI3; obtain ⟨hAl, hAw⟩ := HRS.out A hA; rw [hAl] at hl4; subst hl4; obtain rfl := ha4 (by omega); have r0 := keeps_below hb3 _ _ q0; have r2 := keeps_below hb3 _ _ q2; have HC4 : Hid (∀ q, q < n → w3.cell? ⟨b4, off4 + q, none⟩ = some (.int .i64 (A.getD q 0))) := hc4; have HAW : Hid (∀ q, q < n → (0 ≤ A.getD q 0 ↔ Way f 63 q)) := hAw; have HB3a : Hid (Below w2.heap.size w2 w3) := hb3; have HB3 : Hid (Below w1.heap.size w1 w3) := HB2.out.trans (hb3.mono HB2.out.size); clear hA hI3 ha4 hc4 hAl hAw hb3)
    | (go_at_call 16; refine (HTR.out _ HB3.out).mono ?_; rintro e w4 ⟨v4, c, Q, us4, rfl, hcs, hkt, hbt4, hb4⟩; obtain ⟨hQl, hQ0⟩ := HFI.out c Q s hcs hkt HRE.out; have hPV := hbt4.prog; have s0 := keeps_below hb4 _ _ r0; have s2 := keeps_below hb4 _ _ r2; have s0a := (fun o => cell_alloc s0 o); have s2a := (fun o => cell_alloc s2 o); have hQlI : decide ((N : Int) < (Q.length : Int)) = false := (by simp only [decide_eq_false_iff_not]; omega); have HB4a : Hid (Below w3.heap.size w3 w4) := hb4; obtain ⟨ao5, cap5, rfl⟩ := own_shape hbt4.row; have HPV : Hid (ProgVal w4 (.slice ao5 Q.length cap5) Q) := hPV; have HQ0 : Hid (k = 0 → ∃ h : 0 < Q.length, Q[0].code.length = ctT s n) := hQ0; clear hcs hkt hbt4 hb4 hPV hQ0))
  have hz2 := HB2.out.size
  have hz3 := HB3a.out.size
  have hz4 := HB4a.out.size
  have HBW : Hid (Below w.heap.size w (w4.alloc (.cells #[.slice ao5 Q.length cap5] 24))) := (((HB1.out.trans (HB2.out.mono (by omega))).trans (HB3a.out.mono (by omega))).trans (HB4a.out.mono (by omega))).alloc (by omega) _
  have HC5 : Hid (∀ q, q < n → (w4.alloc (.cells #[.slice ao5 Q.length cap5] 24)).cell? ⟨b3, off3 + q, none⟩ = some (.int .i64 (whereI s q))) := fun q hq => cell_alloc (keeps_below HB4a.out _ _ (keeps_below HB3a.out _ _ (HC3.out q hq))) _
  have HC6 : Hid (∀ q, q < n → (w4.alloc (.cells #[.slice ao5 Q.length cap5] 24)).cell? ⟨b4, off4 + q, none⟩ = some (.int .i64 (A.getD q 0))) := fun q hq => cell_alloc (keeps_below HB4a.out _ _ (HC4.out q hq)) _
  have HQB : Hid ((w4.alloc (.cells #[.slice ao5 Q.length cap5] 24)).cell? ⟨w4.heap.size, 0, none⟩ = some (.slice ao5 Q.length cap5)) := way_box w4 _ _ 0 _ rfl
  have HCT : Hid (ctT s 0 = 0 ∧ ∀ q, ctT s q ≤ q) := ⟨ctT_zero s, fun q => ctT_le s q⟩
  have HY : Hid (∀ q, q < n → s.getD q false = true → ctT s (q + 1) = ctT s q + 1 ∧ whereI s q = ctT s q) := fun q hq h => ⟨ctT_yes (by omega) h, whereI_yes h⟩
  have HN : Hid (∀ q, q < n → s.getD q false = false → ctT s (q + 1) = ctT s q ∧ whereI s q = -1) := fun q hq h => ⟨ctT_no (by omega) h, whereI_no h⟩
  have HPV5 : Hid (ProgVal (w4.alloc (.cells #[.slice ao5 Q.length cap5] 24)) (.slice ao5 Q.length cap5) Q) := HPV.out.keeps (keeps_below ((Below.refl _ _).alloc (Nat.le_refl _) _))
  clear hWh t2 s0 s2 s0a s2a r0 r2 q0 q2
  go_loopw [13, 14] (fun cc i wr => ∃ q : Nat, q ≤ n ∧ i = .int .i64 q ∧ cc = .int .i64 (ctT s q : Nat) ∧ Below w.heap.size w wr ∧ Keeps (w4.alloc (.cells #[.slice ao5 Q.length cap5] 24)) wr) (fun _ i _ => n - (intOf i).toNat)
  case atStart => exact ⟨0, Nat.zero_le _, rfl, by rw [HCT.out.1]; rfl, HBW.out, fun _ _ h => h⟩
  case round =>
    obtain ⟨q, hq, rfl, rfl, hbr, hkp⟩ := hrel
    have HBR : Hid (Below w.heap.size w wr) := hbr
    have HKP : Hid (Keeps (w4.alloc (.cells #[.slice ao5 Q.length cap5] 24)) wr) := hkp
    have hct := HCT.out.2 q
    by_cases hlt : q < n
    · have c5 := hkp _ _ (HC5.out q hlt)
      have c6 := hkp _ _ (HC6.out q hlt)
      have hqI : (q : Int) < n := by omega
      clear hbr hkp
      cases hs : s.getD q false
      · obtain ⟨x1, x2⟩ := HN.out q hlt hs
        have HX1 : Hid (ctT s (q + 1) = ctT s q) := x1
        rw [x2] at c5
        have hz : decide (A.getD q 0 < 0) = true := by
          simp only [decide_eq_true_eq]
          rcases Int.lt_or_le (A.getD q 0) 0 with h | h
          · exact h
          · have := (HSW.out q hlt).2 ((HAW.out q hlt).1 h); rw [hs] at this; cases this
        generalize A.getD q 0 = z at c6 hz
        generalize ctT s q = ct at *
        clear x1 x2 hs
        go_wp2
        go_quiet (fail)
        go_wp2
        go_roundw
        case rel => exact ⟨q + 1, by omega, by go_num, by rw [HX1.out], below_drewN HBR.out _, fun a v h => HKP.out a v h⟩
        case measure => simp [intOf]; omega
      · obtain ⟨x1, x2⟩ := HY.out q hlt hs
        have HX1 : Hid (ctT s (q + 1) = ctT s q + 1) := x1
        rw [x2] at c5
        have hz : decide (A.getD q 0 < 0) = false := by
          simp only [decide_eq_false_iff_not]
          have := (HAW.out q hlt).2 ((HSW.out q hlt).1 hs)
          omega
        generalize A.getD q 0 = z at c6 hz
        generalize ctT s q = ct at *
        clear x1 x2 hs
        go_wp2
        go_quiet (fail)
        go_wp2
        go_roundw
        case rel => exact ⟨q + 1, by omega, by go_num, by rw [HX1.out]; go_num, below_drewN HBR.out _, fun a v h => HKP.out a v h⟩
        case measure => simp [intOf]; omega
    · obtain rfl : q = n := by omega
      rcases Nat.eq_zero_or_pos k with h0 | h0
      · obtain ⟨hQ, hQc⟩ := HQ0.out h0
        obtain ⟨b6, off6, cap6, u6, e6, y0, y1, y2, hcv6, -, -⟩ := prog_fn (HPV5.out.keeps hkp) hQ
        have cb := hkp _ _ HQB.out
        rw [e6] at cb
        obtain ⟨ao7, b7, off7, n7, cap7, rfl, ⟨hl7, -, -⟩, -, -⟩ := hcv6
        rw [hQc] at hl7
        subst hl7
        subst h0
        have hQI : (0 : Int) < Q.length := by omega
        have y2' : wr.cell? ⟨b6, off6 + 2, none⟩ = some (.slice ao7 (ctT s q) cap7) := by simpa using y2
        clear y0 y1 y2 e6 hQc hbr hkp
        generalize ctT s q = ct at *
        go_wp2
        go_ret
        exact ⟨by simp, HBR.out⟩
      · have hkp0 : decide ((0 : Int) < (k : Int)) = true := by simp only [decide_eq_true_eq]; omega
        clear hbr hkp
        generalize ctT s q = ct at *
        go_wp2
        go_ret
        exact ⟨rfl, HBR.out⟩

end Go.Proofs.YtepnhemlhogmgaaDoor
