/- The walk of tierlinekeep.LiveSure: at all raw numbers it says true, and nothing that was there has turned. -/
import Derived.Test.YtjmafakhibekdaaDoorXFlowFace
import Derived.Test.YtjmafakhibekdaaDoorXRightRaw
namespace Go.Proofs.YtjmafakhibekdaaDoor
open Go Go.RowKit

theorem andNot_zero {m s : Nat} (hm : m < 4096) (hs : s < 4096) (h : ∀ r, r < 12 → m.testBit r = true → s.testBit r = true) : bits .andNot .i64 (m : Int) (s : Int) = 0 := by
  rw [lessM_int _ _ (by omega) (by omega)]
  have e : lessM m s = 0 := Nat.eq_of_testBit_eq fun r => by
    rw [lessM_bit _ _ _ (by omega), Nat.zero_testBit]
    by_cases hr : r < 12
    · cases hb : m.testBit r
      · rfl
      · rw [h r hr hb]; rfl
    · rw [Nat.testBit_lt_two_pow (Nat.lt_of_lt_of_le hm (pow12 (by omega)))]; rfl
  rw [e]; rfl
/-- What is live is surely set, and what is read is live: in numbers. -/
theorem live_sure_at {P : List Fn} (hR : ProofAns P 0) {k : Nat} (hk : k < P.length) {L A : List Int} (hL : LiveSpec P P[k] L) (hA : SureAns P k A) (q : Nat) (hq : q < P[k].code.length) :
    (L.getD q 0 = -1 ∧ A.getD q 0 = -1) ∨ ∃ m s : Nat, L.getD q 0 = m ∧ A.getD q 0 = s ∧ bits .andNot .i64 (m : Int) (s : Int) = 0 ∧ bits .andNot .i64 (rdMask P (insD P[k] q) : Int) (m : Int) = 0 := by
  have ok := flowOk_of hR (List.getElem_mem hk)
  have h0 := fnErr_ok (right_code hR) hk
  have e : fnAt P (k : Int) = P[k] := by simp [fnAt, List.getD, hk]
  rcases hA with ⟨h1, _⟩ | ⟨_, S, hS, rfl⟩
  · exact absurd h0 h1
  rw [e] at hS ⊢
  have hg : (S.take P[k].code.length).getD q 0 = S.getD q 0 := by simp [List.getD, hq]
  rw [hg]
  rcases hL.2 q hq with ⟨hn, e1⟩ | ⟨hw, m, hm, e1, hb⟩
  · rcases hS.2 q (by omega) with ⟨_, e2⟩ | ⟨hw, _⟩
    · exact Or.inl ⟨e1, e2⟩
    · exact absurd hw hn
  · rcases hS.2 q (by omega) with ⟨hn, _⟩ | ⟨_, s, hs, e2, hb2⟩
    · exact absurd hw hn
    · refine Or.inr ⟨m, s, e1, e2, andNot_zero hm hs fun r hr h => ?_, andNot_zero (rdMask_lt12 (ok.insD hq).1) hm fun r hr h => ?_⟩
      · exact (hb2 r hr).2 (live_sure ok (right_reads hR (List.getElem_mem hk)) hr ((hb r hr).1 h) hw)
      · exact (hb r hr).2 (LiveW.read hq h)

set_option maxHeartbeats 8000000 in
set_option maxRecDepth 100000 in
theorem liveSure_walk (l : List Fn) (v : Value) (fn : Int) (w : World) (ht : TabOk w) (hc : CallOk w) (hv : ProgVal w v l) (hwf : ∀ f ∈ l, f.wf) (hfn : I64 fn) :
    Calls Tryd.prog 5 #[v, .int .i64 fn] w fun e w' => e = .returned (.bool true) ∧ Below w.heap.size w w' := by
  have hSh := program_raw l v w ht hc hv hwf
  obtain ⟨aol, nl, capl, rfl⟩ := hv.shape
  have HT : Hid (TabOk w) := ht
  have HCO : Hid (CallOk w) := hc
  clear hv hwf ht hc
  go_enter Tryd.func5, Tryd.ntmps5
  go_upto_region 2 with (go_at_call 13; refine hSh.mono ?_; rintro e w1 ⟨v1, P, us, rfl, hpi, hbt, hb1⟩; have hp1 := hbt.prog; have hcp := progIs_code hpi; obtain ⟨hn1, hn4, -⟩ := codeProg_zero hcp; obtain ⟨k, hk, ek⟩ := pick_some fn P.length hn1; obtain ⟨b, off, cap, u, rfl, d0, d1, d2, hcv, hm, hcc⟩ := prog_fn hp1 hk)
  have hRi := progIs_ans hpi
  have hfo := (fnOk_of hcp (List.getElem_mem hk)).1
  have hl1 := hfo.len1
  have hl2 := hfo.len2
  have hfe := fnErr_ok hcp hk
  have hca : codeAt P k = P[k].code := by simp [codeAt, List.getD, hk]
  have HLI : Hid (∀ W, Below w1.heap.size w1 W → Calls Tryd.prog 18 #[.agg #[.slice (some ⟨b, off, none⟩) P.length cap], .int .i64 k] W fun e w' => ∃ v' L, e = .returned (.tuple #[v', .int .i64 0]) ∧ LiveSpec P P[k] L ∧ IntsVal w' v' L ∧ Below W.heap.size W w') := fun W hb => Live_right P hRi k hk _ W ((HT.out.below hb1).below hb) ((HCO.out.below hb1).below hb) (hp1.keeps (keeps_below hb))
  have HSU : Hid (∀ W, Below w1.heap.size w1 W → Calls Tryd.prog 16 #[.agg #[.slice (some ⟨b, off, none⟩) P.length cap], .int .i64 k] W fun e w' => ∃ v' A, e = .returned (.tuple #[v', .int .i64 0]) ∧ SureAns P k A ∧ IntsVal w' v' A ∧ Below W.heap.size W w') := fun W hb => by
    have := sure_all P (.slice (some ⟨b, off, none⟩) P.length cap) k W ((HT.out.below hb1).below hb) (hp1.keeps (keeps_below hb))
    rw [hfe] at this; exact this
  have HRD : Hid (∀ q, q < P[k].code.length → ∀ W, Below w1.heap.size w1 W → Calls Tryd.prog 19 #[.agg #[.slice (some ⟨b, off, none⟩) P.length cap], .int .i64 k, .int .i64 q] W fun e w' => e = .returned (.tuple #[.int .i64 (rdMask P (insD P[k] q)), .int .i64 (setMask (insD P[k] q)), .int .i64 0]) ∧ Below W.heap.size W w') := fun q hq W hb => by
    have := reads_ok P (.slice (some ⟨b, off, none⟩) P.length cap) k q W ((HT.out.below hb1).below hb) ((HCO.out.below hb1).below hb) (hp1.keeps (keeps_below hb)) hfe (by rw [hca]; exact hq)
    have e : insAtP P k q = insD P[k] q := by unfold insAtP insD; rw [hca]
    rw [e] at this; exact this
  have HAT : Hid (∀ L A, LiveSpec P P[k] L → SureAns P k A → ∀ q, q < P[k].code.length → (L.getD q 0 = -1 ∧ A.getD q 0 = -1) ∨ ∃ m s : Nat, L.getD q 0 = m ∧ A.getD q 0 = s ∧ bits .andNot .i64 (m : Int) (s : Int) = 0 ∧ bits .andNot .i64 (rdMask P (insD P[k] q) : Int) (m : Int) = 0) := fun L A hL hA q hq => live_sure_at hRi hk hL hA q hq
  have HAL : Hid (∀ A, SureAns P k A → A.length = P[k].code.length) := fun A hA => (reach_sure hfe hk hA).1
  have HLL : Hid (∀ L, LiveSpec P P[k] L → L.length = P[k].code.length) := fun L h => h.1
  have HB1 : Hid (Below w.heap.size w w1) := hb1
  have hz1 := hb1.size
  have hkI : (k : Int) < P.length := by omega
  obtain ⟨ao2, b2, off2, n, cap2, rfl, ⟨hlen2, -, -⟩, -, hmx2⟩ := hcv
  clear hfo hfe hRi hpi hcp hbt hp1 hb1 hSh d0 d1 hca
  rw [hlen2] at hl1 hl2 HRD HAT HAL HLL
  generalize P[k] = f at HLI HRD HAT HAL HLL hlen2
  clear hlen2
  unfold maxLen at hmx2
  have t2 := fun o => cell_alloc d2 o
  generalize hNN : P.length = N at *
  clear hNN
  go_upto_region 8 with (first
    | (go_at_call 14; refine (picked_any _ _ _ hfn (by omega) (by omega)).mono ?_; rintro e w' ⟨rfl, hw'⟩; replace hw' := hw'.symm; subst hw')
    | (go_at_call 18; refine (HLI.out _ ((Below.refl _ _).alloc (Nat.le_refl _) _)).mono ?_; rintro e w2 ⟨v2, L, rfl, hL, hI2, hb2⟩; obtain ⟨ao3, b3, off3, n3, cap3, rfl, hl3, ha3, hc3, hcp3, hm3⟩ := ints_get hI2; rw [HLL.out L hL] at hl3; subst hl3; obtain rfl := ha3 (by omega); have q0 := keeps_below hb2 ⟨w1.heap.size, 0, none⟩ (.slice (some ⟨b, off, none⟩) N cap) (by simp); have q2 := keeps_below hb2 _ _ (t2 _); have HC3 : Hid (∀ q, q < n → w2.cell? ⟨b3, off3 + q, none⟩ = some (.int .i64 (L.getD q 0))) := hc3; have HB2 : Hid (Below w1.heap.size w1 w2) := ((Below.refl _ _).alloc (Nat.le_refl _) _).trans (hb2.mono (by simp)); have HL : Hid (LiveSpec P f L) := hL; clear hL hI2 ha3 hc3 hb2)
    | (go_at_call 16; refine (HSU.out _ HB2.out).mono ?_; rintro e w3 ⟨v3, A, rfl, hA, hI3, hb3⟩; obtain ⟨ao4, b4, off4, n4, cap4, rfl, hl4, ha4, hc4, hcp4, hm4⟩ := ints_get hI3; rw [HAL.out A hA] at hl4; subst hl4; obtain rfl := ha4 (by omega); have r0 := keeps_below hb3 _ _ q0; have r2 := keeps_below hb3 _ _ q2; have HC4 : Hid (∀ q, q < n → w3.cell? ⟨b4, off4 + q, none⟩ = some (.int .i64 (A.getD q 0))) := hc4; have HA : Hid (SureAns P k A) := hA; have HB3a : Hid (Below w2.heap.size w2 w3) := hb3; have HB3 : Hid (Below w1.heap.size w1 w3) := HB2.out.trans (hb3.mono HB2.out.size); clear hA hI3 ha4 hc4 hb3))
  have hz2 := HB2.out.size
  have hz3 := HB3a.out.size
  have HBW : Hid (Below w.heap.size w w3) := HB1.out.trans (HB3.out.mono hz1)
  have HC5 : Hid (∀ q, q < n → w3.cell? ⟨b3, off3 + q, none⟩ = some (.int .i64 (L.getD q 0))) := fun q hq => keeps_below HB3a.out _ _ (HC3.out q hq)
  have HR0 : Hid (w3.cell? ⟨w1.heap.size, 0, none⟩ = some (.slice (some ⟨b, off, none⟩) N cap)) := r0
  clear t2 q0 q2 r0 r2 HC3
  go_loopw [11] (fun i wr => ∃ q : Nat, q ≤ n ∧ i = .int .i64 q ∧ Below w3.heap.size w3 wr) (fun i _ => n - (intOf i).toNat)
  case atStart => exact ⟨0, Nat.zero_le _, rfl, Below.refl _ _⟩
  case round =>
    obtain ⟨q, hq, rfl, hbr⟩ := hrel
    have HBR : Hid (Below w3.heap.size w3 wr) := hbr
    by_cases hlt : q < n
    · have c5 := keeps_below hbr _ _ (HC5.out q hlt)
      have c6 := keeps_below hbr _ _ (HC4.out q hlt)
      have c0 := keeps_below hbr _ _ HR0.out
      have hqI : (q : Int) < n := by omega
      have hat := HAT.out L A HL.out HA.out q hlt
      have hrd := fun m => HRD.out q hlt (wr.drewN m) (below_drewN (HB3.out.trans (hbr.mono HB3.out.size)) m)
      generalize (rdMask P (insD f q) : Int) = RM at hat hrd
      generalize (setMask (insD f q) : Int) = SM at hrd
      clear hbr
      rcases hat with ⟨x1, x2⟩ | ⟨m, s, x1, x2, x3, x4⟩
      · rw [x1] at c5
        rw [x2] at c6
        clear x1 x2
        go_wp2
        go_quiet (fail)
        go_wp2_with (go_at_call 19; refine (hrd _).mono ?_; rintro e w5 ⟨rfl, hb5⟩; have c7 := keeps_below hb5 _ _ c5)
        go_roundw
        case rel => exact ⟨q + 1, by omega, by go_num, HBR.out.trans (((below_drewN (Below.refl _ _) _).trans (hb5.mono (Nat.le_refl _))).mono HBR.out.size)⟩
        case measure => simp [intOf]; omega
      · rw [x1] at c5
        rw [x2] at c6
        have y3 : (bits .andNot .i64 (m : Int) (s : Int) != 0) = false := by rw [x3]; rfl
        have y4 : (bits .andNot .i64 RM (m : Int) != 0) = false := by rw [x4]; rfl
        clear x1 x2 x3 x4
        go_wp2
        go_quiet (fail)
        go_wp2_with (go_at_call 19; refine (hrd _).mono ?_; rintro e w5 ⟨rfl, hb5⟩; have c7 := keeps_below hb5 _ _ c5)
        go_roundw
        case rel => exact ⟨q + 1, by omega, by go_num, HBR.out.trans (((below_drewN (Below.refl _ _) _).trans (hb5.mono (Nat.le_refl _))).mono HBR.out.size)⟩
        case measure => simp [intOf]; omega
    · clear hbr
      go_wp2
      go_ret
      exact ⟨rfl, HBW.out.trans (HBR.out.mono HBW.out.size)⟩
end Go.Proofs.YtjmafakhibekdaaDoor
