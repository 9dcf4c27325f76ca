/- The walk of tierlinekeep.TrimRuns: at all raw numbers it says true, and nothing that was there has turned. -/
import Derived.Test.YtpkgibdbmmhgdaaDoorXKRun
import Derived.Test.YtpkgibdbmmhgdaaDoorXKRunX
import Derived.Test.YtpkgibdbmmhgdaaDoorXTrimSim
import Derived.Test.YtpkgibdbmmhgdaaDoorXTopKit
import Derived.Test.YtpkgibdbmmhgdaaDoorXSameStK
namespace Go.Proofs.YtpkgibdbmmhgdaaDoor
open Go Go.RowKit

theorem right_ans {P : List Fn} (h : Right P) : ProofAns P 0 := by
  have hx : ∀ fs : List Fn, ∃ E, ChecksTo P fs E := by
    intro fs
    induction fs with
    | nil => exact ⟨0, rfl⟩
    | cons f fs ih =>
      obtain ⟨E, hE⟩ := ih
      obtain ⟨L, hL⟩ := sure_exists f
      by_cases h0 : proveE P f L = 0
      · exact ⟨E, 0, ⟨L, hL, h0.symm⟩, Or.inr ⟨rfl, hE⟩⟩
      · exact ⟨_, _, ⟨L, hL, rfl⟩, Or.inl ⟨h0, rfl⟩⟩
  obtain ⟨E, hE⟩ := hx P
  have h2 : ProofAns P E := Or.inr ⟨h.1, hE⟩
  rw [h.2 E h2] at h2
  exact h2
theorem Left.par {P Q : List Fn} {c : List Bool} (h : Left P c Q) (h1 : 1 ≤ P.length) : par0 Q = par0 P := by
  have := h.params (k := 0) (by omega) ((h.called.2 0 (by omega)).2 .zero)
  unfold par0
  rw [show ctT c 0 = 0 by simp [ctT]] at this
  rw [this]
  simp [List.getD, show 0 < P.length by omega]
/-- The frames of a state in memory, one by one. -/
theorem StVal.framesT {w : World} {cs : Array Value} {S : St} (h : StVal w (.agg cs) S) : ∃ fr b off cap, cs[2]? = some (.slice fr S.frames.length cap) ∧ S.frames.length ≤ cap ∧ cap ≤ 9223372036854775807 ∧ (0 < S.frames.length → fr = some ⟨b, off, none⟩) ∧ ∀ i (hi : i < S.frames.length), w.rangeAt b (off + i * 14) (frCells S.frames[i]) ∧ S.frames[i].regs.length = 12 := by
  obtain ⟨fv, ev, av, e, hm, hf, -⟩ := h
  obtain rfl := Value.agg.inj e
  obtain ⟨hw, ao, b, off, n, cap, rfl, hl, ha, hcs, hcp, hx⟩ := hf
  subst hl
  unfold maxLen at hx
  exact ⟨ao, b, off, cap, rfl, hcp.1, by omega, ha, fun i hi => ⟨hcs i hi, hw _ (List.getElem_mem hi)⟩⟩
theorem list12_keep {l : List Int} (h : l.length = 12) : ∃ m0 m1 m2 m3 m4 m5 m6 m7 m8 m9 m10 m11, l = [m0, m1, m2, m3, m4, m5, m6, m7, m8, m9, m10, m11] := by
  match l, h with
  | [m0, m1, m2, m3, m4, m5, m6, m7, m8, m9, m10, m11], _ => exact ⟨m0, m1, m2, m3, m4, m5, m6, m7, m8, m9, m10, m11, rfl⟩

set_option maxHeartbeats 8000000 in
set_option maxRecDepth 100000 in
theorem trimRuns_walk (l : List Fn) (v : Value) (a0 a1 fuel : Int) (nv : Value) (ln : List Int) (w : World) (ht : TabOk w) (hc : CallOk w) (hv : ProgVal w v l) (hwf : ∀ f ∈ l, f.wf) (hn : IntsVal w nv ln) (hfu : I64 fuel) :
    Calls Tryd.prog 6 #[v, inVal a0 a1 nv fuel] w fun e w' => e = .returned (.bool true) ∧ Below w.heap.size w w' := by
  obtain ⟨nao, nc, rfl⟩ := hn.shape
  obtain ⟨lao, ll, lc, rfl⟩ := hv.shape
  have HTC : Hid (∀ W, Below w.heap.size w W → TabOk W ∧ CallOk W) := fun W hb => ⟨ht.below hb, hc.below hb⟩
  have HB0 : Hid (Below w.heap.size w (w.alloc (.cells #[.int .i64 a0, .int .i64 a1, .slice nao ln.length nc, .int .i64 fuel] 26))) := (Below.refl _ _).alloc (Nat.le_refl _) _
  have HPR : Hid (Calls Tryd.prog 14 #[.slice lao ll lc] (w.alloc (.cells #[.int .i64 a0, .int .i64 a1, .slice nao ln.length nc, .int .i64 fuel] 26)) fun e w' => ∃ ao n cap P, e = .returned (.agg #[.slice ao n cap]) ∧ ProofAns P 0 ∧ ProgVal w' (.slice ao n cap) P ∧ Below (w.alloc (.cells #[.int .i64 a0, .int .i64 a1, .slice nao ln.length nc, .int .i64 fuel] 26)).heap.size (w.alloc (.cells #[.int .i64 a0, .int .i64 a1, .slice nao ln.length nc, .int .i64 fuel] 26)) w') := kprog l _ _ (HTC.out _ HB0.out).1 (HTC.out _ HB0.out).2 (hv.keeps (keeps_below HB0.out)) hwf
  have HNV : Hid (∀ W, Below w.heap.size w W → IntsVal W (.slice nao ln.length nc) ln) := fun W hb => hn.keeps (keeps_below hb)
  have HFU : Hid (I64 fuel) := hfu
  unfold inVal
  clear ht hc hv hwf hn hfu
  go_enter Tryd.func6, Tryd.ntmps6
  go_upto_region 2 with (go_at_call 14; refine HPR.out.mono ?_; rintro e w1 ⟨ao, n0, cap0, P, rfl, hR, hpv, hb1⟩)
  have HR : Hid (ProofAns P 0) := hR
  have B01 : Hid (Below w.heap.size w (w1.alloc (.cells #[.slice ao n0 cap0] 29))) := (HB0.out.trans (hb1.mono (by simp))).alloc (by have := hb1.size; simp at this; omega) _
  have I1 : (w1.alloc (.cells #[.slice ao n0 cap0] 29)).heap[w.heap.size]? = some (.cells #[.int .i64 a0, .int .i64 a1, .slice nao ln.length nc, .int .i64 fuel] 26 (0, 0)) := (heap_alloc_old _ _ (by have := hb1.size; simp at this; omega)).trans ((hb1.block _ (by simp)).trans (heap_alloc_last w _))
  have HP : Hid (∀ W, Below (w1.alloc (.cells #[.slice ao n0 cap0] 29)).heap.size (w1.alloc (.cells #[.slice ao n0 cap0] 29)) W → W.cell? ⟨w1.heap.size, 0, none⟩ = some (.slice ao n0 cap0) ∧ ProgVal W (.slice ao n0 cap0) P ∧ TabOk W ∧ CallOk W) := fun W hb => ⟨keeps_below hb _ _ (by rw [cell_of_row _ _ _ _ _ _ (heap_alloc_last w1 _)]; rfl), (hpv.keeps (keeps_below ((Below.refl _ _).alloc (Nat.le_refl _) _))).keeps (keeps_below hb), (HTC.out _ (B01.out.trans (hb.mono B01.out.size))).1, (HTC.out _ (B01.out.trans (hb.mono B01.out.size))).2⟩
  clear hR hpv hb1 HPR HB0
  generalize (w1.alloc (.cells #[.slice ao n0 cap0] 29)) = WP at *
  generalize w1.heap.size = PB at *
  have infoIn : (Tryd.prog.info? 26).map (·.size) = some 4 := by kernel_rfl
  obtain ⟨b, off, cap, hvs, d0, hp1, hpc, hpm, q0, q2p⟩ := right_head HR.out (HP.out _ (Below.refl _ _)).2.1
  obtain ⟨rfl, rfl, rfl⟩ : ao = some ⟨b, off, none⟩ ∧ n0 = P.length ∧ cap0 = cap := by simpa using hvs
  have HRP : Hid (Right P) := ⟨right_code HR.out, fun E h => proofAns_unique h HR.out⟩
  have hTR := Trim_right P HRP.out (.slice (some ⟨b, off, none⟩) P.length cap0) WP (HP.out _ (Below.refl _ _)).2.2.1 (HP.out _ (Below.refl _ _)).2.2.2 (HP.out _ (Below.refl _ _)).2.1
  have kp := (HP.out _ (Below.refl _ _)).1
  clear hvs q0 q2p
  go_upto_region 3 with (go_at_call 25; refine hTR.mono ?_; rintro e w2 ⟨v2, c, Q, us, rfl, hcs, hkt, hbt, hb2⟩; obtain ⟨ao2, cap2, rfl⟩ := own_shape hbt.row)
  have HLF : Hid (Left P c Q) := ⟨HR.out, hcs, hkt⟩
  have HRQ : Hid (ProofAns Q 0) := right_ans HLF.out.rightQ
  have B12 : Hid (Below WP.heap.size WP (w2.alloc (.cells #[.slice ao2 Q.length cap2] 29))) := hb2.alloc hb2.size _
  have HQ : Hid (∀ W, Below (w2.alloc (.cells #[.slice ao2 Q.length cap2] 29)).heap.size (w2.alloc (.cells #[.slice ao2 Q.length cap2] 29)) W → W.cell? ⟨w2.heap.size, 0, none⟩ = some (.slice ao2 Q.length cap2) ∧ ProgVal W (.slice ao2 Q.length cap2) Q) := fun W hb => ⟨keeps_below hb _ _ (by rw [cell_of_row _ _ _ _ _ _ (heap_alloc_last w2 _)]; rfl), (hbt.prog.keeps (keeps_below ((Below.refl _ _).alloc (Nat.le_refl _) _))).keeps (keeps_below hb)⟩
  clear kp hTR hcs hkt hbt hb2
  generalize (w2.alloc (.cells #[.slice ao2 Q.length cap2] 29)) = WQ at *
  generalize w2.heap.size = QB at *
  obtain ⟨b2, off2, cap3, hvs, e0, hq1, hqc, hqm, -, -⟩ := right_head HRQ.out (HQ.out _ (Below.refl _ _)).2
  obtain ⟨rfl, rfl⟩ : ao2 = some ⟨b2, off2, none⟩ ∧ cap2 = cap3 := by simpa using hvs
  have HPQ : Hid (par0 Q = par0 P) := HLF.out.par hp1
  rw [HPQ.out] at e0
  have d1 := keeps_below B12.out _ _ d0
  have I2 := (B12.out.block _ (lt_of_block I1)).trans I1
  have kp := (HP.out _ B12.out).1
  have kq := (HQ.out _ (Below.refl _ _)).1
  unfold maxLen at hpm hqm
  have hP0 : (0 : Int) < P.length := by omega
  have hP0n : 0 < P.length := by omega
  have hQ0 : (0 : Int) < Q.length := by omega
  have hQ0n : 0 < Q.length := by omega
  have hQe4 : ¬ Q.length = 0 := by omega
  have hQe : ((Q.length : Int) == 0) = false := by rw [beq_eq_false_iff_ne]; omega
  have hQe2 : (Q.length == 0) = false := by rw [beq_eq_false_iff_ne]; exact hQe4
  have hQe3 : decide (Q.length = 0) = false := by rw [decide_eq_false_iff_not]; exact hQe4
  have BWN : ∀ n, Below WP.heap.size WP (WQ.drewN n) := fun n => below_drewN B12.out n
  have BQN : ∀ n, Below WQ.heap.size WQ (WQ.drewN n) := fun n => below_drewN (Below.refl _ _) n
  have HKB : Hid (∀ n, Calls Tryd.prog 15 #[.agg #[.slice (some ⟨b, off, none⟩) P.length cap0], .agg #[.int .i64 a0, .int .i64 a1, .slice nao ln.length nc, .int .i64 fuel]] (WQ.drewN n) _) := fun n => kbeginX P (.slice (some ⟨b, off, none⟩) P.length cap0) a0 a1 fuel (.slice nao ln.length nc) ln (WQ.drewN n) (HP.out _ (BWN n)).2.2.1 (HP.out _ (BWN n)).2.2.2 HR.out (HP.out _ (BWN n)).2.1 (HNV.out _ (B01.out.trans ((BWN n).mono B01.out.size))) HFU.out
  have I2n : ∀ n, (WQ.drewN n).heap[w.heap.size]? = some (.cells #[.int .i64 a0, .int .i64 a1, .slice nao ln.length nc, .int .i64 fuel] 26 (0, 0)) := fun n => ((BQN n).block _ (lt_of_block I2)).trans I2
  have kpn : ∀ n, (WQ.drewN n).cell? ⟨PB, 0, none⟩ = some (.slice (some ⟨b, off, none⟩) P.length cap0) := fun n => (HP.out _ (BWN n)).1
  clear hvs d0 I1
  go_quiet (fail)
  go_upto_region 6 with (first
    | (refine wpList_load_row rfl _ _ rfl _ rfl _ _ _ _ (I2n _) Tryd.underlying26 rfl infoIn ?_)
    | (go_at_call 15; refine (HKB.out _).mono ?_; rintro e w3 ⟨cs3, S, rfl, ⟨hk3, hS3⟩, hs3, c1, c2, c3, hst, hb3⟩)
    | (refine wpList_store_row rfl _ _ _ rfl _ _ rfl rfl _ _ (heap_alloc_last w3 _) c1 c2 c3 ?_; rw [World.setRow_alloc_new]))
  have HKP : Hid (KRunAt P S) := hk3
  have HSE : Hid (S = (beginSt ([a0, a1].take (par0 P).toNat) (ln.take 10) (pickI fuel 300))) := hS3
  have HS0 : Hid (S.fuel ≤ 299) := hs3.1
  have B3 : Hid (Below WQ.heap.size WQ (w3.alloc (.cells cs3 34))) := ((BQN _).trans (hb3.mono (BQN _).size)).alloc (Nat.le_trans (BQN _).size hb3.size) _
  have X3 : Hid (∀ W, Below (w3.alloc (.cells cs3 34)).heap.size (w3.alloc (.cells cs3 34)) W → W.heap[w3.heap.size]? = some (.cells cs3 34 (0, 0)) ∧ StVal W (.agg cs3) (S)) := fun W hb => ⟨(hb.block _ (by simp)).trans (heap_alloc_last w3 _), (hst.val.keeps (keeps_below ((Below.refl _ _).alloc (Nat.le_refl _) _))).keeps (keeps_below hb)⟩
  have q3 : (Tryd.prog.info? 34).map (·.size) = some cs3.size := c1
  clear hst c1 c2 c3 hb3
  generalize (w3.alloc (.cells cs3 34)) = W3 at *
  generalize w3.heap.size = G3 at *
  clear hk3 hS3 hs3 kp kq I2n kpn HKB BWN BQN d1 e0 hQe hQe2 hQe3 hQe4
  have HBQ : Hid (Below WQ.heap.size WQ W3) := B3.out
  have HBP : Hid (Below WP.heap.size WP W3) := B12.out.trans (HBQ.out.mono B12.out.size)
  have kp := (HP.out _ HBP.out).1
  have kq := (HQ.out _ HBQ.out).1
  have I3 := (HBQ.out.block _ (lt_of_block I2)).trans I2
  have HKB : Hid (Calls Tryd.prog 15 #[.agg #[.slice (some ⟨b2, off2, none⟩) Q.length cap2], .agg #[.int .i64 a0, .int .i64 a1, .slice nao ln.length nc, .int .i64 fuel]] W3 _) := kbeginX Q (.slice (some ⟨b2, off2, none⟩) Q.length cap2) a0 a1 fuel (.slice nao ln.length nc) ln W3 (HP.out _ HBP.out).2.2.1 (HP.out _ HBP.out).2.2.2 HRQ.out (HQ.out _ HBQ.out).2 (HNV.out _ (B01.out.trans (HBP.out.mono B01.out.size))) HFU.out
  go_upto_region 7 with (first
    | (refine wpList_load_row rfl _ _ rfl _ rfl _ _ _ _ I3 Tryd.underlying26 rfl infoIn ?_)
    | (go_at_call 15; refine HKB.out.mono ?_; rintro e w4 ⟨cs4, S2, rfl, ⟨hk4, hS4⟩, -, c1, c2, c3, hst, hb4⟩)
    | (refine wpList_store_row rfl _ _ _ rfl _ _ rfl rfl _ _ (heap_alloc_last w4 _) c1 c2 c3 ?_; rw [World.setRow_alloc_new]))
  obtain rfl : S2 = S := by rw [hS4, HSE.out, HPQ.out]
  have HKQ : Hid (KRunAt Q S2) := hk4
  have B4 : Hid (Below W3.heap.size W3 (w4.alloc (.cells cs4 34))) := hb4.alloc hb4.size _
  have X4 : Hid (∀ W, Below (w4.alloc (.cells cs4 34)).heap.size (w4.alloc (.cells cs4 34)) W → W.heap[w4.heap.size]? = some (.cells cs4 34 (0, 0)) ∧ StVal W (.agg cs4) (S2)) := fun W hb => ⟨(hb.block _ (by simp)).trans (heap_alloc_last w4 _), (hst.val.keeps (keeps_below ((Below.refl _ _).alloc (Nat.le_refl _) _))).keeps (keeps_below hb)⟩
  have q4 : (Tryd.prog.info? 34).map (·.size) = some cs4.size := c1
  clear hst c1 c2 c3 hb4
  generalize (w4.alloc (.cells cs4 34)) = W4 at *
  generalize w4.heap.size = G4 at *
  have B34 : Hid (Below WQ.heap.size WQ W4) := HBQ.out.trans (B4.out.mono HBQ.out.size)
  clear hk4 hS4 kp kq I3 I2 HKB HBQ HBP infoIn
  have HBQ : Hid (Below WQ.heap.size WQ W4) := B34.out
  have HBP : Hid (Below WP.heap.size WP W4) := B12.out.trans (HBQ.out.mono B12.out.size)
  have kp := (HP.out _ HBP.out).1
  have kq := (HQ.out _ HBQ.out).1
  have r3 := (X3.out _ B4.out).1
  have HC : Hid (Calls Tryd.prog 26 #[.agg #[.slice (some ⟨b, off, none⟩) P.length cap0], .agg cs3, .int .i64 ((400 : Nat) : Int)] W4 _) := kwalk HKP.out 0 400 (by omega) (by omega) _ _ W4 (HP.out _ HBP.out).2.2.1 (HP.out _ HBP.out).2.2.2 (HP.out _ HBP.out).2.1 (X3.out _ B4.out).2
  go_upto_region 8 with (first
    | (refine wpList_load_row rfl _ _ rfl _ rfl _ _ _ _ r3 Tryd.underlying34 rfl q3 ?_)
    | (go_at_call 26; refine HC.out.mono ?_; rintro e w5 ⟨cs5, rfl, c1, c2, c3, hst, hb5⟩)
    | (refine wpList_store_row rfl _ _ _ rfl _ _ rfl rfl _ _ (heap_alloc_last w5 _) c1 c2 c3 ?_; rw [World.setRow_alloc_new]))
  have B5 : Hid (Below W4.heap.size W4 (w5.alloc (.cells cs5 34))) := hb5.alloc hb5.size _
  have X5 : Hid (∀ W, Below (w5.alloc (.cells cs5 34)).heap.size (w5.alloc (.cells cs5 34)) W → W.heap[w5.heap.size]? = some (.cells cs5 34 (0, 0)) ∧ StVal W (.agg cs5) (walkS P (0 + 400) S2)) := fun W hb => ⟨(hb.block _ (by simp)).trans (heap_alloc_last w5 _), (hst.val.keeps (keeps_below ((Below.refl _ _).alloc (Nat.le_refl _) _))).keeps (keeps_below hb)⟩
  have q5 : (Tryd.prog.info? 34).map (·.size) = some cs5.size := c1
  clear hst c1 c2 c3 hb5
  generalize (w5.alloc (.cells cs5 34)) = W5 at *
  generalize w5.heap.size = G5 at *
  have B35 : Hid (Below WQ.heap.size WQ W5) := HBQ.out.trans (B5.out.mono HBQ.out.size)
  clear kp kq r3 q3 HC HBQ HBP X3 B3
  have HBQ : Hid (Below WQ.heap.size WQ W5) := B35.out
  have HBP : Hid (Below WP.heap.size WP W5) := B12.out.trans (HBQ.out.mono B12.out.size)
  have kp := (HP.out _ HBP.out).1
  have kq := (HQ.out _ HBQ.out).1
  have r4 := (X4.out _ B5.out).1
  have HC : Hid (Calls Tryd.prog 26 #[.agg #[.slice (some ⟨b2, off2, none⟩) Q.length cap2], .agg cs4, .int .i64 ((400 : Nat) : Int)] W5 _) := kwalk HKQ.out 0 400 (by omega) (by omega) _ _ W5 (HP.out _ HBP.out).2.2.1 (HP.out _ HBP.out).2.2.2 (HQ.out _ HBQ.out).2 (X4.out _ B5.out).2
  go_upto_region 9 with (first
    | (refine wpList_load_row rfl _ _ rfl _ rfl _ _ _ _ r4 Tryd.underlying34 rfl q4 ?_)
    | (go_at_call 26; refine HC.out.mono ?_; rintro e w6 ⟨cs6, rfl, c1, c2, c3, hst, hb6⟩)
    | (refine wpList_store_row rfl _ _ _ rfl _ _ rfl rfl _ _ (heap_alloc_last w6 _) c1 c2 c3 ?_; rw [World.setRow_alloc_new]))
  have B6 : Hid (Below W5.heap.size W5 (w6.alloc (.cells cs6 34))) := hb6.alloc hb6.size _
  have X6 : Hid (∀ W, Below (w6.alloc (.cells cs6 34)).heap.size (w6.alloc (.cells cs6 34)) W → W.heap[w6.heap.size]? = some (.cells cs6 34 (0, 0)) ∧ StVal W (.agg cs6) (walkS Q (0 + 400) S2)) := fun W hb => ⟨(hb.block _ (by simp)).trans (heap_alloc_last w6 _), (hst.val.keeps (keeps_below ((Below.refl _ _).alloc (Nat.le_refl _) _))).keeps (keeps_below hb)⟩
  have q6 : (Tryd.prog.info? 34).map (·.size) = some cs6.size := c1
  clear hst c1 c2 c3 hb6
  generalize (w6.alloc (.cells cs6 34)) = W6 at *
  generalize w6.heap.size = G6 at *
  have B36 : Hid (Below WQ.heap.size WQ W6) := HBQ.out.trans (B6.out.mono HBQ.out.size)
  obtain ⟨gs, hgs, hsim⟩ : ∃ gs, walkS Q (0 + 400) S2 = { walkS P (0 + 400) S2 with frames := gs } ∧ SimFs P c (walkS P (0 + 400) S2).frames gs := by
    obtain ⟨g0, e0, h0⟩ := sim_begin HLF.out hP0n ([a0, a1].take (par0 P).toNat) (ln.take 10) (pickI fuel 300)
    rw [← HSE.out] at e0 h0
    have := sim_walk HLF.out (0 + 400) HKP.out.inv h0
    rw [← e0] at this
    exact this
  have HSIM : Hid (SimFs P c (walkS P (0 + 400) S2).frames gs) := hsim
  have HEND : Hid ((walkS P (0 + 400) S2).status ≠ 0) := run_ended HKP.out.right HKP.out.inv (0 + 400) (by have := HS0.out; omega)
  rw [hgs] at X6
  have hlen : gs.length = (walkS P (0 + 400) S2).frames.length := hsim.len
  have HA : Hid (∀ W, Below W6.heap.size W6 W → W.heap[G5]? = some (.cells cs5 34 (0, 0)) ∧ StVal W (.agg cs5) (walkS P (0 + 400) S2) ∧ W.heap[G6]? = some (.cells cs6 34 (0, 0)) ∧ StVal W (.agg cs6) { walkS P (0 + 400) S2 with frames := gs }) := fun W hW => ⟨(X5.out _ (B6.out.trans (hW.mono B6.out.size))).1, (X5.out _ (B6.out.trans (hW.mono B6.out.size))).2, (X6.out _ hW).1, (X6.out _ hW).2⟩
  have HFL : Hid ((walkS P (0 + 400) S2).frames.length ≤ 8 ∧ ∀ f ∈ (walkS P (0 + 400) S2).frames, placeB P f = true) := ⟨((mayB_iff _).1 (krun_walk HKP.out (0 + 400)).1.may).2.2.2.2.1, (krun_walk HKP.out (0 + 400)).1.fok.1⟩
  have HB6P : Hid (Below WP.heap.size WP W6) := B12.out.trans (B36.out.mono B12.out.size)
  clear kp kq r4 q4 HC HBQ HBP X4 X5 X6 hgs hsim B35 B34 B5 B4 HKQ HKP HSE HS0
  generalize walkS P (0 + 400) S2 = A at *
  obtain ⟨r5, s5, r6, s6⟩ := HA.out W6 (Below.refl _ _)
  obtain ⟨f5, fb5, fo5, fc5, g52, fl5, fm5, ha5, hr5⟩ := s5.framesT
  obtain ⟨f6, fb6, fo6, fc6, g62, fl6, fm6, ha6, hr6⟩ := s6.framesT
  dsimp only at g62 fl6 ha6 hr6
  have k50 : W6.cell? ⟨G5, 0, none⟩ = some (.int .i64 A.status) := by rw [cell_of_row _ _ _ _ _ _ r5]; exact s5.at.1
  have k51 : W6.cell? ⟨G5, 1, none⟩ = some (.int .i64 A.value) := by rw [cell_of_row _ _ _ _ _ _ r5]; exact s5.at.2.1
  have k59 : W6.cell? ⟨G5, 19, none⟩ = some (.int .i64 A.fuel) := by rw [cell_of_row _ _ _ _ _ _ r5]; exact s5.at.2.2.1
  have k52 : W6.cell? ⟨G5, 2, none⟩ = some (.slice f5 A.frames.length fc5) := by rw [cell_of_row _ _ _ _ _ _ r5]; exact g52
  have k60 : W6.cell? ⟨G6, 0, none⟩ = some (.int .i64 A.status) := by rw [cell_of_row _ _ _ _ _ _ r6]; exact s6.at.1
  have k61 : W6.cell? ⟨G6, 1, none⟩ = some (.int .i64 A.value) := by rw [cell_of_row _ _ _ _ _ _ r6]; exact s6.at.2.1
  have k69 : W6.cell? ⟨G6, 19, none⟩ = some (.int .i64 A.fuel) := by rw [cell_of_row _ _ _ _ _ _ r6]; exact s6.at.2.2.1
  have k62 : W6.cell? ⟨G6, 2, none⟩ = some (.slice f6 A.frames.length fc6) := by rw [cell_of_row _ _ _ _ _ _ r6, ← hlen]; exact g62
  have hm16 : A.mem.length = 16 := by have := s5; obtain ⟨_, _, _, _, h, _⟩ := this; exact h
  obtain ⟨m0, m1', m2, m3, m4, m5, m6, m7, m8, m9, m10, m11, m12, m13, m14, m15, hml⟩ := list16_keep hm16
  have p0 : W6.cell? ⟨G5, 3, none⟩ = some (.int .i64 m0) := by rw [cell_of_row _ _ _ _ _ _ r5, show 3 = 3 + 0 by omega, s5.memAt 0 (by omega), hml]; rfl
  have o0 : W6.cell? ⟨G6, 3, none⟩ = some (.int .i64 m0) := by rw [cell_of_row _ _ _ _ _ _ r6, show 3 = 3 + 0 by omega, s6.memAt 0 (by omega)]; dsimp only; rw [hml]; rfl
  have p1 : W6.cell? ⟨G5, 4, none⟩ = some (.int .i64 m1') := by rw [cell_of_row _ _ _ _ _ _ r5, show 4 = 3 + 1 by omega, s5.memAt 1 (by omega), hml]; rfl
  have o1 : W6.cell? ⟨G6, 4, none⟩ = some (.int .i64 m1') := by rw [cell_of_row _ _ _ _ _ _ r6, show 4 = 3 + 1 by omega, s6.memAt 1 (by omega)]; dsimp only; rw [hml]; rfl
  have p2 : W6.cell? ⟨G5, 5, none⟩ = some (.int .i64 m2) := by rw [cell_of_row _ _ _ _ _ _ r5, show 5 = 3 + 2 by omega, s5.memAt 2 (by omega), hml]; rfl
  have o2 : W6.cell? ⟨G6, 5, none⟩ = some (.int .i64 m2) := by rw [cell_of_row _ _ _ _ _ _ r6, show 5 = 3 + 2 by omega, s6.memAt 2 (by omega)]; dsimp only; rw [hml]; rfl
  have p3 : W6.cell? ⟨G5, 6, none⟩ = some (.int .i64 m3) := by rw [cell_of_row _ _ _ _ _ _ r5, show 6 = 3 + 3 by omega, s5.memAt 3 (by omega), hml]; rfl
  have o3 : W6.cell? ⟨G6, 6, none⟩ = some (.int .i64 m3) := by rw [cell_of_row _ _ _ _ _ _ r6, show 6 = 3 + 3 by omega, s6.memAt 3 (by omega)]; dsimp only; rw [hml]; rfl
  have p4 : W6.cell? ⟨G5, 7, none⟩ = some (.int .i64 m4) := by rw [cell_of_row _ _ _ _ _ _ r5, show 7 = 3 + 4 by omega, s5.memAt 4 (by omega), hml]; rfl
  have o4 : W6.cell? ⟨G6, 7, none⟩ = some (.int .i64 m4) := by rw [cell_of_row _ _ _ _ _ _ r6, show 7 = 3 + 4 by omega, s6.memAt 4 (by omega)]; dsimp only; rw [hml]; rfl
  have p5 : W6.cell? ⟨G5, 8, none⟩ = some (.int .i64 m5) := by rw [cell_of_row _ _ _ _ _ _ r5, show 8 = 3 + 5 by omega, s5.memAt 5 (by omega), hml]; rfl
  have o5 : W6.cell? ⟨G6, 8, none⟩ = some (.int .i64 m5) := by rw [cell_of_row _ _ _ _ _ _ r6, show 8 = 3 + 5 by omega, s6.memAt 5 (by omega)]; dsimp only; rw [hml]; rfl
  have p6 : W6.cell? ⟨G5, 9, none⟩ = some (.int .i64 m6) := by rw [cell_of_row _ _ _ _ _ _ r5, show 9 = 3 + 6 by omega, s5.memAt 6 (by omega), hml]; rfl
  have o6 : W6.cell? ⟨G6, 9, none⟩ = some (.int .i64 m6) := by rw [cell_of_row _ _ _ _ _ _ r6, show 9 = 3 + 6 by omega, s6.memAt 6 (by omega)]; dsimp only; rw [hml]; rfl
  have p7 : W6.cell? ⟨G5, 10, none⟩ = some (.int .i64 m7) := by rw [cell_of_row _ _ _ _ _ _ r5, show 10 = 3 + 7 by omega, s5.memAt 7 (by omega), hml]; rfl
  have o7 : W6.cell? ⟨G6, 10, none⟩ = some (.int .i64 m7) := by rw [cell_of_row _ _ _ _ _ _ r6, show 10 = 3 + 7 by omega, s6.memAt 7 (by omega)]; dsimp only; rw [hml]; rfl
  have p8 : W6.cell? ⟨G5, 11, none⟩ = some (.int .i64 m8) := by rw [cell_of_row _ _ _ _ _ _ r5, show 11 = 3 + 8 by omega, s5.memAt 8 (by omega), hml]; rfl
  have o8 : W6.cell? ⟨G6, 11, none⟩ = some (.int .i64 m8) := by rw [cell_of_row _ _ _ _ _ _ r6, show 11 = 3 + 8 by omega, s6.memAt 8 (by omega)]; dsimp only; rw [hml]; rfl
  have p9 : W6.cell? ⟨G5, 12, none⟩ = some (.int .i64 m9) := by rw [cell_of_row _ _ _ _ _ _ r5, show 12 = 3 + 9 by omega, s5.memAt 9 (by omega), hml]; rfl
  have o9 : W6.cell? ⟨G6, 12, none⟩ = some (.int .i64 m9) := by rw [cell_of_row _ _ _ _ _ _ r6, show 12 = 3 + 9 by omega, s6.memAt 9 (by omega)]; dsimp only; rw [hml]; rfl
  have p10 : W6.cell? ⟨G5, 13, none⟩ = some (.int .i64 m10) := by rw [cell_of_row _ _ _ _ _ _ r5, show 13 = 3 + 10 by omega, s5.memAt 10 (by omega), hml]; rfl
  have o10 : W6.cell? ⟨G6, 13, none⟩ = some (.int .i64 m10) := by rw [cell_of_row _ _ _ _ _ _ r6, show 13 = 3 + 10 by omega, s6.memAt 10 (by omega)]; dsimp only; rw [hml]; rfl
  have p11 : W6.cell? ⟨G5, 14, none⟩ = some (.int .i64 m11) := by rw [cell_of_row _ _ _ _ _ _ r5, show 14 = 3 + 11 by omega, s5.memAt 11 (by omega), hml]; rfl
  have o11 : W6.cell? ⟨G6, 14, none⟩ = some (.int .i64 m11) := by rw [cell_of_row _ _ _ _ _ _ r6, show 14 = 3 + 11 by omega, s6.memAt 11 (by omega)]; dsimp only; rw [hml]; rfl
  have p12 : W6.cell? ⟨G5, 15, none⟩ = some (.int .i64 m12) := by rw [cell_of_row _ _ _ _ _ _ r5, show 15 = 3 + 12 by omega, s5.memAt 12 (by omega), hml]; rfl
  have o12 : W6.cell? ⟨G6, 15, none⟩ = some (.int .i64 m12) := by rw [cell_of_row _ _ _ _ _ _ r6, show 15 = 3 + 12 by omega, s6.memAt 12 (by omega)]; dsimp only; rw [hml]; rfl
  have p13 : W6.cell? ⟨G5, 16, none⟩ = some (.int .i64 m13) := by rw [cell_of_row _ _ _ _ _ _ r5, show 16 = 3 + 13 by omega, s5.memAt 13 (by omega), hml]; rfl
  have o13 : W6.cell? ⟨G6, 16, none⟩ = some (.int .i64 m13) := by rw [cell_of_row _ _ _ _ _ _ r6, show 16 = 3 + 13 by omega, s6.memAt 13 (by omega)]; dsimp only; rw [hml]; rfl
  have p14 : W6.cell? ⟨G5, 17, none⟩ = some (.int .i64 m14) := by rw [cell_of_row _ _ _ _ _ _ r5, show 17 = 3 + 14 by omega, s5.memAt 14 (by omega), hml]; rfl
  have o14 : W6.cell? ⟨G6, 17, none⟩ = some (.int .i64 m14) := by rw [cell_of_row _ _ _ _ _ _ r6, show 17 = 3 + 14 by omega, s6.memAt 14 (by omega)]; dsimp only; rw [hml]; rfl
  have p15 : W6.cell? ⟨G5, 18, none⟩ = some (.int .i64 m15) := by rw [cell_of_row _ _ _ _ _ _ r5, show 18 = 3 + 15 by omega, s5.memAt 15 (by omega), hml]; rfl
  have o15 : W6.cell? ⟨G6, 18, none⟩ = some (.int .i64 m15) := by rw [cell_of_row _ _ _ _ _ _ r6, show 18 = 3 + 15 by omega, s6.memAt 15 (by omega)]; dsimp only; rw [hml]; rfl
  have hq16 : ∀ w, (Op.equalIn 10000 32 (.agg #[.int .i64 m0, .int .i64 m1', .int .i64 m2, .int .i64 m3, .int .i64 m4, .int .i64 m5, .int .i64 m6, .int .i64 m7, .int .i64 m8, .int .i64 m9, .int .i64 m10, .int .i64 m11, .int .i64 m12, .int .i64 m13, .int .i64 m14, .int .i64 m15]) (.agg #[.int .i64 m0, .int .i64 m1', .int .i64 m2, .int .i64 m3, .int .i64 m4, .int .i64 m5, .int .i64 m6, .int .i64 m7, .int .i64 m8, .int .i64 m9, .int .i64 m10, .int .i64 m11, .int .i64 m12, .int .i64 m13, .int .i64 m14, .int .i64 m15])).run Tryd.prog w = .ok true w := fun w => equal_ints_keep 32 [m0, m1', m2, m3, m4, m5, m6, m7, m8, m9, m10, m11, m12, m13, m14, m15] 9998 w Tryd.underlying32
  obtain ⟨fv5, ev5, av5, ea5, -, -, he5, -⟩ := s5
  obtain ⟨fv6, ev6, av6, ea6, -, -, he6, -⟩ := s6
  dsimp only at he6
  have ev5c : W6.cell? ⟨G5, 20, none⟩ = some ev5 := by rw [cell_of_row _ _ _ _ _ _ r5, Value.agg.inj ea5]; exact (stCells_get _ _ _ _ hm16).2.1
  have ev6c : W6.cell? ⟨G6, 20, none⟩ = some ev6 := by rw [cell_of_row _ _ _ _ _ _ r6, Value.agg.inj ea6]; exact (stCells_get _ _ _ _ hm16).2.1
  have hSI := sameInts_keep _ ev5 ev6 W6 he5 he6
  obtain ⟨eo5, ec5, rfl⟩ := he5.shape
  obtain ⟨eo6, ec6, rfl⟩ := he6.shape
  have HRNG : Hid (∀ W, Below W6.heap.size W6 W → ∀ i (hi : i < A.frames.length) (hi2 : i < gs.length), W.rangeAt fb5 (fo5 + i * 14) (frCells A.frames[i]) ∧ W.rangeAt fb6 (fo6 + i * 14) (frCells gs[i]) ∧ A.frames[i].regs.length = 12 ∧ SimFr P c A.frames[i] gs[i]) := fun W hW i hi hi2 => ⟨fun j v h => keeps_below hW _ _ ((hr5 i hi).1 j v h), fun j v h => keeps_below hW _ _ ((hr6 i hi2).1 j v h), (hr5 i hi).2, HSIM.out.get i _ _ (List.getElem?_eq_getElem hi) (List.getElem?_eq_getElem hi2)⟩
  have HKC : Hid (∀ W, Below W6.heap.size W6 W → W.cell? ⟨G5, 0, none⟩ = some (.int .i64 A.status) ∧ W.cell? ⟨G5, 2, none⟩ = some (.slice f5 A.frames.length fc5) ∧ W.cell? ⟨G6, 2, none⟩ = some (.slice f6 A.frames.length fc6)) := fun W hW => ⟨keeps_below hW _ _ k50, keeps_below hW _ _ k52, keeps_below hW _ _ k62⟩
  have HLN : Hid (gs.length = A.frames.length) := hlen
  have HAL2 : Hid ((0 < A.frames.length → f5 = some ⟨fb5, fo5, none⟩) ∧ (0 < A.frames.length → f6 = some ⟨fb6, fo6, none⟩)) := ⟨ha5, fun h => ha6 (by rw [hlen]; exact h)⟩
  have hfl8 := HFL.out.1
  have hl5 : A.frames.length ≤ fc5 := fl5
  have hl6 : A.frames.length ≤ fc6 := by omega
  clear ea5 ea6 he5 he6 hml hm16 hr5 hr6 ha5 ha6 g52 g62 fl5 fl6 hlen r5 r6 HA q5 q6 HSIM
  have HST : Hid (A.status ≠ 0) := HEND.out
  generalize A.events.length = el at *
  generalize A.status = ast at *
  generalize A.value = avl at *
  generalize A.fuel = afu at *
  go_wp2_with (go_at_call 24; refine hSI.mono ?_; rintro e w7 ⟨rfl, hb7⟩; have k52b := keeps_below hb7 _ _ k52; have k62b := keeps_below hb7 _ _ k62)
  have HB7 : Hid (Below W6.heap.size W6 w7) := hb7
  clear hSI hb7 k52b k62b k50 k51 k52 k59 k60 k61 k62 k69 ev5c ev6c hq16 p0 o0 p1 o1 p2 o2 p3 o3 p4 o4 p5 o5 p6 o6 p7 o7 p8 o8 p9 o9 p10 o10 p11 o11 p12 o12 p13 o13 p14 o14 p15 o15
  have HKQ2 : Hid (∀ W, Below W6.heap.size W6 W → W.cell? ⟨PB, 0, none⟩ = some (.slice (some ⟨b, off, none⟩) P.length cap0)) := fun W hW => (HP.out _ (HB6P.out.trans (hW.mono HB6P.out.size))).1
  have HWH : Hid (∀ W, Below W6.heap.size W6 W → ∀ k (hk : k < P.length), Calls Tryd.prog 27 #[.agg #[.slice (some ⟨b, off, none⟩) P.length cap0], .int .i64 k] W fun e w' => ∃ v' s, e = .returned (.tuple #[v', .int .i64 0]) ∧ ProofAns P 0 ∧ Reach P[k] s ∧ IntsVal w' v' (whereL s) ∧ Below W.heap.size W w') := fun W hW k hk => by
    have hb := HB6P.out.trans (hW.mono HB6P.out.size)
    exact Where_right P HRP.out k hk _ W (HP.out _ hb).2.2.1 (HP.out _ hb).2.2.2 (HP.out _ hb).2.1
  have HWF : Hid (Below w.heap.size w W6) := B01.out.trans (HB6P.out.mono B01.out.size)
  have hne : (ast != 0) = true := by simpa using HST.out
  go_loopw [16, 17, 18] (fun i av hv wr => ∃ q : Nat, q ≤ A.frames.length ∧ i = .int .i64 q ∧ Below W6.heap.size W6 wr) (fun i _ _ _ => A.frames.length - (intOf i).toNat)
  case atStart => exact ⟨0, Nat.zero_le _, rfl, HB7.out⟩
  case round =>
    obtain ⟨q, hq, rfl, hbr⟩ := hrel
    have HBR : Hid (Below W6.heap.size W6 wr) := hbr
    obtain ⟨k50, k52, k62⟩ := HKC.out wr hbr
    have kp := HKQ2.out wr hbr
    by_cases hlt : q < A.frames.length
    · have hqI : (q : Int) < A.frames.length := by omega
      obtain ⟨e5, e6⟩ := HAL2.out
      replace e5 := e5 (by omega)
      replace e6 := e6 (by omega)
      subst e5 e6
      obtain ⟨rg5, rg6, h12, hsim⟩ := HRNG.out wr hbr q hlt (by rw [HLN.out]; exact hlt)
      obtain ⟨⟨k, j, hk, s, hc, hre, hj, hsj, e1, e2, e3, e4⟩, hregs⟩ := hsim
      have cfn : wr.cell? ⟨fb5, fo5 + q * 14, none⟩ = some (.int .i64 (k : Int)) := by have := rg5 0 _ rfl; rw [e1] at this; simpa using this
      have cpc : wr.cell? ⟨fb5, fo5 + q * 14 + 1, none⟩ = some (.int .i64 (j : Int)) := by have := rg5 1 _ rfl; rw [e2] at this; simpa using this
      have dpc : wr.cell? ⟨fb6, fo6 + q * 14 + 1, none⟩ = some (.int .i64 ((ctT s j : Nat) : Int)) := by have := rg6 1 _ rfl; rw [e4] at this; simpa using this
      obtain ⟨n0, n1, n2, n3, n4, n5, n6, n7, n8, n9, n10, n11, hml⟩ := list12_keep h12
      have HR5 : Hid (∀ r v, [n0, n1, n2, n3, n4, n5, n6, n7, n8, n9, n10, n11][r]? = some v → wr.cell? ⟨fb5, fo5 + q * 14 + 2 + r, none⟩ = some (.int .i64 v) ∧ wr.cell? ⟨fb6, fo6 + q * 14 + 2 + r, none⟩ = some (.int .i64 v)) := fun r v hv => by
        rw [← hml] at hv
        have h1 := rg5 (r + 2) (.int .i64 v) (by show (i64s _)[r]? = _; rw [i64s, List.getElem?_map, hv]; rfl)
        have h2 := rg6 (r + 2) (.int .i64 v) (by show (i64s _)[r]? = _; rw [hregs, i64s, List.getElem?_map, hv]; rfl)
        rw [show fo5 + q * 14 + 2 + r = fo5 + q * 14 + (r + 2) by omega, show fo6 + q * 14 + 2 + r = fo6 + q * 14 + (r + 2) by omega]
        exact ⟨h1, h2⟩
      have HWK : Hid (∀ W, Below wr.heap.size wr W → Calls Tryd.prog 27 #[.agg #[.slice (some ⟨b, off, none⟩) P.length cap0], .int .i64 k] W _) := fun W hW => HWH.out W (HBR.out.trans (hW.mono HBR.out.size)) k hk
      have HRE : Hid (Reach P[k] s ∧ s.getD j false = true ∧ j < P[k].code.length) := ⟨hre, hsj, hj⟩
      clear rg5 rg6 h12 hml hregs hc hre hj hsj e1 e2 e3 e4 hbr
      generalize P[k] = f at *
      clear hk
      go_upto_region 14 with fail
      refine wp_region_held_drew (S := fun W => Below wr.heap.size wr W) (by kernel_rfl) ((Below.refl _ _).drew) (fun hHeld => ?_)
      show wpAnyH _ _ _ _ _ 13 _ _ _
      refine wpAnyH_take (i := 0) (v := ?_) rfl (by kernel_rfl) (by kernel_rfl) (by kernel_rfl) (fun _ _ _ h => h) (Or.inl ⟨by rfl, ?_⟩) (by assumption) ?_
      rotate_left
      · (intro W hSW; have z0 := keeps_below hSW _ _ kp; go_simp; try (with_reducible rfl))
      (try simp only [Act.put, List.setIfInBounds_toArray])
      refine wpAnyH_take (i := 1) (v := ?_) rfl (by kernel_rfl) (by kernel_rfl) (by kernel_rfl) (fun _ _ _ h => h) (Or.inl ⟨by rfl, ?_⟩) (by assumption) ?_
      rotate_left
      · (intro W hSW; go_simp; try (with_reducible rfl))
      (try simp only [Act.put])
      refine wpAnyH_take (i := 2) (v := ?_) rfl (by kernel_rfl) (by kernel_rfl) (by kernel_rfl) (fun _ _ _ h => h) (Or.inl ⟨by rfl, ?_⟩) (by assumption) ?_
      rotate_left
      · (intro W hSW; have z0 := keeps_below hSW _ _ k52; go_simp; try (with_reducible rfl))
      (try simp only [Act.put])
      refine wpAnyH_take (i := 3) (v := ?_) rfl (by kernel_rfl) (by kernel_rfl) (by kernel_rfl) (fun _ _ _ h => h) (Or.inl ⟨by rfl, ?_⟩) (by assumption) ?_
      rotate_left
      · (intro W hSW; go_simp; try (with_reducible rfl))
      (try simp only [Act.put])
      refine wpAnyH_take (i := 4) (v := ?_) rfl (by kernel_rfl) (by kernel_rfl) (by kernel_rfl) (fun _ _ _ h => h) (Or.inl ⟨by rfl, ?_⟩) (by assumption) ?_
      rotate_left
      · (intro W hSW; go_simp; try (with_reducible rfl))
      (try simp only [Act.put])
      refine wpAnyH_take (i := 5) (v := ?_) rfl (by kernel_rfl) (by kernel_rfl) (by kernel_rfl) (fun _ _ _ h => h) (Or.inl ⟨by rfl, ?_⟩) (by assumption) ?_
      rotate_left
      · (intro W hSW; go_simp; try (with_reducible rfl))
      (try simp only [Act.put])
      refine wpAnyH_take (i := 6) (v := ?_) rfl (by kernel_rfl) (by kernel_rfl) (by kernel_rfl) (fun _ _ _ h => h) (Or.inl ⟨by rfl, ?_⟩) (by assumption) ?_
      rotate_left
      · (intro W hSW; have z0 := keeps_below hSW _ _ cfn; go_simp; try (with_reducible rfl))
      (try simp only [Act.put])
      refine wpAnyH_ready (rs := [7]) (by kernel_rfl) (by simp) ?_
      refine AllReadyH.cons rfl (fun K hK => ?_) AllReadyH.nil
      go_simp
      go_at_call 27
      refine (HWK.out _ hHeld).mono ?_
      rintro e w8 ⟨v8, s', rfl, -, hre, hI, hb8⟩
      obtain ⟨sa, sb, so, sn, sc, rfl, hsl, hsa, hsc, hscp, hsm⟩ := ints_get hI
      have hbn : Below wr.heap.size wr w8 := Below.trans hHeld (hb8.mono (Below.size hHeld))
      dsimp only
      refine hK.out _ _ hbn (fun _ => ?_)
      clear hK K
      (try simp only [Act.put, List.setIfInBounds_toArray, List.set_cons_zero, List.set_cons_succ])
      refine wpAnyH_take (i := 8) (v := ?_) rfl (by kernel_rfl) (by kernel_rfl) (by kernel_rfl) (fun _ _ _ h => h) (Or.inl ⟨by rfl, ?_⟩) hbn ?_
      rotate_left
      · (intro W hSW; go_simp; try (with_reducible rfl))
      (try simp only [Act.put, List.setIfInBounds_toArray])
      refine wpAnyH_take (i := 9) (v := ?_) rfl (by kernel_rfl) (by kernel_rfl) (by kernel_rfl) (fun _ _ _ h => h) (Or.inl ⟨by rfl, ?_⟩) hbn ?_
      rotate_left
      · (intro W hSW; go_simp; try (with_reducible rfl))
      (try simp only [Act.put])
      refine wpAnyH_take (i := 10) (v := ?_) rfl (by kernel_rfl) (by kernel_rfl) (by kernel_rfl) (fun _ _ _ h => h) (Or.inl ⟨by rfl, ?_⟩) hbn ?_
      rotate_left
      · (intro W hSW; go_simp; try (with_reducible rfl))
      (try simp only [Act.put])
      refine wpAnyH_take (i := 11) (v := ?_) rfl (by kernel_rfl) (by kernel_rfl) (by kernel_rfl) (fun _ _ _ h => h) (Or.inl ⟨by rfl, ?_⟩) hbn ?_
      rotate_left
      · (intro W hSW; go_simp; try (with_reducible rfl))
      (try simp only [Act.put])
      refine wpAnyH_take (i := 12) (v := ?_) rfl (by kernel_rfl) (by kernel_rfl) (by kernel_rfl) (fun _ _ _ h => h) (Or.inl ⟨by rfl, ?_⟩) hbn ?_
      rotate_left
      · (intro W hSW; go_simp; try (with_reducible rfl))
      (try simp only [Act.put])
      refine wpAnyH_done (by kernel_rfl) ?_ _
      obtain rfl := reach_unique HRE.out.1 hre
      rw [whereL_length, hre.1] at hsl
      have hjl := HRE.out.2.2
      have hjn : j < sn := by omega
      have hjI : (j : Int) < sn := by omega
      obtain rfl := hsa (by omega)
      have cat := hsc j hjn
      rw [whereL_getD _ _ (by rw [hre.1]; exact hjl), whereI_yes HRE.out.2.1] at cat
      have k528 := keeps_below hbn _ _ k52
      have k628 := keeps_below hbn _ _ k62
      have cpc8 := keeps_below hbn _ _ cpc
      have dpc8 := keeps_below hbn _ _ dpc
      have p0 : w8.cell? ⟨fb5, fo5 + q * 14 + 2, none⟩ = some (.int .i64 n0) := keeps_below hbn _ _ (HR5.out 0 n0 rfl).1
      have o0 : w8.cell? ⟨fb6, fo6 + q * 14 + 2, none⟩ = some (.int .i64 n0) := keeps_below hbn _ _ (HR5.out 0 n0 rfl).2
      have p1 : w8.cell? ⟨fb5, fo5 + q * 14 + 2 + 1, none⟩ = some (.int .i64 n1) := keeps_below hbn _ _ (HR5.out 1 n1 rfl).1
      have o1 : w8.cell? ⟨fb6, fo6 + q * 14 + 2 + 1, none⟩ = some (.int .i64 n1) := keeps_below hbn _ _ (HR5.out 1 n1 rfl).2
      have p2 : w8.cell? ⟨fb5, fo5 + q * 14 + 2 + 2, none⟩ = some (.int .i64 n2) := keeps_below hbn _ _ (HR5.out 2 n2 rfl).1
      have o2 : w8.cell? ⟨fb6, fo6 + q * 14 + 2 + 2, none⟩ = some (.int .i64 n2) := keeps_below hbn _ _ (HR5.out 2 n2 rfl).2
      have p3 : w8.cell? ⟨fb5, fo5 + q * 14 + 2 + 3, none⟩ = some (.int .i64 n3) := keeps_below hbn _ _ (HR5.out 3 n3 rfl).1
      have o3 : w8.cell? ⟨fb6, fo6 + q * 14 + 2 + 3, none⟩ = some (.int .i64 n3) := keeps_below hbn _ _ (HR5.out 3 n3 rfl).2
      have p4 : w8.cell? ⟨fb5, fo5 + q * 14 + 2 + 4, none⟩ = some (.int .i64 n4) := keeps_below hbn _ _ (HR5.out 4 n4 rfl).1
      have o4 : w8.cell? ⟨fb6, fo6 + q * 14 + 2 + 4, none⟩ = some (.int .i64 n4) := keeps_below hbn _ _ (HR5.out 4 n4 rfl).2
      have p5 : w8.cell? ⟨fb5, fo5 + q * 14 + 2 + 5, none⟩ = some (.int .i64 n5) := keeps_below hbn _ _ (HR5.out 5 n5 rfl).1
      have o5 : w8.cell? ⟨fb6, fo6 + q * 14 + 2 + 5, none⟩ = some (.int .i64 n5) := keeps_below hbn _ _ (HR5.out 5 n5 rfl).2
      have p6 : w8.cell? ⟨fb5, fo5 + q * 14 + 2 + 6, none⟩ = some (.int .i64 n6) := keeps_below hbn _ _ (HR5.out 6 n6 rfl).1
      have o6 : w8.cell? ⟨fb6, fo6 + q * 14 + 2 + 6, none⟩ = some (.int .i64 n6) := keeps_below hbn _ _ (HR5.out 6 n6 rfl).2
      have p7 : w8.cell? ⟨fb5, fo5 + q * 14 + 2 + 7, none⟩ = some (.int .i64 n7) := keeps_below hbn _ _ (HR5.out 7 n7 rfl).1
      have o7 : w8.cell? ⟨fb6, fo6 + q * 14 + 2 + 7, none⟩ = some (.int .i64 n7) := keeps_below hbn _ _ (HR5.out 7 n7 rfl).2
      have p8 : w8.cell? ⟨fb5, fo5 + q * 14 + 2 + 8, none⟩ = some (.int .i64 n8) := keeps_below hbn _ _ (HR5.out 8 n8 rfl).1
      have o8 : w8.cell? ⟨fb6, fo6 + q * 14 + 2 + 8, none⟩ = some (.int .i64 n8) := keeps_below hbn _ _ (HR5.out 8 n8 rfl).2
      have p9 : w8.cell? ⟨fb5, fo5 + q * 14 + 2 + 9, none⟩ = some (.int .i64 n9) := keeps_below hbn _ _ (HR5.out 9 n9 rfl).1
      have o9 : w8.cell? ⟨fb6, fo6 + q * 14 + 2 + 9, none⟩ = some (.int .i64 n9) := keeps_below hbn _ _ (HR5.out 9 n9 rfl).2
      have p10 : w8.cell? ⟨fb5, fo5 + q * 14 + 2 + 10, none⟩ = some (.int .i64 n10) := keeps_below hbn _ _ (HR5.out 10 n10 rfl).1
      have o10 : w8.cell? ⟨fb6, fo6 + q * 14 + 2 + 10, none⟩ = some (.int .i64 n10) := keeps_below hbn _ _ (HR5.out 10 n10 rfl).2
      have p11 : w8.cell? ⟨fb5, fo5 + q * 14 + 2 + 11, none⟩ = some (.int .i64 n11) := keeps_below hbn _ _ (HR5.out 11 n11 rfl).1
      have o11 : w8.cell? ⟨fb6, fo6 + q * 14 + 2 + 11, none⟩ = some (.int .i64 n11) := keeps_below hbn _ _ (HR5.out 11 n11 rfl).2
      have hq12 : ∀ w, (Op.equalIn 10000 42 (.agg #[.int .i64 n0, .int .i64 n1, .int .i64 n2, .int .i64 n3, .int .i64 n4, .int .i64 n5, .int .i64 n6, .int .i64 n7, .int .i64 n8, .int .i64 n9, .int .i64 n10, .int .i64 n11]) (.agg #[.int .i64 n0, .int .i64 n1, .int .i64 n2, .int .i64 n3, .int .i64 n4, .int .i64 n5, .int .i64 n6, .int .i64 n7, .int .i64 n8, .int .i64 n9, .int .i64 n10, .int .i64 n11])).run Tryd.prog w = .ok true w := fun w => equal_ints_keep 42 [n0, n1, n2, n3, n4, n5, n6, n7, n8, n9, n10, n11] 9998 w Tryd.underlying42
      have HBN : Hid (Below W6.heap.size W6 w8) := HBR.out.trans (hbn.mono HBR.out.size)
      clear hsl hsa hsc hI hb8 hbn hre hjl kp k50 k52 k62 cpc dpc cfn hHeld
      generalize ctT s j = zz at *
      go_upto_region 15 with fail
      go_quiet (fail)
      go_wp2
      go_roundw
      case rel => exact ⟨q + 1, by omega, by go_num, below_drewN HBN.out _⟩
      case measure => simp [intOf]; omega
    · clear hbr
      have HBF : Hid (Below w.heap.size w wr) := HWF.out.trans (HBR.out.mono HWF.out.size)
      go_wp2
      go_ret
      exact ⟨rfl, HBF.out⟩
end Go.Proofs.YtpkgibdbmmhgdaaDoor
