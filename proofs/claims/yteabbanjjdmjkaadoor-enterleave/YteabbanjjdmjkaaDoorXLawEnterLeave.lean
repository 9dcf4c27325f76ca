/- The walk of tierlinekeep.EnterLeave: at all raw numbers it says true, and nothing that was there has turned (written by gen/mkenterleave.py). -/
import Derived.Test.YteabbanjjdmjkaaDoorXRunK
import Derived.Test.YteabbanjjdmjkaaDoorXEnterMath
import Derived.Test.YteabbanjjdmjkaaDoorXLeaveBad
import Derived.Test.YteabbanjjdmjkaaDoorGroupX
import Derived.Test.YteabbanjjdmjkaaDoorXOutNew
namespace Go.Proofs.YteabbanjjdmjkaaDoor
open Go Go.RowKit

theorem wpList_build_wanted {P : Program} {ops : Array Oper} {rest : List Oper} {o : Oper} {a : Act} {w : World} {Q : Exit → Act → World → Prop} (hw : Region.wanted o (yielded ops a.tmps) = true) (t : TypeId) (parts : Array (Nat × Operand)) (ho : o.op = .build t parts) (cs : Array Value)
    (hf : P.built t (parts.map fun (i, x) => (i, a.eval x)).toList = some cs) (h : wpList P ops Q rest (a.put o.dst (.agg cs)) w) : wpList P ops Q (o :: rest) a w := by
  simp only [wpList, hw, if_true]
  refine Or.inl ?_
  unfold Oper.wp execOp
  simp only [ho, Sem.run_bind, run_build (P := P) w t _ cs hf, Result.andThen_ok]
  exact h
theorem checkE_run {P : List Fn} {S : St} (hR : ProofAns P 0) (hI : RunInv P S) : ∀ E, ProofAns P E → checkE E P S = 0 := fun E hE => by
  obtain rfl := proofAns_unique hE hR
  unfold checkE
  rw [if_neg (by simp), hI.may, (framesB_iff P S.frames).2 hI.fok]; rfl

set_option maxHeartbeats 8000000 in
set_option maxRecDepth 100000 in
theorem enterLeave_walk (l : List Fn) (v : Value) (a0 a1 fuel : Int) (nv : Value) (ln : List Int) (a : Int) (w : World) (ht : TabOk w) (hc : CallOk w) (hv : ProgVal w v l) (hwf : ∀ f ∈ l, f.wf) (hn : IntsVal w nv ln) (hfu : I64 fuel) (ha : I64 a) :
    Calls Tryd.prog 4 #[v, inVal a0 a1 nv fuel, .int .i64 a] w fun e w' => e = .returned (.bool true) ∧ Below w.heap.size w w' := by
  obtain ⟨nao, nc, rfl⟩ := hn.shape
  obtain ⟨lao, ll, lc, rfl⟩ := hv.shape
  have HB0 : Hid (Below w.heap.size w (w.alloc (.cells #[.int .i64 a0, .int .i64 a1, .slice nao ln.length nc, .int .i64 fuel] 44))) := (Below.refl _ _).alloc (Nat.le_refl _) _
  have HTC : Hid (∀ W, Below w.heap.size w W → TabOk W ∧ CallOk W ∧ IntsVal W (.slice nao ln.length nc) ln) := fun W hb => ⟨ht.below hb, hc.below hb, hn.keeps (keeps_below hb)⟩
  have HPR : Hid (Calls Tryd.prog 15 #[.slice lao ll lc] (w.alloc (.cells #[.int .i64 a0, .int .i64 a1, .slice nao ln.length nc, .int .i64 fuel] 44)) _) := kprog l (.slice lao ll lc) (w.alloc (.cells #[.int .i64 a0, .int .i64 a1, .slice nao ln.length nc, .int .i64 fuel] 44)) (HTC.out _ HB0.out).1 (HTC.out _ HB0.out).2.1 (hv.keeps (keeps_below HB0.out)) hwf
  have HFU : Hid (I64 fuel ∧ I64 a) := ⟨hfu, ha⟩
  have infoIn : (Tryd.prog.info? 44).map (·.size) = some 4 := by kernel_rfl
  unfold inVal
  clear ht hc hv hwf hn hfu ha
  go_enter Tryd.func4, Tryd.ntmps4
  go_upto_region 2 with (go_at_call 15; refine HPR.out.mono ?_; rintro e w1 ⟨ao, n0, cap0, P, rfl, hR, hpv, hb1⟩)
  have HR : Hid (ProofAns P 0) := hR
  have HB1 : Hid (Below w.heap.size w (w1.alloc (.cells #[.slice ao n0 cap0] 24))) := (HB0.out.trans (hb1.mono (by simp))).alloc (by have := hb1.size; simp at this; omega) _
  have I1 : (w1.alloc (.cells #[.slice ao n0 cap0] 24)).heap[w.heap.size]? = some (.cells #[.int .i64 a0, .int .i64 a1, .slice nao ln.length nc, .int .i64 fuel] 44 (0, 0)) := (heap_alloc_old _ _ (by have := hb1.size; simp at this; omega)).trans ((hb1.block _ (by simp)).trans (heap_alloc_last w _))
  have HP : Hid (∀ W, Below (w1.alloc (.cells #[.slice ao n0 cap0] 24)).heap.size (w1.alloc (.cells #[.slice ao n0 cap0] 24)) W → W.cell? ⟨w1.heap.size, 0, none⟩ = some (.slice ao n0 cap0) ∧ ProgVal W (.slice ao n0 cap0) P ∧ TabOk W ∧ CallOk W) := fun W hb => ⟨keeps_below hb _ _ (by rw [cell_of_row _ _ _ _ _ _ (heap_alloc_last w1 _)]; rfl), (hpv.keeps (keeps_below ((Below.refl _ _).alloc (Nat.le_refl _) _))).keeps (keeps_below hb), (HTC.out W (HB1.out.trans (hb.mono HB1.out.size))).1, (HTC.out W (HB1.out.trans (hb.mono HB1.out.size))).2.1⟩
  clear hR hpv hb1 HPR HB0
  generalize (w1.alloc (.cells #[.slice ao n0 cap0] 24)) = V1 at *
  generalize w1.heap.size = G1 at *
  have kp := (HP.out V1 (Below.refl _ _)).1
  have HRN : Hid (Calls Tryd.prog 16 #[.agg #[.slice ao n0 cap0], .agg #[.int .i64 a0, .int .i64 a1, .slice nao ln.length nc, .int .i64 fuel], .int .i64 a] V1 _) := runningK_any P (.slice ao n0 cap0) a0 a1 fuel (.slice nao ln.length nc) ln a V1 (HP.out V1 (Below.refl _ _)).2.2.1 (HP.out V1 (Below.refl _ _)).2.2.2 HR.out (HP.out V1 (Below.refl _ _)).2.1 (HTC.out V1 HB1.out).2.2 HFU.out.1 HFU.out.2
  go_upto_region 3 with (first
    | (refine wpList_load_row rfl _ _ rfl _ rfl _ _ _ _ I1 Tryd.underlying44 rfl infoIn ?_)
    | (go_at_call 16; refine HRN.out.mono ?_; rintro e w2 hP2; obtain ⟨cs2, S, x, rfl, hk, hs0, hx, hst, hb2⟩ := hP2; obtain ⟨csx, hcx, c1, c2, c3⟩ := hst.val.cells; obtain rfl := Value.agg.inj hcx; clear hcx)
    | (refine wpList_store_row rfl _ _ _ rfl _ _ rfl rfl _ _ (heap_alloc_last w2 _) c1 c2 c3 ?_; rw [World.setRow_alloc_new]))
  have HI : Hid (RunInv P (walkS P x S)) := (krun_walk hk x).1
  have HEV : Hid ((walkS P x S).events.length ≤ 200) := by have := (krun_walk hk x).2; show _ ≤ _; omega
  have HB2 : Hid (Below V1.heap.size V1 (w2.alloc (.cells cs2 29))) := hb2.alloc hb2.size _
  have X2 : Hid (∀ W, Below (w2.alloc (.cells cs2 29)).heap.size (w2.alloc (.cells cs2 29)) W → W.heap[w2.heap.size]? = some (.cells cs2 29 (0, 0)) ∧ StVal W (.agg cs2) (walkS P x S)) := fun W hb => ⟨(hb.block _ (by simp)).trans (heap_alloc_last w2 _), (hst.val.keeps (keeps_below ((Below.refl _ _).alloc (Nat.le_refl _) _))).keeps (keeps_below hb)⟩
  have q2 : (Tryd.prog.info? 29).map (·.size) = some cs2.size := c1
  clear hk hs0 hx hst hb2 c1 c2 c3 HRN kp I1 infoIn
  generalize (w2.alloc (.cells cs2 29)) = V2 at *
  generalize w2.heap.size = G2 at *
  generalize walkS P x S = SX at *
  have kp := (HP.out V2 HB2.out).1
  have r2 := (X2.out V2 (Below.refl _ _)).1
  by_cases hst0 : SX.status = 0
  · have hdec : decide (SX.status = 0) = true := by simpa using hst0
    obtain ⟨fs, f, hfr⟩ := may_last HI.out.may hst0
    obtain ⟨hlk, m, hml, hm4, hLS⟩ := enter_leaves HI.out hfr
    have hf12 : f.regs.length = 12 := HI.out.wf f (by rw [hfr]; simp)
    have h16 := HI.out.mem
    have hCP : (entC SX f).Ok := entC_ok h16 hf12
    have HEN : Hid (Calls Tryd.prog 17 #[.agg #[.slice ao n0 cap0], .agg cs2] V2 fun e w' => e = .returned (.tuple #[(entC SX f).val, .int .i64 0]) ∧ Below V2.heap.size V2 w') := enter_ok P _ _ SX f fs V2 (HP.out V2 HB2.out).2.2.1 (HP.out V2 HB2.out).2.2.2 HR.out HI.out.may HI.out.fok (HP.out V2 HB2.out).2.1 (X2.out V2 (Below.refl _ _)).2 (by have := HEV.out; omega) hst0 hfr
    have HLV : Hid (∀ W, Below V2.heap.size V2 W → Calls Tryd.prog 10 #[.agg #[.slice ao n0 cap0], .agg cs2, .agg (cpuCells (entC SX f)).toArray] W fun e w' => OwnPost W { SX with frames := fs ++ [tidF P f] } e w') := fun W hb => by
      have hb1 : Below V1.heap.size V1 W := HB2.out.trans (hb.mono HB2.out.size)
      rw [← hLS]
      exact leave_ok P _ _ SX f fs (entC SX f) m W (HP.out W hb1).2.2.1 (HP.out W hb1).2.2.2 HR.out HI.out.may HI.out.fok (HP.out W hb1).2.1 (X2.out W hb).2 (by have := HEV.out; omega) hst0 hfr hCP hlk (by show (liveL P f.fn.toNat).getD ((dataL SX.mem f.regs SX.fuel f.pc).getD 29 0).toNat 0 = _; rw [dataL_pc h16 hf12]; exact hml) hm4
    have HC32 : Hid ((cpuCells (entC SX f))[32]? = some (.int .i64 0)) := cp_pcAt hCP
    have HC97 : Hid ((cpuCells (entC SX f))[97]? = some (.bool false)) := cp_haltAt hCP
    have i0 : (Tryd.prog.info? 33).map (·.size) = some (cpuCells (entC SX f)).toArray.size := infoCpC hCP
    have o0 := cp_one (entC SX f)
    have hl0 : Tryd.zeroCells33.size = (cpuCells (entC SX f)).toArray.size := by rw [zc_cp, List.size_toArray, cp_len hCP]
    obtain ⟨k, j, hk, hj, hfn, hpj⟩ : ∃ (k j : Nat) (hk : k < P.length), j < P[k].code.length ∧ f.fn = k ∧ f.pc = j := by
      obtain ⟨k, j, hk, hj, e1, e2, e3, e4⟩ := place_nat (fok_all _ HI.out.fok f (by rw [hfr]; simp))
      exact ⟨k, j, hk, hj, e1, e2⟩
    have HLIV : Hid (∀ W, Below V2.heap.size V2 W → Calls Tryd.prog 18 #[.agg #[.slice ao n0 cap0], .int .i64 f.fn] W fun e w' => ∃ v', e = .returned (.tuple #[v', .int .i64 0]) ∧ IntsVal w' v' (liveL P k) ∧ (liveL P k).length = P[k].code.length ∧ (∀ a n c, v' = .slice (some a) n c → W.heap.size ≤ a.block) ∧ Below W.heap.size W w') := fun W hb => by
      have hb1 : Below V1.heap.size V1 W := HB2.out.trans (hb.mono HB2.out.size)
      rw [hfn]
      refine (Live_low P HR.out k hk _ W (HP.out W hb1).2.2.1 (HP.out W hb1).2.2.2 (HP.out W hb1).2.1).mono ?_
      rintro e w' ⟨v', L, rfl, hL, hI, hlo, hb'⟩
      rw [liveL_eq hk hL] at hI hL
      exact ⟨v', rfl, hI, hL.1, hlo, hb'⟩
    have HML : Hid ((liveL P k).getD j 0 = (m : Int)) := by
      have := hml
      rw [hfn, hpj, Int.toNat_natCast, Int.toNat_natCast] at this
      exact this
    obtain ⟨fb2, fo2, fc2, HFR⟩ : ∃ fb fo fc, Hid (cs2[2]? = some (.slice (some ⟨fb, fo, none⟩) (fs.length + 1) fc) ∧ (∀ W, Below V2.heap.size V2 W → W.rangeAt fb (fo + fs.length * 14) (frCells f)) ∧ fs.length + 1 ≤ 9223372036854775807) := by
      obtain ⟨fv, ev, av, e, -, hF, -⟩ := (X2.out V2 (Below.refl _ _)).2
      obtain ⟨hw, fa, fb, fo, n, fc, rfl, g1, g2, g3, g4, g5⟩ := hF
      have hn : n = fs.length + 1 := by rw [← g1, hfr]; simp
      subst hn
      have e2 := g2 (by omega)
      subst e2
      refine ⟨fb, fo, fc, ?_, fun W hb q u hu => ?_, ?_⟩
      · rw [Value.agg.inj e]; rfl
      · have hx := g3 fs.length (by omega) q u (by simpa [hfr] using hu)
        exact keeps_below hb _ _ hx
      · have h6 := g5
        simp only [maxLen] at h6
        have := g4.1
        omega
    have HEND : Hid ({ SX with frames := fs ++ [f] } = SX) := by show _ = _; rw [← hfr]
    have HTF : Hid (tidF P f = ⟨f.fn, f.pc, tidR f.regs m⟩) := by show _ = _; unfold tidF; rw [hml, Int.toNat_natCast]
    have HBITS : Hid (∀ q, bits .and .i64 ((m : Int) / 2 ^ q) 1 = if m.testBit q = true then 1 else 0) := fun q => bit_downL m q hm4
    unfold Cp.val at HEN
    generalize cpuCells (entC SX f) = CC at *
    obtain ⟨fn, pc, regs⟩ := f
    dsimp only at hfn hpj hf12 HTF HEND HLIV HLV HEN HFR
    subst hfn hpj
    clear hfr hlk hml hm4 hLS h16 hCP hst0 HI HEV
    go_upto_region 6 with (first
      | (refine wpList_load_row rfl _ (.tmp 8) rfl _ rfl _ _ _ _ r2 Tryd.underlying29 rfl q2 ?_)
      | (go_at_call 17; refine HEN.out.mono ?_; rintro e w3 ⟨rfl, hb3⟩)
      | (refine wpList_store_row rfl _ _ _ rfl _ CC.toArray rfl rfl _ _ (heap_alloc_last w3 _) i0 hl0 o0 ?_; rw [World.setRow_alloc_new]))
    have HB3 : Hid (Below V2.heap.size V2 (w3.alloc (.cells CC.toArray 33))) := hb3.alloc hb3.size _
    have r3 : (w3.alloc (.cells CC.toArray 33)).heap[w3.heap.size]? = some (.cells CC.toArray 33 (0, 0)) := heap_alloc_last _ _
    clear hb3 HEN
    generalize (w3.alloc (.cells CC.toArray 33)) = V3 at *
    generalize w3.heap.size = G3 at *
    have kp3 := keeps_below HB3.out _ _ kp
    have r23 := (HB3.out.block _ (lt_of_block r2)).trans r2
    have hLV := HLV.out V3 HB3.out
    clear kp r2 HLV
    go_upto_region 7 with (first
      | (refine wpList_load_row rfl 29 (.tmp 8) rfl _ rfl _ _ _ _ r23 Tryd.underlying29 rfl q2 ?_)
      | (refine wpList_load_row rfl 33 (.tmp 11) rfl _ rfl _ _ _ _ r3 Tryd.underlying33 rfl i0 ?_)
      | (go_at_call 10; refine hLV.mono ?_; rintro e w4 hP4; obtain ⟨cs4, rfl, hsp, hb4⟩ := hP4; obtain ⟨csx, hcx, d1, d2, d3⟩ := hsp.at.val.cells; obtain rfl := Value.agg.inj hcx; clear hcx)
      | (refine wpList_store_row rfl _ _ _ rfl _ cs4 rfl rfl _ _ (heap_alloc_last w4 _) d1 d2 d3 ?_; rw [World.setRow_alloc_new]))
    obtain ⟨fv4, ev4, av4, hcs4, HO⟩ := hsp.outN hb4.size
    have HB4 : Hid (Below V3.heap.size V3 (w4.alloc (.cells cs4 29))) := hb4.alloc hb4.size _
    obtain ⟨fb, cap, rfl, f1, f2, f3, f4, f5⟩ := HO.box (i := fs.length) (by simp)
    simp only [List.length_append, List.length_cons, List.length_nil, Nat.zero_add] at HO f1
    have HOH : Hid _ := HO
    have q4 : (Tryd.prog.info? 29).map (·.size) = some cs4.size := d1
    clear hLV hsp hb4 d1 d2 d3 hcs4 HO
    generalize (w4.alloc (.cells cs4 29)) = V4 at *
    generalize w4.heap.size = G4 at *
    have HKEEP : Hid (∀ W, Below V3.heap.size V3 W → W.cell? ⟨G1, 0, none⟩ = some (.slice ao n0 cap0) ∧ W.heap[G2]? = some (.cells cs2 29 (0, 0)) ∧ W.heap[G3]? = some (.cells CC.toArray 33 (0, 0)) ∧ Below V2.heap.size V2 W) := fun W hb => ⟨keeps_below hb _ _ kp3, (hb.block _ (lt_of_block r23)).trans r23, (hb.block _ (lt_of_block r3)).trans r3, HB3.out.trans (hb.mono HB3.out.size)⟩
    obtain ⟨kp4, r24, r34, hb24⟩ := HKEEP.out V4 HB4.out
    have kg4 : V4.cell? ⟨G4, 2, none⟩ = some (.slice (some ⟨fb, 0, none⟩) (fs.length + 1) cap) := by rw [cell_of_row _ _ _ _ _ _ HOH.out.cells]; rfl
    have kc32 : V4.cell? ⟨G3, 32, none⟩ = some (.int .i64 0) := by rw [cell_of_row _ _ _ _ _ _ r34]; simpa using HC32.out
    have kc97 : V4.cell? ⟨G3, 97, none⟩ = some (.bool false) := by rw [cell_of_row _ _ _ _ _ _ r34]; simpa using HC97.out
    have kfr2 : V4.cell? ⟨G2, 2, none⟩ = some (.slice (some ⟨fb2, fo2, none⟩) (fs.length + 1) fc2) := by rw [cell_of_row _ _ _ _ _ _ r24]; exact HFR.out.1
    have kfn : V4.cell? ⟨fb2, fo2 + fs.length * 14, none⟩ = some (.int .i64 (k : Int)) := HFR.out.2.1 V4 hb24 0 _ rfl
    have kfp : V4.cell? ⟨fb2, fo2 + fs.length * 14 + 1, none⟩ = some (.int .i64 (j : Int)) := HFR.out.2.1 V4 hb24 1 _ rfl
    obtain ⟨m1, hm1⟩ : ∃ m : Nat, m = fs.length + 1 := ⟨_, rfl⟩
    have hmb : m1 ≤ 9223372036854775807 := by rw [hm1]; exact HFR.out.2.2
    rw [← hm1] at kg4 kfr2 HOH f1
    have HFS : Hid (cs2[2]? = some (.slice (some ⟨fb2, fo2, none⟩) m1 fc2)) := by show _ = _; rw [hm1]; exact HFR.out.1
    have hs1 : IntKind.i64.wrap ((m1 : Int) - 1) = (fs.length : Int) := by rw [show (m1 : Int) - 1 = (fs.length : Int) by omega]; exact wrap_fits _ (by omega) (by omega)
    have hs1b : wrap64 ((m1 : Int) - 1) = (fs.length : Int) := (wrap64_small _ (by omega) (by omega)).trans (by omega)
    have hlm : (fs.length : Int) < (m1 : Int) := by omega
    have hlm2 : fs.length < m1 := by omega
    have hlz : ¬ (fs.length : Int) < 0 := by omega
    generalize htp : fs.length = tp at *
    have HTP : Hid _ := htp
    clear htp hm1 r24 r34 kp3 r3 r23 i0 o0 hl0
    go_upto_region 11 with fail
    go_upto_region 12 with fail
    clear kc32 kc97
    refine wp_region_held_drew (S := fun W => Below V4.heap.size V4 W) (by kernel_rfl) ((Below.refl _ _).drew) (fun hHeld => ?_)
    show wpAnyH _ _ _ _ _ 13 _ _ _
    refine wpAnyH_take (i := 0) (v := ?_) rfl (by kernel_rfl) (by kernel_rfl) (by kernel_rfl) (fun _ _ _ h => h) (Or.inl ⟨by rfl, ?_⟩) (by assumption) ?_
    rotate_left
    · (intro W hSW; have z0 := keeps_below hSW _ _ kp4; go_simp; try (with_reducible rfl))
    (try simp only [List.getElem_toArray, List.getElem_cons_zero])
    (try simp only [Act.put, List.setIfInBounds_toArray, List.set_cons_zero, List.set_cons_succ])
    refine wpAnyH_take (i := 1) (v := ?_) rfl (by kernel_rfl) (by kernel_rfl) (by kernel_rfl) (fun _ _ _ h => h) (Or.inl ⟨by rfl, ?_⟩) (by assumption) ?_
    rotate_left
    · (intro W hSW; go_simp; try (with_reducible rfl))
    (try simp only [List.getElem_toArray, List.getElem_cons_succ, List.getElem_cons_zero])
    (try simp only [Act.put, List.setIfInBounds_toArray, List.set_cons_zero, List.set_cons_succ])
    refine wpAnyH_take (i := 2) (v := ?_) rfl (by kernel_rfl) (by kernel_rfl) (by kernel_rfl) (fun _ _ _ h => h) (Or.inl ⟨by rfl, ?_⟩) (by assumption) ?_
    rotate_left
    · (intro W hSW; have z0 := keeps_below hSW _ _ kfr2; go_simp; try (with_reducible rfl))
    (try simp only [List.getElem_toArray, List.getElem_cons_succ, List.getElem_cons_zero])
    (try simp only [Act.put, List.setIfInBounds_toArray, List.set_cons_zero, List.set_cons_succ])
    refine wpAnyH_take (i := 3) (v := ?_) rfl (by kernel_rfl) (by kernel_rfl) (by kernel_rfl) (fun _ _ _ h => h) (Or.inl ⟨by rfl, ?_⟩) (by assumption) ?_
    rotate_left
    · (intro W hSW; go_simp; try (with_reducible rfl))
    (try simp only [List.getElem_toArray, List.getElem_cons_succ, List.getElem_cons_zero])
    (try simp only [Act.put, List.setIfInBounds_toArray, List.set_cons_zero, List.set_cons_succ])
    refine wpAnyH_take (i := 4) (v := ?_) rfl (by kernel_rfl) (by kernel_rfl) (by kernel_rfl) (fun _ _ _ h => h) (Or.inl ⟨by rfl, ?_⟩) (by assumption) ?_
    rotate_left
    · (intro W hSW; go_simp; try (with_reducible rfl))
    (try simp only [List.getElem_toArray, List.getElem_cons_succ, List.getElem_cons_zero])
    (try simp only [Act.put, List.setIfInBounds_toArray, List.set_cons_zero, List.set_cons_succ])
    refine wpAnyH_take (i := 5) (v := ?_) rfl (by kernel_rfl) (by kernel_rfl) (by kernel_rfl) (fun _ _ _ h => h) (Or.inl ⟨by rfl, ?_⟩) (by assumption) ?_
    rotate_left
    · (intro W hSW; go_simp; try (with_reducible rfl))
    (try simp only [List.getElem_toArray, List.getElem_cons_succ, List.getElem_cons_zero])
    (try simp only [Act.put, List.setIfInBounds_toArray, List.set_cons_zero, List.set_cons_succ])
    refine wpAnyH_take (i := 6) (v := ?_) rfl (by kernel_rfl) (by kernel_rfl) (by kernel_rfl) (fun _ _ _ h => h) (Or.inl ⟨by rfl, ?_⟩) (by assumption) ?_
    rotate_left
    · (intro W hSW; have z0 := keeps_below hSW _ _ kfn; go_simp; try (with_reducible rfl))
    (try simp only [List.getElem_toArray, List.getElem_cons_succ, List.getElem_cons_zero])
    (try simp only [Act.put, List.setIfInBounds_toArray, List.set_cons_zero, List.set_cons_succ])
    refine wpAnyH_ready (rs := [7]) (by kernel_rfl) (by simp) ?_
    refine AllReadyH.cons rfl (fun K hK => ?_) AllReadyH.nil
    go_simp
    go_at_call 18
    refine (HLIV.out _ hb24.drew).mono ?_
    rintro e w5 ⟨v5, rfl, hI5, hln, hlo5, hb5⟩
    obtain ⟨al, b3, o3, n3, c3, rfl, hl3, hal, -, -, -⟩ := ints_get hI5
    have hjl : j < (liveL P k).length := by rw [hln]; exact hj
    obtain rfl := hal (by omega)
    have hfb3 : fb ≠ b3 := Nat.ne_of_lt (Nat.lt_of_lt_of_le f4 (hlo5 _ _ _ rfl))
    have hjn2 : j < n3 := by omega
    have hjn : (j : Int) < (n3 : Int) := by omega
    have hjle : ¬ (n3 : Int) ≤ (j : Int) := by omega
    have hjz : ¬ (j : Int) < 0 := by omega
    clear hal hlo5 hl3 hln
    have hb45 : Below V4.heap.size V4 w5 := Below.trans hHeld (Below.mono hb5 (Below.size hHeld))
    dsimp only
    refine hK.out _ _ hb45 (fun _ => ?_)
    clear hK K hHeld
    (try simp only [Act.put, List.setIfInBounds_toArray, List.set_cons_zero, List.set_cons_succ])
    refine wpAnyH_take (i := 8) (v := ?_) rfl (by kernel_rfl) (by kernel_rfl) (by kernel_rfl) (fun _ _ _ h => h) (Or.inl ⟨by rfl, ?_⟩) hb45 ?_
    rotate_left
    · (intro W hSW; go_simp; try (with_reducible rfl))
    (try simp only [List.getElem_toArray, List.getElem_cons_succ, List.getElem_cons_zero])
    (try simp only [Act.put, List.setIfInBounds_toArray, List.set_cons_zero, List.set_cons_succ])
    refine wpAnyH_take (i := 9) (v := ?_) rfl (by kernel_rfl) (by kernel_rfl) (by kernel_rfl) (fun _ _ _ h => h) (Or.inl ⟨by rfl, ?_⟩) hb45 ?_
    rotate_left
    · (intro W hSW; go_simp; try (with_reducible rfl))
    (try simp only [List.getElem_toArray, List.getElem_cons_succ, List.getElem_cons_zero])
    (try simp only [Act.put, List.setIfInBounds_toArray, List.set_cons_zero, List.set_cons_succ])
    refine wpAnyH_take (i := 10) (v := ?_) rfl (by kernel_rfl) (by kernel_rfl) (by kernel_rfl) (fun _ _ _ h => h) (Or.inl ⟨by rfl, ?_⟩) hb45 ?_
    rotate_left
    · (intro W hSW; go_simp; try (with_reducible rfl))
    (try simp only [List.getElem_toArray, List.getElem_cons_succ, List.getElem_cons_zero])
    (try simp only [Act.put, List.setIfInBounds_toArray, List.set_cons_zero, List.set_cons_succ])
    refine wpAnyH_take (i := 11) (v := ?_) rfl (by kernel_rfl) (by kernel_rfl) (by kernel_rfl) (fun _ _ _ h => h) (Or.inl ⟨by rfl, ?_⟩) hb45 ?_
    rotate_left
    · (intro W hSW; go_simp; try (with_reducible rfl))
    (try simp only [List.getElem_toArray, List.getElem_cons_succ, List.getElem_cons_zero])
    (try simp only [Act.put, List.setIfInBounds_toArray, List.set_cons_zero, List.set_cons_succ])
    refine wpAnyH_take (i := 12) (v := ?_) rfl (by kernel_rfl) (by kernel_rfl) (by kernel_rfl) (fun _ _ _ h => h) (Or.inl ⟨by rfl, ?_⟩) hb45 ?_
    rotate_left
    · (intro W hSW; go_simp; try (with_reducible rfl))
    (try simp only [List.getElem_toArray, List.getElem_cons_succ, List.getElem_cons_zero])
    (try simp only [Act.put, List.setIfInBounds_toArray, List.set_cons_zero, List.set_cons_succ])
    refine wpAnyH_done (by kernel_rfl) ?_ _
    (try simp only [Act.put])
    have HO5 : Hid _ := HOH.out.below hb45
    have HB5 : Hid (Below V3.heap.size V3 w5) := HB4.out.trans (hb45.mono HB4.out.size)
    have kg5 := keeps_below hb45 _ _ kg4
    have kfr5 := keeps_below hb45 _ _ kfr2
    have kfp5 := keeps_below hb45 _ _ kfp
    have clv : w5.cell? ⟨b3, o3 + j, none⟩ = some (.int .i64 (m : Int)) := by have := ints_cell hI5 j hjl; rw [HML.out] at this; exact this
    clear hb5 hI5 hb45 kp4 kg4 kfr2 kfn kfp HOH HB4 hb24 HLIV
    go_upto_region 15 with fail
    clear kfr5 kfp5 kg5
    go_upto_region 16 with fail
    have HQ0 : Hid (backQ regs m 0 = tidR regs m) := backQ_zero _ _
    have HQA : Hid (backQ regs m 12 = regs) := backQ_all _ _ hf12
    have HQL : Hid (∀ r, r ≤ 12 → (backQ regs m r).length = 12) := fun r hr => backQ_len _ _ r hf12 hr
    have HQG : Hid (∀ r, r < 12 → m.testBit r = false → (backQ regs m r).getD r 0 = 0) := fun r hr hb => by rw [backQ_get _ _ r hf12 hr, if_neg (by rw [hb]; decide)]
    have HQP : Hid (∀ r, r < 12 → (backQ regs m r).set r (regs.getD r 0) = backQ regs m (r + 1)) := fun r hr => backQ_put _ _ r hf12 hr
    have HQK : Hid (∀ r, r < 12 → m.testBit r = true → backQ regs m r = backQ regs m (r + 1)) := fun r hr hb => backQ_skip _ _ r hf12 hr hb
    go_loopw [18] (fun i wr => ∃ r : Nat, r ≤ 12 ∧ i = .int .i64 r ∧ OutAt wr V3.heap.size G4 { SX with frames := fs ++ [⟨(k : Int), (j : Int), backQ regs m r⟩] } (.slice (some ⟨fb, 0, none⟩) m1 cap) ev4 av4 ∧ Below V3.heap.size V3 wr ∧ wr.cell? ⟨b3, o3 + j, none⟩ = some (.int .i64 (m : Int))) (fun i _ => 12 - (intOf i).toNat)
    case atStart => exact ⟨0, by omega, rfl, by rw [HQ0.out, ← HTF.out]; exact HO5.out, HB5.out, clv⟩
    case round =>
      clear HO5 HB5 clv
      obtain ⟨r, hr, rfl, hor, hbr, clv⟩ := hrel
      have HOR : Hid _ := hor
      have HBR : Hid (Below V3.heap.size V3 wr) := hbr
      have kg4 : wr.cell? ⟨G4, 2, none⟩ = some (.slice (some ⟨fb, 0, none⟩) m1 cap) := by rw [cell_of_row _ _ _ _ _ _ hor.cells]; rfl
      obtain ⟨-, r24, -, hb24⟩ := HKEEP.out wr hbr
      have kfr2 : wr.cell? ⟨G2, 2, none⟩ = some (.slice (some ⟨fb2, fo2, none⟩) m1 fc2) := by rw [cell_of_row _ _ _ _ _ _ r24]; exact HFS.out
      have HRG := HFR.out.2.1 wr hb24
      have kfp : wr.cell? ⟨fb2, fo2 + tp * 14 + 1, none⟩ = some (.int .i64 (j : Int)) := HRG 1 _ rfl
      clear hor hbr
      by_cases hr12 : r < 12
      · have hrI : (r : Int) < 12 := by omega
        have hrI2 : ¬ (r : Int) < 0 := by omega
        have hr64 : (r : Int) < 64 := by omega
        have hbd := HBITS.out r
        have hft : (fs ++ [(⟨(k : Int), (j : Int), backQ regs m r⟩ : Fr)])[tp]? = some ⟨(k : Int), (j : Int), backQ regs m r⟩ := by rw [← HTP.out]; simp
        cases hb : m.testBit r
        · rw [hb, if_neg (by decide)] at hbd
          have cold : wr.cell? ⟨fb, tp * 14 + 2 + r, none⟩ = some (.int .i64 0) := by
            have := HOR.out.range hft (2 + r) (.int .i64 ((backQ regs m r).getD r 0)) (by rw [Nat.add_comm]; exact i64s_at (D := backQ regs m r) (n := 12) (HQL.out r hr) hr12)
            rw [HQG.out r hr12 hb] at this
            rw [Nat.add_assoc]; exact this
          have hfz : wr.frozen? ⟨fb, tp * 14 + 2 + r, none⟩ = false := HOR.out.free _
          have csr : wr.cell? ⟨fb2, fo2 + tp * 14 + 2 + r, none⟩ = some (.int .i64 (regs.getD r 0)) := by
            have := HRG (2 + r) (.int .i64 (regs.getD r 0)) (by rw [Nat.add_comm]; exact i64s_at (D := regs) (n := 12) hf12 hr12)
            rw [Nat.add_assoc]; exact this
          obtain ⟨HO8, hb8⟩ := HOR.out.frReg tp hft r hr12 (regs.getD r 0)
          have hsl : ∀ g : Fr, (fs ++ [(⟨(k : Int), (j : Int), backQ regs m r⟩ : Fr)]).set tp g = fs ++ [g] := fun g => by rw [← HTP.out, set_last]
          simp only [hsl, HQP.out r hr12] at HO8
          have clv8 : (wr.setCell ⟨fb, tp * 14 + 2 + r, none⟩ (.int .i64 (regs.getD r 0))).cell? ⟨b3, o3 + j, none⟩ = some (.int .i64 (m : Int)) := cell_setCell_other clv (fun e => hfb3 e.symm)
          generalize regs.getD r 0 = new at *
          have HO8H : Hid _ := HO8
          have HB8 : Hid (Below V3.heap.size V3 (wr.setCell ⟨fb, tp * 14 + 2 + r, none⟩ (.int .i64 new))) := HBR.out.trans hb8
          have HC8 : Hid _ := clv8
          clear HO8 hb8 clv8 HOR hsl hft hb HRG
          go_upto_region 21 with fail
          refine wp_region_last (S := fun W => Below wr.heap.size wr W) _ 15 (by kernel_rfl) (by kernel_rfl) rfl ((Below.refl _ _).drew) (fun hHeld => ?_)
          simp only [List.pop_toArray, List.dropLast]
          refine wpAnyH_take (i := 0) (v := ?_) rfl (by kernel_rfl) (by kernel_rfl) (by kernel_rfl) (fun _ _ _ h => h) (Or.inl ⟨by rfl, ?_⟩) (by assumption) ?_
          rotate_left
          · (intro W hSW; go_simp; try (with_reducible rfl))
          (try simp only [List.getElem_toArray, List.getElem_cons_succ, List.getElem_cons_zero])
          (try simp only [Act.put, List.setIfInBounds_toArray, List.set_cons_zero, List.set_cons_succ])
          refine wpAnyH_take (i := 1) (v := ?_) rfl (by kernel_rfl) (by kernel_rfl) (by kernel_rfl) (fun _ _ _ h => h) (Or.inl ⟨by rfl, ?_⟩) (by assumption) ?_
          rotate_left
          · (intro W hSW; have z0 := keeps_below hSW _ _ kg4; go_simp; try (with_reducible rfl))
          (try simp only [List.getElem_toArray, List.getElem_cons_succ, List.getElem_cons_zero])
          (try simp only [Act.put, List.setIfInBounds_toArray, List.set_cons_zero, List.set_cons_succ])
          refine wpAnyH_take (i := 2) (v := ?_) rfl (by kernel_rfl) (by kernel_rfl) (by kernel_rfl) (fun _ _ _ h => h) (Or.inl ⟨by rfl, ?_⟩) (by assumption) ?_
          rotate_left
          · (intro W hSW; go_simp; try (with_reducible rfl))
          (try simp only [List.getElem_toArray, List.getElem_cons_succ, List.getElem_cons_zero])
          (try simp only [Act.put, List.setIfInBounds_toArray, List.set_cons_zero, List.set_cons_succ])
          refine wpAnyH_take (i := 3) (v := ?_) rfl (by kernel_rfl) (by kernel_rfl) (by kernel_rfl) (fun _ _ _ h => h) (Or.inl ⟨by rfl, ?_⟩) (by assumption) ?_
          rotate_left
          · (intro W hSW; go_simp; try (with_reducible rfl))
          (try simp only [List.getElem_toArray, List.getElem_cons_succ, List.getElem_cons_zero])
          (try simp only [Act.put, List.setIfInBounds_toArray, List.set_cons_zero, List.set_cons_succ])
          refine wpAnyH_take (i := 4) (v := ?_) rfl (by kernel_rfl) (by kernel_rfl) (by kernel_rfl) (fun _ _ _ h => h) (Or.inl ⟨by rfl, ?_⟩) (by assumption) ?_
          rotate_left
          · (intro W hSW; go_simp; try (with_reducible rfl))
          (try simp only [List.getElem_toArray, List.getElem_cons_succ, List.getElem_cons_zero])
          (try simp only [Act.put, List.setIfInBounds_toArray, List.set_cons_zero, List.set_cons_succ])
          refine wpAnyH_take (i := 5) (v := ?_) rfl (by kernel_rfl) (by kernel_rfl) (by kernel_rfl) (fun _ _ _ h => h) (Or.inl ⟨by rfl, ?_⟩) (by assumption) ?_
          rotate_left
          · (intro W hSW; have z0 := keeps_below hSW _ _ kfr2; go_simp; try (with_reducible rfl))
          (try simp only [List.getElem_toArray, List.getElem_cons_succ, List.getElem_cons_zero])
          (try simp only [Act.put, List.setIfInBounds_toArray, List.set_cons_zero, List.set_cons_succ])
          refine wpAnyH_take (i := 6) (v := ?_) rfl (by kernel_rfl) (by kernel_rfl) (by kernel_rfl) (fun _ _ _ h => h) (Or.inl ⟨by rfl, ?_⟩) (by assumption) ?_
          rotate_left
          · (intro W hSW; go_simp; try (with_reducible rfl))
          (try simp only [List.getElem_toArray, List.getElem_cons_succ, List.getElem_cons_zero])
          (try simp only [Act.put, List.setIfInBounds_toArray, List.set_cons_zero, List.set_cons_succ])
          refine wpAnyH_take (i := 7) (v := ?_) rfl (by kernel_rfl) (by kernel_rfl) (by kernel_rfl) (fun _ _ _ h => h) (Or.inl ⟨by rfl, ?_⟩) (by assumption) ?_
          rotate_left
          · (intro W hSW; go_simp; try (with_reducible rfl))
          (try simp only [List.getElem_toArray, List.getElem_cons_succ, List.getElem_cons_zero])
          (try simp only [Act.put, List.setIfInBounds_toArray, List.set_cons_zero, List.set_cons_succ])
          refine wpAnyH_take (i := 8) (v := ?_) rfl (by kernel_rfl) (by kernel_rfl) (by kernel_rfl) (fun _ _ _ h => h) (Or.inl ⟨by rfl, ?_⟩) (by assumption) ?_
          rotate_left
          · (intro W hSW; go_simp; try (with_reducible rfl))
          (try simp only [List.getElem_toArray, List.getElem_cons_succ, List.getElem_cons_zero])
          (try simp only [Act.put, List.setIfInBounds_toArray, List.set_cons_zero, List.set_cons_succ])
          refine wpAnyH_take (i := 9) (v := ?_) rfl (by kernel_rfl) (by kernel_rfl) (by kernel_rfl) (fun _ _ _ h => h) (Or.inl ⟨by rfl, ?_⟩) (by assumption) ?_
          rotate_left
          · (intro W hSW; go_simp; try (with_reducible rfl))
          (try simp only [List.getElem_toArray, List.getElem_cons_succ, List.getElem_cons_zero])
          (try simp only [Act.put, List.setIfInBounds_toArray, List.set_cons_zero, List.set_cons_succ])
          refine wpAnyH_take (i := 10) (v := ?_) rfl (by kernel_rfl) (by kernel_rfl) (by kernel_rfl) (fun _ _ _ h => h) (Or.inl ⟨by rfl, ?_⟩) (by assumption) ?_
          rotate_left
          · (intro W hSW; go_simp; try (with_reducible rfl))
          (try simp only [List.getElem_toArray, List.getElem_cons_succ, List.getElem_cons_zero])
          (try simp only [Act.put, List.setIfInBounds_toArray, List.set_cons_zero, List.set_cons_succ])
          refine wpAnyH_take (i := 11) (v := ?_) rfl (by kernel_rfl) (by kernel_rfl) (by kernel_rfl) (fun _ _ _ h => h) (Or.inl ⟨by rfl, ?_⟩) (by assumption) ?_
          rotate_left
          · (intro W hSW; have z0 := keeps_below hSW _ _ csr; go_simp; try (with_reducible rfl))
          (try simp only [List.getElem_toArray, List.getElem_cons_succ, List.getElem_cons_zero])
          (try simp only [Act.put, List.setIfInBounds_toArray, List.set_cons_zero, List.set_cons_succ])
          refine wpAnyH_take (i := 12) (v := ?_) rfl (by kernel_rfl) (by kernel_rfl) (by kernel_rfl) (fun _ _ _ h => h) (Or.inl ⟨by rfl, ?_⟩) (by assumption) ?_
          rotate_left
          · (intro W hSW; go_simp; try (with_reducible rfl))
          (try simp only [List.getElem_toArray, List.getElem_cons_succ, List.getElem_cons_zero])
          (try simp only [Act.put, List.setIfInBounds_toArray, List.set_cons_zero, List.set_cons_succ])
          refine wpAnyH_take (i := 13) (v := ?_) rfl (by kernel_rfl) (by kernel_rfl) (by kernel_rfl) (fun _ _ _ h => h) (Or.inl ⟨by rfl, ?_⟩) (by assumption) ?_
          rotate_left
          · (intro W hSW; go_simp; try (with_reducible rfl))
          (try simp only [List.getElem_toArray, List.getElem_cons_succ, List.getElem_cons_zero])
          (try simp only [Act.put, List.setIfInBounds_toArray, List.set_cons_zero, List.set_cons_succ])
          refine wpAnyH_take (i := 14) (v := ?_) rfl (by kernel_rfl) (by kernel_rfl) (by kernel_rfl) (fun _ _ _ h => h) (Or.inl ⟨by rfl, ?_⟩) (by assumption) ?_
          rotate_left
          · (intro W hSW; go_simp; try (with_reducible rfl))
          (try simp only [List.getElem_toArray, List.getElem_cons_succ, List.getElem_cons_zero])
          (try simp only [Act.put, List.setIfInBounds_toArray, List.set_cons_zero, List.set_cons_succ])
          refine wpAnyH_done (by kernel_rfl) ?_ _
          refine Or.inl ?_
          have cold8 : wr.drew.cell? ⟨fb, tp * 14 + 2 + r, none⟩ = some (.int .i64 0) := cold
          have hfz8 : wr.drew.frozen? ⟨fb, tp * 14 + 2 + r, none⟩ = false := hfz
          have HO9 : Hid _ := HO8H.out.drew
          have HC9 : Hid ((wr.setCell ⟨fb, tp * 14 + 2 + r, none⟩ (.int .i64 new)).drew.cell? ⟨b3, o3 + j, none⟩ = some (.int .i64 (m : Int))) := HC8.out
          clear hHeld cold hfz kg4 kfr2 csr kfp clv
          go_simp
          go_upto_region 17 with fail
          rw [show (wr.setCell ⟨fb, tp * 14 + 2 + r, none⟩ (.int .i64 new)).drew = (wr.drew.setCell ⟨fb, tp * 14 + 2 + r, none⟩ (.int .i64 new)) from rfl]
          go_wp2
          go_roundw
          case rel => exact ⟨r + 1, by omega, by go_num, HO9.out, HB8.out.drew, HC9.out⟩
          case measure => simp [intOf]; omega
        · rw [hb, if_pos rfl] at hbd
          have HO8H : Hid (OutAt wr V3.heap.size G4 { SX with frames := fs ++ [⟨(k : Int), (j : Int), backQ regs m (r + 1)⟩] } (.slice (some ⟨fb, 0, none⟩) m1 cap) ev4 av4) := by have := HOR.out; rw [HQK.out r hr12 hb] at this; exact this
          clear HOR hft hb HRG
          go_wp2
          go_roundw
          case rel => exact ⟨r + 1, by omega, by go_num, HO8H.out, HBR.out, clv⟩
          case measure => simp [intOf]; omega
      · obtain rfl : r = 12 := by omega
        have hx := HOR.out
        rw [HQA.out, HEND.out] at hx
        have hsv := hx.stp.at.val
        have r44 := hx.cells
        obtain ⟨csx, hcx, y1, -, -⟩ := hsv.cells
        obtain rfl := Value.agg.inj hcx
        have HSS : Hid (Calls Tryd.prog 19 #[.agg cs2, .agg (stCells SX (.slice (some ⟨fb, 0, none⟩) m1 cap) ev4 av4).toArray] wr _) := sameState_keep SX _ _ wr (X2.out wr hb24).2 hsv
        have HBF : Hid (Below w.heap.size w wr) := by
          have h1 := HB1.out.trans (HB2.out.mono HB1.out.size)
          exact h1.trans (hb24.mono h1.size)
        generalize (stCells SX (.slice (some ⟨fb, 0, none⟩) m1 cap) ev4 av4).toArray = XX at *
        clear hx hsv HOR hcx kg4 kfr2 kfp HRG clv hb24
        go_wp2_with (first
          | (refine wpList_load_row rfl 29 (.tmp 8) rfl _ rfl _ _ _ _ r24 Tryd.underlying29 rfl q2 ?_)
          | (refine wpList_load_row rfl 29 (.tmp 13) rfl _ rfl _ _ _ _ r44 Tryd.underlying29 rfl y1 ?_)
          | (go_at_call 19; refine HSS.out.mono ?_; rintro e w9 ⟨rfl, hb9⟩))
        go_ret
        exact ⟨rfl, HBF.out.trans (hb9.mono HBF.out.size)⟩
  · have hdec : decide (SX.status = 0) = false := by simpa using hst0
    have HEN : Hid (Calls Tryd.prog 17 #[.agg #[.slice ao n0 cap0], .agg cs2] V2 fun e w' => e = .returned (.tuple #[zeroCp.val, .int .i64 9]) ∧ Below V2.heap.size V2 w') := by
      have := enter_bad P (.slice ao n0 cap0) (.agg cs2) SX 0 V2 (HP.out V2 HB2.out).2.2.1 (HP.out V2 HB2.out).2.2.2 (HP.out V2 HB2.out).2.1 (X2.out V2 (Below.refl _ _)).2 (checkE_run HR.out HI.out) (fun _ => ⟨HR.out, HI.out.may, HI.out.fok⟩) (by have := HEV.out; omega) (by rw [runE_off hst0]; decide)
      rw [runE_off hst0] at this
      exact this
    have i0 : (Tryd.prog.info? 33).map (·.size) = some (cpuCells zeroCp).toArray.size := infoCpC zero_ok
    have o0 := cp_one zeroCp
    have hl0 : Tryd.zeroCells33.size = (cpuCells zeroCp).toArray.size := by rw [zc_eq]
    have heq := equal_cp zeroCp zero_ok
    have HBT : Hid (Tryd.prog.built 33 [] = some (cpuCells zeroCp).toArray) := built_cp0
    have HLV : Hid (∀ W, Below V2.heap.size V2 W → Calls Tryd.prog 10 #[.agg #[.slice ao n0 cap0], .agg cs2, .agg (cpuCells zeroCp).toArray] W fun e w' => e = .returned (.tuple #[.agg zeroStCells, .int .i64 9]) ∧ Below W.heap.size W w') := fun W hb => by
      have hb1 : Below V1.heap.size V1 W := HB2.out.trans (hb.mono HB2.out.size)
      have := leave_bad P (.slice ao n0 cap0) (.agg cs2) SX 0 zeroCp W (HP.out W hb1).2.2.1 (HP.out W hb1).2.2.2 (HP.out W hb1).2.1 (X2.out W hb).2 (checkE_run HR.out HI.out) (fun _ => ⟨HR.out, HI.out.may, HI.out.fok⟩) (by have := HEV.out; omega) (by rw [runE_off hst0]; decide)
      rw [runE_off hst0] at this
      exact this
    unfold Cp.val at HEN
    generalize cpuCells zeroCp = CC at *
    go_upto_region 6 with (first
      | (refine wpList_load_row rfl _ (.tmp 8) rfl _ rfl _ _ _ _ r2 Tryd.underlying29 rfl q2 ?_)
      | (go_at_call 17; refine HEN.out.mono ?_; rintro e w3 ⟨rfl, hb3⟩)
      | (refine wpList_store_row rfl _ _ _ rfl _ CC.toArray rfl rfl _ _ (heap_alloc_last w3 _) i0 hl0 o0 ?_; rw [World.setRow_alloc_new]))
    have HB3 : Hid (Below V2.heap.size V2 (w3.alloc (.cells CC.toArray 33))) := hb3.alloc hb3.size _
    have r3 : (w3.alloc (.cells CC.toArray 33)).heap[w3.heap.size]? = some (.cells CC.toArray 33 (0, 0)) := heap_alloc_last _ _
    clear hb3 HEN
    generalize (w3.alloc (.cells CC.toArray 33)) = V3 at *
    generalize w3.heap.size = G3 at *
    have kp3 := keeps_below HB3.out _ _ kp
    have r23 := (HB3.out.block _ (lt_of_block r2)).trans r2
    have hLV := HLV.out V3 HB3.out
    clear kp r2 HLV
    go_upto_region 7 with (first
      | (refine wpList_load_row rfl 29 (.tmp 8) rfl _ rfl _ _ _ _ r23 Tryd.underlying29 rfl q2 ?_)
      | (refine wpList_load_row rfl 33 (.tmp 11) rfl _ rfl _ _ _ _ r3 Tryd.underlying33 rfl i0 ?_)
      | (go_at_call 10; refine hLV.mono ?_; rintro e w4 ⟨rfl, hb4⟩)
      | (refine wpList_store_row rfl _ _ _ rfl _ zeroStCells rfl rfl _ _ (heap_alloc_last w4 _) infoSt rfl zeroSt_one ?_; rw [World.setRow_alloc_new]))
    have HB4 : Hid (Below V3.heap.size V3 (w4.alloc (.cells zeroStCells 29))) := hb4.alloc hb4.size _
    have r34 := (HB4.out.block _ (lt_of_block r3)).trans r3
    have HBF : Hid (Below w.heap.size w (w4.alloc (.cells zeroStCells 29))) := by
      have h1 := HB1.out.trans (HB2.out.mono HB1.out.size)
      have h2 := h1.trans (HB3.out.mono h1.size)
      exact h2.trans (HB4.out.mono h2.size)
    clear hb4 hLV r3 r23 kp3
    generalize (w4.alloc (.cells zeroStCells 29)) = V4 at *
    go_wp2_with (first
      | (refine wpList_load_wanted_k rfl _ (.tmp 11) rfl G3 rfl _ _ _ _ r34 Tryd.underlying33 rfl i0 ?_)
      | (refine wpList_build_wanted rfl _ _ rfl CC.toArray (by simpa using HBT.out) ?_))
    go_ret
    exact ⟨rfl, HBF.out⟩
end Go.Proofs.YteabbanjjdmjkaaDoor
