/- The walk of tierlinekeep.FarWalks: at all raw numbers it says true, and nothing that was there has turned (written by gen/mkfwalks.py). -/
import Derived.Test.YtgdmdlkhnokieaaDoorXRunK
import Derived.Test.YtgdmdlkhnokieaaDoorXFarFace
import Derived.Test.YtgdmdlkhnokieaaDoorXFarBad
import Derived.Test.YtgdmdlkhnokieaaDoorXPartMath
import Derived.Test.YtgdmdlkhnokieaaDoorGroupK
namespace Go.Proofs.YtgdmdlkhnokieaaDoor
open Go Go.RowKit

theorem checkE_runF {P : List Fn} {S : St} (hR : ProofAns P 0) (hI : RunInv P S) : ∀ E, ProofAns P E → checkE E P S = 0 := fun E hE => by
  obtain rfl := proofAns_unique hE hR
  unfold checkE
  rw [if_neg (by simp), hI.may, (framesB_iff P S.frames).2 hI.fok]; rfl

def barredQ (op a b : Int) : Int := if op = 5 then (if b = 0 then 3 else 0) else if op = 13 ∨ op = 14 then (if a < 0 ∨ 16 ≤ a then 4 else 0) else 0
/-- Why machine code leaves, told by the blocks that were asked for. -/
def WhyAt (S : List Nat) (T : Nat → Nat) (pc : Nat) (fuel : Int) (n : Nat) : Prop := (∃ i, i < S.length ∧ S.getD i 0 = pc ∧ fuel < ((T i : Nat) : Int) - ((S.getD i 0 : Nat) : Int)) ∨ (n = 0 ∧ ∀ i, i < S.length → S.getD i 0 ≠ pc)
theorem why_at {P : List Fn} (hR : ProofAns P 0) {k : Nat} (hk : k < P.length) {S S' : List Nat} {T T' : Nat → Nat} (hB : BlkOk P[k] S T) (hB' : BlkOk P[k] S' T') {s u : St} {f g : Fr} {pc n : Nat} (ho : OneSt P k (oneS s f) f) (h : FarTo P P[k] S T (oneS s f) u) (hg : u.frames = [g]) (hpc : g.pc = (pc : Int)) (hn : u.fuel = s.fuel - n)
    (h17 : ¬ 17 ≤ (insOfFr P g).op) (hb : barredI (insOfFr P g) (regD g (insOfFr P g).a) (regD g (insOfFr P g).b) = 0) : WhyAt S' T' pc u.fuel n := by
  obtain rfl := hB.starts.unique hB'.starts
  have e : ∀ i, i < S.length → T i = T' i := fun i hi => (hB.ends i hi).unique (hB'.ends i hi)
  obtain ⟨g', o1, -, o3⟩ := FarTo.why hR hk (flowOk_of hR (List.getElem_mem hk)) hB h f ho rfl
  have hgg : g' = g := by have := o1.one; rw [hg] at this; exact (List.cons.inj this).1.symm
  subst hgg
  rcases o3 with a | a | ⟨i, hi, a, b⟩ | ⟨a, b⟩
  · exact absurd a h17
  · exact absurd hb a
  · left
    have e1 : S.getD i 0 = S[i] := by simp [List.getD, hi]
    refine ⟨i, hi, by rw [e1]; omega, ?_⟩
    rw [e1, ← e i hi]; exact b
  · right
    refine ⟨?_, fun i hi hh => b i hi ?_⟩
    · have : u.fuel = s.fuel := by rw [a]; rfl
      omega
    · rw [hpc, ← hh]; simp [List.getD, hi]

set_option maxHeartbeats 8000000 in
set_option maxRecDepth 100000 in
theorem farWalks_walk (l : List Fn) (v : Value) (a0 a1 fuel : Int) (nv : Value) (ln : List Int) (a : Int) (w : World) (ht : TabOk w) (hc : CallOk w) (hv : ProgVal w v l) (hwf : ∀ f ∈ l, f.wf) (hn : IntsVal w nv ln) (hfu : I64 fuel) (ha : I64 a) :
    Calls Tryd.prog 3 #[v, inVal a0 a1 nv fuel, .int .i64 a] w fun e w' => e = .returned (.bool true) ∧ Below w.heap.size w w' := by
  obtain ⟨nao, nc, rfl⟩ := hn.shape
  obtain ⟨lao, ll, lc, rfl⟩ := hv.shape
  have HB0 : Hid (Below w.heap.size w (w.alloc (.cells #[.int .i64 a0, .int .i64 a1, .slice nao ln.length nc, .int .i64 fuel] 26))) := (Below.refl _ _).alloc (Nat.le_refl _) _
  have HTC : Hid (∀ W, Below w.heap.size w W → TabOk W ∧ CallOk W ∧ IntsVal W (.slice nao ln.length nc) ln) := fun W hb => ⟨ht.below hb, hc.below hb, hn.keeps (keeps_below hb)⟩
  have HPR : Hid (Calls Tryd.prog 5 #[.slice lao ll lc] (w.alloc (.cells #[.int .i64 a0, .int .i64 a1, .slice nao ln.length nc, .int .i64 fuel] 26)) _) := kprog l (.slice lao ll lc) (w.alloc (.cells #[.int .i64 a0, .int .i64 a1, .slice nao ln.length nc, .int .i64 fuel] 26)) (HTC.out _ HB0.out).1 (HTC.out _ HB0.out).2.1 (hv.keeps (keeps_below HB0.out)) hwf
  have HFU : Hid (I64 fuel ∧ I64 a) := ⟨hfu, ha⟩
  have infoIn : (Tryd.prog.info? 26).map (·.size) = some 4 := by kernel_rfl
  unfold inVal
  clear ht hc hv hwf hn hfu ha
  go_enter Tryd.func3, Tryd.ntmps3
  go_upto_region 2 with (go_at_call 5; refine HPR.out.mono ?_; rintro e w1 ⟨ao, n0, cap0, P, rfl, hR, hpv, hb1⟩)
  have HR : Hid (ProofAns P 0) := hR
  have HB1 : Hid (Below w.heap.size w (w1.alloc (.cells #[.slice ao n0 cap0] 29))) := (HB0.out.trans (hb1.mono (by simp))).alloc (by have := hb1.size; simp at this; omega) _
  have I1 : (w1.alloc (.cells #[.slice ao n0 cap0] 29)).heap[w.heap.size]? = some (.cells #[.int .i64 a0, .int .i64 a1, .slice nao ln.length nc, .int .i64 fuel] 26 (0, 0)) := (heap_alloc_old _ _ (by have := hb1.size; simp at this; omega)).trans ((hb1.block _ (by simp)).trans (heap_alloc_last w _))
  have HP : Hid (∀ W, Below (w1.alloc (.cells #[.slice ao n0 cap0] 29)).heap.size (w1.alloc (.cells #[.slice ao n0 cap0] 29)) W → W.cell? ⟨w1.heap.size, 0, none⟩ = some (.slice ao n0 cap0) ∧ ProgVal W (.slice ao n0 cap0) P ∧ TabOk W ∧ CallOk W) := fun W hb => ⟨keeps_below hb _ _ (by rw [cell_of_row _ _ _ _ _ _ (heap_alloc_last w1 _)]; rfl), (hpv.keeps (keeps_below ((Below.refl _ _).alloc (Nat.le_refl _) _))).keeps (keeps_below hb), (HTC.out W (HB1.out.trans (hb.mono HB1.out.size))).1, (HTC.out W (HB1.out.trans (hb.mono HB1.out.size))).2.1⟩
  clear hR hpv hb1 HPR HB0
  generalize (w1.alloc (.cells #[.slice ao n0 cap0] 29)) = V1 at *
  generalize w1.heap.size = G1 at *
  have kp := (HP.out V1 (Below.refl _ _)).1
  have HRN : Hid (Calls Tryd.prog 6 #[.agg #[.slice ao n0 cap0], .agg #[.int .i64 a0, .int .i64 a1, .slice nao ln.length nc, .int .i64 fuel], .int .i64 a] V1 _) := runningK_any P (.slice ao n0 cap0) a0 a1 fuel (.slice nao ln.length nc) ln a V1 (HP.out V1 (Below.refl _ _)).2.2.1 (HP.out V1 (Below.refl _ _)).2.2.2 HR.out (HP.out V1 (Below.refl _ _)).2.1 (HTC.out V1 HB1.out).2.2 HFU.out.1 HFU.out.2
  go_upto_region 3 with (first
    | (refine wpList_load_row rfl _ _ rfl _ rfl _ _ _ _ I1 Tryd.underlying26 rfl infoIn ?_)
    | (go_at_call 6; refine HRN.out.mono ?_; rintro e w2 hP2; obtain ⟨cs2, S, x, rfl, hk, hs0, hx, hst, hb2⟩ := hP2; obtain ⟨csx, hcx, c1, c2, c3⟩ := hst.val.cells; obtain rfl := Value.agg.inj hcx; clear hcx)
    | (refine wpList_store_row rfl _ _ _ rfl _ _ rfl rfl _ _ (heap_alloc_last w2 _) c1 c2 c3 ?_; rw [World.setRow_alloc_new]))
  have HI : Hid (RunInv P (walkS P x S)) := (krun_walk hk x).1
  have HEV : Hid ((walkS P x S).events.length ≤ 200) := by have := (krun_walk hk x).2; show _ ≤ _; omega
  have HB2 : Hid (Below V1.heap.size V1 (w2.alloc (.cells cs2 34))) := hb2.alloc hb2.size _
  have X2 : Hid (∀ W, Below (w2.alloc (.cells cs2 34)).heap.size (w2.alloc (.cells cs2 34)) W → W.heap[w2.heap.size]? = some (.cells cs2 34 (0, 0)) ∧ StVal W (.agg cs2) (walkS P x S)) := fun W hb => ⟨(hb.block _ (by simp)).trans (heap_alloc_last w2 _), (hst.val.keeps (keeps_below ((Below.refl _ _).alloc (Nat.le_refl _) _))).keeps (keeps_below hb)⟩
  have q2 : (Tryd.prog.info? 34).map (·.size) = some cs2.size := c1
  clear hk hs0 hx hst hb2 c1 c2 c3 HRN kp I1 infoIn
  generalize (w2.alloc (.cells cs2 34)) = V2 at *
  generalize w2.heap.size = G2 at *
  generalize walkS P x S = SX at *
  have kp := (HP.out V2 HB2.out).1
  have r2 := (X2.out V2 (Below.refl _ _)).1
  by_cases hst0 : SX.status = 0
  · have hdec : decide (SX.status = 0) = true := by simpa using hst0
    obtain ⟨fs, f, k, j, hk, hj, hfr, hfn, hpc, hins, hway, ho⟩ := one_last HR.out HI.out hst0
    have hmay := (mayB_iff _).1 HI.out.may
    have hFA := FarE_ok P (.slice ao n0 cap0) (.agg cs2) SX V2 (HP.out V2 HB2.out).2.2.1 (HP.out V2 HB2.out).2.2.2 HR.out HI.out (HP.out V2 HB2.out).2.1 (X2.out V2 (Below.refl _ _)).2 (by have := HEV.out; omega) hst0 fs f hfr k hk hfn hway
    have HS : Hid (SX.status = 0 ∧ SX.frames = fs ++ [f] ∧ f.fn = (k : Int) ∧ OneSt P k (oneS SX f) f ∧ 0 ≤ SX.fuel ∧ SX.fuel ≤ 10000) := ⟨hst0, hfr, hfn, ho, hmay.2.2.1, hmay.2.2.2.1⟩
    clear hfr hfn hpc hins hway ho hmay hj hst0
    go_upto_region 9 with (first
      | (refine wpList_load_row rfl _ (.tmp 8) rfl _ rfl _ _ _ _ r2 Tryd.underlying34 rfl q2 ?_)
      | (go_at_call 7; refine hFA.mono ?_; rintro e w3 hP3; obtain ⟨cs3, S0, T0, u0, rfl, hB0, hF0, hst3, hb3⟩ := hP3; obtain ⟨n1, hn1, hn2⟩ := far_run HR.out hk hB0 HI.out HS.out.1 HS.out.2.1 HS.out.2.2.2.1 hF0; rw [show SX.fuel - u0.fuel = (n1 : Int) by omega]; have HN : Hid (lft SX fs u0 = walkS P n1 SX ∧ u0.fuel = SX.fuel - n1) := ⟨hn1, hn2⟩; clear hn1 hn2; obtain ⟨csy, hcy, d1, d2, d3⟩ := hst3.at.val.cells; obtain rfl := Value.agg.inj hcy; clear hcy)
      | (refine wpList_store_row rfl _ _ _ rfl _ cs3 rfl rfl _ _ (heap_alloc_last w3 _) d1 d2 d3 ?_; rw [World.setRow_alloc_new]))
    have HB3 : Hid (Below V2.heap.size V2 (w3.alloc (.cells cs3 34))) := hb3.alloc hb3.size _
    have X3 : Hid (∀ W, Below (w3.alloc (.cells cs3 34)).heap.size (w3.alloc (.cells cs3 34)) W → W.heap[w3.heap.size]? = some (.cells cs3 34 (0, 0)) ∧ StVal W (.agg cs3) (lft SX fs u0)) := fun W hb => ⟨(hb.block _ (by simp)).trans (heap_alloc_last w3 _), (hst3.at.val.keeps (keeps_below ((Below.refl _ _).alloc (Nat.le_refl _) _))).keeps (keeps_below hb)⟩
    have HF0 : Hid (BlkOk P[k] S0 T0 ∧ FarTo P P[k] S0 T0 (oneS SX f) u0) := ⟨hB0, hF0⟩
    have q3 : (Tryd.prog.info? 34).map (·.size) = some cs3.size := d1
    clear hFA hst3 hb3 d1 d2 d3 hB0 hF0
    generalize (w3.alloc (.cells cs3 34)) = V3 at *
    generalize w3.heap.size = G3 at *
    have kp3 := keeps_below HB3.out _ _ kp
    have r23 := (HB3.out.block _ (lt_of_block r2)).trans r2
    have HB13 : Hid (Below V1.heap.size V1 V3) := HB2.out.trans (HB3.out.mono HB2.out.size)
    have hWK : Calls Tryd.prog 8 #[.agg #[.slice ao n0 cap0], .agg cs2, .int .i64 (n1 : Int)] V3 fun e w' => ∃ cs4, e = .returned (.tuple #[.agg cs4, .int .i64 0]) ∧ (Tryd.prog.info? 34).map (·.size) = some cs4.size ∧ zeroStCells.size = cs4.size ∧ cs4.all (·.oneCell') = true ∧ StVal w' (.agg cs4) (lft SX fs u0) ∧ Below V3.heap.size V3 w' := by
      have hnl : n1 ≤ 10000 := by
        have h1 := HN.out.2
        have h2 := ((mayB_iff _).1 (far_pure HR.out hk HF0.out.1 HS.out.2.2.2.1 HF0.out.2).2.2.2.2.choose_spec.2.inv.may).2.2.1
        have := HS.out; omega
      refine (walk_ownP P _ (.agg cs2) SX n1 V3 (HP.out V3 HB13.out).2.2.1 (HP.out V3 HB13.out).2.2.2 HR.out (HP.out V3 HB13.out).2.1 (X2.out V3 HB3.out).2 (stays_of_run HR.out HI.out _) (by omega) (by have := HEV.out; omega)).mono ?_
      rintro e w' ⟨v', rfl, hst, hb'⟩
      obtain ⟨cs4, rfl, c1, c2, c3⟩ := hst.at.val.cells
      exact ⟨cs4, rfl, c1, c2, c3, by rw [HN.out.1]; exact hst.at.val, hb'⟩
    go_upto_region 10 with (first
      | (refine wpList_load_row rfl _ (.tmp 8) rfl _ rfl _ _ _ _ r23 Tryd.underlying34 rfl q2 ?_)
      | (go_at_call 8; refine hWK.mono ?_; rintro e w4 ⟨cs4, rfl, d1, d2, d3, hst4, hb4⟩)
      | (refine wpList_store_row rfl _ _ _ rfl _ cs4 rfl rfl _ _ (heap_alloc_last w4 _) d1 d2 d3 ?_; rw [World.setRow_alloc_new]))
    have HB4 : Hid (Below V3.heap.size V3 (w4.alloc (.cells cs4 34))) := hb4.alloc hb4.size _
    have r44 : (w4.alloc (.cells cs4 34)).heap[w4.heap.size]? = some (.cells cs4 34 (0, 0)) := heap_alloc_last w4 _
    have HSV4 : Hid (StVal (w4.alloc (.cells cs4 34)) (.agg cs4) (lft SX fs u0)) := hst4.keeps (keeps_below ((Below.refl _ _).alloc (Nat.le_refl _) _))
    have q4 : (Tryd.prog.info? 34).map (·.size) = some cs4.size := d1
    clear hWK hst4 hb4 d1 d2 d3
    generalize (w4.alloc (.cells cs4 34)) = V4 at *
    generalize w4.heap.size = G4 at *
    have kp4 := keeps_below HB4.out _ _ kp3
    obtain ⟨r34, hsv3⟩ := X3.out V4 HB4.out
    have r24 := (HB4.out.block _ (lt_of_block r23)).trans r23
    have HSS : Hid (Calls Tryd.prog 9 #[.agg cs3, .agg cs4] V4 _) := sameState_keep (lft SX fs u0) _ _ V4 hsv3 HSV4.out
    obtain ⟨v1, v2, v3, v4, g', v5, v6⟩ := far_pure HR.out hk HF0.out.1 HS.out.2.2.2.1 HF0.out.2
    have HU : Hid (u0.status = 0 ∧ u0.frames = [g'] ∧ OneSt P k u0 g' ∧ g'.fn = (k : Int)) := ⟨v4, v5, v6, v6.fn⟩
    have hRf : (lft SX fs u0).frames = fs ++ [g'] := by show fs ++ u0.frames = _; rw [v5]
    obtain ⟨b3, o3, cap3, g32, rng3, h12, cc1, cc2⟩ := hsv3.framesAt hRf
    obtain ⟨b2s, o2s, cap2s, g22, -, -, -, -⟩ := (X2.out V4 (HB3.out.trans (HB4.out.mono HB3.out.size))).2.framesAt HS.out.2.1
    have c30 : V4.cell? ⟨G3, 0, none⟩ = some (.int .i64 0) := by rw [cell_of_row _ _ _ _ _ _ r34, hsv3.atE.1]; show some (Value.int .i64 u0.status) = _; rw [v4]
    have c3f : V4.cell? ⟨G3, 19, none⟩ = some (.int .i64 u0.fuel) := by rw [cell_of_row _ _ _ _ _ _ r34]; exact hsv3.atE.2
    have c2f : V4.cell? ⟨G2, 19, none⟩ = some (.int .i64 SX.fuel) := by rw [cell_of_row _ _ _ _ _ _ r24]; exact (X2.out V4 (HB3.out.trans (HB4.out.mono HB3.out.size))).2.atE.2
    obtain ⟨m1, hm1⟩ : ∃ m1 : Nat, m1 = fs.length + 1 := ⟨_, rfl⟩
    obtain ⟨tp, htp⟩ : ∃ tp : Nat, tp = fs.length := ⟨_, rfl⟩
    rw [← hm1] at g32 g22 cc1
    rw [← htp] at rng3
    have c32 : V4.cell? ⟨G3, 2, none⟩ = some (.slice (some ⟨b3, o3, none⟩) m1 cap3) := by rw [cell_of_row _ _ _ _ _ _ r34]; exact g32
    have c22 : V4.cell? ⟨G2, 2, none⟩ = some (.slice (some ⟨b2s, o2s, none⟩) m1 cap2s) := by rw [cell_of_row _ _ _ _ _ _ r24]; exact g22
    have hs1 : IntKind.i64.wrap (SX.fuel - u0.fuel) = (n1 : Int) := by have h1 := HN.out.2; rw [show SX.fuel - u0.fuel = (n1 : Int) by omega]; have h2 := ((mayB_iff _).1 v6.inv.may).2.2.1; exact wrap_fits _ (by omega) (by have := HS.out; omega)
    have hs1b : wrap64 (SX.fuel - u0.fuel) = (n1 : Int) := by have h1 := HN.out.2; have h2 := ((mayB_iff _).1 v6.inv.may).2.2.1; have := HS.out; exact (wrap64_small _ (by omega) (by omega)).trans (by omega)
    have hs2 : IntKind.i64.wrap ((m1 : Int) - 1) = (tp : Int) := by rw [show (m1 : Int) - 1 = (tp : Int) by omega]; exact wrap_fits _ (by omega) (by omega)
    have hs2b : wrap64 ((m1 : Int) - 1) = (tp : Int) := (wrap64_small _ (by omega) (by omega)).trans (by omega)
    have htm : (tp : Int) < (m1 : Int) := by omega
    have htm2 : tp < m1 := by omega
    have hfl : (Tryd.prog.info? 45).map (·.size) = some (frCells g').length := by rw [frCells_length g' h12]; exact infoFr
    have hfs : (Tryd.prog.info? 45).map (·.size) = some (frCells g').toArray.size := by rw [List.size_toArray]; exact hfl
    have hfo : (frCells g').toArray.all (·.oneCell') = true := by rw [Array.all_eq_true_iff_forall_mem]; intro u hu; exact frCells_one _ u (by simpa using hu)
    have hfz : (zeroFr 0).toArray.size = (frCells g').toArray.size := by rw [List.size_toArray, List.size_toArray, frCells_length g' h12]; rfl
    have HRG : Hid (∀ W, Below V4.heap.size V4 W → W.rangeAt b3 (o3 + tp * 14) (frCells g')) := fun W hb i u hu => keeps_below hb _ _ (rng3 i u hu)
    have H12 : Hid (g'.regs.length = 12) := h12
    have HTP : Hid (tp = fs.length ∧ (lft SX fs u0).frames = fs ++ [g']) := ⟨htp, hRf⟩
    clear v1 v2 v3 v4 v5 v6 g32 g22 rng3 hm1 htp hRf hsv3 h12
    go_upto_region 12 with (first
      | (refine wpList_load_wanted_k rfl _ (.tmp 14) rfl _ rfl _ _ _ _ r34 Tryd.underlying34 rfl q3 ?_)
      | (refine wpList_load_wanted_k rfl _ (.tmp 17) rfl _ rfl _ _ _ _ r44 Tryd.underlying34 rfl q4 ?_)
      | (go_at_call 9; refine HSS.out.mono ?_; rintro e w5 ⟨rfl, hb5⟩; have c305 := keeps_below hb5 _ _ c30; have c3f5 := keeps_below hb5 _ _ c3f; have c2f5 := keeps_below hb5 _ _ c2f; have c325 := keeps_below hb5 _ _ c32; have c225 := keeps_below hb5 _ _ c22; have HRG5 := HRG.out _ hb5; have HB5 : Hid (Below V4.heap.size V4 w5) := hb5; clear hb5))
    clear c30 c3f c2f c32 c22 c305 c2f5 c225 hs1 hs1b
    go_upto_region 13 with (first
      | (refine wpList_load_mid rfl _ _ rfl b3 (o3 + tp * 14) rfl (frCells g') _ HRG5 Tryd.underlying45 rfl hfl ?_)
      | (refine wpList_store_row rfl _ _ _ rfl _ (frCells g').toArray rfl rfl 45 (zeroFr 0).toArray (heap_alloc_last w5 _) hfs hfz hfo ?_; rw [World.setRow_alloc_new]))
    obtain ⟨fs', f', k', j0, hk', hj0, e1, e2, e3, e4, e5, e6⟩ := one_last HR.out (by rw [HN.out.1]; exact runInv_walk HR.out n1 HI.out : RunInv P (lft SX fs u0)) HU.out.1
    have e0 : fs' ++ [f'] = fs ++ [g'] := by rw [← e1]; exact HTP.out.2
    obtain ⟨rfl, e7⟩ := List.append_inj' e0 rfl
    obtain rfl := (List.cons.inj e7).1
    have e8 : k' = k := by have := HU.out.2.2.2; omega
    subst e8
    have HBV : Hid (Below V4.heap.size V4 (w5.alloc (.cells (frCells f').toArray 45))) := HB5.out.alloc HB5.out.size _
    have r55 : (w5.alloc (.cells (frCells f').toArray 45)).heap[w5.heap.size]? = some (.cells (frCells f').toArray 45 (0, 0)) := heap_alloc_last w5 _
    have kp5 := keeps_below HBV.out _ _ kp4
    have tfu5 := cell_alloc c3f5 (.cells (frCells f').toArray 45)
    clear c3f5 c325 HRG5 kp4 r34 r44 r24 kp3 r23 kp r2 hs2 hs2b htm htm2 hfl hfs hfo hfz HRG cc1 cc2 HSS e0 e1 e7 e6 e5 HB5
    generalize (w5.alloc (.cells (frCells f').toArray 45)) = V5 at *
    generalize w5.heap.size = G5 at *
    have HB15 : Hid (Below V1.heap.size V1 V5) := by have h1 := HB13.out.trans (HB4.out.mono HB13.out.size); exact h1.trans (HBV.out.mono h1.size)
    have t50 : V5.cell? ⟨G5, 0, none⟩ = some (.int .i64 (k' : Int)) := by rw [cell_of_row _ _ _ _ _ _ r55]; show some (Value.int .i64 f'.fn) = _; rw [e2]
    have t51 : V5.cell? ⟨G5, 1, none⟩ = some (.int .i64 (j0 : Int)) := by rw [cell_of_row _ _ _ _ _ _ r55]; show some (Value.int .i64 f'.pc) = _; rw [e3]
    have HOK : Hid (FlowOk P P[k']) := flowOk_of HR.out (List.getElem_mem hk')
    obtain ⟨pb, po, pcp, b2, off2, cap2, hpv, hp1, hp2, hp3, hp4, hcode⟩ := prog_codeF (HP.out V5 HB15.out).2.1 hk' HOK.out.ok.len1
    obtain ⟨rfl, rfl, rfl⟩ : ao = some ⟨pb, po, none⟩ ∧ n0 = P.length ∧ cap0 = pcp := by simpa using hpv
    have HCD : Hid (∀ W, Below V5.heap.size V5 W → W.cell? ⟨pb, po + k' * 3 + 2, none⟩ = some (.slice (some ⟨b2, off2, none⟩) P[k'].code.length cap2)) := fun W hb => (hcode W hb).1
    have hio := (HOK.out.insD hj0).1
    obtain ⟨op, hop⟩ : ∃ op, op = (insD P[k'] j0).op := ⟨_, rfl⟩
    obtain ⟨xd, hxd⟩ : ∃ op, op = (insD P[k'] j0).dst := ⟨_, rfl⟩
    obtain ⟨na, hna⟩ : ∃ n : Nat, (insD P[k'] j0).a = (n : Int) := ⟨(insD P[k'] j0).a.toNat, by have := hio.a0; omega⟩
    obtain ⟨nb, hnb⟩ : ∃ n : Nat, (insD P[k'] j0).b = (n : Int) := ⟨(insD P[k'] j0).b.toNat, by have := hio.b0; omega⟩
    obtain ⟨xa, hxa⟩ : ∃ op, op = (insD P[k'] j0).a := ⟨_, rfl⟩
    obtain ⟨xb, hxb⟩ : ∃ op, op = (insD P[k'] j0).b := ⟨_, rfl⟩
    obtain ⟨xi, hxi⟩ : ∃ op, op = (insD P[k'] j0).imm := ⟨_, rfl⟩
    have HINS : Hid (∀ W, Below V5.heap.size V5 W → W.rangeAt b2 (off2 + j0 * 5) [.int .i64 op, .int .i64 xd, .int .i64 xa, .int .i64 xb, .int .i64 xi]) := fun W hb i u hu => by
      obtain ⟨i0, i1, i2, i3, i4⟩ := (hcode W hb).2 j0 hj0
      rw [hop, hxd, hxa, hxb, hxi] at hu
      have hi : i < 5 := (List.getElem?_eq_some_iff.1 hu).1
      match i, hi, hu with
      | 0, _, hu => cases hu; exact i0
      | 1, _, hu => cases hu; exact i1
      | 2, _, hu => cases hu; exact i2
      | 3, _, hu => cases hu; exact i3
      | 4, _, hu => cases hu; exact i4
    have hjc : (j0 : Int) < (P[k'].code.length : Int) := by omega
    have hkc : (k' : Int) < (P.length : Int) := by omega
    have hna12 : na < 12 := by have := hio.a1; omega
    have hnb12 : nb < 12 := by have := hio.b1; omega
    have HWHY0 : Hid (∀ S T, BlkOk P[k'] S T → ¬ 17 ≤ op → barredQ op (f'.regs.getD na 0) (f'.regs.getD nb 0) = 0 → WhyAt S T j0 u0.fuel n1) := fun S T hB h17 hb => by
      refine why_at HR.out hk' HF0.out.1 hB HS.out.2.2.2.1 HF0.out.2 HU.out.2.1 e3 HN.out.2 (by rw [e4, ← hop]; exact h17) ?_
      rw [e4]
      show barredQ (insD P[k'] j0).op (f'.regs.getD (insD P[k'] j0).a.toNat 0) (f'.regs.getD (insD P[k'] j0).b.toNat 0) = 0
      rw [← hop, hna, hnb, Int.toNat_natCast, Int.toNat_natCast]; exact hb
    have ra5 : V5.cell? ⟨G5, 2 + na, none⟩ = some (.int .i64 (f'.regs.getD na 0)) := by rw [cell_of_row _ _ _ _ _ _ r55]; exact frCells_reg12 f' H12.out na hna12
    have rb5 : V5.cell? ⟨G5, 2 + nb, none⟩ = some (.int .i64 (f'.regs.getD nb 0)) := by rw [cell_of_row _ _ _ _ _ _ r55]; exact frCells_reg12 f' H12.out nb hnb12
    rw [hna] at hxa
    rw [hnb] at hxb
    subst hxa hxb
    clear hop hxd hxi hna hnb hio hcode hpv e2 e3 e4 r55
    go_upto_region 13 with fail
    refine wp_region_held_drew (S := fun W => Below V5.heap.size V5 W) (by kernel_rfl) ((Below.refl _ _).drew) (fun hHeld => ?_)
    show wpAnyH _ _ _ _ _ 13 _ _ _
    refine wpAnyH_take (i := 0) (v := ?_) rfl (by kernel_rfl) (by kernel_rfl) (by kernel_rfl) (fun _ _ _ h => h) (Or.inl ⟨by rfl, ?_⟩) (by assumption) ?_
    rotate_left
    · (intro W hSW; go_simp; try (with_reducible rfl))
    (try simp only [List.getElem_toArray, List.getElem_cons_zero])
    (try simp only [Act.put, List.setIfInBounds_toArray, List.set_cons_zero, List.set_cons_succ])
    refine wpAnyH_take (i := 1) (v := ?_) rfl (by kernel_rfl) (by kernel_rfl) (by kernel_rfl) (fun _ _ _ h => h) (Or.inl ⟨by rfl, ?_⟩) (by assumption) ?_
    rotate_left
    · (intro W hSW; have zz := keeps_below hSW _ _ kp5; go_simp; try (with_reducible rfl))
    (try simp only [List.getElem_toArray, List.getElem_cons_succ, List.getElem_cons_zero])
    (try simp only [Act.put, List.setIfInBounds_toArray, List.set_cons_zero, List.set_cons_succ])
    refine wpAnyH_take (i := 2) (v := ?_) rfl (by kernel_rfl) (by kernel_rfl) (by kernel_rfl) (fun _ _ _ h => h) (Or.inl ⟨by rfl, ?_⟩) (by assumption) ?_
    rotate_left
    · (intro W hSW; go_simp; try (with_reducible rfl))
    (try simp only [List.getElem_toArray, List.getElem_cons_succ, List.getElem_cons_zero])
    (try simp only [Act.put, List.setIfInBounds_toArray, List.set_cons_zero, List.set_cons_succ])
    refine wpAnyH_take (i := 3) (v := ?_) rfl (by kernel_rfl) (by kernel_rfl) (by kernel_rfl) (fun _ _ _ h => h) (Or.inl ⟨by rfl, ?_⟩) (by assumption) ?_
    rotate_left
    · (intro W hSW; have zz := keeps_below hSW _ _ t50; go_simp; try (with_reducible rfl))
    (try simp only [List.getElem_toArray, List.getElem_cons_succ, List.getElem_cons_zero])
    (try simp only [Act.put, List.setIfInBounds_toArray, List.set_cons_zero, List.set_cons_succ])
    refine wpAnyH_take (i := 4) (v := ?_) rfl (by kernel_rfl) (by kernel_rfl) (by kernel_rfl) (fun _ _ _ h => h) (Or.inl ⟨by rfl, ?_⟩) (by assumption) ?_
    rotate_left
    · (intro W hSW; go_simp; try (with_reducible rfl))
    (try simp only [List.getElem_toArray, List.getElem_cons_succ, List.getElem_cons_zero])
    (try simp only [Act.put, List.setIfInBounds_toArray, List.set_cons_zero, List.set_cons_succ])
    refine wpAnyH_take (i := 5) (v := ?_) rfl (by kernel_rfl) (by kernel_rfl) (by kernel_rfl) (fun _ _ _ h => h) (Or.inl ⟨by rfl, ?_⟩) (by assumption) ?_
    rotate_left
    · (intro W hSW; go_simp; try (with_reducible rfl))
    (try simp only [List.getElem_toArray, List.getElem_cons_succ, List.getElem_cons_zero])
    (try simp only [Act.put, List.setIfInBounds_toArray, List.set_cons_zero, List.set_cons_succ])
    refine wpAnyH_take (i := 6) (v := ?_) rfl (by kernel_rfl) (by kernel_rfl) (by kernel_rfl) (fun _ _ _ h => h) (Or.inl ⟨by rfl, ?_⟩) (by assumption) ?_
    rotate_left
    · (intro W hSW; have zz := HCD.out W hSW; go_simp; try (with_reducible rfl))
    (try simp only [List.getElem_toArray, List.getElem_cons_succ, List.getElem_cons_zero])
    (try simp only [Act.put, List.setIfInBounds_toArray, List.set_cons_zero, List.set_cons_succ])
    refine wpAnyH_take (i := 7) (v := ?_) rfl (by kernel_rfl) (by kernel_rfl) (by kernel_rfl) (fun _ _ _ h => h) (Or.inl ⟨by rfl, ?_⟩) (by assumption) ?_
    rotate_left
    · (intro W hSW; go_simp; try (with_reducible rfl))
    (try simp only [List.getElem_toArray, List.getElem_cons_succ, List.getElem_cons_zero])
    (try simp only [Act.put, List.setIfInBounds_toArray, List.set_cons_zero, List.set_cons_succ])
    refine wpAnyH_take (i := 8) (v := ?_) rfl (by kernel_rfl) (by kernel_rfl) (by kernel_rfl) (fun _ _ _ h => h) (Or.inl ⟨by rfl, ?_⟩) (by assumption) ?_
    rotate_left
    · (intro W hSW; have zz := keeps_below hSW _ _ t51; go_simp; try (with_reducible rfl))
    (try simp only [List.getElem_toArray, List.getElem_cons_succ, List.getElem_cons_zero])
    (try simp only [Act.put, List.setIfInBounds_toArray, List.set_cons_zero, List.set_cons_succ])
    refine wpAnyH_take (i := 9) (v := ?_) rfl (by kernel_rfl) (by kernel_rfl) (by kernel_rfl) (fun _ _ _ h => h) (Or.inl ⟨by rfl, ?_⟩) (by assumption) ?_
    rotate_left
    · (intro W hSW; go_simp; try (with_reducible rfl))
    (try simp only [List.getElem_toArray, List.getElem_cons_succ, List.getElem_cons_zero])
    (try simp only [Act.put, List.setIfInBounds_toArray, List.set_cons_zero, List.set_cons_succ])
    refine wpAnyH_take (i := 10) (v := .agg [Value.int .i64 op, .int .i64 xd, .int .i64 (na : Int), .int .i64 (nb : Int), .int .i64 xi].toArray) rfl (by kernel_rfl) (by kernel_rfl) (by kernel_rfl) (fun _ _ _ h => h) (yieldsIf_load_mid (by rfl) 47 _ rfl b2 (off2 + j0 * 5) rfl [.int .i64 op, .int .i64 xd, .int .i64 (na : Int), .int .i64 (nb : Int), .int .i64 xi] _ HINS.out Tryd.underlying47 rfl infoIns) (by assumption) ?_
    (try simp only [List.getElem_toArray, List.getElem_cons_succ, List.getElem_cons_zero])
    (try simp only [Act.put, List.setIfInBounds_toArray, List.set_cons_zero, List.set_cons_succ])
    refine wpAnyH_ready (rs := [11]) (by kernel_rfl) (by simp) ?_
    refine AllReadyH.cons rfl (fun K hK => ?_) AllReadyH.nil
    go_simp
    have HBX : Below V5.heap.size V5 (V5.drew.alloc (.cells #[.int .i64 0, .int .i64 0, .int .i64 0, .int .i64 0, .int .i64 0] 47)) := Below.alloc hHeld (Below.size hHeld) _
    refine hK.out _ _ HBX (fun _ => ?_)
    clear hK K
    (try simp only [Act.put, List.setIfInBounds_toArray, List.set_cons_zero, List.set_cons_succ])
    refine wpAnyH_ready (rs := [12]) (by kernel_rfl) (by simp) ?_
    refine AllReadyH.cons rfl (fun K hK => ?_) AllReadyH.nil
    refine wp_store_row 47 _ _ rfl V5.drew.heap.size #[.int .i64 op, .int .i64 xd, .int .i64 (na : Int), .int .i64 (nb : Int), .int .i64 xi] rfl rfl 47 #[.int .i64 0, .int .i64 0, .int .i64 0, .int .i64 0, .int .i64 0] (heap_alloc_last V5.drew _) infoIns rfl (by simp [Value.oneCell']) ?_
    have HBY : Below V5.heap.size V5 (World.setRow (V5.drew.alloc (.cells #[.int .i64 0, .int .i64 0, .int .i64 0, .int .i64 0, .int .i64 0] 47)) V5.drew.heap.size #[.int .i64 op, .int .i64 xd, .int .i64 (na : Int), .int .i64 (nb : Int), .int .i64 xi]) := belowSR HBX (Nat.le_refl _) _
    refine hK.out _ _ HBY (fun _ => ?_)
    clear hK K
    (try simp only [List.getElem_toArray, List.getElem_cons_succ, List.getElem_cons_zero])
    (try simp only [Act.put])
    refine wpAnyH_done (by kernel_rfl) ?_ _
    (try simp only [Act.put, List.getElem_toArray, List.getElem_cons_succ, List.getElem_cons_zero, List.setIfInBounds_toArray, List.set_cons_zero, List.set_cons_succ])
    have HB6 : Hid (Below V5.heap.size V5 (World.setRow (World.drew (V5.alloc (.cells #[.int .i64 0, .int .i64 0, .int .i64 0, .int .i64 0, .int .i64 0] 47))) V5.drew.heap.size #[.int .i64 op, .int .i64 xd, .int .i64 (na : Int), .int .i64 (nb : Int), .int .i64 xi])) := HBY
    have r66 : (World.setRow (World.drew (V5.alloc (.cells #[.int .i64 0, .int .i64 0, .int .i64 0, .int .i64 0, .int .i64 0] 47))) V5.drew.heap.size #[.int .i64 op, .int .i64 xd, .int .i64 (na : Int), .int .i64 (nb : Int), .int .i64 xi]).heap[V5.heap.size]? = some (.cells #[.int .i64 op, .int .i64 xd, .int .i64 (na : Int), .int .i64 (nb : Int), .int .i64 xi] 47 (0, 0)) := setRow_heap _ _ _ _ _ _ (heap_alloc_last V5.drew _)
    clear HBX HBY hHeld HINS HCD hp1 hp2 hp3 hp4
    generalize (World.setRow (World.drew (V5.alloc (.cells #[.int .i64 0, .int .i64 0, .int .i64 0, .int .i64 0, .int .i64 0] 47))) V5.drew.heap.size #[.int .i64 op, .int .i64 xd, .int .i64 (na : Int), .int .i64 (nb : Int), .int .i64 xi]) = V6 at *
    obtain ⟨G6, hG6⟩ : ∃ G6, G6 = V5.heap.size := ⟨_, rfl⟩
    have HB16 : Hid (Below V1.heap.size V1 V6) := HB15.out.trans (HB6.out.mono HB15.out.size)
    have kp6 := keeps_below HB6.out _ _ kp5
    have t60 := keeps_below HB6.out _ _ t50
    have t61 := keeps_below HB6.out _ _ t51
    have ra6 := keeps_below HB6.out _ _ ra5
    have rb6 := keeps_below HB6.out _ _ rb5
    have tfu6 := keeps_below HB6.out _ _ tfu5
    have hBL := Blocks_right P HR.out k' hk' (.slice (some ⟨pb, po, none⟩) P.length cap0) V6 (HP.out V6 HB16.out).2.2.1 (HP.out V6 HB16.out).2.2.2 (HP.out V6 HB16.out).2.1
    (try rw [show V5.drew.heap.size = V5.heap.size from rfl])
    rw [← hG6] at r66 ⊢
    clear hG6 kp5 t50 t51 ra5 rb5 tfu5
    go_upto_region 17 with (go_at_call 10; refine hBL.mono ?_; rintro e w7 ⟨gB, S, T, VV, LL, rfl, hB, hgw, hb7⟩)
    have HB7 : Hid (Below V6.heap.size V6 w7) := hb7
    have HBF : Hid (Below w.heap.size w w7) := by
      have h1 := HB1.out.trans (HB16.out.mono HB1.out.size)
      exact h1.trans (HB7.out.mono h1.size)
    have r67 := (hb7.block _ (lt_of_block r66)).trans r66
    have x0 : w7.cell? ⟨G6, 0, none⟩ = some (.int .i64 op) := by rw [cell_of_row _ _ _ _ _ _ r67]; rfl
    have x2 : w7.cell? ⟨G6, 2, none⟩ = some (.int .i64 (na : Int)) := by rw [cell_of_row _ _ _ _ _ _ r67]; rfl
    have x3 : w7.cell? ⟨G6, 3, none⟩ = some (.int .i64 (nb : Int)) := by rw [cell_of_row _ _ _ _ _ _ r67]; rfl
    have ra := keeps_below hb7 _ _ ra6
    have rb := keeps_below hb7 _ _ rb6
    have tp1 := keeps_below hb7 _ _ t61
    have tfu := keeps_below hb7 _ _ tfu6
    have HBLK0 : Hid (∀ q, q < S.length → w7.cell? ⟨gB, q * 4, none⟩ = some (.int .i64 ((S.getD q 0 : Nat) : Int)) ∧ w7.cell? ⟨gB, q * 4 + 1, none⟩ = some (.int .i64 ((T q : Nat) : Int))) := fun q hq => ⟨blk_from hB.row q hq, blk_to hB.row q hq⟩
    have HLE0 : Hid (∀ q, q < S.length → S.getD q 0 ≤ T q ∧ T q ≤ 1000) := fun q hq => by
      have h1 := hB.ends q hq
      have e1 : S.getD q 0 = S[q] := by simp [List.getD, hq]
      have := HOK.out.ok.len2
      exact ⟨by rw [e1]; exact Nat.le_of_lt h1.lt, by have := h1.le; omega⟩
    have HRISE : Hid (S.Pairwise (· < ·)) := hB.starts.rises
    have HWHY1 : Hid (¬ 17 ≤ op → barredQ op (f'.regs.getD na 0) (f'.regs.getD nb 0) = 0 → WhyAt S T j0 u0.fuel n1) := fun h17 hbq => HWHY0.out S T hB.ok (by omega) hbq
    have hSl : S.length ≤ 1000 := by have := starts_len HOK.out hB.starts; have := HOK.out.ok.len2; omega
    obtain ⟨SL, hSL⟩ : ∃ SL, S.length = SL := ⟨_, rfl⟩
    have HSL : Hid (S.length = SL) := hSL
    rw [hSL] at hSl HBLK0 HLE0 ⊢
    have HBLK := HBLK0
    have HLE := HLE0
    have hnaI : (na : Int) < 12 := by omega
    have hnbI : (nb : Int) < 12 := by omega
    clear hBL hb7 hB hgw hSL HBLK0 HLE0 kp6 t60 t61 ra6 rb6 tfu6 r66 r67 HWHY0 hjc hkc
    generalize f'.regs.getD na 0 = ya at *
    generalize f'.regs.getD nb 0 = yb at *
    have HWHY0 := HWHY1
    clear HWHY1
    generalize hV7 : w7 = V7 at *
    clear hV7
    by_cases h17 : 17 ≤ op
    · have h17d : decide (17 ≤ op) = true := by simpa using h17
      go_wp2
      go_ret
      exact ⟨rfl, HBF.out⟩
    have h17d : decide (17 ≤ op) = false := by simpa using h17
    have h17n : ¬ 17 ≤ op := h17
    by_cases h5 : op = 5
    · have e5 : (op == 5) = true := by simpa using h5
      have e13 : (op == 13) = false := by rw [h5]; rfl
      have e14 : (op == 14) = false := by rw [h5]; rfl
      by_cases hz : yb = 0
      · have ez : (yb == 0) = true := by simpa using hz
        clear hz h5 h17
        go_wp2
        go_ret
        exact ⟨rfl, HBF.out⟩
      · have ez : (yb == 0) = false := by simpa using hz
        have HWHY : Hid (WhyAt S T j0 u0.fuel n1) := HWHY0.out h17 (by rw [h5]; unfold barredQ; rw [if_pos rfl, if_neg hz])
        clear hz h5 h17
        go_upto_region 22 with fail
        clear x0 x2 x3 ra rb
        go_loopw [23] (fun i wr => ∃ q : Nat, q ≤ SL ∧ i = .int .i64 q ∧ (∀ j, j < q → S.getD j 0 ≠ j0) ∧ Below V7.heap.size V7 wr) (fun i _ => SL - (intOf i).toNat)
        case atStart => exact ⟨0, Nat.zero_le _, rfl, fun j h => by omega, Below.refl _ _⟩
        case round =>
          obtain ⟨q, hq, rfl, hno, hbr⟩ := hrel
          have HNO : Hid (∀ j, j < q → S.getD j 0 ≠ j0) := hno
          have HBR : Hid (Below V7.heap.size V7 wr) := hbr
          have HBRN : Hid (∀ n, Below w.heap.size w (wr.drewN n)) := fun n => below_drewN (HBF.out.trans (HBR.out.mono HBF.out.size)) n
          clear hno hbr
          by_cases hlt : q < SL
          · have hqI : (q : Int) < SL := by omega
            have cF := keeps_below HBR.out _ _ (HBLK.out q hlt).1
            have cT := keeps_below HBR.out _ _ (HBLK.out q hlt).2
            have cP := keeps_below HBR.out _ _ tp1
            have cU := keeps_below HBR.out _ _ tfu
            by_cases he : S.getD q 0 = j0
            · have hee : (((S.getD q 0 : Nat) : Int) == (j0 : Int)) = true := by rw [he]; simp
              have hwf : u0.fuel < ((T q : Nat) : Int) - ((S.getD q 0 : Nat) : Int) := by
                rcases HWHY.out with ⟨i, hi, h1, h2⟩ | ⟨-, h2⟩
                · have : i = q := starts_inj HRISE.out hi (by rw [HSL.out]; exact hlt) (by rw [h1, he])
                  rw [← this]; exact h2
                · exact absurd he (h2 q (by rw [HSL.out]; exact hlt))
              obtain ⟨dd, hdd⟩ : ∃ dd : Int, dd = ((T q : Nat) : Int) - ((S.getD q 0 : Nat) : Int) := ⟨_, rfl⟩
              have hw1 : IntKind.i64.wrap (((T q : Nat) : Int) - ((S.getD q 0 : Nat) : Int)) = dd := by
                rw [← hdd]
                have h1 := HLE.out q hlt
                exact wrap_fits _ (by omega) (by omega)
              have hw2 : decide (u0.fuel < dd) = true := by rw [hdd]; simpa using hwf
              have hw3 : u0.fuel < dd := by rw [hdd]; exact hwf
              clear hdd hwf he hw2
              generalize ((S.getD q 0 : Nat) : Int) = yS at *
              generalize ((T q : Nat) : Int) = yT at *
              go_wp2_with fail
              go_quiet (fail)
              go_wp2_with fail
              go_quiet (fail)
              go_wp2
              go_ret
              exact ⟨rfl, below_drewN (HBRN.out _) _⟩
            · have hee : (((S.getD q 0 : Nat) : Int) == (j0 : Int)) = false := by rw [beq_eq_false_iff_ne]; omega
              have HNN : Hid (∀ j, j < q + 1 → S.getD j 0 ≠ j0) := fun j hj => by
                by_cases hjq : j = q
                · rw [hjq]; exact he
                · exact HNO.out j (by omega)
              clear he
              generalize ((S.getD q 0 : Nat) : Int) = yS at *
              go_wp2_with fail
              go_quiet (fail)
              go_wp2
              go_roundw
              case rel => exact ⟨q + 1, by omega, by go_num, HNN.out, below_drewN HBR.out _⟩
              case measure => simp [intOf]; omega
          · have HN0 : Hid (n1 = 0) := by
              rcases HWHY.out with ⟨i, hi, h1, h2⟩ | ⟨h1, -⟩
              · exact absurd h1 (HNO.out i (by have := HSL.out; omega))
              · exact h1
            have hn0 : ((n1 : Int) == 0) = true := by rw [HN0.out]; rfl
            go_wp2
            go_ret
            exact ⟨rfl, HBF.out.trans (HBR.out.mono HBF.out.size)⟩
    have e5 : (op == 5) = false := by simpa using h5
    by_cases h13 : op = 13
    · have e13 : (op == 13) = true := by simpa using h13
      have e14 : (op == 14) = false := by rw [h13]; rfl
      by_cases hl : ya < 0
      · have el : decide (ya < 0) = true := by simpa using hl
        clear h5 h13 h17
        go_wp2
        go_ret
        exact ⟨rfl, HBF.out⟩
      have el : decide (ya < 0) = false := by simpa using hl
      by_cases hg : 16 ≤ ya
      · have eg : decide (16 ≤ ya) = true := by simpa using hg
        clear h5 h13 h17
        go_wp2
        go_ret
        exact ⟨rfl, HBF.out⟩
      · have eg : decide (16 ≤ ya) = false := by simpa using hg
        have HWHY : Hid (WhyAt S T j0 u0.fuel n1) := HWHY0.out h17 (by rw [h13]; unfold barredQ; rw [if_neg (by decide), if_pos (Or.inl rfl), if_neg (by omega)])
        clear h5 h13 h17
        go_upto_region 22 with fail
        clear x0 x2 x3 ra rb
        go_loopw [23] (fun i wr => ∃ q : Nat, q ≤ SL ∧ i = .int .i64 q ∧ (∀ j, j < q → S.getD j 0 ≠ j0) ∧ Below V7.heap.size V7 wr) (fun i _ => SL - (intOf i).toNat)
        case atStart => exact ⟨0, Nat.zero_le _, rfl, fun j h => by omega, Below.refl _ _⟩
        case round =>
          obtain ⟨q, hq, rfl, hno, hbr⟩ := hrel
          have HNO : Hid (∀ j, j < q → S.getD j 0 ≠ j0) := hno
          have HBR : Hid (Below V7.heap.size V7 wr) := hbr
          have HBRN : Hid (∀ n, Below w.heap.size w (wr.drewN n)) := fun n => below_drewN (HBF.out.trans (HBR.out.mono HBF.out.size)) n
          clear hno hbr
          by_cases hlt : q < SL
          · have hqI : (q : Int) < SL := by omega
            have cF := keeps_below HBR.out _ _ (HBLK.out q hlt).1
            have cT := keeps_below HBR.out _ _ (HBLK.out q hlt).2
            have cP := keeps_below HBR.out _ _ tp1
            have cU := keeps_below HBR.out _ _ tfu
            by_cases he : S.getD q 0 = j0
            · have hee : (((S.getD q 0 : Nat) : Int) == (j0 : Int)) = true := by rw [he]; simp
              have hwf : u0.fuel < ((T q : Nat) : Int) - ((S.getD q 0 : Nat) : Int) := by
                rcases HWHY.out with ⟨i, hi, h1, h2⟩ | ⟨-, h2⟩
                · have : i = q := starts_inj HRISE.out hi (by rw [HSL.out]; exact hlt) (by rw [h1, he])
                  rw [← this]; exact h2
                · exact absurd he (h2 q (by rw [HSL.out]; exact hlt))
              obtain ⟨dd, hdd⟩ : ∃ dd : Int, dd = ((T q : Nat) : Int) - ((S.getD q 0 : Nat) : Int) := ⟨_, rfl⟩
              have hw1 : IntKind.i64.wrap (((T q : Nat) : Int) - ((S.getD q 0 : Nat) : Int)) = dd := by
                rw [← hdd]
                have h1 := HLE.out q hlt
                exact wrap_fits _ (by omega) (by omega)
              have hw2 : decide (u0.fuel < dd) = true := by rw [hdd]; simpa using hwf
              have hw3 : u0.fuel < dd := by rw [hdd]; exact hwf
              clear hdd hwf he hw2
              generalize ((S.getD q 0 : Nat) : Int) = yS at *
              generalize ((T q : Nat) : Int) = yT at *
              go_wp2_with fail
              go_quiet (fail)
              go_wp2_with fail
              go_quiet (fail)
              go_wp2
              go_ret
              exact ⟨rfl, below_drewN (HBRN.out _) _⟩
            · have hee : (((S.getD q 0 : Nat) : Int) == (j0 : Int)) = false := by rw [beq_eq_false_iff_ne]; omega
              have HNN : Hid (∀ j, j < q + 1 → S.getD j 0 ≠ j0) := fun j hj => by
                by_cases hjq : j = q
                · rw [hjq]; exact he
                · exact HNO.out j (by omega)
              clear he
              generalize ((S.getD q 0 : Nat) : Int) = yS at *
              go_wp2_with fail
              go_quiet (fail)
              go_wp2
              go_roundw
              case rel => exact ⟨q + 1, by omega, by go_num, HNN.out, below_drewN HBR.out _⟩
              case measure => simp [intOf]; omega
          · have HN0 : Hid (n1 = 0) := by
              rcases HWHY.out with ⟨i, hi, h1, h2⟩ | ⟨h1, -⟩
              · exact absurd h1 (HNO.out i (by have := HSL.out; omega))
              · exact h1
            have hn0 : ((n1 : Int) == 0) = true := by rw [HN0.out]; rfl
            go_wp2
            go_ret
            exact ⟨rfl, HBF.out.trans (HBR.out.mono HBF.out.size)⟩
    have e13 : (op == 13) = false := by simpa using h13
    by_cases h14 : op = 14
    · have e14 : (op == 14) = true := by simpa using h14
      by_cases hl : ya < 0
      · have el : decide (ya < 0) = true := by simpa using hl
        clear h5 h13 h14 h17
        go_wp2
        go_ret
        exact ⟨rfl, HBF.out⟩
      have el : decide (ya < 0) = false := by simpa using hl
      by_cases hg : 16 ≤ ya
      · have eg : decide (16 ≤ ya) = true := by simpa using hg
        clear h5 h13 h14 h17
        go_wp2
        go_ret
        exact ⟨rfl, HBF.out⟩
      · have eg : decide (16 ≤ ya) = false := by simpa using hg
        have HWHY : Hid (WhyAt S T j0 u0.fuel n1) := HWHY0.out h17 (by rw [h14]; unfold barredQ; rw [if_neg (by decide), if_pos (Or.inr rfl), if_neg (by omega)])
        clear h5 h13 h14 h17
        go_upto_region 22 with fail
        clear x0 x2 x3 ra rb
        go_loopw [23] (fun i wr => ∃ q : Nat, q ≤ SL ∧ i = .int .i64 q ∧ (∀ j, j < q → S.getD j 0 ≠ j0) ∧ Below V7.heap.size V7 wr) (fun i _ => SL - (intOf i).toNat)
        case atStart => exact ⟨0, Nat.zero_le _, rfl, fun j h => by omega, Below.refl _ _⟩
        case round =>
          obtain ⟨q, hq, rfl, hno, hbr⟩ := hrel
          have HNO : Hid (∀ j, j < q → S.getD j 0 ≠ j0) := hno
          have HBR : Hid (Below V7.heap.size V7 wr) := hbr
          have HBRN : Hid (∀ n, Below w.heap.size w (wr.drewN n)) := fun n => below_drewN (HBF.out.trans (HBR.out.mono HBF.out.size)) n
          clear hno hbr
          by_cases hlt : q < SL
          · have hqI : (q : Int) < SL := by omega
            have cF := keeps_below HBR.out _ _ (HBLK.out q hlt).1
            have cT := keeps_below HBR.out _ _ (HBLK.out q hlt).2
            have cP := keeps_below HBR.out _ _ tp1
            have cU := keeps_below HBR.out _ _ tfu
            by_cases he : S.getD q 0 = j0
            · have hee : (((S.getD q 0 : Nat) : Int) == (j0 : Int)) = true := by rw [he]; simp
              have hwf : u0.fuel < ((T q : Nat) : Int) - ((S.getD q 0 : Nat) : Int) := by
                rcases HWHY.out with ⟨i, hi, h1, h2⟩ | ⟨-, h2⟩
                · have : i = q := starts_inj HRISE.out hi (by rw [HSL.out]; exact hlt) (by rw [h1, he])
                  rw [← this]; exact h2
                · exact absurd he (h2 q (by rw [HSL.out]; exact hlt))
              obtain ⟨dd, hdd⟩ : ∃ dd : Int, dd = ((T q : Nat) : Int) - ((S.getD q 0 : Nat) : Int) := ⟨_, rfl⟩
              have hw1 : IntKind.i64.wrap (((T q : Nat) : Int) - ((S.getD q 0 : Nat) : Int)) = dd := by
                rw [← hdd]
                have h1 := HLE.out q hlt
                exact wrap_fits _ (by omega) (by omega)
              have hw2 : decide (u0.fuel < dd) = true := by rw [hdd]; simpa using hwf
              have hw3 : u0.fuel < dd := by rw [hdd]; exact hwf
              clear hdd hwf he hw2
              generalize ((S.getD q 0 : Nat) : Int) = yS at *
              generalize ((T q : Nat) : Int) = yT at *
              go_wp2_with fail
              go_quiet (fail)
              go_wp2_with fail
              go_quiet (fail)
              go_wp2
              go_ret
              exact ⟨rfl, below_drewN (HBRN.out _) _⟩
            · have hee : (((S.getD q 0 : Nat) : Int) == (j0 : Int)) = false := by rw [beq_eq_false_iff_ne]; omega
              have HNN : Hid (∀ j, j < q + 1 → S.getD j 0 ≠ j0) := fun j hj => by
                by_cases hjq : j = q
                · rw [hjq]; exact he
                · exact HNO.out j (by omega)
              clear he
              generalize ((S.getD q 0 : Nat) : Int) = yS at *
              go_wp2_with fail
              go_quiet (fail)
              go_wp2
              go_roundw
              case rel => exact ⟨q + 1, by omega, by go_num, HNN.out, below_drewN HBR.out _⟩
              case measure => simp [intOf]; omega
          · have HN0 : Hid (n1 = 0) := by
              rcases HWHY.out with ⟨i, hi, h1, h2⟩ | ⟨h1, -⟩
              · exact absurd h1 (HNO.out i (by have := HSL.out; omega))
              · exact h1
            have hn0 : ((n1 : Int) == 0) = true := by rw [HN0.out]; rfl
            go_wp2
            go_ret
            exact ⟨rfl, HBF.out.trans (HBR.out.mono HBF.out.size)⟩
    have e14 : (op == 14) = false := by simpa using h14
    have HWHY : Hid (WhyAt S T j0 u0.fuel n1) := HWHY0.out h17 (by unfold barredQ; rw [if_neg h5, if_neg (by rintro (h | h); exact h13 h; exact h14 h)])
    clear h5 h13 h14 h17
    go_upto_region 22 with fail
    clear x0 x2 x3 ra rb
    go_loopw [23] (fun i wr => ∃ q : Nat, q ≤ SL ∧ i = .int .i64 q ∧ (∀ j, j < q → S.getD j 0 ≠ j0) ∧ Below V7.heap.size V7 wr) (fun i _ => SL - (intOf i).toNat)
    case atStart => exact ⟨0, Nat.zero_le _, rfl, fun j h => by omega, Below.refl _ _⟩
    case round =>
      obtain ⟨q, hq, rfl, hno, hbr⟩ := hrel
      have HNO : Hid (∀ j, j < q → S.getD j 0 ≠ j0) := hno
      have HBR : Hid (Below V7.heap.size V7 wr) := hbr
      have HBRN : Hid (∀ n, Below w.heap.size w (wr.drewN n)) := fun n => below_drewN (HBF.out.trans (HBR.out.mono HBF.out.size)) n
      clear hno hbr
      by_cases hlt : q < SL
      · have hqI : (q : Int) < SL := by omega
        have cF := keeps_below HBR.out _ _ (HBLK.out q hlt).1
        have cT := keeps_below HBR.out _ _ (HBLK.out q hlt).2
        have cP := keeps_below HBR.out _ _ tp1
        have cU := keeps_below HBR.out _ _ tfu
        by_cases he : S.getD q 0 = j0
        · have hee : (((S.getD q 0 : Nat) : Int) == (j0 : Int)) = true := by rw [he]; simp
          have hwf : u0.fuel < ((T q : Nat) : Int) - ((S.getD q 0 : Nat) : Int) := by
            rcases HWHY.out with ⟨i, hi, h1, h2⟩ | ⟨-, h2⟩
            · have : i = q := starts_inj HRISE.out hi (by rw [HSL.out]; exact hlt) (by rw [h1, he])
              rw [← this]; exact h2
            · exact absurd he (h2 q (by rw [HSL.out]; exact hlt))
          obtain ⟨dd, hdd⟩ : ∃ dd : Int, dd = ((T q : Nat) : Int) - ((S.getD q 0 : Nat) : Int) := ⟨_, rfl⟩
          have hw1 : IntKind.i64.wrap (((T q : Nat) : Int) - ((S.getD q 0 : Nat) : Int)) = dd := by
            rw [← hdd]
            have h1 := HLE.out q hlt
            exact wrap_fits _ (by omega) (by omega)
          have hw2 : decide (u0.fuel < dd) = true := by rw [hdd]; simpa using hwf
          have hw3 : u0.fuel < dd := by rw [hdd]; exact hwf
          clear hdd hwf he hw2
          generalize ((S.getD q 0 : Nat) : Int) = yS at *
          generalize ((T q : Nat) : Int) = yT at *
          go_wp2_with fail
          go_quiet (fail)
          go_wp2_with fail
          go_quiet (fail)
          go_wp2
          go_ret
          exact ⟨rfl, below_drewN (HBRN.out _) _⟩
        · have hee : (((S.getD q 0 : Nat) : Int) == (j0 : Int)) = false := by rw [beq_eq_false_iff_ne]; omega
          have HNN : Hid (∀ j, j < q + 1 → S.getD j 0 ≠ j0) := fun j hj => by
            by_cases hjq : j = q
            · rw [hjq]; exact he
            · exact HNO.out j (by omega)
          clear he
          generalize ((S.getD q 0 : Nat) : Int) = yS at *
          go_wp2_with fail
          go_quiet (fail)
          go_wp2
          go_roundw
          case rel => exact ⟨q + 1, by omega, by go_num, HNN.out, below_drewN HBR.out _⟩
          case measure => simp [intOf]; omega
      · have HN0 : Hid (n1 = 0) := by
          rcases HWHY.out with ⟨i, hi, h1, h2⟩ | ⟨h1, -⟩
          · exact absurd h1 (HNO.out i (by have := HSL.out; omega))
          · exact h1
        have hn0 : ((n1 : Int) == 0) = true := by rw [HN0.out]; rfl
        go_wp2
        go_ret
        exact ⟨rfl, HBF.out.trans (HBR.out.mono HBF.out.size)⟩
  · have hdec : decide (SX.status = 0) = false := by simpa using hst0
    have HFB : Hid (Calls Tryd.prog 7 #[.agg #[.slice ao n0 cap0], .agg cs2] V2 fun e w' => e = .returned (.tuple #[.agg zeroStCells, .int .i64 0, .int .i64 9]) ∧ Below V2.heap.size V2 w') := by
      have := FarE_bad P (.slice ao n0 cap0) (.agg cs2) SX 0 V2 (HP.out V2 HB2.out).2.2.1 (HP.out V2 HB2.out).2.2.2 (HP.out V2 HB2.out).2.1 (X2.out V2 (Below.refl _ _)).2 (checkE_runF HR.out HI.out) (fun _ => ⟨HR.out, HI.out.may, HI.out.fok⟩) (by have := HEV.out; omega) (by rw [runE_off hst0]; decide)
      rw [runE_off hst0] at this
      exact this
    have HBF : Hid (Below w.heap.size w V2) := HB1.out.trans (HB2.out.mono HB1.out.size)
    go_wp2_with (first
      | (refine wpList_load_row rfl _ (.tmp 8) rfl _ rfl _ _ _ _ r2 Tryd.underlying34 rfl q2 ?_)
      | (go_at_call 7; refine HFB.out.mono ?_; rintro e w3 ⟨rfl, hb3⟩)
      | (refine wpList_store_row rfl _ _ _ rfl _ zeroStCells rfl rfl _ _ (heap_alloc_last w3 _) infoSt rfl zeroSt_one ?_; rw [World.setRow_alloc_new]))
    go_ret
    exact ⟨rfl, HBF.out.trans ((hb3.alloc hb3.size _).mono HBF.out.size)⟩
end Go.Proofs.YtgdmdlkhnokieaaDoor
