/- The walk of tierlinekeep.EmitParts: at all raw numbers it says true, and nothing that was there has turned (written by gen/mkeparts.py). -/
import Derived.Test.YtgdmdlkhnokieaaDoorXRunK
import Derived.Test.YtgdmdlkhnokieaaDoorXFarFace
import Derived.Test.YtgdmdlkhnokieaaDoorXPartMath
namespace Go.Proofs.YtgdmdlkhnokieaaDoor
open Go Go.RowKit

theorem StVal.fuelTo {w : World} {cs : Array Value} {s : St} (h : StVal w (.agg cs) s) (x : Int) : StVal w (.agg (cs.setIfInBounds 19 (.int .i64 x))) { s with fuel := x } := by
  obtain ⟨fv, ev, av, e, hm, h1, h2, h3⟩ := h
  obtain rfl := Value.agg.inj e
  refine ⟨fv, ev, av, ?_, hm, h1, h2, h3⟩
  rw [List.setIfInBounds_toArray, stC_fuel fv ev av hm]

set_option maxHeartbeats 8000000 in
set_option maxRecDepth 100000 in
theorem emitParts_walk (l : List Fn) (v : Value) (a0 a1 fuel : Int) (nv : Value) (ln : List Int) (a part : Int) (w : World) (ht : TabOk w) (hc : CallOk w) (hv : ProgVal w v l) (hwf : ∀ f ∈ l, f.wf) (hn : IntsVal w nv ln) (hfu : I64 fuel) (ha : I64 a) (hpt : I64 part) :
    Calls Tryd.prog 4 #[v, inVal a0 a1 nv fuel, .int .i64 a, .int .i64 part] w fun e w' => e = .returned (.bool true) ∧ Below w.heap.size w w' := by
  obtain ⟨nao, nc, rfl⟩ := hn.shape
  obtain ⟨lao, ll, lc, rfl⟩ := hv.shape
  have HB0 : Hid (Below w.heap.size w (w.alloc (.cells #[.int .i64 a0, .int .i64 a1, .slice nao ln.length nc, .int .i64 fuel] 26))) := (Below.refl _ _).alloc (Nat.le_refl _) _
  have HTC : Hid (∀ W, Below w.heap.size w W → TabOk W ∧ CallOk W ∧ IntsVal W (.slice nao ln.length nc) ln) := fun W hb => ⟨ht.below hb, hc.below hb, hn.keeps (keeps_below hb)⟩
  have HPR : Hid (Calls Tryd.prog 5 #[.slice lao ll lc] (w.alloc (.cells #[.int .i64 a0, .int .i64 a1, .slice nao ln.length nc, .int .i64 fuel] 26)) _) := kprog l (.slice lao ll lc) (w.alloc (.cells #[.int .i64 a0, .int .i64 a1, .slice nao ln.length nc, .int .i64 fuel] 26)) (HTC.out _ HB0.out).1 (HTC.out _ HB0.out).2.1 (hv.keeps (keeps_below HB0.out)) hwf
  have HFU : Hid (I64 fuel ∧ I64 a) := ⟨hfu, ha⟩
  have HPT : Hid (I64 part) := hpt
  have infoIn : (Tryd.prog.info? 26).map (·.size) = some 4 := by kernel_rfl
  unfold inVal
  clear ht hc hv hwf hn hfu ha hpt
  go_enter Tryd.func4, Tryd.ntmps4
  go_upto_region 2 with (go_at_call 5; refine HPR.out.mono ?_; rintro e w1 ⟨ao, n0, cap0, P, rfl, hR, hpv, hb1⟩)
  have HR : Hid (ProofAns P 0) := hR
  have HB1 : Hid (Below w.heap.size w (w1.alloc (.cells #[.slice ao n0 cap0] 29))) := (HB0.out.trans (hb1.mono (by simp))).alloc (by have := hb1.size; simp at this; omega) _
  have I1 : (w1.alloc (.cells #[.slice ao n0 cap0] 29)).heap[w.heap.size]? = some (.cells #[.int .i64 a0, .int .i64 a1, .slice nao ln.length nc, .int .i64 fuel] 26 (0, 0)) := (heap_alloc_old _ _ (by have := hb1.size; simp at this; omega)).trans ((hb1.block _ (by simp)).trans (heap_alloc_last w _))
  have HP : Hid (∀ W, Below (w1.alloc (.cells #[.slice ao n0 cap0] 29)).heap.size (w1.alloc (.cells #[.slice ao n0 cap0] 29)) W → W.cell? ⟨w1.heap.size, 0, none⟩ = some (.slice ao n0 cap0) ∧ ProgVal W (.slice ao n0 cap0) P ∧ TabOk W ∧ CallOk W) := fun W hb => ⟨keeps_below hb _ _ (by rw [cell_of_row _ _ _ _ _ _ (heap_alloc_last w1 _)]; rfl), (hpv.keeps (keeps_below ((Below.refl _ _).alloc (Nat.le_refl _) _))).keeps (keeps_below hb), (HTC.out W (HB1.out.trans (hb.mono HB1.out.size))).1, (HTC.out W (HB1.out.trans (hb.mono HB1.out.size))).2.1⟩
  clear hR hpv hb1 HPR HB0
  generalize (w1.alloc (.cells #[.slice ao n0 cap0] 29)) = V1 at *
  generalize w1.heap.size = G1 at *
  have kp := (HP.out V1 (Below.refl _ _)).1
  have HRN : Hid (Calls Tryd.prog 6 #[.agg #[.slice ao n0 cap0], .agg #[.int .i64 a0, .int .i64 a1, .slice nao ln.length nc, .int .i64 fuel], .int .i64 a] V1 _) := runningK_any P (.slice ao n0 cap0) a0 a1 fuel (.slice nao ln.length nc) ln a V1 (HP.out V1 (Below.refl _ _)).2.2.1 (HP.out V1 (Below.refl _ _)).2.2.2 HR.out (HP.out V1 (Below.refl _ _)).2.1 (HTC.out V1 HB1.out).2.2 HFU.out.1 HFU.out.2
  go_upto_region 3 with (first
    | (refine wpList_load_row rfl _ _ rfl _ rfl _ _ _ _ I1 Tryd.underlying26 rfl infoIn ?_)
    | (go_at_call 6; refine HRN.out.mono ?_; rintro e w2 hP2; obtain ⟨cs2, S, x, rfl, hk, hs0, hx, hst, hb2⟩ := hP2; obtain ⟨csx, hcx, c1, c2, c3⟩ := hst.val.cells; obtain rfl := Value.agg.inj hcx; clear hcx)
    | (refine wpList_store_row rfl _ _ _ rfl _ _ rfl rfl _ _ (heap_alloc_last w2 _) c1 c2 c3 ?_; rw [World.setRow_alloc_new]))
  have HI : Hid (RunInv P (walkS P x S)) := (krun_walk hk x).1
  have HEV : Hid ((walkS P x S).events.length ≤ 200) := by have := (krun_walk hk x).2; show _ ≤ _; omega
  have HB2 : Hid (Below V1.heap.size V1 (w2.alloc (.cells cs2 34))) := hb2.alloc hb2.size _
  have X2 : Hid (∀ W, Below (w2.alloc (.cells cs2 34)).heap.size (w2.alloc (.cells cs2 34)) W → W.heap[w2.heap.size]? = some (.cells cs2 34 (0, 0)) ∧ StVal W (.agg cs2) (walkS P x S)) := fun W hb => ⟨(hb.block _ (by simp)).trans (heap_alloc_last w2 _), (hst.val.keeps (keeps_below ((Below.refl _ _).alloc (Nat.le_refl _) _))).keeps (keeps_below hb)⟩
  have q2 : (Tryd.prog.info? 34).map (·.size) = some cs2.size := c1
  clear hk hs0 hx hst hb2 c1 c2 c3 HRN kp I1 infoIn
  generalize (w2.alloc (.cells cs2 34)) = V2 at *
  generalize w2.heap.size = G2 at *
  generalize walkS P x S = SX at *
  have kp := (HP.out V2 HB2.out).1
  have r2 := (X2.out V2 (Below.refl _ _)).1
  by_cases hst0 : SX.status = 0
  · have hdec : decide (SX.status = 0) = true := by simpa using hst0
    have HB1' : Hid (Below w.heap.size w V1) := HB1.out
    obtain ⟨fs, f, k, j, hk, hj, hfr, hfn, hpc, hins, hway, ho⟩ := one_last HR.out HI.out hst0
    have hmay := (mayB_iff _).1 HI.out.may
    have hFA := FarE_ok P (.slice ao n0 cap0) (.agg cs2) SX V2 (HP.out V2 HB2.out).2.2.1 (HP.out V2 HB2.out).2.2.2 HR.out HI.out (HP.out V2 HB2.out).2.1 (X2.out V2 (Below.refl _ _)).2 (by have := HEV.out; omega) hst0 fs f hfr k hk hfn hway
    have HS : Hid (SX.status = 0 ∧ SX.frames = fs ++ [f] ∧ f.fn = (k : Int) ∧ OneSt P k (oneS SX f) f ∧ 0 ≤ SX.fuel ∧ SX.fuel ≤ 10000) := ⟨hst0, hfr, hfn, ho, hmay.2.2.1, hmay.2.2.2.1⟩
    clear hfr hfn hpc hins hway ho hmay hj
    go_upto_region 8 with (first
      | (refine wpList_load_row rfl _ (.tmp 10) rfl _ rfl _ _ _ _ r2 Tryd.underlying34 rfl q2 ?_)
      | (go_at_call 7; refine hFA.mono ?_; rintro e w3 hP3; obtain ⟨cs3, S0, T0, u0, rfl, hB0, hF0, hst3, hb3⟩ := hP3; obtain ⟨kk, hkk⟩ : ∃ kk : Int, kk = SX.fuel - u0.fuel := ⟨_, rfl⟩; rw [← hkk]; have HKK : Hid (kk = SX.fuel - u0.fuel) := hkk; clear hkk; obtain ⟨csy, hcy, d1, d2, d3⟩ := hst3.at.val.cells; obtain rfl := Value.agg.inj hcy; clear hcy)
      | (refine wpList_store_row rfl _ _ _ rfl _ cs3 rfl rfl _ _ (heap_alloc_last w3 _) d1 d2 d3 ?_; rw [World.setRow_alloc_new]))
    have HB3 : Hid (Below V2.heap.size V2 (w3.alloc (.cells cs3 34))) := hb3.alloc hb3.size _
    have X3 : Hid (∀ W, Below (w3.alloc (.cells cs3 34)).heap.size (w3.alloc (.cells cs3 34)) W → W.heap[w3.heap.size]? = some (.cells cs3 34 (0, 0)) ∧ StVal W (.agg cs3) (lft SX fs u0)) := fun W hb => ⟨(hb.block _ (by simp)).trans (heap_alloc_last w3 _), (hst3.at.val.keeps (keeps_below ((Below.refl _ _).alloc (Nat.le_refl _) _))).keeps (keeps_below hb)⟩
    have HF0 : Hid (BlkOk P[k] S0 T0 ∧ FarTo P P[k] S0 T0 (oneS SX f) u0) := ⟨hB0, hF0⟩
    have q3 : (Tryd.prog.info? 34).map (·.size) = some cs3.size := d1
    clear hFA hst3 hb3 d1 d2 d3 hB0 hF0
    generalize (w3.alloc (.cells cs3 34)) = V3 at *
    generalize w3.heap.size = G3 at *
    have kp3 := keeps_below HB3.out _ _ kp
    have r23 := (HB3.out.block _ (lt_of_block r2)).trans r2
    have HSV3 : Hid (StVal V3 (.agg cs2) SX) := (X2.out V3 HB3.out).2
    obtain ⟨csz, hcz, y1, y2, y3⟩ := HSV3.out.cells
    obtain rfl := Value.agg.inj hcz
    clear hcz
    go_upto_region 9 with (first
      | (refine wpList_load_row rfl _ (.tmp 10) rfl _ rfl _ _ _ _ r23 Tryd.underlying34 rfl q2 ?_)
      | (refine wpList_store_row rfl _ _ _ rfl _ cs2 rfl rfl _ _ (heap_alloc_last V3 _) y1 y2 y3 ?_; rw [World.setRow_alloc_new]))
    have HB4 : Hid (Below V3.heap.size V3 (V3.alloc (.cells cs2 34))) := (Below.refl _ _).alloc (Nat.le_refl _) _
    have r44 : (V3.alloc (.cells cs2 34)).heap[V3.heap.size]? = some (.cells cs2 34 (0, 0)) := heap_alloc_last _ _
    have HG4 : Hid (V3.heap.size = V3.heap.size) := rfl
    obtain ⟨V4, hV4⟩ : ∃ V4, V4 = (V3.alloc (.cells cs2 34)) := ⟨_, rfl⟩
    obtain ⟨G4, hG4⟩ : ∃ G4, G4 = V3.heap.size := ⟨_, rfl⟩
    rw [← hV4] at HB4 r44
    rw [← hG4] at r44
    have HGE : Hid (G4 = V3.heap.size) := hG4
    rw [← hV4, ← hG4]
    clear hV4 hG4 HG4
    have r24 := (HB4.out.block _ (lt_of_block r23)).trans r23
    have kp4 := keeps_below HB4.out _ _ kp3
    have c24 : V4.cell? ⟨G2, 19, none⟩ = some (.int .i64 SX.fuel) := by rw [cell_of_row _ _ _ _ _ _ r24]; exact HSV3.out.atE.2
    have c44 : V4.cell? ⟨G4, 19, none⟩ = some (.int .i64 SX.fuel) := by rw [cell_of_row _ _ _ _ _ _ r44]; exact HSV3.out.atE.2
    have z44 : V4.frozen? ⟨G4, 19, none⟩ = false := row_free r44 19
    have hadd : IntKind.i64.wrap (SX.fuel + 1) = SX.fuel + 1 := wrap_fits _ (by have := HS.out; omega) (by have := HS.out; omega)
    have hpx := pickI_bounds part (SX.fuel + 1) (by have := HS.out; omega)
    have hPK := fun W => picked_any part (SX.fuel + 1) W HPT.out (by have := HS.out; omega) (by have := HS.out; omega)
    obtain ⟨x, hx⟩ : ∃ x, x = pickI part (SX.fuel + 1) := ⟨_, rfl⟩
    rw [← hx] at hpx
    have hPK2 : Hid (∀ W, Calls Tryd.prog 11 #[.int .i64 part, .int .i64 (SX.fuel + 1)] W fun e w' => e = .returned (.int .i64 x) ∧ w' = W) := fun W => by rw [hx]; exact hPK W
    have HX : Hid (0 ≤ x ∧ x ≤ SX.fuel) := ⟨hpx.1, by omega⟩
    clear hx hpx hPK
    go_upto_region 10 with (go_at_call 11; refine (hPK2.out _).mono ?_; rintro e w5 ⟨rfl, hw5⟩; replace hw5 := hw5.symm; subst hw5)
    have r25 : (V4.setCell ⟨G4, 19, none⟩ (.int .i64 x)).heap[G2]? = some (.cells cs2 34 (0, 0)) := (heap_setCell_other _ _ _ _ (by have := HGE.out; have := lt_of_block r23; show G2 ≠ G4; omega)).trans r24
    have r45 : (V4.setCell ⟨G4, 19, none⟩ (.int .i64 x)).heap[G4]? = some (.cells (cs2.setIfInBounds 19 (.int .i64 x)) 34 (0, 0)) := row_setCell _ r44
    have HB5 : Hid (Below V3.heap.size V3 (V4.setCell ⟨G4, 19, none⟩ (.int .i64 x))) := HB4.out.setCell (by show V3.heap.size ≤ G4; rw [HGE.out]; exact Nat.le_refl _) _
    have HSV5 : Hid (StVal (V4.setCell ⟨G4, 19, none⟩ (.int .i64 x)) (.agg (cs2.setIfInBounds 19 (.int .i64 x))) { SX with fuel := x }) := (HSV3.out.keeps (keeps_below HB5.out)).fuelTo x
    have kp5 := keeps_below HB5.out _ _ kp3
    clear c24 c44 z44 r24 r44 kp4 HB4 hadd hPK2
    generalize V4.setCell ⟨G4, 19, none⟩ (.int .i64 x) = V5 at *
    have HB25 : Hid (Below V1.heap.size V1 V5) := by have h1 := HB2.out.trans (HB3.out.mono HB2.out.size); exact h1.trans (HB5.out.mono h1.size)
    have HIH : Hid (RunInv P { SX with fuel := x } ∧ OneSt P k (oneS { SX with fuel := x } f) f) := by
      have h1 : RunInv P { SX with fuel := x } := HI.out.fuelTo HX.out.1 (by have := HX.out; have := HS.out; omega)
      obtain ⟨fs', f', k', j', hk', hj', e1, e2, e3, e4, e5, e6⟩ := one_last HR.out h1 HS.out.1
      have e0 : fs' ++ [f'] = fs ++ [f] := by rw [← e1]; exact HS.out.2.1
      obtain ⟨rfl, e7⟩ := List.append_inj' e0 rfl
      obtain rfl := (List.cons.inj e7).1
      have : k' = k := by have := HS.out.2.2.1; omega
      subst this
      exact ⟨h1, e6⟩
    have hwy : Way P[k] 63 f.pc.toNat := by have := HI.out.reach f (by rw [HS.out.2.1]; simp); unfold ReachFr at this; rw [HS.out.2.2.1] at this; simpa [fnD, List.getD, hk] using this
    have hFH := FarE_ok P (.slice ao n0 cap0) (.agg (cs2.setIfInBounds 19 (.int .i64 x))) { SX with fuel := x } V5 (HP.out V5 HB25.out).2.2.1 (HP.out V5 HB25.out).2.2.2 HR.out HIH.out.1 (HP.out V5 HB25.out).2.1 HSV5.out (by have := HEV.out; show SX.events.length ≤ 1000; omega) HS.out.1 fs f HS.out.2.1 k hk HS.out.2.2.1 hwy
    have q5 : (Tryd.prog.info? 34).map (·.size) = some (cs2.setIfInBounds 19 (.int .i64 x)).size := by rw [Array.size_setIfInBounds]; exact q2
    have HC5 : Hid ((cs2.setIfInBounds 19 (.int .i64 x))[19]? = some (.int .i64 x)) := HSV5.out.atE.2
    clear hwy
    generalize (cs2.setIfInBounds 19 (.int .i64 x)) = csH at *
    go_upto_region 11 with (first
      | (refine wpList_load_row rfl _ (.tmp 16) rfl _ rfl _ _ _ _ r45 Tryd.underlying34 rfl q5 ?_)
      | (go_at_call 7; refine hFH.mono ?_; rintro e w6 hP6; obtain ⟨cs6, S1, T1, u1, rfl, hB1, hF1, hst6, hb6⟩ := hP6; obtain ⟨mm, hmm⟩ : ∃ mm : Int, mm = ({ SX with fuel := x } : St).fuel - u1.fuel := ⟨_, rfl⟩; rw [← hmm]; have HMM : Hid (mm = x - u1.fuel) := hmm; clear hmm; obtain ⟨csy, hcy, d1, d2, d3⟩ := hst6.at.val.cells; obtain rfl := Value.agg.inj hcy; clear hcy)
      | (refine wpList_store_row rfl _ _ _ rfl _ cs6 rfl rfl _ _ (heap_alloc_last w6 _) d1 d2 d3 ?_; rw [World.setRow_alloc_new]))
    have HG6 : Hid (V5.heap.size ≤ w6.heap.size) := hb6.size
    have HB6 : Hid (Below V5.heap.size V5 (w6.alloc (.cells cs6 34))) := hb6.alloc hb6.size _
    have r66 : (w6.alloc (.cells cs6 34)).heap[w6.heap.size]? = some (.cells cs6 34 (0, 0)) := heap_alloc_last w6 _
    have HSV6 : Hid (∀ W, Keeps w6 W → StVal W (.agg cs6) (lft { SX with fuel := x } fs u1)) := fun W hk => hst6.at.val.keeps hk
    have HF1 : Hid (BlkOk P[k] S1 T1 ∧ FarTo P P[k] S1 T1 (oneS { SX with fuel := x } f) u1) := ⟨hB1, hF1⟩
    have HK6 : Hid (∀ z, Keeps w6 ((w6.alloc (.cells cs6 34)).setCell ⟨w6.heap.size, 19, none⟩ (.int .i64 z))) := fun z a u hu => cell_setCell_other (cell_alloc hu _) (by have := World.block_lt_of_cell? _ _ hu; show a.block ≠ w6.heap.size; omega)
    have c66 : (w6.alloc (.cells cs6 34)).cell? ⟨w6.heap.size, 19, none⟩ = some (.int .i64 u1.fuel) := by rw [cell_of_row _ _ _ _ _ _ r66]; exact hst6.at.val.atE.2
    have q6 : (Tryd.prog.info? 34).map (·.size) = some cs6.size := d1
    clear hFH hst6 hb6 d1 d2 d3 hB1 hF1
    generalize (w6.alloc (.cells cs6 34)) = V6 at *
    obtain ⟨G6, hG6⟩ : ∃ G6, G6 = w6.heap.size := ⟨_, rfl⟩
    rw [← hG6] at r66 c66 HK6 ⊢
    rw [← hG6] at HG6
    clear hG6
    have HB56 : Hid (Below V1.heap.size V1 V6) := HB25.out.trans (HB6.out.mono HB25.out.size)
    have r26 := (HB6.out.block _ (lt_of_block r25)).trans r25
    have r46 := (HB6.out.block _ (lt_of_block r45)).trans r45
    have kp6 := keeps_below HB6.out _ _ kp5
    have c26 : V6.cell? ⟨G2, 19, none⟩ = some (.int .i64 SX.fuel) := by rw [cell_of_row _ _ _ _ _ _ r26]; exact HSV3.out.atE.2
    have c46 : V6.cell? ⟨G4, 19, none⟩ = some (.int .i64 x) := by rw [cell_of_row _ _ _ _ _ _ r46]; exact HC5.out
    have z66 : V6.frozen? ⟨G6, 19, none⟩ = false := row_free r66 19
    obtain ⟨v1, v2, v3, v4, f1, v5, v6⟩ := far_pure HR.out hk HF1.out.1 HIH.out.2 HF1.out.2
    obtain ⟨n1, hn1, hn2⟩ := far_run HR.out hk HF1.out.1 HIH.out.1 HS.out.1 (show ({ SX with fuel := x } : St).frames = fs ++ [f] from HS.out.2.1) HIH.out.2 HF1.out.2
    replace hn2 : u1.fuel = x - n1 := hn2
    have hu1 := ((mayB_iff _).1 v6.inv.may).2.2
    have hI1 : RunInv P (lft { SX with fuel := x } fs u1) := by rw [hn1]; exact runInv_walk HR.out n1 HIH.out.1
    have HB1 : Hid (0 ≤ u1.fuel ∧ u1.fuel ≤ x ∧ u1.status = 0 ∧ u1.frames = [f1] ∧ f1.fn = (k : Int)) := ⟨hu1.1, by omega, v4, v5, v6.fn⟩
    have hI2 : RunInv P (addF (SX.fuel - x) (lft { SX with fuel := x } fs u1)) := hI1.fuelTo (by show 0 ≤ u1.fuel + (SX.fuel - x); have := HB1.out; have := HX.out; omega) (by show u1.fuel + (SX.fuel - x) ≤ 10000; have := HB1.out; have := HX.out; have := HS.out; omega)
    have HI2 : Hid (RunInv P (addF (SX.fuel - x) (lft { SX with fuel := x } fs u1))) := hI2
    have hs1 : IntKind.i64.wrap (SX.fuel - x) = SX.fuel - x := wrap_fits _ (by have := HX.out; omega) (by have := HX.out; have := HS.out; omega)
    have hs2 : IntKind.i64.wrap (u1.fuel + (SX.fuel - x)) = u1.fuel + (SX.fuel - x) := wrap_fits _ (by have := HB1.out; have := HX.out; omega) (by have := HB1.out; have := HX.out; have := HS.out; omega)
    have hs2b : wrap64 (u1.fuel + (SX.fuel - x)) = u1.fuel + (SX.fuel - x) := wrap64_small _ (by have := HB1.out; have := HX.out; omega) (by have := HB1.out; have := HX.out; have := HS.out; omega)
    clear v1 v2 v3 v4 v5 v6 hn1 hn2 hu1 hI1 hI2
    go_upto_region 12 with fail
    have r27 : (V6.setCell ⟨G6, 19, none⟩ (.int .i64 (u1.fuel + (SX.fuel - x)))).heap[G2]? = some (.cells cs2 34 (0, 0)) := (heap_setCell_other _ _ _ _ (by have := HG6.out; have := lt_of_block r25; show G2 ≠ G6; omega)).trans r26
    have r67 : (V6.setCell ⟨G6, 19, none⟩ (.int .i64 (u1.fuel + (SX.fuel - x)))).heap[G6]? = some (.cells (cs6.setIfInBounds 19 (.int .i64 (u1.fuel + (SX.fuel - x)))) 34 (0, 0)) := row_setCell _ r66
    have HB7 : Hid (Below V5.heap.size V5 (V6.setCell ⟨G6, 19, none⟩ (.int .i64 (u1.fuel + (SX.fuel - x))))) := HB6.out.setCell HG6.out _
    have HSV7 : Hid (StVal (V6.setCell ⟨G6, 19, none⟩ (.int .i64 (u1.fuel + (SX.fuel - x)))) (.agg (cs6.setIfInBounds 19 (.int .i64 (u1.fuel + (SX.fuel - x))))) (addF (SX.fuel - x) (lft { SX with fuel := x } fs u1))) := (HSV6.out _ (HK6.out _)).fuelTo (u1.fuel + (SX.fuel - x))
    have q7 : (Tryd.prog.info? 34).map (·.size) = some (cs6.setIfInBounds 19 (.int .i64 (u1.fuel + (SX.fuel - x)))).size := by rw [Array.size_setIfInBounds]; exact q6
    have kp7 := keeps_below HB7.out _ _ kp5
    have HB57 : Hid (Below V1.heap.size V1 (V6.setCell ⟨G6, 19, none⟩ (.int .i64 (u1.fuel + (SX.fuel - x))))) := HB25.out.trans (HB7.out.mono HB25.out.size)
    have HB37 : Hid (Below V3.heap.size V3 (V6.setCell ⟨G6, 19, none⟩ (.int .i64 (u1.fuel + (SX.fuel - x))))) := HB5.out.trans (HB7.out.mono HB5.out.size)
    clear r26 r46 kp6 c26 c46 z66 c66 hs1 hs2 hs2b HSV6 HK6 r66
    generalize V6.setCell ⟨G6, 19, none⟩ (.int .i64 (u1.fuel + (SX.fuel - x))) = V7 at *
    generalize (cs6.setIfInBounds 19 (.int .i64 (u1.fuel + (SX.fuel - x)))) = csJ at *
    have hfr7 : (addF (SX.fuel - x) (lft { SX with fuel := x } fs u1)).frames = fs ++ [f1] := by show fs ++ u1.frames = _; rw [HB1.out.2.2.2.1]
    have hwy7 : Way P[k] 63 f1.pc.toNat := by have := HI2.out.reach f1 (by rw [hfr7]; simp); unfold ReachFr at this; rw [HB1.out.2.2.2.2] at this; simpa [fnD, List.getD, hk] using this
    have hFJ := FarE_ok P (.slice ao n0 cap0) (.agg csJ) (addF (SX.fuel - x) (lft { SX with fuel := x } fs u1)) V7 (HP.out V7 HB57.out).2.2.1 (HP.out V7 HB57.out).2.2.2 HR.out HI2.out (HP.out V7 HB57.out).2.1 HSV7.out (by have := HEV.out; show SX.events.length ≤ 1000; omega) HB1.out.2.2.1 fs f1 hfr7 k hk HB1.out.2.2.2.2 hwy7
    clear hfr7 hwy7
    go_upto_region 13 with (first
      | (refine wpList_load_row rfl _ (.tmp 17) rfl _ rfl _ _ _ _ r67 Tryd.underlying34 rfl q7 ?_)
      | (go_at_call 7; refine hFJ.mono ?_; rintro e w8 hP8; obtain ⟨cs8, S2, T2, u2, rfl, hB2, hF2, hst8, hb8⟩ := hP8; obtain ⟨oo, hoo⟩ : ∃ oo : Int, oo = (addF (SX.fuel - x) (lft { SX with fuel := x } fs u1)).fuel - u2.fuel := ⟨_, rfl⟩; rw [← hoo]; have HOO : Hid (oo = u1.fuel + (SX.fuel - x) - u2.fuel) := hoo; clear hoo; obtain ⟨csy, hcy, d1, d2, d3⟩ := hst8.at.val.cells; obtain rfl := Value.agg.inj hcy; clear hcy)
      | (refine wpList_store_row rfl _ _ _ rfl _ cs8 rfl rfl _ _ (heap_alloc_last w8 _) d1 d2 d3 ?_; rw [World.setRow_alloc_new]))
    have HB8 : Hid (Below V7.heap.size V7 (w8.alloc (.cells cs8 34))) := hb8.alloc hb8.size _
    have r88 : (w8.alloc (.cells cs8 34)).heap[w8.heap.size]? = some (.cells cs8 34 (0, 0)) := heap_alloc_last w8 _
    have hu20 := far_parts HR.out hk HF0.out.1 HF1.out.1 hB2 HX.out.2 HIH.out.2 HF0.out.2 HF1.out.2 HB1.out.2.2.2.1 hF2
    subst hu20
    have HSV8 : Hid (StVal (w8.alloc (.cells cs8 34)) (.agg cs8) (lft SX fs u2)) := hst8.at.val.keeps (keeps_below ((Below.refl _ _).alloc (Nat.le_refl _) _))
    have HB38 : Hid (Below V3.heap.size V3 (w8.alloc (.cells cs8 34))) := HB37.out.trans (HB8.out.mono HB37.out.size)
    have q8 : (Tryd.prog.info? 34).map (·.size) = some cs8.size := d1
    clear hst8 hb8 d1 d2 d3 hB2 hF2 hFJ
    generalize (w8.alloc (.cells cs8 34)) = V8 at *
    generalize w8.heap.size = G8 at *
    have r38 := (X3.out V8 HB38.out).1
    have HSS : Hid (Calls Tryd.prog 9 #[.agg cs3, .agg cs8] V8 _) := sameState_keep (lft SX fs u2) _ _ V8 (X3.out V8 HB38.out).2 HSV8.out
    have hmo : mm + oo = kk ∧ 0 ≤ kk ∧ kk ≤ 10000 := by
      have h1 := HMM.out; have h2 := HOO.out; have h3 := HKK.out
      obtain ⟨n0, -, hn0⟩ := far_run HR.out hk HF0.out.1 HI.out HS.out.1 HS.out.2.1 HS.out.2.2.2.1 HF0.out.2
      have hu := ((mayB_iff _).1 (far_pure HR.out hk HF0.out.1 HS.out.2.2.2.1 HF0.out.2).2.2.2.2.choose_spec.2.inv.may).2.2.1
      have := HS.out
      exact ⟨by omega, by omega, by omega⟩
    have hsum : IntKind.i64.wrap (mm + oo) = kk := by rw [hmo.1]; exact wrap_fits _ hmo.2.1 (by have := hmo.2.2; omega)
    have hsumb : wrap64 (mm + oo) = kk := by rw [hmo.1]; exact wrap64_small _ (by have := hmo.2.1; omega) (by have := hmo.2.2; omega)
    clear hmo
    have HBF : Hid (Below w.heap.size w V8) := by
      have h1 := HB1'.out.trans (HB2.out.mono HB1'.out.size)
      have h2 := h1.trans (HB3.out.mono h1.size)
      exact h2.trans (HB38.out.mono h2.size)
    clear r25 r27 r45 r67 kp5 kp7 r23 kp3 r2 kp
    go_wp2_with (first
      | (refine wpList_load_wanted_k rfl _ (.tmp 13) rfl _ rfl _ _ _ _ r38 Tryd.underlying34 rfl q3 ?_)
      | (refine wpList_load_wanted_k rfl _ (.tmp 20) rfl _ rfl _ _ _ _ r88 Tryd.underlying34 rfl q8 ?_)
      | (go_at_call 9; refine HSS.out.mono ?_; rintro e w9 ⟨rfl, hb9⟩))
    go_ret
    exact ⟨rfl, HBF.out.trans (hb9.mono HBF.out.size)⟩
  · have hdec : decide (SX.status = 0) = false := by simpa using hst0
    have HBF : Hid (Below w.heap.size w V2) := HB1.out.trans (HB2.out.mono HB1.out.size)
    go_wp2
    go_ret
    exact ⟨rfl, HBF.out⟩
end Go.Proofs.YtgdmdlkhnokieaaDoor
