/- Contract of profile.Counts, where nothing is refused. -/
import Derived.Test.YtndogdojcbcjgaaDoorXProfNought
import Derived.Test.YtndogdojcbcjgaaDoorXStepRun
import Derived.Test.YtndogdojcbcjgaaDoorGroupE
import Derived.Test.YtndogdojcbcjgaaDoorGroupK
import Derived.Test.YtndogdojcbcjgaaDoorGroupB
namespace Go.Proofs.YtndogdojcbcjgaaDoor
open Go Go.RowKit

/-- A state's cells, once its events are cut. -/
theorem StAt.cut {w : World} {base : Nat} {cs : Array Value} {S : St} (h : StAt w base (.agg cs) S) : StAt w base (.agg (cs.setIfInBounds 20 (.slice none 0 0))) (cutE S) ∧ ∃ er ec, cs[20]? = some (.slice er S.events.length ec) := by
  obtain ⟨fv, ev, av, e, hm, hf, he, ha, l1, l2, l3⟩ := h
  obtain rfl := Value.agg.inj e
  obtain ⟨er, ec, rfl⟩ := he.shape
  have hl : ([.int .i64 S.status, .int .i64 S.value, fv] ++ i64s S.mem).length = 19 := by simp [i64s, hm]
  refine ⟨⟨fv, .slice none 0 0, av, ?_, hm, hf, ints_nil w, ha, l1, low_nil _, l3⟩, er, ec, ?_⟩
  · rw [List.setIfInBounds_toArray]
    congr 2
    unfold stCells cutE
    rw [List.set_append_right _ _ (by omega), hl]
    rfl
  · rw [List.getElem?_toArray]
    unfold stCells
    rw [List.getElem?_append_right (by omega), hl]
    rfl
theorem CntAt.row {w : World} {g N : Nat} {VV : Nat → Value} {P : List Fn} {C : List (List Int)} (hN : N = P.length) (hs : CShape P C) (h : CntAt w g N VV C) {k j : Nat} (hk : k < P.length) (hj : j < P[k].code.length) :
    ∃ r c, VV k = .slice (some ⟨r, 0, none⟩) P[k].code.length c ∧ g < r ∧ r < w.heap.size ∧ P[k].code.length ≤ c ∧ c ≤ 9223372036854775807 ∧ w.cell? ⟨r, j, none⟩ = some (.int .i64 (cellC C k j)) ∧ w.frozen? ⟨r, j, none⟩ = false ∧
      ∀ d, CntAt (w.setCell ⟨r, j, none⟩ (.int .i64 (cellC C k j + d))) g N VV (addC C k j d) ∧ w.grownBy (w.setCell ⟨r, j, none⟩ (.int .i64 (cellC C k j + d))) (some r) := by
  have hl := hs.2 k hk
  have ho := h.slots.own k (by omega)
  obtain ⟨r, c, e, h1, h2, h3, h4⟩ := own_at ho (by omega)
  unfold OwnI at ho
  rw [e] at ho
  have ho' := ho
  rw [hl] at ho' e h4
  unfold maxLen at h3
  refine ⟨r, c, e, by omega, h2, h4, h3, row_cell ho' j hj, ho'.frozenAt j, fun d => ?_⟩
  have hst := ho.stored j (.int .i64 (cellC C k j + d))
  obtain ⟨s1, s2⟩ := hst
  have e3 : (i64s (C.getD k [])).set j (.int .i64 (cellC C k j + d)) = i64s ((C.getD k []).set j (cellC C k j + d)) := by simp [i64s, List.map_set]
  rw [e3] at s1
  refine ⟨⟨h.out.kept s2 (Or.inr (by simp [Value.ownBlock]; omega)), ?_⟩, s2⟩
  have hu := h.slots.upd (s := k) (by omega) (w' := w.setCell ⟨r, j, none⟩ (.int .i64 (cellC C k j + d))) (by rw [e]; exact s2) (v := VV k) (l := (C.getD k []).set j (cellC C k j + d)) (by rw [e]; unfold OwnI; rw [List.length_set, hl]; rw [hl] at s1; exact s1) (Or.inl rfl)
  have e1 : upd VV k (VV k) = VV := by funext q; unfold upd; split <;> simp_all
  have e2 : upd (fun k => C.getD k []) k ((C.getD k []).set j (cellC C k j + d)) = fun q => (addC C k j d).getD q [] := by
    funext q
    unfold addC upd cellC
    rw [getD_set_row _ _ _ _ (by rw [hs.1]; exact hk)]
  rw [e1, e2] at hu
  exact hu
theorem frame_fn {f : Fr} {k j : Nat} (h1 : f.fn = k) (h2 : f.pc = j) : (frCells f).toArray[0]? = some (.int .i64 (k : Int)) ∧ (frCells f).toArray[1]? = some (.int .i64 (j : Int)) := by
  rw [← h1, ← h2]; exact ⟨rfl, rfl⟩

set_option maxRecDepth 100000 in
set_option maxHeartbeats 8000000 in
theorem counts_any (P : List Fn) (v va vn : Value) (args answers : List Int) (fuel : Nat) (w : World) (ht : TabOk w) (hc : CallOk w) (hR : ProofAns P 0) (hv : ProgVal w v P) (hva : IntsVal w va args) (hvn : IntsVal w vn answers)
    (h1 : (args.length : Int) = par0 P) (h2 : answers.length ≤ 100) (h4 : fuel ≤ 10000) :
    Calls Tryd.prog 31 #[.agg #[v], va, vn, .int .i64 (fuel : Int)] w fun e w' => ∃ g VV n, e = .returned (.tuple #[.slice (some ⟨g, 0, none⟩) P.length P.length, .int .i64 0]) ∧ CntAt w' g P.length VV (cntS P (beginSt args answers fuel) n) ∧ (walkS P n (beginSt args answers fuel)).status ≠ 0 ∧ w.heap.size ≤ g ∧ Below w.heap.size w w' := by
  have hbx : ∀ o, Below w.heap.size w (w.alloc o) := fun o => (Below.refl _ _).alloc (Nat.le_refl _) _
  have hBG := fun o => begin_right P v va vn args answers fuel (w.alloc o) (ht.below (hbx o)) (hc.below (hbx o)) hR (hv.keeps (keeps_below (hbx o))) (hva.keeps (keeps_below (hbx o))) (hvn.keeps (keeps_below (hbx o))) h1 h2 (by omega) (by omega)
  have hal : args.length ≤ 12 := by
    have := (right_head hR hv).choose_spec.choose_spec.choose_spec
    omega
  have HRI : Hid (∀ k, RunInv P (walkS P k (beginSt args answers fuel))) := fun k => runInv_walk hR k (runInv_begin hR args answers fuel hal h2 (by omega) (by omega))
  have HFU : Hid (∀ k, (walkS P k (beginSt args answers fuel)).status = 0 → k ≤ fuel) := fun k hk => by
    rcases Nat.lt_or_ge fuel k with h | h
    · exact absurd hk (run_ended hR (runInv_begin hR args answers fuel hal h2 (by omega) (by omega)) k (by show (fuel : Int) < _; omega))
    · exact h
  have HST0 : Hid ((beginSt args answers fuel).status = 0 ∧ cutE (beginSt args answers fuel) = beginSt args answers fuel) := ⟨rfl, rfl⟩
  have HNX : Hid (∀ W k cs, Below w.heap.size w W → StVal W (.agg cs) (cutE (walkS P k (beginSt args answers fuel))) → Calls Tryd.prog 68 #[.agg #[v], .agg cs] W fun e w' => ∃ cs', e = .returned (.tuple #[.agg cs', .int .i64 0]) ∧ (Tryd.prog.info? 29).map (·.size) = some cs'.size ∧ zeroStCells.size = cs'.size ∧ cs'.all (·.oneCell') = true ∧ StAt w' W.heap.size (.agg cs') (walkS P 1 (cutE (walkS P k (beginSt args answers fuel)))) ∧ Below W.heap.size W w') := fun W k cs hb hs => by
    refine (next_any P v (.agg cs) _ W (ht.below hb) (hc.below hb) hR (hv.keeps (keeps_below hb)) hs (stays_of_run hR (HRI.out k).cut 1) (by show 0 * 8 + 16 ≤ _; omega)).mono ?_
    rintro e w' ⟨v', rfl, hst, hb⟩
    obtain ⟨cs', rfl, c1, c2, c3⟩ := hst.val.cells
    exact ⟨cs', rfl, c1, c2, c3, hst, hb⟩
  have HCUT : Hid (∀ k, cutE (walkS P 1 (cutE (walkS P k (beginSt args answers fuel)))) = cutE (walkS P (k + 1) (beginSt args answers fuel))) := fun k => by rw [walkS_cut1, walkS_add]
  have hNO := fun W (hb : Below w.heap.size w W) => noughts_any P (right_code hR) v W (hv.keeps (keeps_below hb))
  have HNO : Hid _ := hNO
  have HR : Hid (ProofAns P 0) := hR
  obtain ⟨ao, n0, cap0, rfl⟩ := hv.shape
  obtain ⟨aa, ca, rfl⟩ := hva.shape
  obtain ⟨an, cn, rfl⟩ := hvn.shape
  have HBX : Hid _ := hbx
  clear ht hc hv hva hvn hbx hal h1 h2 hNO hR
  generalize beginSt args answers fuel = S at *
  go_enter Tryd.func31, Tryd.ntmps31
  go_upto_region 4 with (first
    | (go_at_call 64; refine (hBG _).mono ?_; rintro e w1 ⟨cs1, rfl, a1, a2, a3, hst1, hb1⟩)
    | (refine wpList_store_row rfl _ _ _ rfl _ _ rfl rfl _ _ (heap_alloc_last w1 _) a1 a2 a3 ?_; rw [World.setRow_alloc_new]))
  have hz1 : w.heap.size + 1 ≤ w1.heap.size := by have := hb1.size; simpa using this
  have k0 := cell_alloc (keeps_below hb1 ⟨w.heap.size, 0, none⟩ (.slice ao n0 cap0) (by simp)) (.cells cs1 29)
  have r1 : (w1.alloc (.cells cs1 29)).heap[w1.heap.size]? = some (.cells cs1 29 (0, 0)) := heap_alloc_last w1 _
  have HB2 : Hid (Below w.heap.size w (w1.alloc (.cells cs1 29))) := ((HBX.out _).trans (hb1.mono (by simp))).alloc (by omega) _
  have HK0 : Hid (Below (w.heap.size + 1) (w1.alloc (.cells cs1 29)) (w1.alloc (.cells cs1 29))) := Below.refl _ _
  have HSV : Hid (StVal (w1.alloc (.cells cs1 29)) (.agg cs1) S) := hst1.val.keeps (keeps_below ((Below.refl _ _).alloc (Nat.le_refl _) _))
  have hB1 : w.heap.size < w1.heap.size := by omega
  have hWB : w1.heap.size < (w1.alloc (.cells cs1 29)).heap.size := by simp
  have HON1 : Hid (cs1.all (·.oneCell') = true) := a3
  have hzs : zeroStCells.size = cs1.size := a2
  clear hst1 hb1 a2 a3 hBG
  generalize (w1.alloc (.cells cs1 29)) = WB at *
  generalize w1.heap.size = B at *
  have hNB := HNO.out WB HB2.out
  go_upto_region 5 with (go_at_call 67; refine hNB.mono ?_; rintro e w2 ⟨g, VV, rfl, hcn, hgB, hb2⟩)
  have k2 := keeps_below hb2 _ _ k0
  have r2 := (hb2.block _ hWB).trans r1
  have HB3 : Hid (Below w.heap.size w w2) := HB2.out.trans (hb2.mono HB2.out.size)
  have HSV2 : Hid (StVal w2 (.agg cs1) (cutE (walkS P 0 S))) := by
    show StVal _ _ _
    have : cutE (walkS P 0 S) = S := HST0.out.2
    rw [this]
    exact HSV.out.keeps (keeps_below hb2)
  have HCN : Hid (CntAt w2 g P.length VV (cntS P S 0)) := hcn
  have hBg : B < g := by omega
  clear hcn hb2 hNB k0 r1 hgB
  go_loopg [13] (fuel + 2) (fun m a wr => ∃ (k : Nat) (csk : Array Value), m + k = fuel + 2 ∧ wr.heap[B]? = some (.cells csk 29 (0, 0)) ∧ (Tryd.prog.info? 29).map (·.size) = some csk.size ∧ zeroStCells.size = csk.size ∧ StVal wr (.agg csk) (cutE (walkS P k S)) ∧ wr.cell? ⟨w.heap.size, 0, none⟩ = some (.slice ao n0 cap0) ∧ (∃ VV, CntAt wr g P.length VV (cntS P S k)) ∧ Below w.heap.size w wr)
  case atStart => exact ⟨0, cs1, rfl, r2, a1, hzs, HSV2.out, k2, ⟨VV, HCN.out⟩, HB3.out⟩
  case round =>
    clear k2 r2 HB3 HSV2 HCN a1 hzs HON1
    obtain ⟨k, csk, hmk, hrow, hq, hzk, hsv, hkp, ⟨VV, hcn⟩, hbr⟩ := hrel
    have HMK : Hid (gk + k = fuel + 2) := hmk
    have HBR : Hid (Below w.heap.size w wr) := hbr
    have HCN : Hid (CntAt wr g P.length VV (cntS P S k)) := hcn
    have hc0 : wr.cell? ⟨B, 0, none⟩ = some (.int .i64 (walkS P k S).status) := by rw [cell_of_row _ _ _ _ _ _ hrow]; exact hsv.at.1
    have hc19 : wr.cell? ⟨B, 19, none⟩ = some (.int .i64 (walkS P k S).fuel) := by rw [cell_of_row _ _ _ _ _ _ hrow]; exact hsv.at.2.2.1
    have hgw : g < wr.heap.size := (hcn.out.lt g rfl).2
    by_cases hs : (walkS P k S).status = 0
    · have hkF := HFU.out k hs
      rw [hs] at hc0
      have hInv := HRI.out k
      obtain ⟨fs, f, kk, jj, hkk, hjj, hsn, e1, e2, -, -⟩ := run_last hInv hs
      obtain ⟨fb, foff, fcap, g2, frng, f12, fc1, fc2⟩ := hsv.framesAt (show (cutE (walkS P k S)).frames = fs ++ [f] from hsn)
      have c2 : wr.cell? ⟨B, 2, none⟩ = some (.slice (some ⟨fb, foff, none⟩) (fs.length + 1) fcap) := by rw [cell_of_row _ _ _ _ _ _ hrow]; exact g2
      have HSC : Hid (cntS P S (k + 1) = addC (cntS P S k) kk jj ((walkS P k S).fuel - (walkS P (k + 1) S).fuel)) := by
        show _ = _
        rw [cntS, stepC_run hs hsn e1 e2, walkS_succ P k S hs]
      have HFF : Hid (0 ≤ (walkS P k S).fuel ∧ (walkS P k S).fuel ≤ 10000 ∧ 0 ≤ (walkS P (k + 1) S).fuel ∧ (walkS P (k + 1) S).fuel ≤ 10000 ∧ (walkS P (k + 1) S).fuel ≤ (walkS P k S).fuel) := by
        have a1 := (mayB_iff _).1 hInv.may
        have a2 := (mayB_iff _).1 (HRI.out (k + 1)).may
        refine ⟨by omega, by omega, by omega, by omega, ?_⟩
        rw [walkS_succ P k S hs]
        rcases stepS_cases2 P (walkS P k S) (run_frames hInv hs) with ⟨_, e, _⟩ | ⟨e0, e, _⟩ | ⟨_, e, _⟩ <;> omega
      have HCB : Hid (0 ≤ cellC (cntS P S k) kk jj ∧ cellC (cntS P S k) kk jj ≤ 10000) := ⟨(cnt_cell HR.out (HRI.out 0) kk jj k).1, by
        have h1 := cnt_le HR.out (HRI.out 0) k kk jj
        have h2 := ((mayB_iff _).1 (HRI.out 0).may).2.2.2.1
        have h3 := ((mayB_iff _).1 (HRI.out k).may).2.2.1
        have e : (walkS P 0 S) = S := rfl
        rw [e] at h1 h2
        omega⟩
      obtain ⟨ff0, ff1⟩ := frame_fn e1 e2
      obtain ⟨m, hm⟩ : ∃ m : Nat, m = fs.length + 1 := ⟨_, rfl⟩
      obtain ⟨j, hj⟩ : ∃ j : Nat, j = fs.length := ⟨_, rfl⟩
      rw [← hm] at c2 fc1
      rw [← hj] at frng
      have hw1 : IntKind.i64.wrap ((m : Int) - 1) = (j : Int) := by rw [show (m : Int) - 1 = j by omega]; exact wrap_fits _ (by omega) (by omega)
      have hjm : (j : Int) < m := by omega
      have hjn : j < m := by omega
      have hm0 : ¬ m = 0 := by omega
      have hfl : (Tryd.prog.info? 55).map (·.size) = some (frCells f).length := by rw [frCells_length f f12]; exact infoFr
      have hfs : (Tryd.prog.info? 55).map (·.size) = some (frCells f).toArray.size := by rw [List.size_toArray]; exact hfl
      have hfo : (frCells f).toArray.all (·.oneCell') = true := by rw [Array.all_eq_true_iff_forall_mem]; intro u hu; exact frCells_one _ u (by simpa using hu)
      have hfz : (zeroFr 0).toArray.size = (frCells f).toArray.size := by rw [List.size_toArray, List.size_toArray, frCells_length f f12]; rfl
      have HSVr : Hid (StVal wr (.agg csk) (cutE (walkS P k S))) := hsv
      clear g2 hm hj hsv hcn hbr hmk hInv hsn hs
      go_upto_region 7 with (first
        | (refine wpList_load_mid rfl _ _ rfl fb (foff + j * 14) rfl (frCells f) _ frng Tryd.underlying55 rfl hfl ?_)
        | (refine wpList_store_row rfl _ _ _ rfl _ (frCells f).toArray rfl rfl 55 (zeroFr 0).toArray (heap_alloc_last wr _) hfs hfz hfo ?_; rw [World.setRow_alloc_new]))
      have HA6 : Hid (Below wr.heap.size wr (wr.alloc (.cells (frCells f).toArray 55))) := (Below.refl _ _).alloc (Nat.le_refl _) _
      have rt6 : (wr.alloc (.cells (frCells f).toArray 55)).heap[wr.heap.size]? = some (.cells (frCells f).toArray 55 (0, 0)) := heap_alloc_last wr _
      have hD : wr.heap.size < (wr.alloc (.cells (frCells f).toArray 55)).heap.size := by simp
      have HB6 : Hid (Below w.heap.size w (wr.alloc (.cells (frCells f).toArray 55))) := HBR.out.trans (HA6.out.mono HBR.out.size)
      have hkp6 := keeps_below HA6.out _ _ hkp
      have hrow6 := (HA6.out.block _ (lt_of_block hrow)).trans hrow
      have HSV6 : Hid (StVal (wr.alloc (.cells (frCells f).toArray 55)) (.agg csk) (cutE (walkS P k S))) := HSVr.out.keeps (keeps_below HA6.out)
      have HCN6 : Hid (CntAt (wr.alloc (.cells (frCells f).toArray 55)) g P.length VV (cntS P S k)) := HCN.out.below HA6.out
      clear HA6 HBR HCN HSVr hkp hrow hc0 hc19 c2 frng hfl hfs hfo hfz hw1 hjm hjn hm0 fc1 fc2
      obtain ⟨D, hDe⟩ : ∃ D, D = wr.heap.size := ⟨_, rfl⟩
      rw [← hDe] at rt6 hD ⊢
      clear hDe
      generalize (wr.alloc (.cells (frCells f).toArray 55)) = WF at *
      have hNX := HNX.out WF k csk HB6.out HSV6.out
      go_upto_region 8 with (first
        | (refine wpList_load_row rfl _ _ rfl _ rfl _ _ _ _ hrow6 Tryd.underlying29 rfl hq ?_)
        | (go_at_call 68; refine hNX.mono ?_; rintro e wn ⟨csn, rfl, b1, b2, b3, hstn, hbn⟩)
        | (refine wpList_store_row rfl _ _ _ rfl _ _ rfl rfl _ _ (heap_alloc_last wn _) b1 b2 b3 ?_; rw [World.setRow_alloc_new]))
      have HA7 : Hid (Below WF.heap.size WF (wn.alloc (.cells csn 29))) := hbn.alloc hbn.size _
      have rn : (wn.alloc (.cells csn 29)).heap[wn.heap.size]? = some (.cells csn 29 (0, 0)) := heap_alloc_last wn _
      have hGn : wn.heap.size < (wn.alloc (.cells csn 29)).heap.size := by simp
      have hBG : WF.heap.size ≤ wn.heap.size := hbn.size
      have HSN : Hid (∀ W, (∀ (a : Addr) u, WF.heap.size ≤ a.block → a.block < wn.heap.size → (wn.alloc (.cells csn 29)).cell? a = some u → W.cell? a = some u) → StAt W WF.heap.size (.agg csn) (walkS P 1 (cutE (walkS P k S)))) := fun W hk => hstn.moved (fun a u ha hu => hk a u ha (World.block_lt_of_cell? _ _ hu) (cell_alloc hu _))
      have HB7 : Hid (Below w.heap.size w (wn.alloc (.cells csn 29))) := HB6.out.trans (HA7.out.mono HB6.out.size)
      have hkp7 := keeps_below HA7.out _ _ hkp6
      have hrow7 := (HA7.out.block _ (lt_of_block hrow6)).trans hrow6
      have rt7 := (HA7.out.block _ hD).trans rt6
      have HSV7 : Hid (StVal (wn.alloc (.cells csn 29)) (.agg csk) (cutE (walkS P k S))) := HSV6.out.keeps (keeps_below HA7.out)
      have HCN7 : Hid (CntAt (wn.alloc (.cells csn 29)) g P.length VV (cntS P S k)) := HCN6.out.below HA7.out
      have hgF : g < WF.heap.size := (HCN6.out.out.lt g rfl).2
      have HRF : Hid (∀ r c n, VV kk = .slice (some ⟨r, 0, none⟩) n c → r < WF.heap.size) := fun r c n e => ((HCN6.out.slots.own kk hkk).lt r (by rw [e]; rfl)).2
      have HZN : Hid ((Tryd.prog.info? 29).map (·.size) = some csn.size ∧ zeroStCells.size = csn.size ∧ csn.all (·.oneCell') = true) := ⟨b1, b2, b3⟩
      clear hstn hbn b1 b2 b3 HA7 HB6 HCN6 HSV6 hkp6 hrow6 rt6 hNX
      obtain ⟨Gn, hGe⟩ : ∃ D, D = wn.heap.size := ⟨_, rfl⟩
      rw [← hGe] at rn hGn hBG HSN ⊢
      clear hGe
      generalize (wn.alloc (.cells csn 29)) = WN at *
      have t0 : WN.cell? ⟨D, 0, none⟩ = some (.int .i64 (kk : Int)) := by rw [cell_of_row _ _ _ _ _ _ rt7]; exact ff0
      have t1 : WN.cell? ⟨D, 1, none⟩ = some (.int .i64 (jj : Int)) := by rw [cell_of_row _ _ _ _ _ _ rt7]; exact ff1
      have s19 : WN.cell? ⟨B, 19, none⟩ = some (.int .i64 (walkS P k S).fuel) := by rw [cell_of_row _ _ _ _ _ _ hrow7]; exact HSV7.out.at.2.2.1
      have HFU2 : Hid ((walkS P 1 (cutE (walkS P k S))).fuel = (walkS P (k + 1) S).fuel) := by have h := congrArg St.fuel (HCUT.out k); exact h
      have n19 : WN.cell? ⟨Gn, 19, none⟩ = some (.int .i64 (walkS P (k + 1) S).fuel) := by rw [cell_of_row _ _ _ _ _ _ rn, ← HFU2.out]; exact (HSN.out WN (fun _ _ _ _ h => h)).val.at.2.2.1
      obtain ⟨r, c, hVk, hgr, hrw, hnc, hc63, hcc, hcf, hstr⟩ := (HCN7.out.below ((Below.refl _ _).drew)).row rfl (cshape_cnt P S k) hkk hjj
      have hrF := HRF.out r c _ hVk
      have hcc1 : WN.cell? ⟨r, jj, none⟩ = some (.int .i64 (cellC (cntS P S k) kk jj)) := hcc
      have co := out_cell HCN7.out.out kk hkk
      rw [hVk] at co
      have HSTR : Hid (∀ d, CntAt (WN.drew.setCell ⟨r, jj, none⟩ (.int .i64 (cellC (cntS P S k) kk jj + d))) g P.length VV (addC (cntS P S k) kk jj d) ∧ WN.drew.grownBy (WN.drew.setCell ⟨r, jj, none⟩ (.int .i64 (cellC (cntS P S k) kk jj + d))) (some r)) := hstr
      have hkkI : (kk : Int) < P.length := by omega
      have hjjI : (jj : Int) < P[kk].code.length := by omega
      obtain ⟨x1, x2, x3, x4, x5⟩ := HFF.out
      obtain ⟨y1, y2⟩ := HCB.out
      have hwd : IntKind.i64.wrap ((walkS P k S).fuel - (walkS P (k + 1) S).fuel) = (walkS P k S).fuel - (walkS P (k + 1) S).fuel := wrap_fits _ (by omega) (by omega)
      have hws : IntKind.i64.wrap (cellC (cntS P S k) kk jj + ((walkS P k S).fuel - (walkS P (k + 1) S).fuel)) = cellC (cntS P S k) kk jj + ((walkS P k S).fuel - (walkS P (k + 1) S).fuel) := wrap_fits _ (by omega) (by omega)
      have HNEW := (HSTR.out ((walkS P k S).fuel - (walkS P (k + 1) S).fuel))
      rw [← HSC.out] at HNEW
      have HNW : Hid (CntAt (WN.drew.setCell ⟨r, jj, none⟩ (.int .i64 (cellC (cntS P S k) kk jj + ((walkS P k S).fuel - (walkS P (k + 1) S).fuel)))) g P.length VV (cntS P S (k + 1)) ∧ WN.drew.grownBy (WN.drew.setCell ⟨r, jj, none⟩ (.int .i64 (cellC (cntS P S k) kk jj + ((walkS P k S).fuel - (walkS P (k + 1) S).fuel)))) (some r)) := HNEW
      clear HNEW hstr HSTR HSC HFF HCB x1 x2 x3 x4 x5 y1 y2 HFU2 HCN7 hVk HSV7 ff0 ff1 e1 e2
      generalize (walkS P k S).fuel = fk at *
      generalize (walkS P (k + 1) S).fuel = fk1 at *
      generalize cellC (cntS P S k) kk jj = cc at *
      obtain ⟨nn, hnn⟩ : ∃ nn, nn = P[kk].code.length := ⟨_, rfl⟩
      rw [← hnn] at co hjj hnc hjjI
      clear hnn
      refine wp_region_last (S := fun W => Below WN.heap.size WN W) _ 16 (by kernel_rfl) (by kernel_rfl) rfl ((Below.refl _ _).drew) (fun hHeld => ?_)
      simp only [List.pop_toArray, List.dropLast]
      refine wpAnyH_take (i := 0) (v := ?_) rfl (by kernel_rfl) (by kernel_rfl) (by kernel_rfl) (fun _ _ _ h => h) (Or.inl ⟨by rfl, ?_⟩) (by assumption) ?_
      rotate_left
      · (intro W hSW; go_simp; try (with_reducible rfl))
      (try simp only [Act.put, List.setIfInBounds_toArray])
      refine wpAnyH_take (i := 1) (v := ?_) rfl (by kernel_rfl) (by kernel_rfl) (by kernel_rfl) (fun _ _ _ h => h) (Or.inl ⟨by rfl, ?_⟩) (by assumption) ?_
      rotate_left
      · (intro W hSW; go_simp; try (with_reducible rfl))
      (try simp only [Act.put])
      refine wpAnyH_take (i := 2) (v := ?_) rfl (by kernel_rfl) (by kernel_rfl) (by kernel_rfl) (fun _ _ _ h => h) (Or.inl ⟨by rfl, ?_⟩) (by assumption) ?_
      rotate_left
      · (intro W hSW; have z0 := keeps_below hSW _ _ t0; go_simp; try (with_reducible rfl))
      (try simp only [Act.put])
      refine wpAnyH_take (i := 3) (v := ?_) rfl (by kernel_rfl) (by kernel_rfl) (by kernel_rfl) (fun _ _ _ h => h) (Or.inl ⟨by rfl, ?_⟩) (by assumption) ?_
      rotate_left
      · (intro W hSW; go_simp; try (with_reducible rfl))
      (try simp only [Act.put])
      refine wpAnyH_take (i := 4) (v := ?_) rfl (by kernel_rfl) (by kernel_rfl) (by kernel_rfl) (fun _ _ _ h => h) (Or.inl ⟨by rfl, ?_⟩) (by assumption) ?_
      rotate_left
      · (intro W hSW; have z0 := keeps_below hSW _ _ co; go_simp; try (with_reducible rfl))
      (try simp only [Act.put])
      refine wpAnyH_take (i := 5) (v := ?_) rfl (by kernel_rfl) (by kernel_rfl) (by kernel_rfl) (fun _ _ _ h => h) (Or.inl ⟨by rfl, ?_⟩) (by assumption) ?_
      rotate_left
      · (intro W hSW; go_simp; try (with_reducible rfl))
      (try simp only [Act.put])
      refine wpAnyH_take (i := 6) (v := ?_) rfl (by kernel_rfl) (by kernel_rfl) (by kernel_rfl) (fun _ _ _ h => h) (Or.inl ⟨by rfl, ?_⟩) (by assumption) ?_
      rotate_left
      · (intro W hSW; have z0 := keeps_below hSW _ _ t1; go_simp; try (with_reducible rfl))
      (try simp only [Act.put])
      refine wpAnyH_take (i := 7) (v := ?_) rfl (by kernel_rfl) (by kernel_rfl) (by kernel_rfl) (fun _ _ _ h => h) (Or.inl ⟨by rfl, ?_⟩) (by assumption) ?_
      rotate_left
      · (intro W hSW; go_simp; try (with_reducible rfl))
      (try simp only [Act.put])
      refine wpAnyH_take (i := 8) (v := ?_) rfl (by kernel_rfl) (by kernel_rfl) (by kernel_rfl) (fun _ _ _ h => h) (Or.inl ⟨by rfl, ?_⟩) (by assumption) ?_
      rotate_left
      · (intro W hSW; have z0 := keeps_below hSW _ _ hcc1; go_simp; try (with_reducible rfl))
      (try simp only [Act.put])
      refine wpAnyH_take (i := 9) (v := ?_) rfl (by kernel_rfl) (by kernel_rfl) (by kernel_rfl) (fun _ _ _ h => h) (Or.inl ⟨by rfl, ?_⟩) (by assumption) ?_
      rotate_left
      · (intro W hSW; go_simp; try (with_reducible rfl))
      (try simp only [Act.put])
      refine wpAnyH_take (i := 10) (v := ?_) rfl (by kernel_rfl) (by kernel_rfl) (by kernel_rfl) (fun _ _ _ h => h) (Or.inl ⟨by rfl, ?_⟩) (by assumption) ?_
      rotate_left
      · (intro W hSW; have z0 := keeps_below hSW _ _ s19; go_simp; try (with_reducible rfl))
      (try simp only [Act.put])
      refine wpAnyH_take (i := 11) (v := ?_) rfl (by kernel_rfl) (by kernel_rfl) (by kernel_rfl) (fun _ _ _ h => h) (Or.inl ⟨by rfl, ?_⟩) (by assumption) ?_
      rotate_left
      · (intro W hSW; go_simp; try (with_reducible rfl))
      (try simp only [Act.put])
      refine wpAnyH_take (i := 12) (v := ?_) rfl (by kernel_rfl) (by kernel_rfl) (by kernel_rfl) (fun _ _ _ h => h) (Or.inl ⟨by rfl, ?_⟩) (by assumption) ?_
      rotate_left
      · (intro W hSW; have z0 := keeps_below hSW _ _ n19; go_simp; try (with_reducible rfl))
      (try simp only [Act.put])
      refine wpAnyH_take (i := 13) (v := ?_) rfl (by kernel_rfl) (by kernel_rfl) (by kernel_rfl) (fun _ _ _ h => h) (Or.inl ⟨by rfl, ?_⟩) (by assumption) ?_
      rotate_left
      · (intro W hSW; go_simp; try (with_reducible rfl))
      (try simp only [Act.put])
      refine wpAnyH_take (i := 14) (v := ?_) rfl (by kernel_rfl) (by kernel_rfl) (by kernel_rfl) (fun _ _ _ h => h) (Or.inl ⟨by rfl, ?_⟩) (by assumption) ?_
      rotate_left
      · (intro W hSW; go_simp; try (with_reducible rfl))
      (try simp only [Act.put])
      refine wpAnyH_take (i := 15) (v := ?_) rfl (by kernel_rfl) (by kernel_rfl) (by kernel_rfl) (fun _ _ _ h => h) (Or.inl ⟨by rfl, ?_⟩) (by assumption) ?_
      rotate_left
      · (intro W hSW; go_simp; try (with_reducible rfl))
      (try simp only [Act.put])
      refine wpAnyH_done (by kernel_rfl) ?_ _
      refine Or.inl ?_
      have HB8 : Hid (Below w.heap.size w (WN.drew.setCell ⟨r, jj, none⟩ (.int .i64 (cc + (fk - fk1))))) := below_gb HB7.out.drew HNW.out.2 (by omega) HB7.out.drew.size
      have hkp8 : (WN.drew.setCell ⟨r, jj, none⟩ (.int .i64 (cc + (fk - fk1)))).cell? ⟨w.heap.size, 0, none⟩ = some (.slice ao n0 cap0) := gb_cell HNW.out.2 hkp7 (by show w.heap.size ≠ r; omega)
      have hrow8 : (WN.drew.setCell ⟨r, jj, none⟩ (.int .i64 (cc + (fk - fk1)))).heap[B]? = some (.cells csk 29 (0, 0)) := (HNW.out.2.block _ (lt_of_block hrow7) (by simp; omega)).trans hrow7
      have rn8 : (WN.drew.setCell ⟨r, jj, none⟩ (.int .i64 (cc + (fk - fk1)))).heap[Gn]? = some (.cells csn 29 (0, 0)) := (HNW.out.2.block _ hGn (by simp; omega)).trans rn
      have HSN8 : Hid (∀ W, (∀ (a : Addr) u, WF.heap.size ≤ a.block → a.block < Gn → (WN.drew.setCell ⟨r, jj, none⟩ (.int .i64 (cc + (fk - fk1)))).cell? a = some u → W.cell? a = some u) → StAt W WF.heap.size (.agg csn) (walkS P 1 (cutE (walkS P k S)))) := fun W hk => HSN.out W (fun a u h1 h2 h3 => hk a u h1 h2 (gb_cell HNW.out.2 h3 (by omega)))
      have HC8 : Hid (CntAt (WN.drew.setCell ⟨r, jj, none⟩ (.int .i64 (cc + (fk - fk1)))) g P.length VV (cntS P S (k + 1))) := HNW.out.1
      have hf8 : WN.drew.frozen? ⟨r, jj, none⟩ = false := hcf
      have hc8 : WN.drew.cell? ⟨r, jj, none⟩ = some (.int .i64 cc) := hcc
      clear hHeld HSN HNW HB7 hkp7 hrow7 rt7 rn t0 t1 s19 n19 co hcc1 hwd hws
      go_simp
      go_upto_region 9 with fail
      rw [show (WN.setCell ⟨r, jj, none⟩ (.int .i64 (cc + (fk - fk1)))).drew = WN.drew.setCell ⟨r, jj, none⟩ (.int .i64 (cc + (fk - fk1))) from rfl]
      generalize (WN.drew.setCell ⟨r, jj, none⟩ (.int .i64 (cc + (fk - fk1)))) = W8 at *
      clear hcc hcf hf8 hc8
      have st8 := (HSN8.out W8 (fun _ _ _ _ h => h)).cut
      obtain ⟨-, er, ec, h20⟩ := st8
      have n20 : W8.cell? ⟨Gn, 20, none⟩ = some (.slice er (walkS P 1 (cutE (walkS P k S))).events.length ec) := by rw [cell_of_row _ _ _ _ _ _ rn8]; exact h20
      have nf : W8.frozen? ⟨Gn, 20, none⟩ = false := row_free rn8 20
      have hGB : Gn ≠ B := by omega
      have HG9 : Hid (W8.grownBy (W8.setCell ⟨Gn, 20, none⟩ (.slice none 0 0)) (some Gn)) := gb_setCell W8 Gn 20 _
      have rn9 : (W8.setCell ⟨Gn, 20, none⟩ (.slice none 0 0)).heap[Gn]? = some (.cells (csn.setIfInBounds 20 (.slice none 0 0)) 29 (0, 0)) := row_setCell _ rn8
      have hrow9 : (W8.setCell ⟨Gn, 20, none⟩ (.slice none 0 0)).heap[B]? = some (.cells csk 29 (0, 0)) := (HG9.out.block _ (lt_of_block hrow8) (by simp; omega)).trans hrow8
      have HC9 : Hid (CntAt (W8.setCell ⟨Gn, 20, none⟩ (.slice none 0 0)) g P.length VV (cntS P S (k + 1))) := HC8.out.other HG9.out rn8
      have HB9 : Hid (Below w.heap.size w (W8.setCell ⟨Gn, 20, none⟩ (.slice none 0 0))) := below_gb HB8.out HG9.out (by omega) HB8.out.size
      have hkp9 : (W8.setCell ⟨Gn, 20, none⟩ (.slice none 0 0)).cell? ⟨w.heap.size, 0, none⟩ = some (.slice ao n0 cap0) := gb_cell HG9.out hkp8 (by show w.heap.size ≠ Gn; omega)
      have HSN9 : Hid (StAt (W8.setCell ⟨Gn, 20, none⟩ (.slice none 0 0)) WF.heap.size (.agg (csn.setIfInBounds 20 (.slice none 0 0))) (cutE (walkS P (k + 1) S))) := by
        show StAt _ _ _ _
        rw [← HCUT.out k]
        exact (HSN8.out _ (fun a u h1 h2 h3 => gb_cell HG9.out h3 (by omega))).cut.1
      clear h20 rn8 hrow8 hkp8 HSN8 HC8 HB8 HG9 HZN
      generalize (walkS P 1 (cutE (walkS P k S))).events.length = en at n20
      go_upto_region 10 with fail
      generalize (W8.setCell ⟨Gn, 20, none⟩ (.slice none 0 0)) = W9 at *
      clear n20 nf
      obtain ⟨cs9, he9, d1, d2, d3⟩ := HSN9.out.val.cells
      obtain rfl := Value.agg.inj he9
      generalize csn.setIfInBounds 20 (.slice none 0 0) = cs9 at *
      have hsz9 : csk.size = cs9.size := hzk.symm.trans d2
      have HGA : Hid (W9.grownBy (W9.setRow B cs9) (some B)) := gb_setRow W9 B cs9
      have HCA : Hid (CntAt (W9.setRow B cs9) g P.length VV (cntS P S (k + 1))) := HC9.out.kept HGA.out hBg
      have HBA : Hid (Below w.heap.size w (W9.setRow B cs9)) := below_setRow HB9.out (by omega) _
      have HKA : Hid ((W9.setRow B cs9).cell? ⟨w.heap.size, 0, none⟩ = some (.slice ao n0 cap0)) := gb_cell HGA.out hkp9 (by show w.heap.size ≠ B; omega)
      have HSA : Hid (StVal (W9.setRow B cs9) (.agg cs9) (cutE (walkS P (k + 1) S))) := (HSN9.out.setRow (by omega) _).val
      clear he9
      go_wp2_with (first
        | (refine wpList_load_row rfl _ _ rfl _ rfl _ _ _ _ rn9 Tryd.underlying29 rfl d1 ?_)
        | (refine wpList_store_row rfl _ _ _ rfl B cs9 rfl rfl 29 csk hrow9 d1 hsz9 d3 ?_))
      have hmk := HMK.out
      go_roundg (gk - 1)
      case measure => omega
      case rel => exact ⟨k + 1, cs9, by omega, setRow_heap _ _ _ _ _ _ hrow9, d1, d2, HSA.out, HKA.out, ⟨VV, HCA.out⟩, HBA.out⟩
    · have hne : ((walkS P k S).status == 0) = false := by simpa using hs
      have HS : Hid ((walkS P k S).status ≠ 0) := hs
      clear hsv hcn hbr hmk hs
      generalize (walkS P k S).status = st at hc0 hne
      go_wp2
      go_ret2
      exact ⟨g, VV, k, rfl, HCN.out, HS.out, by omega, HBR.out⟩
end Go.Proofs.YtndogdojcbcjgaaDoor
