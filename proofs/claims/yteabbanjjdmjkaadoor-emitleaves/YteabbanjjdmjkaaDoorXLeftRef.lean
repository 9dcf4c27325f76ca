/- Contract of tierlineref.LeftBy: P13.4, the document's own words (written by gen/mkleftref.py). -/
import Derived.Test.YteabbanjjdmjkaaDoorXEmitLeave
import Derived.Test.YteabbanjjdmjkaaDoorXLiveOfAll
import Derived.Test.YteabbanjjdmjkaaDoorGroupW
import Derived.Test.YteabbanjjdmjkaaDoorXTidyMath
namespace Go.Proofs.YteabbanjjdmjkaaDoor
open Go Go.RowKit

set_option maxRecDepth 100000 in
set_option maxHeartbeats 4000000 in
theorem left_bad (P : List Fn) (v sv : Value) (s : St) (d : Int) (c : Cp) (w : World) (hv : ProgVal w v P) (hs : StVal w sv s) (hE : ∀ E, ProofAns P E → checkE E P s = d) (hr : ¬ runE d s = 0) :
    Calls Tryd.prog 13 #[.agg #[v], sv, c.val] w fun e w' => e = .returned (.tuple #[.agg zeroStCells, .int .i64 (runE d s)]) ∧ Below w.heap.size w w' := by
  have HC : Hid (∀ W, Below w.heap.size w W → Calls Tryd.prog 37 #[.agg #[v], sv] W fun e w' => e = .returned (.int .i64 (runE d s)) ∧ Below W.heap.size W w') := fun W hb => runningFault_any P v sv s d W (hv.keeps (keeps_below hb)) (hs.keeps (keeps_below hb)) hE
  obtain ⟨ao, n0, cap0, rfl⟩ := hv.shape
  obtain ⟨cs, rfl, hsz, hs2, -⟩ := hs.cells
  generalize runE d s = r at *
  have hcb : (r != 0) = true := by simpa using hr
  clear hv hs hE hr
  unfold Cp.val
  generalize cpuCells c = CC at *
  go_enter Tryd.func13, Tryd.ntmps13
  go_upto_region 1 with fail
  rw [show (#[.int .i64 0, .int .i64 0, .slice none 0 0, .int .i64 0, .int .i64 0, .int .i64 0, .int .i64 0, .int .i64 0, .int .i64 0, .int .i64 0, .int .i64 0, .int .i64 0, .int .i64 0, .int .i64 0, .int .i64 0, .int .i64 0, .int .i64 0, .int .i64 0, .int .i64 0, .int .i64 0, .slice none 0 0, .slice none 0 0] : Array Value) = zeroStCells from rfl]
  have r0 : ((((w.alloc (.cells #[.slice ao n0 cap0] 24)).alloc (.cells cs 29)).alloc (.cells CC.toArray 33)).alloc (.cells zeroStCells 29)).heap[w.heap.size]? = some (.cells #[.slice ao n0 cap0] 24 (0, 0)) := heap_alloc_old _ _ (by simp <;> omega) |>.trans (heap_alloc_old _ _ (by simp <;> omega) |>.trans (heap_alloc2_old _ _ _))
  have r1 : ((((w.alloc (.cells #[.slice ao n0 cap0] 24)).alloc (.cells cs 29)).alloc (.cells CC.toArray 33)).alloc (.cells zeroStCells 29)).heap[w.heap.size + 1]? = some (.cells cs 29 (0, 0)) := heap_alloc_old _ _ (by simp <;> omega) |>.trans (heap_alloc_old _ _ (by simp) |>.trans (heap_alloc2_new _ _ _))
  have r2 : ((((w.alloc (.cells #[.slice ao n0 cap0] 24)).alloc (.cells cs 29)).alloc (.cells CC.toArray 33)).alloc (.cells zeroStCells 29)).heap[w.heap.size + 1 + 1]? = some (.cells CC.toArray 33 (0, 0)) := heap_alloc_old _ _ (by simp) |>.trans (heap_alloc3_new _ _ _ _)
  have r3 : ((((w.alloc (.cells #[.slice ao n0 cap0] 24)).alloc (.cells cs 29)).alloc (.cells CC.toArray 33)).alloc (.cells zeroStCells 29)).heap[w.heap.size + 1 + 1 + 1]? = some (.cells zeroStCells 29 (0, 0)) := by
    have := heap_alloc_last (((w.alloc (.cells #[.slice ao n0 cap0] 24)).alloc (.cells cs 29)).alloc (.cells CC.toArray 33)) (.cells zeroStCells 29)
    simpa using this
  have HB0 : Hid (Below w.heap.size w ((((w.alloc (.cells #[.slice ao n0 cap0] 24)).alloc (.cells cs 29)).alloc (.cells CC.toArray 33)).alloc (.cells zeroStCells 29))) := ((((Below.refl _ _).alloc (Nat.le_refl _) _).alloc (by simp) _).alloc (by simp <;> omega) _).alloc (by simp <;> omega) _
  generalize ((((w.alloc (.cells #[.slice ao n0 cap0] 24)).alloc (.cells cs 29)).alloc (.cells CC.toArray 33)).alloc (.cells zeroStCells 29)) = W0 at *
  have hz0 := lt_of_block r3
  have kp0 : W0.cell? ⟨w.heap.size, 0, none⟩ = some (.slice ao n0 cap0) := by rw [cell_of_row _ _ _ _ _ _ r0]; rfl
  go_wp2_with (first
    | (refine wpList_load_row rfl _ _ rfl _ rfl _ _ _ _ r1 Tryd.underlying29 rfl hsz ?_)
    | (go_at_call 37; refine (HC.out _ HB0.out).mono ?_; rintro e w1 ⟨rfl, hb1⟩; have x3 := (hb1.block _ (lt_of_block r3)).trans r3; have HBX : Hid (Below w.heap.size w w1) := HB0.out.trans (hb1.mono HB0.out.size); clear hb1)
    | (refine wpList_build_store rfl _ _ rfl zeroStCells (by simpa using built_zero) rfl _ _ rfl _ rfl rfl _ _ x3 infoSt rfl zeroSt_one ?_)
    | (refine wpList_build_to rfl _ _ rfl zeroStCells (by simpa using built_zero) ?_)
    | (refine wpList_store_row rfl _ _ _ rfl _ zeroStCells rfl rfl _ _ x3 infoSt rfl zeroSt_one ?_))
  try simp only [Exit.inBlock, Exit.then]
  exact bodyPost_ret (results_row_tmp rfl _ _ (w.heap.size + 1 + 1 + 1) 29 zeroStCells (0, 0) _ rfl (setRow_heap _ _ _ _ _ _ x3) Tryd.underlying29 rfl infoSt) rfl ⟨rfl, belowSR HBX.out (by omega) _⟩

set_option maxRecDepth 100000 in
set_option maxHeartbeats 8000000 in
theorem left_form (P : List Fn) (v sv : Value) (s : St) (f : Fr) (fs : List Fr) (c : Cp) (w : World) (hR : ProofAns P 0) (hf : FOk P s.frames) (hE : ∀ E, ProofAns P E → checkE E P s = 0) (hv : ProgVal w v P) (hs : StVal w sv s) (hst : s.status = 0) (hfr : s.frames = fs ++ [f]) (hcp : c.Ok) (hlk : ¬ leaveOk c.data (liveL P f.fn.toNat) s.fuel) :
    Calls Tryd.prog 13 #[.agg #[v], sv, c.val] w fun e w' => e = .returned (.tuple #[.agg zeroStCells, .int .i64 5]) ∧ Below w.heap.size w w' := by
  have HC : Hid (∀ W, Below w.heap.size w W → Calls Tryd.prog 37 #[.agg #[v], sv] W fun e w' => e = .returned (.int .i64 0) ∧ Below W.heap.size W w') := fun W hb => by
    have := runningFault_any P v sv s 0 W (hv.keeps (keeps_below hb)) (hs.keeps (keeps_below hb)) hE
    rw [show runE 0 s = 0 by unfold runE; rw [if_pos rfl, if_pos hst]] at this
    exact this
  obtain ⟨k, j0, hk, hj0, hfn⟩ : ∃ (k j : Nat) (hk : k < P.length), j < P[k].code.length ∧ f.fn = k := by
    have hp := ((fok_snoc P fs f).1 (by rw [← hfr]; exact hf)).2.1
    obtain ⟨k, j, hk, hj, e1, e2, e3, e4⟩ := place_nat hp
    exact ⟨k, j, hk, hj, e1⟩
  have hkk : f.fn.toNat = k := by omega
  rw [hkk] at hlk
  have HLS0 := liveL_spec hk
  have HLV : Hid (∀ W, Below w.heap.size w W → Calls Tryd.prog 38 #[.agg #[v], .int .i64 f.fn] W fun e w' => ∃ v', e = .returned (.tuple #[v', .int .i64 0]) ∧ IntsVal w' v' (liveL P k) ∧ Below W.heap.size W w') := fun W hb => by
    rw [hfn]
    refine (liveOf_any P v k W (hv.keeps (keeps_below hb))).mono ?_
    rintro e w' ⟨v', E, A, rfl, hA, hI, hb'⟩
    rcases hA with ⟨hne, hp, -⟩ | ⟨-, hno, -, -⟩ | ⟨-, rfl, k', hkk, hk', hL⟩
    · exact absurd (proofAns_unique hp hR) hne
    · exact absurd ⟨by omega, by omega⟩ hno
    · obtain rfl : k = k' := by omega
      rw [liveL_eq hk hL] at hI
      exact ⟨v', rfl, hI, hb'⟩
  have HLS : Hid (s.mem.length = 16) := by obtain ⟨_, _, _, _, h, -⟩ := hs; exact h
  have HSV : Hid (∀ W, Below w.heap.size w W → StVal W sv s) := fun W hb => hs.keeps (keeps_below hb)
  obtain ⟨ao, n0, cap0, rfl⟩ := hv.shape
  obtain ⟨cs, rfl, hsz, hs2, -⟩ := hs.cells
  have hlen : s.frames.length = fs.length + 1 := by rw [hfr]; simp
  obtain ⟨fb, fo, fc, HFR⟩ : ∃ fb fo fc, Hid (cs[2]? = some (.slice (some ⟨fb, fo, none⟩) (fs.length + 1) fc) ∧ cs[19]? = some (.int .i64 s.fuel) ∧ (∀ W, Below w.heap.size w W → W.cell? ⟨fb, fo + fs.length * 14, none⟩ = some (.int .i64 f.fn)) ∧ fs.length + 1 ≤ 9223372036854775807) := by
    obtain ⟨fv, ev, av, e, h16, hF, -⟩ := hs
    obtain ⟨hw, fa, fb, fo, n, fc, rfl, h1, h2, h3, h4, h5⟩ := hF
    have hn : n = fs.length + 1 := by omega
    subst hn
    have e2 := h2 (by omega)
    subst e2
    refine ⟨fb, fo, fc, ?_, ?_, fun W hb => ?_, ?_⟩
    · rw [Value.agg.inj e]; rfl
    · rw [Value.agg.inj e]; simpa using stC_tail _ _ _ h16 0
    · have hx := h3 fs.length (by omega) 0 (.int .i64 f.fn) (by simp [hfr, frCells])
      exact keeps_below hb _ _ hx
    · have h6 := h5
      simp only [maxLen] at h6
      have := h4.1
      omega
  have HRD : Hid (∀ (W : World) b, W.heap[b]? = some (.cells (cpuCells c).toArray 33 (0, 0)) → W.rangeAt b 33 (i64s c.data)) := fun W b h => cp_range hcp h
  have HD : Hid (∀ q, q < 64 → (i64s c.data)[q]? = some (.int .i64 (c.data.getD q 0))) := fun q hq => i64s_at hcp.d hq
  have HDL : Hid (c.data.length = 64) := hcp.d
  obtain ⟨D29, hD29⟩ : ∃ z, c.data.getD 29 0 = z := ⟨_, rfl⟩
  obtain ⟨D28, hD28⟩ : ∃ z, c.data.getD 28 0 = z := ⟨_, rfl⟩
  unfold leaveOk at hlk
  rw [hD29, hD28] at hlk
  have HD29 : Hid (c.data.getD 29 0 = D29) := hD29
  have HD28 : Hid (c.data.getD 28 0 = D28) := hD28
  have HLP : Hid (0 < (liveL P k).length) := by show _ < _; rw [HLS0.1]; omega
  have hval : ∀ q, q < (liveL P k).length → (liveL P k).getD q 0 < 0 → (liveL P k).getD q 0 = -1 := fun q hq hneg => by
    rcases live_val HLS0 (by rw [← HLS0.1]; exact hq) with e | ⟨m, hm, e⟩
    · exact e
    · omega
  have HCASE : Hid (inB D29 0 (((liveL P k).length : Int) - 1) = false ∨ (inB D29 0 (((liveL P k).length : Int) - 1) = true ∧ inB D28 0 s.fuel = false) ∨ (inB D29 0 (((liveL P k).length : Int) - 1) = true ∧ inB D28 0 s.fuel = true ∧ ∃ q : Nat, D29 = q ∧ q < (liveL P k).length ∧ (liveL P k).getD q 0 = -1)) := by
    show _ ∨ _
    unfold inB
    by_cases a1 : 0 ≤ D29 ∧ D29 ≤ ((liveL P k).length : Int) - 1
    · by_cases a2 : 0 ≤ D28 ∧ D28 ≤ s.fuel
      · refine Or.inr (Or.inr ⟨by simpa using a1, by simpa using a2, ?_⟩)
        obtain ⟨q, rfl⟩ := Int.eq_ofNat_of_zero_le a1.1
        refine ⟨q, rfl, by omega, ?_⟩
        refine Classical.byContradiction fun hne => hlk ⟨by omega, by omega, ?_, a2.1, a2.2⟩
        rw [Int.toNat_natCast]; exact hne
      · exact Or.inr (Or.inl ⟨by simpa using a1, by simpa using a2⟩)
    · exact Or.inl (by simpa using a1)
  clear hv hs hR hf hE hst hcp hlk hfn hkk HLS0 hval hD29 hD28 hfr hlen hs2 hk hj0
  unfold Cp.val
  generalize liveL P k = L at *
  generalize cpuCells c = CC at *
  go_enter Tryd.func13, Tryd.ntmps13
  go_upto_region 1 with fail
  rw [show (#[.int .i64 0, .int .i64 0, .slice none 0 0, .int .i64 0, .int .i64 0, .int .i64 0, .int .i64 0, .int .i64 0, .int .i64 0, .int .i64 0, .int .i64 0, .int .i64 0, .int .i64 0, .int .i64 0, .int .i64 0, .int .i64 0, .int .i64 0, .int .i64 0, .int .i64 0, .int .i64 0, .slice none 0 0, .slice none 0 0] : Array Value) = zeroStCells from rfl]
  have r0 : ((((w.alloc (.cells #[.slice ao n0 cap0] 24)).alloc (.cells cs 29)).alloc (.cells CC.toArray 33)).alloc (.cells zeroStCells 29)).heap[w.heap.size]? = some (.cells #[.slice ao n0 cap0] 24 (0, 0)) := heap_alloc_old _ _ (by simp <;> omega) |>.trans (heap_alloc_old _ _ (by simp <;> omega) |>.trans (heap_alloc2_old _ _ _))
  have r1 : ((((w.alloc (.cells #[.slice ao n0 cap0] 24)).alloc (.cells cs 29)).alloc (.cells CC.toArray 33)).alloc (.cells zeroStCells 29)).heap[w.heap.size + 1]? = some (.cells cs 29 (0, 0)) := heap_alloc_old _ _ (by simp <;> omega) |>.trans (heap_alloc_old _ _ (by simp) |>.trans (heap_alloc2_new _ _ _))
  have r2 : ((((w.alloc (.cells #[.slice ao n0 cap0] 24)).alloc (.cells cs 29)).alloc (.cells CC.toArray 33)).alloc (.cells zeroStCells 29)).heap[w.heap.size + 1 + 1]? = some (.cells CC.toArray 33 (0, 0)) := heap_alloc_old _ _ (by simp) |>.trans (heap_alloc3_new _ _ _ _)
  have r3 : ((((w.alloc (.cells #[.slice ao n0 cap0] 24)).alloc (.cells cs 29)).alloc (.cells CC.toArray 33)).alloc (.cells zeroStCells 29)).heap[w.heap.size + 1 + 1 + 1]? = some (.cells zeroStCells 29 (0, 0)) := by
    have := heap_alloc_last (((w.alloc (.cells #[.slice ao n0 cap0] 24)).alloc (.cells cs 29)).alloc (.cells CC.toArray 33)) (.cells zeroStCells 29)
    simpa using this
  have HB0 : Hid (Below w.heap.size w ((((w.alloc (.cells #[.slice ao n0 cap0] 24)).alloc (.cells cs 29)).alloc (.cells CC.toArray 33)).alloc (.cells zeroStCells 29))) := ((((Below.refl _ _).alloc (Nat.le_refl _) _).alloc (by simp) _).alloc (by simp <;> omega) _).alloc (by simp <;> omega) _
  generalize ((((w.alloc (.cells #[.slice ao n0 cap0] 24)).alloc (.cells cs 29)).alloc (.cells CC.toArray 33)).alloc (.cells zeroStCells 29)) = W0 at *
  have hz0 := lt_of_block r3
  have kp0 : W0.cell? ⟨w.heap.size, 0, none⟩ = some (.slice ao n0 cap0) := by rw [cell_of_row _ _ _ _ _ _ r0]; rfl
  go_upto_region 4 with (first
    | (refine wpList_load_row rfl _ _ rfl _ rfl _ _ _ _ r1 Tryd.underlying29 rfl hsz ?_)
    | (go_at_call 37; refine (HC.out _ HB0.out).mono ?_; rintro e w1 ⟨rfl, hb1⟩))
  have q0 := (hb1.block _ (by omega)).trans r0
  have q1 := (hb1.block _ (by omega)).trans r1
  have q2 := (hb1.block _ (by omega)).trans r2
  have q3 := (hb1.block _ (by omega)).trans r3
  have HB1 : Hid (Below w.heap.size w w1) := HB0.out.trans (hb1.mono HB0.out.size)
  have hz1 : w.heap.size + 1 + 1 + 1 < w1.heap.size := lt_of_block q3
  have kp : w1.cell? ⟨w.heap.size, 0, none⟩ = some (.slice ao n0 cap0) := by rw [cell_of_row _ _ _ _ _ _ q0]; rfl
  have kfv : w1.cell? ⟨w.heap.size + 1, 2, none⟩ = some (.slice (some ⟨fb, fo, none⟩) (fs.length + 1) fc) := by rw [cell_of_row _ _ _ _ _ _ q1]; exact HFR.out.1
  have kfn := HFR.out.2.2.1 w1 HB1.out
  clear r0 r1 r2 r3 kp0 hb1 HC HB0
  obtain ⟨m1, hm1⟩ : ∃ m : Nat, m = fs.length + 1 := ⟨_, rfl⟩
  have hmb : m1 ≤ 9223372036854775807 := by rw [hm1]; exact HFR.out.2.2.2
  rw [← hm1] at kfv
  have hs1 : IntKind.i64.wrap ((m1 : Int) - 1) = (fs.length : Int) := by rw [show (m1 : Int) - 1 = (fs.length : Int) by omega]; exact wrap_fits _ (by omega) (by omega)
  have hs1b : wrap64 ((m1 : Int) - 1) = (fs.length : Int) := (wrap64_small _ (by omega) (by omega)).trans (by omega)
  have hlm : (fs.length : Int) < (m1 : Int) := by omega
  have hlm2 : fs.length < m1 := by omega
  have hl0 : ¬ (fs.length : Int) < 0 := by omega
  have HM1 : Hid (m1 = fs.length + 1) := hm1
  clear hm1
  generalize fs.length = tp at *
  go_upto_region 5 with fail
  refine wp_region_held_drew (S := fun W => Below w1.heap.size w1 W) (by kernel_rfl) ((Below.refl _ _).drew) (fun hHeld => ?_)
  show wpAnyH _ _ _ _ _ 13 _ _ _
  refine wpAnyH_take (i := 0) (v := ?_) rfl (by kernel_rfl) (by kernel_rfl) (by kernel_rfl) (fun _ _ _ h => h) (Or.inl ⟨by rfl, ?_⟩) (by assumption) ?_
  rotate_left
  · (intro W hSW; have z0 := keeps_below hSW _ _ kp; go_simp; try (with_reducible rfl))
  (try simp only [List.getElem_toArray, List.getElem_cons_zero])
  (try simp only [Act.put, List.setIfInBounds_toArray, List.set_cons_zero, List.set_cons_succ])
  refine wpAnyH_take (i := 1) (v := ?_) rfl (by kernel_rfl) (by kernel_rfl) (by kernel_rfl) (fun _ _ _ h => h) (Or.inl ⟨by rfl, ?_⟩) (by assumption) ?_
  rotate_left
  · (intro W hSW; go_simp; try (with_reducible rfl))
  (try simp only [List.getElem_toArray, List.getElem_cons_succ, List.getElem_cons_zero])
  (try simp only [Act.put, List.setIfInBounds_toArray, List.set_cons_zero, List.set_cons_succ])
  refine wpAnyH_take (i := 2) (v := ?_) rfl (by kernel_rfl) (by kernel_rfl) (by kernel_rfl) (fun _ _ _ h => h) (Or.inl ⟨by rfl, ?_⟩) (by assumption) ?_
  rotate_left
  · (intro W hSW; have z0 := keeps_below hSW _ _ kfv; go_simp; try (with_reducible rfl))
  (try simp only [List.getElem_toArray, List.getElem_cons_succ, List.getElem_cons_zero])
  (try simp only [Act.put, List.setIfInBounds_toArray, List.set_cons_zero, List.set_cons_succ])
  refine wpAnyH_take (i := 3) (v := ?_) rfl (by kernel_rfl) (by kernel_rfl) (by kernel_rfl) (fun _ _ _ h => h) (Or.inl ⟨by rfl, ?_⟩) (by assumption) ?_
  rotate_left
  · (intro W hSW; go_simp; try (with_reducible rfl))
  (try simp only [List.getElem_toArray, List.getElem_cons_succ, List.getElem_cons_zero])
  (try simp only [Act.put, List.setIfInBounds_toArray, List.set_cons_zero, List.set_cons_succ])
  refine wpAnyH_take (i := 4) (v := ?_) rfl (by kernel_rfl) (by kernel_rfl) (by kernel_rfl) (fun _ _ _ h => h) (Or.inl ⟨by rfl, ?_⟩) (by assumption) ?_
  rotate_left
  · (intro W hSW; go_simp; try (with_reducible rfl))
  (try simp only [List.getElem_toArray, List.getElem_cons_succ, List.getElem_cons_zero])
  (try simp only [Act.put, List.setIfInBounds_toArray, List.set_cons_zero, List.set_cons_succ])
  refine wpAnyH_take (i := 5) (v := ?_) rfl (by kernel_rfl) (by kernel_rfl) (by kernel_rfl) (fun _ _ _ h => h) (Or.inl ⟨by rfl, ?_⟩) (by assumption) ?_
  rotate_left
  · (intro W hSW; go_simp; try (with_reducible rfl))
  (try simp only [List.getElem_toArray, List.getElem_cons_succ, List.getElem_cons_zero])
  (try simp only [Act.put, List.setIfInBounds_toArray, List.set_cons_zero, List.set_cons_succ])
  refine wpAnyH_take (i := 6) (v := ?_) rfl (by kernel_rfl) (by kernel_rfl) (by kernel_rfl) (fun _ _ _ h => h) (Or.inl ⟨by rfl, ?_⟩) (by assumption) ?_
  rotate_left
  · (intro W hSW; have z0 := keeps_below hSW _ _ kfn; go_simp; try (with_reducible rfl))
  (try simp only [List.getElem_toArray, List.getElem_cons_succ, List.getElem_cons_zero])
  (try simp only [Act.put, List.setIfInBounds_toArray, List.set_cons_zero, List.set_cons_succ])
  refine wpAnyH_ready (rs := [7]) (by kernel_rfl) (by simp) ?_
  refine AllReadyH.cons rfl (fun K hK => ?_) AllReadyH.nil
  go_simp
  go_at_call 38
  refine (HLV.out _ HB1.out.drew).mono ?_
  rintro e w3 ⟨v3, rfl, hI3, hb3⟩
  obtain ⟨al, b3, o3, n3, c3, rfl, hl3, hal, -, hcp3, hmx3⟩ := ints_get hI3
  have HL3 : Hid _ := hl3
  have HN3 : Hid (n3 ≤ 9223372036854775807) := Nat.le_trans hcp3 hmx3
  obtain rfl := hal (by have := HLP.out; omega)
  clear hl3
  clear hal
  have hb23 : Below w1.heap.size w1 w3 := Below.trans hHeld (Below.mono hb3 (Below.size hHeld))
  dsimp only
  refine hK.out _ _ hb23 (fun _ => ?_)
  clear hK K hHeld
  (try simp only [Act.put, List.setIfInBounds_toArray, List.set_cons_zero, List.set_cons_succ])
  refine wpAnyH_take (i := 8) (v := ?_) rfl (by kernel_rfl) (by kernel_rfl) (by kernel_rfl) (fun _ _ _ h => h) (Or.inl ⟨by rfl, ?_⟩) hb23 ?_
  rotate_left
  · (intro W hSW; go_simp; try (with_reducible rfl))
  (try simp only [List.getElem_toArray, List.getElem_cons_succ, List.getElem_cons_zero])
  (try simp only [Act.put, List.setIfInBounds_toArray, List.set_cons_zero, List.set_cons_succ])
  refine wpAnyH_take (i := 9) (v := ?_) rfl (by kernel_rfl) (by kernel_rfl) (by kernel_rfl) (fun _ _ _ h => h) (Or.inl ⟨by rfl, ?_⟩) hb23 ?_
  rotate_left
  · (intro W hSW; go_simp; try (with_reducible rfl))
  (try simp only [List.getElem_toArray, List.getElem_cons_succ, List.getElem_cons_zero])
  (try simp only [Act.put, List.setIfInBounds_toArray, List.set_cons_zero, List.set_cons_succ])
  refine wpAnyH_take (i := 10) (v := ?_) rfl (by kernel_rfl) (by kernel_rfl) (by kernel_rfl) (fun _ _ _ h => h) (Or.inl ⟨by rfl, ?_⟩) hb23 ?_
  rotate_left
  · (intro W hSW; go_simp; try (with_reducible rfl))
  (try simp only [List.getElem_toArray, List.getElem_cons_succ, List.getElem_cons_zero])
  (try simp only [Act.put, List.setIfInBounds_toArray, List.set_cons_zero, List.set_cons_succ])
  refine wpAnyH_take (i := 11) (v := ?_) rfl (by kernel_rfl) (by kernel_rfl) (by kernel_rfl) (fun _ _ _ h => h) (Or.inl ⟨by rfl, ?_⟩) hb23 ?_
  rotate_left
  · (intro W hSW; go_simp; try (with_reducible rfl))
  (try simp only [List.getElem_toArray, List.getElem_cons_succ, List.getElem_cons_zero])
  (try simp only [Act.put, List.setIfInBounds_toArray, List.set_cons_zero, List.set_cons_succ])
  refine wpAnyH_take (i := 12) (v := ?_) rfl (by kernel_rfl) (by kernel_rfl) (by kernel_rfl) (fun _ _ _ h => h) (Or.inl ⟨by rfl, ?_⟩) hb23 ?_
  rotate_left
  · (intro W hSW; go_simp; try (with_reducible rfl))
  (try simp only [List.getElem_toArray, List.getElem_cons_succ, List.getElem_cons_zero])
  (try simp only [Act.put, List.setIfInBounds_toArray, List.set_cons_zero, List.set_cons_succ])
  refine wpAnyH_done (by kernel_rfl) ?_ _
  (try simp only [Act.put])
  have HI3 : Hid (IntsVal w3 (.slice (some ⟨b3, o3, none⟩) n3 c3) L) := hI3
  have s1 := (hb23.block _ (lt_of_block q1)).trans q1
  have s2 := (hb23.block _ (lt_of_block q2)).trans q2
  have x3 := (hb23.block _ (lt_of_block q3)).trans q3
  have HBX : Hid (Below w.heap.size w w3) := HB1.out.trans (hb23.mono HB1.out.size)
  have kfu : w3.cell? ⟨w.heap.size + 1, 19, none⟩ = some (.int .i64 s.fuel) := by rw [cell_of_row _ _ _ _ _ _ s1]; exact HFR.out.2.1
  have c29 : w3.cell? ⟨w.heap.size + 1 + 1, 33 + 29, none⟩ = some (.int .i64 D29) := by have := HRD.out _ _ s2 29 _ (HD.out 29 (by omega)); rw [HD29.out] at this; exact this
  have c28 : w3.cell? ⟨w.heap.size + 1 + 1, 33 + 28, none⟩ = some (.int .i64 D28) := by have := HRD.out _ _ s2 28 _ (HD.out 28 (by omega)); rw [HD28.out] at this; exact this
  have hn1 : IntKind.i64.wrap ((n3 : Int) - 1) = (n3 : Int) - 1 := by have := HN3.out; have := HL3.out; have := HLP.out; exact wrap_fits _ (by omega) (by omega)
  have hn1b : wrap64 ((n3 : Int) - 1) = (n3 : Int) - 1 := by have := HN3.out; exact wrap64_small _ (by omega) (by omega)
  clear hI3 hb3 q0 q1 q2 q3 kp kfv kfn hb23
  rw [HL3.out] at HCASE
  have IN : Hid (∀ a b d W, Calls Tryd.prog 39 #[.int .i64 a, .int .i64 b, .int .i64 d] W fun e w' => e = .returned (.bool (inB a b d)) ∧ w' = W) := fun a b d W => in_any a b d W
  rcases HCASE.out with h1 | ⟨h1, h2⟩ | ⟨h1, h2, q, rfl, hq, hq1⟩
  · clear HCASE
    have A1 : Hid (∀ W, Calls Tryd.prog 39 #[.int .i64 D29, .int .i64 0, .int .i64 ((n3 : Int) - 1)] W fun e w' => e = .returned (.bool false) ∧ w' = W) := fun W => by have := in_any D29 0 ((n3 : Int) - 1) W; rw [h1] at this; exact this
    clear h1
    go_upto_region 8 with (go_at_call 39; refine (A1.out _).mono ?_; rintro e wq ⟨rfl, hwq⟩; replace hwq := hwq.symm; subst hwq)
    (try simp only [Act.put])
    clear hn1 hn1b hs1 hs1b hlm hlm2 hl0 kfu c29 c28
    go_wp2_with (first
      | (refine wpList_build_store rfl _ _ rfl zeroStCells (by simpa using built_zero) rfl _ _ rfl _ rfl rfl _ _ x3 infoSt rfl zeroSt_one ?_)
      | (refine wpList_build_to rfl _ _ rfl zeroStCells (by simpa using built_zero) ?_)
      | (refine wpList_store_row rfl _ _ _ rfl _ zeroStCells rfl rfl _ _ x3 infoSt rfl zeroSt_one ?_))
    try simp only [Exit.inBlock, Exit.then]
    exact bodyPost_ret (results_row_tmp rfl _ _ (w.heap.size + 1 + 1 + 1) 29 zeroStCells (0, 0) _ rfl (setRow_heap _ _ _ _ _ _ x3) Tryd.underlying29 rfl infoSt) rfl ⟨rfl, belowSR HBX.out (by omega) _⟩
  · clear HCASE
    go_upto_region 8 with (go_at_call 39; refine (IN.out _ _ _ _).mono ?_; rintro e wq ⟨rfl, hwq⟩; replace hwq := hwq.symm; subst hwq; first | rw [h1] | rw [h2])
    (try simp only [Act.put])
    clear hn1 hn1b hs1 hs1b hlm hlm2 hl0 kfu c29 c28
    go_wp2_with (first
      | (refine wpList_build_store rfl _ _ rfl zeroStCells (by simpa using built_zero) rfl _ _ rfl _ rfl rfl _ _ x3 infoSt rfl zeroSt_one ?_)
      | (refine wpList_build_to rfl _ _ rfl zeroStCells (by simpa using built_zero) ?_)
      | (refine wpList_store_row rfl _ _ _ rfl _ zeroStCells rfl rfl _ _ x3 infoSt rfl zeroSt_one ?_))
    try simp only [Exit.inBlock, Exit.then]
    exact bodyPost_ret (results_row_tmp rfl _ _ (w.heap.size + 1 + 1 + 1) 29 zeroStCells (0, 0) _ rfl (setRow_heap _ _ _ _ _ _ x3) Tryd.underlying29 rfl infoSt) rfl ⟨rfl, belowSR HBX.out (by omega) _⟩
  · clear HCASE
    have clv : w3.cell? ⟨b3, o3 + q, none⟩ = some (.int .i64 (-1)) := by have := ints_cell HI3.out q (by rw [HL3.out]; exact hq); rw [hq1] at this; exact this
    have hqn2 : q < n3 := hq
    have hqn : (q : Int) < (n3 : Int) := by omega
    have hq0 : ¬ (q : Int) < 0 := by omega
    clear hq1 hq
    go_upto_region 10 with (go_at_call 39; refine (IN.out _ _ _ _).mono ?_; rintro e wq ⟨rfl, hwq⟩; replace hwq := hwq.symm; subst hwq; first | rw [h1] | rw [h2])
    (try simp only [Act.put])
    clear hn1 hn1b hs1 hs1b hlm hlm2 hl0 kfu c29 c28
    go_wp2_with (first
      | (refine wpList_build_store rfl _ _ rfl zeroStCells (by simpa using built_zero) rfl _ _ rfl _ rfl rfl _ _ x3 infoSt rfl zeroSt_one ?_)
      | (refine wpList_build_to rfl _ _ rfl zeroStCells (by simpa using built_zero) ?_)
      | (refine wpList_store_row rfl _ _ _ rfl _ zeroStCells rfl rfl _ _ x3 infoSt rfl zeroSt_one ?_))
    try simp only [Exit.inBlock, Exit.then]
    exact bodyPost_ret (results_row_tmp rfl _ _ (w.heap.size + 1 + 1 + 1) 29 zeroStCells (0, 0) _ rfl (setRow_heap _ _ _ _ _ _ x3) Tryd.underlying29 rfl infoSt) rfl ⟨rfl, belowSR HBX.out (by omega) _⟩
end Go.Proofs.YteabbanjjdmjkaaDoor
