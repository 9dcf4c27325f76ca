/- Contracts of cpu.Check, Step and Run (written by gen/mkcpurun.py): what each answers, in plain numbers. The words lie in memory, and so do the two tables of rv. -/
import Derived.Test.YtapjfiihfgndeaaDoorCpuStep
namespace Go.Proofs.YtapjfiihfgndeaaDoor
open Go Go.RowKit

theorem ccheck_any (ao : Option Addr) (n cap : Nat) (w : World) :
    Calls Tryd.prog 24 #[.slice ao n cap] w fun e w' => e = .returned (.int .i64 (if 32768 < n then 1 else 0)) ∧ w' = w := by
  by_cases h : 32768 < n
  · rw [if_pos h]
    have hI : (32768 : Int) < n := by omega
    go_enter Tryd.func24, Tryd.ntmps24
    go_wp2
    go_ret
    exact ⟨rfl, rfl⟩
  · rw [if_neg h]
    have hI : decide ((32768 : Int) < n) = false := by simp; omega
    have hN : decide (32768 < n) = false := by simp; omega
    go_enter Tryd.func24, Tryd.ntmps24
    go_wp2
    go_ret
    exact ⟨rfl, rfl⟩
theorem results_row_tmp2 {P : Program} {fn : Func} {p u v : Tmp} {ty : TypeId} (h : fn.results = #[.cell p ty, .tmp u, .tmp v]) (tmps : Array Value) (w : World) (g : Nat) (t : TypeId) (cs : Array Value) (fr : Nat × Nat) (d : TypeDesc)
    (hp : tmps.getD p undef = .pointer (some ⟨g, 0, none⟩)) (hg : w.heap[g]? = some (.cells cs t fr))
    (hu : P.underlying ty = some d) (hd : (match d with | .struct _ | .array _ _ => true | _ => false) = true) (hi : (P.info? ty).map (·.size) = some cs.size) :
    (results fn tmps).run P w = .ok (.tuple #[.agg cs, tmps.getD u undef, tmps.getD v undef]) w := by
  have hp' : tmps[p]?.getD undef = .pointer (some ⟨g, 0, none⟩) := by simpa using hp
  simp [results, h, hp', asAddr, run_loadVar_row w g t ty cs fr d hg hu hd hi]
theorem zero_val : zeroCp.val = .agg (cpuCells zeroCp).toArray := rfl
theorem infoCp0 : (Tryd.prog.info? 26).map (·.size) = some (cpuCells zeroCp).toArray.size := infoCpC zero_ok

set_option maxRecDepth 100000 in
set_option maxHeartbeats 4000000 in
theorem cpuStep_any (c : Cp) (hc : c.Ok) (ws : List Int) (ao : Option Addr) (cap : Nat) (w : World) (ht : RvTab w) (hv : IntsVal w (.slice ao ws.length cap) ws) :
    Calls Tryd.prog 14 #[.slice ao ws.length cap, c.val] w fun e w' => e = .returned (.tuple #[(stepAns ws c).1.val, .int .i64 (stepAns ws c).2]) ∧ Below w.heap.size w w' := by
  have HB0 : Hid (Below w.heap.size w ((w.alloc (.cells (cpuCells c).toArray 26)).alloc (.cells Tryd.zeroCells26 26))) := ((Below.refl _ _).alloc (Nat.le_refl _) _).alloc (by simp) _
  have H0 : Hid (((w.alloc (.cells (cpuCells c).toArray 26)).alloc (.cells Tryd.zeroCells26 26)).heap[w.heap.size]? = some (.cells (cpuCells c).toArray 26 (0, 0))) := heap_alloc2_old _ _ _
  have H1 : Hid (((w.alloc (.cells (cpuCells c).toArray 26)).alloc (.cells Tryd.zeroCells26 26)).heap[w.heap.size + 1]? = some (.cells Tryd.zeroCells26 26 (0, 0))) := heap_alloc2_new _ _ _
  have HZ : Hid (((w.alloc (.cells (cpuCells c).toArray 26)).alloc (.cells Tryd.zeroCells26 26)).heap.size = w.heap.size + 2) := by show _ = _; simp
  have HRB : Hid (∀ V, Below w.heap.size w V → RvTab V ∧ IntsVal V (.slice ao ws.length cap) ws) := fun V hV => ⟨ht.below hV, hv.keeps (keeps_below hV)⟩
  have hck := fun w => ccheck_any ao ws.length cap w
  clear ht hv
  unfold Cp.val
  obtain ⟨A, hA⟩ : ∃ A, A = stepAns ws c := ⟨_, rfl⟩
  have HA : Hid (A = stepAns ws c) := hA
  rw [← hA]
  clear hA
  by_cases hl : 32768 < ws.length
  · replace HA : Hid (A = (zeroCp, 1)) := by show _ = _; rw [HA.out]; unfold stepAns; rw [if_pos hl]
    rw [if_pos hl] at hck
    clear HRB
    go_enter Tryd.func14, Tryd.ntmps14
    go_upto_region 1 with fail
    generalize ((w.alloc (.cells (cpuCells c).toArray 26)).alloc (.cells Tryd.zeroCells26 26)) = W0 at HB0 H0 H1 HZ ⊢
    go_wp2_with (first | (go_at_call 24; refine (hck _).mono ?_; rintro e w' ⟨rfl, hw'⟩; replace hw' := hw'.symm; subst hw') | (refine wpList_build_storeR rfl _ _ rfl (cpuCells zeroCp).toArray built_cp0 rfl _ _ rfl _ rfl rfl _ _ H1.out infoCp0 (by rw [zc_cp]; rfl) (cp_one _) ?_) | (refine wpList_store_row rfl _ _ _ rfl _ (cpuCells zeroCp).toArray rfl rfl _ _ H1.out infoCp0 (by rw [zc_cp]; rfl) (cp_one _) ?_))
    try simp only [Exit.inBlock, Exit.then]
    exact bodyPost_ret (results_row_tmpR rfl _ _ (w.heap.size + 1) 26 _ (0, 0) _ rfl (setRow_heap _ _ _ _ _ _ H1.out) Tryd.underlying26 rfl infoCp0) rfl ⟨by rw [HA.out]; rfl, below_setRowR HB0.out (by omega) _⟩
  · have hl' : ws.length ≤ 32768 := by omega
    rw [if_neg hl] at hck
    have HMO : Hid (∀ w, Calls Tryd.prog 25 #[.slice ao ws.length cap, c.val] w _) := fun w => machineOf_any c hc ao ws.length cap w
    go_enter Tryd.func14, Tryd.ntmps14
    go_upto_region 1 with fail
    generalize ((w.alloc (.cells (cpuCells c).toArray 26)).alloc (.cells Tryd.zeroCells26 26)) = W0 at HB0 H0 H1 HZ ⊢
    go_upto_region 5 with (first | (go_at_call 24; refine (hck _).mono ?_; rintro e w' ⟨rfl, hw'⟩; replace hw' := hw'.symm; subst hw') | (refine wpList_load_row rfl _ _ rfl _ rfl _ _ _ _ H0.out Tryd.underlying26 rfl (infoCpC hc) ?_) | (go_at_call 25; refine (HMO.out _).mono ?_; rintro e w1 ⟨rfl, hb1⟩; have HB1 : Hid (Below W0.heap.size W0 w1) := hb1; clear hb1) | (refine wpList_store_row rfl _ _ _ rfl _ (mcCells c.begun (.slice ao ws.length cap)).toArray rfl rfl _ _ (heap_alloc_last w1 _) (infoMcC hc.begun _) (by rw [zc_mc, List.size_toArray, mc_len hc.begun]) (mc_one _ _ _ _) ?_))
    have hz1 : w.heap.size + 2 ≤ w1.heap.size := by have := HB1.out.size; have := HZ.out; omega
    have HM2 : Hid (MAt ((w1.alloc (.cells Tryd.zeroCells60 60)).setRow w1.heap.size (mcCells c.begun (.slice ao ws.length cap)).toArray) (w.heap.size + 2) w1.heap.size c.begun (.slice ao ws.length cap)) := ⟨setRow_heap _ _ _ _ _ _ (heap_alloc_last w1 _), hz1, hc.begun⟩
    have HBW : Hid (Below (w.heap.size + 2) W0 ((w1.alloc (.cells Tryd.zeroCells60 60)).setRow w1.heap.size (mcCells c.begun (.slice ao ws.length cap)).toArray)) := below_setRowR ((HB1.out.mono (by have := HZ.out; omega)).alloc (by omega) _) hz1 _
    generalize ((w1.alloc (.cells Tryd.zeroCells60 60)).setRow w1.heap.size (mcCells c.begun (.slice ao ws.length cap)).toArray) = W2 at HM2 HBW ⊢
    have HB2 : Hid (Below w.heap.size w W2) := HB0.out.trans (HBW.out.mono (by omega))
    have H12 : Hid (W2.heap[w.heap.size + 1]? = some (.cells Tryd.zeroCells26 26 (0, 0))) := (HBW.out.block _ (by omega)).trans H1.out
    generalize w1.heap.size = g at *
    clear HB1 HBW H0 H1 HZ HMO HB0 hck
    have c97 := HM2.out.halted
    cases hh : c.halted
    · rw [show c.begun.halted = false from hh] at c97
      by_cases hE : stepE ws c.begun = 0
      · replace HA : Hid (A = (stepC ws c.begun, 0)) := by show _ = _; rw [HA.out]; unfold stepAns; rw [if_neg hl, if_neg (by rw [hh]; decide), if_pos hE]
        have hst := cstep_any (w.heap.size + 2) g c.begun ws ao cap W2 HM2.out (HRB.out _ HB2.out).1 (HRB.out _ HB2.out).2 hl'
        have HST : Hid (Calls Tryd.prog 27 #[.pointer (some ⟨g, 0, none⟩)] W2 fun e w' => e = .returned (.int .i64 0) ∧ (∃ c', MAt w' (w.heap.size + 2) g c' (.slice ao ws.length cap) ∧ c' = stepC ws c.begun) ∧ Below (w.heap.size + 2) W2 w') := hst.mono fun e w' h => ⟨by rw [h.1, hE], ⟨h.2.1.choose, h.2.1.choose_spec.1, h.2.1.choose_spec.2 hE⟩, h.2.2⟩
        clear hst hE hh
        go_upto_region 10 with (go_at_call 27; refine HST.out.mono ?_; rintro e w3 ⟨rfl, ⟨c', hm3, he3⟩, hb3⟩)
        subst he3
        have HM3 : Hid (MAt w3 (w.heap.size + 2) g (stepC ws c.begun) (.slice ao ws.length cap)) := hm3
        have HB3 : Hid (Below w.heap.size w w3) := HB2.out.trans (hb3.mono (by omega))
        have H13 : Hid (w3.heap[w.heap.size + 1]? = some (.cells Tryd.zeroCells26 26 (0, 0))) := (hb3.block _ (by omega)).trans H12.out
        have hok3 := hm3.ok
        clear hm3 hb3 c97 HST
        go_wp2_with (first | (go_at_call 26; refine (cpu_any _ _ _ _ _ HM3.out).mono ?_; rintro e w5 ⟨rfl, hb5⟩; have h15 := (hb5.block _ (lt_of_block H13.out)).trans H13.out; have HB5 : Hid (Below w.heap.size w w5) := HB3.out.trans (hb5.mono HB3.out.size); clear hb5) | (refine wpList_store_row rfl _ _ _ rfl _ (cpuCells (stepC ws c.begun)).toArray rfl rfl _ _ h15 (infoCpC hok3) (by rw [zc_cp, List.size_toArray, cp_len hok3]) (cp_one _) ?_))
        try simp only [Exit.inBlock, Exit.then]
        exact bodyPost_ret (results_row_tmpR rfl _ _ (w.heap.size + 1) 26 _ (0, 0) _ rfl (setRow_heap _ _ _ _ _ _ h15) Tryd.underlying26 rfl (infoCpC hok3)) rfl ⟨by rw [HA.out]; rfl, below_setRowR HB5.out (by omega) _⟩
      · replace HA : Hid (A = (zeroCp, stepE ws c.begun)) := by show _ = _; rw [HA.out]; unfold stepAns; rw [if_neg hl, if_neg (by rw [hh]; decide), if_neg hE]
        have hst := cstep_any (w.heap.size + 2) g c.begun ws ao cap W2 HM2.out (HRB.out _ HB2.out).1 (HRB.out _ HB2.out).2 hl'
        have HST : Hid (Calls Tryd.prog 27 #[.pointer (some ⟨g, 0, none⟩)] W2 fun e w' => e = .returned (.int .i64 (stepE ws c.begun)) ∧ Below (w.heap.size + 2) W2 w') := hst.mono fun e w' h => ⟨h.1, h.2.2⟩
        generalize stepE ws c.begun = E at *
        have hne : (E != 0) = true := by simpa using hE
        clear hst hE hh
        go_upto_region 9 with (go_at_call 27; refine HST.out.mono ?_; rintro e w3 ⟨rfl, hb3⟩)
        have HB3 : Hid (Below w.heap.size w w3) := HB2.out.trans (hb3.mono (by omega))
        have h13 : w3.heap[w.heap.size + 1]? = some (.cells Tryd.zeroCells26 26 (0, 0)) := (hb3.block _ (by omega)).trans H12.out
        clear hb3 c97 HST
        go_wp2_with (first | (refine wpList_build_to rfl _ _ rfl (cpuCells zeroCp).toArray built_cp0 ?_) | (refine wpList_store_row rfl _ _ _ rfl _ (cpuCells zeroCp).toArray rfl rfl _ _ h13 infoCp0 (by rw [zc_cp]; rfl) (cp_one _) ?_))
        try simp only [Exit.inBlock, Exit.then]
        exact bodyPost_ret (results_row_tmpR rfl _ _ (w.heap.size + 1) 26 _ (0, 0) _ rfl (setRow_heap _ _ _ _ _ _ h13) Tryd.underlying26 rfl infoCp0) rfl ⟨by rw [HA.out]; rfl, below_setRowR HB3.out (by omega) _⟩
    · rw [show c.begun.halted = true from hh] at c97
      replace HA : Hid (A = (c.begun, 0)) := by show _ = _; rw [HA.out]; unfold stepAns; rw [if_neg hl, if_pos hh]
      have hok := hc.begun
      clear hh
      go_wp2_with (first | (go_at_call 26; refine (cpu_any _ _ _ _ _ HM2.out).mono ?_; rintro e w5 ⟨rfl, hb5⟩; have h15 := (hb5.block _ (lt_of_block H12.out)).trans H12.out; have HB5 : Hid (Below w.heap.size w w5) := HB2.out.trans (hb5.mono HB2.out.size); clear hb5) | (refine wpList_store_row rfl _ _ _ rfl _ (cpuCells c.begun).toArray rfl rfl _ _ h15 (infoCpC hok) (by rw [zc_cp, List.size_toArray, cp_len hok]) (cp_one _) ?_))
      try simp only [Exit.inBlock, Exit.then]
      exact bodyPost_ret (results_row_tmpR rfl _ _ (w.heap.size + 1) 26 _ (0, 0) _ rfl (setRow_heap _ _ _ _ _ _ h15) Tryd.underlying26 rfl (infoCpC hok)) rfl ⟨by rw [HA.out]; rfl, below_setRowR HB5.out (by omega) _⟩
theorem runA_stop {ws : List Int} {c : Cp} (n k : Nat) (hh : c.halted = true) : runA ws n k c = (c, (k : Int), 0) := by
  cases n <;> rw [runA, if_pos hh]
theorem runA_short {ws : List Int} {c : Cp} (k : Nat) (hh : c.halted = false) : runA ws 0 k c = (zeroCp, 0, 10) := by
  rw [runA, if_neg (by rw [hh]; decide)]
theorem runA_bad {ws : List Int} {c : Cp} (n k : Nat) (hh : c.halted = false) (hE : ¬ stepE ws c = 0) : runA ws (n + 1) k c = (zeroCp, 0, stepE ws c) := by
  rw [runA, if_neg (by rw [hh]; decide), if_neg hE]
theorem runA_on {ws : List Int} {c : Cp} (n k : Nat) (hh : c.halted = false) (hE : stepE ws c = 0) : runA ws (n + 1) k c = runA ws n (k + 1) (stepC ws c) := by
  rw [runA, if_neg (by rw [hh]; decide), if_pos hE]
set_option maxRecDepth 100000 in
set_option maxHeartbeats 4000000 in
theorem cpuRun_any (c : Cp) (hc : c.Ok) (ws : List Int) (ao : Option Addr) (cap : Nat) (most : Int) (w : World) (ht : RvTab w) (hv : IntsVal w (.slice ao ws.length cap) ws) :
    Calls Tryd.prog 17 #[.slice ao ws.length cap, c.val, .int .i64 most] w fun e w' => e = .returned (.tuple #[(runAns ws c most).1.val, .int .i64 (runAns ws c most).2.1, .int .i64 (runAns ws c most).2.2]) ∧ Below w.heap.size w w' := by
  have HB0 : Hid (Below w.heap.size w ((w.alloc (.cells (cpuCells c).toArray 26)).alloc (.cells Tryd.zeroCells26 26))) := ((Below.refl _ _).alloc (Nat.le_refl _) _).alloc (by simp) _
  have H0 : Hid (((w.alloc (.cells (cpuCells c).toArray 26)).alloc (.cells Tryd.zeroCells26 26)).heap[w.heap.size]? = some (.cells (cpuCells c).toArray 26 (0, 0))) := heap_alloc2_old _ _ _
  have H1 : Hid (((w.alloc (.cells (cpuCells c).toArray 26)).alloc (.cells Tryd.zeroCells26 26)).heap[w.heap.size + 1]? = some (.cells Tryd.zeroCells26 26 (0, 0))) := heap_alloc2_new _ _ _
  have HZ : Hid (((w.alloc (.cells (cpuCells c).toArray 26)).alloc (.cells Tryd.zeroCells26 26)).heap.size = w.heap.size + 2) := by show _ = _; simp
  have HRB : Hid (∀ V, Below w.heap.size w V → RvTab V ∧ IntsVal V (.slice ao ws.length cap) ws) := fun V hV => ⟨ht.below hV, hv.keeps (keeps_below hV)⟩
  have hck := fun w => ccheck_any ao ws.length cap w
  clear ht hv
  unfold Cp.val
  obtain ⟨A, hA⟩ : ∃ A, A = runAns ws c most := ⟨_, rfl⟩
  have HA : Hid (A = runAns ws c most) := hA
  rw [← hA]
  clear hA
  by_cases hl : 32768 < ws.length
  · replace HA : Hid (A = (zeroCp, 0, 1)) := by show _ = _; rw [HA.out]; unfold runAns; rw [if_pos hl]
    rw [if_pos hl] at hck
    clear HRB
    go_enter Tryd.func17, Tryd.ntmps17
    go_upto_region 1 with fail
    generalize ((w.alloc (.cells (cpuCells c).toArray 26)).alloc (.cells Tryd.zeroCells26 26)) = W0 at HB0 H0 H1 HZ ⊢
    go_wp2_with (first | (go_at_call 24; refine (hck _).mono ?_; rintro e w' ⟨rfl, hw'⟩; replace hw' := hw'.symm; subst hw') | (refine wpList_build_to rfl _ _ rfl (cpuCells zeroCp).toArray built_cp0 ?_) | (refine wpList_store_row rfl _ _ _ rfl _ (cpuCells zeroCp).toArray rfl rfl _ _ H1.out infoCp0 (by rw [zc_cp]; rfl) (cp_one _) ?_))
    try simp only [Exit.inBlock, Exit.then]
    exact bodyPost_ret (results_row_tmp2 rfl _ _ (w.heap.size + 1) 26 _ (0, 0) _ rfl (setRow_heap _ _ _ _ _ _ H1.out) Tryd.underlying26 rfl infoCp0) rfl ⟨by rw [HA.out]; rfl, below_setRowR HB0.out (by omega) _⟩
  rw [if_neg hl] at hck
  by_cases hm0 : most < 0
  · replace HA : Hid (A = (zeroCp, 0, 2)) := by show _ = _; rw [HA.out]; unfold runAns; rw [if_neg hl, if_pos (Or.inl hm0)]
    have d1 : decide (most < 0) = true := by simpa using hm0
    clear HRB hm0
    go_enter Tryd.func17, Tryd.ntmps17
    go_upto_region 1 with fail
    generalize ((w.alloc (.cells (cpuCells c).toArray 26)).alloc (.cells Tryd.zeroCells26 26)) = W0 at HB0 H0 H1 HZ ⊢
    go_wp2_with (first | (go_at_call 24; refine (hck _).mono ?_; rintro e w' ⟨rfl, hw'⟩; replace hw' := hw'.symm; subst hw') | (refine wpList_build_storeR rfl _ _ rfl (cpuCells zeroCp).toArray built_cp0 rfl _ _ rfl _ rfl rfl _ _ H1.out infoCp0 (by rw [zc_cp]; rfl) (cp_one _) ?_) | (refine wpList_store_row rfl _ _ _ rfl _ (cpuCells zeroCp).toArray rfl rfl _ _ H1.out infoCp0 (by rw [zc_cp]; rfl) (cp_one _) ?_))
    try simp only [Exit.inBlock, Exit.then]
    exact bodyPost_ret (results_row_tmp2 rfl _ _ (w.heap.size + 1) 26 _ (0, 0) _ rfl (setRow_heap _ _ _ _ _ _ H1.out) Tryd.underlying26 rfl infoCp0) rfl ⟨by rw [HA.out]; rfl, below_setRowR HB0.out (by omega) _⟩
  by_cases hm1 : 4000000 < most
  · replace HA : Hid (A = (zeroCp, 0, 2)) := by show _ = _; rw [HA.out]; unfold runAns; rw [if_neg hl, if_pos (Or.inr hm1)]
    have d1 : decide (most < 0) = false := by simpa using hm0
    have d2 : decide (4000000 < most) = true := by simpa using hm1
    clear HRB hm1 hm0
    go_enter Tryd.func17, Tryd.ntmps17
    go_upto_region 1 with fail
    generalize ((w.alloc (.cells (cpuCells c).toArray 26)).alloc (.cells Tryd.zeroCells26 26)) = W0 at HB0 H0 H1 HZ ⊢
    go_wp2_with (first | (go_at_call 24; refine (hck _).mono ?_; rintro e w' ⟨rfl, hw'⟩; replace hw' := hw'.symm; subst hw') | (refine wpList_build_storeR rfl _ _ rfl (cpuCells zeroCp).toArray built_cp0 rfl _ _ rfl _ rfl rfl _ _ H1.out infoCp0 (by rw [zc_cp]; rfl) (cp_one _) ?_) | (refine wpList_store_row rfl _ _ _ rfl _ (cpuCells zeroCp).toArray rfl rfl _ _ H1.out infoCp0 (by rw [zc_cp]; rfl) (cp_one _) ?_))
    try simp only [Exit.inBlock, Exit.then]
    exact bodyPost_ret (results_row_tmp2 rfl _ _ (w.heap.size + 1) 26 _ (0, 0) _ rfl (setRow_heap _ _ _ _ _ _ H1.out) Tryd.underlying26 rfl infoCp0) rfl ⟨by rw [HA.out]; rfl, below_setRowR HB0.out (by omega) _⟩
  replace HA : Hid (A = runA ws most.toNat 0 c.begun) := by show _ = _; rw [HA.out]; unfold runAns; rw [if_neg hl, if_neg (by omega)]
  obtain ⟨m, rfl⟩ := Int.eq_ofNat_of_zero_le (show 0 ≤ most by omega)
  rw [Int.toNat_natCast] at HA
  have d1 : decide ((m : Int) < 0) = false := by simp
  have d2 : decide ((4000000 : Int) < (m : Int)) = false := by simp; omega
  have d3 : decide (4000000 < m) = false := by simp; omega
  have hm4 : m ≤ 4000000 := by omega
  have hl' : ws.length ≤ 32768 := by omega
  have HMO : Hid (∀ w, Calls Tryd.prog 25 #[.slice ao ws.length cap, c.val] w _) := fun w => machineOf_any c hc ao ws.length cap w
  clear hm0 hm1 hl
  go_enter Tryd.func17, Tryd.ntmps17
  go_upto_region 1 with fail
  generalize ((w.alloc (.cells (cpuCells c).toArray 26)).alloc (.cells Tryd.zeroCells26 26)) = W0 at HB0 H0 H1 HZ ⊢
  go_upto_region 7 with (first | (go_at_call 24; refine (hck _).mono ?_; rintro e w' ⟨rfl, hw'⟩; replace hw' := hw'.symm; subst hw') | (refine wpList_load_row rfl _ _ rfl _ rfl _ _ _ _ H0.out Tryd.underlying26 rfl (infoCpC hc) ?_) | (go_at_call 25; refine (HMO.out _).mono ?_; rintro e w1 ⟨rfl, hb1⟩; have HB1 : Hid (Below W0.heap.size W0 w1) := hb1; clear hb1) | (refine wpList_store_row rfl _ _ _ rfl _ (mcCells c.begun (.slice ao ws.length cap)).toArray rfl rfl _ _ (heap_alloc_last w1 _) (infoMcC hc.begun _) (by rw [zc_mc, List.size_toArray, mc_len hc.begun]) (mc_one _ _ _ _) ?_))
  have hz1 : w.heap.size + 2 ≤ w1.heap.size := by have := HB1.out.size; have := HZ.out; omega
  have HM2 : Hid (MAt ((w1.alloc (.cells Tryd.zeroCells60 60)).setRow w1.heap.size (mcCells c.begun (.slice ao ws.length cap)).toArray) (w.heap.size + 2) w1.heap.size c.begun (.slice ao ws.length cap)) := ⟨setRow_heap _ _ _ _ _ _ (heap_alloc_last w1 _), hz1, hc.begun⟩
  have HBW : Hid (Below (w.heap.size + 2) W0 ((w1.alloc (.cells Tryd.zeroCells60 60)).setRow w1.heap.size (mcCells c.begun (.slice ao ws.length cap)).toArray)) := below_setRowR ((HB1.out.mono (by have := HZ.out; omega)).alloc (by omega) _) hz1 _
  generalize ((w1.alloc (.cells Tryd.zeroCells60 60)).setRow w1.heap.size (mcCells c.begun (.slice ao ws.length cap)).toArray) = W2 at HM2 HBW ⊢
  have HB2 : Hid (Below w.heap.size w W2) := HB0.out.trans (HBW.out.mono (by omega))
  have H12 : Hid (W2.heap[w.heap.size + 1]? = some (.cells Tryd.zeroCells26 26 (0, 0))) := (HBW.out.block _ (by omega)).trans H1.out
  generalize w1.heap.size = g at *
  clear HB1 HBW H0 H1 HZ HMO HB0 hck
  clear d1 d2 d3
  go_wp2_with fail
  go_loopw [11] (fun v wr => ∃ (k : Nat) (c' : Cp), k ≤ m ∧ v = .int .i64 k ∧ MAt wr (w.heap.size + 2) g c' (.slice ao ws.length cap) ∧ Below (w.heap.size + 2) W2 wr ∧ A = runA ws (m - k) k c') (fun v _ => m - (intOf v).toNat)
  case atStart => exact ⟨0, c.begun, by omega, rfl, HM2.out, Below.refl _ _, HA.out⟩
  case round =>
    obtain ⟨k, c', hk, rfl, hmt, hbr, hA⟩ := hrel
    have HMR : Hid (MAt wr (w.heap.size + 2) g c' (.slice ao ws.length cap)) := hmt
    have HBR : Hid (Below (w.heap.size + 2) W2 wr) := hbr
    have HBW : Hid (Below w.heap.size w wr) := HB2.out.trans (hbr.mono (by omega))
    have H1R : Hid (wr.heap[w.heap.size + 1]? = some (.cells Tryd.zeroCells26 26 (0, 0))) := (hbr.block _ (by omega)).trans H12.out
    have hok' := hmt.ok
    have c97 := hmt.halted
    clear HA hbr
    cases hh : c'.halted
    · rw [hh] at c97
      by_cases hkm : k = m
      · subst hkm
        have HA : Hid (A = (zeroCp, 0, 10)) := by show _ = _; rw [hA, Nat.sub_self, runA_short k hh]
        have h1r := H1R.out
        clear hA hh hmt
        go_wp2_with (first | (refine wpList_build_storeR rfl _ _ rfl (cpuCells zeroCp).toArray built_cp0 rfl _ _ rfl _ rfl rfl _ _ h1r infoCp0 (by rw [zc_cp]; rfl) (cp_one _) ?_) | (refine wpList_store_row rfl _ _ _ rfl _ (cpuCells zeroCp).toArray rfl rfl _ _ h1r infoCp0 (by rw [zc_cp]; rfl) (cp_one _) ?_))
        try simp only [Exit.inBlock, Exit.then]
        exact bodyPost_ret (results_row_tmp2 rfl _ _ (w.heap.size + 1) 26 _ (0, 0) _ rfl (setRow_heap _ _ _ _ _ _ h1r) Tryd.underlying26 rfl infoCp0) rfl ⟨by rw [HA.out]; rfl, below_setRowR HBW.out (by omega) _⟩
      · have hnk : ¬ (k : Int) = (m : Int) := by omega
        have hst := cstep_any (w.heap.size + 2) g c' ws ao cap wr hmt (HRB.out _ HBW.out).1 (HRB.out _ HBW.out).2 hl'
        obtain ⟨n, hn⟩ : ∃ n, m - k = n + 1 := ⟨m - k - 1, by omega⟩
        rw [hn] at hA
        by_cases hE : stepE ws c' = 0
        · rw [runA_on n k hh hE] at hA
          have HA : Hid (A = runA ws (m - (k + 1)) (k + 1) (stepC ws c')) := by show _ = _; rw [hA, show m - (k + 1) = n by omega]
          have HST : Hid (Calls Tryd.prog 27 #[.pointer (some ⟨g, 0, none⟩)] wr fun e w' => e = .returned (.int .i64 0) ∧ (∃ c2, MAt w' (w.heap.size + 2) g c2 (.slice ao ws.length cap) ∧ c2 = stepC ws c') ∧ Below (w.heap.size + 2) wr w') := hst.mono fun e w' h => ⟨by rw [h.1, hE], ⟨h.2.1.choose, h.2.1.choose_spec.1, h.2.1.choose_spec.2 hE⟩, h.2.2⟩
          clear hA hh hmt hst hE hn
          go_wp2_with (go_at_call 27; refine HST.out.mono ?_; rintro e w3 ⟨rfl, ⟨c2, hm3, he3⟩, hb3⟩)
          subst he3
          go_roundw
          case rel => exact ⟨k + 1, _, by omega, by go_num, hm3, HBR.out.trans hb3, HA.out⟩
          case measure => simp [intOf]; omega
        · have HA : Hid (A = (zeroCp, 0, stepE ws c')) := by show _ = _; rw [hA, runA_bad n k hh hE]
          have HST : Hid (Calls Tryd.prog 27 #[.pointer (some ⟨g, 0, none⟩)] wr fun e w' => e = .returned (.int .i64 (stepE ws c')) ∧ Below (w.heap.size + 2) wr w') := hst.mono fun e w' h => ⟨h.1, h.2.2⟩
          clear hst hA
          generalize stepE ws c' = E at *
          have hne : (E != 0) = true := by simpa using hE
          clear hE hh hmt hn
          go_upto_region 14 with (go_at_call 27; refine HST.out.mono ?_; rintro e w3 ⟨rfl, hb3⟩)
          have HB3 : Hid (Below w.heap.size w w3) := HBW.out.trans (hb3.mono (by omega))
          have h13 : w3.heap[w.heap.size + 1]? = some (.cells Tryd.zeroCells26 26 (0, 0)) := (hb3.block _ (by omega)).trans H1R.out
          clear hb3 c97 HST
          go_wp2_with (first | (refine wpList_build_to rfl _ _ rfl (cpuCells zeroCp).toArray built_cp0 ?_) | (refine wpList_store_row rfl _ _ _ rfl _ (cpuCells zeroCp).toArray rfl rfl _ _ h13 infoCp0 (by rw [zc_cp]; rfl) (cp_one _) ?_))
          try simp only [Exit.inBlock, Exit.then]
          exact bodyPost_ret (results_row_tmp2 rfl _ _ (w.heap.size + 1) 26 _ (0, 0) _ rfl (setRow_heap _ _ _ _ _ _ h13) Tryd.underlying26 rfl infoCp0) rfl ⟨by rw [HA.out]; rfl, below_setRowR HB3.out (by omega) _⟩
    · rw [hh] at c97
      have HA : Hid (A = (c', (k : Int), 0)) := by show _ = _; rw [hA, runA_stop _ k hh]
      clear hA hh hmt
      go_wp2_with (first | (go_at_call 26; refine (cpu_any _ _ _ _ _ HMR.out).mono ?_; rintro e w5 ⟨rfl, hb5⟩; have h15 := (hb5.block _ (lt_of_block H1R.out)).trans H1R.out; have HB5 : Hid (Below w.heap.size w w5) := HBW.out.trans (hb5.mono HBW.out.size); clear hb5) | (refine wpList_store_row rfl _ _ _ rfl _ (cpuCells c').toArray rfl rfl _ _ h15 (infoCpC hok') (by rw [zc_cp, List.size_toArray, cp_len hok']) (cp_one _) ?_))
      try simp only [Exit.inBlock, Exit.then]
      exact bodyPost_ret (results_row_tmp2 rfl _ _ (w.heap.size + 1) 26 _ (0, 0) _ rfl (setRow_heap _ _ _ _ _ _ h15) Tryd.underlying26 rfl (infoCpC hok')) rfl ⟨by rw [HA.out]; rfl, below_setRowR HB5.out (by omega) _⟩
end Go.Proofs.YtapjfiihfgndeaaDoor
