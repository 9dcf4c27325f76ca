/- Contract of the document's CpuRun (package tierlineref), at every words and machine. -/
import Derived.Test.YtndogdojcbcjgaaDoorXCpuRefAll
import Derived.Test.YtndogdojcbcjgaaDoorXCpuFits
import Derived.Test.YtndogdojcbcjgaaDoorGroupU
namespace Go.Proofs.YtndogdojcbcjgaaDoor
open Go Go.RowKit

theorem runA_ok {ws : List Int} : ∀ (n k : Nat) (c : Cp), c.Ok → (runA ws n k c).1.Ok
  | 0, k, c, h => by
    unfold runA
    split
    · exact h
    · exact zero_ok
  | n + 1, k, c, h => by
    unfold runA
    split
    · exact h
    · split
      · exact runA_ok n (k + 1) _ (h.doC _ _ _)
      · exact zero_ok
theorem runA_succ (ws : List Int) (n k : Nat) (c : Cp) (h : c.halted = false) : runA ws (n + 1) k c = if stepE ws c = 0 then runA ws n (k + 1) (stepC ws c) else (zeroCp, 0, stepE ws c) := by
  show (if c.halted = true then (c, (k : Int), (0 : Int)) else if stepE ws c = 0 then runA ws n (k + 1) (stepC ws c) else (zeroCp, 0, stepE ws c)) = _
  rw [if_neg (by rw [h]; decide)]

set_option maxRecDepth 100000 in
set_option maxHeartbeats 8000000 in
theorem rrun_any (ws : List Int) (vw : Value) (c : Cp) (most : Int) (w : World) (hok : c.Ok) (hw : IntsVal w vw ws) (hfw : ∀ z ∈ ws, Fits z) (hfc : FitCp c) :
    Calls Tryd.prog 39 #[vw, c.val, .int .i64 most] w fun e w' => e = .returned (.tuple #[(runAns ws c most).1.val, .int .i64 (runAns ws c most).2.1, .int .i64 (runAns ws c most).2.2]) ∧ Below w.heap.size w w' := by
  have i0 : (Tryd.prog.info? 33).map (·.size) = some (cpuCells zeroCp).toArray.size := infoCpC zero_ok
  have o0 := cp_one zeroCp
  have HCA : Hid (CAt ((w.alloc (.cells (cpuCells c).toArray 33)).alloc (.cells Tryd.zeroCells33 33)) w.heap.size c) := ⟨heap_alloc2_old _ _ _, hok⟩
  have h6 : ((w.alloc (.cells (cpuCells c).toArray 33)).alloc (.cells Tryd.zeroCells33 33)).heap[w.heap.size + 1]? = some (.cells (cpuCells zeroCp).toArray 33 (0, 0)) := (heap_alloc2_new _ _ _).trans (by rw [zc_eq])
  have HB : Hid (Below w.heap.size w ((w.alloc (.cells (cpuCells c).toArray 33)).alloc (.cells Tryd.zeroCells33 33))) := ((Below.refl _ _).alloc (Nat.le_refl _) _).alloc (by simp) _
  obtain ⟨aw, cw, rfl⟩ := hw.shape
  have HSTP : Hid (ws.length ≤ 32768 → ∀ W d, d.Ok → FitCp d → Below w.heap.size w W → Calls Tryd.prog 74 #[.slice aw ws.length cw, .agg (cpuCells d).toArray] W fun e w' => e = .returned (.tuple #[.agg (cpuCells (stepF ws d)).toArray, .int .i64 (stepE ws d)]) ∧ Below W.heap.size W w') := fun hl W d hd hf hW =>
    rcpu_any ws _ d W hd (hw.keeps (keeps_below hW)) hl hfw hf.regs
  obtain ⟨A, hA⟩ : ∃ A, A = runAns ws c most := ⟨_, rfl⟩
  have HA : Hid (A = runAns ws c most) := hA
  rw [← hA]
  clear hw hfw hA
  unfold Cp.val
  by_cases hl : 32768 < ws.length
  · replace HA : Hid (A = (zeroCp, 0, 1)) := by show _ = _; rw [HA.out]; unfold runAns; rw [if_pos hl]
    have hlI : decide ((32768 : Int) < (ws.length : Int)) = true := by simp; omega
    have hlN : decide (32768 < ws.length) = true := by simpa using hl
    go_enter Tryd.func39, Tryd.ntmps39
    go_upto_region 1 with fail
    generalize ((w.alloc (.cells (cpuCells c).toArray 33)).alloc (.cells Tryd.zeroCells33 33)) = W at *
    go_wp2_with (first
      | (refine wpList_build_store rfl _ _ rfl (cpuCells zeroCp).toArray (by simpa using built_cp0) rfl _ _ rfl _ rfl rfl _ _ h6 i0 rfl o0 ?_)
      | (refine wpList_build_to rfl _ _ rfl (cpuCells zeroCp).toArray (by simpa using built_cp0) ?_)
      | (refine wpList_store_row rfl _ _ _ rfl _ (cpuCells zeroCp).toArray rfl rfl _ _ h6 i0 rfl o0 ?_))
    try simp only [Exit.inBlock, Exit.then]
    exact bodyPost_ret (results_row_tmp2 rfl _ _ (w.heap.size + 1) 33 _ (0, 0) _ rfl (setRow_heap _ _ _ _ _ _ h6) Tryd.underlying33 rfl i0) rfl ⟨by rw [HA.out]; rfl, belowSC HB.out (by omega) HB.out.size _⟩
  have hlI : decide ((32768 : Int) < (ws.length : Int)) = false := by simp; omega
  have hlN : decide (32768 < ws.length) = false := by simpa using hl
  by_cases hm : 0 ≤ most ∧ most ≤ 4000000
  case neg =>
    replace HA : Hid (A = (zeroCp, 0, 2)) := by show _ = _; rw [HA.out]; unfold runAns; rw [if_neg hl, if_pos (by omega)]
    have jm : inB most 0 4000000 = false := inB_f hm
    clear hm
    go_enter Tryd.func39, Tryd.ntmps39
    go_upto_region 1 with fail
    generalize ((w.alloc (.cells (cpuCells c).toArray 33)).alloc (.cells Tryd.zeroCells33 33)) = W at *
    go_wp2_with (first
      | (go_at_call 48; refine (in_any _ _ _ _).mono ?_; rintro e wq ⟨rfl, hwq⟩; replace hwq := hwq.symm; subst hwq)
      | (refine wpList_build_store rfl _ _ rfl (cpuCells zeroCp).toArray (by simpa using built_cp0) rfl _ _ rfl _ rfl rfl _ _ h6 i0 rfl o0 ?_)
      | (refine wpList_build_to rfl _ _ rfl (cpuCells zeroCp).toArray (by simpa using built_cp0) ?_)
      | (refine wpList_store_row rfl _ _ _ rfl _ (cpuCells zeroCp).toArray rfl rfl _ _ h6 i0 rfl o0 ?_))
    try simp only [Exit.inBlock, Exit.then]
    exact bodyPost_ret (results_row_tmp2 rfl _ _ (w.heap.size + 1) 33 _ (0, 0) _ rfl (setRow_heap _ _ _ _ _ _ h6) Tryd.underlying33 rfl i0) rfl ⟨by rw [HA.out]; rfl, belowSC HB.out (by omega) HB.out.size _⟩
  case pos =>
  obtain ⟨m, rfl⟩ := Int.eq_ofNat_of_zero_le hm.1
  replace HA : Hid (A = runA ws m 0 c.begun) := by show _ = _; rw [HA.out]; unfold runAns; rw [if_neg hl, if_neg (by omega)]; rfl
  have jm : inB ((m : Nat) : Int) 0 4000000 = true := inB_t hm.1 hm.2
  have hm4 : m ≤ 4000000 := by omega
  have HLN : Hid (ws.length ≤ 32768) := by show _ ≤ _; omega
  have HST : Hid _ := HSTP.out HLN.out
  have hbo : c.begun.Ok := hok.begun
  have HFB : Hid (FitCp c.begun) := hfc.begun
  clear HSTP hl hm hfc
  go_enter Tryd.func39, Tryd.ntmps39
  go_upto_region 1 with fail
  generalize ((w.alloc (.cells (cpuCells c).toArray 33)).alloc (.cells Tryd.zeroCells33 33)) = W at *
  have HC1 : Hid (CAt (W.setCell ⟨w.heap.size, 0, none⟩ (.int .i64 0)) w.heap.size c.begun) := HCA.out.set 0 (by omega) 0
  have k0 := HCA.out.reg 0 (by omega)
  have f0 := HCA.out.free 0
  have h7 : (W.setCell ⟨w.heap.size, 0, none⟩ (.int .i64 0)).heap[w.heap.size + 1]? = some (.cells (cpuCells zeroCp).toArray 33 (0, 0)) := (heap_setCell_other _ _ _ _ (by simp)).trans h6
  have HB1 : Hid (Below w.heap.size w (W.setCell ⟨w.heap.size, 0, none⟩ (.int .i64 0))) := by show Below _ _ _; exact HB.out.setCell (by simp) _
  go_upto_region 6 with (go_at_call 48; refine (in_any _ _ _ _).mono ?_; rintro e wq ⟨rfl, hwq⟩; replace hwq := hwq.symm; subst hwq)
  generalize (W.setCell ⟨w.heap.size, 0, none⟩ (.int .i64 0)) = W1 at *
  clear k0 f0 HCA h6 HB jm
  go_upto_region 7 with fail
  go_loopw [9] (fun i wr => ∃ (k : Nat) (d : Cp), k ≤ m ∧ i = .int .i64 k ∧ CAt wr w.heap.size d ∧ FitCp d ∧ A = runA ws (m - k) k d ∧ wr.heap[w.heap.size + 1]? = some (.cells (cpuCells zeroCp).toArray 33 (0, 0)) ∧ Below w.heap.size w wr) (fun i _ => m + 1 - (intOf i).toNat)
  case atStart => exact ⟨0, c.begun, Nat.zero_le _, rfl, HC1.out, HFB.out, HA.out, h7, HB1.out⟩
  case round =>
    clear HC1 HFB HA h7 HB1
    obtain ⟨k, d, hk, rfl, hcd, hfd, hA, h7, hbr⟩ := hrel
    have HCD : Hid (CAt wr w.heap.size d) := hcd
    have HFD : Hid (FitCp d) := hfd
    have HA : Hid (A = runA ws (m - k) k d) := hA
    have HBR : Hid (Below w.heap.size w wr) := hbr
    have kh := hcd.halt
    have rc := hcd.cells
    have idd : (Tryd.prog.info? 33).map (·.size) = some (cpuCells d).toArray.size := infoCpC hcd.ok
    have odd := cp_one d
    have hld := zlen hcd.ok
    have hdk : d.Ok := hcd.ok
    clear hcd hfd hA hbr
    cases hh : d.halted
    · rw [hh] at kh
      by_cases hkm : k < m
      · have hSX := HST.out wr d hdk HFD.out HBR.out
        have hg : decide ((m : Int) ≤ (k : Int)) = false := by simp; omega
        have hg2 : decide (m ≤ k) = false := by simp; omega
        have HRA : Hid (A = if stepE ws d = 0 then runA ws (m - (k + 1)) (k + 1) (stepC ws d) else (zeroCp, 0, stepE ws d)) := by
          show _ = _
          rw [HA.out, show m - k = (m - (k + 1)) + 1 by omega]
          exact runA_succ ws _ k d hh
        have HFO : Hid ((stepF ws d).Ok) := by
          show Cp.Ok _
          unfold stepF
          split
          · exact hdk.doC _ _ _
          · exact zero_ok
        have iF : (Tryd.prog.info? 33).map (·.size) = some (cpuCells (stepF ws d)).toArray.size := infoCpC HFO.out
        have oF := cp_one (stepF ws d)
        have hlZ : Tryd.zeroCells33.size = (cpuCells (stepF ws d)).toArray.size := by rw [zc_cp, List.size_toArray, cp_len HFO.out]
        have hlF : (cpuCells d).toArray.size = (cpuCells (stepF ws d)).toArray.size := by rw [List.size_toArray, List.size_toArray, cp_len hdk, cp_len HFO.out]
        by_cases hE : stepE ws d = 0
        · have HNF : Hid (stepF ws d = stepC ws d) := if_pos hE
          have HFN : Hid (FitCp (stepC ws d)) := HFD.out.step HLN.out hE
          have HRB : Hid (A = runA ws (m - (k + 1)) (k + 1) (stepC ws d)) := by show _ = _; rw [HRA.out, if_pos hE]
          rw [hE] at hSX
          clear hE hh HRA HA
          generalize hFF : stepF ws d = F at *
          go_wp2_with (first
            | (refine wpList_load_row rfl 33 (.tmp 4) rfl _ rfl _ _ _ _ rc Tryd.underlying33 rfl idd ?_)
            | (go_at_call 74; refine hSX.mono ?_; rintro e w2 ⟨rfl, hb2⟩; have r8 : (w2.alloc (.cells (cpuCells F).toArray 33)).heap[w.heap.size + 1]? = some (.cells (cpuCells zeroCp).toArray 33 (0, 0)) := (heap_alloc_old _ _ (Nat.lt_of_lt_of_le (lt_of_block h7) hb2.size)).trans ((hb2.block _ (lt_of_block h7)).trans h7); have rd : (w2.alloc (.cells (cpuCells F).toArray 33)).heap[w.heap.size]? = some (.cells (cpuCells d).toArray 33 (0, 0)) := (heap_alloc_old _ _ (Nat.lt_of_lt_of_le (lt_of_block rc) hb2.size)).trans ((hb2.block _ (lt_of_block rc)).trans rc); have rF : (w2.alloc (.cells (cpuCells F).toArray 33)).heap[w2.heap.size]? = some (.cells (cpuCells F).toArray 33 (0, 0)) := heap_alloc_last w2 _; have HB2 : Hid (Below w.heap.size w (w2.alloc (.cells (cpuCells F).toArray 33))) := (HBR.out.trans (hb2.mono HBR.out.size)).alloc (Nat.le_trans HBR.out.size hb2.size) _; clear hb2)
            | (refine wpList_store_row rfl 33 (.tmp 10) _ rfl _ (cpuCells F).toArray rfl rfl _ _ (heap_alloc_last w2 _) iF hlZ oF ?_; rw [World.setRow_alloc_new])
            | (refine wpList_load_row rfl 33 (.tmp 10) rfl _ rfl _ _ _ _ rF Tryd.underlying33 rfl iF ?_)
            | (refine wpList_store_row rfl 33 (.tmp 4) _ rfl _ (cpuCells F).toArray rfl rfl _ _ rd iF hlF oF ?_))
          go_roundw
          case rel => exact ⟨k + 1, F, by omega, by go_num, ⟨setRow_heap _ _ _ _ _ _ rd, HFO.out⟩, by rw [HNF.out]; exact HFN.out, by rw [HNF.out]; exact HRB.out, (setRow_otherC _ _ _ _ (by omega)).trans r8, belowSC HB2.out (Nat.le_refl _) HB2.out.size _⟩
          case measure => simp [intOf]; omega
        · have HNF : Hid (stepF ws d = zeroCp) := if_neg hE
          have HRB : Hid (A = (zeroCp, 0, stepE ws d)) := by show _ = _; rw [HRA.out, if_neg hE]
          have hEb : (stepE ws d != 0) = true := by simpa using hE
          clear hE hh HRA HA
          generalize hFF : stepF ws d = F at *
          generalize stepE ws d = E at *
          go_wp2_with (first
            | (refine wpList_load_row rfl 33 (.tmp 4) rfl _ rfl _ _ _ _ rc Tryd.underlying33 rfl idd ?_)
            | (go_at_call 74; refine hSX.mono ?_; rintro e w2 ⟨rfl, hb2⟩; have r8 : (w2.alloc (.cells (cpuCells F).toArray 33)).heap[w.heap.size + 1]? = some (.cells (cpuCells zeroCp).toArray 33 (0, 0)) := (heap_alloc_old _ _ (Nat.lt_of_lt_of_le (lt_of_block h7) hb2.size)).trans ((hb2.block _ (lt_of_block h7)).trans h7); have HB2 : Hid (Below w.heap.size w (w2.alloc (.cells (cpuCells F).toArray 33))) := (HBR.out.trans (hb2.mono HBR.out.size)).alloc (Nat.le_trans HBR.out.size hb2.size) _; clear hb2)
            | (refine wpList_store_row rfl 33 (.tmp 10) _ rfl _ (cpuCells F).toArray rfl rfl _ _ (heap_alloc_last w2 _) iF hlZ oF ?_; rw [World.setRow_alloc_new])
            | (refine wpList_build_store rfl _ _ rfl (cpuCells zeroCp).toArray (by simpa using built_cp0) rfl _ _ rfl _ rfl rfl _ _ r8 i0 rfl o0 ?_)
            | (refine wpList_build_to rfl _ _ rfl (cpuCells zeroCp).toArray (by simpa using built_cp0) ?_)
            | (refine wpList_store_row rfl 33 (.tmp 6) _ rfl _ (cpuCells zeroCp).toArray rfl rfl _ _ r8 i0 rfl o0 ?_))
          try simp only [Exit.inBlock, Exit.then]
          exact bodyPost_ret (results_row_tmp2 rfl _ _ (w.heap.size + 1) 33 _ (0, 0) _ rfl (setRow_heap _ _ _ _ _ _ r8) Tryd.underlying33 rfl i0) rfl ⟨by rw [HRB.out]; rfl, belowSC HB2.out (by omega) HB2.out.size _⟩
      · have HRB : Hid (A = (zeroCp, 0, 10)) := by
          show _ = _
          rw [HA.out, show m - k = 0 by omega]
          unfold runA
          rw [hh, if_neg (by decide)]
        have hg : decide ((m : Int) ≤ (k : Int)) = true := by simp; omega
        have hg2 : decide (m ≤ k) = true := by simp; omega
        clear hh HA hkm
        go_wp2_with (first
          | (refine wpList_build_store rfl _ _ rfl (cpuCells zeroCp).toArray (by simpa using built_cp0) rfl _ _ rfl _ rfl rfl _ _ h7 i0 rfl o0 ?_)
          | (refine wpList_build_to rfl _ _ rfl (cpuCells zeroCp).toArray (by simpa using built_cp0) ?_)
          | (refine wpList_store_row rfl 33 (.tmp 6) _ rfl _ (cpuCells zeroCp).toArray rfl rfl _ _ h7 i0 rfl o0 ?_))
        try simp only [Exit.inBlock, Exit.then]
        exact bodyPost_ret (results_row_tmp2 rfl _ _ (w.heap.size + 1) 33 _ (0, 0) _ rfl (setRow_heap _ _ _ _ _ _ h7) Tryd.underlying33 rfl i0) rfl ⟨by rw [HRB.out]; rfl, belowSC HBR.out (by omega) HBR.out.size _⟩
    · rw [hh] at kh
      have HRB : Hid (A = (d, (k : Int), 0)) := by
        show _ = _
        rw [HA.out]
        cases hn : m - k with
        | zero => unfold runA; rw [hh, if_pos rfl]
        | succ n => unfold runA; rw [hh, if_pos rfl]
      clear hh HA
      go_wp2_with (first
        | (refine wpList_load_row rfl 33 (.tmp 4) rfl _ rfl _ _ _ _ rc Tryd.underlying33 rfl idd ?_)
        | (refine wpList_store_row rfl 33 (.tmp 6) _ rfl _ (cpuCells d).toArray rfl rfl _ _ h7 idd hld odd ?_))
      try simp only [Exit.inBlock, Exit.then]
      exact bodyPost_ret (results_row_tmp2 rfl _ _ (w.heap.size + 1) 33 _ (0, 0) _ rfl (setRow_heap _ _ _ _ _ _ h7) Tryd.underlying33 rfl idd) rfl ⟨by rw [HRB.out]; rfl, belowSC HBR.out (by omega) HBR.out.size _⟩
end Go.Proofs.YtndogdojcbcjgaaDoor
