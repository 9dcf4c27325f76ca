/- Contracts of the document's cpuStep and CpuStepped (package tierlineref), at every words and machine. -/
import Derived.Test.YtndogdojcbcjgaaDoorXRvOf
import Derived.Test.YtndogdojcbcjgaaDoorXCpuRefA
import Derived.Test.YtndogdojcbcjgaaDoorXCpuRefB
import Derived.Test.YtndogdojcbcjgaaDoorXCpuRefC
import Derived.Test.YtndogdojcbcjgaaDoorXCpuRefD
import Derived.Test.YtndogdojcbcjgaaDoorXCpuRefE
import Derived.Test.YtndogdojcbcjgaaDoorXCpuRefF
import Derived.Test.YtndogdojcbcjgaaDoorXCpuRefG
import Derived.Test.YtndogdojcbcjgaaDoorXCpuRefH
namespace Go.Proofs.YtndogdojcbcjgaaDoor
open Go Go.RowKit

/-- What a step answers. -/
def stepF (ws : List Int) (c : Cp) : Cp := if stepE ws c = 0 then stepC ws c else zeroCp
theorem rcpu_any (ws : List Int) (vw : Value) (c : Cp) (w : World) (hok : c.Ok) (hw : IntsVal w vw ws) (hl : ws.length ≤ 32768) (hfw : ∀ z ∈ ws, Fits z) (hfr : ∀ z ∈ c.regs, Fits z) :
    Calls Tryd.prog 74 #[vw, c.val] w fun e w' => e = .returned (.tuple #[(stepF ws c).val, .int .i64 (stepE ws c)]) ∧ Below w.heap.size w w' := by
  by_cases h0 : c.pc < 0 ∨ (ws.length : Int) ≤ c.pc
  · have e1 : stepE ws c = 8 := if_pos h0
    have e2 : stepF ws c = zeroCp := by unfold stepF; rw [e1, if_neg (by decide)]
    rw [e1, e2]
    exact rcpu_out ws vw c w hok hw hl h0
  have hrv : ∀ W, Calls Tryd.prog 107 #[.int .i64 (ws.getD c.pc.toNat 0)] W fun e w' => e = .returned (.tuple #[(decX (ws.getD c.pc.toNat 0)).val, .int .i64 (decE (ws.getD c.pc.toNat 0))]) ∧ Below W.heap.size W w' := fun W => rvOf_any _ (hfw _ (by rw [List.getD_eq_getElem?_getD, List.getElem?_eq_getElem (show c.pc.toNat < ws.length by omega)]; exact List.getElem_mem _)) W
  by_cases hd : decE (ws.getD c.pc.toNat 0) = 0
  · have e1 : stepE ws c = doE (decX (ws.getD c.pc.toNat 0)) (c.reg (decX (ws.getD c.pc.toNat 0)).rs1) := by unfold stepE; rw [if_neg h0, if_pos hd]
    have e2 : stepF ws c = if stepE ws c = 0 then doC (decX (ws.getD c.pc.toNat 0)) (c.reg (decX (ws.getD c.pc.toNat 0)).rs1) (c.reg (decX (ws.getD c.pc.toNat 0)).rs2) c else zeroCp := rfl
    have hx := (word_dec _ hd).1
    obtain ⟨x, hX⟩ : ∃ x, decX (ws.getD c.pc.toNat 0) = x := ⟨_, rfl⟩
    rw [hX] at e1 e2 hx
    obtain ⟨op, rd, rs1, rs2, imm⟩ := x
    have o1 := hx.op1
    have o2 := hx.op2
    dsimp only at o1 o2 e1 e2
    have p0 : 0 ≤ c.pc := by omega
    have p1 : c.pc < ws.length := by omega
    rcases (show (1 ≤ op ∧ op ≤ 11) ∨ (12 ≤ op ∧ op ≤ 19) ∨ (22 ≤ op ∧ op ≤ 25) ∨ (op = 26 ∨ op = 28 ∨ op = 29) ∨ op = 27 ∨ (op = 20 ∨ op = 21) by omega) with h | h | h | h | h | h
    · exact rcpu_A ws vw c w hok hw hl hrv hfr p0 p1 op rd rs1 rs2 imm h _ _ hX hd e1 e2
    · exact rcpu_B ws vw c w hok hw hl hrv hfr p0 p1 op rd rs1 rs2 imm h _ _ hX hd e1 e2
    · exact rcpu_C ws vw c w hok hw hl hrv hfr p0 p1 op rd rs1 rs2 imm h _ _ hX hd e1 e2
    · exact rcpu_D ws vw c w hok hw hl hrv hfr p0 p1 op rd rs1 rs2 imm h _ _ hX hd e1 e2
    · by_cases hg : adJ (wrap64 (c.reg rs1 + imm)) % 4 = 0
      · by_cases ho : wrap64 (c.reg rs1 + imm) % 2 = 0
        · exact rcpu_E ws vw c w hok hw hl hrv hfr p0 p1 op rd rs1 rs2 imm ⟨h, hg, ho⟩ _ _ hX hd e1 e2
        · exact rcpu_G ws vw c w hok hw hl hrv hfr p0 p1 op rd rs1 rs2 imm ⟨h, hg, ho⟩ _ _ hX hd e1 e2
      · exact rcpu_H ws vw c w hok hw hl hrv hfr p0 p1 op rd rs1 rs2 imm ⟨h, hg⟩ _ _ hX hd e1 e2
    · exact rcpu_F ws vw c w hok hw hl hrv hfr p0 p1 op rd rs1 rs2 imm h _ _ hX hd e1 e2
  · have e1 : stepE ws c = 3 := by unfold stepE; rw [if_neg h0, if_neg hd]
    have e2 : stepF ws c = zeroCp := by unfold stepF; rw [e1, if_neg (by decide)]
    rw [e1, e2]
    exact rcpu_bad ws vw c w hok hw hl hrv hfr (by omega) (by omega) hd

set_option maxRecDepth 100000 in
set_option maxHeartbeats 4000000 in
theorem rstepped_any (ws : List Int) (vw : Value) (c : Cp) (w : World) (hok : c.Ok) (hw : IntsVal w vw ws) (hfw : ∀ z ∈ ws, Fits z) (hfr : ∀ z ∈ c.regs, Fits z) :
    Calls Tryd.prog 37 #[vw, c.val] w fun e w' => e = .returned (.tuple #[(stepAns ws c).1.val, .int .i64 (stepAns ws c).2]) ∧ Below w.heap.size w w' := by
  have i0 : (Tryd.prog.info? 33).map (·.size) = some (cpuCells zeroCp).toArray.size := infoCpC zero_ok
  have o0 := cp_one zeroCp
  have HCA : Hid (CAt ((w.alloc (.cells (cpuCells c).toArray 33)).alloc (.cells Tryd.zeroCells33 33)) w.heap.size c) := ⟨heap_alloc2_old _ _ _, hok⟩
  have h6 : ((w.alloc (.cells (cpuCells c).toArray 33)).alloc (.cells Tryd.zeroCells33 33)).heap[w.heap.size + 1]? = some (.cells (cpuCells zeroCp).toArray 33 (0, 0)) := (heap_alloc2_new _ _ _).trans (by rw [zc_eq])
  have HB : Hid (Below w.heap.size w ((w.alloc (.cells (cpuCells c).toArray 33)).alloc (.cells Tryd.zeroCells33 33))) := ((Below.refl _ _).alloc (Nat.le_refl _) _).alloc (by simp) _
  obtain ⟨aw, cw, rfl⟩ := hw.shape
  have HSTP : Hid (ws.length ≤ 32768 → ∀ W, Below w.heap.size w W → Calls Tryd.prog 74 #[.slice aw ws.length cw, c.begun.val] W fun e w' => e = .returned (.tuple #[(stepF ws c.begun).val, .int .i64 (stepE ws c.begun)]) ∧ Below W.heap.size W w') := fun hl W hW =>
    rcpu_any ws _ c.begun W hok.begun (hw.keeps (keeps_below hW)) hl hfw (fun z hz => by
      rcases List.mem_or_eq_of_mem_set hz with h1 | rfl
      · exact hfr z h1
      · unfold Fits; omega)
  obtain ⟨A, hA⟩ : ∃ A, A = stepAns ws c := ⟨_, rfl⟩
  have HA : Hid (A = stepAns ws c) := hA
  rw [← hA]
  clear hw hfw hfr hA
  unfold Cp.val
  by_cases hl : 32768 < ws.length
  · replace HA : Hid (A = (zeroCp, 1)) := by show _ = _; rw [HA.out]; unfold stepAns; rw [if_pos hl]
    have hlI : decide ((32768 : Int) < (ws.length : Int)) = true := by simp; omega
    have hlN : decide (32768 < ws.length) = true := by simpa using hl
    go_enter Tryd.func37, Tryd.ntmps37
    go_upto_region 1 with fail
    generalize ((w.alloc (.cells (cpuCells c).toArray 33)).alloc (.cells Tryd.zeroCells33 33)) = W at *
    go_wp2_with (first
      | (refine wpList_build_store rfl _ _ rfl (cpuCells zeroCp).toArray (by simpa using built_cp0) rfl _ _ rfl _ rfl rfl _ _ h6 i0 rfl o0 ?_)
      | (refine wpList_build_to rfl _ _ rfl (cpuCells zeroCp).toArray (by simpa using built_cp0) ?_)
      | (refine wpList_store_row rfl _ _ _ rfl _ (cpuCells zeroCp).toArray rfl rfl _ _ h6 i0 rfl o0 ?_))
    try simp only [Exit.inBlock, Exit.then]
    exact bodyPost_ret (results_row_tmp rfl _ _ (w.heap.size + 1) 33 _ (0, 0) _ rfl (setRow_heap _ _ _ _ _ _ h6) Tryd.underlying33 rfl i0) rfl ⟨by rw [HA.out]; rfl, belowSC HB.out (by omega) HB.out.size _⟩
  have HST := HSTP.out (by omega)
  have hlI : decide ((32768 : Int) < (ws.length : Int)) = false := by simp; omega
  have hlN : decide (32768 < ws.length) = false := by simpa using hl
  have hbo : c.begun.Ok := hok.begun
  have ib : (Tryd.prog.info? 33).map (·.size) = some (cpuCells c.begun).toArray.size := infoCpC hbo
  have ob := cp_one c.begun
  have hlb := zlen hbo
  have HA2 : Hid (A = if c.halted = true then (c.begun, 0) else if stepE ws c.begun = 0 then (stepC ws c.begun, 0) else (zeroCp, stepE ws c.begun)) := by show _ = _; rw [HA.out]; unfold stepAns; rw [if_neg hl]
  have HSX : Hid (∀ W, Below w.heap.size w W → Calls Tryd.prog 74 #[.slice aw ws.length cw, .agg (cpuCells c.begun).toArray] W fun e w' => e = .returned (.tuple #[.agg (cpuCells (stepF ws c.begun)).toArray, .int .i64 (stepE ws c.begun)]) ∧ Below W.heap.size W w') := HST
  have HFO : Hid ((stepF ws c.begun).Ok) := by
    show Cp.Ok _
    unfold stepF
    split
    · exact hbo.doC _ _ _
    · exact zero_ok
  clear HST HSTP HA hl
  go_enter Tryd.func37, Tryd.ntmps37
  go_upto_region 1 with fail
  have hzW : w.heap.size + 1 < ((w.alloc (.cells (cpuCells c).toArray 33)).alloc (.cells Tryd.zeroCells33 33)).heap.size := by simp
  generalize ((w.alloc (.cells (cpuCells c).toArray 33)).alloc (.cells Tryd.zeroCells33 33)) = W at *
  have HC1 : Hid (CAt (W.setCell ⟨w.heap.size, 0, none⟩ (.int .i64 0)) w.heap.size c.begun) := HCA.out.set 0 (by omega) 0
  have k0 := HCA.out.reg 0 (by omega)
  have f0 := HCA.out.free 0
  have h7 : (W.setCell ⟨w.heap.size, 0, none⟩ (.int .i64 0)).heap[w.heap.size + 1]? = some (.cells (cpuCells zeroCp).toArray 33 (0, 0)) := (heap_setCell_other _ _ _ _ (by simp)).trans h6
  have HB1 : Hid (Below w.heap.size w (W.setCell ⟨w.heap.size, 0, none⟩ (.int .i64 0))) := by show Below _ _ _; exact HB.out.setCell (by simp) _
  go_upto_region 4 with fail
  generalize (W.setCell ⟨w.heap.size, 0, none⟩ (.int .i64 0)) = W1 at *
  have rc := HC1.out.cells
  have kh := HC1.out.halt
  have HKH : Hid (c.begun.halted = c.halted) := rfl
  rw [HKH.out] at kh
  clear k0 f0 HCA h6 HB
  cases hh : c.halted
  · rw [hh] at kh
    have HA3 : Hid (A = (stepF ws c.begun, stepE ws c.begun)) := by
      show _ = _
      rw [HA2.out, hh, if_neg (by decide)]
      unfold stepF
      by_cases h : stepE ws c.begun = 0
      · rw [if_pos h, if_pos h, h]
      · rw [if_neg h, if_neg h]
    have iF : (Tryd.prog.info? 33).map (·.size) = some (cpuCells (stepF ws c.begun)).toArray.size := infoCpC HFO.out
    have oF := cp_one (stepF ws c.begun)
    have hlF := zlen HFO.out
    have hlZ : Tryd.zeroCells33.size = (cpuCells (stepF ws c.begun)).toArray.size := by rw [zc_cp, List.size_toArray, cp_len HFO.out]
    have hSX := HSX.out W1 HB1.out
    clear hh
    generalize stepF ws c.begun = F at *
    generalize stepE ws c.begun = E at *
    go_wp2_with (first
      | (refine wpList_load_row rfl 33 (.tmp 3) rfl _ rfl _ _ _ _ rc Tryd.underlying33 rfl ib ?_)
      | (go_at_call 74; refine hSX.mono ?_; rintro e w2 ⟨rfl, hb2⟩; have r8 : (w2.alloc (.cells (cpuCells F).toArray 33)).heap[w.heap.size + 1]? = some (.cells (cpuCells zeroCp).toArray 33 (0, 0)) := (heap_alloc_old _ _ (Nat.lt_of_lt_of_le (lt_of_block h7) hb2.size)).trans ((hb2.block _ (lt_of_block h7)).trans h7); have rF : (w2.alloc (.cells (cpuCells F).toArray 33)).heap[w2.heap.size]? = some (.cells (cpuCells F).toArray 33 (0, 0)) := heap_alloc_last w2 _; have HB2 : Hid (Below w.heap.size w (w2.alloc (.cells (cpuCells F).toArray 33))) := (HB1.out.trans (hb2.mono HB1.out.size)).alloc (Nat.le_trans HB1.out.size hb2.size) _; clear hb2)
      | (refine wpList_store_row rfl 33 (.tmp 6) _ rfl _ (cpuCells F).toArray rfl rfl _ _ (heap_alloc_last w2 _) iF hlZ oF ?_; rw [World.setRow_alloc_new])
      | (refine wpList_load_row rfl 33 (.tmp 6) rfl _ rfl _ _ _ _ rF Tryd.underlying33 rfl iF ?_)
      | (refine wpList_store_row rfl 33 (.tmp 4) _ rfl _ (cpuCells F).toArray rfl rfl _ _ r8 iF hlF oF ?_))
    try simp only [Exit.inBlock, Exit.then]
    exact bodyPost_ret (results_row_tmp rfl _ _ (w.heap.size + 1) 33 _ (0, 0) _ rfl (setRow_heap _ _ _ _ _ _ r8) Tryd.underlying33 rfl iF) rfl ⟨by rw [HA3.out]; rfl, belowSC HB2.out (by omega) HB2.out.size _⟩
  · rw [hh] at kh
    have HA3 : Hid (A = (c.begun, 0)) := by show _ = _; rw [HA2.out, hh, if_pos rfl]
    clear hh
    go_wp2_with (first
      | (refine wpList_load_row rfl 33 (.tmp 3) rfl _ rfl _ _ _ _ rc Tryd.underlying33 rfl ib ?_)
      | (refine wpList_store_row rfl 33 (.tmp 4) _ rfl _ (cpuCells c.begun).toArray rfl rfl _ _ h7 ib hlb ob ?_))
    try simp only [Exit.inBlock, Exit.then]
    exact bodyPost_ret (results_row_tmp rfl _ _ (w.heap.size + 1) 33 _ (0, 0) _ rfl (setRow_heap _ _ _ _ _ _ h7) Tryd.underlying33 rfl ib) rfl ⟨by rw [HA3.out]; rfl, belowSC HB1.out (by omega) HB1.out.size _⟩
end Go.Proofs.YtndogdojcbcjgaaDoor
