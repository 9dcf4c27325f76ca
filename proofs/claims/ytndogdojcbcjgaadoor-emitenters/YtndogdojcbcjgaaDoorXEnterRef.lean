/- Contracts of the document's runningFault and Entered (package tierlineref). -/
import Derived.Test.YtndogdojcbcjgaaDoorXEmitData
import Derived.Test.YtndogdojcbcjgaaDoorGroupX
import Derived.Test.YtndogdojcbcjgaaDoorXStFault
namespace Go.Proofs.YtndogdojcbcjgaaDoor
open Go Go.RowKit

set_option maxRecDepth 100000 in
set_option maxHeartbeats 2000000 in
theorem runningFault_any (P : List Fn) (v sv : Value) (s : St) (c : Int) (w : World) (hv : ProgVal w v P) (hs : StVal w sv s) (hE : ∀ E, ProofAns P E → checkE E P s = c) :
    Calls Tryd.prog 43 #[.agg #[v], sv] w fun e w' => e = .returned (.int .i64 (runE c s)) ∧ Below w.heap.size w w' := by
  have hbx : ∀ o o', Below w.heap.size w ((w.alloc o).alloc o') := fun o o' => ((Below.refl _ _).alloc (Nat.le_refl _) _).alloc (by simp) _
  have HC : Hid (∀ o o', Calls Tryd.prog 76 #[.agg #[v], sv] ((w.alloc o).alloc o') fun e w' => e = .returned (.int .i64 c) ∧ Below ((w.alloc o).alloc o').heap.size ((w.alloc o).alloc o') w') := fun o o' =>
    (stateFault_any P v sv s _ (hv.keeps (keeps_below (hbx o o'))) (hs.keeps (keeps_below (hbx o o')))).mono fun e w' ⟨E, h1, h2, h3⟩ => ⟨by rw [h2, hE E h1], h3⟩
  obtain ⟨ao, n0, cap0, rfl⟩ := hv.shape
  have hs0 := hs
  obtain ⟨cs, rfl, hsz, -, -⟩ := hs.cells
  have c0 : cs[0]? = some (.int .i64 s.status) := by
    obtain ⟨fv, ev, av, e, -⟩ := hs0
    obtain rfl : cs = (stCells s fv ev av).toArray := by simpa using e
    rfl
  have HBX : Hid _ := hbx
  clear hv hs hs0 hbx hE
  by_cases hc0 : c = 0
  · subst hc0
    by_cases hst : s.status = 0
    · have HR : Hid (runE 0 s = 0) := by show _ = _; unfold runE; rw [if_pos rfl, if_pos hst]
      rw [hst] at c0
      rw [HR.out]
      go_enter Tryd.func43, Tryd.ntmps43
      go_wp2_with (first
        | (refine wpList_load_row rfl _ _ rfl _ rfl _ _ _ _ (heap_alloc2_new _ _ _) Tryd.underlying29 rfl hsz ?_)
        | (go_at_call 76; refine (HC.out _ _).mono ?_; rintro e w1 ⟨rfl, hb1⟩; have k0 : w1.cell? ⟨w.heap.size + 1, 0, none⟩ = some (.int .i64 0) := (by rw [cell_of_row _ _ _ _ _ _ ((hb1.block _ (by simp)).trans (heap_alloc2_new _ _ _))]; exact c0); have HB1 : Hid (Below w.heap.size w w1) := (HBX.out _ _).trans (hb1.mono (by simp; omega)); clear hb1))
      go_ret
      exact ⟨rfl, HB1.out⟩
    · have HR : Hid (runE 0 s = 9) := runE_off hst
      have hsb : (s.status != 0) = true := by simpa using hst
      rw [HR.out]
      go_enter Tryd.func43, Tryd.ntmps43
      go_wp2_with (first
        | (refine wpList_load_row rfl _ _ rfl _ rfl _ _ _ _ (heap_alloc2_new _ _ _) Tryd.underlying29 rfl hsz ?_)
        | (go_at_call 76; refine (HC.out _ _).mono ?_; rintro e w1 ⟨rfl, hb1⟩; have k0 : w1.cell? ⟨w.heap.size + 1, 0, none⟩ = some (.int .i64 s.status) := (by rw [cell_of_row _ _ _ _ _ _ ((hb1.block _ (by simp)).trans (heap_alloc2_new _ _ _))]; exact c0); have HB1 : Hid (Below w.heap.size w w1) := (HBX.out _ _).trans (hb1.mono (by simp; omega)); clear hb1))
      go_ret
      exact ⟨rfl, HB1.out⟩
  · rw [runE_bad s hc0]
    have hcb : (c == 0) = false := by simpa using hc0
    go_enter Tryd.func43, Tryd.ntmps43
    go_wp2_with (first
      | (refine wpList_load_row rfl _ _ rfl _ rfl _ _ _ _ (heap_alloc2_new _ _ _) Tryd.underlying29 rfl hsz ?_)
      | (go_at_call 76; refine (HC.out _ _).mono ?_; rintro e w1 ⟨rfl, hb1⟩; have HB1 : Hid (Below w.heap.size w w1) := (HBX.out _ _).trans (hb1.mono (by simp; omega)); clear hb1))
    go_ret
    exact ⟨rfl, HB1.out⟩

/-- The machine with which one enters. -/
def entC (s : St) (f : Fr) : Cp := ⟨noRegs, 0, dataL s.mem f.regs s.fuel f.pc, false⟩
theorem entC_ok {s : St} {f : Fr} (h1 : s.mem.length = 16) (h2 : f.regs.length = 12) : (entC s f).Ok := ⟨rfl, dataL_len _ _ h1 h2⟩
/-- Up to a word of the memory, of the registers. -/
def dM (mem : List Int) (q : Nat) : List Int := mem.take q ++ List.replicate (64 - q) 0
def dR (mem regs : List Int) (q : Nat) : List Int := mem ++ (regs.take q ++ List.replicate (48 - q) 0)
theorem dM_set (mem : List Int) (h : mem.length = 16) (q : Nat) (hq : q < 16) : (dM mem q).set q (mem.getD q 0) = dM mem (q + 1) := by
  unfold dM
  have e : (mem.take q).length = q := by simp; omega
  rw [List.set_append_right _ _ (by omega), e, Nat.sub_self, show 64 - q = (64 - (q + 1)) + 1 by omega, List.replicate_succ, List.set_cons_zero, List.take_add_one, List.append_assoc]
  congr 1
  have : mem[q]? = some (mem.getD q 0) := by simp [List.getD, show q < mem.length by omega]
  rw [this]; rfl
theorem dM_end (mem regs : List Int) (h : mem.length = 16) : dM mem 16 = dR mem regs 0 := by unfold dM dR; rw [List.take_of_length_le (by omega)]; rfl
theorem dR_set (mem regs : List Int) (h : mem.length = 16) (h2 : regs.length = 12) (q : Nat) (hq : q < 12) : (dR mem regs q).set (16 + q) (regs.getD q 0) = dR mem regs (q + 1) := by
  unfold dR
  have e : (regs.take q).length = q := by simp; omega
  rw [List.set_append_right _ _ (by omega), h, show 16 + q - 16 = q by omega, List.set_append_right _ _ (by omega), e, Nat.sub_self, show 48 - q = (48 - (q + 1)) + 1 by omega, List.replicate_succ, List.set_cons_zero, List.take_add_one, List.append_assoc]
  congr 2
  have : regs[q]? = some (regs.getD q 0) := by simp [List.getD, show q < regs.length by omega]
  rw [this]; rfl
theorem dR_end (mem regs : List Int) (fuel pc : Int) (h : mem.length = 16) (h2 : regs.length = 12) : ((dR mem regs 12).set 28 fuel).set 29 pc = dataL mem regs fuel pc := by
  unfold dR dataL
  rw [List.take_of_length_le (by omega), List.set_append_right _ _ (by omega), List.set_append_right _ _ (by omega), List.set_append_right _ _ (by omega), List.set_append_right _ _ (by omega), h, h2]
  rfl
theorem dM_len (mem : List Int) (h : mem.length = 16) (q : Nat) (hq : q ≤ 16) : (dM mem q).length = 64 := by unfold dM; simp; omega
theorem dR_len (mem regs : List Int) (h : mem.length = 16) (h2 : regs.length = 12) (q : Nat) (hq : q ≤ 12) : (dR mem regs q).length = 64 := by unfold dR; simp; omega
theorem dM_zero (mem : List Int) : dM mem 0 = noData := rfl

set_option maxRecDepth 100000 in
set_option maxHeartbeats 2000000 in
theorem entered_bad (P : List Fn) (v sv : Value) (s : St) (c : Int) (w : World) (hv : ProgVal w v P) (hs : StVal w sv s) (hE : ∀ E, ProofAns P E → checkE E P s = c) (h0 : ¬ runE c s = 0) :
    Calls Tryd.prog 16 #[.agg #[v], sv] w fun e w' => e = .returned (.tuple #[zeroCp.val, .int .i64 (runE c s)]) ∧ Below w.heap.size w w' := by
  have hbx : ∀ o o' o'', Below w.heap.size w (((w.alloc o).alloc o').alloc o'') := fun o o' o'' => (((Below.refl _ _).alloc (Nat.le_refl _) _).alloc (by simp) _).alloc (by simp; omega) _
  have HC : Hid (∀ o o' o'', Calls Tryd.prog 43 #[.agg #[v], sv] (((w.alloc o).alloc o').alloc o'') fun e w' => e = .returned (.int .i64 (runE c s)) ∧ Below (((w.alloc o).alloc o').alloc o'').heap.size (((w.alloc o).alloc o').alloc o'') w') := fun o o' o'' =>
    runningFault_any P v sv s c _ (hv.keeps (keeps_below (hbx o o' o''))) (hs.keeps (keeps_below (hbx o o' o''))) hE
  obtain ⟨ao, n0, cap0, rfl⟩ := hv.shape
  obtain ⟨cs, rfl, hsz, -, -⟩ := hs.cells
  have HBX : Hid _ := hbx
  generalize runE c s = r at *
  have hcb : (r != 0) = true := by simpa using h0
  have i0 : (Tryd.prog.info? 33).map (·.size) = some (cpuCells zeroCp).toArray.size := infoCpC zero_ok
  have o0 := cp_one zeroCp
  clear hv hs hbx hE h0
  unfold Cp.val
  go_enter Tryd.func16, Tryd.ntmps16
  go_wp2_with (first
    | (refine wpList_load_row rfl 29 _ rfl _ rfl _ _ _ _ (heap_alloc_old _ _ (by simp) |>.trans (heap_alloc2_new _ _ _)) Tryd.underlying29 rfl hsz ?_)
    | (go_at_call 43; refine (HC.out _ _ _).mono ?_; rintro e w1 ⟨rfl, hb1⟩; have h6 : w1.heap[w.heap.size + 1 + 1]? = some (.cells (cpuCells zeroCp).toArray 33 (0, 0)) := (hb1.block _ (by simp)).trans ((heap_alloc3_new _ _ _ _).trans (by rw [zc_eq])); have HB1 : Hid (Below w.heap.size w w1) := (HBX.out _ _ _).trans (hb1.mono (by simp; omega)); clear hb1)
    | (refine wpList_build_store rfl _ _ rfl (cpuCells zeroCp).toArray (by simpa using built_cp0) rfl _ _ rfl _ rfl rfl _ _ h6 i0 rfl o0 ?_)
    | (refine wpList_build_to rfl _ _ rfl (cpuCells zeroCp).toArray (by simpa using built_cp0) ?_)
    | (refine wpList_store_row rfl _ _ _ rfl _ (cpuCells zeroCp).toArray rfl rfl _ _ h6 i0 rfl o0 ?_))
  try simp only [Exit.inBlock, Exit.then]
  exact bodyPost_ret (results_row_tmp rfl _ _ (w.heap.size + 1 + 1) 33 _ (0, 0) _ rfl (setRow_heap _ _ _ _ _ _ h6) Tryd.underlying33 rfl i0) rfl ⟨rfl, belowSR HB1.out (by omega) _⟩

set_option maxRecDepth 100000 in
set_option maxHeartbeats 4000000 in
theorem entered_ok (P : List Fn) (v sv : Value) (s : St) (f : Fr) (fs : List Fr) (w : World) (hv : ProgVal w v P) (hs : StVal w sv s) (hE : ∀ E, ProofAns P E → checkE E P s = 0) (hst : s.status = 0) (hfr : s.frames = fs ++ [f]) :
    Calls Tryd.prog 16 #[.agg #[v], sv] w fun e w' => e = .returned (.tuple #[(entC s f).val, .int .i64 0]) ∧ Below w.heap.size w w' := by
  have hbx : ∀ o o' o'', Below w.heap.size w (((w.alloc o).alloc o').alloc o'') := fun o o' o'' => (((Below.refl _ _).alloc (Nat.le_refl _) _).alloc (by simp) _).alloc (by simp; omega) _
  have hr0 : runE 0 s = 0 := by unfold runE; rw [if_pos rfl, if_pos hst]
  have HC : Hid (∀ o o' o'', Calls Tryd.prog 43 #[.agg #[v], sv] (((w.alloc o).alloc o').alloc o'') fun e w' => e = .returned (.int .i64 0) ∧ Below (((w.alloc o).alloc o').alloc o'').heap.size (((w.alloc o).alloc o').alloc o'') w') := fun o o' o'' =>
    (runningFault_any P v sv s 0 _ (hv.keeps (keeps_below (hbx o o' o''))) (hs.keeps (keeps_below (hbx o o' o''))) hE).mono fun e w' h => by rw [hr0] at h; exact h
  obtain ⟨ao, n0, cap0, rfl⟩ := hv.shape
  have hs0 := hs
  have hm : s.mem.length = 16 := by obtain ⟨_, _, _, _, h, -⟩ := hs; exact h
  obtain ⟨cs, rfl, hsz, -, -⟩ := hs.cells
  obtain ⟨fb, off, cap, k2, hfc, hfl, hcp1, hcp2⟩ := hs.framesAt hfr
  have HFC : Hid (∀ W, Below w.heap.size w W → W.rangeAt fb (off + fs.length * 14) (frCells f)) := fun W hW j u hu => keeps_below hW _ _ (hfc j u hu)
  have HMA : Hid (∀ i, i < 16 → cs[3 + i]? = some (.int .i64 (s.mem.getD i 0))) := fun i hi => hs.memAt i hi
  have k19 := hs.at.2.2.1
  have hfl2 : (frCells f).length = 14 := frCells_length f hfl
  have HIF : Hid ((Tryd.prog.info? 55).map (·.size) = some (frCells f).toArray.size) := by show _ = _; rw [List.size_toArray, hfl2]; exact infoFr
  have HOF : Hid ((frCells f).toArray.all (·.oneCell') = true) := by
    show _ = _
    rw [Array.all_eq_true_iff_forall_mem]; intro u hu; exact frCells_one _ u (by simpa using hu)
  have HBX : Hid _ := hbx
  have hK : Hid (entC s f = (((⟨noRegs, 0, dR s.mem f.regs 12, false⟩ : Cp).setD 28 s.fuel).setD 29 f.pc)) := by
    show _ = _
    unfold entC Cp.setD
    dsimp only
    rw [dR_end s.mem f.regs s.fuel f.pc hm hfl]
  have HOK : Hid ((entC s f).Ok) := entC_ok hm hfl
  have hnw : IntKind.i64.wrap (((fs.length + 1 : Nat) : Int) - 1) = (fs.length : Int) := by rw [show ((fs.length + 1 : Nat) : Int) - 1 = (fs.length : Int) by omega]; exact wrap_fits _ (by omega) (by omega)
  obtain ⟨m, hme⟩ : ∃ m : Nat, m = fs.length + 1 := ⟨_, rfl⟩
  rw [← hme] at hnw k2 hcp1
  have hnm : ((fs.length : Nat) : Int) < m := by omega
  clear hv hs hs0 hbx hE hfc hst hfr hr0
  generalize fs.length = nf at *
  unfold Cp.val
  go_enter Tryd.func16, Tryd.ntmps16
  go_upto_region 4 with (first
    | (refine wpList_load_row rfl 29 _ rfl _ rfl _ _ _ _ (heap_alloc_old _ _ (by simp) |>.trans (heap_alloc2_new _ _ _)) Tryd.underlying29 rfl hsz ?_)
    | (go_at_call 43; refine (HC.out _ _ _).mono ?_; rintro e w1 ⟨rfl, hb1⟩; have h5 : w1.heap[w.heap.size + 1]? = some (.cells cs 29 (0, 0)) := (hb1.block _ (by simp)).trans (heap_alloc_old _ _ (by simp) |>.trans (heap_alloc2_new _ _ _)); have h6 : w1.heap[w.heap.size + 1 + 1]? = some (.cells (cpuCells zeroCp).toArray 33 (0, 0)) := (hb1.block _ (by simp)).trans ((heap_alloc3_new _ _ _ _).trans (by rw [zc_eq])); have HB1 : Hid (Below w.heap.size w w1) := (HBX.out _ _ _).trans (hb1.mono (by simp; omega)); have hz1 : w.heap.size + 2 < w1.heap.size := Nat.lt_of_lt_of_le (by simp) hb1.size; clear hb1))
  have kk2 : w1.cell? ⟨w.heap.size + 1, 2, none⟩ = some (.slice (some ⟨fb, off, none⟩) m cap) := by rw [cell_of_row _ _ _ _ _ _ h5]; exact k2
  have hfr1 := HFC.out _ HB1.out
  have hfz : (zeroFr 0).toArray.size = (frCells f).toArray.size := by rw [List.size_toArray, List.size_toArray, hfl2]; rfl
  have hfs := HIF.out
  have hfo := HOF.out
  go_upto_region 7 with (first
    | (refine wpList_load_mid rfl 55 _ rfl fb (off + nf * 14) rfl (frCells f) _ hfr1 Tryd.underlying55 rfl (by simpa using HIF.out) ?_)
    | (refine wpList_store_row rfl _ _ _ rfl _ (frCells f).toArray rfl rfl 55 (zeroFr 0).toArray (heap_alloc_last w1 _) hfs hfz hfo ?_; rw [World.setRow_alloc_new]))
  clear hfz hfs hfo
  have HA2 : Hid (Below w1.heap.size w1 ((w1.alloc (.cells (frCells f).toArray 55)).alloc (.cells Tryd.zeroCells33 33))) := ((Below.refl _ _).alloc (Nat.le_refl _) _).alloc (by simp) _
  have HCA : Hid (CAt ((w1.alloc (.cells (frCells f).toArray 55)).alloc (.cells Tryd.zeroCells33 33)) (w1.heap.size + 1) ⟨noRegs, 0, dM s.mem 0, false⟩) := by
    have := CAt.new (w1.alloc (.cells (frCells f).toArray 55))
    rw [World.size_alloc] at this
    exact this
  have rf : ((w1.alloc (.cells (frCells f).toArray 55)).alloc (.cells Tryd.zeroCells33 33)).heap[w1.heap.size]? = some (.cells (frCells f).toArray 55 (0, 0)) := heap_alloc2_old _ _ _
  have r5 := (HA2.out.block _ (lt_of_block h5)).trans h5
  have r6 := (HA2.out.block _ (lt_of_block h6)).trans h6
  have HBB : Hid (Below w.heap.size w ((w1.alloc (.cells (frCells f).toArray 55)).alloc (.cells Tryd.zeroCells33 33))) := HB1.out.trans (HA2.out.mono HB1.out.size)
  clear HA2 h5 h6 kk2 hfr1 HB1
  generalize ((w1.alloc (.cells (frCells f).toArray 55)).alloc (.cells Tryd.zeroCells33 33)) = WB at *
  generalize w1.heap.size = G at *
  have HFR : Hid (∀ W, Below (G + 1) WB W → (∀ q, q < 16 → W.cell? ⟨w.heap.size + 1, 3 + q, none⟩ = some (.int .i64 (s.mem.getD q 0))) ∧ (∀ q, q < 12 → W.cell? ⟨G, 2 + q, none⟩ = some (.int .i64 (f.regs.getD q 0))) ∧ W.cell? ⟨w.heap.size + 1, 19, none⟩ = some (.int .i64 s.fuel) ∧ W.cell? ⟨G, 1, none⟩ = some (.int .i64 f.pc) ∧ W.heap[w.heap.size + 1 + 1]? = some (.cells (cpuCells zeroCp).toArray 33 (0, 0))) := fun W hW => by
    have g5 := (hW.block _ (by omega)).trans r5
    have gf := (hW.block _ (by omega)).trans rf
    refine ⟨fun q hq => ?_, fun q hq => ?_, ?_, ?_, (hW.block _ (by omega)).trans r6⟩
    · rw [cell_of_row _ _ _ _ _ _ g5]; exact HMA.out q hq
    · rw [cell_of_row _ _ _ _ _ _ gf, List.getElem?_toArray]
      rw [show 2 + q = q + 1 + 1 by omega]
      show (i64s f.regs)[q]? = _
      simp [i64s, List.getD, show q < f.regs.length by omega]
    · rw [cell_of_row _ _ _ _ _ _ g5]; exact k19
    · rw [cell_of_row _ _ _ _ _ _ gf]; rfl
  clear r5 rf r6
  go_loopw [9] (fun i wr => ∃ q : Nat, q ≤ 16 ∧ i = .int .i64 q ∧ CAt wr (G + 1) ⟨noRegs, 0, dM s.mem q, false⟩ ∧ Below (G + 1) WB wr) (fun i _ => 16 - (intOf i).toNat)
  case atStart => exact ⟨0, by omega, rfl, HCA.out, Below.refl _ _⟩
  case round =>
    rename World => wl
    obtain ⟨q, hq, rfl, hca, hbl⟩ := hrel
    have HCL : Hid (CAt wl (G + 1) ⟨noRegs, 0, dM s.mem q, false⟩) := hca
    have HBL : Hid (Below (G + 1) WB wl) := hbl
    by_cases hlt : q < 16
    · have hqI : (q : Int) < 16 := by omega
      have hq64 : (q : Int) < 64 := by omega
      have hq64' : q < 64 := by omega
      have c1 := (HFR.out wl hbl).1 q hlt
      have c2 := hca.word q (by omega)
      have c3 := hca.free (33 + q)
      have HN : Hid (CAt (wl.setCell ⟨G + 1, 33 + q, none⟩ (.int .i64 (s.mem.getD q 0))) (G + 1) ⟨noRegs, 0, dM s.mem (q + 1), false⟩) := by
        have := hca.setD q (by omega) (s.mem.getD q 0)
        unfold Cp.setD at this
        dsimp only at this
        rw [dM_set s.mem hm q hlt] at this
        exact this
      have HB : Hid (Below (G + 1) WB (wl.setCell ⟨G + 1, 33 + q, none⟩ (.int .i64 (s.mem.getD q 0)))) := by show Below _ _ _; exact hbl.setCell (by simp) _
      clear hca hbl
      generalize s.mem.getD q 0 = x at *
      dsimp only at c2
      generalize (dM s.mem q).getD q 0 = y at c2
      go_wp2
      go_roundw
      case rel => exact ⟨q + 1, by omega, by go_num, HN.out, HB.out⟩
      case measure => simp [intOf]; omega
    · obtain rfl : q = 16 := by omega
      have HC0 : Hid (CAt wl (G + 1) ⟨noRegs, 0, dR s.mem f.regs 0, false⟩) := by show CAt _ _ _; rw [← dM_end s.mem f.regs hm]; exact hca
      clear hca hbl HCL
      go_wp2
      go_loopw [10] (fun i wr => ∃ q : Nat, q ≤ 12 ∧ i = .int .i64 q ∧ CAt wr (G + 1) ⟨noRegs, 0, dR s.mem f.regs q, false⟩ ∧ Below (G + 1) WB wr) (fun i _ => 12 - (intOf i).toNat)
      case atStart => exact ⟨0, by omega, rfl, HC0.out, HBL.out⟩
      case round =>
        clear HC0 HBL
        rename World => wk
        obtain ⟨q, hq, rfl, hca, hbl⟩ := hrel
        have HBL : Hid (Below (G + 1) WB wk) := hbl
        by_cases hlt : q < 12
        · have hqI : (q : Int) < 12 := by omega
          have hw16 : IntKind.i64.wrap (16 + (q : Int)) = ((16 + q : Nat) : Int) := by rw [show 16 + (q : Int) = ((16 + q : Nat) : Int) by omega]; exact wrap_fits _ (by omega) (by omega)
          have c1 := (HFR.out wk hbl).2.1 q hlt
          have c2 := hca.word (16 + q) (by omega)
          have c3 := hca.free (33 + (16 + q))
          have HN : Hid (CAt (wk.setCell ⟨G + 1, 33 + (16 + q), none⟩ (.int .i64 (f.regs.getD q 0))) (G + 1) ⟨noRegs, 0, dR s.mem f.regs (q + 1), false⟩) := by
            have := hca.setD (16 + q) (by omega) (f.regs.getD q 0)
            unfold Cp.setD at this
            dsimp only at this
            rw [dR_set s.mem f.regs hm hfl q hlt] at this
            exact this
          have HB : Hid (Below (G + 1) WB (wk.setCell ⟨G + 1, 33 + (16 + q), none⟩ (.int .i64 (f.regs.getD q 0)))) := by show Below _ _ _; exact hbl.setCell (by simp) _
          clear hca hbl
          generalize f.regs.getD q 0 = x at *
          dsimp only at c2
          generalize (dR s.mem f.regs q).getD (16 + q) 0 = y at c2
          obtain ⟨u, hu⟩ : ∃ u : Nat, u = 16 + q := ⟨_, rfl⟩
          rw [← hu] at hw16 c2 c3 HN HB
          have hu64 : (u : Int) < 64 := by omega
          have hu64' : u < 64 := by omega
          clear hu
          go_wp2
          go_roundw
          case rel => exact ⟨q + 1, by omega, by go_num, HN.out, HB.out⟩
          case measure => simp [intOf]; omega
        · obtain rfl : q = 12 := by omega
          obtain ⟨-, -, k19', kpc, h6⟩ := HFR.out wk hbl
          have c28 := hca.word 28 (by omega)
          have f28 := hca.free (33 + 28)
          have hc2 := hca.setD 28 (by omega) s.fuel
          have c29 := hc2.word 29 (by omega)
          have f29 := hc2.free (33 + 29)
          have kpc2 : (wk.setCell ⟨G + 1, 33 + 28, none⟩ (.int .i64 s.fuel)).cell? ⟨G, 1, none⟩ = some (.int .i64 f.pc) := (World.cell?_of_block (heap_setCell_other _ _ _ _ (by simp))).trans kpc
          have hc3 := hc2.setD 29 (by omega) f.pc
          rw [← hK.out] at hc3
          have HRW : Hid (((wk.setCell ⟨G + 1, 33 + 28, none⟩ (.int .i64 s.fuel)).setCell ⟨G + 1, 33 + 29, none⟩ (.int .i64 f.pc)).heap[G + 1]? = some (.cells (cpuCells (entC s f)).toArray 33 (0, 0))) := hc3.cells
          have HR6 : Hid (((wk.setCell ⟨G + 1, 33 + 28, none⟩ (.int .i64 s.fuel)).setCell ⟨G + 1, 33 + 29, none⟩ (.int .i64 f.pc)).heap[w.heap.size + 1 + 1]? = some (.cells (cpuCells zeroCp).toArray 33 (0, 0))) := ((heap_setCell_other _ _ _ _ (by simp; omega)).trans (heap_setCell_other _ _ _ _ (by simp; omega))).trans h6
          have HBF : Hid (Below (G + 1) WB ((wk.setCell ⟨G + 1, 33 + 28, none⟩ (.int .i64 s.fuel)).setCell ⟨G + 1, 33 + 29, none⟩ (.int .i64 f.pc))) := by show Below _ _ _; exact (hbl.setCell (by simp) _).setCell (by simp) _
          have i0 : (Tryd.prog.info? 33).map (·.size) = some (cpuCells (entC s f)).toArray.size := infoCpC HOK.out
          have o0 := cp_one (entC s f)
          have hl0 : (cpuCells zeroCp).toArray.size = (cpuCells (entC s f)).toArray.size := by rw [List.size_toArray, List.size_toArray, cp_len zero_ok, cp_len HOK.out]
          clear hca hbl hc2 hc3 h6 kpc
          obtain ⟨CC, hCC⟩ : ∃ CC, CC = cpuCells (entC s f) := ⟨_, rfl⟩
          rw [← hCC] at HRW i0 o0 hl0
          have HCC : Hid (CC = cpuCells (entC s f)) := hCC
          clear hCC
          generalize s.fuel = fu at *
          generalize f.pc = pc at *
          generalize hy : (List.getD _ 28 0 : Int) = y1 at c28
          generalize hy2 : (List.getD _ 29 0 : Int) = y2 at c29
          clear hy hy2
          go_wp2_with (first
            | (refine wpList_load_row rfl 33 _ rfl _ rfl _ _ _ _ HRW.out Tryd.underlying33 rfl i0 ?_)
            | (refine wpList_store_row rfl _ _ _ rfl _ CC.toArray rfl rfl _ _ HR6.out i0 hl0 o0 ?_))
          try simp only [Exit.inBlock, Exit.then]
          exact bodyPost_ret (results_row_tmp rfl _ _ (w.heap.size + 1 + 1) 33 _ (0, 0) _ rfl (setRow_heap _ _ _ _ _ _ HR6.out) Tryd.underlying33 rfl i0) rfl ⟨by rw [← HCC.out]; rfl, belowSR (HBB.out.trans (HBF.out.mono (by omega))) (by omega) _⟩
end Go.Proofs.YtndogdojcbcjgaaDoor
