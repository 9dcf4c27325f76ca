/- Contract of emit.Enter at every program and state. -/
import Derived.Test.YteabbanjjdmjkaaDoorXEmitData
import Derived.Test.YteabbanjjdmjkaaDoorXEnterRef
import Derived.Test.YteabbanjjdmjkaaDoorXTopFr
namespace Go.Proofs.YteabbanjjdmjkaaDoor
open Go Go.RowKit

theorem built_cpD {D : List Int} (h : D.length = 64) : Tryd.prog.built 33 [(2, .agg (i64s D).toArray)] = some (cpuCells ⟨noRegs, 0, D, false⟩).toArray := by
  obtain ⟨d0, d1, d2, d3, d4, d5, d6, d7, d8, d9, d10, d11, d12, d13, d14, d15, d16, d17, d18, d19, d20, d21, d22, d23, d24, d25, d26, d27, d28, d29, d30, d31, d32, d33, d34, d35, d36, d37, d38, d39, d40, d41, d42, d43, d44, d45, d46, d47, d48, d49, d50, d51, d52, d53, d54, d55, d56, d57, d58, d59, d60, d61, d62, d63, rfl⟩ := list64 h
  kernel_rfl

set_option maxRecDepth 100000 in
set_option maxHeartbeats 2000000 in
theorem enter_bad (P : List Fn) (v sv : Value) (s : St) (c : Int) (w : World) (ht : TabOk w) (hc : CallOk w) (hv : ProgVal w v P) (hs : StVal w sv s) (hE : ∀ E, ProofAns P E → checkE E P s = c) (h0 : c = 0 → ProofAns P 0 ∧ mayB s = true ∧ FOk P s.frames) (he : s.events.length * 8 ≤ 140737488351232) (hr : ¬ runE c s = 0) :
    Calls Tryd.prog 17 #[.agg #[v], sv] w fun e w' => e = .returned (.tuple #[zeroCp.val, .int .i64 (runE c s)]) ∧ Below w.heap.size w w' := by
  have hbx : ∀ o o' o'', Below w.heap.size w (((w.alloc o).alloc o').alloc o'') := fun o o' o'' => (((Below.refl _ _).alloc (Nat.le_refl _) _).alloc (by simp) _).alloc (by simp; omega) _
  have HC : Hid (∀ o o' o'', Calls Tryd.prog 32 #[.agg #[v], sv] (((w.alloc o).alloc o').alloc o'') fun e w' => e = .returned (.tuple #[.agg zeroStCells, .int .i64 (runE c s)]) ∧ Below (((w.alloc o).alloc o').alloc o'').heap.size (((w.alloc o).alloc o').alloc o'') w') := fun o o' o'' =>
    running_bad P v sv s c _ (ht.below (hbx o o' o'')) (hc.below (hbx o o' o'')) (hv.keeps (keeps_below (hbx o o' o''))) (hs.keeps (keeps_below (hbx o o' o''))) hE h0 he hr
  obtain ⟨ao, n0, cap0, rfl⟩ := hv.shape
  obtain ⟨cs, rfl, hsz, hs2, -⟩ := hs.cells
  have HBX : Hid _ := hbx
  generalize runE c s = r at *
  have hcb : (r != 0) = true := by simpa using hr
  have i0 : (Tryd.prog.info? 33).map (·.size) = some (cpuCells zeroCp).toArray.size := infoCpC zero_ok
  have o0 := cp_one zeroCp
  clear ht hc hv hs hbx hE h0 he hr
  unfold Cp.val
  go_enter Tryd.func17, Tryd.ntmps17
  go_wp2_with (first
    | (refine wpList_load_row rfl _ _ rfl _ rfl _ _ _ _ (heap_alloc_old _ _ (by simp) |>.trans (heap_alloc2_new _ _ _)) Tryd.underlying29 rfl hsz ?_)
    | (go_at_call 32; refine (HC.out _ _ _).mono ?_; rintro e w1 ⟨rfl, hb1⟩; have h5 : w1.heap[w.heap.size + 1]? = some (.cells cs 29 (0, 0)) := (hb1.block _ (by simp)).trans (heap_alloc_old _ _ (by simp) |>.trans (heap_alloc2_new _ _ _)); have h6 : w1.heap[w.heap.size + 1 + 1]? = some (.cells (cpuCells zeroCp).toArray 33 (0, 0)) := (hb1.block _ (by simp)).trans ((heap_alloc3_new _ _ _ _).trans (by rw [zc_eq])); have HB1 : Hid (Below w.heap.size w w1) := (HBX.out _ _ _).trans (hb1.mono (by simp; omega)); have r6 := (setRow_other w1 (w.heap.size + 1) zeroStCells (w.heap.size + 1 + 1) (by omega)).trans h6; have HB2 : Hid (Below w.heap.size w (w1.setRow (w.heap.size + 1) zeroStCells)) := belowSR HB1.out (by omega) _; clear hb1)
    | (refine wpList_store_row rfl _ _ _ rfl _ zeroStCells rfl rfl _ _ h5 infoSt hs2.symm zeroSt_one ?_)
    | (refine wpList_build_store rfl _ _ rfl (cpuCells zeroCp).toArray (by simpa using built_cp0) rfl _ _ rfl _ rfl rfl _ _ r6 i0 rfl o0 ?_)
    | (refine wpList_build_to rfl _ _ rfl (cpuCells zeroCp).toArray (by simpa using built_cp0) ?_)
    | (refine wpList_store_row rfl _ _ _ rfl _ (cpuCells zeroCp).toArray rfl rfl _ _ r6 i0 rfl o0 ?_))
  try simp only [Exit.inBlock, Exit.then]
  exact bodyPost_ret (results_row_tmp rfl _ _ (w.heap.size + 1 + 1) 33 _ (0, 0) _ rfl (setRow_heap _ _ _ _ _ _ r6) Tryd.underlying33 rfl i0) rfl ⟨rfl, belowSR HB2.out (by omega) _⟩

/-- The last frame of a state that lies in memory. -/
theorem StP.last {w : World} {base : Nat} {cs : Array Value} {s : St} {fs : List Fr} {f : Fr} (h : StP w base (.agg cs) s) (hfr : s.frames = fs ++ [f]) : ∃ fb cap ev av, cs = (stCells s (.slice (some ⟨fb, 0, none⟩) (fs.length + 1) cap) ev av).toArray ∧ s.mem.length = 16 ∧ f.regs.length = 12 ∧ fs.length + 1 ≤ cap ∧ cap ≤ 9223372036854775807 ∧ w.rangeAt fb (0 + fs.length * 14) (frCells f) ∧ base ≤ fb ∧ fb < w.heap.size := by
  obtain ⟨fv, ev, av, e, hm, hw, hf, -⟩ := h
  obtain rfl := Value.agg.inj e
  have hn : s.frames.length = fs.length + 1 := by rw [hfr]; simp
  rw [hn] at hf
  rcases hf.2 with ⟨_, h0⟩ | ⟨g, cap, cur, rfl, hb, hh, h1, h2, h3, h4⟩
  · omega
  · have hrl : f.regs.length = 12 := hw f (by rw [hfr]; simp)
    refine ⟨g, cap, ev, av, rfl, hm, hrl, h1, by simpa [maxLen] using h2, ?_, hb, lt_of_block hh⟩
    intro j u hu
    have hj : j < 14 := by
      have := (List.getElem?_eq_some_iff.1 hu).1
      rw [frCells_length f hrl] at this
      exact this
    have e1 : framesCells s.frames = framesCells fs ++ frCells f := by rw [hfr]; simp [framesCells]
    have e2 : (framesCells fs).length = fs.length * 14 := framesCells_length fs (fun g hg => hw g (by rw [hfr]; simp [hg]))
    have := World.ownsRow.cellAt (h := hf) (fs.length * 14 + j) (by omega)
    rw [e1, List.getElem?_append_right (by omega), e2, show fs.length * 14 + j - fs.length * 14 = j by omega] at this
    rw [Nat.zero_add, this]; exact hu

set_option maxRecDepth 100000 in
set_option maxHeartbeats 2000000 in
theorem enter_ok (P : List Fn) (v sv : Value) (s : St) (f : Fr) (fs : List Fr) (w : World) (ht : TabOk w) (hc : CallOk w) (hR : ProofAns P 0) (hm : mayB s = true) (hf : FOk P s.frames) (hv : ProgVal w v P) (hs : StVal w sv s) (he : s.events.length * 8 ≤ 140737488351232) (hst : s.status = 0) (hfr : s.frames = fs ++ [f]) :
    Calls Tryd.prog 17 #[.agg #[v], sv] w fun e w' => e = .returned (.tuple #[(entC s f).val, .int .i64 0]) ∧ Below w.heap.size w w' := by
  have hbx : ∀ o o' o'', Below w.heap.size w (((w.alloc o).alloc o').alloc o'') := fun o o' o'' => (((Below.refl _ _).alloc (Nat.le_refl _) _).alloc (by simp) _).alloc (by simp; omega) _
  have HC : Hid (∀ o o' o'', Calls Tryd.prog 32 #[.agg #[v], sv] (((w.alloc o).alloc o').alloc o'') fun e w' => ∃ cs, e = .returned (.tuple #[.agg cs, .int .i64 0]) ∧ (Tryd.prog.info? 29).map (·.size) = some cs.size ∧ zeroStCells.size = cs.size ∧ cs.all (·.oneCell') = true ∧ StP w' (((w.alloc o).alloc o').alloc o'').heap.size (.agg cs) s ∧ Below (((w.alloc o).alloc o').alloc o'').heap.size (((w.alloc o).alloc o').alloc o'') w') := fun o o' o'' =>
    running_ok P v sv s _ (ht.below (hbx o o' o'')) (hc.below (hbx o o' o'')) hR hm hf (hv.keeps (keeps_below (hbx o o' o''))) (hs.keeps (keeps_below (hbx o o' o''))) he hst
  have HDO : Hid (∀ W cs base, StP W base (.agg cs) s → Calls Tryd.prog 43 #[.agg cs] W fun e w' => e = .returned (.agg (i64s (dataL s.mem f.regs s.fuel f.pc)).toArray) ∧ Below W.heap.size W w') := fun W cs base h => by
    obtain ⟨fb, cap, ev, av, rfl, h1, h2, h3, h4, h5, -, h6⟩ := h.last hfr
    exact dataOf_any s f fb 0 fs.length cap ev av W h1 h2 h3 h4 h5 h6
  have HOK : Hid ((entC s f).Ok) := by
    obtain ⟨_, _, _, _, h, hfv, -⟩ := hs
    exact entC_ok h (hfv.1 f (by rw [hfr]; simp))
  obtain ⟨ao, n0, cap0, rfl⟩ := hv.shape
  obtain ⟨cs, rfl, hsz, hs2, -⟩ := hs.cells
  have HBX : Hid _ := hbx
  have i0 : (Tryd.prog.info? 33).map (·.size) = some (cpuCells (entC s f)).toArray.size := infoCpC HOK.out
  have o0 := cp_one (entC s f)
  have HBT : Hid (Tryd.prog.built 33 [(2, .agg (i64s (dataL s.mem f.regs s.fuel f.pc)).toArray)] = some (cpuCells (entC s f)).toArray) := built_cpD HOK.out.d
  have hl0 : (cpuCells zeroCp).toArray.size = (cpuCells (entC s f)).toArray.size := by rw [List.size_toArray, List.size_toArray, cp_len zero_ok, cp_len HOK.out]
  clear ht hc hv hs hbx hR hm hf he hst
  unfold Cp.val
  generalize cpuCells (entC s f) = CC at *
  generalize i64s (dataL s.mem f.regs s.fuel f.pc) = DD at *
  go_enter Tryd.func17, Tryd.ntmps17
  go_wp2_with (first
    | (refine wpList_load_row rfl _ _ rfl _ rfl _ _ _ _ (heap_alloc_old _ _ (by simp) |>.trans (heap_alloc2_new _ _ _)) Tryd.underlying29 rfl hsz ?_)
    | (go_at_call 32; refine (HC.out _ _ _).mono ?_; rintro e w1 ⟨cs1, rfl, a1, a2, a3, hst1, hb1⟩; have h5 : w1.heap[w.heap.size + 1]? = some (.cells cs 29 (0, 0)) := (hb1.block _ (by simp)).trans (heap_alloc_old _ _ (by simp) |>.trans (heap_alloc2_new _ _ _)); have h6 : w1.heap[w.heap.size + 1 + 1]? = some (.cells (cpuCells zeroCp).toArray 33 (0, 0)) := (hb1.block _ (by simp)).trans ((heap_alloc3_new _ _ _ _).trans (by rw [zc_eq])); have HB1 : Hid (Below w.heap.size w w1) := (HBX.out _ _ _).trans (hb1.mono (by simp; omega)); have r5 := setRow_heap w1 (w.heap.size + 1) _ cs1 _ _ h5; have r6 := (setRow_other w1 (w.heap.size + 1) cs1 (w.heap.size + 1 + 1) (by omega)).trans h6; have HB2 : Hid (Below w.heap.size w (w1.setRow (w.heap.size + 1) cs1)) := belowSR HB1.out (by omega) _; have HSO : Hid (StP (w1.setRow (w.heap.size + 1) cs1) (w.heap.size + 3) (.agg cs1) s) := (hst1.mono (by simp)).setRow (by omega) _; clear hb1 hst1)
    | (refine wpList_store_row rfl _ _ _ rfl _ cs1 rfl rfl _ _ h5 a1 (hs2.symm.trans a2) a3 ?_)
    | (refine wpList_load_row rfl _ _ rfl _ rfl _ _ _ _ r5 Tryd.underlying29 rfl a1 ?_)
    | (go_at_call 43; refine (HDO.out _ _ _ HSO.out).mono ?_; rintro e w2 ⟨rfl, hb2⟩; have q6 := (hb2.block _ (lt_of_block r6)).trans r6; have HB3 : Hid (Below w.heap.size w w2) := HB2.out.trans (hb2.mono HB2.out.size); clear hb2)
    | (refine wpList_build_store rfl _ _ rfl CC.toArray (by simpa [Act.eval, Act.put] using HBT.out) rfl _ _ rfl _ rfl rfl _ _ q6 i0 hl0 o0 ?_)
    | (refine wpList_build_to rfl _ _ rfl CC.toArray (by simpa [Act.eval, Act.put] using HBT.out) ?_)
    | (refine wpList_store_row rfl _ _ _ rfl _ CC.toArray rfl rfl _ _ q6 i0 hl0 o0 ?_))
  try simp only [Exit.inBlock, Exit.then]
  exact bodyPost_ret (results_row_tmp rfl _ _ (w.heap.size + 1 + 1) 33 _ (0, 0) _ rfl (setRow_heap _ _ _ _ _ _ q6) Tryd.underlying33 rfl i0) rfl ⟨rfl, belowSR HB3.out (by omega) _⟩

/-- The machine that is answered. -/
def entA (c : Int) (s : St) : Cp := if runE c s = 0 then entC s (topF s) else zeroCp
/-- A state that runs has a last frame. -/
theorem may_last {s : St} (hm : mayB s = true) (hst : s.status = 0) : ∃ fs f, s.frames = fs ++ [f] := by
  have hmm := (mayB_iff s).1 hm
  have hne : s.frames ≠ [] := fun h => by
    have h7 := hmm.2.2.2.2.2.2.1
    rw [h] at h7
    have := h7.2 rfl
    omega
  exact ⟨s.frames.dropLast, s.frames.getLast hne, (List.dropLast_concat_getLast hne).symm⟩
theorem enter_all (P : List Fn) (v sv : Value) (s : St) (c : Int) (w : World) (ht : TabOk w) (hc : CallOk w) (hv : ProgVal w v P) (hs : StVal w sv s) (hE : ∀ E, ProofAns P E → checkE E P s = c) (h0 : c = 0 → ProofAns P 0 ∧ mayB s = true ∧ FOk P s.frames) (he : s.events.length * 8 ≤ 140737488351232) :
    Calls Tryd.prog 17 #[.agg #[v], sv] w fun e w' => e = .returned (.tuple #[(entA c s).val, .int .i64 (runE c s)]) ∧ Below w.heap.size w w' := by
  by_cases hr : runE c s = 0
  · obtain ⟨rfl, hst⟩ := runE_zero hr
    obtain ⟨hR, hm, hf⟩ := h0 rfl
    obtain ⟨fs, f, hfr⟩ := may_last hm hst
    have e : entA 0 s = entC s f := by unfold entA; rw [if_pos hr, topF_snoc hfr]
    rw [e, hr]
    exact enter_ok P v sv s f fs w ht hc hR hm hf hv hs he hst hfr
  · have e : entA c s = zeroCp := if_neg hr
    rw [e]
    exact enter_bad P v sv s c w ht hc hv hs hE h0 he hr
theorem entA_ok {w : World} {sv : Value} {s : St} {c : Int} (hs : StVal w sv s) (hm : c = 0 → mayB s = true) : (entA c s).Ok := by
  unfold entA
  by_cases hr : runE c s = 0
  · rw [if_pos hr]
    obtain ⟨rfl, hst⟩ := runE_zero hr
    obtain ⟨fs, f, hfr⟩ := may_last (hm rfl) hst
    obtain ⟨_, _, _, _, h, hfv, -⟩ := hs
    rw [topF_snoc hfr]
    exact entC_ok h (hfv.1 f (by rw [hfr]; simp))
  · rw [if_neg hr]; exact zero_ok
end Go.Proofs.YteabbanjjdmjkaaDoor
