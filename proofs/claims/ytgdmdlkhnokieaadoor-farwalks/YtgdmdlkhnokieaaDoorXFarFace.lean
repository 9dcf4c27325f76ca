/- Contract of emit.Far at states of runs (written by gen/mkfarface.py). -/
import Derived.Test.YtgdmdlkhnokieaaDoorXFarLoop
import Derived.Test.YtgdmdlkhnokieaaDoorXOutFar
import Derived.Test.YtgdmdlkhnokieaaDoorXTail3
import Derived.Great.BuildSlice
namespace Go.Proofs.YtgdmdlkhnokieaaDoor
open Go Go.RowKit

theorem results_row_twoF {P : Program} {fn : Func} {p u q : Tmp} {ty : TypeId} (h : fn.results = #[.cell p ty, .tmp u, .tmp q]) (tmps : Array Value) (w : World) (g : Nat) (t : TypeId) (cs : Array Value) (fr : Nat × Nat) (d : TypeDesc)
    (hp : tmps.getD p undef = .pointer (some ⟨g, 0, none⟩)) (hg : w.heap[g]? = some (.cells cs t fr))
    (hu : P.underlying ty = some d) (hd : (match d with | .struct _ | .array _ _ => true | _ => false) = true) (hi : (P.info? ty).map (·.size) = some cs.size) :
    (results fn tmps).run P w = .ok (.tuple #[.agg cs, tmps.getD u undef, tmps.getD q undef]) w := by
  simp only [results, h]
  simp [Sem.run_bind, Result.andThen]
  rw [← Array.getD_eq_getD_getElem?, hp]
  simp only [asAddr, Sem.run_pure, run_loadVar_row w g t ty cs fr d hg hu hd hi]
/-- A list of one frame. -/
theorem run_build_frame (f : Fr) (h : f.regs.length = 12) (w : World) : (Instr.buildSlice 31 1 #[(0, .agg (frCells f).toArray)]).run Tryd.prog w = .ok (.slice (some ⟨w.heap.size, 0, none⟩) 1 1) (w.alloc (.cells (frCells f).toArray 45)) := by
  obtain ⟨fn, pc, regs⟩ := f
  obtain ⟨r0, r1, r2, r3, r4, r5, r6, r7, r8, r9, r10, r11, rfl⟩ := list12 h
  kernel_rfl
theorem wp_build_frame {o : Oper} {a : Act} {w : World} {K : Act → World → Prop} {Q : Exit → Act → World → Prop} (x : Operand) (ho : o.op = .buildSlice 31 1 #[(0, x)]) (f : Fr) (h12 : f.regs.length = 12) (hx : a.eval x = .agg (frCells f).toArray)
    (h : K (a.put o.dst (.slice (some ⟨w.heap.size, 0, none⟩) 1 1)) (w.alloc (.cells (frCells f).toArray 45))) : o.wp Tryd.prog a w K Q := by
  unfold Oper.wp execOp
  have := run_build_frame f h12 w
  simp only [ho, Sem.run_bind, List.map_toArray, List.map_cons, List.map_nil, hx, this, Result.andThen_ok]
  exact h
theorem built_one (s : St) (f : Fr) (hm : s.mem.length = 16) (fv : Value) (hf : ∃ g, fv = .slice (some ⟨g, 0, none⟩) 1 1) : Tryd.prog.built 34 [(2, fv), (3, .agg (i64s s.mem).toArray), (4, .int .i64 s.fuel)] = some (stCells (oneS s f) fv (.slice none 0 0) (.slice none 0 0)).toArray := by
  obtain ⟨st, va, fs, mem, fuel, ev, an⟩ := s
  obtain ⟨m0, m1, m2, m3, m4, m5, m6, m7, m8, m9, m10, m11, m12, m13, m14, m15, rfl⟩ := list16 hm
  obtain ⟨g, rfl⟩ := hf
  kernel_rfl
theorem infoM16 : (Tryd.prog.info? 32).map (·.size) = some 16 := by kernel_rfl
theorem row_ne {w : World} {g g' : Nat} {cs cs' : Array Value} {t t' : TypeId} {fr fr' : Nat × Nat} (h : w.heap[g]? = some (.cells cs t fr)) (h' : w.heap[g']? = some (.cells cs' t' fr')) (ht : t ≠ t') (e : g = g') : False := by
  subst e
  rw [h] at h'
  injection h' with h'
  injection h' with _ h2 _
  exact ht h2
/-- A state of one frame, whose list lies in a block of its own. -/
theorem stIn_one {w : World} {GF : Nat} {s : St} {f : Fr} (hr : w.heap[GF]? = some (.cells (frCells f).toArray 45 (0, 0))) (h12 : f.regs.length = 12) (hm : s.mem.length = 16) : StIn w (fun x => x = GF) (stCells (oneS s f) (.slice (some ⟨GF, 0, none⟩) 1 1) (.slice none 0 0) (.slice none 0 0)).toArray (oneS s f) := fun W hW => by
  refine ⟨_, _, _, rfl, hm, ⟨fun g hg => ?_, some ⟨GF, 0, none⟩, GF, 0, 1, 1, rfl, rfl, fun _ => rfl, fun k hk j u hu => ?_, ⟨Nat.le_refl _, fun h => by cases h⟩, by simp [maxLen]⟩, ints_nil W, ints_nil W⟩
  · obtain rfl := List.mem_singleton.1 hg; exact h12
  · have hk0 : k = 0 := by have : k < 1 := hk; omega
    subst hk0
    refine hW _ _ rfl ?_
    rw [Nat.zero_mul, Nat.zero_add, cell_of_row _ _ _ _ _ _ hr]
    exact (by simpa using (show (frCells f)[j]? = some u from hu))
/-- What Far answers at a state that runs. -/
def FarAns (P : List Fn) (k : Nat) (hk : k < P.length) (s : St) (fs : List Fr) (f : Fr) (w : World) (e : Ending) (w' : World) : Prop := ∃ cs S T u, e = .returned (.tuple #[.agg cs, .int .i64 (s.fuel - u.fuel), .int .i64 0]) ∧ BlkOk P[k] S T ∧ FarTo P P[k] S T (oneS s f) u ∧ StP w' w.heap.size (.agg cs) (lft s fs u) ∧ Below w.heap.size w w'

set_option maxRecDepth 100000 in
set_option maxHeartbeats 8000000 in
theorem FarE_ok (P : List Fn) (v sv : Value) (s : St) (w : World) (ht : TabOk w) (hc : CallOk w) (hR : ProofAns P 0) (hI : RunInv P s) (hv : ProgVal w v P) (hs : StVal w sv s) (he : s.events.length ≤ 1000) (hst : s.status = 0) (fs : List Fr) (f : Fr) (hfr : s.frames = fs ++ [f]) (k : Nat) (hk : k < P.length) (hfn : f.fn = (k : Int)) (hw : Way P[k] 63 f.pc.toNat) :
    Calls Tryd.prog 7 #[.agg #[v], sv] w (FarAns P k hk s fs f w) := by
  have HTC : Hid (∀ W, Below w.heap.size w W → TabOk W ∧ CallOk W ∧ ProgVal W v P) := fun W hb => ⟨ht.below hb, hc.below hb, hv.keeps (keeps_below hb)⟩
  have HR : Hid (ProofAns P 0) := hR
  have HI : Hid (RunInv P s) := hI
  have hm16 : s.mem.length = 16 := hI.mem
  have h12 : f.regs.length = 12 := hI.wf f (by rw [hfr]; simp)
  have HONE : Hid (OneSt P k (oneS s f) f) := one_ok hR hI.may hI.fok hfr h12 hm16 hk hfn hw
  have HSF : Hid (s.status = 0 ∧ s.frames = fs ++ [f] ∧ s.events.length ≤ 1000) := ⟨hst, hfr, he⟩
  have HRU : Hid (∀ W, Below w.heap.size w W → Calls Tryd.prog 15 #[.agg #[v], sv] W _) := fun W hb => running_ok P v sv s W (ht.below hb) (hc.below hb) hR hI.may hI.fok (hv.keeps (keeps_below hb)) (hs.keeps (keeps_below hb)) (by omega) hst
  obtain ⟨ao, n0, cap0, rfl⟩ := hv.shape
  obtain ⟨cs, rfl, q1, q2, q3⟩ := hs.cells
  have HB0 : Hid (Below w.heap.size w (((w.alloc (.cells #[.slice ao n0 cap0] 29)).alloc (.cells cs 34)).alloc (.cells #[.int .i64 0, .int .i64 0, .slice none 0 0, .int .i64 0, .int .i64 0, .int .i64 0, .int .i64 0, .int .i64 0, .int .i64 0, .int .i64 0, .int .i64 0, .int .i64 0, .int .i64 0, .int .i64 0, .int .i64 0, .int .i64 0, .int .i64 0, .int .i64 0, .int .i64 0, .int .i64 0, .slice none 0 0, .slice none 0 0] 34))) := (((Below.refl _ _).alloc (Nat.le_refl _) _).alloc (by simp) _).alloc (by simp; omega) _
  have r3 : (((w.alloc (.cells #[.slice ao n0 cap0] 29)).alloc (.cells cs 34)).alloc (.cells #[.int .i64 0, .int .i64 0, .slice none 0 0, .int .i64 0, .int .i64 0, .int .i64 0, .int .i64 0, .int .i64 0, .int .i64 0, .int .i64 0, .int .i64 0, .int .i64 0, .int .i64 0, .int .i64 0, .int .i64 0, .int .i64 0, .int .i64 0, .int .i64 0, .int .i64 0, .int .i64 0, .slice none 0 0, .slice none 0 0] 34)).heap[w.heap.size + 1]? = some (.cells cs 34 (0, 0)) := heap_alloc_old _ _ (by simp) |>.trans (heap_alloc2_new _ _ _)
  have r4 : (((w.alloc (.cells #[.slice ao n0 cap0] 29)).alloc (.cells cs 34)).alloc (.cells #[.int .i64 0, .int .i64 0, .slice none 0 0, .int .i64 0, .int .i64 0, .int .i64 0, .int .i64 0, .int .i64 0, .int .i64 0, .int .i64 0, .int .i64 0, .int .i64 0, .int .i64 0, .int .i64 0, .int .i64 0, .int .i64 0, .int .i64 0, .int .i64 0, .int .i64 0, .int .i64 0, .slice none 0 0, .slice none 0 0] 34)).heap[w.heap.size + 1 + 1]? = some (.cells zeroStCells 34 (0, 0)) := heap_alloc3_new _ _ _ _
  have k2 : (((w.alloc (.cells #[.slice ao n0 cap0] 29)).alloc (.cells cs 34)).alloc (.cells #[.int .i64 0, .int .i64 0, .slice none 0 0, .int .i64 0, .int .i64 0, .int .i64 0, .int .i64 0, .int .i64 0, .int .i64 0, .int .i64 0, .int .i64 0, .int .i64 0, .int .i64 0, .int .i64 0, .int .i64 0, .int .i64 0, .int .i64 0, .int .i64 0, .int .i64 0, .int .i64 0, .slice none 0 0, .slice none 0 0] 34)).cell? ⟨w.heap.size, 0, none⟩ = some (.slice ao n0 cap0) := cell_alloc (cell_alloc (by rw [cell_of_row _ _ _ _ _ _ (heap_alloc_last w _)]; rfl) _) _
  have HWZ : Hid (w.heap.size + 1 + 1 < (((w.alloc (.cells #[.slice ao n0 cap0] 29)).alloc (.cells cs 34)).alloc (.cells #[.int .i64 0, .int .i64 0, .slice none 0 0, .int .i64 0, .int .i64 0, .int .i64 0, .int .i64 0, .int .i64 0, .int .i64 0, .int .i64 0, .int .i64 0, .int .i64 0, .int .i64 0, .int .i64 0, .int .i64 0, .int .i64 0, .int .i64 0, .int .i64 0, .int .i64 0, .int .i64 0, .slice none 0 0, .slice none 0 0] 34)).heap.size) := by show _ < _; simp
  clear ht hc hv hs hR hI he hst hfr hw
  go_enter Tryd.func7, Tryd.ntmps7
  go_upto_region 1 with fail
  generalize (((w.alloc (.cells #[.slice ao n0 cap0] 29)).alloc (.cells cs 34)).alloc (.cells #[.int .i64 0, .int .i64 0, .slice none 0 0, .int .i64 0, .int .i64 0, .int .i64 0, .int .i64 0, .int .i64 0, .int .i64 0, .int .i64 0, .int .i64 0, .int .i64 0, .int .i64 0, .int .i64 0, .int .i64 0, .int .i64 0, .int .i64 0, .int .i64 0, .int .i64 0, .int .i64 0, .slice none 0 0, .slice none 0 0] 34)) = W0 at *
  have hru := HRU.out W0 HB0.out
  go_upto_region 4 with (first
    | (refine wpList_load_row rfl _ _ rfl _ rfl _ _ _ _ r3 Tryd.underlying34 rfl q1 ?_)
    | (go_at_call 15; refine hru.mono ?_; rintro e w1 ⟨cs1, rfl, a1, a2, a3, hst1, hb1⟩; have h5 := (hb1.block _ (lt_of_block r3)).trans r3)
    | (refine wpList_store_row rfl _ _ _ rfl _ cs1 rfl rfl _ _ h5 a1 (q2.symm.trans a2) a3 ?_))
  have HZ0 : Hid (w.heap.size + 1 + 1 < W0.heap.size) := HWZ.out
  have r31 : (w1.setRow (w.heap.size + 1) cs1).heap[w.heap.size + 1]? = some (.cells cs1 34 (0, 0)) := setRow_heap _ _ _ _ _ _ h5
  have r41 : (w1.setRow (w.heap.size + 1) cs1).heap[w.heap.size + 1 + 1]? = some (.cells zeroStCells 34 (0, 0)) := (setRow_other _ _ _ _ (by omega)).trans ((hb1.block _ (lt_of_block r4)).trans r4)
  have k21 : (w1.setRow (w.heap.size + 1) cs1).cell? ⟨w.heap.size, 0, none⟩ = some (.slice ao n0 cap0) := (World.cell?_of_block (setRow_other _ _ _ _ (by show w.heap.size ≠ _; omega))).trans (keeps_below hb1 _ _ k2)
  have HB1 : Hid (Below w.heap.size w (w1.setRow (w.heap.size + 1) cs1)) := belowSR (HB0.out.trans (hb1.mono HB0.out.size)) (by omega) _
  obtain ⟨fv, ev, av, hcs1, hout, hlow⟩ := StP.out (hst1.setRow (by have := HZ0.out; omega) cs1) (by have := HZ0.out; omega) (Nat.le_succ _) r31
  obtain ⟨fb, cap, hfv, hcl, hcm, hfb0, hfbz, hfbg⟩ := hout.box (i := fs.length) (by rw [HSF.out.2.1]; simp)
  have hfl : s.frames.length = fs.length + 1 := by rw [HSF.out.2.1]; simp
  rw [hfl] at hfv hcl
  subst hfv
  have hrf := hout.range (i := fs.length) (f := f) (by rw [HSF.out.2.1]; simp)
  have HOUT : Hid (OutAt (w1.setRow (w.heap.size + 1) cs1) w.heap.size (w.heap.size + 1) s (.slice (some ⟨fb, 0, none⟩) (fs.length + 1) cap) ev av) := hout
  have HLA : Hid (∀ W, Calls Tryd.prog 17 #[.agg cs1] W fun e w' => e = .returned (.pointer (some ⟨fb, fs.length * 14, none⟩)) ∧ Below W.heap.size W w') := fun W => by
    have := lastE_any s fb 0 fs.length cap ev av W hcl hcm
    rw [Nat.zero_add] at this
    rw [hcs1]; exact this
  have HRF : Hid (∀ W, Below (w1.setRow (w.heap.size + 1) cs1).heap.size (w1.setRow (w.heap.size + 1) cs1) W → W.rangeAt fb (fs.length * 14) (frCells f)) := fun W hb j u hu => keeps_below hb _ _ (hrf j u hu)
  have HMM : Hid (∀ j u, (i64s s.mem)[j]? = some u → cs1.toList[3 + j]? = some u) := fun j u hu => by rw [hcs1]; exact stE_mem s _ ev av j u hu
  have HF19 : Hid (cs1[19]? = some (.int .i64 s.fuel)) := by show _ = _; rw [hcs1]; have := stC_tail (S := s) (.slice (some ⟨fb, 0, none⟩) (fs.length + 1) cap) ev av hm16 0; simpa using this
  have c19 : (w1.setRow (w.heap.size + 1) cs1).cell? ⟨w.heap.size + 1, 19, none⟩ = some (.int .i64 s.fuel) := by rw [cell_of_row _ _ _ _ _ _ r31]; exact HF19.out
  have HZ1 : Hid (w.heap.size + 1 + 1 < (w1.setRow (w.heap.size + 1) cs1).heap.size) := lt_of_block r41
  have hzs : w.heap.size + 1 < (w1.setRow (w.heap.size + 1) cs1).heap.size := lt_of_block r31
  have HCS : Hid (cs1 = (stCells s (.slice (some ⟨fb, 0, none⟩) (fs.length + 1) cap) ev av).toArray) := hcs1
  have HFBL : Hid (fb ≠ w.heap.size + 1 ∧ w.heap.size ≤ fb ∧ fb < (w1.setRow (w.heap.size + 1) cs1).heap.size) := ⟨hfbg, hfb0, hfbz⟩
  have HLOW : Hid (LowV W0.heap.size av) := hlow
  have HF2 : Hid (some (w.heap.size + 1 + 1) ≠ some fb) := fun e => block_ne_own hout.frames r41 (by decide) e.symm
  have hFAR : ∀ (W : World) (GF : Nat), Below w.heap.size w W → W.heap[GF]? = some (.cells (frCells f).toArray 45 (0, 0)) → Calls Tryd.prog 16 #[.agg #[.slice ao n0 cap0], .agg (stCells (oneS s f) (.slice (some ⟨GF, 0, none⟩) 1 1) (.slice none 0 0) (.slice none 0 0)).toArray] W (FarPost (fun x => x = GF) P k hk (oneS s f) W) := fun W GF hb hrow =>
    far_any P HR.out k hk (.slice ao n0 cap0) _ (oneS s f) f W (HTC.out W hb).1 (HTC.out W hb).2.1 (HTC.out W hb).2.2 (fun x => x = GF) (fun x hx => by rw [hx]; exact lt_of_block hrow) (stIn_one hrow h12 hm16) HONE.out rfl (by show 0 ≤ 1000; omega)
  have HFAR : Hid (∀ (W : World) (GF : Nat), Below w.heap.size w W → W.heap[GF]? = some (.cells (frCells f).toArray 45 (0, 0)) → Calls Tryd.prog 16 #[.agg #[.slice ao n0 cap0], .agg (stCells (oneS s f) (.slice (some ⟨GF, 0, none⟩) 1 1) (.slice none 0 0) (.slice none 0 0)).toArray] W (FarPost (fun x => x = GF) P k hk (oneS s f) W)) := hFAR
  have HBO : Hid (∀ GF, Tryd.prog.built 34 [(2, .slice (some ⟨GF, 0, none⟩) 1 1), (3, .agg (i64s s.mem).toArray), (4, .int .i64 s.fuel)] = some (stCells (oneS s f) (.slice (some ⟨GF, 0, none⟩) 1 1) (.slice none 0 0) (.slice none 0 0)).toArray) := fun GF => built_one s f hm16 _ ⟨GF, rfl⟩
  have hm16l : (Tryd.prog.info? 32).map (·.size) = some (i64s s.mem).length := by rw [show (i64s s.mem).length = 16 by simp [i64s, hm16]]; exact infoM16
  have hfrl : (Tryd.prog.info? 45).map (·.size) = some (frCells f).length := by rw [frCells_length f h12]; exact infoFr
  clear hFAR hst1 hb1 hcs1 hout hlow hcl hcm hfb0 hfbz hfbg hfl hrf h5 r3 r4 k2 HB0 hru HRU HWZ q1 q2 q3
  generalize (w1.setRow (w.heap.size + 1) cs1) = W1 at *
  generalize hTP : fs.length = tp at *
  have HTP : Hid (fs.length = tp) := hTP
  clear hTP
  (try simp only [Act.put])
  go_cut [8] from 20 to 31 (fun t wx => ∃ (Gx : Nat) (csx : Array Value) (S : List Nat) (T : Nat → Nat) (X : St), t = .pointer (some ⟨Gx, 0, none⟩) ∧ wx.heap[Gx]? = some (.cells csx 34 (0, 0)) ∧ (Tryd.prog.info? 34).map (·.size) = some csx.size ∧ BlkOk P[k] S T ∧ FarX P P[k] S T (oneS s f) X ∧ StVal wx (.agg csx) X ∧ W1.heap.size ≤ Gx ∧ Below W1.heap.size W1 wx)
  case first =>
    refine wp_region_held_drew (S := fun W => Below W1.heap.size W1 W) (by kernel_rfl) ((Below.refl _ _).drew) (fun hHeld => ?_)
    show wpAnyH _ _ _ _ _ 14 _ _ _
    refine wpAnyH_take (i := 0) (v := ?_) rfl (by kernel_rfl) (by kernel_rfl) (by kernel_rfl) (fun _ _ _ h => h) (Or.inl ⟨by rfl, ?_⟩) (by assumption) ?_
    rotate_left
    · (intro W hSW; have zz := keeps_below hSW _ _ k21; go_simp; try (with_reducible rfl))
    (try simp only [List.getElem_toArray, List.getElem_cons_zero])
    (try simp only [Act.put, List.setIfInBounds_toArray, List.set_cons_zero, List.set_cons_succ])
    refine wpAnyH_take (i := 1) (v := .agg cs1.toList.toArray) rfl (by kernel_rfl) (by kernel_rfl) (by kernel_rfl) (fun _ _ _ h => h) (yieldsIf_load_mid (by rfl) 34 _ rfl _ 0 rfl cs1.toList _ (fun W hSW j u hu => by rw [cell_of_row _ _ _ _ _ _ ((hSW.block _ hzs).trans r31)]; simpa using hu) Tryd.underlying34 rfl (by simpa using a1)) (by assumption) ?_
    simp only [Array.toArray_toList]
    (try simp only [List.getElem_toArray, List.getElem_cons_succ, List.getElem_cons_zero])
    (try simp only [Act.put, List.setIfInBounds_toArray, List.set_cons_zero, List.set_cons_succ])
    refine wpAnyH_take (i := 6) (v := ?_) rfl (by kernel_rfl) (by kernel_rfl) (by kernel_rfl) (fun _ _ _ h => h) (Or.inl ⟨by rfl, ?_⟩) (by assumption) ?_
    rotate_left
    · (intro W hSW; go_simp; try (with_reducible rfl))
    (try simp only [List.getElem_toArray, List.getElem_cons_succ, List.getElem_cons_zero])
    (try simp only [Act.put, List.setIfInBounds_toArray, List.set_cons_zero, List.set_cons_succ])
    refine wpAnyH_take (i := 7) (v := .agg (i64s s.mem).toArray) rfl (by kernel_rfl) (by kernel_rfl) (by kernel_rfl) (fun _ _ _ h => h) (yieldsIf_load_mid (by rfl) 32 _ rfl _ 3 rfl (i64s s.mem) _ (fun W hSW j u hu => by rw [cell_of_row _ _ _ _ _ _ ((hSW.block _ hzs).trans r31)]; simpa using HMM.out j u hu) Tryd.underlying32 rfl hm16l) (by assumption) ?_
    (try simp only [List.getElem_toArray, List.getElem_cons_succ, List.getElem_cons_zero])
    (try simp only [Act.put, List.setIfInBounds_toArray, List.set_cons_zero, List.set_cons_succ])
    refine wpAnyH_take (i := 8) (v := ?_) rfl (by kernel_rfl) (by kernel_rfl) (by kernel_rfl) (fun _ _ _ h => h) (Or.inl ⟨by rfl, ?_⟩) (by assumption) ?_
    rotate_left
    · (intro W hSW; go_simp; try (with_reducible rfl))
    (try simp only [List.getElem_toArray, List.getElem_cons_succ, List.getElem_cons_zero])
    (try simp only [Act.put, List.setIfInBounds_toArray, List.set_cons_zero, List.set_cons_succ])
    refine wpAnyH_take (i := 9) (v := ?_) rfl (by kernel_rfl) (by kernel_rfl) (by kernel_rfl) (fun _ _ _ h => h) (Or.inl ⟨by rfl, ?_⟩) (by assumption) ?_
    rotate_left
    · (intro W hSW; have zz := keeps_below hSW _ _ c19; go_simp; try (with_reducible rfl))
    (try simp only [List.getElem_toArray, List.getElem_cons_succ, List.getElem_cons_zero])
    (try simp only [Act.put, List.setIfInBounds_toArray, List.set_cons_zero, List.set_cons_succ])
    refine wpAnyH_ready (rs := [2, 12]) (by kernel_rfl) (by simp) ?_
    refine AllReadyH.cons rfl (fun K hK => ?_) (AllReadyH.cons rfl (fun K hK => ?_) AllReadyH.nil)
    · go_simp
      go_at_call 17
      refine (HLA.out _).mono ?_
      rintro e wl ⟨rfl, hbl⟩
      have HBl : Below W1.heap.size W1 wl := Below.trans hHeld (Below.mono hbl (Below.size hHeld))
      dsimp only
      refine hK.out _ _ HBl (fun _ => ?_)
      clear hK K
      (try simp only [Act.put, List.setIfInBounds_toArray, List.set_cons_zero, List.set_cons_succ])
      refine wpAnyH_take (i := 3) (v := ?_) rfl (by kernel_rfl) (by kernel_rfl) (by kernel_rfl) (fun _ _ _ h => h) (Or.inl ⟨by rfl, ?_⟩) (by assumption) ?_
      rotate_left
      · (intro W hSW; go_simp; try (with_reducible rfl))
      (try simp only [List.getElem_toArray, List.getElem_cons_succ, List.getElem_cons_zero])
      (try simp only [Act.put, List.setIfInBounds_toArray, List.set_cons_zero, List.set_cons_succ])
      refine wpAnyH_take (i := 4) (v := .agg (frCells f).toArray) rfl (by kernel_rfl) (by kernel_rfl) (by kernel_rfl) (fun _ _ _ h => h) (yieldsIf_load_mid (by rfl) 45 _ rfl fb (tp * 14) rfl (frCells f) _ HRF.out Tryd.underlying45 rfl hfrl) (by assumption) ?_
      (try simp only [List.getElem_toArray, List.getElem_cons_succ, List.getElem_cons_zero])
      (try simp only [Act.put, List.setIfInBounds_toArray, List.set_cons_zero, List.set_cons_succ])
      refine wpAnyH_ready (rs := [5, 12]) (by kernel_rfl) (by simp) ?_
      refine AllReadyH.cons rfl (fun K hK => ?_) (AllReadyH.cons rfl (fun K hK => ?_) AllReadyH.nil)
      · refine wp_build_frame (.tmp 24) rfl f h12 rfl ?_
        have hbb0 : Below wl.heap.size wl (wl.alloc (.cells (frCells f).toArray 45)) := (Below.refl _ _).alloc (Nat.le_refl _) _
        have rowF0 : (wl.alloc (.cells (frCells f).toArray 45)).heap[wl.heap.size]? = some (.cells (frCells f).toArray 45 (0, 0)) := heap_alloc_last _ _
        have HGF0 : W1.heap.size ≤ wl.heap.size := Below.size HBl
        obtain ⟨GF, hGF⟩ : ∃ GF, GF = wl.heap.size := ⟨_, rfl⟩
        obtain ⟨wb, hwb⟩ : ∃ wb, wb = (wl.alloc (.cells (frCells f).toArray 45)) := ⟨_, rfl⟩
        rw [← hGF] at rowF0 HGF0
        rw [← hwb] at rowF0 hbb0
        have hbb := hbb0
        have rowF := rowF0
        have HGF : Hid (W1.heap.size ≤ GF) := HGF0
        clear hbb0 rowF0 HGF0
        rw [← hGF, ← hwb]
        clear hGF hwb
        have HBb : Below W1.heap.size W1 wb := Below.trans HBl (Below.mono hbb (Below.size HBl))
        (try dsimp only)
        refine hK.out _ _ HBb (fun _ => ?_)
        clear hK K
        (try simp only [Act.put, List.setIfInBounds_toArray])
        refine wpAnyH_take (i := 10) (v := .agg (stCells (oneS s f) (.slice (some ⟨GF, 0, none⟩) 1 1) (.slice none 0 0) (.slice none 0 0)).toArray) rfl (by kernel_rfl) (by kernel_rfl) (by kernel_rfl) (fun _ _ _ h => h) (yieldsIf_build (by rfl) _ _ rfl _ (by simpa [Act.eval, Act.put] using HBO.out GF)) (by assumption) ?_
        (try simp only [List.getElem_toArray, List.getElem_cons_succ, List.getElem_cons_zero])
        (try simp only [Act.put, List.setIfInBounds_toArray, List.set_cons_zero, List.set_cons_succ])
        refine wpAnyH_ready (rs := [11, 12]) (by kernel_rfl) (by simp) ?_
        refine AllReadyH.cons rfl (fun K hK => ?_) (AllReadyH.cons rfl (fun K hK => ?_) AllReadyH.nil)
        · go_simp
          go_at_call 16
          refine (HFAR.out _ GF (HB1.out.trans (Below.mono HBb HB1.out.size)) rowF).mono ?_
          rintro e wf hPf
          obtain ⟨csf, S, T, X, rfl, f1, f2, f3, hBk, hFX, hSt, hbf⟩ := hPf
          have HBf : Below W1.heap.size W1 wf := Below.trans HBb (Below.mono hbf (Below.size HBb))
          dsimp only
          refine hK.out _ _ HBf (fun _ => ?_)
          clear hK K
          (try simp only [Act.put, List.setIfInBounds_toArray, List.set_cons_zero, List.set_cons_succ])
          have rowF := (Below.block hbf _ (lt_of_block rowF)).trans rowF
          refine wpAnyH_ready (rs := [12]) (by kernel_rfl) (by simp) ?_
          refine AllReadyH.cons rfl (fun K hK => ?_) AllReadyH.nil
          go_simp
          have HBA3 : Below W1.heap.size W1 (wf.alloc (.cells #[.int .i64 0, .int .i64 0, .slice none 0 0, .int .i64 0, .int .i64 0, .int .i64 0, .int .i64 0, .int .i64 0, .int .i64 0, .int .i64 0, .int .i64 0, .int .i64 0, .int .i64 0, .int .i64 0, .int .i64 0, .int .i64 0, .int .i64 0, .int .i64 0, .int .i64 0, .int .i64 0, .slice none 0 0, .slice none 0 0] 34)) := Below.alloc HBf (Below.size HBf) _
          refine hK.out _ _ HBA3 (fun _ => ?_)
          clear hK K
          (try simp only [Act.put, List.setIfInBounds_toArray, List.set_cons_zero, List.set_cons_succ])
          have rowA : (wf.alloc (.cells #[.int .i64 0, .int .i64 0, .slice none 0 0, .int .i64 0, .int .i64 0, .int .i64 0, .int .i64 0, .int .i64 0, .int .i64 0, .int .i64 0, .int .i64 0, .int .i64 0, .int .i64 0, .int .i64 0, .int .i64 0, .int .i64 0, .int .i64 0, .int .i64 0, .int .i64 0, .int .i64 0, .slice none 0 0, .slice none 0 0] 34)).heap[wf.heap.size]? = some (.cells #[.int .i64 0, .int .i64 0, .slice none 0 0, .int .i64 0, .int .i64 0, .int .i64 0, .int .i64 0, .int .i64 0, .int .i64 0, .int .i64 0, .int .i64 0, .int .i64 0, .int .i64 0, .int .i64 0, .int .i64 0, .int .i64 0, .int .i64 0, .int .i64 0, .int .i64 0, .int .i64 0, .slice none 0 0, .slice none 0 0] 34 (0, 0)) := heap_alloc_last wf _
          have rowF := (Below.block (Below.alloc (Below.refl _ _) (Nat.le_refl _) (.cells #[.int .i64 0, .int .i64 0, .slice none 0 0, .int .i64 0, .int .i64 0, .int .i64 0, .int .i64 0, .int .i64 0, .int .i64 0, .int .i64 0, .int .i64 0, .int .i64 0, .int .i64 0, .int .i64 0, .int .i64 0, .int .i64 0, .int .i64 0, .int .i64 0, .int .i64 0, .int .i64 0, .slice none 0 0, .slice none 0 0] 34)) _ (lt_of_block rowF)).trans rowF
          refine wpAnyH_ready (rs := [13]) (by kernel_rfl) (by simp) ?_
          refine AllReadyH.cons rfl (fun K hK => ?_) AllReadyH.nil
          refine wp_store_row 34 _ _ rfl (wf.heap.size) csf rfl rfl 34 #[.int .i64 0, .int .i64 0, .slice none 0 0, .int .i64 0, .int .i64 0, .int .i64 0, .int .i64 0, .int .i64 0, .int .i64 0, .int .i64 0, .int .i64 0, .int .i64 0, .int .i64 0, .int .i64 0, .int .i64 0, .int .i64 0, .int .i64 0, .int .i64 0, .int .i64 0, .int .i64 0, .slice none 0 0, .slice none 0 0] rowA f1 f2 f3 ?_
          have BN : Below W1.heap.size W1 (World.setRow (wf.alloc (.cells #[.int .i64 0, .int .i64 0, .slice none 0 0, .int .i64 0, .int .i64 0, .int .i64 0, .int .i64 0, .int .i64 0, .int .i64 0, .int .i64 0, .int .i64 0, .int .i64 0, .int .i64 0, .int .i64 0, .int .i64 0, .int .i64 0, .int .i64 0, .int .i64 0, .int .i64 0, .int .i64 0, .slice none 0 0, .slice none 0 0] 34)) (wf.heap.size) csf) := belowSR HBA3 (Below.size HBf) _
          refine hK.out _ _ BN (fun _ => ?_)
          clear hK K
          (try simp only [Act.put, List.setIfInBounds_toArray])
          refine wpAnyH_done (by kernel_rfl) ?_ _
          go_wp2_with fail
          go_meet
          exact ⟨_, csf, S, T, X, rfl, setRow_heap _ _ _ _ _ _ rowA, f1, hBk, hFX, StVal.keeps (StIn.val hSt) (fun a u hu => (World.cell?_of_block (setRow_other _ _ _ _ (by have := World.block_lt_of_cell? _ _ hu; omega))).trans (cell_alloc hu _)), (by first | exact (Below.size HBf) | exact Nat.le_refl _), BN⟩
        · go_simp
          have HBA2 : Below W1.heap.size W1 (wb.alloc (.cells #[.int .i64 0, .int .i64 0, .slice none 0 0, .int .i64 0, .int .i64 0, .int .i64 0, .int .i64 0, .int .i64 0, .int .i64 0, .int .i64 0, .int .i64 0, .int .i64 0, .int .i64 0, .int .i64 0, .int .i64 0, .int .i64 0, .int .i64 0, .int .i64 0, .int .i64 0, .int .i64 0, .slice none 0 0, .slice none 0 0] 34)) := Below.alloc HBb (Below.size HBb) _
          refine hK.out _ _ HBA2 (fun _ => ?_)
          clear hK K
          (try simp only [Act.put, List.setIfInBounds_toArray, List.set_cons_zero, List.set_cons_succ])
          have rowA : (wb.alloc (.cells #[.int .i64 0, .int .i64 0, .slice none 0 0, .int .i64 0, .int .i64 0, .int .i64 0, .int .i64 0, .int .i64 0, .int .i64 0, .int .i64 0, .int .i64 0, .int .i64 0, .int .i64 0, .int .i64 0, .int .i64 0, .int .i64 0, .int .i64 0, .int .i64 0, .int .i64 0, .int .i64 0, .slice none 0 0, .slice none 0 0] 34)).heap[wb.heap.size]? = some (.cells #[.int .i64 0, .int .i64 0, .slice none 0 0, .int .i64 0, .int .i64 0, .int .i64 0, .int .i64 0, .int .i64 0, .int .i64 0, .int .i64 0, .int .i64 0, .int .i64 0, .int .i64 0, .int .i64 0, .int .i64 0, .int .i64 0, .int .i64 0, .int .i64 0, .int .i64 0, .int .i64 0, .slice none 0 0, .slice none 0 0] 34 (0, 0)) := heap_alloc_last wb _
          have rowF := (Below.block (Below.alloc (Below.refl _ _) (Nat.le_refl _) (.cells #[.int .i64 0, .int .i64 0, .slice none 0 0, .int .i64 0, .int .i64 0, .int .i64 0, .int .i64 0, .int .i64 0, .int .i64 0, .int .i64 0, .int .i64 0, .int .i64 0, .int .i64 0, .int .i64 0, .int .i64 0, .int .i64 0, .int .i64 0, .int .i64 0, .int .i64 0, .int .i64 0, .slice none 0 0, .slice none 0 0] 34)) _ (lt_of_block rowF)).trans rowF
          refine wpAnyH_ready (rs := [11]) (by kernel_rfl) (by simp) ?_
          refine AllReadyH.cons rfl (fun K hK => ?_) AllReadyH.nil
          go_simp
          go_at_call 16
          refine (HFAR.out _ GF (HB1.out.trans (Below.mono HBA2 HB1.out.size)) rowF).mono ?_
          rintro e wf hPf
          obtain ⟨csf, S, T, X, rfl, f1, f2, f3, hBk, hFX, hSt, hbf⟩ := hPf
          have HBf : Below W1.heap.size W1 wf := Below.trans HBA2 (Below.mono hbf (Below.size HBA2))
          dsimp only
          refine hK.out _ _ HBf (fun _ => ?_)
          clear hK K
          (try simp only [Act.put, List.setIfInBounds_toArray, List.set_cons_zero, List.set_cons_succ])
          have rowF := (Below.block hbf _ (lt_of_block rowF)).trans rowF
          have rowB2 : wf.heap[wb.heap.size]? = some (.cells #[.int .i64 0, .int .i64 0, .slice none 0 0, .int .i64 0, .int .i64 0, .int .i64 0, .int .i64 0, .int .i64 0, .int .i64 0, .int .i64 0, .int .i64 0, .int .i64 0, .int .i64 0, .int .i64 0, .int .i64 0, .int .i64 0, .int .i64 0, .int .i64 0, .int .i64 0, .int .i64 0, .slice none 0 0, .slice none 0 0] 34 (0, 0)) := (Below.block hbf _ (lt_of_block rowA)).trans rowA
          refine wpAnyH_ready (rs := [13]) (by kernel_rfl) (by simp) ?_
          refine AllReadyH.cons rfl (fun K hK => ?_) AllReadyH.nil
          refine wp_store_row 34 _ _ rfl (wb.heap.size) csf rfl rfl 34 #[.int .i64 0, .int .i64 0, .slice none 0 0, .int .i64 0, .int .i64 0, .int .i64 0, .int .i64 0, .int .i64 0, .int .i64 0, .int .i64 0, .int .i64 0, .int .i64 0, .int .i64 0, .int .i64 0, .int .i64 0, .int .i64 0, .int .i64 0, .int .i64 0, .int .i64 0, .int .i64 0, .slice none 0 0, .slice none 0 0] rowB2 f1 f2 f3 ?_
          have BN : Below W1.heap.size W1 (World.setRow wf (wb.heap.size) csf) := belowSR HBf (Below.size HBb) _
          refine hK.out _ _ BN (fun _ => ?_)
          clear hK K
          (try simp only [Act.put, List.setIfInBounds_toArray])
          refine wpAnyH_done (by kernel_rfl) ?_ _
          go_wp2_with fail
          go_meet
          exact ⟨_, csf, S, T, X, rfl, setRow_heap _ _ _ _ _ _ rowB2, f1, hBk, hFX, (StIn.row hSt (fun h => h.elim (fun e => row_ne rowF rowB2 (by decide) e.symm) (fun e => by first | (have := lt_of_block rowB1; omega) | (have := lt_of_block rowA; omega))) csf).val, (by first | exact (Below.size HBb) | exact Nat.le_refl _), BN⟩
      · go_simp
        have HBA1 : Below W1.heap.size W1 (wl.alloc (.cells #[.int .i64 0, .int .i64 0, .slice none 0 0, .int .i64 0, .int .i64 0, .int .i64 0, .int .i64 0, .int .i64 0, .int .i64 0, .int .i64 0, .int .i64 0, .int .i64 0, .int .i64 0, .int .i64 0, .int .i64 0, .int .i64 0, .int .i64 0, .int .i64 0, .int .i64 0, .int .i64 0, .slice none 0 0, .slice none 0 0] 34)) := Below.alloc HBl (Below.size HBl) _
        refine hK.out _ _ HBA1 (fun _ => ?_)
        clear hK K
        (try simp only [Act.put, List.setIfInBounds_toArray, List.set_cons_zero, List.set_cons_succ])
        have rowA : (wl.alloc (.cells #[.int .i64 0, .int .i64 0, .slice none 0 0, .int .i64 0, .int .i64 0, .int .i64 0, .int .i64 0, .int .i64 0, .int .i64 0, .int .i64 0, .int .i64 0, .int .i64 0, .int .i64 0, .int .i64 0, .int .i64 0, .int .i64 0, .int .i64 0, .int .i64 0, .int .i64 0, .int .i64 0, .slice none 0 0, .slice none 0 0] 34)).heap[wl.heap.size]? = some (.cells #[.int .i64 0, .int .i64 0, .slice none 0 0, .int .i64 0, .int .i64 0, .int .i64 0, .int .i64 0, .int .i64 0, .int .i64 0, .int .i64 0, .int .i64 0, .int .i64 0, .int .i64 0, .int .i64 0, .int .i64 0, .int .i64 0, .int .i64 0, .int .i64 0, .int .i64 0, .int .i64 0, .slice none 0 0, .slice none 0 0] 34 (0, 0)) := heap_alloc_last wl _
        refine wpAnyH_ready (rs := [5]) (by kernel_rfl) (by simp) ?_
        refine AllReadyH.cons rfl (fun K hK => ?_) AllReadyH.nil
        refine wp_build_frame (.tmp 24) rfl f h12 rfl ?_
        have hbb0 : Below (wl.alloc (.cells #[.int .i64 0, .int .i64 0, .slice none 0 0, .int .i64 0, .int .i64 0, .int .i64 0, .int .i64 0, .int .i64 0, .int .i64 0, .int .i64 0, .int .i64 0, .int .i64 0, .int .i64 0, .int .i64 0, .int .i64 0, .int .i64 0, .int .i64 0, .int .i64 0, .int .i64 0, .int .i64 0, .slice none 0 0, .slice none 0 0] 34)).heap.size (wl.alloc (.cells #[.int .i64 0, .int .i64 0, .slice none 0 0, .int .i64 0, .int .i64 0, .int .i64 0, .int .i64 0, .int .i64 0, .int .i64 0, .int .i64 0, .int .i64 0, .int .i64 0, .int .i64 0, .int .i64 0, .int .i64 0, .int .i64 0, .int .i64 0, .int .i64 0, .int .i64 0, .int .i64 0, .slice none 0 0, .slice none 0 0] 34)) ((wl.alloc (.cells #[.int .i64 0, .int .i64 0, .slice none 0 0, .int .i64 0, .int .i64 0, .int .i64 0, .int .i64 0, .int .i64 0, .int .i64 0, .int .i64 0, .int .i64 0, .int .i64 0, .int .i64 0, .int .i64 0, .int .i64 0, .int .i64 0, .int .i64 0, .int .i64 0, .int .i64 0, .int .i64 0, .slice none 0 0, .slice none 0 0] 34)).alloc (.cells (frCells f).toArray 45)) := (Below.refl _ _).alloc (Nat.le_refl _) _
        have rowF0 : ((wl.alloc (.cells #[.int .i64 0, .int .i64 0, .slice none 0 0, .int .i64 0, .int .i64 0, .int .i64 0, .int .i64 0, .int .i64 0, .int .i64 0, .int .i64 0, .int .i64 0, .int .i64 0, .int .i64 0, .int .i64 0, .int .i64 0, .int .i64 0, .int .i64 0, .int .i64 0, .int .i64 0, .int .i64 0, .slice none 0 0, .slice none 0 0] 34)).alloc (.cells (frCells f).toArray 45)).heap[(wl.alloc (.cells #[.int .i64 0, .int .i64 0, .slice none 0 0, .int .i64 0, .int .i64 0, .int .i64 0, .int .i64 0, .int .i64 0, .int .i64 0, .int .i64 0, .int .i64 0, .int .i64 0, .int .i64 0, .int .i64 0, .int .i64 0, .int .i64 0, .int .i64 0, .int .i64 0, .int .i64 0, .int .i64 0, .slice none 0 0, .slice none 0 0] 34)).heap.size]? = some (.cells (frCells f).toArray 45 (0, 0)) := heap_alloc_last _ _
        have HGF0 : W1.heap.size ≤ (wl.alloc (.cells #[.int .i64 0, .int .i64 0, .slice none 0 0, .int .i64 0, .int .i64 0, .int .i64 0, .int .i64 0, .int .i64 0, .int .i64 0, .int .i64 0, .int .i64 0, .int .i64 0, .int .i64 0, .int .i64 0, .int .i64 0, .int .i64 0, .int .i64 0, .int .i64 0, .int .i64 0, .int .i64 0, .slice none 0 0, .slice none 0 0] 34)).heap.size := Below.size HBA1
        obtain ⟨GF, hGF⟩ : ∃ GF, GF = (wl.alloc (.cells #[.int .i64 0, .int .i64 0, .slice none 0 0, .int .i64 0, .int .i64 0, .int .i64 0, .int .i64 0, .int .i64 0, .int .i64 0, .int .i64 0, .int .i64 0, .int .i64 0, .int .i64 0, .int .i64 0, .int .i64 0, .int .i64 0, .int .i64 0, .int .i64 0, .int .i64 0, .int .i64 0, .slice none 0 0, .slice none 0 0] 34)).heap.size := ⟨_, rfl⟩
        obtain ⟨wb, hwb⟩ : ∃ wb, wb = ((wl.alloc (.cells #[.int .i64 0, .int .i64 0, .slice none 0 0, .int .i64 0, .int .i64 0, .int .i64 0, .int .i64 0, .int .i64 0, .int .i64 0, .int .i64 0, .int .i64 0, .int .i64 0, .int .i64 0, .int .i64 0, .int .i64 0, .int .i64 0, .int .i64 0, .int .i64 0, .int .i64 0, .int .i64 0, .slice none 0 0, .slice none 0 0] 34)).alloc (.cells (frCells f).toArray 45)) := ⟨_, rfl⟩
        rw [← hGF] at rowF0 HGF0
        rw [← hwb] at rowF0 hbb0
        have hbb := hbb0
        have rowF := rowF0
        have HGF : Hid (W1.heap.size ≤ GF) := HGF0
        clear hbb0 rowF0 HGF0
        rw [← hGF, ← hwb]
        clear hGF hwb
        have HBb : Below W1.heap.size W1 wb := Below.trans HBA1 (Below.mono hbb (Below.size HBA1))
        (try dsimp only)
        refine hK.out _ _ HBb (fun _ => ?_)
        clear hK K
        (try simp only [Act.put, List.setIfInBounds_toArray])
        have rowB1 : wb.heap[wl.heap.size]? = some (.cells #[.int .i64 0, .int .i64 0, .slice none 0 0, .int .i64 0, .int .i64 0, .int .i64 0, .int .i64 0, .int .i64 0, .int .i64 0, .int .i64 0, .int .i64 0, .int .i64 0, .int .i64 0, .int .i64 0, .int .i64 0, .int .i64 0, .int .i64 0, .int .i64 0, .int .i64 0, .int .i64 0, .slice none 0 0, .slice none 0 0] 34 (0, 0)) := (Below.block hbb _ (lt_of_block rowA)).trans rowA
        refine wpAnyH_take (i := 10) (v := .agg (stCells (oneS s f) (.slice (some ⟨GF, 0, none⟩) 1 1) (.slice none 0 0) (.slice none 0 0)).toArray) rfl (by kernel_rfl) (by kernel_rfl) (by kernel_rfl) (fun _ _ _ h => h) (yieldsIf_build (by rfl) _ _ rfl _ (by simpa [Act.eval, Act.put] using HBO.out GF)) (by assumption) ?_
        (try simp only [List.getElem_toArray, List.getElem_cons_succ, List.getElem_cons_zero])
        (try simp only [Act.put, List.setIfInBounds_toArray, List.set_cons_zero, List.set_cons_succ])
        refine wpAnyH_ready (rs := [11]) (by kernel_rfl) (by simp) ?_
        refine AllReadyH.cons rfl (fun K hK => ?_) AllReadyH.nil
        go_simp
        go_at_call 16
        refine (HFAR.out _ GF (HB1.out.trans (Below.mono HBb HB1.out.size)) rowF).mono ?_
        rintro e wf hPf
        obtain ⟨csf, S, T, X, rfl, f1, f2, f3, hBk, hFX, hSt, hbf⟩ := hPf
        have HBf : Below W1.heap.size W1 wf := Below.trans HBb (Below.mono hbf (Below.size HBb))
        dsimp only
        refine hK.out _ _ HBf (fun _ => ?_)
        clear hK K
        (try simp only [Act.put, List.setIfInBounds_toArray, List.set_cons_zero, List.set_cons_succ])
        have rowF := (Below.block hbf _ (lt_of_block rowF)).trans rowF
        have rowB2 : wf.heap[wl.heap.size]? = some (.cells #[.int .i64 0, .int .i64 0, .slice none 0 0, .int .i64 0, .int .i64 0, .int .i64 0, .int .i64 0, .int .i64 0, .int .i64 0, .int .i64 0, .int .i64 0, .int .i64 0, .int .i64 0, .int .i64 0, .int .i64 0, .int .i64 0, .int .i64 0, .int .i64 0, .int .i64 0, .int .i64 0, .slice none 0 0, .slice none 0 0] 34 (0, 0)) := (Below.block hbf _ (lt_of_block rowB1)).trans rowB1
        refine wpAnyH_ready (rs := [13]) (by kernel_rfl) (by simp) ?_
        refine AllReadyH.cons rfl (fun K hK => ?_) AllReadyH.nil
        refine wp_store_row 34 _ _ rfl (wl.heap.size) csf rfl rfl 34 #[.int .i64 0, .int .i64 0, .slice none 0 0, .int .i64 0, .int .i64 0, .int .i64 0, .int .i64 0, .int .i64 0, .int .i64 0, .int .i64 0, .int .i64 0, .int .i64 0, .int .i64 0, .int .i64 0, .int .i64 0, .int .i64 0, .int .i64 0, .int .i64 0, .int .i64 0, .int .i64 0, .slice none 0 0, .slice none 0 0] rowB2 f1 f2 f3 ?_
        have BN : Below W1.heap.size W1 (World.setRow wf (wl.heap.size) csf) := belowSR HBf (Below.size HBl) _
        refine hK.out _ _ BN (fun _ => ?_)
        clear hK K
        (try simp only [Act.put, List.setIfInBounds_toArray])
        refine wpAnyH_done (by kernel_rfl) ?_ _
        go_wp2_with fail
        go_meet
        exact ⟨_, csf, S, T, X, rfl, setRow_heap _ _ _ _ _ _ rowB2, f1, hBk, hFX, (StIn.row hSt (fun h => h.elim (fun e => row_ne rowF rowB2 (by decide) e.symm) (fun e => by first | (have := lt_of_block rowB1; omega) | (have := lt_of_block rowA; omega))) csf).val, (by first | exact (Below.size HBl) | exact Nat.le_refl _), BN⟩
    · go_simp
      have HBA0 : Below W1.heap.size W1 (W1.drew.alloc (.cells #[.int .i64 0, .int .i64 0, .slice none 0 0, .int .i64 0, .int .i64 0, .int .i64 0, .int .i64 0, .int .i64 0, .int .i64 0, .int .i64 0, .int .i64 0, .int .i64 0, .int .i64 0, .int .i64 0, .int .i64 0, .int .i64 0, .int .i64 0, .int .i64 0, .int .i64 0, .int .i64 0, .slice none 0 0, .slice none 0 0] 34)) := Below.alloc hHeld (Below.size hHeld) _
      refine hK.out _ _ HBA0 (fun _ => ?_)
      clear hK K
      (try simp only [Act.put, List.setIfInBounds_toArray, List.set_cons_zero, List.set_cons_succ])
      have rowA : (W1.drew.alloc (.cells #[.int .i64 0, .int .i64 0, .slice none 0 0, .int .i64 0, .int .i64 0, .int .i64 0, .int .i64 0, .int .i64 0, .int .i64 0, .int .i64 0, .int .i64 0, .int .i64 0, .int .i64 0, .int .i64 0, .int .i64 0, .int .i64 0, .int .i64 0, .int .i64 0, .int .i64 0, .int .i64 0, .slice none 0 0, .slice none 0 0] 34)).heap[W1.drew.heap.size]? = some (.cells #[.int .i64 0, .int .i64 0, .slice none 0 0, .int .i64 0, .int .i64 0, .int .i64 0, .int .i64 0, .int .i64 0, .int .i64 0, .int .i64 0, .int .i64 0, .int .i64 0, .int .i64 0, .int .i64 0, .int .i64 0, .int .i64 0, .int .i64 0, .int .i64 0, .int .i64 0, .int .i64 0, .slice none 0 0, .slice none 0 0] 34 (0, 0)) := heap_alloc_last W1.drew _
      refine wpAnyH_ready (rs := [2]) (by kernel_rfl) (by simp) ?_
      refine AllReadyH.cons rfl (fun K hK => ?_) AllReadyH.nil
      go_simp
      go_at_call 17
      refine (HLA.out _).mono ?_
      rintro e wl ⟨rfl, hbl⟩
      have HBl : Below W1.heap.size W1 wl := Below.trans HBA0 (Below.mono hbl (Below.size HBA0))
      dsimp only
      refine hK.out _ _ HBl (fun _ => ?_)
      clear hK K
      (try simp only [Act.put, List.setIfInBounds_toArray, List.set_cons_zero, List.set_cons_succ])
      have rowB0 : wl.heap[W1.drew.heap.size]? = some (.cells #[.int .i64 0, .int .i64 0, .slice none 0 0, .int .i64 0, .int .i64 0, .int .i64 0, .int .i64 0, .int .i64 0, .int .i64 0, .int .i64 0, .int .i64 0, .int .i64 0, .int .i64 0, .int .i64 0, .int .i64 0, .int .i64 0, .int .i64 0, .int .i64 0, .int .i64 0, .int .i64 0, .slice none 0 0, .slice none 0 0] 34 (0, 0)) := (Below.block hbl _ (lt_of_block rowA)).trans rowA
      refine wpAnyH_take (i := 3) (v := ?_) rfl (by kernel_rfl) (by kernel_rfl) (by kernel_rfl) (fun _ _ _ h => h) (Or.inl ⟨by rfl, ?_⟩) (by assumption) ?_
      rotate_left
      · (intro W hSW; go_simp; try (with_reducible rfl))
      (try simp only [List.getElem_toArray, List.getElem_cons_succ, List.getElem_cons_zero])
      (try simp only [Act.put, List.setIfInBounds_toArray, List.set_cons_zero, List.set_cons_succ])
      refine wpAnyH_take (i := 4) (v := .agg (frCells f).toArray) rfl (by kernel_rfl) (by kernel_rfl) (by kernel_rfl) (fun _ _ _ h => h) (yieldsIf_load_mid (by rfl) 45 _ rfl fb (tp * 14) rfl (frCells f) _ HRF.out Tryd.underlying45 rfl hfrl) (by assumption) ?_
      (try simp only [List.getElem_toArray, List.getElem_cons_succ, List.getElem_cons_zero])
      (try simp only [Act.put, List.setIfInBounds_toArray, List.set_cons_zero, List.set_cons_succ])
      refine wpAnyH_ready (rs := [5]) (by kernel_rfl) (by simp) ?_
      refine AllReadyH.cons rfl (fun K hK => ?_) AllReadyH.nil
      refine wp_build_frame (.tmp 24) rfl f h12 rfl ?_
      have hbb0 : Below wl.heap.size wl (wl.alloc (.cells (frCells f).toArray 45)) := (Below.refl _ _).alloc (Nat.le_refl _) _
      have rowF0 : (wl.alloc (.cells (frCells f).toArray 45)).heap[wl.heap.size]? = some (.cells (frCells f).toArray 45 (0, 0)) := heap_alloc_last _ _
      have HGF0 : W1.heap.size ≤ wl.heap.size := Below.size HBl
      obtain ⟨GF, hGF⟩ : ∃ GF, GF = wl.heap.size := ⟨_, rfl⟩
      obtain ⟨wb, hwb⟩ : ∃ wb, wb = (wl.alloc (.cells (frCells f).toArray 45)) := ⟨_, rfl⟩
      rw [← hGF] at rowF0 HGF0
      rw [← hwb] at rowF0 hbb0
      have hbb := hbb0
      have rowF := rowF0
      have HGF : Hid (W1.heap.size ≤ GF) := HGF0
      clear hbb0 rowF0 HGF0
      rw [← hGF, ← hwb]
      clear hGF hwb
      have HBb : Below W1.heap.size W1 wb := Below.trans HBl (Below.mono hbb (Below.size HBl))
      (try dsimp only)
      refine hK.out _ _ HBb (fun _ => ?_)
      clear hK K
      (try simp only [Act.put, List.setIfInBounds_toArray])
      have rowB1 : wb.heap[W1.drew.heap.size]? = some (.cells #[.int .i64 0, .int .i64 0, .slice none 0 0, .int .i64 0, .int .i64 0, .int .i64 0, .int .i64 0, .int .i64 0, .int .i64 0, .int .i64 0, .int .i64 0, .int .i64 0, .int .i64 0, .int .i64 0, .int .i64 0, .int .i64 0, .int .i64 0, .int .i64 0, .int .i64 0, .int .i64 0, .slice none 0 0, .slice none 0 0] 34 (0, 0)) := (Below.block hbb _ (lt_of_block rowB0)).trans rowB0
      refine wpAnyH_take (i := 10) (v := .agg (stCells (oneS s f) (.slice (some ⟨GF, 0, none⟩) 1 1) (.slice none 0 0) (.slice none 0 0)).toArray) rfl (by kernel_rfl) (by kernel_rfl) (by kernel_rfl) (fun _ _ _ h => h) (yieldsIf_build (by rfl) _ _ rfl _ (by simpa [Act.eval, Act.put] using HBO.out GF)) (by assumption) ?_
      (try simp only [List.getElem_toArray, List.getElem_cons_succ, List.getElem_cons_zero])
      (try simp only [Act.put, List.setIfInBounds_toArray, List.set_cons_zero, List.set_cons_succ])
      refine wpAnyH_ready (rs := [11]) (by kernel_rfl) (by simp) ?_
      refine AllReadyH.cons rfl (fun K hK => ?_) AllReadyH.nil
      go_simp
      go_at_call 16
      refine (HFAR.out _ GF (HB1.out.trans (Below.mono HBb HB1.out.size)) rowF).mono ?_
      rintro e wf hPf
      obtain ⟨csf, S, T, X, rfl, f1, f2, f3, hBk, hFX, hSt, hbf⟩ := hPf
      have HBf : Below W1.heap.size W1 wf := Below.trans HBb (Below.mono hbf (Below.size HBb))
      dsimp only
      refine hK.out _ _ HBf (fun _ => ?_)
      clear hK K
      (try simp only [Act.put, List.setIfInBounds_toArray, List.set_cons_zero, List.set_cons_succ])
      have rowF := (Below.block hbf _ (lt_of_block rowF)).trans rowF
      have rowB2 : wf.heap[W1.drew.heap.size]? = some (.cells #[.int .i64 0, .int .i64 0, .slice none 0 0, .int .i64 0, .int .i64 0, .int .i64 0, .int .i64 0, .int .i64 0, .int .i64 0, .int .i64 0, .int .i64 0, .int .i64 0, .int .i64 0, .int .i64 0, .int .i64 0, .int .i64 0, .int .i64 0, .int .i64 0, .int .i64 0, .int .i64 0, .slice none 0 0, .slice none 0 0] 34 (0, 0)) := (Below.block hbf _ (lt_of_block rowB1)).trans rowB1
      refine wpAnyH_ready (rs := [13]) (by kernel_rfl) (by simp) ?_
      refine AllReadyH.cons rfl (fun K hK => ?_) AllReadyH.nil
      refine wp_store_row 34 _ _ rfl (W1.drew.heap.size) csf rfl rfl 34 #[.int .i64 0, .int .i64 0, .slice none 0 0, .int .i64 0, .int .i64 0, .int .i64 0, .int .i64 0, .int .i64 0, .int .i64 0, .int .i64 0, .int .i64 0, .int .i64 0, .int .i64 0, .int .i64 0, .int .i64 0, .int .i64 0, .int .i64 0, .int .i64 0, .int .i64 0, .int .i64 0, .slice none 0 0, .slice none 0 0] rowB2 f1 f2 f3 ?_
      have BN : Below W1.heap.size W1 (World.setRow wf (W1.drew.heap.size) csf) := belowSR HBf (Below.size hHeld) _
      refine hK.out _ _ BN (fun _ => ?_)
      clear hK K
      (try simp only [Act.put, List.setIfInBounds_toArray])
      refine wpAnyH_done (by kernel_rfl) ?_ _
      go_wp2_with fail
      go_meet
      exact ⟨_, csf, S, T, X, rfl, setRow_heap _ _ _ _ _ _ rowB2, f1, hBk, hFX, (StIn.row hSt (fun h => h.elim (fun e => row_ne rowF rowB2 (by decide) e.symm) (fun e => by first | (have := lt_of_block rowB1; omega) | (have := lt_of_block rowA; omega))) csf).val, (by first | exact (Below.size hHeld) | exact Nat.le_refl _), BN⟩
  case rest =>
    obtain ⟨Gx, csx, S, T, X, rfl, rowG, f1, hBk, hFX, hSt, hGx, hbc⟩ := hcut
    obtain ⟨u, c, hF, hXe⟩ := hFX
    obtain ⟨hlift, g', hg'⟩ := FarTo.lift HR.out hk hBk hF s fs f HONE.out rfl
    rw [lft_one HSF.out.2.1 HSF.out.1] at hlift
    obtain ⟨g2, ho2, hu0, -⟩ := FarTo.why HR.out hk (flowOk_of HR.out (List.getElem_mem hk)) hBk hF f HONE.out rfl
    have HLIFT : Hid (FarTo P P[k] S T (oneS s f) u) := hF
    have HU : Hid (u.status = 0 ∧ u.frames = [g'] ∧ 0 ≤ u.fuel ∧ u.fuel ≤ 10000) := by have := (mayB_iff _).1 ho2.inv.may; exact ⟨hu0, hg', this.2.2.1, this.2.2.2.1⟩
    have HSFU : Hid (0 ≤ s.fuel ∧ s.fuel ≤ 10000) := by have := (mayB_iff _).1 HI.out.may; exact ⟨this.2.2.1, this.2.2.2.1⟩
    have HBK : Hid (BlkOk P[k] S T) := hBk
    have hXf : X.frames = [] ++ [g'] := by rw [hXe]; exact hg'
    obtain ⟨fbx, offx, hlx, hrx, h12x⟩ := lastE_val hSt hXf
    simp only [List.length_nil, Nat.zero_mul, Nat.add_zero] at hlx hrx
    have HLX : Hid (∀ W, Calls Tryd.prog 17 #[.agg csx] W fun e w' => e = .returned (.pointer (some ⟨fbx, offx, none⟩)) ∧ Below W.heap.size W w') := hlx
    obtain ⟨hmx, hmm⟩ := hSt.memE
    have hfx := hSt.atE.2
    have eXm : X.mem = u.mem := by rw [hXe]
    have eXf : X.fuel = u.fuel := by rw [hXe]
    rw [eXm] at hmx hmm
    rw [eXf] at hfx
    have HX19 : Hid (csx[19]? = some (.int .i64 u.fuel)) := hfx
    have HMX : Hid (∀ j v, (i64s u.mem)[j]? = some v → csx.toList[3 + j]? = some v) := hmm
    have cx19 : wc.cell? ⟨Gx, 19, none⟩ = some (.int .i64 u.fuel) := by rw [cell_of_row _ _ _ _ _ _ rowG]; exact hfx
    have HBW : Hid (Below w.heap.size w wc) := HB1.out.trans (hbc.mono HB1.out.size)
    have HO : Hid (OutAt wc w.heap.size (w.heap.size + 1) s (.slice (some ⟨fb, 0, none⟩) (tp + 1) cap) ev av) := HOUT.out.below hbc
    have r3c := (hbc.block _ (lt_of_block r31)).trans r31
    have r4c := (hbc.block _ (lt_of_block r41)).trans r41
    have c19c := keeps_below hbc _ _ c19
    have hGz : Gx < wc.heap.size := lt_of_block rowG
    have hsz1 : w.heap.size + 1 < wc.heap.size := lt_of_block r3c
    obtain ⟨kk, -, -, hkf⟩ := hlift.walk (fun n hn => run_frames (runInv_walk HR.out n HI.out) hn) HSF.out.1 HSFU.out.1
    have hkf : u.fuel = s.fuel - kk := hkf
    have hsub : IntKind.i64.wrap (s.fuel - u.fuel) = s.fuel - u.fuel := wrap_fits _ (by omega) (by have := HU.out; have := HSFU.out; omega)
    have HKF : Hid (u.fuel = s.fuel - kk) := hkf
    clear hkf
    have HRX : Hid (∀ W, Below wc.heap.size wc W → W.rangeAt fbx offx (frCells g')) := fun W hb j v hv => keeps_below hb _ _ (hrx j v hv)
    have hfxl : (Tryd.prog.info? 45).map (·.size) = some (frCells g').length := by rw [frCells_length g' h12x]; exact infoFr
    have hfxa : (Tryd.prog.info? 45).map (·.size) = some (frCells g').toArray.size := by rw [List.size_toArray]; exact hfxl
    have hfxo : (frCells g').toArray.all (·.oneCell') = true := by rw [Array.all_eq_true_iff_forall_mem]; intro v hv; exact frCells_one _ v (by simpa using hv)
    have hmxl : (Tryd.prog.info? 32).map (·.size) = some (i64s u.mem).length := by rw [show (i64s u.mem).length = 16 by simp [i64s, hmx]]; exact infoM16
    have hmxa : (Tryd.prog.info? 32).map (·.size) = some (i64s u.mem).toArray.size := by rw [List.size_toArray]; exact hmxl
    have hmxo : (i64s u.mem).toArray.all (·.oneCell') = true := by rw [Array.all_eq_true_iff_forall_mem]; intro v hv; obtain ⟨z, -, rfl⟩ := List.mem_map.1 (show v ∈ (u.mem.map (Value.int .i64)) by simpa [i64s] using hv); rfl
    have HX12 : Hid (g'.regs.length = 12 ∧ u.mem.length = 16) := ⟨h12x, hmx⟩
    clear hlx hrx hmm hfx hSt hF hXe hXf hlift hg' ho2 hu0 hBk eXm eXf hbc HOUT r31 r41 k21 c19 HFAR HBO HMM HF19
    go_upto_region 6 with fail
    clear hsub
    have hR1 : wc.drew.heap[Gx]? = some (.cells csx 34 (0, 0)) := rowG
    refine wp_region_late (S0 := fun W => Below wc.heap.size wc W) (S1 := fun W => W.heap[Gx]? = some (.cells csx 34 (0, 0))) 11 (by kernel_rfl) ((Below.refl _ _).drew) (fun hHeld => ?_)
    show wpAnyL _ _ _ _ _ _ _ 16 _ _ _
    refine wpAnyL_take (i := 0) (v := .agg cs1.toList.toArray) rfl (by kernel_rfl) (by kernel_rfl) (by kernel_rfl) (fun _ _ _ h => h) (yieldsIf_load_mid (by rfl) 34 _ rfl _ 0 rfl cs1.toList _ (fun W hSW j v hv => by rw [cell_of_row _ _ _ _ _ _ ((hSW.block _ hsz1).trans r3c)]; simpa using hv) Tryd.underlying34 rfl (by simpa using a1)) hHeld hR1 (by kernel_rfl) ?_
    (try simp only [List.getElem_toArray, List.getElem_cons_zero])
    (try simp only [Act.put, List.setIfInBounds_toArray, List.set_cons_zero, List.set_cons_succ])
    simp only [Array.toArray_toList]
    refine wpAnyL_take (i := 2) (v := .agg csx.toList.toArray) rfl (by kernel_rfl) (by kernel_rfl) (by kernel_rfl) (fun _ _ _ h => h) (yieldsIf_load_mid (by rfl) 34 _ rfl _ 0 rfl csx.toList _ (fun W hSW j v hv => by rw [cell_of_row _ _ _ _ _ _ ((hSW.block _ hGz).trans rowG)]; simpa using hv) Tryd.underlying34 rfl (by simpa using f1)) hHeld hR1 (by kernel_rfl) ?_
    (try simp only [List.getElem_toArray, List.getElem_cons_succ, List.getElem_cons_zero])
    (try simp only [Act.put, List.setIfInBounds_toArray, List.set_cons_zero, List.set_cons_succ])
    simp only [Array.toArray_toList]
    refine wpAnyL_pure (i := 6) (v := ?_) rfl (by kernel_rfl) (by kernel_rfl) (by kernel_rfl) (fun _ _ _ h => h) (Or.inl ⟨by rfl, ?_⟩) ⟨hR1, Or.inr hHeld⟩ (by decide) ?_
    rotate_left
    · (intro W hSW; go_simp; try (with_reducible rfl))
    (try simp only [List.getElem_toArray, List.getElem_cons_succ, List.getElem_cons_zero])
    (try simp only [Act.put, List.setIfInBounds_toArray, List.set_cons_zero, List.set_cons_succ])
    refine wpAnyL_pure (i := 7) (v := .agg (i64s u.mem).toArray) rfl (by kernel_rfl) (by kernel_rfl) (by kernel_rfl) (fun _ _ _ h => h) (yieldsIf_load_mid (by rfl) 32 _ rfl _ 3 rfl (i64s u.mem) _ (fun W hSW j v hv => by rw [cell_of_row _ _ _ _ _ _ hSW]; simpa using HMX.out j v hv) Tryd.underlying32 rfl hmxl) ⟨hR1, Or.inr hHeld⟩ (by decide) ?_
    (try simp only [List.getElem_toArray, List.getElem_cons_succ, List.getElem_cons_zero])
    (try simp only [Act.put, List.setIfInBounds_toArray, List.set_cons_zero, List.set_cons_succ])
    refine wpAnyL_pure (i := 8) (v := ?_) rfl (by kernel_rfl) (by kernel_rfl) (by kernel_rfl) (fun _ _ _ h => h) (Or.inl ⟨by rfl, ?_⟩) ⟨hR1, Or.inr hHeld⟩ (by decide) ?_
    rotate_left
    · (intro W hSW; go_simp; try (with_reducible rfl))
    (try simp only [List.getElem_toArray, List.getElem_cons_succ, List.getElem_cons_zero])
    (try simp only [Act.put, List.setIfInBounds_toArray, List.set_cons_zero, List.set_cons_succ])
    refine wpAnyL_pure (i := 9) (v := ?_) rfl (by kernel_rfl) (by kernel_rfl) (by kernel_rfl) (fun _ _ _ h => h) (Or.inl ⟨by rfl, ?_⟩) ⟨hR1, Or.inr hHeld⟩ (by decide) ?_
    rotate_left
    · (intro W hSW; have zz : W.cell? ⟨Gx, 19, none⟩ = some (.int .i64 u.fuel) := (by rw [cell_of_row _ _ _ _ _ _ hSW]; exact HX19.out); go_simp; try (with_reducible rfl))
    (try simp only [List.getElem_toArray, List.getElem_cons_succ, List.getElem_cons_zero])
    (try simp only [Act.put, List.setIfInBounds_toArray, List.set_cons_zero, List.set_cons_succ])
    refine wpAnyL_one (i := 1) (by kernel_rfl) rfl (fun K hK => ?_)
    go_simp
    go_at_call 17
    refine (HLA.out _).mono ?_
    rintro e wd ⟨rfl, hbd⟩
    have HBDwd : Below wc.heap.size wc wd := Below.trans hHeld (Below.mono hbd (Below.size hHeld))
    have hR2 : wd.heap[Gx]? = some (.cells csx 34 (0, 0)) := (Below.block HBDwd _ hGz).trans rowG
    dsimp only
    refine hK.out _ _ ⟨hR2, Or.inr HBDwd⟩ ?_
    clear hK K hbd hHeld hR1
    have hHeld := HBDwd
    have hR1 := hR2
    clear hR2
    (try simp only [Act.put, List.setIfInBounds_toArray, List.set_cons_zero, List.set_cons_succ])
    refine wpAnyL_one (i := 3) (by kernel_rfl) rfl (fun K hK => ?_)
    go_simp
    go_at_call 17
    refine (HLX.out _).mono ?_
    rintro e wd2 ⟨rfl, hbd⟩
    have HBDwd2 : Below wc.heap.size wc wd2 := Below.trans hHeld (Below.mono hbd (Below.size hHeld))
    have hR2 : wd2.heap[Gx]? = some (.cells csx 34 (0, 0)) := (Below.block HBDwd2 _ hGz).trans rowG
    dsimp only
    refine hK.out _ _ ⟨hR2, Or.inr HBDwd2⟩ ?_
    clear hK K hbd hHeld hR1
    have hHeld := HBDwd2
    have hR1 := hR2
    clear hR2
    (try simp only [Act.put, List.setIfInBounds_toArray, List.set_cons_zero, List.set_cons_succ])
    refine wpAnyL_take (i := 4) (v := ?_) rfl (by kernel_rfl) (by kernel_rfl) (by kernel_rfl) (fun _ _ _ h => h) (Or.inl ⟨by rfl, ?_⟩) hHeld hR1 (by kernel_rfl) ?_
    rotate_left
    · (intro W hSW; go_simp; try (with_reducible rfl))
    (try simp only [List.getElem_toArray, List.getElem_cons_succ, List.getElem_cons_zero])
    (try simp only [Act.put, List.setIfInBounds_toArray, List.set_cons_zero, List.set_cons_succ])
    refine wpAnyL_take (i := 5) (v := .agg (frCells g').toArray) rfl (by kernel_rfl) (by kernel_rfl) (by kernel_rfl) (fun _ _ _ h => h) (yieldsIf_load_mid (by rfl) 45 _ rfl fbx offx rfl (frCells g') _ HRX.out Tryd.underlying45 rfl hfxl) hHeld hR1 (by kernel_rfl) ?_
    (try simp only [List.getElem_toArray, List.getElem_cons_succ, List.getElem_cons_zero])
    (try simp only [Act.put, List.setIfInBounds_toArray, List.set_cons_zero, List.set_cons_succ])
    refine wpAnyL_take (i := 10) (v := ?_) rfl (by kernel_rfl) (by kernel_rfl) (by kernel_rfl) (fun _ _ _ h => h) (Or.inl ⟨by rfl, ?_⟩) hHeld hR1 (by kernel_rfl) ?_
    rotate_left
    · (intro W hSW; go_simp; try (with_reducible rfl))
    (try simp only [List.getElem_toArray, List.getElem_cons_succ, List.getElem_cons_zero])
    (try simp only [Act.put, List.setIfInBounds_toArray, List.set_cons_zero, List.set_cons_succ])
    have HO2 : Hid (OutAt wd2 w.heap.size (w.heap.size + 1) s (.slice (some ⟨fb, 0, none⟩) (tp + 1) cap) ev av) := HO.out.below HBDwd2
    have hft : s.frames[tp]? = some f := by rw [HSF.out.2.1, ← HTP.out]; simp
    obtain ⟨o1, b1⟩ := HO2.out.frAll tp hft g' HX12.out.1
    obtain ⟨o2, b2⟩ := o1.memAll u.mem HX12.out.2
    obtain ⟨o3, b3⟩ := o2.fuelTo u.fuel
    have hGw : Gx < wd2.heap.size := lt_of_block hR1
    have hR2 : (wd2.setCells fb (tp * 14) (frCells g')).heap[Gx]? = some (.cells csx 34 (0, 0)) := ((grown_setCells fb (frCells g') (tp * 14) wd2).block Gx hGw (by have := HFBL.out; intro e; have := Option.some.inj e; omega)).trans hR1
    have hR3 : ((wd2.setCells fb (tp * 14) (frCells g')).setCells (w.heap.size + 1) 3 (i64s u.mem)).heap[Gx]? = some (.cells csx 34 (0, 0)) := ((grown_setCells (w.heap.size + 1) (i64s u.mem) 3 _).block Gx (lt_of_block hR2) (by have := HZ1.out; intro e; have := Option.some.inj e; omega)).trans hR2
    have th11 : wd2.there fb (tp * 14) (frCells g').toArray.size := by (have e14 : (frCells g').toArray.size = 14 := by rw [List.size_toArray]; exact frCells_length g' HX12.out.1); rw [e14]; exact HO2.out.there hft 0 14 (by omega)
    have th13 : (wd2.setCells fb (tp * 14) (frCells g')).there (w.heap.size + 1) 3 (i64s u.mem).toArray.size := by (have e16 : (i64s u.mem).toArray.size = 16 := by simp [i64s, HX12.out.2]); rw [e16]; exact o1.thereG 3 16 (by omega)
    refine wpAnyL_one (i := 11) (by kernel_rfl) rfl (fun K hK => ?_)
    refine wp_store_mid 45 _ _ rfl fb (tp * 14) (frCells g').toArray rfl rfl th11 hfxa hfxo ?_
    refine hK.out _ _ ⟨hR2, Or.inl (by kernel_rfl)⟩ ?_
    clear hK K hR1 hHeld
    have hR1 := hR2
    simp only []
    (try simp only [Act.put, List.setIfInBounds_toArray])
    refine wpAnyL_pure (i := 12) (v := ?_) rfl (by kernel_rfl) (by kernel_rfl) (by kernel_rfl) (fun _ _ _ h => h) (Or.inl ⟨by rfl, ?_⟩) ⟨hR1, Or.inl (by kernel_rfl)⟩ (by decide) ?_
    rotate_left
    · (intro W hSW; go_simp; try (with_reducible rfl))
    (try simp only [List.getElem_toArray, List.getElem_cons_succ, List.getElem_cons_zero])
    (try simp only [Act.put, List.setIfInBounds_toArray, List.set_cons_zero, List.set_cons_succ])
    refine wpAnyL_one (i := 13) (by kernel_rfl) rfl (fun K hK => ?_)
    refine wp_store_mid 32 _ _ rfl (w.heap.size + 1) 3 (i64s u.mem).toArray rfl rfl th13 hmxa hmxo ?_
    refine hK.out _ _ ⟨hR3, Or.inl (by kernel_rfl)⟩ ?_
    clear hK K hR1 hR2
    have hR1 := hR3
    simp only []
    (try simp only [Act.put, List.setIfInBounds_toArray])
    refine wpAnyL_pure (i := 14) (v := ?_) rfl (by kernel_rfl) (by kernel_rfl) (by kernel_rfl) (fun _ _ _ h => h) (Or.inl ⟨by rfl, ?_⟩) ⟨hR1, Or.inl (by kernel_rfl)⟩ (by decide) ?_
    rotate_left
    · (intro W hSW; go_simp; try (with_reducible rfl))
    (try simp only [List.getElem_toArray, List.getElem_cons_succ, List.getElem_cons_zero])
    (try simp only [Act.put, List.setIfInBounds_toArray, List.set_cons_zero, List.set_cons_succ])
    have k19 : ((wd2.setCells fb (tp * 14) (frCells g')).setCells (w.heap.size + 1) 3 (i64s u.mem)).cell? ⟨w.heap.size + 1, 19, none⟩ = some (.int .i64 s.fuel) := by (rw [cell_of_row _ _ _ _ _ _ o2.cells]; have := stC_tail (S := { s with frames := s.frames.set tp g', mem := u.mem }) (.slice (some ⟨fb, 0, none⟩) (tp + 1) cap) ev av HX12.out.2 0; simpa using this)
    have z19 : ((wd2.setCells fb (tp * 14) (frCells g')).setCells (w.heap.size + 1) 3 (i64s u.mem)).frozen? ⟨w.heap.size + 1, 19, none⟩ = false := (o2.thereG 19 1 (by omega) 0 (by omega)).2
    have r4d : ((wd2.setCells fb (tp * 14) (frCells g')).setCells (w.heap.size + 1) 3 (i64s u.mem)).heap[w.heap.size + 1 + 1]? = some (.cells zeroStCells 34 (0, 0)) := ((grown_setCells (w.heap.size + 1) (i64s u.mem) 3 _).block _ (lt_of_block (((grown_setCells fb (frCells g') (tp * 14) wd2).block _ (lt_of_block ((Below.block HBDwd2 _ (lt_of_block r4c)).trans r4c)) HF2.out).trans ((Below.block HBDwd2 _ (lt_of_block r4c)).trans r4c))) (by intro e; have := Option.some.inj e; omega)).trans (((grown_setCells fb (frCells g') (tp * 14) wd2).block _ (lt_of_block ((Below.block HBDwd2 _ (lt_of_block r4c)).trans r4c)) HF2.out).trans ((Below.block HBDwd2 _ (lt_of_block r4c)).trans r4c))
    have HO3 : Hid _ := o3
    have HBV : Hid (Below w.heap.size w (((wd2.setCells fb (tp * 14) (frCells g')).setCells (w.heap.size + 1) 3 (i64s u.mem)).setCell ⟨w.heap.size + 1, 19, none⟩ (.int .i64 u.fuel))) := (HBW.out.trans (HBDwd2.mono HBW.out.size)).trans (b1.trans (b2.trans b3))
    have hR4 : (((wd2.setCells fb (tp * 14) (frCells g')).setCells (w.heap.size + 1) 3 (i64s u.mem)).setCell ⟨w.heap.size + 1, 19, none⟩ (.int .i64 u.fuel)).heap[Gx]? = some (.cells csx 34 (0, 0)) := ((grown_setCell _ (w.heap.size + 1) 19 _).block Gx (lt_of_block hR1) (by have := HZ1.out; intro e; have := Option.some.inj e; omega)).trans hR1
    have r4e : (((wd2.setCells fb (tp * 14) (frCells g')).setCells (w.heap.size + 1) 3 (i64s u.mem)).setCell ⟨w.heap.size + 1, 19, none⟩ (.int .i64 u.fuel)).heap[w.heap.size + 1 + 1]? = some (.cells zeroStCells 34 (0, 0)) := ((grown_setCell _ (w.heap.size + 1) 19 _).block _ (lt_of_block r4d) (by intro e; have := Option.some.inj e; omega)).trans r4d
    clear o1 o2 o3 b1 b2 b3 r4d th11 th13 hR3
    generalize ((wd2.setCells fb (tp * 14) (frCells g')).setCells (w.heap.size + 1) 3 (i64s u.mem)) = V2 at *
    refine wpAnyL_one (i := 15) (by kernel_rfl) rfl (fun K hK => ?_)
    go_simp
    refine hK.out _ _ ⟨hR4, Or.inl (by kernel_rfl)⟩ ?_
    clear hK K
    (try simp only [Act.put, List.setIfInBounds_toArray, List.set_cons_zero, List.set_cons_succ])
    refine wpAnyL_done (by kernel_rfl) ?_ _
    (try simp only [Act.put, List.setIfInBounds_toArray, List.set_cons_zero, List.set_cons_succ])
    clear k19 z19 hR1
    generalize V2.setCell ⟨w.heap.size + 1, 19, none⟩ (.int .i64 u.fuel) = V3 at *
    have hRe : ({ s with frames := s.frames.set tp g', mem := u.mem, fuel := u.fuel } : St) = lft s fs u := by
      unfold lft
      rw [HU.out.1, HU.out.2.1, ← HSF.out.1]
      congr 1
      rw [HSF.out.2.1, ← HTP.out, set_last]
    have hO4 := HO3.out
    rw [hRe] at hO4
    have r3e := hO4.cells
    obtain ⟨csz, hcsz, z1, z2, z3⟩ := hO4.at.val.cells
    obtain rfl := Value.agg.inj hcsz
    have HO6 : Hid (StP (V3.setRow (w.heap.size + 1 + 1) (stCells (lft s fs u) (.slice (some ⟨fb, 0, none⟩) (tp + 1) cap) ev av).toArray) w.heap.size (.agg (stCells (lft s fs u) (.slice (some ⟨fb, 0, none⟩) (tp + 1) cap) ev av).toArray) (lft s fs u)) := (hO4.other r4e (by omega) (fun a n cp e hn => by have h1 := HLOW.out a n cp e hn; have h2 := HZ0.out; omega) (stCells (lft s fs u) (.slice (some ⟨fb, 0, none⟩) (tp + 1) cap) ev av).toArray).stp
    clear hO4 hRe HO3 hcsz
    generalize (stCells (lft s fs u) (.slice (some ⟨fb, 0, none⟩) (tp + 1) cap) ev av).toArray = CZ at *
    go_wp2_with (first
      | (refine wpList_load_row rfl _ _ rfl _ rfl _ _ _ _ r3e Tryd.underlying34 rfl z1 ?_)
      | (refine wpList_store_row rfl _ _ _ rfl _ CZ rfl rfl _ _ r4e z1 z2 z3 ?_))
    try simp only [Exit.inBlock, Exit.then]
    exact bodyPost_ret (results_row_twoF rfl _ _ (w.heap.size + 1 + 1) 34 CZ (0, 0) _ rfl (setRow_heap _ _ _ _ _ _ r4e) Tryd.underlying34 rfl z1) rfl ⟨CZ, S, T, u, rfl, HBK.out, HLIFT.out, HO6.out, belowSR HBV.out (by omega) _⟩
end Go.Proofs.YtgdmdlkhnokieaaDoor
