/- Contracts of emit.last and emit.dataOf: what stands in the machine's data (P13.1) (written by gen/mkemit.py). -/
import Derived.Test.YteabbanjjdmjkaaDoorXEmitRun
import Derived.Test.YteabbanjjdmjkaaDoorXOutKit
namespace Go.Proofs.YteabbanjjdmjkaaDoor
open Go Go.RowKit

/-- The data of a machine that is entered. -/
def dataL (mem regs : List Int) (fuel pc : Int) : List Int := mem ++ (regs ++ (fuel :: pc :: List.replicate 34 0))
theorem dataL_len {mem regs : List Int} (fuel pc : Int) (h1 : mem.length = 16) (h2 : regs.length = 12) : (dataL mem regs fuel pc).length = 64 := by simp [dataL, h1, h2]
def zeroD : List Value := [.int .i64 0, .int .i64 0, .int .i64 0, .int .i64 0, .int .i64 0, .int .i64 0, .int .i64 0, .int .i64 0, .int .i64 0, .int .i64 0, .int .i64 0, .int .i64 0, .int .i64 0, .int .i64 0, .int .i64 0, .int .i64 0, .int .i64 0, .int .i64 0, .int .i64 0, .int .i64 0, .int .i64 0, .int .i64 0, .int .i64 0, .int .i64 0, .int .i64 0, .int .i64 0, .int .i64 0, .int .i64 0, .int .i64 0, .int .i64 0, .int .i64 0, .int .i64 0, .int .i64 0, .int .i64 0, .int .i64 0, .int .i64 0, .int .i64 0, .int .i64 0, .int .i64 0, .int .i64 0, .int .i64 0, .int .i64 0, .int .i64 0, .int .i64 0, .int .i64 0, .int .i64 0, .int .i64 0, .int .i64 0, .int .i64 0, .int .i64 0, .int .i64 0, .int .i64 0, .int .i64 0, .int .i64 0, .int .i64 0, .int .i64 0, .int .i64 0, .int .i64 0, .int .i64 0, .int .i64 0, .int .i64 0, .int .i64 0, .int .i64 0, .int .i64 0]
theorem zeroD_eq : zeroD = i64s (List.replicate 64 0) := rfl
theorem zeroD_len : zeroD.length = 64 := rfl
/-- The data, part by part. -/
theorem data_mem (mem : List Int) (h1 : mem.length = 16) : splice zeroD 0 (i64s mem) = i64s (mem ++ List.replicate 48 0) := by
  rw [zeroD_eq]
  unfold splice
  rw [i64s_append]
  simp [i64s, h1]
theorem data_regs (mem regs : List Int) (h1 : mem.length = 16) (h2 : regs.length = 12) : splice (i64s (mem ++ List.replicate 48 0)) 16 (i64s regs) = i64s (mem ++ (regs ++ List.replicate 36 0)) := by
  unfold splice
  rw [i64s_append, i64s_append, i64s_append]
  have e : (i64s mem).length = 16 := by simp [i64s, h1]
  rw [List.take_left' e, List.drop_append]
  simp [i64s, h1, h2]
theorem data_words (mem regs : List Int) (fuel pc : Int) (h1 : mem.length = 16) (h2 : regs.length = 12) : ((i64s (mem ++ (regs ++ List.replicate 36 0))).set 28 (.int .i64 fuel)).set 29 (.int .i64 pc) = i64s (dataL mem regs fuel pc) := by
  have e1 : (i64s mem).length = 16 := by simp [i64s, h1]
  have e2 : (i64s regs).length = 12 := by simp [i64s, h2]
  unfold dataL
  rw [i64s_append, i64s_append, i64s_append, i64s_append]
  rw [List.set_append_right _ _ (by omega), List.set_append_right _ _ (by omega), List.set_append_right _ _ (by omega), List.set_append_right _ _ (by omega), e1, e2]
  rfl

set_option maxRecDepth 100000 in
/-- emit.last: where the last frame lies. -/
theorem lastE_any (s : St) (fb off n cap : Nat) (ev av : Value) (w : World) (hc : n + 1 ≤ cap) (hcm : cap ≤ 9223372036854775807) :
    Calls Tryd.prog 33 #[.agg (stCells s (.slice (some ⟨fb, off, none⟩) (n + 1) cap) ev av).toArray] w fun e w' => e = .returned (.pointer (some ⟨fb, off + n * 14, none⟩)) ∧ Below w.heap.size w w' := by
  obtain ⟨m, hme⟩ : ∃ m : Nat, m = n + 1 := ⟨_, rfl⟩
  rw [← hme] at hc ⊢
  have hs : (m : Int) - 1 = n := by omega
  have hw : IntKind.i64.wrap ((m : Int) - 1) = n := by rw [hs]; exact wrap_fits _ (by omega) (by omega)
  have hnm : (n : Int) < m := by omega
  have k2 : (w.alloc (.cells (stCells s (.slice (some ⟨fb, off, none⟩) m cap) ev av).toArray 29)).cell? ⟨w.heap.size, 2, none⟩ = some (.slice (some ⟨fb, off, none⟩) m cap) := by rw [cell_of_row _ _ _ _ _ _ (heap_alloc_last w _)]; rfl
  have HB : Hid (Below w.heap.size w (w.alloc (.cells (stCells s (.slice (some ⟨fb, off, none⟩) m cap) ev av).toArray 29))) := (Below.refl _ _).alloc (Nat.le_refl _) _
  generalize hcs : (stCells s (.slice (some ⟨fb, off, none⟩) m cap) ev av).toArray = cs at *
  clear hme hcs
  go_enter Tryd.func33, Tryd.ntmps33
  go_upto_region 1 with fail
  generalize w.alloc (.cells cs 29) = W1 at *
  go_wp2
  go_ret
  exact ⟨by simp, HB.out⟩
theorem rowz {w : World} {g : Nat} {cs : List Value} {t : TypeId} {fr : Nat × Nat} (h : w.heap[g]? = some (.cells cs.toArray t fr)) (off : Nat) (l : List Value) (hl : ∀ j u, l[j]? = some u → cs[off + j]? = some u) (j : Nat) (u : Value) (hu : l[j]? = some u) : w.cell? ((⟨g, off, none⟩ : Addr).add j) = some u := by
  rw [Addr.add_mid, cell_of_row _ _ _ _ _ _ h]
  simpa using hl j u hu
theorem stE_mem (s : St) (fv ev av : Value) (j : Nat) (u : Value) (hu : (i64s s.mem)[j]? = some u) : (stCells s fv ev av)[3 + j]? = some u := by
  have hj : j < (i64s s.mem).length := (List.getElem?_eq_some_iff.1 hu).1
  rw [Nat.add_comm]
  show ((i64s s.mem) ++ [.int .i64 s.fuel, ev, av])[j]? = _
  rw [List.getElem?_append_left hj]; exact hu
theorem infoD64e : (Tryd.prog.info? 31).map (·.size) = some 64 := by kernel_rfl

set_option maxRecDepth 100000 in
set_option maxHeartbeats 4000000 in
theorem dataOf_any (s : St) (f : Fr) (fb off n cap : Nat) (ev av : Value) (w : World) (hm : s.mem.length = 16) (hr : f.regs.length = 12) (hc : n + 1 ≤ cap) (hcm : cap ≤ 9223372036854775807) (hfr : w.rangeAt fb (off + n * 14) (frCells f)) (hfb : fb < w.heap.size) :
    Calls Tryd.prog 43 #[.agg (stCells s (.slice (some ⟨fb, off, none⟩) (n + 1) cap) ev av).toArray] w fun e w' => e = .returned (.agg (i64s (dataL s.mem f.regs s.fuel f.pc)).toArray) ∧ Below w.heap.size w w' := by
  have hcl := stCells_length s (.slice (some ⟨fb, off, none⟩) (n + 1) cap) ev av hm
  have hsz : (Tryd.prog.info? 29).map (·.size) = some (stCells s (.slice (some ⟨fb, off, none⟩) (n + 1) cap) ev av).toArray.size := by rw [List.size_toArray, hcl]; exact infoSt
  have HLA : Hid (∀ W, Calls Tryd.prog 33 #[.agg (stCells s (.slice (some ⟨fb, off, none⟩) (n + 1) cap) ev av).toArray] W fun e w' => e = .returned (.pointer (some ⟨fb, off + n * 14, none⟩)) ∧ Below W.heap.size W w') := fun W => lastE_any s fb off n cap ev av W hc hcm
  have HMC : Hid (∀ j u, (i64s s.mem)[j]? = some u → (stCells s (.slice (some ⟨fb, off, none⟩) (n + 1) cap) ev av)[3 + j]? = some u) := fun j u hu => stE_mem s _ ev av j u hu
  have HFU : Hid ((stCells s (.slice (some ⟨fb, off, none⟩) (n + 1) cap) ev av)[19]? = some (.int .i64 s.fuel)) := stC_tail _ _ _ hm 0
  have HRG : Hid (∀ W, Below w.heap.size w W → ∀ j u, (i64s f.regs)[j]? = some u → W.cell? ((⟨fb, off + n * 14 + 2, none⟩ : Addr).add j) = some u) := fun W hW j u hu => by
    rw [Addr.add_mid]
    refine keeps_below hW _ _ ?_
    have := hfr (2 + j) u (by rw [Nat.add_comm]; exact hu)
    rw [Nat.add_assoc]; exact this
  have HPC : Hid (∀ W, Below w.heap.size w W → W.cell? ⟨fb, off + n * 14 + 1, none⟩ = some (.int .i64 f.pc)) := fun W hW => keeps_below hW _ _ (hfr 1 _ rfl)
  have HD : Hid (((i64s (s.mem ++ (f.regs ++ List.replicate 36 0))).set 28 (.int .i64 s.fuel)).set 29 (.int .i64 f.pc) = i64s (dataL s.mem f.regs s.fuel f.pc)) := data_words s.mem f.regs s.fuel f.pc hm hr
  have HS1 : Hid (splice zeroD 0 (i64s s.mem) = i64s (s.mem ++ List.replicate 48 0)) := data_mem s.mem hm
  have HS2 : Hid (splice (i64s (s.mem ++ List.replicate 48 0)) 16 (i64s f.regs) = i64s (s.mem ++ (f.regs ++ List.replicate 36 0))) := data_regs s.mem f.regs hm hr
  have hl1 : (i64s s.mem).length = 16 := by simp [i64s, hm]
  have hl2 : (i64s f.regs).length = 12 := by simp [i64s, hr]
  have o1 := i64s_one s.mem
  have o2 := i64s_one f.regs
  have hD2 : (i64s (s.mem ++ List.replicate 48 0)).length = 64 := by simp [i64s, hm]
  have hD3 : (i64s (s.mem ++ (f.regs ++ List.replicate 36 0))).length = 64 := by simp [i64s, hm, hr]
  have hD4 : (i64s (dataL s.mem f.regs s.fuel f.pc)).length = 64 := by simp [i64s, dataL, hm, hr]
  have oD : (i64s (dataL s.mem f.regs s.fuel f.pc)).toArray.all (·.oneCell') = true := by
    rw [Array.all_eq_true_iff_forall_mem]; intro u hu; exact i64s_one _ u (by simpa using hu)
  clear hfr hc
  generalize i64s s.mem = M at *
  generalize i64s f.regs = Rg at *
  generalize i64s (s.mem ++ List.replicate 48 0) = D2 at *
  generalize i64s (s.mem ++ (f.regs ++ List.replicate 36 0)) = D3 at *
  generalize i64s (dataL s.mem f.regs s.fuel f.pc) = D4 at *
  generalize stCells s (.slice (some ⟨fb, off, none⟩) (n + 1) cap) ev av = cs at *
  generalize s.fuel = fu at *
  generalize f.pc = pc at *
  generalize off + n * 14 = fo at *
  go_enter Tryd.func43, Tryd.ntmps43
  go_upto_region 2 with fail
  rw [show (#[.int .i64 0, .int .i64 0, .int .i64 0, .int .i64 0, .int .i64 0, .int .i64 0, .int .i64 0, .int .i64 0, .int .i64 0, .int .i64 0, .int .i64 0, .int .i64 0, .int .i64 0, .int .i64 0, .int .i64 0, .int .i64 0, .int .i64 0, .int .i64 0, .int .i64 0, .int .i64 0, .int .i64 0, .int .i64 0, .int .i64 0, .int .i64 0, .int .i64 0, .int .i64 0, .int .i64 0, .int .i64 0, .int .i64 0, .int .i64 0, .int .i64 0, .int .i64 0, .int .i64 0, .int .i64 0, .int .i64 0, .int .i64 0, .int .i64 0, .int .i64 0, .int .i64 0, .int .i64 0, .int .i64 0, .int .i64 0, .int .i64 0, .int .i64 0, .int .i64 0, .int .i64 0, .int .i64 0, .int .i64 0, .int .i64 0, .int .i64 0, .int .i64 0, .int .i64 0, .int .i64 0, .int .i64 0, .int .i64 0, .int .i64 0, .int .i64 0, .int .i64 0, .int .i64 0, .int .i64 0, .int .i64 0, .int .i64 0, .int .i64 0, .int .i64 0] : Array Value) = zeroD.toArray from rfl]
  have HB0 : Hid (Below w.heap.size w (((w.alloc (.cells cs.toArray 29)).alloc (.cells zeroD.toArray 31)).alloc (.cells zeroD.toArray 31))) := (((Below.refl _ _).alloc (Nat.le_refl _) _).alloc (by simp) _).alloc (by simp; omega) _
  have r0 : (((w.alloc (.cells cs.toArray 29)).alloc (.cells zeroD.toArray 31)).alloc (.cells zeroD.toArray 31)).heap[w.heap.size]? = some (.cells cs.toArray 29 (0, 0)) := heap_alloc_old _ _ (by simp; omega) |>.trans (heap_alloc2_old _ _ _)
  have r1 : (((w.alloc (.cells cs.toArray 29)).alloc (.cells zeroD.toArray 31)).alloc (.cells zeroD.toArray 31)).heap[w.heap.size + 1]? = some (.cells zeroD.toArray 31 (0, 0)) := heap_alloc_old _ _ (by simp) |>.trans (heap_alloc2_new _ _ _)
  have r2 : (((w.alloc (.cells cs.toArray 29)).alloc (.cells zeroD.toArray 31)).alloc (.cells zeroD.toArray 31)).heap[w.heap.size + 1 + 1]? = some (.cells zeroD.toArray 31 (0, 0)) := heap_alloc3_new _ _ _ _
  have HZ0 : Hid (w.heap.size + 1 + 1 < (((w.alloc (.cells cs.toArray 29)).alloc (.cells zeroD.toArray 31)).alloc (.cells zeroD.toArray 31)).heap.size) := by show _ < _; simp
  generalize (((w.alloc (.cells cs.toArray 29)).alloc (.cells zeroD.toArray 31)).alloc (.cells zeroD.toArray 31)) = W0 at *
  go_upto_region 3 with (first
    | (refine wpList_load_row rfl _ _ rfl _ rfl _ _ _ _ r0 Tryd.underlying29 rfl hsz ?_)
    | (go_at_call 33; refine (HLA.out _).mono ?_; rintro e w1 ⟨rfl, hb1⟩; have q0 := (hb1.block _ (lt_of_block r0)).trans r0; have q1 := (hb1.block _ (lt_of_block r1)).trans r1; have q2 := (hb1.block _ HZ0.out).trans r2; have HB1 : Hid (Below w.heap.size w w1) := HB0.out.trans (hb1.mono HB0.out.size); clear hb1 r0 r1 r2))
  go_region_law (refine step_copy_splice rfl (.tmp 7) (.tmp 9) 27 27 rfl 3 Tryd.underlying27 one_size (some ⟨w.heap.size + 1 + 1, 0, none⟩) (some ⟨w.heap.size, 3, none⟩) 64 64 16 16 (by simp [Act.eval, Act.put]) (by simp [Act.eval, Act.put]) (w.heap.size + 1 + 1) 0 zeroD 31 q2 M (by rw [hl1]; rfl) (fun _ => ⟨rfl, _, rfl, rowz q0 3 M HMC.out⟩) (by rw [hl1, zeroD_len]; omega) o1 (w.heap.size + 1 + 1) w1 (Below.refl _ _).drew (Nat.le_refl _) ?_; intro w2 hg2 hb2)
  have g2 : w2.heap[w.heap.size + 1 + 1]? = some (.cells D2.toArray 31 (0, 0)) := by rw [← HS1.out]; exact hg2.out
  have p0 := (hb2.block _ (show w.heap.size < w.heap.size + 1 + 1 by omega)).trans q0
  have p1 := (hb2.block _ (show w.heap.size + 1 < w.heap.size + 1 + 1 by omega)).trans q1
  have HB2 : Hid (Below w.heap.size w w2) := HB1.out.trans (hb2.mono (by omega))
  have HR2 : Hid (∀ j u, Rg[j]? = some u → w2.cell? ((⟨fb, fo + 2, none⟩ : Addr).add j) = some u) := HRG.out _ HB2.out
  clear hg2 hb2 q0 q1 q2
  go_upto_region 4 with fail
  go_region_law (refine step_copy_splice rfl (.tmp 11) (.tmp 15) 27 27 rfl 3 Tryd.underlying27 one_size (some ⟨w.heap.size + 1 + 1, 16, none⟩) (some ⟨fb, fo + 2, none⟩) 48 48 12 12 (by simp [Act.eval, Act.put]) (by simp [Act.eval, Act.put]) (w.heap.size + 1 + 1) 16 D2 31 g2 Rg (by rw [hl2]; rfl) (fun _ => ⟨rfl, _, rfl, HR2.out⟩) (by rw [hl2, hD2]; omega) o2 (w.heap.size + 1 + 1) w2 (Below.refl _ _).drew (Nat.le_refl _) ?_; intro w3 hg3 hb3)
  have g3 : w3.heap[w.heap.size + 1 + 1]? = some (.cells D3.toArray 31 (0, 0)) := by rw [← HS2.out]; exact hg3.out
  have s0 := (hb3.block _ (show w.heap.size < w.heap.size + 1 + 1 by omega)).trans p0
  have s1 := (hb3.block _ (show w.heap.size + 1 < w.heap.size + 1 + 1 by omega)).trans p1
  have HB3 : Hid (Below w.heap.size w w3) := HB2.out.trans (hb3.mono (by omega))
  have kf : w3.cell? ⟨w.heap.size, 19, none⟩ = some (.int .i64 fu) := by rw [cell_of_row _ _ _ _ _ _ s0]; simpa using HFU.out
  have kp : w3.cell? ⟨fb, fo + 1, none⟩ = some (.int .i64 pc) := HPC.out _ HB3.out
  clear hg3 hb3 p0 p1 g2
  go_upto_region 5 with fail
  obtain ⟨u28, k28⟩ : ∃ u, w3.cell? ⟨w.heap.size + 1 + 1, 28, none⟩ = some u := ⟨D3[28]'(by omega), by rw [cell_of_row _ _ _ _ _ _ g3]; simp [hD3]⟩
  have f28 : w3.frozen? ⟨w.heap.size + 1 + 1, 28, none⟩ = false := frozen_of_row _ _ _ _ _ g3
  have g4 : (w3.setCell ⟨w.heap.size + 1 + 1, 28, none⟩ (.int .i64 fu)).heap[w.heap.size + 1 + 1]? = some (.cells (D3.set 28 (.int .i64 fu)).toArray 31 (0, 0)) := by rw [heap_setCell_same _ _ _ _ _ _ g3, List.setIfInBounds_toArray]
  obtain ⟨u29, k29⟩ : ∃ u, (w3.setCell ⟨w.heap.size + 1 + 1, 28, none⟩ (.int .i64 fu)).cell? ⟨w.heap.size + 1 + 1, 29, none⟩ = some u := ⟨(D3.set 28 (.int .i64 fu))[29]'(by simp; omega), by rw [cell_of_row _ _ _ _ _ _ g4]; simp [hD3]⟩
  have f29 : (w3.setCell ⟨w.heap.size + 1 + 1, 28, none⟩ (.int .i64 fu)).frozen? ⟨w.heap.size + 1 + 1, 29, none⟩ = false := frozen_of_row _ _ _ _ _ g4
  have g5 : ((w3.setCell ⟨w.heap.size + 1 + 1, 28, none⟩ (.int .i64 fu)).setCell ⟨w.heap.size + 1 + 1, 29, none⟩ (.int .i64 pc)).heap[w.heap.size + 1 + 1]? = some (.cells D4.toArray 31 (0, 0)) := by rw [heap_setCell_same _ _ _ _ _ _ g4, List.setIfInBounds_toArray, HD.out]
  have s5 : ((w3.setCell ⟨w.heap.size + 1 + 1, 28, none⟩ (.int .i64 fu)).setCell ⟨w.heap.size + 1 + 1, 29, none⟩ (.int .i64 pc)).heap[w.heap.size + 1]? = some (.cells zeroD.toArray 31 (0, 0)) := ((heap_setCell_other _ _ _ _ (by simp)).trans (heap_setCell_other _ _ _ _ (by simp))).trans s1
  have HB4 : Hid (Below (w.heap.size + 1 + 1) w3 (w3.setCell ⟨w.heap.size + 1 + 1, 28, none⟩ (.int .i64 fu))) := by show Below _ _ _; exact (Below.refl (w.heap.size + 1 + 1) w3).setCell (by simp) _
  have HB5 : Hid (Below (w.heap.size + 1 + 1) w3 ((w3.setCell ⟨w.heap.size + 1 + 1, 28, none⟩ (.int .i64 fu)).setCell ⟨w.heap.size + 1 + 1, 29, none⟩ (.int .i64 pc))) := by show Below _ _ _; exact HB4.out.setCell (by simp) _
  refine wp_region_held_drew (S := fun W => Below (w.heap.size + 1 + 1) w3 W) (by kernel_rfl) ((Below.refl _ _).drew) (fun hHeld => ?_)
  show wpAnyH _ _ _ _ _ 10 _ _ _
  refine wpAnyH_take (i := 0) (v := ?_) rfl (by kernel_rfl) (by kernel_rfl) (by kernel_rfl) (fun _ _ _ h => h) (Or.inl ⟨by rfl, ?_⟩) (by first | exact hHeld | exact HB4.out.drew) ?_
  rotate_left
  · (intro W hSW; go_simp; try (with_reducible rfl))
  (try simp only [List.getElem_toArray, List.getElem_cons_zero])
  (try simp only [Act.put, List.setIfInBounds_toArray, List.set_cons_zero, List.set_cons_succ])
  refine wpAnyH_take (i := 1) (v := ?_) rfl (by kernel_rfl) (by kernel_rfl) (by kernel_rfl) (fun _ _ _ h => h) (Or.inl ⟨by rfl, ?_⟩) (by first | exact hHeld | exact HB4.out.drew) ?_
  rotate_left
  · (intro W hSW; have z0 := (World.cell?_of_block (hSW.block w.heap.size (by omega))).trans kf; go_simp; try (with_reducible rfl))
  (try simp only [List.getElem_toArray, List.getElem_cons_succ, List.getElem_cons_zero])
  (try simp only [Act.put, List.setIfInBounds_toArray, List.set_cons_zero, List.set_cons_succ])
  refine wpAnyH_take (i := 2) (v := ?_) rfl (by kernel_rfl) (by kernel_rfl) (by kernel_rfl) (fun _ _ _ h => h) (Or.inl ⟨by rfl, ?_⟩) (by first | exact hHeld | exact HB4.out.drew) ?_
  rotate_left
  · (intro W hSW; go_simp; try (with_reducible rfl))
  (try simp only [List.getElem_toArray, List.getElem_cons_succ, List.getElem_cons_zero])
  (try simp only [Act.put, List.setIfInBounds_toArray, List.set_cons_zero, List.set_cons_succ])
  refine wpAnyH_take (i := 3) (v := ?_) rfl (by kernel_rfl) (by kernel_rfl) (by kernel_rfl) (fun _ _ _ h => h) (Or.inl ⟨by rfl, ?_⟩) (by first | exact hHeld | exact HB4.out.drew) ?_
  rotate_left
  · (intro W hSW; go_simp; try (with_reducible rfl))
  (try simp only [List.getElem_toArray, List.getElem_cons_succ, List.getElem_cons_zero])
  (try simp only [Act.put, List.setIfInBounds_toArray, List.set_cons_zero, List.set_cons_succ])
  refine wpAnyH_take (i := 4) (v := ?_) rfl (by kernel_rfl) (by kernel_rfl) (by kernel_rfl) (fun _ _ _ h => h) (Or.inl ⟨by rfl, ?_⟩) (by first | exact hHeld | exact HB4.out.drew) ?_
  rotate_left
  · (intro W hSW; go_simp; try (with_reducible rfl))
  (try simp only [List.getElem_toArray, List.getElem_cons_succ, List.getElem_cons_zero])
  (try simp only [Act.put, List.setIfInBounds_toArray, List.set_cons_zero, List.set_cons_succ])
  refine wpAnyH_take (i := 5) (v := ?_) rfl (by kernel_rfl) (by kernel_rfl) (by kernel_rfl) (fun _ _ _ h => h) (Or.inl ⟨by rfl, ?_⟩) (by first | exact hHeld | exact HB4.out.drew) ?_
  rotate_left
  · (intro W hSW; have z0 := (World.cell?_of_block (hSW.block fb (by omega))).trans kp; go_simp; try (with_reducible rfl))
  (try simp only [List.getElem_toArray, List.getElem_cons_succ, List.getElem_cons_zero])
  (try simp only [Act.put, List.setIfInBounds_toArray, List.set_cons_zero, List.set_cons_succ])
  refine wpAnyH_take (i := 6) (v := ?_) rfl (by kernel_rfl) (by kernel_rfl) (by kernel_rfl) (fun _ _ _ h => h) (Or.inl ⟨by rfl, ?_⟩) (by first | exact hHeld | exact HB4.out.drew) ?_
  rotate_left
  · (intro W hSW; go_simp; try (with_reducible rfl))
  (try simp only [List.getElem_toArray, List.getElem_cons_succ, List.getElem_cons_zero])
  (try simp only [Act.put, List.setIfInBounds_toArray, List.set_cons_zero, List.set_cons_succ])
  refine wpAnyH_ready (rs := [7]) (by kernel_rfl) (by simp) ?_
  refine AllReadyH.cons rfl (fun K hK => ?_) AllReadyH.nil
  go_simp
  refine hK.out _ _ HB4.out.drew (fun _ => ?_)
  clear hK K
  (try simp only [Act.put, List.setIfInBounds_toArray, List.set_cons_zero, List.set_cons_succ])
  refine wpAnyH_take (i := 8) (v := ?_) rfl (by kernel_rfl) (by kernel_rfl) (by kernel_rfl) (fun _ _ _ h => h) (Or.inl ⟨by rfl, ?_⟩) (by first | exact hHeld | exact HB4.out.drew) ?_
  rotate_left
  · (intro W hSW; go_simp; try (with_reducible rfl))
  (try simp only [List.getElem_toArray, List.getElem_cons_succ, List.getElem_cons_zero])
  (try simp only [Act.put, List.setIfInBounds_toArray, List.set_cons_zero, List.set_cons_succ])
  refine wpAnyH_ready (rs := [9]) (by kernel_rfl) (by simp) ?_
  refine AllReadyH.cons rfl (fun K hK => ?_) AllReadyH.nil
  go_simp
  refine hK.out _ _ HB5.out.drew (fun _ => ?_)
  clear hK K
  (try simp only [Act.put, List.setIfInBounds_toArray, List.set_cons_zero, List.set_cons_succ])
  refine wpAnyH_done (by kernel_rfl) ?_ _
  (try simp only [Act.put])
  have i4 : (Tryd.prog.info? 31).map (·.size) = some D4.toArray.size := by rw [List.size_toArray, hD4]; exact infoD64e
  go_wp2_with (first
    | (refine wpList_load_row rfl _ _ rfl _ rfl _ _ _ _ g5 Tryd.underlying31 rfl i4 ?_)
    | (refine wpList_store_row rfl _ _ _ rfl _ D4.toArray rfl rfl _ _ s5 i4 (by rw [List.size_toArray, List.size_toArray, hD4, zeroD_len]) oD ?_))
  refine bodyPost_ret (results_cell_row rfl _ _ (w.heap.size + 1) 31 D4.toArray (0, 0) _ rfl (setRow_heap _ _ _ _ _ _ s5) Tryd.underlying31 rfl i4) rfl ⟨rfl, ?_⟩
  exact (belowSR (HB3.out.trans (HB5.out.mono (by omega))) (by omega) _).drew
end Go.Proofs.YteabbanjjdmjkaaDoor
