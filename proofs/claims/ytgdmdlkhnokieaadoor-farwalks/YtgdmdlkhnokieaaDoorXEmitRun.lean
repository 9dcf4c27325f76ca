/- Contract of emit.running: a state from which machine code may go. -/
import Derived.Test.YtgdmdlkhnokieaaDoorXSNextRef
import Derived.Test.YtgdmdlkhnokieaaDoorXEngWalkP
namespace Go.Proofs.YtgdmdlkhnokieaaDoor
open Go Go.RowKit

theorem belowSR {B g : Nat} {w0 w : World} (hb : Below B w0 w) (hBg : B ≤ g) (cs : Array Value) : Below B w0 (w.setRow g cs) := below_setRow hb hBg cs
/-- What is refused of a state: what Check refuses; 9: it does not run. -/
def runE (c : Int) (s : St) : Int := if c = 0 then (if s.status = 0 then 0 else 9) else c
theorem runE_bad {c : Int} (s : St) (h : ¬ c = 0) : runE c s = c := if_neg h
theorem runE_off {s : St} (h : ¬ s.status = 0) : runE 0 s = 9 := by unfold runE; rw [if_pos rfl, if_neg h]
theorem runE_zero {c : Int} {s : St} (h : runE c s = 0) : c = 0 ∧ s.status = 0 := by
  unfold runE at h
  by_cases hc : c = 0
  · rw [if_pos hc] at h
    by_cases hs : s.status = 0
    · exact ⟨hc, hs⟩
    · rw [if_neg hs] at h; omega
  · rw [if_neg hc] at h; exact absurd h hc

set_option maxRecDepth 100000 in
set_option maxHeartbeats 2000000 in
theorem running_badC (P : List Fn) (v sv : Value) (s : St) (c : Int) (w : World) (ht : TabOk w) (hc : CallOk w) (hv : ProgVal w v P) (hs : StVal w sv s) (hE : ∀ E, ProofAns P E → checkE E P s = c) (h0 : ¬ c = 0) :
    Calls Tryd.prog 15 #[.agg #[v], sv] w fun e w' => e = .returned (.tuple #[.agg zeroStCells, .int .i64 c]) ∧ Below w.heap.size w w' := by
  have hbx : ∀ o o' o'', Below w.heap.size w (((w.alloc o).alloc o').alloc o'') := fun o o' o'' => (((Below.refl _ _).alloc (Nat.le_refl _) _).alloc (by simp) _).alloc (by simp; omega) _
  have HC : Hid (∀ o o' o'', Calls Tryd.prog 8 #[.agg #[v], sv, .int .i64 0] (((w.alloc o).alloc o').alloc o'') fun e w' => e = .returned (.tuple #[.agg zeroStCells, .int .i64 c]) ∧ Below (((w.alloc o).alloc o').alloc o'').heap.size (((w.alloc o).alloc o').alloc o'') w') := fun o o' o'' =>
    walk_bad P v sv s 0 c _ (ht.below (hbx o o' o'')) (hc.below (hbx o o' o'')) (hv.keeps (keeps_below (hbx o o' o''))) (hs.keeps (keeps_below (hbx o o' o''))) hE h0
  obtain ⟨ao, n0, cap0, rfl⟩ := hv.shape
  obtain ⟨cs, rfl, hsz, hs2, -⟩ := hs.cells
  have HBX : Hid _ := hbx
  have hcb : (c == 0) = false := by simpa using h0
  clear ht hc hv hs hbx hE h0
  go_enter Tryd.func15, Tryd.ntmps15
  go_wp2_with (first
    | (refine wpList_load_row rfl _ _ rfl _ rfl _ _ _ _ (heap_alloc_old _ _ (by simp) |>.trans (heap_alloc2_new _ _ _)) Tryd.underlying34 rfl hsz ?_)
    | (go_at_call 8; refine (HC.out _ _ _).mono ?_; rintro e w1 ⟨rfl, hb1⟩; have h5 : w1.heap[w.heap.size + 1]? = some (.cells cs 34 (0, 0)) := (hb1.block _ (by simp)).trans (heap_alloc_old _ _ (by simp) |>.trans (heap_alloc2_new _ _ _)); have h6 : w1.heap[w.heap.size + 1 + 1]? = some (.cells zeroStCells 34 (0, 0)) := (hb1.block _ (by simp)).trans (heap_alloc3_new _ _ _ _); have HB1 : Hid (Below w.heap.size w w1) := (HBX.out _ _ _).trans (hb1.mono (by simp; omega)); have r5 := setRow_heap w1 (w.heap.size + 1) _ zeroStCells _ _ h5; have r6 := (setRow_other w1 (w.heap.size + 1) zeroStCells (w.heap.size + 1 + 1) (by omega)).trans h6; have HB2 : Hid (Below w.heap.size w (w1.setRow (w.heap.size + 1) zeroStCells)) := belowSR HB1.out (by omega) _; clear hb1)
    | (refine wpList_store_row rfl _ _ _ rfl _ zeroStCells rfl rfl _ _ h5 infoSt hs2.symm zeroSt_one ?_)
    | (refine wpList_load_row rfl _ _ rfl _ rfl _ _ _ _ r5 Tryd.underlying34 rfl infoSt ?_)
    | (refine wpList_store_row rfl _ _ _ rfl _ zeroStCells rfl rfl _ _ r6 infoSt rfl zeroSt_one ?_))
  try simp only [Exit.inBlock, Exit.then]
  exact bodyPost_ret (results_row_tmp rfl _ _ (w.heap.size + 1 + 1) 34 zeroStCells (0, 0) _ rfl (setRow_heap _ _ _ _ _ _ r6) Tryd.underlying34 rfl infoSt) rfl ⟨rfl, belowSR HB2.out (by omega) _⟩

/-- Walk of no step at a state that may be. -/
theorem walk_zero (P : List Fn) (v sv : Value) (s : St) (w : World) (ht : TabOk w) (hc : CallOk w) (hR : ProofAns P 0) (hm : mayB s = true) (hf : FOk P s.frames) (hv : ProgVal w v P) (hs : StVal w sv s) (he : s.events.length * 8 ≤ 140737488351232) :
    Calls Tryd.prog 8 #[.agg #[v], sv, .int .i64 0] w fun e w' => ∃ cs, e = .returned (.tuple #[.agg cs, .int .i64 0]) ∧ (Tryd.prog.info? 34).map (·.size) = some cs.size ∧ zeroStCells.size = cs.size ∧ cs.all (·.oneCell') = true ∧ StP w' w.heap.size (.agg cs) s ∧ Below w.heap.size w w' := by
  refine (walk_ownP P v sv s 0 w ht hc hR hv hs (fun i hi => (by cases (show i = 0 by omega); exact ⟨hm, hf⟩)) (by omega) (by omega)).mono ?_
  rintro e w' ⟨v', rfl, hst, hb⟩
  obtain ⟨cs, rfl, c1, c2, c3⟩ := hst.at.val.cells
  exact ⟨cs, rfl, c1, c2, c3, hst, hb⟩
theorem StP.setRow {w : World} {base r : Nat} {v : Value} {s : St} (h : StP w base v s) (hr : r < base) (cs : Array Value) : StP (w.setRow r cs) base v s := by
  obtain ⟨fv, ev, av, e, hm, hw, hf, he, ha, hl, hp⟩ := h
  exact ⟨fv, ev, av, e, hm, hw, own_setRow hf hr cs, own_setRow he hr cs, ints_moved ha hl (fun a u hb hu => (World.cell?_of_block (setRow_other _ _ _ _ (by omega))).trans hu), hl, hp⟩
theorem StP.status {w : World} {base : Nat} {cs : Array Value} {s : St} (h : StP w base (.agg cs) s) : cs[0]? = some (.int .i64 s.status) := by
  obtain ⟨fv, ev, av, e, -⟩ := h
  obtain rfl := Value.agg.inj e
  rfl

set_option maxRecDepth 100000 in
set_option maxHeartbeats 2000000 in
theorem running_off (P : List Fn) (v sv : Value) (s : St) (w : World) (ht : TabOk w) (hc : CallOk w) (hR : ProofAns P 0) (hm : mayB s = true) (hf : FOk P s.frames) (hv : ProgVal w v P) (hs : StVal w sv s) (he : s.events.length * 8 ≤ 140737488351232) (hst : ¬ s.status = 0) :
    Calls Tryd.prog 15 #[.agg #[v], sv] w fun e w' => e = .returned (.tuple #[.agg zeroStCells, .int .i64 9]) ∧ Below w.heap.size w w' := by
  have hbx : ∀ o o' o'', Below w.heap.size w (((w.alloc o).alloc o').alloc o'') := fun o o' o'' => (((Below.refl _ _).alloc (Nat.le_refl _) _).alloc (by simp) _).alloc (by simp; omega) _
  have HC : Hid (∀ o o' o'', Calls Tryd.prog 8 #[.agg #[v], sv, .int .i64 0] (((w.alloc o).alloc o').alloc o'') fun e w' => ∃ cs, e = .returned (.tuple #[.agg cs, .int .i64 0]) ∧ (Tryd.prog.info? 34).map (·.size) = some cs.size ∧ zeroStCells.size = cs.size ∧ cs.all (·.oneCell') = true ∧ StP w' (((w.alloc o).alloc o').alloc o'').heap.size (.agg cs) s ∧ Below (((w.alloc o).alloc o').alloc o'').heap.size (((w.alloc o).alloc o').alloc o'') w') := fun o o' o'' =>
    walk_zero P v sv s _ (ht.below (hbx o o' o'')) (hc.below (hbx o o' o'')) hR hm hf (hv.keeps (keeps_below (hbx o o' o''))) (hs.keeps (keeps_below (hbx o o' o''))) he
  obtain ⟨ao, n0, cap0, rfl⟩ := hv.shape
  obtain ⟨cs, rfl, hsz, hs2, -⟩ := hs.cells
  have HBX : Hid _ := hbx
  have hsb : (s.status != 0) = true := by simpa using hst
  clear ht hc hv hs hbx hR hm hf he hst
  go_enter Tryd.func15, Tryd.ntmps15
  go_wp2_with (first
    | (refine wpList_load_row rfl _ _ rfl _ rfl _ _ _ _ (heap_alloc_old _ _ (by simp) |>.trans (heap_alloc2_new _ _ _)) Tryd.underlying34 rfl hsz ?_)
    | (go_at_call 8; refine (HC.out _ _ _).mono ?_; rintro e w1 ⟨cs1, rfl, a1, a2, a3, hst1, hb1⟩; have h5 : w1.heap[w.heap.size + 1]? = some (.cells cs 34 (0, 0)) := (hb1.block _ (by simp)).trans (heap_alloc_old _ _ (by simp) |>.trans (heap_alloc2_new _ _ _)); have h6 : w1.heap[w.heap.size + 1 + 1]? = some (.cells zeroStCells 34 (0, 0)) := (hb1.block _ (by simp)).trans (heap_alloc3_new _ _ _ _); have HB1 : Hid (Below w.heap.size w w1) := (HBX.out _ _ _).trans (hb1.mono (by simp; omega)); have r5 := setRow_heap w1 (w.heap.size + 1) _ cs1 _ _ h5; have r6 := (setRow_other w1 (w.heap.size + 1) cs1 (w.heap.size + 1 + 1) (by omega)).trans h6; have HB2 : Hid (Below w.heap.size w (w1.setRow (w.heap.size + 1) cs1)) := belowSR HB1.out (by omega) _; have k0 : (w1.setRow (w.heap.size + 1) cs1).cell? ⟨w.heap.size + 1, 0, none⟩ = some (.int .i64 s.status) := (by rw [cell_of_row _ _ _ _ _ _ r5]; exact hst1.status); clear hb1 hst1)
    | (refine wpList_store_row rfl _ _ _ rfl _ cs1 rfl rfl _ _ h5 a1 (hs2.symm.trans a2) a3 ?_)
    | (refine wpList_build_store rfl _ _ rfl zeroStCells (by simpa using built_zero) rfl _ _ rfl _ rfl rfl _ _ r6 infoSt rfl zeroSt_one ?_)
    | (refine wpList_store_row rfl _ _ _ rfl _ zeroStCells rfl rfl _ _ r6 infoSt rfl zeroSt_one ?_))
  try simp only [Exit.inBlock, Exit.then]
  exact bodyPost_ret (results_row_tmp rfl _ _ (w.heap.size + 1 + 1) 34 zeroStCells (0, 0) _ rfl (setRow_heap _ _ _ _ _ _ r6) Tryd.underlying34 rfl infoSt) rfl ⟨rfl, belowSR HB2.out (by omega) _⟩

set_option maxRecDepth 100000 in
set_option maxHeartbeats 2000000 in
theorem running_ok (P : List Fn) (v sv : Value) (s : St) (w : World) (ht : TabOk w) (hc : CallOk w) (hR : ProofAns P 0) (hm : mayB s = true) (hf : FOk P s.frames) (hv : ProgVal w v P) (hs : StVal w sv s) (he : s.events.length * 8 ≤ 140737488351232) (hst : s.status = 0) :
    Calls Tryd.prog 15 #[.agg #[v], sv] w fun e w' => ∃ cs, e = .returned (.tuple #[.agg cs, .int .i64 0]) ∧ (Tryd.prog.info? 34).map (·.size) = some cs.size ∧ zeroStCells.size = cs.size ∧ cs.all (·.oneCell') = true ∧ StP w' w.heap.size (.agg cs) s ∧ Below w.heap.size w w' := by
  have hbx : ∀ o o' o'', Below w.heap.size w (((w.alloc o).alloc o').alloc o'') := fun o o' o'' => (((Below.refl _ _).alloc (Nat.le_refl _) _).alloc (by simp) _).alloc (by simp; omega) _
  have HC : Hid (∀ o o' o'', Calls Tryd.prog 8 #[.agg #[v], sv, .int .i64 0] (((w.alloc o).alloc o').alloc o'') fun e w' => ∃ cs, e = .returned (.tuple #[.agg cs, .int .i64 0]) ∧ (Tryd.prog.info? 34).map (·.size) = some cs.size ∧ zeroStCells.size = cs.size ∧ cs.all (·.oneCell') = true ∧ StP w' (((w.alloc o).alloc o').alloc o'').heap.size (.agg cs) s ∧ Below (((w.alloc o).alloc o').alloc o'').heap.size (((w.alloc o).alloc o').alloc o'') w') := fun o o' o'' =>
    walk_zero P v sv s _ (ht.below (hbx o o' o'')) (hc.below (hbx o o' o'')) hR hm hf (hv.keeps (keeps_below (hbx o o' o''))) (hs.keeps (keeps_below (hbx o o' o''))) he
  obtain ⟨ao, n0, cap0, rfl⟩ := hv.shape
  obtain ⟨cs, rfl, hsz, hs2, -⟩ := hs.cells
  have HBX : Hid _ := hbx
  clear ht hc hv hs hbx hR hm hf he
  go_enter Tryd.func15, Tryd.ntmps15
  go_wp2_with (first
    | (refine wpList_load_row rfl _ _ rfl _ rfl _ _ _ _ (heap_alloc_old _ _ (by simp) |>.trans (heap_alloc2_new _ _ _)) Tryd.underlying34 rfl hsz ?_)
    | (go_at_call 8; refine (HC.out _ _ _).mono ?_; rintro e w1 ⟨cs1, rfl, a1, a2, a3, hst1, hb1⟩; have h5 : w1.heap[w.heap.size + 1]? = some (.cells cs 34 (0, 0)) := (hb1.block _ (by simp)).trans (heap_alloc_old _ _ (by simp) |>.trans (heap_alloc2_new _ _ _)); have h6 : w1.heap[w.heap.size + 1 + 1]? = some (.cells zeroStCells 34 (0, 0)) := (hb1.block _ (by simp)).trans (heap_alloc3_new _ _ _ _); have HB1 : Hid (Below w.heap.size w w1) := (HBX.out _ _ _).trans (hb1.mono (by simp; omega)); have r5 := setRow_heap w1 (w.heap.size + 1) _ cs1 _ _ h5; have r6 := (setRow_other w1 (w.heap.size + 1) cs1 (w.heap.size + 1 + 1) (by omega)).trans h6; have HB2 : Hid (Below w.heap.size w (w1.setRow (w.heap.size + 1) cs1)) := belowSR HB1.out (by omega) _; have k0 : (w1.setRow (w.heap.size + 1) cs1).cell? ⟨w.heap.size + 1, 0, none⟩ = some (.int .i64 0) := (by rw [cell_of_row _ _ _ _ _ _ r5, ← hst]; exact hst1.status); have HSO : Hid (StP (w1.setRow (w.heap.size + 1) cs1) (w.heap.size + 3) (.agg cs1) s) := (hst1.mono (by simp)).setRow (by omega) _; clear hb1 hst1)
    | (refine wpList_store_row rfl _ _ _ rfl _ cs1 rfl rfl _ _ h5 a1 (hs2.symm.trans a2) a3 ?_)
    | (refine wpList_load_row rfl _ _ rfl _ rfl _ _ _ _ r5 Tryd.underlying34 rfl a1 ?_)
    | (refine wpList_store_row rfl _ _ _ rfl _ cs1 rfl rfl _ _ r6 a1 a2 a3 ?_))
  try simp only [Exit.inBlock, Exit.then]
  exact bodyPost_ret (results_row_tmp rfl _ _ (w.heap.size + 1 + 1) 34 cs1 (0, 0) _ rfl (setRow_heap _ _ _ _ _ _ r6) Tryd.underlying34 rfl a1) rfl ⟨cs1, rfl, a1, a2, a3, (HSO.out.setRow (by omega) _).mono (by omega), belowSR HB2.out (by omega) _⟩

/-- At every state. -/
theorem running_bad (P : List Fn) (v sv : Value) (s : St) (c : Int) (w : World) (ht : TabOk w) (hc : CallOk w) (hv : ProgVal w v P) (hs : StVal w sv s) (hE : ∀ E, ProofAns P E → checkE E P s = c) (h0 : c = 0 → ProofAns P 0 ∧ mayB s = true ∧ FOk P s.frames) (he : s.events.length * 8 ≤ 140737488351232) (hr : ¬ runE c s = 0) :
    Calls Tryd.prog 15 #[.agg #[v], sv] w fun e w' => e = .returned (.tuple #[.agg zeroStCells, .int .i64 (runE c s)]) ∧ Below w.heap.size w w' := by
  by_cases hc0 : c = 0
  · obtain ⟨hR, hm, hf⟩ := h0 hc0
    subst hc0
    have hst : ¬ s.status = 0 := fun h => hr (by unfold runE; rw [if_pos rfl, if_pos h])
    rw [runE_off hst]
    exact running_off P v sv s w ht hc hR hm hf hv hs he hst
  · rw [runE_bad s hc0]
    exact running_badC P v sv s c w ht hc hv hs hE hc0
end Go.Proofs.YtgdmdlkhnokieaaDoor
