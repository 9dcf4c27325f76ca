/- emit.Far at a state that does not run. -/
import Derived.Test.YtgdmdlkhnokieaaDoorXEmitRun
namespace Go.Proofs.YtgdmdlkhnokieaaDoor
open Go Go.RowKit

theorem results_row_twoB {P : Program} {fn : Func} {p u q : Tmp} {ty : TypeId} (h : fn.results = #[.cell p ty, .tmp u, .tmp q]) (tmps : Array Value) (w : World) (g : Nat) (t : TypeId) (cs : Array Value) (fr : Nat × Nat) (d : TypeDesc)
    (hp : tmps.getD p undef = .pointer (some ⟨g, 0, none⟩)) (hg : w.heap[g]? = some (.cells cs t fr))
    (hu : P.underlying ty = some d) (hd : (match d with | .struct _ | .array _ _ => true | _ => false) = true) (hi : (P.info? ty).map (·.size) = some cs.size) :
    (results fn tmps).run P w = .ok (.tuple #[.agg cs, tmps.getD u undef, tmps.getD q undef]) w := by
  simp only [results, h]
  simp [Sem.run_bind, Result.andThen]
  rw [← Array.getD_eq_getD_getElem?, hp]
  simp only [asAddr, Sem.run_pure, run_loadVar_row w g t ty cs fr d hg hu hd hi]

set_option maxRecDepth 100000 in
set_option maxHeartbeats 2000000 in
theorem FarE_bad (P : List Fn) (v sv : Value) (s : St) (c : Int) (w : World) (ht : TabOk w) (hc : CallOk w) (hv : ProgVal w v P) (hs : StVal w sv s) (hE : ∀ E, ProofAns P E → checkE E P s = c) (h0 : c = 0 → ProofAns P 0 ∧ mayB s = true ∧ FOk P s.frames) (he : s.events.length * 8 ≤ 140737488351232) (hr : ¬ runE c s = 0) :
    Calls Tryd.prog 7 #[.agg #[v], sv] w fun e w' => e = .returned (.tuple #[.agg zeroStCells, .int .i64 0, .int .i64 (runE c s)]) ∧ Below w.heap.size w w' := by
  have hbx : ∀ o o' o'', Below w.heap.size w (((w.alloc o).alloc o').alloc o'') := fun o o' o'' => (((Below.refl _ _).alloc (Nat.le_refl _) _).alloc (by simp) _).alloc (by simp; omega) _
  have HC : Hid (∀ o o' o'', Calls Tryd.prog 15 #[.agg #[v], sv] (((w.alloc o).alloc o').alloc o'') fun e w' => e = .returned (.tuple #[.agg zeroStCells, .int .i64 (runE c s)]) ∧ Below (((w.alloc o).alloc o').alloc o'').heap.size (((w.alloc o).alloc o').alloc o'') w') := fun o o' o'' =>
    running_bad P v sv s c _ (ht.below (hbx o o' o'')) (hc.below (hbx o o' o'')) (hv.keeps (keeps_below (hbx o o' o''))) (hs.keeps (keeps_below (hbx o o' o''))) hE h0 he hr
  obtain ⟨ao, n0, cap0, rfl⟩ := hv.shape
  obtain ⟨cs, rfl, hsz, hs2, -⟩ := hs.cells
  have HBX : Hid _ := hbx
  generalize runE c s = E at *
  have hcb : (E != 0) = true := by simpa using hr
  clear ht hc hv hs hbx hE h0 hr he
  go_enter Tryd.func7, Tryd.ntmps7
  go_wp2_with (first
    | (refine wpList_load_row rfl _ _ rfl _ rfl _ _ _ _ (heap_alloc_old _ _ (by simp) |>.trans (heap_alloc2_new _ _ _)) Tryd.underlying34 rfl hsz ?_)
    | (go_at_call 15; refine (HC.out _ _ _).mono ?_; rintro e w1 ⟨rfl, hb1⟩; have h5 : w1.heap[w.heap.size + 1]? = some (.cells cs 34 (0, 0)) := (hb1.block _ (by simp)).trans (heap_alloc_old _ _ (by simp) |>.trans (heap_alloc2_new _ _ _)); have h6 : w1.heap[w.heap.size + 1 + 1]? = some (.cells zeroStCells 34 (0, 0)) := (hb1.block _ (by simp)).trans (heap_alloc3_new _ _ _ _); have HB1 : Hid (Below w.heap.size w w1) := (HBX.out _ _ _).trans (hb1.mono (by simp; omega)); have r6 := (setRow_other w1 (w.heap.size + 1) zeroStCells (w.heap.size + 1 + 1) (by omega)).trans h6; have HB2 : Hid (Below w.heap.size w (w1.setRow (w.heap.size + 1) zeroStCells)) := belowSR HB1.out (by omega) _; clear hb1)
    | (refine wpList_store_row rfl _ _ _ rfl _ zeroStCells rfl rfl _ _ h5 infoSt hs2.symm zeroSt_one ?_)
    | (refine wpList_build_store rfl _ _ rfl zeroStCells (by simpa using built_zero) rfl _ _ rfl _ rfl rfl _ _ r6 infoSt rfl zeroSt_one ?_)
    | (refine wpList_store_row rfl _ _ _ rfl _ zeroStCells rfl rfl _ _ r6 infoSt rfl zeroSt_one ?_))
  try simp only [Exit.inBlock, Exit.then]
  exact bodyPost_ret (results_row_twoB rfl _ _ (w.heap.size + 1 + 1) 34 zeroStCells (0, 0) _ rfl (setRow_heap _ _ _ _ _ _ r6) Tryd.underlying34 rfl infoSt) rfl ⟨rfl, belowSR HB2.out (by omega) _⟩
end Go.Proofs.YtgdmdlkhnokieaaDoor
