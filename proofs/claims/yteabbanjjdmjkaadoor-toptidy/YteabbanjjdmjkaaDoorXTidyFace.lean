/- Contract of tiers.Tidy at every program and state. -/
import Derived.Test.YteabbanjjdmjkaaDoorXTidyAll
import Derived.Test.YteabbanjjdmjkaaDoorXEmitRun
namespace Go.Proofs.YteabbanjjdmjkaaDoor
open Go Go.RowKit

set_option maxRecDepth 100000 in
set_option maxHeartbeats 2000000 in
theorem tidyF_bad (P : List Fn) (v sv : Value) (s : St) (c : Int) (w : World) (ht : TabOk w) (hc : CallOk w) (hv : ProgVal w v P) (hs : StVal w sv s) (hE : ∀ E, ProofAns P E → checkE E P s = c) (h0 : ¬ c = 0) :
    Calls Tryd.prog 24 #[.agg #[v], sv] w fun e w' => e = .returned (.tuple #[.agg zeroStCells, .int .i64 c]) ∧ Below w.heap.size w w' := by
  have hbx : ∀ o o' o'', Below w.heap.size w (((w.alloc o).alloc o').alloc o'') := fun o o' o'' => (((Below.refl _ _).alloc (Nat.le_refl _) _).alloc (by simp) _).alloc (by simp; omega) _
  have HC : Hid (∀ o o' o'', Calls Tryd.prog 21 #[.agg #[v], sv, .int .i64 0] (((w.alloc o).alloc o').alloc o'') fun e w' => e = .returned (.tuple #[.agg zeroStCells, .int .i64 c]) ∧ Below (((w.alloc o).alloc o').alloc o'').heap.size (((w.alloc o).alloc o').alloc o'') w') := fun o o' o'' =>
    walk_bad P v sv s 0 c _ (ht.below (hbx o o' o'')) (hc.below (hbx o o' o'')) (hv.keeps (keeps_below (hbx o o' o''))) (hs.keeps (keeps_below (hbx o o' o''))) hE h0
  obtain ⟨ao, n0, cap0, rfl⟩ := hv.shape
  obtain ⟨cs, rfl, hsz, hs2, -⟩ := hs.cells
  have HBX : Hid _ := hbx
  have hcb : (c != 0) = true := by simpa using h0
  clear ht hc hv hs hbx hE h0
  go_enter Tryd.func24, Tryd.ntmps24
  go_wp2_with (first
    | (refine wpList_load_row rfl _ _ rfl _ rfl _ _ _ _ (heap_alloc_old _ _ (by simp) |>.trans (heap_alloc2_new _ _ _)) Tryd.underlying29 rfl hsz ?_)
    | (go_at_call 21; refine (HC.out _ _ _).mono ?_; rintro e w1 ⟨rfl, hb1⟩; have h5 : w1.heap[w.heap.size + 1]? = some (.cells cs 29 (0, 0)) := (hb1.block _ (by simp)).trans (heap_alloc_old _ _ (by simp) |>.trans (heap_alloc2_new _ _ _)); have h6 : w1.heap[w.heap.size + 1 + 1]? = some (.cells zeroStCells 29 (0, 0)) := (hb1.block _ (by simp)).trans (heap_alloc3_new _ _ _ _); have HB1 : Hid (Below w.heap.size w w1) := (HBX.out _ _ _).trans (hb1.mono (by simp; omega)); have r6 := (setRow_other w1 (w.heap.size + 1) zeroStCells (w.heap.size + 1 + 1) (by omega)).trans h6; have HB2 : Hid (Below w.heap.size w (w1.setRow (w.heap.size + 1) zeroStCells)) := belowSR HB1.out (by omega) _; clear hb1)
    | (refine wpList_store_row rfl _ _ _ rfl _ zeroStCells rfl rfl _ _ h5 infoSt hs2.symm zeroSt_one ?_)
    | (refine wpList_build_store rfl _ _ rfl zeroStCells (by simpa using built_zero) rfl _ _ rfl _ rfl rfl _ _ r6 infoSt rfl zeroSt_one ?_)
    | (refine wpList_build_to rfl _ _ rfl zeroStCells (by simpa using built_zero) ?_)
    | (refine wpList_store_row rfl _ _ _ rfl _ zeroStCells rfl rfl _ _ r6 infoSt rfl zeroSt_one ?_))
  try simp only [Exit.inBlock, Exit.then]
  exact bodyPost_ret (results_row_tmp rfl _ _ (w.heap.size + 1 + 1) 29 zeroStCells (0, 0) _ rfl (setRow_heap _ _ _ _ _ _ r6) Tryd.underlying29 rfl infoSt) rfl ⟨rfl, belowSR HB2.out (by omega) _⟩

set_option maxRecDepth 100000 in
set_option maxHeartbeats 4000000 in
theorem tidyF_ok (P : List Fn) (v sv : Value) (s : St) (w : World) (ht : TabOk w) (hc : CallOk w) (hR : ProofAns P 0) (hm : mayB s = true) (hf : FOk P s.frames) (hv : ProgVal w v P) (hs : StVal w sv s) (he : s.events.length * 8 ≤ 140737488351232) :
    Calls Tryd.prog 24 #[.agg #[v], sv] w fun e w' => OwnPost w (tidS P s) e w' := by
  have HC : Hid (∀ W, Below w.heap.size w W → Calls Tryd.prog 21 #[.agg #[v], sv, .int .i64 0] W fun e w' => ∃ cs, e = .returned (.tuple #[.agg cs, .int .i64 0]) ∧ (Tryd.prog.info? 29).map (·.size) = some cs.size ∧ zeroStCells.size = cs.size ∧ cs.all (·.oneCell') = true ∧ StP w' W.heap.size (.agg cs) s ∧ Below W.heap.size W w') := fun W hb =>
    walk_zero P v sv s _ (ht.below hb) (hc.below hb) hR hm hf (hv.keeps (keeps_below hb)) (hs.keeps (keeps_below hb)) he
  have HTD : Hid (∀ W fv ev av, Below w.heap.size w W → OutAt W w.heap.size (w.heap.size + 1) s fv ev av → Calls Tryd.prog 54 #[.agg #[v], fv] W fun e w' => e = .returned (.tuple #[]) ∧ OutAt w' w.heap.size (w.heap.size + 1) (tidS P s) fv ev av ∧ W.grownBy w' fv.ownBlock) := fun W fv ev av hb ho =>
    tidy_any P hR v _ _ s fv ev av W (fun W' hb' => ⟨hv.keeps (keeps_below (hb.trans hb')), ht.below (hb.trans hb'), hc.below (hb.trans hb')⟩) hf ho
  obtain ⟨ao, n0, cap0, rfl⟩ := hv.shape
  obtain ⟨cs, rfl, hsz, hs2, -⟩ := hs.cells
  clear ht hc hv hs hR hm hf he
  go_enter Tryd.func24, Tryd.ntmps24
  go_upto_region 1 with fail
  rw [show (#[.int .i64 0, .int .i64 0, .slice none 0 0, .int .i64 0, .int .i64 0, .int .i64 0, .int .i64 0, .int .i64 0, .int .i64 0, .int .i64 0, .int .i64 0, .int .i64 0, .int .i64 0, .int .i64 0, .int .i64 0, .int .i64 0, .int .i64 0, .int .i64 0, .int .i64 0, .int .i64 0, .slice none 0 0, .slice none 0 0] : Array Value) = zeroStCells from rfl]
  have r0 : (((w.alloc (.cells #[.slice ao n0 cap0] 24)).alloc (.cells cs 29)).alloc (.cells zeroStCells 29)).heap[w.heap.size]? = some (.cells #[.slice ao n0 cap0] 24 (0, 0)) := heap_alloc_old _ _ (by simp <;> omega) |>.trans (heap_alloc2_old _ _ _)
  have r1 : (((w.alloc (.cells #[.slice ao n0 cap0] 24)).alloc (.cells cs 29)).alloc (.cells zeroStCells 29)).heap[w.heap.size + 1]? = some (.cells cs 29 (0, 0)) := heap_alloc_old _ _ (by simp <;> omega) |>.trans (heap_alloc2_new _ _ _)
  have r3 : (((w.alloc (.cells #[.slice ao n0 cap0] 24)).alloc (.cells cs 29)).alloc (.cells zeroStCells 29)).heap[w.heap.size + 1 + 1]? = some (.cells zeroStCells 29 (0, 0)) := heap_alloc3_new _ _ _ _
  have HB0 : Hid (Below w.heap.size w (((w.alloc (.cells #[.slice ao n0 cap0] 24)).alloc (.cells cs 29)).alloc (.cells zeroStCells 29))) := (((Below.refl _ _).alloc (Nat.le_refl _) _).alloc (by simp) _).alloc (by simp <;> omega) _
  generalize (((w.alloc (.cells #[.slice ao n0 cap0] 24)).alloc (.cells cs 29)).alloc (.cells zeroStCells 29)) = W0 at *
  have hz0 := lt_of_block r3
  have kp0 : W0.cell? ⟨w.heap.size, 0, none⟩ = some (.slice ao n0 cap0) := by rw [cell_of_row _ _ _ _ _ _ r0]; rfl
  go_upto_region 2 with (first
    | (refine wpList_load_row rfl _ _ rfl _ rfl _ _ _ _ r1 Tryd.underlying29 rfl hsz ?_)
    | (go_at_call 21; refine (HC.out _ HB0.out).mono ?_; rintro e w1 ⟨cs1, rfl, a1, a2, a3, hst1, hb1⟩; have s1 := (hb1.block _ (lt_of_block r1)).trans r1)
    | (refine wpList_store_row rfl _ _ _ rfl _ cs1 rfl rfl _ _ s1 a1 (hs2.symm.trans a2) a3 ?_))
  have q1 := setRow_heap w1 (w.heap.size + 1) _ cs1 _ _ s1
  have q0 := ((setRow_other w1 (w.heap.size + 1) cs1 w.heap.size (by omega)).trans (hb1.block _ (by omega))).trans r0
  have q3 := ((setRow_other w1 (w.heap.size + 1) cs1 (w.heap.size + 1 + 1) (by omega)).trans (hb1.block _ (by omega))).trans r3
  have HB1 : Hid (Below w.heap.size w (w1.setRow (w.heap.size + 1) cs1)) := belowSR (HB0.out.trans (hb1.mono HB0.out.size)) (by omega) _
  obtain ⟨fv, ev, av, hcs, HO, hlav⟩ := StP.out (B := w.heap.size) (hst1.setRow (r := w.heap.size + 1) (by omega) cs1) (by omega) (by omega) q1
  have HAV : Hid (∀ a n cp, av = .slice (some a) n cp → 0 < n → a.block ≠ w.heap.size + 1 + 1) := fun a n cp e hn => by have := hlav a n cp e hn; omega
  clear hst1 hb1 s1 r0 r1 r3 HC HB0 hlav kp0
  generalize w1.setRow (w.heap.size + 1) cs1 = W1 at *
  have kp1 : W1.cell? ⟨w.heap.size, 0, none⟩ = some (.slice ao n0 cap0) := by rw [cell_of_row _ _ _ _ _ _ q0]; rfl
  have kfv : W1.cell? ⟨w.heap.size + 1, 2, none⟩ = some fv := by rw [cell_of_row _ _ _ _ _ _ q1, hcs]; rfl
  have hnf : fv.ownBlock ≠ some (w.heap.size + 1 + 1) := block_ne_own HO.frames q3 (by decide)
  have hTD := HTD.out W1 fv ev av HB1.out HO
  have hfl : ∀ k, fv.ownBlock = some k → w.heap.size ≤ k := fun k hk => (HO.frames.lt k hk).1
  clear HO hcs HTD
  go_upto_region 5 with (go_at_call 54; refine hTD.mono ?_; rintro e w2 ⟨rfl, ho2, hg2⟩)
  have x3 := (hg2.block _ (lt_of_block q3) (fun e => hnf e.symm)).trans q3
  have HB2 : Hid (Below w.heap.size w w2) := HB1.out.grown hg2 HB1.out.size hfl
  have HO2 : Hid _ := ho2
  have r2 := ho2.cells
  obtain ⟨csx, hcx, y1, y2, y3⟩ := ho2.stp.at.val.cells
  obtain rfl := Value.agg.inj hcx
  clear hTD hg2 ho2 q0 q1 q3 kp1 kfv hnf hfl hcx
  generalize hXX : (stCells (tidS P s) fv ev av).toArray = XX at *
  have HXX : Hid _ := hXX
  clear hXX
  go_wp2_with (first
    | (refine wpList_load_row rfl _ _ rfl _ rfl _ _ _ _ r2 Tryd.underlying29 rfl y1 ?_)
    | (refine wpList_store_row rfl _ _ _ rfl _ XX rfl rfl _ _ x3 y1 y2 y3 ?_))
  try simp only [Exit.inBlock, Exit.then]
  refine bodyPost_ret (results_row_tmp rfl _ _ (w.heap.size + 1 + 1) 29 XX (0, 0) _ rfl (setRow_heap _ _ _ _ _ _ x3) Tryd.underlying29 rfl y1) rfl ⟨XX, rfl, ?_, belowSR HB2.out (by omega) _⟩
  have := (HO2.out.other x3 (by omega) HAV.out XX).stp
  rw [HXX.out] at this
  exact this
end Go.Proofs.YteabbanjjdmjkaaDoor
