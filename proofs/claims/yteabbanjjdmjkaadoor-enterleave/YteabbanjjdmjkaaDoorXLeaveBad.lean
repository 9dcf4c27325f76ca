/- emit.Leave refuses: the state may not be, or does not run; or the machine may not be left so (written by gen/mkleave.py). -/
import Derived.Test.YteabbanjjdmjkaaDoorXEmitLeave
namespace Go.Proofs.YteabbanjjdmjkaaDoor
open Go Go.RowKit

set_option maxRecDepth 100000 in
set_option maxHeartbeats 8000000 in
theorem leave_form (P : List Fn) (v sv : Value) (s : St) (f : Fr) (fs : List Fr) (c : Cp) (w : World) (ht : TabOk w) (hc : CallOk w) (hR : ProofAns P 0) (hm : mayB s = true) (hf : FOk P s.frames) (hv : ProgVal w v P) (hs : StVal w sv s) (he : s.events.length * 8 ≤ 140737488351232) (hst : s.status = 0) (hfr : s.frames = fs ++ [f]) (hcp : c.Ok)
    (hlk : ¬ leaveOk c.data (liveL P f.fn.toNat) s.fuel) :
    Calls Tryd.prog 10 #[.agg #[v], sv, c.val] w fun e w' => e = .returned (.tuple #[.agg zeroStCells, .int .i64 5]) ∧ Below w.heap.size w w' := by
  have HC : Hid (∀ W, Below w.heap.size w W → Calls Tryd.prog 32 #[.agg #[v], sv] W fun e w' => ∃ cs, e = .returned (.tuple #[.agg cs, .int .i64 0]) ∧ (Tryd.prog.info? 29).map (·.size) = some cs.size ∧ zeroStCells.size = cs.size ∧ cs.all (·.oneCell') = true ∧ StP w' W.heap.size (.agg cs) s ∧ Below W.heap.size W w') := fun W hb =>
    running_ok P v sv s _ (ht.below hb) (hc.below hb) hR hm hf (hv.keeps (keeps_below hb)) (hs.keeps (keeps_below hb)) he hst
  obtain ⟨k, hk, hfn⟩ : ∃ k : Nat, k < P.length ∧ f.fn = k := by
    have hp := ((fok_snoc P fs f).1 (by rw [← hfr]; exact hf)).2.1
    obtain ⟨k, j, hk, hj, e1, e2, e3, e4⟩ := place_nat hp
    exact ⟨k, hk, e1⟩
  have hkk : f.fn.toNat = k := by omega
  rw [hkk] at hlk
  have HLV : Hid (∀ W, Below w.heap.size w W → Calls Tryd.prog 18 #[.agg #[v], .int .i64 f.fn] W fun e w' => ∃ v', e = .returned (.tuple #[v', .int .i64 0]) ∧ IntsVal w' v' (liveL P k) ∧ (∀ a n c, v' = .slice (some a) n c → W.heap.size ≤ a.block) ∧ Below W.heap.size W w') := fun W hb => by
    rw [hfn]
    refine (Live_low P hR k hk v W (ht.below hb) (hc.below hb) (hv.keeps (keeps_below hb))).mono ?_
    rintro e w' ⟨v', L, rfl, hL, hI, hlo, hb'⟩
    rw [liveL_eq hk hL] at hI
    exact ⟨v', rfl, hI, hlo, hb'⟩
  have HML : Hid (∀ W vl, IntsVal W vl (liveL P k) → Calls Tryd.prog 34 #[.agg (i64s c.data).toArray, vl, .int .i64 s.fuel] W fun e w' => e = .returned (.bool false) ∧ Below W.heap.size W w') := fun W vl h => mayLeave_any c.data (liveL P k) s.fuel false ⟨fun h => by simp at h, fun h => absurd h hlk⟩ vl hcp.d W h
  have HLS : Hid (s.mem.length = 16) := by obtain ⟨_, _, _, _, h, -⟩ := hs; exact h
  obtain ⟨ao, n0, cap0, rfl⟩ := hv.shape
  obtain ⟨cs, rfl, hsz, hs2, -⟩ := hs.cells
  have hlen : s.frames.length = fs.length + 1 := by rw [hfr]; simp
  have hfi : s.frames[fs.length]? = some f := by rw [hfr]; simp
  have HRD : Hid (∀ (W : World) b, W.heap[b]? = some (.cells (cpuCells c).toArray 33 (0, 0)) → W.rangeAt b 33 (i64s c.data)) := fun W b h => cp_range hcp h
  have hD64 : (i64s c.data).length = 64 := by simp [i64s, hcp.d]
  have i64 : (Tryd.prog.info? 31).map (·.size) = some (i64s c.data).length := by rw [hD64]; exact infoD64
  clear ht hc hv hs hR hm hf he hst hcp hfn hkk hlk
  unfold Cp.val
  generalize hLL : liveL P k = L at *
  generalize hCC : cpuCells c = CC at *
  go_enter Tryd.func10, Tryd.ntmps10
  go_upto_region 1 with fail
  rw [show (#[.int .i64 0, .int .i64 0, .slice none 0 0, .int .i64 0, .int .i64 0, .int .i64 0, .int .i64 0, .int .i64 0, .int .i64 0, .int .i64 0, .int .i64 0, .int .i64 0, .int .i64 0, .int .i64 0, .int .i64 0, .int .i64 0, .int .i64 0, .int .i64 0, .int .i64 0, .int .i64 0, .slice none 0 0, .slice none 0 0] : Array Value) = zeroStCells from rfl]
  have r0 : ((((w.alloc (.cells #[.slice ao n0 cap0] 24)).alloc (.cells cs 29)).alloc (.cells CC.toArray 33)).alloc (.cells zeroStCells 29)).heap[w.heap.size]? = some (.cells #[.slice ao n0 cap0] 24 (0, 0)) := heap_alloc_old _ _ (by simp <;> omega) |>.trans (heap_alloc_old _ _ (by simp <;> omega) |>.trans (heap_alloc2_old _ _ _))
  have r1 : ((((w.alloc (.cells #[.slice ao n0 cap0] 24)).alloc (.cells cs 29)).alloc (.cells CC.toArray 33)).alloc (.cells zeroStCells 29)).heap[w.heap.size + 1]? = some (.cells cs 29 (0, 0)) := heap_alloc_old _ _ (by simp <;> omega) |>.trans (heap_alloc_old _ _ (by simp) |>.trans (heap_alloc2_new _ _ _))
  have r2 : ((((w.alloc (.cells #[.slice ao n0 cap0] 24)).alloc (.cells cs 29)).alloc (.cells CC.toArray 33)).alloc (.cells zeroStCells 29)).heap[w.heap.size + 1 + 1]? = some (.cells CC.toArray 33 (0, 0)) := heap_alloc_old _ _ (by simp) |>.trans (heap_alloc3_new _ _ _ _)
  have r3 : ((((w.alloc (.cells #[.slice ao n0 cap0] 24)).alloc (.cells cs 29)).alloc (.cells CC.toArray 33)).alloc (.cells zeroStCells 29)).heap[w.heap.size + 1 + 1 + 1]? = some (.cells zeroStCells 29 (0, 0)) := by
    have := heap_alloc_last (((w.alloc (.cells #[.slice ao n0 cap0] 24)).alloc (.cells cs 29)).alloc (.cells CC.toArray 33)) (.cells zeroStCells 29)
    simpa using this
  have HB0 : Hid (Below w.heap.size w ((((w.alloc (.cells #[.slice ao n0 cap0] 24)).alloc (.cells cs 29)).alloc (.cells CC.toArray 33)).alloc (.cells zeroStCells 29))) := ((((Below.refl _ _).alloc (Nat.le_refl _) _).alloc (by simp) _).alloc (by simp <;> omega) _).alloc (by simp <;> omega) _
  generalize ((((w.alloc (.cells #[.slice ao n0 cap0] 24)).alloc (.cells cs 29)).alloc (.cells CC.toArray 33)).alloc (.cells zeroStCells 29)) = W0 at *
  have hz0 := lt_of_block r3
  have kp0 : W0.cell? ⟨w.heap.size, 0, none⟩ = some (.slice ao n0 cap0) := by rw [cell_of_row _ _ _ _ _ _ r0]; rfl
  go_upto_region 2 with (first
    | (refine wpList_load_row rfl _ _ rfl _ rfl _ _ _ _ r1 Tryd.underlying29 rfl hsz ?_)
    | (go_at_call 32; refine (HC.out _ HB0.out).mono ?_; rintro e w1 ⟨cs1, rfl, a1, a2, a3, hst1, hb1⟩; have s1 := (hb1.block _ (lt_of_block r1)).trans r1)
    | (refine wpList_store_row rfl _ _ _ rfl _ cs1 rfl rfl _ _ s1 a1 (hs2.symm.trans a2) a3 ?_))
  have q1 := setRow_heap w1 (w.heap.size + 1) _ cs1 _ _ s1
  have q0 := ((setRow_other w1 (w.heap.size + 1) cs1 w.heap.size (by omega)).trans (hb1.block _ (by omega))).trans r0
  have q2 := ((setRow_other w1 (w.heap.size + 1) cs1 (w.heap.size + 1 + 1) (by omega)).trans (hb1.block _ (by omega))).trans r2
  have q3 := ((setRow_other w1 (w.heap.size + 1) cs1 (w.heap.size + 1 + 1 + 1) (by omega)).trans (hb1.block _ (by omega))).trans r3
  have HB1 : Hid (Below w.heap.size w (w1.setRow (w.heap.size + 1) cs1)) := belowSR (HB0.out.trans (hb1.mono HB0.out.size)) (by omega) _
  obtain ⟨fv, ev, av, hcs, HO, hlav⟩ := StP.out (B := w.heap.size) (hst1.setRow (r := w.heap.size + 1) (by omega) cs1) (by omega) (by omega) q1
  clear hst1 hb1 s1 r0 r1 r2 r3 HC HB0 hlav
  obtain ⟨fb, cap, rfl, f1, f2, f3, f4, f5⟩ := HO.box (i := fs.length) (by omega)
  rw [hlen] at HO f1 hcs
  have HLA : Hid (∀ W, Calls Tryd.prog 33 #[.agg cs1] W fun e w' => e = .returned (.pointer (some ⟨fb, fs.length * 14, none⟩)) ∧ Below W.heap.size W w') := fun W => by
    rw [hcs]
    have := lastE_any s fb 0 fs.length cap ev av W f1 f2
    rw [Nat.zero_add] at this
    exact this
  generalize w1.setRow (w.heap.size + 1) cs1 = W1 at *
  have HCS : Hid _ := hcs
  have HOH : Hid _ := HO
  clear hcs HO
  go_upto_region 5 with (first
    | (refine wpList_load_row rfl _ _ rfl _ rfl _ _ _ _ q1 Tryd.underlying29 rfl a1 ?_)
    | (go_at_call 33; refine (HLA.out _).mono ?_; rintro e w2 ⟨rfl, hb2⟩; have HO2 : Hid (OutAt w2 w.heap.size (w.heap.size + 1) s (.slice (some ⟨fb, 0, none⟩) (fs.length + 1) cap) ev av) := HOH.out.below hb2))
  have r0 := (hb2.block _ (lt_of_block q0)).trans q0
  have r1 := (hb2.block _ (lt_of_block q1)).trans q1
  have r2 := (hb2.block _ (lt_of_block q2)).trans q2
  have r3 := (hb2.block _ (lt_of_block q3)).trans q3
  have HB2 : Hid (Below w.heap.size w w2) := HB1.out.trans (hb2.mono HB1.out.size)
  have kp : w2.cell? ⟨w.heap.size, 0, none⟩ = some (.slice ao n0 cap0) := by rw [cell_of_row _ _ _ _ _ _ r0]; rfl
  have kf : w2.cell? ⟨fb, fs.length * 14, none⟩ = some (.int .i64 f.fn) := HO2.out.range hfi 0 _ rfl
  have hfb2 : fb < w2.heap.size := Nat.lt_of_lt_of_le f4 hb2.size
  clear HOH hb2 q0 q1 q2 q3 HB1 HLA
  refine wp_region_held_drew (S := fun W => Below w2.heap.size w2 W) (by kernel_rfl) ((Below.refl _ _).drew) (fun hHeld => ?_)
  show wpAnyH _ _ _ _ _ 11 _ _ _
  refine wpAnyH_take (i := 0) (v := ?_) rfl (by kernel_rfl) (by kernel_rfl) (by kernel_rfl) (fun _ _ _ h => h) (Or.inl ⟨by rfl, ?_⟩) (by assumption) ?_
  rotate_left
  · (intro W hSW; have z0 := keeps_below hSW _ _ kp; go_simp; try (with_reducible rfl))
  (try simp only [List.getElem_toArray, List.getElem_cons_zero])
  (try simp only [Act.put, List.setIfInBounds_toArray, List.set_cons_zero, List.set_cons_succ])
  refine wpAnyH_take (i := 1) (v := ?_) rfl (by kernel_rfl) (by kernel_rfl) (by kernel_rfl) (fun _ _ _ h => h) (Or.inl ⟨by rfl, ?_⟩) (by assumption) ?_
  rotate_left
  · (intro W hSW; go_simp; try (with_reducible rfl))
  (try simp only [List.getElem_toArray, List.getElem_cons_succ, List.getElem_cons_zero])
  (try simp only [Act.put, List.setIfInBounds_toArray, List.set_cons_zero, List.set_cons_succ])
  refine wpAnyH_take (i := 2) (v := ?_) rfl (by kernel_rfl) (by kernel_rfl) (by kernel_rfl) (fun _ _ _ h => h) (Or.inl ⟨by rfl, ?_⟩) (by assumption) ?_
  rotate_left
  · (intro W hSW; go_simp; try (with_reducible rfl))
  (try simp only [List.getElem_toArray, List.getElem_cons_succ, List.getElem_cons_zero])
  (try simp only [Act.put, List.setIfInBounds_toArray, List.set_cons_zero, List.set_cons_succ])
  refine wpAnyH_take (i := 3) (v := ?_) rfl (by kernel_rfl) (by kernel_rfl) (by kernel_rfl) (fun _ _ _ h => h) (Or.inl ⟨by rfl, ?_⟩) (by assumption) ?_
  rotate_left
  · (intro W hSW; go_simp; try (with_reducible rfl))
  (try simp only [List.getElem_toArray, List.getElem_cons_succ, List.getElem_cons_zero])
  (try simp only [Act.put, List.setIfInBounds_toArray, List.set_cons_zero, List.set_cons_succ])
  refine wpAnyH_take (i := 4) (v := ?_) rfl (by kernel_rfl) (by kernel_rfl) (by kernel_rfl) (fun _ _ _ h => h) (Or.inl ⟨by rfl, ?_⟩) (by assumption) ?_
  rotate_left
  · (intro W hSW; have z0 := keeps_below hSW _ _ kf; go_simp; try (with_reducible rfl))
  (try simp only [List.getElem_toArray, List.getElem_cons_succ, List.getElem_cons_zero])
  (try simp only [Act.put, List.setIfInBounds_toArray, List.set_cons_zero, List.set_cons_succ])
  refine wpAnyH_ready (rs := [5]) (by kernel_rfl) (by simp) ?_
  refine AllReadyH.cons rfl (fun K hK => ?_) AllReadyH.nil
  go_simp
  go_at_call 18
  refine (HLV.out _ HB2.out.drew).mono ?_
  rintro e w3 ⟨v3, rfl, hI3, hlo3, hb3⟩
  obtain ⟨al, n3, c3, rfl⟩ : ∃ al n c, v3 = .slice al n c := by obtain ⟨al, _, _, n3, c3, rfl, -⟩ := hI3; exact ⟨al, n3, c3, rfl⟩
  have hb23 : Below w2.heap.size w2 w3 := Below.trans hHeld (Below.mono hb3 (Below.size hHeld))
  dsimp only
  refine hK.out _ _ hb23 (fun _ => ?_)
  clear hK K hHeld
  (try simp only [Act.put, List.setIfInBounds_toArray, List.set_cons_zero, List.set_cons_succ])
  refine wpAnyH_take (i := 6) (v := ?_) rfl (by kernel_rfl) (by kernel_rfl) (by kernel_rfl) (fun _ _ _ h => h) (Or.inl ⟨by rfl, ?_⟩) hb23 ?_
  rotate_left
  · (intro W hSW; go_simp; try (with_reducible rfl))
  (try simp only [List.getElem_toArray, List.getElem_cons_succ, List.getElem_cons_zero])
  (try simp only [Act.put, List.setIfInBounds_toArray, List.set_cons_zero, List.set_cons_succ])
  refine wpAnyH_take (i := 7) (v := ?_) rfl (by kernel_rfl) (by kernel_rfl) (by kernel_rfl) (fun _ _ _ h => h) (Or.inl ⟨by rfl, ?_⟩) hb23 ?_
  rotate_left
  · (intro W hSW; go_simp; try (with_reducible rfl))
  (try simp only [List.getElem_toArray, List.getElem_cons_succ, List.getElem_cons_zero])
  (try simp only [Act.put, List.setIfInBounds_toArray, List.set_cons_zero, List.set_cons_succ])
  refine wpAnyH_take (i := 8) (v := ?_) rfl (by kernel_rfl) (by kernel_rfl) (by kernel_rfl) (fun _ _ _ h => h) (Or.inl ⟨by rfl, ?_⟩) hb23 ?_
  rotate_left
  · (intro W hSW; go_simp; try (with_reducible rfl))
  (try simp only [List.getElem_toArray, List.getElem_cons_succ, List.getElem_cons_zero])
  (try simp only [Act.put, List.setIfInBounds_toArray, List.set_cons_zero, List.set_cons_succ])
  refine wpAnyH_take (i := 9) (v := ?_) rfl (by kernel_rfl) (by kernel_rfl) (by kernel_rfl) (fun _ _ _ h => h) (Or.inl ⟨by rfl, ?_⟩) hb23 ?_
  rotate_left
  · (intro W hSW; go_simp; try (with_reducible rfl))
  (try simp only [List.getElem_toArray, List.getElem_cons_succ, List.getElem_cons_zero])
  (try simp only [Act.put, List.setIfInBounds_toArray, List.set_cons_zero, List.set_cons_succ])
  refine wpAnyH_take (i := 10) (v := ?_) rfl (by kernel_rfl) (by kernel_rfl) (by kernel_rfl) (fun _ _ _ h => h) (Or.inl ⟨by rfl, ?_⟩) hb23 ?_
  rotate_left
  · (intro W hSW; go_simp; try (with_reducible rfl))
  (try simp only [List.getElem_toArray, List.getElem_cons_succ, List.getElem_cons_zero])
  (try simp only [Act.put, List.setIfInBounds_toArray, List.set_cons_zero, List.set_cons_succ])
  refine wpAnyH_done (by kernel_rfl) ?_ _
  (try simp only [Act.put])
  have HI3 : Hid (IntsVal w3 (.slice al n3 c3) L) := hI3
  have s1 := (hb23.block _ (lt_of_block r1)).trans r1
  have s2 := (hb23.block _ (lt_of_block r2)).trans r2
  have s3 := (hb23.block _ (lt_of_block r3)).trans r3
  have HB3 : Hid (Below w.heap.size w w3) := HB2.out.trans (hb23.mono HB2.out.size)
  have kfu : w3.cell? ⟨w.heap.size + 1, 19, none⟩ = some (.int .i64 s.fuel) := by rw [cell_of_row _ _ _ _ _ _ s1, HCS.out]; simpa using stC_tail _ _ _ HLS.out 0
  have hrd := HRD.out _ _ s2
  clear HO2 hI3 hlo3 hb3 hb23 r0 r1 r2 r3 HB2 kp kf
  go_wp2_with (first
    | (refine wpList_load_mid rfl 31 (.tmp 33) rfl (w.heap.size + 1 + 1) 33 rfl (i64s c.data) _ hrd Tryd.underlying31 rfl i64 ?_)
    | (go_at_call 34; refine (HML.out _ _ HI3.out).mono ?_; rintro e w4 ⟨rfl, hb4⟩; have x3 := (hb4.block _ (lt_of_block s3)).trans s3; have HB4 : Hid (Below w.heap.size w w4) := HB3.out.trans (hb4.mono HB3.out.size); clear hb4)
    | (refine wpList_build_store rfl _ _ rfl zeroStCells (by simpa using built_zero) rfl _ _ rfl _ rfl rfl _ _ x3 infoSt rfl zeroSt_one ?_)
    | (refine wpList_build_to rfl _ _ rfl zeroStCells (by simpa using built_zero) ?_)
    | (refine wpList_store_row rfl _ _ _ rfl _ zeroStCells rfl rfl _ _ x3 infoSt rfl zeroSt_one ?_))
  try simp only [Exit.inBlock, Exit.then]
  exact bodyPost_ret (results_row_tmp rfl _ _ (w.heap.size + 1 + 1 + 1) 29 zeroStCells (0, 0) _ rfl (setRow_heap _ _ _ _ _ _ x3) Tryd.underlying29 rfl infoSt) rfl ⟨rfl, belowSR HB4.out (by omega) _⟩

set_option maxRecDepth 100000 in
set_option maxHeartbeats 4000000 in
theorem leave_bad (P : List Fn) (v sv : Value) (s : St) (d : Int) (c : Cp) (w : World) (ht : TabOk w) (hc : CallOk w) (hv : ProgVal w v P) (hs : StVal w sv s) (hE : ∀ E, ProofAns P E → checkE E P s = d) (h0 : d = 0 → ProofAns P 0 ∧ mayB s = true ∧ FOk P s.frames) (he : s.events.length * 8 ≤ 140737488351232) (hr : ¬ runE d s = 0) :
    Calls Tryd.prog 10 #[.agg #[v], sv, c.val] w fun e w' => e = .returned (.tuple #[.agg zeroStCells, .int .i64 (runE d s)]) ∧ Below w.heap.size w w' := by
  have HC : Hid (∀ W, Below w.heap.size w W → Calls Tryd.prog 32 #[.agg #[v], sv] W fun e w' => e = .returned (.tuple #[.agg zeroStCells, .int .i64 (runE d s)]) ∧ Below W.heap.size W w') := fun W hb =>
    running_bad P v sv s d _ (ht.below hb) (hc.below hb) (hv.keeps (keeps_below hb)) (hs.keeps (keeps_below hb)) hE h0 he hr
  obtain ⟨ao, n0, cap0, rfl⟩ := hv.shape
  obtain ⟨cs, rfl, hsz, hs2, -⟩ := hs.cells
  generalize runE d s = r at *
  have hcb : (r != 0) = true := by simpa using hr
  clear ht hc hv hs hE h0 he hr
  unfold Cp.val
  generalize hCC : cpuCells c = CC at *
  go_enter Tryd.func10, Tryd.ntmps10
  go_upto_region 1 with fail
  rw [show (#[.int .i64 0, .int .i64 0, .slice none 0 0, .int .i64 0, .int .i64 0, .int .i64 0, .int .i64 0, .int .i64 0, .int .i64 0, .int .i64 0, .int .i64 0, .int .i64 0, .int .i64 0, .int .i64 0, .int .i64 0, .int .i64 0, .int .i64 0, .int .i64 0, .int .i64 0, .int .i64 0, .slice none 0 0, .slice none 0 0] : Array Value) = zeroStCells from rfl]
  have r0 : ((((w.alloc (.cells #[.slice ao n0 cap0] 24)).alloc (.cells cs 29)).alloc (.cells CC.toArray 33)).alloc (.cells zeroStCells 29)).heap[w.heap.size]? = some (.cells #[.slice ao n0 cap0] 24 (0, 0)) := heap_alloc_old _ _ (by simp <;> omega) |>.trans (heap_alloc_old _ _ (by simp <;> omega) |>.trans (heap_alloc2_old _ _ _))
  have r1 : ((((w.alloc (.cells #[.slice ao n0 cap0] 24)).alloc (.cells cs 29)).alloc (.cells CC.toArray 33)).alloc (.cells zeroStCells 29)).heap[w.heap.size + 1]? = some (.cells cs 29 (0, 0)) := heap_alloc_old _ _ (by simp <;> omega) |>.trans (heap_alloc_old _ _ (by simp) |>.trans (heap_alloc2_new _ _ _))
  have r2 : ((((w.alloc (.cells #[.slice ao n0 cap0] 24)).alloc (.cells cs 29)).alloc (.cells CC.toArray 33)).alloc (.cells zeroStCells 29)).heap[w.heap.size + 1 + 1]? = some (.cells CC.toArray 33 (0, 0)) := heap_alloc_old _ _ (by simp) |>.trans (heap_alloc3_new _ _ _ _)
  have r3 : ((((w.alloc (.cells #[.slice ao n0 cap0] 24)).alloc (.cells cs 29)).alloc (.cells CC.toArray 33)).alloc (.cells zeroStCells 29)).heap[w.heap.size + 1 + 1 + 1]? = some (.cells zeroStCells 29 (0, 0)) := by
    have := heap_alloc_last (((w.alloc (.cells #[.slice ao n0 cap0] 24)).alloc (.cells cs 29)).alloc (.cells CC.toArray 33)) (.cells zeroStCells 29)
    simpa using this
  have HB0 : Hid (Below w.heap.size w ((((w.alloc (.cells #[.slice ao n0 cap0] 24)).alloc (.cells cs 29)).alloc (.cells CC.toArray 33)).alloc (.cells zeroStCells 29))) := ((((Below.refl _ _).alloc (Nat.le_refl _) _).alloc (by simp) _).alloc (by simp <;> omega) _).alloc (by simp <;> omega) _
  generalize ((((w.alloc (.cells #[.slice ao n0 cap0] 24)).alloc (.cells cs 29)).alloc (.cells CC.toArray 33)).alloc (.cells zeroStCells 29)) = W0 at *
  have hz0 := lt_of_block r3
  have kp0 : W0.cell? ⟨w.heap.size, 0, none⟩ = some (.slice ao n0 cap0) := by rw [cell_of_row _ _ _ _ _ _ r0]; rfl
  go_wp2_with (first
    | (refine wpList_load_row rfl _ _ rfl _ rfl _ _ _ _ r1 Tryd.underlying29 rfl hsz ?_)
    | (go_at_call 32; refine (HC.out _ HB0.out).mono ?_; rintro e w1 ⟨rfl, hb1⟩; have h5 := (hb1.block _ (lt_of_block r1)).trans r1; have r6 := (setRow_other w1 (w.heap.size + 1) zeroStCells (w.heap.size + 1 + 1 + 1) (by omega)).trans ((hb1.block _ (lt_of_block r3)).trans r3); have HB2 : Hid (Below w.heap.size w (w1.setRow (w.heap.size + 1) zeroStCells)) := belowSR (HB0.out.trans (hb1.mono HB0.out.size)) (by omega) _; clear hb1)
    | (refine wpList_store_row rfl _ _ _ rfl _ zeroStCells rfl rfl _ _ h5 infoSt hs2.symm zeroSt_one ?_)
    | (refine wpList_build_store rfl _ _ rfl zeroStCells (by simpa using built_zero) rfl _ _ rfl _ rfl rfl _ _ r6 infoSt rfl zeroSt_one ?_)
    | (refine wpList_build_to rfl _ _ rfl zeroStCells (by simpa using built_zero) ?_)
    | (refine wpList_store_row rfl _ _ _ rfl _ zeroStCells rfl rfl _ _ r6 infoSt rfl zeroSt_one ?_))
  try simp only [Exit.inBlock, Exit.then]
  exact bodyPost_ret (results_row_tmp rfl _ _ (w.heap.size + 1 + 1 + 1) 29 zeroStCells (0, 0) _ rfl (setRow_heap _ _ _ _ _ _ r6) Tryd.underlying29 rfl infoSt) rfl ⟨rfl, belowSR HB2.out (by omega) _⟩
end Go.Proofs.YteabbanjjdmjkaaDoor
