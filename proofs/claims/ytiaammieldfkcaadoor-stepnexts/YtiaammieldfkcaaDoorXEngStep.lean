/- Contract of the engine's step. -/
import Derived.Test.YtiaammieldfkcaaDoorXEngDo
import Derived.Test.YtiaammieldfkcaaDoorGroupB
namespace Go.Proofs.YtiaammieldfkcaaDoor
open Go Go.RowKit

set_option maxRecDepth 100000 in
set_option maxHeartbeats 2000000 in
theorem step_empty (base g : Nat) (P : List Fn) (pv : Value) (S : St) (fv ev av : Value) (w : World) (h : EngAt w base g P pv S fv ev av) (h0 : S.fuel = 0) :
    Calls Tryd.prog 34 #[.pointer (some ⟨g, 0, none⟩)] w (EngPost base g P pv { S with status := 2 } w) := by
  obtain ⟨q0, -, -, q19, -, -, qf⟩ := h.own
  have f0 := qf 0
  rw [h0] at q19
  have HE : Hid (EngAt w base g P pv S fv ev av) := h
  clear h qf h0
  go_enter Tryd.func34, Tryd.ntmps34
  go_wp2
  go_end0
  have h1 := HE.out.put 0 (.int .i64 2) { S with status := 2 } rfl HE.out.mem rfl rfl rfl
  exact ⟨rfl, _, _, _, h1.1, h1.2⟩

set_option maxRecDepth 100000 in
set_option maxHeartbeats 4000000 in
theorem step_more (base g : Nat) (P : List Fn) (pv : Value) (S : St) (fv ev av : Value) (fs : List Fr) (f : Fr) (w : World) (h : EngAt w base g P pv S fv ev av) (hS : S.frames = fs ++ [f]) (h0 : ¬ S.fuel = 0) (hf0 : 0 ≤ S.fuel) (hf1 : S.fuel ≤ 1000000) (hc : codeProg P = 0) (hp : placeB P f = true) (h9 : S.frames.length ≤ 8) (he : S.events.length * 8 + 8 ≤ 140737488355328) (hpl : ∀ c, fs.getLast? = some c → placeB P c = true) :
    Calls Tryd.prog 34 #[.pointer (some ⟨g, 0, none⟩)] w (EngPost base g P pv (if barredI (insOfFr P f) (regD f (insOfFr P f).a) (regD f (insOfFr P f).b) = 0 then doS P { S with fuel := S.fuel - 1, status := 0 } fs f (insOfFr P f) else { S with status := barredI (insOfFr P f) (regD f (insOfFr P f).a) (regD f (insOfFr P f).b) }) w) := by
  obtain ⟨fb, cap, rfl⟩ := h.fshape (by rw [hS]; simp)
  have hx := place_ins hc hp
  obtain ⟨kk, jj, hkk, hjj, -, hpc, -, -⟩ := place_nat hp
  have hl40 := (fnOk_of hc (List.getElem_mem hkk)).1.len2
  have p0 : 0 ≤ f.pc := by omega
  have p1 : f.pc ≤ 1000000 := by omega
  have HAT : Hid (∀ (w1 : World), Below w.heap.size w w1 → Calls Tryd.prog 44 #[.pointer (some ⟨g, 0, none⟩), .pointer (some ⟨fb, fs.length * 14, none⟩)] w1 fun e w' => e = .returned (insOfFr P f).val ∧ Below w1.heap.size w1 w') := fun w1 hb => at_eng (h.below hb) hS hp
  generalize insOfFr P f = x at hx HAT ⊢
  have HX : Hid (InsOk P x) := hx
  obtain ⟨ka, ha⟩ := Int.eq_ofNat_of_zero_le hx.a0
  obtain ⟨kb, hb⟩ := Int.eq_ofNat_of_zero_le hx.b0
  have la : (ka : Int) < 12 := by have := hx.a1; omega
  have lb : (kb : Int) < 12 := by have := hx.b1; omega
  have HDO := fun (w1 : World) S1 ev1 av1 (h1 : EngAt w1 base g P pv S1 (.slice (some ⟨fb, 0, none⟩) S.frames.length cap) ev1 av1) (e1 : S1.frames = fs ++ [f]) (e2 : S1.frames.length ≤ 8) (e3 : S1.events.length * 8 + 8 ≤ 140737488355328) (hbb : barredI x (regD f x.a) (regD f x.b) = 0) =>
    do_any base g P pv S1 fb S.frames.length cap ev1 av1 fs f x w1 ⟨h1, e1, hc, hx, p0, p1⟩ hbb e2 e3 hpl
  have HRG : Hid (∀ w1, Below w.heap.size w w1 → w1.cell? ⟨fb, fs.length * 14 + 2 + ka, none⟩ = some (.int .i64 (regD f x.a)) ∧ w1.cell? ⟨fb, fs.length * 14 + 2 + kb, none⟩ = some (.int .i64 (regD f x.b))) := fun w1 hbw => by
    obtain ⟨-, -, -, -, -, l2, -⟩ := (h.below hbw).lastCells hS
    refine ⟨?_, ?_⟩
    · rw [l2 ka (by omega)]; unfold regD; rw [ha]; rfl
    · rw [l2 kb (by omega)]; unfold regD; rw [hb]; rfl
  have HDX : Hid _ := HDO
  obtain ⟨-, -, -, q19, -, -, qf⟩ := h.own
  have HE : Hid (EngAt w base g P pv S (.slice (some ⟨fb, 0, none⟩) S.frames.length cap) ev av) := h
  have HS : Hid (S.frames = fs ++ [f]) := hS
  have HFE : Hid (S.frames.length ≤ 8 ∧ S.events.length * 8 + 8 ≤ 140737488355328) := ⟨h9, he⟩
  have HFU : Hid (0 ≤ S.fuel ∧ S.fuel ≤ 1000000 ∧ ¬ S.fuel = 0) := ⟨hf0, hf1, h0⟩
  clear HDO h hS h9 he hpl hx hp hpc qf hl40
  generalize regD f x.a = va at HRG HDX ⊢
  generalize regD f x.b = vb at HRG HDX ⊢
  obtain ⟨xo, xd, xa, xb, xi⟩ := x
  dsimp only at ha hb
  subst ha hb
  unfold Ins.val at HAT HDX
  dsimp only at HAT HDX
  have HWX : Hid (∀ (w1 : World), Below w.heap.size w w1 → EngAt w1 base g P pv S (.slice (some ⟨fb, 0, none⟩) S.frames.length cap) ev av) := fun w1 hb => HE.out.below hb
  by_cases hB : barredI ⟨xo, xd, ka, kb, xi⟩ va vb = 0
  · rw [if_pos hB]
    have HBB : Hid (barredI ⟨xo, xd, ka, kb, xi⟩ va vb = 0) := hB
    have HBA : Hid (∀ W, Calls Tryd.prog 45 #[.agg #[.int .i64 xo, .int .i64 xd, .int .i64 (ka : Int), .int .i64 (kb : Int), .int .i64 xi], .int .i64 va, .int .i64 vb] W fun e w' => e = .returned (.int .i64 0) ∧ Below W.heap.size W w') := fun W => by
      have := barred_any ⟨xo, xd, ka, kb, xi⟩ va vb W
      rw [hB] at this
      exact this
    clear hB
    go_enter Tryd.func34, Tryd.ntmps34
    go_wp2_with (first
      | (go_at_call 33; refine (last_eng HE.out HS.out).mono ?_; rintro e w1 ⟨rfl, hb1⟩)
      | (go_at_call 44; refine (HAT.out _ hb1).mono ?_; rintro e w2 ⟨rfl, hb2⟩))
    have HB0 : Hid (Below w.heap.size w (w2.alloc (.cells #[.int .i64 xo, .int .i64 xd, .int .i64 (ka : Int), .int .i64 (kb : Int), .int .i64 xi] 66))) := (hb1.trans (hb2.mono hb1.size)).alloc (by have := hb1.size; have := hb2.size; omega) _
    have HZ2 : Hid (w.heap.size ≤ w2.heap.size) := by have := hb1.size; have := hb2.size; show _ ≤ _; omega
    obtain ⟨RA, RB⟩ := HRG.out _ HB0.out
    have B0 : (w2.alloc (.cells #[.int .i64 xo, .int .i64 xd, .int .i64 (ka : Int), .int .i64 (kb : Int), .int .i64 xi] 66)).cell? ⟨w2.heap.size, 0, none⟩ = some (.int .i64 xo) := by rw [cell_of_row _ _ _ _ _ _ (heap_alloc_last w2 _)]; rfl
    have B1 : (w2.alloc (.cells #[.int .i64 xo, .int .i64 xd, .int .i64 (ka : Int), .int .i64 (kb : Int), .int .i64 xi] 66)).cell? ⟨w2.heap.size, 1, none⟩ = some (.int .i64 xd) := by rw [cell_of_row _ _ _ _ _ _ (heap_alloc_last w2 _)]; rfl
    have B2 : (w2.alloc (.cells #[.int .i64 xo, .int .i64 xd, .int .i64 (ka : Int), .int .i64 (kb : Int), .int .i64 xi] 66)).cell? ⟨w2.heap.size, 2, none⟩ = some (.int .i64 (ka : Int)) := by rw [cell_of_row _ _ _ _ _ _ (heap_alloc_last w2 _)]; rfl
    have B3 : (w2.alloc (.cells #[.int .i64 xo, .int .i64 xd, .int .i64 (ka : Int), .int .i64 (kb : Int), .int .i64 xi] 66)).cell? ⟨w2.heap.size, 3, none⟩ = some (.int .i64 (kb : Int)) := by rw [cell_of_row _ _ _ _ _ _ (heap_alloc_last w2 _)]; rfl
    have B4 : (w2.alloc (.cells #[.int .i64 xo, .int .i64 xd, .int .i64 (ka : Int), .int .i64 (kb : Int), .int .i64 xi] 66)).cell? ⟨w2.heap.size, 4, none⟩ = some (.int .i64 xi) := by rw [cell_of_row _ _ _ _ _ _ (heap_alloc_last w2 _)]; rfl
    clear hb1 hb2
    refine wp_region_last (S := fun W => Below (w2.alloc (.cells #[.int .i64 xo, .int .i64 xd, .int .i64 (ka : Int), .int .i64 (kb : Int), .int .i64 xi] 66)).heap.size (w2.alloc (.cells #[.int .i64 xo, .int .i64 xd, .int .i64 (ka : Int), .int .i64 (kb : Int), .int .i64 xi] 66)) W) _ 20 (by kernel_rfl) (by kernel_rfl) rfl ((Below.refl _ _).drew) (fun hHeld => ?_)
    simp only [List.pop_toArray, List.dropLast]
    refine wpAnyH_take (i := 0) (v := ?_) rfl (by kernel_rfl) (by kernel_rfl) (by kernel_rfl) (fun _ _ _ h => h) (Or.inl ⟨by rfl, ?_⟩) (by assumption) ?_
    rotate_left
    · (intro W hSW; go_simp; try (with_reducible rfl))
    (try simp only [Act.put, List.setIfInBounds_toArray])
    refine wpAnyH_take (i := 1) (v := ?_) rfl (by kernel_rfl) (by kernel_rfl) (by kernel_rfl) (fun _ _ _ h => h) (Or.inl ⟨by rfl, ?_⟩) (by assumption) ?_
    rotate_left
    · (intro W hSW; have z0 := keeps_below hSW _ _ B0; have z1 := keeps_below hSW _ _ B1; have z2 := keeps_below hSW _ _ B2; have z3 := keeps_below hSW _ _ B3; have z4 := keeps_below hSW _ _ B4; go_simp; try (with_reducible rfl))
    (try simp only [Act.put])
    refine wpAnyH_take (i := 2) (v := ?_) rfl (by kernel_rfl) (by kernel_rfl) (by kernel_rfl) (fun _ _ _ h => h) (Or.inl ⟨by rfl, ?_⟩) (by assumption) ?_
    rotate_left
    · (intro W hSW; go_simp; try (with_reducible rfl))
    (try simp only [Act.put])
    refine wpAnyH_take (i := 3) (v := ?_) rfl (by kernel_rfl) (by kernel_rfl) (by kernel_rfl) (fun _ _ _ h => h) (Or.inl ⟨by rfl, ?_⟩) (by assumption) ?_
    rotate_left
    · (intro W hSW; go_simp; try (with_reducible rfl))
    (try simp only [Act.put])
    refine wpAnyH_take (i := 4) (v := ?_) rfl (by kernel_rfl) (by kernel_rfl) (by kernel_rfl) (fun _ _ _ h => h) (Or.inl ⟨by rfl, ?_⟩) (by assumption) ?_
    rotate_left
    · (intro W hSW; have z0 := keeps_below hSW _ _ B2; go_simp; try (with_reducible rfl))
    (try simp only [Act.put])
    refine wpAnyH_take (i := 5) (v := ?_) rfl (by kernel_rfl) (by kernel_rfl) (by kernel_rfl) (fun _ _ _ h => h) (Or.inl ⟨by rfl, ?_⟩) (by assumption) ?_
    rotate_left
    · (intro W hSW; go_simp; try (with_reducible rfl))
    (try simp only [Act.put])
    refine wpAnyH_take (i := 6) (v := ?_) rfl (by kernel_rfl) (by kernel_rfl) (by kernel_rfl) (fun _ _ _ h => h) (Or.inl ⟨by rfl, ?_⟩) (by assumption) ?_
    rotate_left
    · (intro W hSW; go_simp; try (with_reducible rfl))
    (try simp only [Act.put])
    refine wpAnyH_take (i := 7) (v := ?_) rfl (by kernel_rfl) (by kernel_rfl) (by kernel_rfl) (fun _ _ _ h => h) (Or.inl ⟨by rfl, ?_⟩) (by assumption) ?_
    rotate_left
    · (intro W hSW; go_simp; try (with_reducible rfl))
    (try simp only [Act.put])
    refine wpAnyH_take (i := 8) (v := ?_) rfl (by kernel_rfl) (by kernel_rfl) (by kernel_rfl) (fun _ _ _ h => h) (Or.inl ⟨by rfl, ?_⟩) (by assumption) ?_
    rotate_left
    · (intro W hSW; have z0 := keeps_below hSW _ _ RA; go_simp; try (with_reducible rfl))
    (try simp only [Act.put])
    refine wpAnyH_take (i := 9) (v := ?_) rfl (by kernel_rfl) (by kernel_rfl) (by kernel_rfl) (fun _ _ _ h => h) (Or.inl ⟨by rfl, ?_⟩) (by assumption) ?_
    rotate_left
    · (intro W hSW; go_simp; try (with_reducible rfl))
    (try simp only [Act.put])
    refine wpAnyH_take (i := 10) (v := ?_) rfl (by kernel_rfl) (by kernel_rfl) (by kernel_rfl) (fun _ _ _ h => h) (Or.inl ⟨by rfl, ?_⟩) (by assumption) ?_
    rotate_left
    · (intro W hSW; go_simp; try (with_reducible rfl))
    (try simp only [Act.put])
    refine wpAnyH_take (i := 11) (v := ?_) rfl (by kernel_rfl) (by kernel_rfl) (by kernel_rfl) (fun _ _ _ h => h) (Or.inl ⟨by rfl, ?_⟩) (by assumption) ?_
    rotate_left
    · (intro W hSW; have z0 := keeps_below hSW _ _ B3; go_simp; try (with_reducible rfl))
    (try simp only [Act.put])
    refine wpAnyH_take (i := 12) (v := ?_) rfl (by kernel_rfl) (by kernel_rfl) (by kernel_rfl) (fun _ _ _ h => h) (Or.inl ⟨by rfl, ?_⟩) (by assumption) ?_
    rotate_left
    · (intro W hSW; go_simp; try (with_reducible rfl))
    (try simp only [Act.put])
    refine wpAnyH_take (i := 13) (v := ?_) rfl (by kernel_rfl) (by kernel_rfl) (by kernel_rfl) (fun _ _ _ h => h) (Or.inl ⟨by rfl, ?_⟩) (by assumption) ?_
    rotate_left
    · (intro W hSW; go_simp; try (with_reducible rfl))
    (try simp only [Act.put])
    refine wpAnyH_take (i := 14) (v := ?_) rfl (by kernel_rfl) (by kernel_rfl) (by kernel_rfl) (fun _ _ _ h => h) (Or.inl ⟨by rfl, ?_⟩) (by assumption) ?_
    rotate_left
    · (intro W hSW; go_simp; try (with_reducible rfl))
    (try simp only [Act.put])
    refine wpAnyH_take (i := 15) (v := ?_) rfl (by kernel_rfl) (by kernel_rfl) (by kernel_rfl) (fun _ _ _ h => h) (Or.inl ⟨by rfl, ?_⟩) (by assumption) ?_
    rotate_left
    · (intro W hSW; have z0 := keeps_below hSW _ _ RB; go_simp; try (with_reducible rfl))
    (try simp only [Act.put])
    refine wpAnyH_ready (rs := [16]) (by kernel_rfl) (by simp) ?_
    refine AllReadyH.cons rfl (fun K hK => ?_) AllReadyH.nil
    go_simp
    go_at_call 45
    refine (HBA.out _).mono ?_
    rintro e w3 ⟨rfl, hb3⟩
    have HB3 : Hid (Below (w2.alloc (.cells #[.int .i64 xo, .int .i64 xd, .int .i64 (ka : Int), .int .i64 (kb : Int), .int .i64 xi] 66)).heap.size (w2.alloc (.cells #[.int .i64 xo, .int .i64 xd, .int .i64 (ka : Int), .int .i64 (kb : Int), .int .i64 xi] 66)) w3) := (Below.refl _ _).drew.trans (hb3.mono (Nat.le_refl _))
    dsimp only
    refine hK.out _ _ HB3.out (fun _ => ?_)
    clear hK K
    (try simp only [Act.put, List.setIfInBounds_toArray, List.set_cons_zero, List.set_cons_succ])
    refine wpAnyH_take (i := 17) (v := ?_) rfl (by kernel_rfl) (by kernel_rfl) (by kernel_rfl) (fun _ _ _ h => h) (Or.inl ⟨by rfl, ?_⟩) HB3.out ?_
    rotate_left
    · (intro W hSW; go_simp; try (with_reducible rfl))
    (try simp only [Act.put, List.setIfInBounds_toArray])
    refine wpAnyH_take (i := 18) (v := ?_) rfl (by kernel_rfl) (by kernel_rfl) (by kernel_rfl) (fun _ _ _ h => h) (Or.inl ⟨by rfl, ?_⟩) HB3.out ?_
    rotate_left
    · (intro W hSW; go_simp; try (with_reducible rfl))
    (try simp only [Act.put])
    refine wpAnyH_take (i := 19) (v := ?_) rfl (by kernel_rfl) (by kernel_rfl) (by kernel_rfl) (fun _ _ _ h => h) (Or.inl ⟨by rfl, ?_⟩) HB3.out ?_
    rotate_left
    · (intro W hSW; go_simp; try (with_reducible rfl))
    (try simp only [Act.put])
    refine wpAnyH_done (by kernel_rfl) ?_ _
    refine Or.inl ?_
    have HE3 : Hid (EngAt w3 base g P pv S (.slice (some ⟨fb, 0, none⟩) S.frames.length cap) ev av) := HWX.out _ (HB0.out.trans (HB3.out.mono (by have := HZ2.out; simp; omega)))
    have HBW3 : Hid (Below base w w3) := (HB0.out.trans (HB3.out.mono (by have := HZ2.out; simp; omega))).mono HE.out.base
    have E4 := HE3.out.put 0 (.int .i64 0) { S with status := 0 } rfl HE3.out.mem rfl rfl rfl
    obtain ⟨r0, -, -, -, -, -, rf⟩ := HE3.out.own
    have f0 := rf 0
    obtain ⟨s0, -, -, s19, -, -, sf⟩ := E4.1.own
    have f19 := sf 19
    have E5 := E4.1.put 19 (.int .i64 (S.fuel - 1)) { S with status := 0, fuel := S.fuel - 1 } (engCells_fuel (S := { S with status := 0 }) _ _ _ _ HE3.out.mem _) HE3.out.mem rfl rfl rfl
    have hne : w2.heap.size ≠ g := by have := lt_of_block HE.out.cells; have := HZ2.out; omega
    have c0 : ((w3.setCell ⟨g, 0, none⟩ (.int .i64 0)).setCell ⟨g, 19, none⟩ (.int .i64 (S.fuel - 1))).cell? ⟨w2.heap.size, 0, none⟩ = some (.int .i64 xo) := cell_setCell_other (cell_setCell_other (keeps_below HB3.out _ _ B0) hne) hne
    have c1 : ((w3.setCell ⟨g, 0, none⟩ (.int .i64 0)).setCell ⟨g, 19, none⟩ (.int .i64 (S.fuel - 1))).cell? ⟨w2.heap.size, 1, none⟩ = some (.int .i64 xd) := cell_setCell_other (cell_setCell_other (keeps_below HB3.out _ _ B1) hne) hne
    have c2 : ((w3.setCell ⟨g, 0, none⟩ (.int .i64 0)).setCell ⟨g, 19, none⟩ (.int .i64 (S.fuel - 1))).cell? ⟨w2.heap.size, 2, none⟩ = some (.int .i64 (ka : Int)) := cell_setCell_other (cell_setCell_other (keeps_below HB3.out _ _ B2) hne) hne
    have c3 : ((w3.setCell ⟨g, 0, none⟩ (.int .i64 0)).setCell ⟨g, 19, none⟩ (.int .i64 (S.fuel - 1))).cell? ⟨w2.heap.size, 3, none⟩ = some (.int .i64 (kb : Int)) := cell_setCell_other (cell_setCell_other (keeps_below HB3.out _ _ B3) hne) hne
    have c4 : ((w3.setCell ⟨g, 0, none⟩ (.int .i64 0)).setCell ⟨g, 19, none⟩ (.int .i64 (S.fuel - 1))).cell? ⟨w2.heap.size, 4, none⟩ = some (.int .i64 xi) := cell_setCell_other (cell_setCell_other (keeps_below HB3.out _ _ B4) hne) hne
    have hw1 : IntKind.i64.wrap (S.fuel - 1) = S.fuel - 1 := wrap_fits _ (by have := HFU.out; omega) (by have := HFU.out; omega)
    have HE5 : Hid _ := E5.1
    have HB5 : Hid (Below base w ((w3.setCell ⟨g, 0, none⟩ (.int .i64 0)).setCell ⟨g, 19, none⟩ (.int .i64 (S.fuel - 1)))) := (HBW3.out.trans E4.2).trans E5.2
    clear E4 E5 rf sf B0 B1 B2 B3 B4 RA RB hne hb3 hHeld
    go_simp
    go_wp2_with (go_at_call 46; refine (HDX.out _ _ _ _ HE5.out HS.out HFE.out.1 HFE.out.2 HBB.out).mono ?_; rintro e w6 ⟨rfl, fv6, ev6, av6, he6, hb6⟩)
    try simp only [Exit.inBlock, Exit.then]
    go_end0
    exact ⟨rfl, _, _, _, he6, HB5.out.trans hb6⟩
  · rw [if_neg hB]
    have HBA : Hid (∀ W, Calls Tryd.prog 45 #[.agg #[.int .i64 xo, .int .i64 xd, .int .i64 (ka : Int), .int .i64 (kb : Int), .int .i64 xi], .int .i64 va, .int .i64 vb] W fun e w' => e = .returned (.int .i64 (barredI ⟨xo, xd, ka, kb, xi⟩ va vb)) ∧ Below W.heap.size W w') := fun W => barred_any ⟨xo, xd, ka, kb, xi⟩ va vb W
    generalize barredI ⟨xo, xd, ka, kb, xi⟩ va vb = B at hB HBA ⊢
    go_enter Tryd.func34, Tryd.ntmps34
    go_wp2_with (first
      | (go_at_call 33; refine (last_eng HE.out HS.out).mono ?_; rintro e w1 ⟨rfl, hb1⟩)
      | (go_at_call 44; refine (HAT.out _ hb1).mono ?_; rintro e w2 ⟨rfl, hb2⟩))
    have HB0 : Hid (Below w.heap.size w (w2.alloc (.cells #[.int .i64 xo, .int .i64 xd, .int .i64 (ka : Int), .int .i64 (kb : Int), .int .i64 xi] 66))) := (hb1.trans (hb2.mono hb1.size)).alloc (by have := hb1.size; have := hb2.size; omega) _
    have HZ2 : Hid (w.heap.size ≤ w2.heap.size) := by have := hb1.size; have := hb2.size; show _ ≤ _; omega
    obtain ⟨RA, RB⟩ := HRG.out _ HB0.out
    have B0 : (w2.alloc (.cells #[.int .i64 xo, .int .i64 xd, .int .i64 (ka : Int), .int .i64 (kb : Int), .int .i64 xi] 66)).cell? ⟨w2.heap.size, 0, none⟩ = some (.int .i64 xo) := by rw [cell_of_row _ _ _ _ _ _ (heap_alloc_last w2 _)]; rfl
    have B1 : (w2.alloc (.cells #[.int .i64 xo, .int .i64 xd, .int .i64 (ka : Int), .int .i64 (kb : Int), .int .i64 xi] 66)).cell? ⟨w2.heap.size, 1, none⟩ = some (.int .i64 xd) := by rw [cell_of_row _ _ _ _ _ _ (heap_alloc_last w2 _)]; rfl
    have B2 : (w2.alloc (.cells #[.int .i64 xo, .int .i64 xd, .int .i64 (ka : Int), .int .i64 (kb : Int), .int .i64 xi] 66)).cell? ⟨w2.heap.size, 2, none⟩ = some (.int .i64 (ka : Int)) := by rw [cell_of_row _ _ _ _ _ _ (heap_alloc_last w2 _)]; rfl
    have B3 : (w2.alloc (.cells #[.int .i64 xo, .int .i64 xd, .int .i64 (ka : Int), .int .i64 (kb : Int), .int .i64 xi] 66)).cell? ⟨w2.heap.size, 3, none⟩ = some (.int .i64 (kb : Int)) := by rw [cell_of_row _ _ _ _ _ _ (heap_alloc_last w2 _)]; rfl
    have B4 : (w2.alloc (.cells #[.int .i64 xo, .int .i64 xd, .int .i64 (ka : Int), .int .i64 (kb : Int), .int .i64 xi] 66)).cell? ⟨w2.heap.size, 4, none⟩ = some (.int .i64 xi) := by rw [cell_of_row _ _ _ _ _ _ (heap_alloc_last w2 _)]; rfl
    clear hb1 hb2
    refine wp_region_last (S := fun W => Below (w2.alloc (.cells #[.int .i64 xo, .int .i64 xd, .int .i64 (ka : Int), .int .i64 (kb : Int), .int .i64 xi] 66)).heap.size (w2.alloc (.cells #[.int .i64 xo, .int .i64 xd, .int .i64 (ka : Int), .int .i64 (kb : Int), .int .i64 xi] 66)) W) _ 20 (by kernel_rfl) (by kernel_rfl) rfl ((Below.refl _ _).drew) (fun hHeld => ?_)
    simp only [List.pop_toArray, List.dropLast]
    refine wpAnyH_take (i := 0) (v := ?_) rfl (by kernel_rfl) (by kernel_rfl) (by kernel_rfl) (fun _ _ _ h => h) (Or.inl ⟨by rfl, ?_⟩) (by assumption) ?_
    rotate_left
    · (intro W hSW; go_simp; try (with_reducible rfl))
    (try simp only [Act.put, List.setIfInBounds_toArray])
    refine wpAnyH_take (i := 1) (v := ?_) rfl (by kernel_rfl) (by kernel_rfl) (by kernel_rfl) (fun _ _ _ h => h) (Or.inl ⟨by rfl, ?_⟩) (by assumption) ?_
    rotate_left
    · (intro W hSW; have z0 := keeps_below hSW _ _ B0; have z1 := keeps_below hSW _ _ B1; have z2 := keeps_below hSW _ _ B2; have z3 := keeps_below hSW _ _ B3; have z4 := keeps_below hSW _ _ B4; go_simp; try (with_reducible rfl))
    (try simp only [Act.put])
    refine wpAnyH_take (i := 2) (v := ?_) rfl (by kernel_rfl) (by kernel_rfl) (by kernel_rfl) (fun _ _ _ h => h) (Or.inl ⟨by rfl, ?_⟩) (by assumption) ?_
    rotate_left
    · (intro W hSW; go_simp; try (with_reducible rfl))
    (try simp only [Act.put])
    refine wpAnyH_take (i := 3) (v := ?_) rfl (by kernel_rfl) (by kernel_rfl) (by kernel_rfl) (fun _ _ _ h => h) (Or.inl ⟨by rfl, ?_⟩) (by assumption) ?_
    rotate_left
    · (intro W hSW; go_simp; try (with_reducible rfl))
    (try simp only [Act.put])
    refine wpAnyH_take (i := 4) (v := ?_) rfl (by kernel_rfl) (by kernel_rfl) (by kernel_rfl) (fun _ _ _ h => h) (Or.inl ⟨by rfl, ?_⟩) (by assumption) ?_
    rotate_left
    · (intro W hSW; have z0 := keeps_below hSW _ _ B2; go_simp; try (with_reducible rfl))
    (try simp only [Act.put])
    refine wpAnyH_take (i := 5) (v := ?_) rfl (by kernel_rfl) (by kernel_rfl) (by kernel_rfl) (fun _ _ _ h => h) (Or.inl ⟨by rfl, ?_⟩) (by assumption) ?_
    rotate_left
    · (intro W hSW; go_simp; try (with_reducible rfl))
    (try simp only [Act.put])
    refine wpAnyH_take (i := 6) (v := ?_) rfl (by kernel_rfl) (by kernel_rfl) (by kernel_rfl) (fun _ _ _ h => h) (Or.inl ⟨by rfl, ?_⟩) (by assumption) ?_
    rotate_left
    · (intro W hSW; go_simp; try (with_reducible rfl))
    (try simp only [Act.put])
    refine wpAnyH_take (i := 7) (v := ?_) rfl (by kernel_rfl) (by kernel_rfl) (by kernel_rfl) (fun _ _ _ h => h) (Or.inl ⟨by rfl, ?_⟩) (by assumption) ?_
    rotate_left
    · (intro W hSW; go_simp; try (with_reducible rfl))
    (try simp only [Act.put])
    refine wpAnyH_take (i := 8) (v := ?_) rfl (by kernel_rfl) (by kernel_rfl) (by kernel_rfl) (fun _ _ _ h => h) (Or.inl ⟨by rfl, ?_⟩) (by assumption) ?_
    rotate_left
    · (intro W hSW; have z0 := keeps_below hSW _ _ RA; go_simp; try (with_reducible rfl))
    (try simp only [Act.put])
    refine wpAnyH_take (i := 9) (v := ?_) rfl (by kernel_rfl) (by kernel_rfl) (by kernel_rfl) (fun _ _ _ h => h) (Or.inl ⟨by rfl, ?_⟩) (by assumption) ?_
    rotate_left
    · (intro W hSW; go_simp; try (with_reducible rfl))
    (try simp only [Act.put])
    refine wpAnyH_take (i := 10) (v := ?_) rfl (by kernel_rfl) (by kernel_rfl) (by kernel_rfl) (fun _ _ _ h => h) (Or.inl ⟨by rfl, ?_⟩) (by assumption) ?_
    rotate_left
    · (intro W hSW; go_simp; try (with_reducible rfl))
    (try simp only [Act.put])
    refine wpAnyH_take (i := 11) (v := ?_) rfl (by kernel_rfl) (by kernel_rfl) (by kernel_rfl) (fun _ _ _ h => h) (Or.inl ⟨by rfl, ?_⟩) (by assumption) ?_
    rotate_left
    · (intro W hSW; have z0 := keeps_below hSW _ _ B3; go_simp; try (with_reducible rfl))
    (try simp only [Act.put])
    refine wpAnyH_take (i := 12) (v := ?_) rfl (by kernel_rfl) (by kernel_rfl) (by kernel_rfl) (fun _ _ _ h => h) (Or.inl ⟨by rfl, ?_⟩) (by assumption) ?_
    rotate_left
    · (intro W hSW; go_simp; try (with_reducible rfl))
    (try simp only [Act.put])
    refine wpAnyH_take (i := 13) (v := ?_) rfl (by kernel_rfl) (by kernel_rfl) (by kernel_rfl) (fun _ _ _ h => h) (Or.inl ⟨by rfl, ?_⟩) (by assumption) ?_
    rotate_left
    · (intro W hSW; go_simp; try (with_reducible rfl))
    (try simp only [Act.put])
    refine wpAnyH_take (i := 14) (v := ?_) rfl (by kernel_rfl) (by kernel_rfl) (by kernel_rfl) (fun _ _ _ h => h) (Or.inl ⟨by rfl, ?_⟩) (by assumption) ?_
    rotate_left
    · (intro W hSW; go_simp; try (with_reducible rfl))
    (try simp only [Act.put])
    refine wpAnyH_take (i := 15) (v := ?_) rfl (by kernel_rfl) (by kernel_rfl) (by kernel_rfl) (fun _ _ _ h => h) (Or.inl ⟨by rfl, ?_⟩) (by assumption) ?_
    rotate_left
    · (intro W hSW; have z0 := keeps_below hSW _ _ RB; go_simp; try (with_reducible rfl))
    (try simp only [Act.put])
    refine wpAnyH_ready (rs := [16]) (by kernel_rfl) (by simp) ?_
    refine AllReadyH.cons rfl (fun K hK => ?_) AllReadyH.nil
    go_simp
    go_at_call 45
    refine (HBA.out _).mono ?_
    rintro e w3 ⟨rfl, hb3⟩
    have HB3 : Hid (Below (w2.alloc (.cells #[.int .i64 xo, .int .i64 xd, .int .i64 (ka : Int), .int .i64 (kb : Int), .int .i64 xi] 66)).heap.size (w2.alloc (.cells #[.int .i64 xo, .int .i64 xd, .int .i64 (ka : Int), .int .i64 (kb : Int), .int .i64 xi] 66)) w3) := (Below.refl _ _).drew.trans (hb3.mono (Nat.le_refl _))
    dsimp only
    refine hK.out _ _ HB3.out (fun _ => ?_)
    clear hK K
    (try simp only [Act.put, List.setIfInBounds_toArray, List.set_cons_zero, List.set_cons_succ])
    refine wpAnyH_take (i := 17) (v := ?_) rfl (by kernel_rfl) (by kernel_rfl) (by kernel_rfl) (fun _ _ _ h => h) (Or.inl ⟨by rfl, ?_⟩) HB3.out ?_
    rotate_left
    · (intro W hSW; go_simp; try (with_reducible rfl))
    (try simp only [Act.put, List.setIfInBounds_toArray])
    refine wpAnyH_take (i := 18) (v := ?_) rfl (by kernel_rfl) (by kernel_rfl) (by kernel_rfl) (fun _ _ _ h => h) (Or.inl ⟨by rfl, ?_⟩) HB3.out ?_
    rotate_left
    · (intro W hSW; go_simp; try (with_reducible rfl))
    (try simp only [Act.put])
    refine wpAnyH_take (i := 19) (v := ?_) rfl (by kernel_rfl) (by kernel_rfl) (by kernel_rfl) (fun _ _ _ h => h) (Or.inl ⟨by rfl, ?_⟩) HB3.out ?_
    rotate_left
    · (intro W hSW; go_simp; try (with_reducible rfl))
    (try simp only [Act.put])
    refine wpAnyH_done (by kernel_rfl) ?_ _
    refine Or.inl ?_
    have HE3 : Hid (EngAt w3 base g P pv S (.slice (some ⟨fb, 0, none⟩) S.frames.length cap) ev av) := HWX.out _ (HB0.out.trans (HB3.out.mono (by have := HZ2.out; simp; omega)))
    have HBW3 : Hid (Below base w w3) := (HB0.out.trans (HB3.out.mono (by have := HZ2.out; simp; omega))).mono HE.out.base
    have E4 := HE3.out.put 0 (.int .i64 B) { S with status := B } rfl HE3.out.mem rfl rfl rfl
    obtain ⟨r0, -, -, -, -, -, rf⟩ := HE3.out.own
    have f0 := rf 0
    obtain ⟨s0, -, -, s19, -, -, sf⟩ := E4.1.own
    have HE4 : Hid _ := E4.1
    have HB4 : Hid (Below base w (w3.setCell ⟨g, 0, none⟩ (.int .i64 B))) := HBW3.out.trans E4.2
    clear E4 rf sf B0 B1 B2 B3 B4 RA RB hb3 hHeld
    go_simp
    go_wp2
    try simp only [Exit.inBlock, Exit.then]
    go_end0
    exact ⟨rfl, _, _, _, HE4.out, HB4.out⟩
end Go.Proofs.YtiaammieldfkcaaDoor
