/- Texts put together: EngStep, StAt, EngWalk, EngNext, EngWalkO. -/
import Derived.Test.YtgdmdlkhnokieaaDoorXEngDo
import Derived.Test.YtgdmdlkhnokieaaDoorGroupB
import Derived.Test.YtgdmdlkhnokieaaDoorGroupC
import Derived.Test.YtgdmdlkhnokieaaDoorGroupD
/- Contract of the engine's step. -/
namespace Go.Proofs.YtgdmdlkhnokieaaDoor
open Go Go.RowKit

set_option maxRecDepth 100000 in
set_option maxHeartbeats 2000000 in
theorem step_empty (base g : Nat) (P : List Fn) (pv : Value) (S : St) (fv ev av : Value) (w : World) (h : EngAt w base g P pv S fv ev av) (h0 : S.fuel = 0) :
    Calls Tryd.prog 22 #[.pointer (some ⟨g, 0, none⟩)] w (EngPost base g P pv { S with status := 2 } w) := by
  obtain ⟨q0, -, -, q19, -, -, qf⟩ := h.own
  have f0 := qf 0
  rw [h0] at q19
  have HE : Hid (EngAt w base g P pv S fv ev av) := h
  clear h qf h0
  go_enter Tryd.func22, Tryd.ntmps22
  go_wp2
  go_end0
  have h1 := HE.out.put 0 (.int .i64 2) { S with status := 2 } rfl HE.out.mem rfl rfl rfl
  exact ⟨rfl, _, _, _, h1.1, h1.2⟩

set_option maxRecDepth 100000 in
set_option maxHeartbeats 4000000 in
theorem step_more (base g : Nat) (P : List Fn) (pv : Value) (S : St) (fv ev av : Value) (fs : List Fr) (f : Fr) (w : World) (h : EngAt w base g P pv S fv ev av) (hS : S.frames = fs ++ [f]) (h0 : ¬ S.fuel = 0) (hf0 : 0 ≤ S.fuel) (hf1 : S.fuel ≤ 1000000) (hc : codeProg P = 0) (hp : placeB P f = true) (h9 : S.frames.length ≤ 8) (he : S.events.length * 8 + 8 ≤ 140737488355328) (hpl : ∀ c, fs.getLast? = some c → placeB P c = true) :
    Calls Tryd.prog 22 #[.pointer (some ⟨g, 0, none⟩)] w (EngPost base g P pv (if barredI (insOfFr P f) (regD f (insOfFr P f).a) (regD f (insOfFr P f).b) = 0 then doS P { S with fuel := S.fuel - 1, status := 0 } fs f (insOfFr P f) else { S with status := barredI (insOfFr P f) (regD f (insOfFr P f).a) (regD f (insOfFr P f).b) }) w) := by
  obtain ⟨fb, cap, rfl⟩ := h.fshape (by rw [hS]; simp)
  have hx := place_ins hc hp
  obtain ⟨kk, jj, hkk, hjj, -, hpc, -, -⟩ := place_nat hp
  have hl40 := (fnOk_of hc (List.getElem_mem hkk)).1.len2
  have p0 : 0 ≤ f.pc := by omega
  have p1 : f.pc ≤ 1000000 := by omega
  have HAT : Hid (∀ (w1 : World), Below w.heap.size w w1 → Calls Tryd.prog 36 #[.pointer (some ⟨g, 0, none⟩), .pointer (some ⟨fb, fs.length * 14, none⟩)] w1 fun e w' => e = .returned (insOfFr P f).val ∧ Below w1.heap.size w1 w') := fun w1 hb => at_eng (h.below hb) hS hp
  generalize insOfFr P f = x at hx HAT ⊢
  have HX : Hid (InsOk P x) := hx
  obtain ⟨ka, ha⟩ := Int.eq_ofNat_of_zero_le hx.a0
  obtain ⟨kb, hb⟩ := Int.eq_ofNat_of_zero_le hx.b0
  have la : (ka : Int) < 12 := by have := hx.a1; omega
  have lb : (kb : Int) < 12 := by have := hx.b1; omega
  have HDO := fun (w1 : World) S1 ev1 av1 (h1 : EngAt w1 base g P pv S1 (.slice (some ⟨fb, 0, none⟩) S.frames.length cap) ev1 av1) (e1 : S1.frames = fs ++ [f]) (e2 : S1.frames.length ≤ 8) (e3 : S1.events.length * 8 + 8 ≤ 140737488355328) (hbb : barredI x (regD f x.a) (regD f x.b) = 0) =>
    do_any base g P pv S1 fb S.frames.length cap ev1 av1 fs f x w1 ⟨h1, e1, hc, hx, p0, p1⟩ hbb e2 e3 hpl
  have HRG : Hid (∀ w1, Below w.heap.size w w1 → w1.cell? ⟨fb, fs.length * 14 + 2 + ka, none⟩ = some (.int .i64 (regD f x.a)) ∧ w1.cell? ⟨fb, fs.length * 14 + 2 + kb, none⟩ = some (.int .i64 (regD f x.b))) := fun w1 hbw => by
    obtain ⟨-, -, -, -, -, l2, -⟩ := (h.below hbw).lastCells hS
    refine ⟨?_, ?_⟩
    · rw [l2 ka (by omega)]; unfold regD; rw [ha]; rfl
    · rw [l2 kb (by omega)]; unfold regD; rw [hb]; rfl
  have HDX : Hid _ := HDO
  obtain ⟨-, -, -, q19, -, -, qf⟩ := h.own
  have HE : Hid (EngAt w base g P pv S (.slice (some ⟨fb, 0, none⟩) S.frames.length cap) ev av) := h
  have HS : Hid (S.frames = fs ++ [f]) := hS
  have HFE : Hid (S.frames.length ≤ 8 ∧ S.events.length * 8 + 8 ≤ 140737488355328) := ⟨h9, he⟩
  have HFU : Hid (0 ≤ S.fuel ∧ S.fuel ≤ 1000000 ∧ ¬ S.fuel = 0) := ⟨hf0, hf1, h0⟩
  clear HDO h hS h9 he hpl hx hp hpc qf hl40
  generalize regD f x.a = va at HRG HDX ⊢
  generalize regD f x.b = vb at HRG HDX ⊢
  obtain ⟨xo, xd, xa, xb, xi⟩ := x
  dsimp only at ha hb
  subst ha hb
  unfold Ins.val at HAT HDX
  dsimp only at HAT HDX
  have HWX : Hid (∀ (w1 : World), Below w.heap.size w w1 → EngAt w1 base g P pv S (.slice (some ⟨fb, 0, none⟩) S.frames.length cap) ev av) := fun w1 hb => HE.out.below hb
  by_cases hB : barredI ⟨xo, xd, ka, kb, xi⟩ va vb = 0
  · rw [if_pos hB]
    have HBB : Hid (barredI ⟨xo, xd, ka, kb, xi⟩ va vb = 0) := hB
    have HBA : Hid (∀ W, Calls Tryd.prog 37 #[.agg #[.int .i64 xo, .int .i64 xd, .int .i64 (ka : Int), .int .i64 (kb : Int), .int .i64 xi], .int .i64 va, .int .i64 vb] W fun e w' => e = .returned (.int .i64 0) ∧ Below W.heap.size W w') := fun W => by
      have := barred_any ⟨xo, xd, ka, kb, xi⟩ va vb W
      rw [hB] at this
      exact this
    clear hB
    go_enter Tryd.func22, Tryd.ntmps22
    go_wp2_with (first
      | (go_at_call 21; refine (last_eng HE.out HS.out).mono ?_; rintro e w1 ⟨rfl, hb1⟩)
      | (go_at_call 36; refine (HAT.out _ hb1).mono ?_; rintro e w2 ⟨rfl, hb2⟩))
    have HB0 : Hid (Below w.heap.size w (w2.alloc (.cells #[.int .i64 xo, .int .i64 xd, .int .i64 (ka : Int), .int .i64 (kb : Int), .int .i64 xi] 47))) := (hb1.trans (hb2.mono hb1.size)).alloc (by have := hb1.size; have := hb2.size; omega) _
    have HZ2 : Hid (w.heap.size ≤ w2.heap.size) := by have := hb1.size; have := hb2.size; show _ ≤ _; omega
    obtain ⟨RA, RB⟩ := HRG.out _ HB0.out
    have B0 : (w2.alloc (.cells #[.int .i64 xo, .int .i64 xd, .int .i64 (ka : Int), .int .i64 (kb : Int), .int .i64 xi] 47)).cell? ⟨w2.heap.size, 0, none⟩ = some (.int .i64 xo) := by rw [cell_of_row _ _ _ _ _ _ (heap_alloc_last w2 _)]; rfl
    have B1 : (w2.alloc (.cells #[.int .i64 xo, .int .i64 xd, .int .i64 (ka : Int), .int .i64 (kb : Int), .int .i64 xi] 47)).cell? ⟨w2.heap.size, 1, none⟩ = some (.int .i64 xd) := by rw [cell_of_row _ _ _ _ _ _ (heap_alloc_last w2 _)]; rfl
    have B2 : (w2.alloc (.cells #[.int .i64 xo, .int .i64 xd, .int .i64 (ka : Int), .int .i64 (kb : Int), .int .i64 xi] 47)).cell? ⟨w2.heap.size, 2, none⟩ = some (.int .i64 (ka : Int)) := by rw [cell_of_row _ _ _ _ _ _ (heap_alloc_last w2 _)]; rfl
    have B3 : (w2.alloc (.cells #[.int .i64 xo, .int .i64 xd, .int .i64 (ka : Int), .int .i64 (kb : Int), .int .i64 xi] 47)).cell? ⟨w2.heap.size, 3, none⟩ = some (.int .i64 (kb : Int)) := by rw [cell_of_row _ _ _ _ _ _ (heap_alloc_last w2 _)]; rfl
    have B4 : (w2.alloc (.cells #[.int .i64 xo, .int .i64 xd, .int .i64 (ka : Int), .int .i64 (kb : Int), .int .i64 xi] 47)).cell? ⟨w2.heap.size, 4, none⟩ = some (.int .i64 xi) := by rw [cell_of_row _ _ _ _ _ _ (heap_alloc_last w2 _)]; rfl
    clear hb1 hb2
    refine wp_region_last (S := fun W => Below (w2.alloc (.cells #[.int .i64 xo, .int .i64 xd, .int .i64 (ka : Int), .int .i64 (kb : Int), .int .i64 xi] 47)).heap.size (w2.alloc (.cells #[.int .i64 xo, .int .i64 xd, .int .i64 (ka : Int), .int .i64 (kb : Int), .int .i64 xi] 47)) W) _ 20 (by kernel_rfl) (by kernel_rfl) rfl ((Below.refl _ _).drew) (fun hHeld => ?_)
    simp only [List.pop_toArray, List.dropLast]
    refine wpAnyH_take (i := 0) (v := ?_) rfl (by kernel_rfl) (by kernel_rfl) (by kernel_rfl) (fun _ _ _ h => h) (Or.inl ⟨by rfl, ?_⟩) (by assumption) ?_
    rotate_left
    · (intro W hSW; go_simp; try (with_reducible rfl))
    (try simp only [Act.put, List.setIfInBounds_toArray])
    refine wpAnyH_take (i := 1) (v := ?_) rfl (by kernel_rfl) (by kernel_rfl) (by kernel_rfl) (fun _ _ _ h => h) (Or.inl ⟨by rfl, ?_⟩) (by assumption) ?_
    rotate_left
    · (intro W hSW; have z0 := keeps_below hSW _ _ B0; have z1 := keeps_below hSW _ _ B1; have z2 := keeps_below hSW _ _ B2; have z3 := keeps_below hSW _ _ B3; have z4 := keeps_below hSW _ _ B4; go_simp; try (with_reducible rfl))
    (try simp only [Act.put])
    refine wpAnyH_take (i := 2) (v := ?_) rfl (by kernel_rfl) (by kernel_rfl) (by kernel_rfl) (fun _ _ _ h => h) (Or.inl ⟨by rfl, ?_⟩) (by assumption) ?_
    rotate_left
    · (intro W hSW; go_simp; try (with_reducible rfl))
    (try simp only [Act.put])
    refine wpAnyH_take (i := 3) (v := ?_) rfl (by kernel_rfl) (by kernel_rfl) (by kernel_rfl) (fun _ _ _ h => h) (Or.inl ⟨by rfl, ?_⟩) (by assumption) ?_
    rotate_left
    · (intro W hSW; go_simp; try (with_reducible rfl))
    (try simp only [Act.put])
    refine wpAnyH_take (i := 4) (v := ?_) rfl (by kernel_rfl) (by kernel_rfl) (by kernel_rfl) (fun _ _ _ h => h) (Or.inl ⟨by rfl, ?_⟩) (by assumption) ?_
    rotate_left
    · (intro W hSW; have z0 := keeps_below hSW _ _ B2; go_simp; try (with_reducible rfl))
    (try simp only [Act.put])
    refine wpAnyH_take (i := 5) (v := ?_) rfl (by kernel_rfl) (by kernel_rfl) (by kernel_rfl) (fun _ _ _ h => h) (Or.inl ⟨by rfl, ?_⟩) (by assumption) ?_
    rotate_left
    · (intro W hSW; go_simp; try (with_reducible rfl))
    (try simp only [Act.put])
    refine wpAnyH_take (i := 6) (v := ?_) rfl (by kernel_rfl) (by kernel_rfl) (by kernel_rfl) (fun _ _ _ h => h) (Or.inl ⟨by rfl, ?_⟩) (by assumption) ?_
    rotate_left
    · (intro W hSW; go_simp; try (with_reducible rfl))
    (try simp only [Act.put])
    refine wpAnyH_take (i := 7) (v := ?_) rfl (by kernel_rfl) (by kernel_rfl) (by kernel_rfl) (fun _ _ _ h => h) (Or.inl ⟨by rfl, ?_⟩) (by assumption) ?_
    rotate_left
    · (intro W hSW; go_simp; try (with_reducible rfl))
    (try simp only [Act.put])
    refine wpAnyH_take (i := 8) (v := ?_) rfl (by kernel_rfl) (by kernel_rfl) (by kernel_rfl) (fun _ _ _ h => h) (Or.inl ⟨by rfl, ?_⟩) (by assumption) ?_
    rotate_left
    · (intro W hSW; have z0 := keeps_below hSW _ _ RA; go_simp; try (with_reducible rfl))
    (try simp only [Act.put])
    refine wpAnyH_take (i := 9) (v := ?_) rfl (by kernel_rfl) (by kernel_rfl) (by kernel_rfl) (fun _ _ _ h => h) (Or.inl ⟨by rfl, ?_⟩) (by assumption) ?_
    rotate_left
    · (intro W hSW; go_simp; try (with_reducible rfl))
    (try simp only [Act.put])
    refine wpAnyH_take (i := 10) (v := ?_) rfl (by kernel_rfl) (by kernel_rfl) (by kernel_rfl) (fun _ _ _ h => h) (Or.inl ⟨by rfl, ?_⟩) (by assumption) ?_
    rotate_left
    · (intro W hSW; go_simp; try (with_reducible rfl))
    (try simp only [Act.put])
    refine wpAnyH_take (i := 11) (v := ?_) rfl (by kernel_rfl) (by kernel_rfl) (by kernel_rfl) (fun _ _ _ h => h) (Or.inl ⟨by rfl, ?_⟩) (by assumption) ?_
    rotate_left
    · (intro W hSW; have z0 := keeps_below hSW _ _ B3; go_simp; try (with_reducible rfl))
    (try simp only [Act.put])
    refine wpAnyH_take (i := 12) (v := ?_) rfl (by kernel_rfl) (by kernel_rfl) (by kernel_rfl) (fun _ _ _ h => h) (Or.inl ⟨by rfl, ?_⟩) (by assumption) ?_
    rotate_left
    · (intro W hSW; go_simp; try (with_reducible rfl))
    (try simp only [Act.put])
    refine wpAnyH_take (i := 13) (v := ?_) rfl (by kernel_rfl) (by kernel_rfl) (by kernel_rfl) (fun _ _ _ h => h) (Or.inl ⟨by rfl, ?_⟩) (by assumption) ?_
    rotate_left
    · (intro W hSW; go_simp; try (with_reducible rfl))
    (try simp only [Act.put])
    refine wpAnyH_take (i := 14) (v := ?_) rfl (by kernel_rfl) (by kernel_rfl) (by kernel_rfl) (fun _ _ _ h => h) (Or.inl ⟨by rfl, ?_⟩) (by assumption) ?_
    rotate_left
    · (intro W hSW; go_simp; try (with_reducible rfl))
    (try simp only [Act.put])
    refine wpAnyH_take (i := 15) (v := ?_) rfl (by kernel_rfl) (by kernel_rfl) (by kernel_rfl) (fun _ _ _ h => h) (Or.inl ⟨by rfl, ?_⟩) (by assumption) ?_
    rotate_left
    · (intro W hSW; have z0 := keeps_below hSW _ _ RB; go_simp; try (with_reducible rfl))
    (try simp only [Act.put])
    refine wpAnyH_ready (rs := [16]) (by kernel_rfl) (by simp) ?_
    refine AllReadyH.cons rfl (fun K hK => ?_) AllReadyH.nil
    go_simp
    go_at_call 37
    refine (HBA.out _).mono ?_
    rintro e w3 ⟨rfl, hb3⟩
    have HB3 : Hid (Below (w2.alloc (.cells #[.int .i64 xo, .int .i64 xd, .int .i64 (ka : Int), .int .i64 (kb : Int), .int .i64 xi] 47)).heap.size (w2.alloc (.cells #[.int .i64 xo, .int .i64 xd, .int .i64 (ka : Int), .int .i64 (kb : Int), .int .i64 xi] 47)) w3) := (Below.refl _ _).drew.trans (hb3.mono (Nat.le_refl _))
    dsimp only
    refine hK.out _ _ HB3.out (fun _ => ?_)
    clear hK K
    (try simp only [Act.put, List.setIfInBounds_toArray, List.set_cons_zero, List.set_cons_succ])
    refine wpAnyH_take (i := 17) (v := ?_) rfl (by kernel_rfl) (by kernel_rfl) (by kernel_rfl) (fun _ _ _ h => h) (Or.inl ⟨by rfl, ?_⟩) HB3.out ?_
    rotate_left
    · (intro W hSW; go_simp; try (with_reducible rfl))
    (try simp only [Act.put, List.setIfInBounds_toArray])
    refine wpAnyH_take (i := 18) (v := ?_) rfl (by kernel_rfl) (by kernel_rfl) (by kernel_rfl) (fun _ _ _ h => h) (Or.inl ⟨by rfl, ?_⟩) HB3.out ?_
    rotate_left
    · (intro W hSW; go_simp; try (with_reducible rfl))
    (try simp only [Act.put])
    refine wpAnyH_take (i := 19) (v := ?_) rfl (by kernel_rfl) (by kernel_rfl) (by kernel_rfl) (fun _ _ _ h => h) (Or.inl ⟨by rfl, ?_⟩) HB3.out ?_
    rotate_left
    · (intro W hSW; go_simp; try (with_reducible rfl))
    (try simp only [Act.put])
    refine wpAnyH_done (by kernel_rfl) ?_ _
    refine Or.inl ?_
    have HE3 : Hid (EngAt w3 base g P pv S (.slice (some ⟨fb, 0, none⟩) S.frames.length cap) ev av) := HWX.out _ (HB0.out.trans (HB3.out.mono (by have := HZ2.out; simp; omega)))
    have HBW3 : Hid (Below base w w3) := (HB0.out.trans (HB3.out.mono (by have := HZ2.out; simp; omega))).mono HE.out.base
    have E4 := HE3.out.put 0 (.int .i64 0) { S with status := 0 } rfl HE3.out.mem rfl rfl rfl
    obtain ⟨r0, -, -, -, -, -, rf⟩ := HE3.out.own
    have f0 := rf 0
    obtain ⟨s0, -, -, s19, -, -, sf⟩ := E4.1.own
    have f19 := sf 19
    have E5 := E4.1.put 19 (.int .i64 (S.fuel - 1)) { S with status := 0, fuel := S.fuel - 1 } (engCells_fuel (S := { S with status := 0 }) _ _ _ _ HE3.out.mem _) HE3.out.mem rfl rfl rfl
    have hne : w2.heap.size ≠ g := by have := lt_of_block HE.out.cells; have := HZ2.out; omega
    have c0 : ((w3.setCell ⟨g, 0, none⟩ (.int .i64 0)).setCell ⟨g, 19, none⟩ (.int .i64 (S.fuel - 1))).cell? ⟨w2.heap.size, 0, none⟩ = some (.int .i64 xo) := cell_setCell_other (cell_setCell_other (keeps_below HB3.out _ _ B0) hne) hne
    have c1 : ((w3.setCell ⟨g, 0, none⟩ (.int .i64 0)).setCell ⟨g, 19, none⟩ (.int .i64 (S.fuel - 1))).cell? ⟨w2.heap.size, 1, none⟩ = some (.int .i64 xd) := cell_setCell_other (cell_setCell_other (keeps_below HB3.out _ _ B1) hne) hne
    have c2 : ((w3.setCell ⟨g, 0, none⟩ (.int .i64 0)).setCell ⟨g, 19, none⟩ (.int .i64 (S.fuel - 1))).cell? ⟨w2.heap.size, 2, none⟩ = some (.int .i64 (ka : Int)) := cell_setCell_other (cell_setCell_other (keeps_below HB3.out _ _ B2) hne) hne
    have c3 : ((w3.setCell ⟨g, 0, none⟩ (.int .i64 0)).setCell ⟨g, 19, none⟩ (.int .i64 (S.fuel - 1))).cell? ⟨w2.heap.size, 3, none⟩ = some (.int .i64 (kb : Int)) := cell_setCell_other (cell_setCell_other (keeps_below HB3.out _ _ B3) hne) hne
    have c4 : ((w3.setCell ⟨g, 0, none⟩ (.int .i64 0)).setCell ⟨g, 19, none⟩ (.int .i64 (S.fuel - 1))).cell? ⟨w2.heap.size, 4, none⟩ = some (.int .i64 xi) := cell_setCell_other (cell_setCell_other (keeps_below HB3.out _ _ B4) hne) hne
    have hw1 : IntKind.i64.wrap (S.fuel - 1) = S.fuel - 1 := wrap_fits _ (by have := HFU.out; omega) (by have := HFU.out; omega)
    have HE5 : Hid _ := E5.1
    have HB5 : Hid (Below base w ((w3.setCell ⟨g, 0, none⟩ (.int .i64 0)).setCell ⟨g, 19, none⟩ (.int .i64 (S.fuel - 1)))) := (HBW3.out.trans E4.2).trans E5.2
    clear E4 E5 rf sf B0 B1 B2 B3 B4 RA RB hne hb3 hHeld
    go_simp
    go_wp2_with (go_at_call 38; refine (HDX.out _ _ _ _ HE5.out HS.out HFE.out.1 HFE.out.2 HBB.out).mono ?_; rintro e w6 ⟨rfl, fv6, ev6, av6, he6, hb6⟩)
    try simp only [Exit.inBlock, Exit.then]
    go_end0
    exact ⟨rfl, _, _, _, he6, HB5.out.trans hb6⟩
  · rw [if_neg hB]
    have HBA : Hid (∀ W, Calls Tryd.prog 37 #[.agg #[.int .i64 xo, .int .i64 xd, .int .i64 (ka : Int), .int .i64 (kb : Int), .int .i64 xi], .int .i64 va, .int .i64 vb] W fun e w' => e = .returned (.int .i64 (barredI ⟨xo, xd, ka, kb, xi⟩ va vb)) ∧ Below W.heap.size W w') := fun W => barred_any ⟨xo, xd, ka, kb, xi⟩ va vb W
    generalize barredI ⟨xo, xd, ka, kb, xi⟩ va vb = B at hB HBA ⊢
    go_enter Tryd.func22, Tryd.ntmps22
    go_wp2_with (first
      | (go_at_call 21; refine (last_eng HE.out HS.out).mono ?_; rintro e w1 ⟨rfl, hb1⟩)
      | (go_at_call 36; refine (HAT.out _ hb1).mono ?_; rintro e w2 ⟨rfl, hb2⟩))
    have HB0 : Hid (Below w.heap.size w (w2.alloc (.cells #[.int .i64 xo, .int .i64 xd, .int .i64 (ka : Int), .int .i64 (kb : Int), .int .i64 xi] 47))) := (hb1.trans (hb2.mono hb1.size)).alloc (by have := hb1.size; have := hb2.size; omega) _
    have HZ2 : Hid (w.heap.size ≤ w2.heap.size) := by have := hb1.size; have := hb2.size; show _ ≤ _; omega
    obtain ⟨RA, RB⟩ := HRG.out _ HB0.out
    have B0 : (w2.alloc (.cells #[.int .i64 xo, .int .i64 xd, .int .i64 (ka : Int), .int .i64 (kb : Int), .int .i64 xi] 47)).cell? ⟨w2.heap.size, 0, none⟩ = some (.int .i64 xo) := by rw [cell_of_row _ _ _ _ _ _ (heap_alloc_last w2 _)]; rfl
    have B1 : (w2.alloc (.cells #[.int .i64 xo, .int .i64 xd, .int .i64 (ka : Int), .int .i64 (kb : Int), .int .i64 xi] 47)).cell? ⟨w2.heap.size, 1, none⟩ = some (.int .i64 xd) := by rw [cell_of_row _ _ _ _ _ _ (heap_alloc_last w2 _)]; rfl
    have B2 : (w2.alloc (.cells #[.int .i64 xo, .int .i64 xd, .int .i64 (ka : Int), .int .i64 (kb : Int), .int .i64 xi] 47)).cell? ⟨w2.heap.size, 2, none⟩ = some (.int .i64 (ka : Int)) := by rw [cell_of_row _ _ _ _ _ _ (heap_alloc_last w2 _)]; rfl
    have B3 : (w2.alloc (.cells #[.int .i64 xo, .int .i64 xd, .int .i64 (ka : Int), .int .i64 (kb : Int), .int .i64 xi] 47)).cell? ⟨w2.heap.size, 3, none⟩ = some (.int .i64 (kb : Int)) := by rw [cell_of_row _ _ _ _ _ _ (heap_alloc_last w2 _)]; rfl
    have B4 : (w2.alloc (.cells #[.int .i64 xo, .int .i64 xd, .int .i64 (ka : Int), .int .i64 (kb : Int), .int .i64 xi] 47)).cell? ⟨w2.heap.size, 4, none⟩ = some (.int .i64 xi) := by rw [cell_of_row _ _ _ _ _ _ (heap_alloc_last w2 _)]; rfl
    clear hb1 hb2
    refine wp_region_last (S := fun W => Below (w2.alloc (.cells #[.int .i64 xo, .int .i64 xd, .int .i64 (ka : Int), .int .i64 (kb : Int), .int .i64 xi] 47)).heap.size (w2.alloc (.cells #[.int .i64 xo, .int .i64 xd, .int .i64 (ka : Int), .int .i64 (kb : Int), .int .i64 xi] 47)) W) _ 20 (by kernel_rfl) (by kernel_rfl) rfl ((Below.refl _ _).drew) (fun hHeld => ?_)
    simp only [List.pop_toArray, List.dropLast]
    refine wpAnyH_take (i := 0) (v := ?_) rfl (by kernel_rfl) (by kernel_rfl) (by kernel_rfl) (fun _ _ _ h => h) (Or.inl ⟨by rfl, ?_⟩) (by assumption) ?_
    rotate_left
    · (intro W hSW; go_simp; try (with_reducible rfl))
    (try simp only [Act.put, List.setIfInBounds_toArray])
    refine wpAnyH_take (i := 1) (v := ?_) rfl (by kernel_rfl) (by kernel_rfl) (by kernel_rfl) (fun _ _ _ h => h) (Or.inl ⟨by rfl, ?_⟩) (by assumption) ?_
    rotate_left
    · (intro W hSW; have z0 := keeps_below hSW _ _ B0; have z1 := keeps_below hSW _ _ B1; have z2 := keeps_below hSW _ _ B2; have z3 := keeps_below hSW _ _ B3; have z4 := keeps_below hSW _ _ B4; go_simp; try (with_reducible rfl))
    (try simp only [Act.put])
    refine wpAnyH_take (i := 2) (v := ?_) rfl (by kernel_rfl) (by kernel_rfl) (by kernel_rfl) (fun _ _ _ h => h) (Or.inl ⟨by rfl, ?_⟩) (by assumption) ?_
    rotate_left
    · (intro W hSW; go_simp; try (with_reducible rfl))
    (try simp only [Act.put])
    refine wpAnyH_take (i := 3) (v := ?_) rfl (by kernel_rfl) (by kernel_rfl) (by kernel_rfl) (fun _ _ _ h => h) (Or.inl ⟨by rfl, ?_⟩) (by assumption) ?_
    rotate_left
    · (intro W hSW; go_simp; try (with_reducible rfl))
    (try simp only [Act.put])
    refine wpAnyH_take (i := 4) (v := ?_) rfl (by kernel_rfl) (by kernel_rfl) (by kernel_rfl) (fun _ _ _ h => h) (Or.inl ⟨by rfl, ?_⟩) (by assumption) ?_
    rotate_left
    · (intro W hSW; have z0 := keeps_below hSW _ _ B2; go_simp; try (with_reducible rfl))
    (try simp only [Act.put])
    refine wpAnyH_take (i := 5) (v := ?_) rfl (by kernel_rfl) (by kernel_rfl) (by kernel_rfl) (fun _ _ _ h => h) (Or.inl ⟨by rfl, ?_⟩) (by assumption) ?_
    rotate_left
    · (intro W hSW; go_simp; try (with_reducible rfl))
    (try simp only [Act.put])
    refine wpAnyH_take (i := 6) (v := ?_) rfl (by kernel_rfl) (by kernel_rfl) (by kernel_rfl) (fun _ _ _ h => h) (Or.inl ⟨by rfl, ?_⟩) (by assumption) ?_
    rotate_left
    · (intro W hSW; go_simp; try (with_reducible rfl))
    (try simp only [Act.put])
    refine wpAnyH_take (i := 7) (v := ?_) rfl (by kernel_rfl) (by kernel_rfl) (by kernel_rfl) (fun _ _ _ h => h) (Or.inl ⟨by rfl, ?_⟩) (by assumption) ?_
    rotate_left
    · (intro W hSW; go_simp; try (with_reducible rfl))
    (try simp only [Act.put])
    refine wpAnyH_take (i := 8) (v := ?_) rfl (by kernel_rfl) (by kernel_rfl) (by kernel_rfl) (fun _ _ _ h => h) (Or.inl ⟨by rfl, ?_⟩) (by assumption) ?_
    rotate_left
    · (intro W hSW; have z0 := keeps_below hSW _ _ RA; go_simp; try (with_reducible rfl))
    (try simp only [Act.put])
    refine wpAnyH_take (i := 9) (v := ?_) rfl (by kernel_rfl) (by kernel_rfl) (by kernel_rfl) (fun _ _ _ h => h) (Or.inl ⟨by rfl, ?_⟩) (by assumption) ?_
    rotate_left
    · (intro W hSW; go_simp; try (with_reducible rfl))
    (try simp only [Act.put])
    refine wpAnyH_take (i := 10) (v := ?_) rfl (by kernel_rfl) (by kernel_rfl) (by kernel_rfl) (fun _ _ _ h => h) (Or.inl ⟨by rfl, ?_⟩) (by assumption) ?_
    rotate_left
    · (intro W hSW; go_simp; try (with_reducible rfl))
    (try simp only [Act.put])
    refine wpAnyH_take (i := 11) (v := ?_) rfl (by kernel_rfl) (by kernel_rfl) (by kernel_rfl) (fun _ _ _ h => h) (Or.inl ⟨by rfl, ?_⟩) (by assumption) ?_
    rotate_left
    · (intro W hSW; have z0 := keeps_below hSW _ _ B3; go_simp; try (with_reducible rfl))
    (try simp only [Act.put])
    refine wpAnyH_take (i := 12) (v := ?_) rfl (by kernel_rfl) (by kernel_rfl) (by kernel_rfl) (fun _ _ _ h => h) (Or.inl ⟨by rfl, ?_⟩) (by assumption) ?_
    rotate_left
    · (intro W hSW; go_simp; try (with_reducible rfl))
    (try simp only [Act.put])
    refine wpAnyH_take (i := 13) (v := ?_) rfl (by kernel_rfl) (by kernel_rfl) (by kernel_rfl) (fun _ _ _ h => h) (Or.inl ⟨by rfl, ?_⟩) (by assumption) ?_
    rotate_left
    · (intro W hSW; go_simp; try (with_reducible rfl))
    (try simp only [Act.put])
    refine wpAnyH_take (i := 14) (v := ?_) rfl (by kernel_rfl) (by kernel_rfl) (by kernel_rfl) (fun _ _ _ h => h) (Or.inl ⟨by rfl, ?_⟩) (by assumption) ?_
    rotate_left
    · (intro W hSW; go_simp; try (with_reducible rfl))
    (try simp only [Act.put])
    refine wpAnyH_take (i := 15) (v := ?_) rfl (by kernel_rfl) (by kernel_rfl) (by kernel_rfl) (fun _ _ _ h => h) (Or.inl ⟨by rfl, ?_⟩) (by assumption) ?_
    rotate_left
    · (intro W hSW; have z0 := keeps_below hSW _ _ RB; go_simp; try (with_reducible rfl))
    (try simp only [Act.put])
    refine wpAnyH_ready (rs := [16]) (by kernel_rfl) (by simp) ?_
    refine AllReadyH.cons rfl (fun K hK => ?_) AllReadyH.nil
    go_simp
    go_at_call 37
    refine (HBA.out _).mono ?_
    rintro e w3 ⟨rfl, hb3⟩
    have HB3 : Hid (Below (w2.alloc (.cells #[.int .i64 xo, .int .i64 xd, .int .i64 (ka : Int), .int .i64 (kb : Int), .int .i64 xi] 47)).heap.size (w2.alloc (.cells #[.int .i64 xo, .int .i64 xd, .int .i64 (ka : Int), .int .i64 (kb : Int), .int .i64 xi] 47)) w3) := (Below.refl _ _).drew.trans (hb3.mono (Nat.le_refl _))
    dsimp only
    refine hK.out _ _ HB3.out (fun _ => ?_)
    clear hK K
    (try simp only [Act.put, List.setIfInBounds_toArray, List.set_cons_zero, List.set_cons_succ])
    refine wpAnyH_take (i := 17) (v := ?_) rfl (by kernel_rfl) (by kernel_rfl) (by kernel_rfl) (fun _ _ _ h => h) (Or.inl ⟨by rfl, ?_⟩) HB3.out ?_
    rotate_left
    · (intro W hSW; go_simp; try (with_reducible rfl))
    (try simp only [Act.put, List.setIfInBounds_toArray])
    refine wpAnyH_take (i := 18) (v := ?_) rfl (by kernel_rfl) (by kernel_rfl) (by kernel_rfl) (fun _ _ _ h => h) (Or.inl ⟨by rfl, ?_⟩) HB3.out ?_
    rotate_left
    · (intro W hSW; go_simp; try (with_reducible rfl))
    (try simp only [Act.put])
    refine wpAnyH_take (i := 19) (v := ?_) rfl (by kernel_rfl) (by kernel_rfl) (by kernel_rfl) (fun _ _ _ h => h) (Or.inl ⟨by rfl, ?_⟩) HB3.out ?_
    rotate_left
    · (intro W hSW; go_simp; try (with_reducible rfl))
    (try simp only [Act.put])
    refine wpAnyH_done (by kernel_rfl) ?_ _
    refine Or.inl ?_
    have HE3 : Hid (EngAt w3 base g P pv S (.slice (some ⟨fb, 0, none⟩) S.frames.length cap) ev av) := HWX.out _ (HB0.out.trans (HB3.out.mono (by have := HZ2.out; simp; omega)))
    have HBW3 : Hid (Below base w w3) := (HB0.out.trans (HB3.out.mono (by have := HZ2.out; simp; omega))).mono HE.out.base
    have E4 := HE3.out.put 0 (.int .i64 B) { S with status := B } rfl HE3.out.mem rfl rfl rfl
    obtain ⟨r0, -, -, -, -, -, rf⟩ := HE3.out.own
    have f0 := rf 0
    obtain ⟨s0, -, -, s19, -, -, sf⟩ := E4.1.own
    have HE4 : Hid _ := E4.1
    have HB4 : Hid (Below base w (w3.setCell ⟨g, 0, none⟩ (.int .i64 B))) := HBW3.out.trans E4.2
    clear E4 rf sf B0 B1 B2 B3 B4 RA RB hb3 hHeld
    go_simp
    go_wp2
    try simp only [Exit.inBlock, Exit.then]
    go_end0
    exact ⟨rfl, _, _, _, HE4.out, HB4.out⟩
end Go.Proofs.YtgdmdlkhnokieaaDoor

/- States whose lists lie at a base and above; step.Begin again, with that. -/
namespace Go.Proofs.YtgdmdlkhnokieaaDoor
open Go Go.RowKit

/-- What a slice leads to lies at a base and above. -/
def LowV (base : Nat) (v : Value) : Prop := ∀ a n cp, v = .slice (some a) n cp → 0 < n → base ≤ a.block
theorem low_nil (base : Nat) : LowV base (.slice none 0 0) := fun a n cp e _ => by cases e
theorem low_own {w : World} {base b t size n : Nat} {v : Value} {xs : List Value} (h : w.ownsRow b t size v n xs) (hb : base ≤ b) : LowV base v := fun a n cp e _ => by
  rcases h.2 with ⟨e1, _⟩ | ⟨g1, cap1, cur1, e1, hb1, _⟩
  · rw [e] at e1; cases e1
  · rw [e] at e1; cases e1; exact Nat.le_trans hb hb1
/-- A state whose lists lie at a base and above. -/
def StAt (w : World) (base : Nat) (v : Value) (s : St) : Prop := ∃ fv ev av, v = .agg (stCells s fv ev av).toArray ∧ s.mem.length = 16 ∧ FramesVal w fv s.frames ∧ IntsVal w ev s.events ∧ IntsVal w av s.answers ∧ LowV base fv ∧ LowV base ev ∧ LowV base av
theorem StAt.val {w : World} {base : Nat} {v : Value} {s : St} (h : StAt w base v s) : StVal w v s := by
  obtain ⟨fv, ev, av, rfl, hm, h1, h2, h3, _⟩ := h
  exact ⟨fv, ev, av, rfl, hm, h1, h2, h3⟩
theorem zero_stAt (w : World) (base : Nat) : StAt w base (.agg zeroStCells) zeroSt := ⟨_, _, _, rfl, rfl, frames_nil w, ints_nil w, ints_nil w, low_nil _, low_nil _, low_nil _⟩
theorem ints_moved {w W : World} {base : Nat} {v : Value} {l : List Int} (h : IntsVal w v l) (hl : LowV base v) (hk : ∀ (a : Addr) u, base ≤ a.block → w.cell? a = some u → W.cell? a = some u) : IntsVal W v l := by
  obtain ⟨ao, b, off, n, cap, rfl, h1, ha, hc, hcp, hm⟩ := h
  refine ⟨ao, b, off, n, cap, rfl, h1, ha, fun k hkl => ?_, hcp, hm⟩
  have e := ha (by omega)
  exact hk _ _ (hl ⟨b, off, none⟩ n cap (by rw [e]) (by omega)) (hc k hkl)
theorem frames_moved {w W : World} {base : Nat} {v : Value} {fs : List Fr} (h : FramesVal w v fs) (hl : LowV base v) (hk : ∀ (a : Addr) u, base ≤ a.block → w.cell? a = some u → W.cell? a = some u) : FramesVal W v fs := by
  obtain ⟨hw, ao, b, off, n, cap, rfl, h1, ha, hc, hcp, hm⟩ := h
  refine ⟨hw, ao, b, off, n, cap, rfl, h1, ha, fun k hkl j u hu => ?_, hcp, hm⟩
  have e := ha (by omega)
  exact hk _ _ (hl ⟨b, off, none⟩ n cap (by rw [e]) (by omega)) (hc k hkl j u hu)
/-- It is there still where all that lies at the base and above is as it was. -/
theorem StAt.moved {w W : World} {base : Nat} {v : Value} {s : St} (h : StAt w base v s) (hk : ∀ (a : Addr) u, base ≤ a.block → w.cell? a = some u → W.cell? a = some u) : StAt W base v s := by
  obtain ⟨fv, ev, av, rfl, hm, h1, h2, h3, l1, l2, l3⟩ := h
  exact ⟨fv, ev, av, rfl, hm, frames_moved h1 l1 hk, ints_moved h2 l2 hk, ints_moved h3 l3 hk, l1, l2, l3⟩
theorem StAt.setRow {w : World} {base r : Nat} {v : Value} {s : St} (h : StAt w base v s) (hr : r < base) (cs : Array Value) : StAt (w.setRow r cs) base v s :=
  h.moved fun a _ ha hu => (World.cell?_of_block (setRow_other w r cs _ (by omega))).trans hu
theorem StAt.setCell {w : World} {base : Nat} {v : Value} {s : St} (h : StAt w base v s) {p : Addr} (hr : p.block < base) (u : Value) : StAt (w.setCell p u) base v s :=
  h.moved fun a _ ha hu => (World.cell?_of_block (heap_setCell_other w p _ u (by omega))).trans hu
theorem StAt.below {w w' : World} {base : Nat} {v : Value} {s : St} (h : StAt w base v s) (hb : Below w.heap.size w w') : StAt w' base v s := h.moved fun a u _ hu => keeps_below hb a u hu
theorem StAt.mono {w : World} {base base' : Nat} {v : Value} {s : St} (h : StAt w base v s) (hb : base' ≤ base) : StAt w base' v s := by
  obtain ⟨fv, ev, av, rfl, hm, h1, h2, h3, l1, l2, l3⟩ := h
  exact ⟨fv, ev, av, rfl, hm, h1, h2, h3, fun a n cp e hn => Nat.le_trans hb (l1 a n cp e hn), fun a n cp e hn => Nat.le_trans hb (l2 a n cp e hn), fun a n cp e hn => Nat.le_trans hb (l3 a n cp e hn)⟩
/-- A state's cells. -/
theorem StVal.cells {w : World} {v : Value} {S : St} (h : StVal w v S) : ∃ cs : Array Value, v = .agg cs ∧ (Tryd.prog.info? 34).map (·.size) = some cs.size ∧ zeroStCells.size = cs.size ∧ cs.all (·.oneCell') = true := by
  obtain ⟨fv, ev, av, rfl, hm, hf, he, ha⟩ := h
  obtain ⟨fa, fc, rfl⟩ := hf.shape
  obtain ⟨ea, ec, rfl⟩ := he.shape
  obtain ⟨aa, ac, rfl⟩ := ha.shape
  refine ⟨_, rfl, ?_, ?_, stCells_one _ _ _ _ rfl rfl rfl⟩
  · rw [List.size_toArray, stCells_length _ _ _ _ hm]; exact infoSt
  · exact (show zeroStCells.size = 22 from rfl).trans (by rw [List.size_toArray, stCells_length _ _ _ _ hm])
/-- What Begin answers. -/
def BeginAt (P : List Fn) (args answers : List Int) (fuel : Int) (w : World) (e : Ending) (w' : World) : Prop :=
  ∃ E v', ProofAns P E ∧ e = .returned (.tuple #[v', .int .i64 (beginE E P args answers fuel)]) ∧ StAt w' w.heap.size v' (beginS (beginE E P args answers fuel) args answers fuel) ∧ Below w.heap.size w w'
set_option maxRecDepth 100000 in
set_option maxHeartbeats 1000000 in
theorem begin_at (P : List Fn) (v va vn : Value) (args answers : List Int) (fuel : Int) (w : World) (ht : TabOk w) (hc : CallOk w) (hv : ProgVal w v P) (hva : IntsVal w va args) (hvn : IntsVal w vn answers) :
    Calls Tryd.prog 29 #[.agg #[v], va, vn, .int .i64 fuel] w (BeginAt P args answers fuel w) := by
  have hbx : ∀ o o', Below w.heap.size w ((w.alloc o).alloc o') := fun o o' => ((Below.refl _ _).alloc (Nat.le_refl _) _).alloc (by simp) _
  have hC := fun o o' => pcheck_any P v ((w.alloc o).alloc o') (ht.below (hbx o o')) (hc.below (hbx o o')) (hv.keeps (keeps_below (hbx o o')))
  obtain ⟨aa, ca, rfl⟩ := hva.shape
  obtain ⟨an, cn, rfl⟩ := hvn.shape
  have HV : Hid (ProgVal w v P) := hv
  have HA : Hid (IntsVal w (.slice aa args.length ca) args) := hva
  have HN : Hid (IntsVal w (.slice an answers.length cn) answers) := hvn
  obtain ⟨ao, n0, cap0, rfl⟩ := hv.shape
  clear hv hva hvn ht hc
  go_enter Tryd.func29, Tryd.ntmps29
  go_upto_region 2 with (go_at_call 13; refine (hC _ _).mono ?_; rintro e w1 ⟨E, rfl, hE, hb1⟩)
  have k0 := keeps_below hb1 ⟨w.heap.size, 0, none⟩ (.slice ao n0 cap0) (by rw [cell_of_row _ _ _ _ _ _ (heap_alloc2_old _ _ _)]; rfl)
  have hz8 : w1.heap[w.heap.size + 1]? = some (.cells zeroStCells 34 (0, 0)) := (hb1.block _ (by simp)).trans (heap_alloc2_new _ _ _)
  have hsz : w.heap.size + 2 ≤ w1.heap.size := by have := hb1.size; simpa using this
  have HB1 : Hid (Below w.heap.size w w1) := (hbx _ _).trans (hb1.mono (by simp; omega))
  clear hb1 hC
  by_cases hE0 : E = 0
  · subst hE0
    obtain ⟨b, off, cap, hvs, d0, hp1, hpc, hcm, q0, q2⟩ := right_head hE (HV.out.keeps (keeps_below HB1.out))
    obtain ⟨rfl, rfl, rfl⟩ : ao = some ⟨b, off, none⟩ ∧ n0 = P.length ∧ cap0 = cap := by simpa using hvs
    clear hvs
    unfold maxLen at hcm
    have HE : Hid (ProofAns P 0) := hE
    have hA1 := HA.out.keeps (keeps_below HB1.out)
    have hN1 := HN.out.keeps (keeps_below HB1.out)
    by_cases c1 : (args.length : Int) = par0 P
    · by_cases c2 : 100 < answers.length
      · have HR : Hid (beginE 0 P args answers fuel = 1) := by show _ = _; unfold beginE; rw [if_neg (by simp), if_pos (Or.inr c2)]
        have c2I : decide ((100 : Int) < answers.length) = true := by simp; omega
        clear hE hA1 hN1
        go_wp2_with (first | (refine wpList_build_store rfl _ _ rfl zeroStCells (by simpa using built_zero) rfl _ _ rfl _ rfl rfl _ _ hz8 infoSt rfl zeroSt_one ?_) | (refine wpList_store_row rfl _ _ _ rfl _ zeroStCells rfl rfl _ _ hz8 infoSt rfl zeroSt_one ?_))
        try simp only [Exit.inBlock, Exit.then]
        refine bodyPost_ret (results_row_tmp rfl _ _ (w.heap.size + 1) 34 zeroStCells (0, 0) _ rfl (setRow_heap _ _ _ _ _ _ hz8) Tryd.underlying34 rfl infoSt) rfl ⟨_, _, HE.out, by rw [HR.out]; rfl, by rw [HR.out]; exact zero_stAt _ _, below_setRow HB1.out (by omega) _⟩
      · have c2I : decide ((100 : Int) < answers.length) = false := by simp; omega
        by_cases c3 : fuel < 0
        · have HR : Hid (beginE 0 P args answers fuel = 2) := by show _ = _; unfold beginE; rw [if_neg (by simp), if_neg (by omega), if_pos (Or.inl c3)]
          clear hE hA1 hN1
          go_wp2_with (first | (refine wpList_build_store rfl _ _ rfl zeroStCells (by simpa using built_zero) rfl _ _ rfl _ rfl rfl _ _ hz8 infoSt rfl zeroSt_one ?_) | (refine wpList_store_row rfl _ _ _ rfl _ zeroStCells rfl rfl _ _ hz8 infoSt rfl zeroSt_one ?_))
          try simp only [Exit.inBlock, Exit.then]
          refine bodyPost_ret (results_row_tmp rfl _ _ (w.heap.size + 1) 34 zeroStCells (0, 0) _ rfl (setRow_heap _ _ _ _ _ _ hz8) Tryd.underlying34 rfl infoSt) rfl ⟨_, _, HE.out, by rw [HR.out]; rfl, by rw [HR.out]; exact zero_stAt _ _, below_setRow HB1.out (by omega) _⟩
        · by_cases c4 : 10000 < fuel
          · have HR : Hid (beginE 0 P args answers fuel = 2) := by show _ = _; unfold beginE; rw [if_neg (by simp), if_neg (by omega), if_pos (Or.inr c4)]
            clear hE hA1 hN1
            go_wp2_with (first | (refine wpList_build_store rfl _ _ rfl zeroStCells (by simpa using built_zero) rfl _ _ rfl _ rfl rfl _ _ hz8 infoSt rfl zeroSt_one ?_) | (refine wpList_store_row rfl _ _ _ rfl _ zeroStCells rfl rfl _ _ hz8 infoSt rfl zeroSt_one ?_))
            try simp only [Exit.inBlock, Exit.then]
            refine bodyPost_ret (results_row_tmp rfl _ _ (w.heap.size + 1) 34 zeroStCells (0, 0) _ rfl (setRow_heap _ _ _ _ _ _ hz8) Tryd.underlying34 rfl infoSt) rfl ⟨_, _, HE.out, by rw [HR.out]; rfl, by rw [HR.out]; exact zero_stAt _ _, below_setRow HB1.out (by omega) _⟩
          · have HR : Hid (beginE 0 P args answers fuel = 0) := by show _ = _; unfold beginE; rw [if_neg (by simp), if_neg (by omega), if_neg (by omega)]
            have hal : args.length ≤ 12 := by omega
            have hBG := begun_any 0 _ args w1 hA1 hal
            have h12 := regsOf_length args hal
            obtain ⟨r0, r1, r2, r3, r4, r5, r6, r7, r8, r9, r10, r11, hrr⟩ := list12 h12
            have efc : frCells (begunFr 0 args) = [.int .i64 0, .int .i64 0, .int .i64 r0, .int .i64 r1, .int .i64 r2, .int .i64 r3, .int .i64 r4, .int .i64 r5, .int .i64 r6, .int .i64 r7, .int .i64 r8, .int .i64 r9, .int .i64 r10, .int .i64 r11] := by
              unfold frCells begunFr
              dsimp only
              rw [hrr]; rfl
            rw [efc] at hBG
            have HFC : Hid (frCells (begunFr 0 args) = [.int .i64 0, .int .i64 0, .int .i64 r0, .int .i64 r1, .int .i64 r2, .int .i64 r3, .int .i64 r4, .int .i64 r5, .int .i64 r6, .int .i64 r7, .int .i64 r8, .int .i64 r9, .int .i64 r10, .int .i64 r11]) := efc
            have H12 : Hid ((regsOf args).length = 12) := h12
            have HN1 : Hid (IntsVal w1 (.slice an answers.length cn) answers) := hN1
            have HC1 : Hid ((args.length : Int) = par0 P) := c1
            clear hE hA1 hN1 efc hrr h12
            go_wp2_with (first
              | (go_at_call 46; refine hBG.mono ?_; rintro e w2 ⟨rfl, hb2⟩; have hz8b := (hb2.block _ (show w.heap.size + 1 < w1.heap.size by omega)).trans hz8; clear hBG)
              | (go_at_call 35; refine (clone_ints _ answers _ (HN1.out.keeps (keeps_below (hb2.alloc hb2.size _))) (by omega)).mono ?_; rintro e w3 ⟨v3, rfl, ho3, hb3⟩; obtain ⟨a3, c3', rfl⟩ := own_shape ho3; have hz8c : w3.heap[w.heap.size + 1]? = some (.cells zeroStCells 34 (0, 0)) := (hb3.block _ (by have := hb2.size; simp; omega)).trans ((heap_alloc_old _ _ (by have := hb2.size; omega)).trans hz8b))
              | (refine wpList_build_store rfl _ _ rfl (stCells ⟨0, 0, [], noMem, fuel, [], []⟩ (.slice (some ⟨w2.heap.size, 0, none⟩) 1 1) (.slice none 0 0) (.slice a3 answers.length c3')).toArray (by simpa [Act.eval, Act.put] using built_begin (some ⟨w2.heap.size, 0, none⟩) a3 1 1 answers.length c3' fuel) rfl _ _ rfl _ rfl rfl _ _ hz8c infoSt rfl (stCells_one _ _ _ _ rfl rfl rfl) ?_))
            have hsz2 := hb2.size
            have hsz3 := hb3.size
            have HF : Hid (w3.heap[w2.heap.size]? = some (.cells (frCells (begunFr 0 args)).toArray 45 (0, 0))) := by
              show _ = _
              rw [hb3.block _ (by simp), HFC.out]
              exact heap_alloc_last _ _
            have hstl := stCells_length ⟨0, 0, [], noMem, fuel, [], []⟩ (.slice (some ⟨w2.heap.size, 0, none⟩) 1 1) (.slice none 0 0) (.slice a3 answers.length c3') rfl
            have hsi : (Tryd.prog.info? 34).map (·.size) = some (stCells ⟨0, 0, [], noMem, fuel, [], []⟩ (.slice (some ⟨w2.heap.size, 0, none⟩) 1 1) (.slice none 0 0) (.slice a3 answers.length c3')).toArray.size := by rw [List.size_toArray, hstl]; exact infoSt
            try simp only [Exit.inBlock, Exit.then]
            refine bodyPost_ret (results_row_tmp rfl _ _ (w.heap.size + 1) 34 _ (0, 0) _ rfl (setRow_heap _ _ _ _ _ _ hz8c) Tryd.underlying34 rfl hsi) rfl ⟨_, _, HE.out, by rw [HR.out]; rfl, ?_, ?_⟩
            · rw [HR.out, beginS_zero]
              refine ⟨_, _, _, rfl, rfl, frames_of_own (fun f hf => ?_) (one_frame H12.out ((setRow_other _ _ _ _ (by omega)).trans HF.out)), ints_nil _, ints_of_own (ownsRow_setRow ho3 (by simp; omega) _), low_own (one_frame H12.out HF.out) (by omega), low_nil _, low_own ho3 (by simp; omega)⟩
              have hf' : f ∈ [begunFr 0 args] := hf
              rw [List.mem_singleton] at hf'
              rw [hf']; exact H12.out
            · exact below_setRow (((HB1.out.trans (hb2.mono (by omega))).alloc (by omega) _).trans (hb3.mono (by simp; omega))) (by omega) _
    · have HR : Hid (beginE 0 P args answers fuel = 1) := by show _ = _; unfold beginE; rw [if_neg (by simp), if_pos (Or.inl c1)]
      clear hE hA1 hN1
      go_wp2_with (first | (refine wpList_build_store rfl _ _ rfl zeroStCells (by simpa using built_zero) rfl _ _ rfl _ rfl rfl _ _ hz8 infoSt rfl zeroSt_one ?_) | (refine wpList_store_row rfl _ _ _ rfl _ zeroStCells rfl rfl _ _ hz8 infoSt rfl zeroSt_one ?_))
      try simp only [Exit.inBlock, Exit.then]
      refine bodyPost_ret (results_row_tmp rfl _ _ (w.heap.size + 1) 34 zeroStCells (0, 0) _ rfl (setRow_heap _ _ _ _ _ _ hz8) Tryd.underlying34 rfl infoSt) rfl ⟨_, _, HE.out, by rw [HR.out]; rfl, by rw [HR.out]; exact zero_stAt _ _, below_setRow HB1.out (by omega) _⟩
  · have HE : Hid (ProofAns P E) := hE
    have HR : Hid (beginE E P args answers fuel = E) := by show _ = _; unfold beginE; rw [if_pos hE0]
    have HS : Hid (∀ a b c, beginS E a b c = zeroSt) := fun a b c => by unfold beginS; rw [if_neg hE0]
    clear hE
    go_wp2_with (first | (refine wpList_build_store rfl _ _ rfl zeroStCells (by simpa using built_zero) rfl _ _ rfl _ rfl rfl _ _ hz8 infoSt rfl zeroSt_one ?_) | (refine wpList_store_row rfl _ _ _ rfl _ zeroStCells rfl rfl _ _ hz8 infoSt rfl zeroSt_one ?_))
    try simp only [Exit.inBlock, Exit.then]
    refine bodyPost_ret (results_row_tmp rfl _ _ (w.heap.size + 1) 34 zeroStCells (0, 0) _ rfl (setRow_heap _ _ _ _ _ _ hz8) Tryd.underlying34 rfl infoSt) rfl ⟨_, _, HE.out, by rw [HR.out]; rfl, by rw [HR.out, HS.out]; exact zero_stAt _ _, below_setRow HB1.out (by omega) _⟩
end Go.Proofs.YtgdmdlkhnokieaaDoor

/- Contract of step.Walk, at states from which a walk stays in states that may be. -/
namespace Go.Proofs.YtgdmdlkhnokieaaDoor
open Go Go.RowKit

/-- A step of a running state that may be. -/
theorem step_any (base g : Nat) (P : List Fn) (pv : Value) (S : St) (fv ev av : Value) (w : World) (h : EngAt w base g P pv S fv ev av) (hc : codeProg P = 0) (hf : FOk P S.frames) (hm : mayB S = true) (h0 : S.status = 0) (he : S.events.length * 8 + 8 ≤ 140737488355328) :
    Calls Tryd.prog 22 #[.pointer (some ⟨g, 0, none⟩)] w (EngPost base g P pv (stepS P S) w) := by
  obtain ⟨-, -, f0, f1, h9, -, hd, -⟩ := (mayB_iff S).1 hm
  unfold stepS
  by_cases hfu : S.fuel = 0
  · rw [if_pos hfu]; exact step_empty base g P pv S fv ev av w h hfu
  rw [if_neg hfu]
  cases hl : S.frames.getLast? with
  | none =>
    have : S.frames = [] := List.getLast?_eq_none_iff.1 hl
    rw [this] at hd
    have h1 := hd.2 rfl
    omega
  | some f =>
    dsimp only
    have hS := snoc_of_last hl
    generalize S.frames.dropLast = fs at hS
    have hf' := hf
    rw [hS] at hf'
    obtain ⟨g1, g2, _⟩ := (fok_snoc _ _ _).1 hf'
    exact step_more base g P pv S fv ev av fs f w h hS hfu f0 (by omega) hc g2 h9 he (fun c hcl => g1.place c (List.mem_of_getLast? hcl))

theorem walkS_succ (P : List Fn) (k : Nat) (S : St) (h : (walkS P k S).status = 0) : walkS P (k + 1) S = stepS P (walkS P k S) := by
  rw [walkS_add P k 1 S]
  show (if (walkS P k S).status = 0 then walkS P 0 (stepS P (walkS P k S)) else walkS P k S) = _
  rw [if_pos h]; rfl
theorem walkS_ended (P : List Fn) (k n : Nat) (S : St) (hk : k ≤ n) (h : (walkS P k S).status ≠ 0) : walkS P n S = walkS P k S := by
  obtain ⟨m, rfl⟩ := Nat.exists_eq_add_of_le hk
  rw [walkS_add, walkS_stays _ _ _ h]
theorem doS_events (P : List Fn) (S : St) (fs : List Fr) (f : Fr) (x : Ins) : (doS P S fs f x).events.length ≤ S.events.length + 1 := by
  unfold doS
  repeat' split
  all_goals first | (simp; done) | (rw [retS_events]; omega)
theorem stepS_events_len (P : List Fn) (S : St) : (stepS P S).events.length ≤ S.events.length + 1 := by
  unfold stepS
  split
  · simp
  · split
    · omega
    · split
      · exact doS_events _ _ _ _ _
      · simp
theorem walkS_events_len (P : List Fn) (k : Nat) (S : St) : (walkS P k S).events.length ≤ S.events.length + k := by
  induction k with
  | zero => exact Nat.le_refl _
  | succ k ih =>
    by_cases h : (walkS P k S).status = 0
    · rw [walkS_succ P k S h]
      have := stepS_events_len P (walkS P k S)
      omega
    · rw [walkS_ended P k (k + 1) S (by omega) h]; omega

/-- States from which so many steps stay in states that may be. -/
def Stays (P : List Fn) (N : Nat) (S : St) : Prop := ∀ i, i = 0 ∨ i < N → mayB (walkS P i S) = true ∧ FOk P (walkS P i S).frames
theorem stays_of_run {P : List Fn} (hR : ProofAns P 0) {S : St} (h : RunInv P S) (N : Nat) : Stays P N S := fun i _ => ⟨(runInv_walk hR i h).may, (runInv_walk hR i h).fok⟩

theorem infoEng : (Tryd.prog.info? 73).map (·.size) = some 23 := by kernel_rfl
theorem heap_alloc3_new (w : World) (o o' o'' : Obj) : (((w.alloc o).alloc o').alloc o'').heap[w.heap.size + 1 + 1]? = some o'' := by
  have := heap_alloc_last ((w.alloc o).alloc o') o''
  rw [World.size_alloc, World.size_alloc] at this
  exact this
theorem list16 {l : List Int} (h : l.length = 16) : ∃ m0 m1 m2 m3 m4 m5 m6 m7 m8 m9 m10 m11 m12 m13 m14 m15, l = [m0, m1, m2, m3, m4, m5, m6, m7, m8, m9, m10, m11, m12, m13, m14, m15] := by
  match l, h with
  | [m0, m1, m2, m3, m4, m5, m6, m7, m8, m9, m10, m11, m12, m13, m14, m15], _ => exact ⟨m0, m1, m2, m3, m4, m5, m6, m7, m8, m9, m10, m11, m12, m13, m14, m15, rfl⟩
theorem built_eng (S : St) (fv ev av pv : Value) (hm : S.mem.length = 16) : Tryd.prog.built 73 [(0, .agg (stCells S fv ev av).toArray), (1, .agg #[pv])] = some (engCells S fv ev av pv).toArray := by
  obtain ⟨status, value, frames, mem, fuel, events, answers⟩ := S
  obtain ⟨m0, m1, m2, m3, m4, m5, m6, m7, m8, m9, m10, m11, m12, m13, m14, m15, rfl⟩ := list16 hm
  kernel_rfl

theorem ownsRow_setRow_ne {w : World} {base t size n : Nat} {v : Value} {xs : List Value} (h : w.ownsRow base t size v n xs) {g : Nat} (hg : v.ownBlock ≠ some g) (cs : Array Value) : (w.setRow g cs).ownsRow base t size v n xs := by
  refine ⟨h.1, ?_⟩
  rcases h.2 with h2 | ⟨g', cap, cur, hv, hb, hh, r⟩
  · exact Or.inl h2
  · refine Or.inr ⟨g', cap, cur, hv, hb, (setRow_other w g cs g' ?_).trans hh, r⟩
    intro e
    rw [hv, e] at hg
    exact hg rfl
/-- A state of the call's own, laid into an engine. -/
theorem eng_new {w : World} {base base' g : Nat} {P : List Fn} {pv v fv ev av : Value} {S : St} {old : Array Value} (ho : OwnState w base' v S fv ev av) (hb : base ≤ base') (hbg : base ≤ g) (hg : w.heap[g]? = some (.cells old 73 (0, 0)))
    (hp : ∀ W, Below base (w.setRow g (engCells S fv ev av pv).toArray) W → ProgVal W pv P) : EngAt (w.setRow g (engCells S fv ev av pv).toArray) base g P pv S fv ev av := by
  have nf : fv.ownBlock ≠ some g := block_ne_own ho.frames hg (by decide)
  have ne : ev.ownBlock ≠ some g := block_ne_own ho.events hg (by decide)
  have na : av.ownBlock ≠ some g := block_ne_own ho.answers hg (by decide)
  have haf := own_apart ho.answers ho.frames (by decide)
  refine ⟨setRow_heap _ _ _ _ _ _ hg, hbg, ho.mem, ho.wf, ownsRow_mono (ownsRow_setRow_ne ho.frames nf _) hb, ownsRow_mono (ownsRow_setRow_ne ho.events ne _) hb, ints_of_own (ownsRow_setRow_ne ho.answers na _), fun a n cp e hn => ?_, fun a n cp e hn => ?_, hp⟩
  rotate_left
  · rcases ho.answers.2 with ⟨e1, _⟩ | ⟨g1, cap1, cur1, e1, hb1, _⟩
    · rw [e] at e1; cases e1
    · rw [e] at e1; cases e1; exact Nat.le_trans hb hb1
  have ea : av.ownBlock = some a.block := by
    obtain ⟨g1, cap1, e1, _⟩ := ho.answers.form (by
      rcases ho.answers.2 with ⟨e1, _⟩ | ⟨g1, cap1, cur1, e1, _⟩
      · rw [e] at e1; cases e1
      · rw [e] at e1; cases e1; exact hn)
    rw [e] at e1
    cases e1
    rw [e]; rfl
  refine ⟨fun e2 => na (by rw [ea, e2]), fun e2 => ?_, fun e2 => ?_⟩
  · rcases ho.apart with h1 | h1 | h1
    · rw [h1] at e2; cases e2
    · rw [h1] at ea; cases ea
    · exact h1 (by rw [ea, e2])
  · rcases haf with h1 | h1
    · rw [h1] at ea; cases ea
    · exact h1 (by rw [ea, e2])
theorem engCells_st (S : St) (fv ev av pv : Value) : engCells S fv ev av pv = stCells S fv ev av ++ [pv] := by simp [engCells, stCells]
/-- The state comes out of the engine. -/
theorem eng_out {w : World} {base g r : Nat} {P : List Fn} {pv fv ev av : Value} {S : St} (h : EngAt w base g P pv S fv ev av) (hr : r < base) :
    StAt (w.setRow r (stCells S fv ev av).toArray) base (.agg (stCells S fv ev av).toArray) S ∧ w.rangeAt g 0 (stCells S fv ev av) := by
  refine ⟨StAt.setRow ⟨fv, ev, av, rfl, h.mem, frames_of_own h.wf h.frames, ints_of_own h.events, h.answers, low_own h.frames (Nat.le_refl _), low_own h.events (Nat.le_refl _), h.alow⟩ hr _, fun j u hu => ?_⟩
  · rw [cell_of_row _ _ _ _ _ _ h.cells, List.getElem?_toArray, engCells_st, Nat.zero_add, List.getElem?_append_left (List.getElem?_eq_some_iff.1 hu).1]
    exact hu
/-- The last frame, as cells. -/
theorem eng_last {w : World} {base g fb n cap : Nat} {P : List Fn} {pv ev av : Value} {S : St} {fs : List Fr} {f : Fr} (h : EngAt w base g P pv S (.slice (some ⟨fb, 0, none⟩) n cap) ev av) (hS : S.frames = fs ++ [f]) : w.rangeAt fb (fs.length * 14) (frCells f) := by
  obtain ⟨hn, c1, c2, l0, l1, l2, -⟩ := h.lastCells hS
  have h12 := h.wf f (by rw [hS]; simp)
  intro j u hu
  have hj : j < 14 := by have := (List.getElem?_eq_some_iff.1 hu).1; rw [frCells_length f h12] at this; exact this
  rcases j with _ | _ | j
  · have e : Value.int .i64 f.fn = u := by simpa [frCells] using hu
    rw [← e]; exact l0
  · have e : Value.int .i64 f.pc = u := by simpa [frCells] using hu
    rw [← e]; exact l1
  · have e : Value.int .i64 (f.regs.getD j 0) = u := by
      have hjl : j < f.regs.length := by omega
      have : (i64s f.regs)[j]? = some u := by simpa [frCells] using hu
      simpa [i64s, List.getD, hjl] using this
    rw [← e, show fs.length * 14 + (j + 1 + 1) = fs.length * 14 + 2 + j by omega]
    exact l2 j (by omega)
theorem engCells_one (S : St) (fv ev av pv : Value) (h1 : fv.oneCell' = true) (h2 : ev.oneCell' = true) (h3 : av.oneCell' = true) (h4 : pv.oneCell' = true) : (engCells S fv ev av pv).toArray.all (·.oneCell') = true := by
  rw [Array.all_eq_true_iff_forall_mem]
  intro u hu
  simp [engCells] at hu
  rcases hu with rfl | rfl | rfl | hu | rfl | rfl | rfl | rfl
  · rfl
  · rfl
  · exact h1
  · exact i64s_one _ u hu
  · rfl
  · exact h2
  · exact h3
  · exact h4
def zeroEngCells : Array Value := (engCells zeroSt (.slice none 0 0) (.slice none 0 0) (.slice none 0 0) (.slice none 0 0)).toArray
theorem OwnState.below {w w' : World} {base : Nat} {v : Value} {s : St} {fv ev av : Value} (h : OwnState w base v s fv ev av) (hb : Below w.heap.size w w') : OwnState w' base v s fv ev av :=
  ⟨h.val, h.mem, h.wf, ownsRow_below h.frames hb, ownsRow_below h.events hb, ownsRow_below h.answers hb, h.apart⟩
theorem zeroEng : (Tryd.prog.info? 73).bind (fun i => i.zero) = some (.agg (engCells zeroSt (.slice none 0 0) (.slice none 0 0) (.slice none 0 0) (.slice none 0 0)).toArray) := by kernel_rfl
theorem yieldsIf_build {P : Program} {ops : Array Oper} {S : World → Prop} {o : Oper} {a : Act} (hw : Region.wanted o (yielded ops a.tmps) = true) (t : TypeId) (parts : Array (Nat × Operand)) (ho : o.op = .build t parts) (cells : Array Value)
    (hf : P.built t (parts.map fun (i, x) => (i, a.eval x)).toList = some cells) : YieldsIf P ops S o (.agg cells) a :=
  .inl ⟨hw, fun w _ => by
    unfold execOp
    simp only [ho, Sem.run_bind, run_build w t _ cells hf, Result.andThen_ok, Sem.run_pure]⟩

set_option maxRecDepth 100000 in
set_option maxHeartbeats 8000000 in
theorem walk_any (P : List Fn) (v sv : Value) (S : St) (N : Nat) (w : World) (ht : TabOk w) (hc : CallOk w) (hR : ProofAns P 0) (hv : ProgVal w v P) (hs : StVal w sv S) (hg : Stays P N S) (hN : N ≤ 100000) (he : (S.events.length + N) * 8 + 8 ≤ 140737488355328) :
    Calls Tryd.prog 8 #[.agg #[v], sv, .int .i64 N] w fun e w' => ∃ v', e = .returned (.tuple #[v', .int .i64 0]) ∧ StAt w' w.heap.size v' (walkS P N S) ∧ Below w.heap.size w w' := by
  have hbx : ∀ o o' o'', Below w.heap.size w (((w.alloc o).alloc o').alloc o'') := fun o o' o'' => (((Below.refl _ _).alloc (Nat.le_refl _) _).alloc (by simp) _).alloc (by simp; omega) _
  have hC : Hid (∀ o o' o'', Calls Tryd.prog 18 #[.agg #[v], sv] (((w.alloc o).alloc o').alloc o'') fun e w' => e = .returned (.int .i64 0) ∧ Below (((w.alloc o).alloc o').alloc o'').heap.size (((w.alloc o).alloc o').alloc o'') w') := fun o o' o'' => by
    refine (stepCheck_any P v sv S _ (ht.below (hbx o o' o'')) (hc.below (hbx o o' o'')) (hv.keeps (keeps_below (hbx o o' o''))) (hs.keeps (keeps_below (hbx o o' o'')))).mono ?_
    rintro e w' ⟨E, hE, rfl, hb⟩
    obtain rfl := proofAns_unique hE hR
    obtain ⟨g1, g2⟩ := hg 0 (Or.inl rfl)
    have e0 : checkE 0 P S = 0 := by
      unfold checkE
      rw [if_neg (by simp), if_pos]
      have g3 : framesB P S.frames = true := (framesB_iff _ _).2 g2
      have g1 : mayB S = true := g1
      rw [g1, g3]; rfl
    rw [e0]
    exact ⟨rfl, hb⟩
  have HV : Hid (ProgVal w v P) := hv
  have HSV : Hid (StVal w sv S) := hs
  obtain ⟨ao, n0, cap0, rfl⟩ := hv.shape
  obtain ⟨fv, ev, av, rfl, hm, hf, he', ha⟩ := hs
  obtain ⟨cs, hcs⟩ : ∃ cs, cs = (stCells S fv ev av).toArray := ⟨_, rfl⟩
  have hsz : (Tryd.prog.info? 34).map (·.size) = some cs.size := by rw [hcs, List.size_toArray, stCells_length _ _ _ _ hm]; exact infoSt
  rw [← hcs] at hC HSV ⊢
  clear hf he' ha ht hc hv hcs
  have hNI : ¬ (N : Int) < 0 := by omega
  go_enter Tryd.func8, Tryd.ntmps8
  go_upto_region 6 with (first
    | (refine wpList_load_row rfl _ _ rfl _ rfl _ _ _ _ (heap_alloc_old _ _ (by simp) |>.trans (heap_alloc2_new _ _ _)) Tryd.underlying34 rfl hsz ?_)
    | (go_at_call 18; refine (hC.out _ _ _).mono ?_; rintro e w1 ⟨rfl, hb1⟩))
  have k0 : w1.cell? ⟨w.heap.size, 0, none⟩ = some (.slice ao n0 cap0) := by
    refine keeps_below hb1 _ _ ?_
    rw [cell_of_row _ _ _ _ _ _ ((heap_alloc_old _ _ (by simp; omega)).trans (heap_alloc2_old _ _ _))]; rfl
  have h9 : w1.heap[w.heap.size + 1]? = some (.cells cs 34 (0, 0)) := (hb1.block _ (by simp)).trans ((heap_alloc_old _ _ (by simp)).trans (heap_alloc2_new _ _ _))
  have h6 : w1.heap[w.heap.size + 1 + 1]? = some (.cells zeroStCells 34 (0, 0)) := (hb1.block _ (by simp)).trans (heap_alloc3_new _ _ _ _)
  have HB1 : Hid (Below w.heap.size w w1) := (hbx _ _ _).trans (hb1.mono (by simp; omega))
  have HZ1 : Hid (w.heap.size + 3 ≤ w1.heap.size) := by have := hb1.size; simp at this; show _ ≤ _; omega
  have HOWN : Hid (∀ W, Below w1.heap.size w1 W → Calls Tryd.prog 19 #[.agg cs] W fun e w' => ∃ v' fv ev av, e = .returned v' ∧ OwnState w' W.heap.size v' S fv ev av ∧ Below W.heap.size W w') := fun W hb =>
    own_any S _ W (HSV.out.keeps (keeps_below (HB1.out.trans (hb.mono HB1.out.size)))) (by have := (mayB_iff _).1 (hg 0 (Or.inl rfl)).1; have : S.frames.length ≤ 8 := this.2.2.2.2.1; omega) (by omega) (by have := (mayB_iff _).1 (hg 0 (Or.inl rfl)).1; have : S.answers.length ≤ 100 := this.2.2.2.2.2.1; omega)
  have HPV : Hid (∀ W, Below w1.heap.size w1 W → ProgVal W (.slice ao n0 cap0) P) := fun W hb => HV.out.keeps (keeps_below (HB1.out.trans (hb.mono HB1.out.size)))
  have HM : Hid (S.mem.length = 16) := hm
  refine wp_region_last (S := fun W => Below w1.heap.size w1 W) _ 5 (by kernel_rfl) (by kernel_rfl) rfl ((Below.refl _ _).drew) (fun hHeld => ?_)
  simp only [List.pop_toArray, List.dropLast]
  refine wpAnyH_take (i := 0) (v := .agg cs.toList.toArray) rfl (by kernel_rfl) (by kernel_rfl) (by kernel_rfl) (fun _ _ _ h => h) (yieldsIf_load_mid (by rfl) 34 (.tmp 4) rfl (w.heap.size + 1) 0 rfl cs.toList _ (fun W hSW j u hu => by
      rw [cell_of_row _ _ _ _ _ _ ((hSW.block _ (by have := HZ1.out; omega)).trans h9)]; simpa using hu) Tryd.underlying34 rfl (by simpa using hsz)) (by assumption) ?_
  (try simp only [Act.put, Array.toArray_toList, List.setIfInBounds_toArray])
  refine wpAnyH_take (i := 2) (v := ?_) rfl (by kernel_rfl) (by kernel_rfl) (by kernel_rfl) (fun _ _ _ h => h) (Or.inl ⟨by rfl, ?_⟩) (by assumption) ?_
  rotate_left
  · (intro W hSW; have zz := keeps_below hSW _ _ k0; go_simp; try (with_reducible rfl))
  (try simp only [Act.put])
  refine wpAnyH_ready (rs := [1, 4]) (by kernel_rfl) (by simp) ?_
  refine AllReadyH.cons rfl (fun K hK => ?_) (AllReadyH.cons rfl (fun K hK => ?_) AllReadyH.nil)
  · go_simp
    go_at_call 19
    refine (HOWN.out _ hHeld).mono ?_
    rintro e w2 ⟨v2, fv2, ev2, av2, rfl, ho2, hb2⟩
    obtain rfl := ho2.val
    obtain ⟨fa2, fc2, rfl⟩ := own_shape ho2.frames
    obtain ⟨ea2, ec2, rfl⟩ := own_shape ho2.events
    obtain ⟨aa2, ac2, rfl⟩ := own_shape ho2.answers
    have HB2 : Hid (Below w1.heap.size w1 w2) := hHeld.trans (hb2.mono (Nat.le_refl _))
    dsimp only
    refine hK.out _ _ HB2.out (fun _ => ?_)
    clear hK K
    (try simp only [Act.put, List.setIfInBounds_toArray, List.set_cons_zero, List.set_cons_succ])
    refine wpAnyH_take (i := 3) (v := .agg (engCells S (.slice fa2 S.frames.length fc2) (.slice ea2 S.events.length ec2) (.slice aa2 S.answers.length ac2) (.slice ao n0 cap0)).toArray) rfl (by kernel_rfl) (by kernel_rfl) (by kernel_rfl) (fun _ _ _ h => h) (yieldsIf_build (by rfl) _ _ rfl _ (by simpa [Act.eval] using built_eng S (.slice fa2 S.frames.length fc2) (.slice ea2 S.events.length ec2) (.slice aa2 S.answers.length ac2) (.slice ao n0 cap0) HM.out)) HB2.out ?_
    (try simp only [Act.put, List.setIfInBounds_toArray])
    refine wpAnyH_ready (rs := [4]) (by kernel_rfl) (by simp) ?_
    refine AllReadyH.cons rfl (fun K hK => ?_) AllReadyH.nil
    go_simp
    refine hK.out _ _ (HB2.out.alloc HB2.out.size _) (fun _ => ?_)
    clear hK K
    (try simp only [Act.put, List.setIfInBounds_toArray, List.set_cons_zero, List.set_cons_succ])
    refine wpAnyH_done (by kernel_rfl) ?_ _
    refine Or.inl ?_
    refine wp_store_row 73 _ _ rfl w2.heap.size (engCells S (.slice fa2 S.frames.length fc2) (.slice ea2 S.events.length ec2) (.slice aa2 S.answers.length ac2) (.slice ao n0 cap0)).toArray rfl rfl 73 zeroEngCells (heap_alloc_last w2 _) (by rw [List.size_toArray, engCells_length _ _ _ _ HM.out]; exact infoEng) ((show zeroEngCells.size = 23 from rfl).trans (by rw [List.size_toArray, engCells_length _ _ _ _ HM.out])) (engCells_one _ _ _ _ _ rfl rfl rfl rfl) ?_
    have HBN : Hid (Below w1.heap.size w1 (World.setRow (w2.alloc (.cells #[.int .i64 0, .int .i64 0, .slice none 0 0, .int .i64 0, .int .i64 0, .int .i64 0, .int .i64 0, .int .i64 0, .int .i64 0, .int .i64 0, .int .i64 0, .int .i64 0, .int .i64 0, .int .i64 0, .int .i64 0, .int .i64 0, .int .i64 0, .int .i64 0, .int .i64 0, .int .i64 0, .slice none 0 0, .slice none 0 0, .slice none 0 0] 73)) w2.heap.size (engCells S (.slice fa2 S.frames.length fc2) (.slice ea2 S.events.length ec2) (.slice aa2 S.answers.length ac2) (.slice ao n0 cap0)).toArray)) := below_setRow (HB2.out.alloc HB2.out.size _) HB2.out.size _
    have HEN : Hid (EngAt (World.setRow (w2.alloc (.cells #[.int .i64 0, .int .i64 0, .slice none 0 0, .int .i64 0, .int .i64 0, .int .i64 0, .int .i64 0, .int .i64 0, .int .i64 0, .int .i64 0, .int .i64 0, .int .i64 0, .int .i64 0, .int .i64 0, .int .i64 0, .int .i64 0, .int .i64 0, .int .i64 0, .int .i64 0, .int .i64 0, .slice none 0 0, .slice none 0 0, .slice none 0 0] 73)) w2.heap.size (engCells S (.slice fa2 S.frames.length fc2) (.slice ea2 S.events.length ec2) (.slice aa2 S.answers.length ac2) (.slice ao n0 cap0)).toArray) w1.heap.size w2.heap.size P (.slice ao n0 cap0) S (.slice fa2 S.frames.length fc2) (.slice ea2 S.events.length ec2) (.slice aa2 S.answers.length ac2)) := eng_new (ho2.below ((Below.refl _ _).alloc (Nat.le_refl _) _)) (Nat.le_refl _) HB2.out.size (heap_alloc_last w2 _) (fun W hW => HPV.out W (HBN.out.trans hW))
    generalize World.setRow (w2.alloc (.cells #[.int .i64 0, .int .i64 0, .slice none 0 0, .int .i64 0, .int .i64 0, .int .i64 0, .int .i64 0, .int .i64 0, .int .i64 0, .int .i64 0, .int .i64 0, .int .i64 0, .int .i64 0, .int .i64 0, .int .i64 0, .int .i64 0, .int .i64 0, .int .i64 0, .int .i64 0, .int .i64 0, .slice none 0 0, .slice none 0 0, .slice none 0 0] 73)) w2.heap.size (engCells S (.slice fa2 S.frames.length fc2) (.slice ea2 S.events.length ec2) (.slice aa2 S.answers.length ac2) (.slice ao n0 cap0)).toArray = WW at HBN HEN ⊢
    obtain ⟨G, hG⟩ : ∃ G : Nat, G = w2.heap.size := ⟨_, rfl⟩
    have HEM : Hid (EngAt WW w1.heap.size G P (.slice ao n0 cap0) S (.slice fa2 S.frames.length fc2) (.slice ea2 S.events.length ec2) (.slice aa2 S.answers.length ac2)) := by rw [hG]; exact HEN
    rw [← hG]
    clear HEN
    clear hG ho2 hb2 hHeld
    (try simp only [Act.put, List.setIfInBounds_toArray])
    go_wp2_with fail
    go_loopw [2] (fun n wr => ∃ (k m : Nat) (fv ev av : Value), k + m = N ∧ n = .int .i64 (m : Int) ∧ EngAt wr w1.heap.size G P (.slice ao n0 cap0) (walkS P k S) fv ev av ∧ Below w1.heap.size w1 wr) (fun n _ => (intOf n).toNat)
    case atStart => exact ⟨0, N, _, _, _, by omega, rfl, HEM.out, HBN.out⟩
    case round =>
      obtain ⟨k, m, fv3, ev3, av3, hkm, rfl, hen, hbn⟩ := hrel
      obtain ⟨q0, -⟩ := hen.own
      obtain ⟨fa3, fc3, rfl⟩ := own_shape hen.frames
      obtain ⟨ea3, ec3, rfl⟩ := own_shape hen.events
      obtain ⟨aa3, ac3, rfl⟩ := hen.answers.shape
      have HER : Hid (EngAt wr w1.heap.size G P (.slice ao n0 cap0) (walkS P k S) (.slice fa3 (walkS P k S).frames.length fc3) (.slice ea3 (walkS P k S).events.length ec3) (.slice aa3 (walkS P k S).answers.length ac3)) := hen
      have HBR : Hid (Below w1.heap.size w1 wr) := hbn
      have k0r : wr.cell? ⟨w.heap.size, 0, none⟩ = some (.slice ao n0 cap0) := keeps_below hbn _ _ k0
      have h6r : wr.heap[w.heap.size + 1 + 1]? = some (.cells zeroStCells 34 (0, 0)) := (hbn.block _ (by have := HZ1.out; omega)).trans h6
      obtain ⟨OUT, ORG⟩ := eng_out hen (show w.heap.size + 1 + 1 < w1.heap.size by have := HZ1.out; omega)
      have HOUT : Hid _ := OUT
      have hsi : (Tryd.prog.info? 34).map (·.size) = some (stCells (walkS P k S) (.slice fa3 (walkS P k S).frames.length fc3) (.slice ea3 (walkS P k S).events.length ec3) (.slice aa3 (walkS P k S).answers.length ac3)).length := by rw [stCells_length _ _ _ _ hen.mem]; exact infoSt
      have hold : zeroStCells.size = (stCells (walkS P k S) (.slice fa3 (walkS P k S).frames.length fc3) (.slice ea3 (walkS P k S).events.length ec3) (.slice aa3 (walkS P k S).answers.length ac3)).toArray.size := (show zeroStCells.size = 22 from rfl).trans (by rw [List.size_toArray, stCells_length _ _ _ _ hen.mem])
      have hone := stCells_one (walkS P k S) (.slice fa3 (walkS P k S).frames.length fc3) (.slice ea3 (walkS P k S).events.length ec3) (.slice aa3 (walkS P k S).answers.length ac3) rfl rfl rfl
      by_cases hrun : 0 < m ∧ (walkS P k S).status = 0
      · obtain ⟨hm0, hst⟩ := hrun
        obtain ⟨gm, gf⟩ := hg k (Or.inr (by omega))
        have hfr : (walkS P k S).frames ≠ [] := by
          intro e
          have := ((mayB_iff _).1 gm).2.2.2.2.2.2.1.2 (by rw [e]; rfl)
          omega
        obtain ⟨fs, f, hSf⟩ : ∃ fs f, (walkS P k S).frames = fs ++ [f] := ⟨_, _, (List.dropLast_concat_getLast hfr).symm⟩
        have hpf : placeB P f = true := gf.place f (by rw [hSf]; simp)
        have hf12 : f.regs.length = 12 := hen.wf f (by rw [hSf]; simp)
        obtain ⟨fb, cap3, hfa⟩ := hen.fshape hfr
        obtain ⟨rfl, rfl⟩ : fa3 = some ⟨fb, 0, none⟩ ∧ fc3 = cap3 := by simpa using hfa
        have HST : Hid (∀ W, Below wr.heap.size wr W → Calls Tryd.prog 22 #[.pointer (some ⟨G, 0, none⟩)] W (EngPost w1.heap.size G P (.slice ao n0 cap0) (walkS P (k + 1) S) W)) := fun W hb => by
          rw [walkS_succ P k S hst]
          exact step_any w1.heap.size G P (.slice ao n0 cap0) (walkS P k S) _ _ _ W (HER.out.below hb) (right_code hR) gf gm hst (by have := walkS_events_len P k S; omega)
        have HLA : Hid (∀ W, Below wr.heap.size wr W → Calls Tryd.prog 21 #[.pointer (some ⟨G, 0, none⟩)] W fun e w' => e = .returned (.pointer (some ⟨fb, fs.length * 14, none⟩)) ∧ Below W.heap.size W w') := fun W hb => last_eng (HER.out.below hb) hSf
        have HPL : Hid (∀ W, Below wr.heap.size wr W → Calls Tryd.prog 20 #[.agg #[.slice ao n0 cap0], .agg (frCells f).toArray] W fun e w' => e = .returned (.bool true) ∧ Below W.heap.size W w') := fun W hb => by
          have := hasPlace_any P (.slice ao n0 cap0) f W (HPV.out W (HBR.out.trans (hb.mono HER.out.base))) hf12
          rw [hpf] at this; exact this
        have HRF : Hid (∀ W, Below wr.heap.size wr W → W.rangeAt fb (fs.length * 14) (frCells f)) := fun W hb => eng_last (HER.out.below hb) hSf
        have hfl : (Tryd.prog.info? 45).map (·.size) = some (frCells f).length := by rw [frCells_length f hf12]; exact infoFr
        rw [hst] at q0
        obtain ⟨m', rfl⟩ : ∃ m' : Nat, m = m' + 1 := ⟨m - 1, by omega⟩
        have hmI : (0 : Int) < ((m' + 1 : Nat) : Int) := by omega
        have hw1 : IntKind.i64.wrap (((m' + 1 : Nat) : Int) - 1) = (m' : Int) := by rw [show ((m' + 1 : Nat) : Int) - 1 = m' by omega]; exact wrap_fits _ (by omega) (by omega)
        generalize hmm : m' + 1 = mm at hmI hw1 ⊢
        have HMM : Hid (m' + 1 = mm) := hmm
        clear hmm hen hbn OUT ORG hsi hold hone gm gf hfr hSf hfa hst hpf h6r hm0
        go_upto_region 9 with fail
        refine wp_region_held_drew (S := fun W => Below wr.heap.size wr W) (by kernel_rfl) ((Below.refl _ _).drew) (fun hHeld => ?_)
        show wpAnyH _ _ _ _ _ 6 _ _ _
        refine wpAnyH_take (i := 0) (v := ?_) rfl (by kernel_rfl) (by kernel_rfl) (by kernel_rfl) (fun _ _ _ h => h) (Or.inl ⟨by rfl, ?_⟩) (by assumption) ?_
        rotate_left
        · (intro W hSW; have zz := keeps_below hSW _ _ k0r; go_simp; try (with_reducible rfl))
        (try simp only [Act.put, List.setIfInBounds_toArray])
        refine wpAnyH_ready (rs := [1]) (by kernel_rfl) (by simp) ?_
        refine AllReadyH.cons rfl (fun K hK => ?_) AllReadyH.nil
        go_simp
        go_at_call 21
        refine (HLA.out _ hHeld).mono ?_
        rintro e w3 ⟨rfl, hb3⟩
        have HB3 : Hid (Below wr.heap.size wr w3) := hHeld.trans (hb3.mono (Nat.le_refl _))
        dsimp only
        refine hK.out _ _ HB3.out (fun _ => ?_)
        clear hK K
        (try simp only [Act.put, List.setIfInBounds_toArray, List.set_cons_zero, List.set_cons_succ])
        refine wpAnyH_take (i := 2) (v := ?_) rfl (by kernel_rfl) (by kernel_rfl) (by kernel_rfl) (fun _ _ _ h => h) (Or.inl ⟨by rfl, ?_⟩) HB3.out ?_
        rotate_left
        · (intro W hSW; go_simp; try (with_reducible rfl))
        (try simp only [Act.put, List.setIfInBounds_toArray])
        refine wpAnyH_take (i := 3) (v := .agg (frCells f).toArray) rfl (by kernel_rfl) (by kernel_rfl) (by kernel_rfl) (fun _ _ _ h => h) (yieldsIf_load_mid (by rfl) 45 (.tmp 36) rfl fb (fs.length * 14) rfl (frCells f) _ HRF.out Tryd.underlying45 rfl hfl) HB3.out ?_
        (try simp only [Act.put])
        refine wpAnyH_ready (rs := [4]) (by kernel_rfl) (by simp) ?_
        refine AllReadyH.cons rfl (fun K hK => ?_) AllReadyH.nil
        go_simp
        go_at_call 20
        refine (HPL.out _ HB3.out).mono ?_
        rintro e w4 ⟨rfl, hb4⟩
        have HB4 : Hid (Below wr.heap.size wr w4) := HB3.out.trans (hb4.mono HB3.out.size)
        dsimp only
        refine hK.out _ _ HB4.out (fun _ => ?_)
        clear hK K
        (try simp only [Act.put, List.setIfInBounds_toArray, List.set_cons_zero, List.set_cons_succ])
        refine wpAnyH_take (i := 5) (v := ?_) rfl (by kernel_rfl) (by kernel_rfl) (by kernel_rfl) (fun _ _ _ h => h) (Or.inl ⟨by rfl, ?_⟩) HB4.out ?_
        rotate_left
        · (intro W hSW; go_simp; try (with_reducible rfl))
        (try simp only [Act.put, List.setIfInBounds_toArray])
        refine wpAnyH_done (by kernel_rfl) ?_ _
        clear hHeld hb3 hb4
        go_simp
        go_wp2_with (go_at_call 22; refine (HST.out _ HB4.out).mono ?_; rintro e w5 ⟨rfl, fv5, ev5, av5, he5, hb5⟩)

        go_roundw
        case rel => exact ⟨k + 1, m', fv5, ev5, av5, by have := HMM.out; omega, rfl, he5, (HBR.out.trans (HB4.out.mono HER.out.base)).trans hb5⟩
        case measure => simp [intOf]; have := HMM.out; omega
      · have HX : Hid (walkS P N S = walkS P k S) := by
          show _ = _
          by_cases hst : (walkS P k S).status = 0
          · have : m = 0 := by
              rcases Nat.eq_zero_or_pos m with h | h
              · exact h
              · exact absurd ⟨h, hst⟩ hrun
            rw [show N = k by omega]
          · exact walkS_ended P k N S (by omega) hst
        have HXB : Hid (Below w.heap.size w wr) := HB1.out.trans (HBR.out.mono HB1.out.size)
        have hsi2 : (Tryd.prog.info? 34).map (·.size) = some (stCells (walkS P k S) (.slice fa3 (walkS P k S).frames.length fc3) (.slice ea3 (walkS P k S).events.length ec3) (.slice aa3 (walkS P k S).answers.length ac3)).toArray.size := by rw [List.size_toArray]; exact hsi
        clear hen hbn OUT
        rcases Nat.eq_zero_or_pos m with h0 | h0
        · subst h0
          clear hrun
          go_wp2_with (first
            | (refine wpList_load_mid rfl _ _ rfl G 0 rfl (stCells (walkS P k S) (.slice fa3 (walkS P k S).frames.length fc3) (.slice ea3 (walkS P k S).events.length ec3) (.slice aa3 (walkS P k S).answers.length ac3)) _ ORG Tryd.underlying34 rfl hsi ?_)
            | (refine wpList_store_row rfl _ _ _ rfl _ _ rfl rfl _ _ h6r hsi2 hold hone ?_))
          try simp only [Exit.inBlock, Exit.then]
          exact bodyPost_ret (results_row_tmp rfl _ _ (w.heap.size + 1 + 1) 34 _ (0, 0) _ rfl (setRow_heap _ _ _ _ _ _ h6r) Tryd.underlying34 rfl hsi2) rfl ⟨_, rfl, by rw [HX.out]; exact StAt.mono HOUT.out HB1.out.size, below_setRow HXB.out (by omega) _⟩
        · have hst : ¬ (walkS P k S).status = 0 := fun h => hrun ⟨h0, h⟩
          have hmI : (0 : Int) < (m : Int) := by omega
          clear hrun
          go_wp2_with (first
            | (refine wpList_load_mid rfl _ _ rfl G 0 rfl (stCells (walkS P k S) (.slice fa3 (walkS P k S).frames.length fc3) (.slice ea3 (walkS P k S).events.length ec3) (.slice aa3 (walkS P k S).answers.length ac3)) _ ORG Tryd.underlying34 rfl hsi ?_)
            | (refine wpList_store_row rfl _ _ _ rfl _ _ rfl rfl _ _ h6r hsi2 hold hone ?_))
          try simp only [Exit.inBlock, Exit.then]
          exact bodyPost_ret (results_row_tmp rfl _ _ (w.heap.size + 1 + 1) 34 _ (0, 0) _ rfl (setRow_heap _ _ _ _ _ _ h6r) Tryd.underlying34 rfl hsi2) rfl ⟨_, rfl, by rw [HX.out]; exact StAt.mono HOUT.out HB1.out.size, below_setRow HXB.out (by omega) _⟩
  · go_simp
    refine hK.out _ _ (((Below.refl _ _).alloc (Nat.le_refl _) _).drew) (fun hHeld2 => ?_)
    clear hK K
    (try simp only [Act.put, List.setIfInBounds_toArray, List.set_cons_zero, List.set_cons_succ])
    refine wpAnyH_ready (rs := [1]) (by kernel_rfl) (by simp) ?_
    refine AllReadyH.cons rfl (fun K hK => ?_) AllReadyH.nil
    go_simp
    go_at_call 19
    refine (HOWN.out _ hHeld2).mono ?_
    rintro e w2 ⟨v2, fv2, ev2, av2, rfl, ho2, hb2⟩
    obtain rfl := ho2.val
    obtain ⟨fa2, fc2, rfl⟩ := own_shape ho2.frames
    obtain ⟨ea2, ec2, rfl⟩ := own_shape ho2.events
    obtain ⟨aa2, ac2, rfl⟩ := own_shape ho2.answers
    have HB2 : Hid (Below w1.heap.size w1 w2) := hHeld2.trans (hb2.mono (by simp))
    have hg2 : w2.heap[w1.heap.size]? = some (.cells zeroEngCells 73 (0, 0)) := (hb2.block _ (by simp)).trans (heap_alloc_last w1 _)
    dsimp only
    refine hK.out _ _ HB2.out (fun _ => ?_)
    clear hK K
    (try simp only [Act.put, List.setIfInBounds_toArray, List.set_cons_zero, List.set_cons_succ])
    refine wpAnyH_take (i := 3) (v := .agg (engCells S (.slice fa2 S.frames.length fc2) (.slice ea2 S.events.length ec2) (.slice aa2 S.answers.length ac2) (.slice ao n0 cap0)).toArray) rfl (by kernel_rfl) (by kernel_rfl) (by kernel_rfl) (fun _ _ _ h => h) (yieldsIf_build (by rfl) _ _ rfl _ (by simpa [Act.eval] using built_eng S (.slice fa2 S.frames.length fc2) (.slice ea2 S.events.length ec2) (.slice aa2 S.answers.length ac2) (.slice ao n0 cap0) HM.out)) HB2.out ?_
    (try simp only [Act.put, List.setIfInBounds_toArray])
    simp only [List.getElem_toArray, List.getElem_cons_succ, List.getElem_cons_zero, List.set_cons_zero, List.set_cons_succ]
    (try simp only [Act.put, List.setIfInBounds_toArray, List.set_cons_zero, List.set_cons_succ])
    refine wpAnyH_done (by kernel_rfl) ?_ _
    refine Or.inl ?_
    refine wp_store_row 73 _ _ rfl w1.heap.size (engCells S (.slice fa2 S.frames.length fc2) (.slice ea2 S.events.length ec2) (.slice aa2 S.answers.length ac2) (.slice ao n0 cap0)).toArray rfl rfl 73 zeroEngCells hg2 (by rw [List.size_toArray, engCells_length _ _ _ _ HM.out]; exact infoEng) ((show zeroEngCells.size = 23 from rfl).trans (by rw [List.size_toArray, engCells_length _ _ _ _ HM.out])) (engCells_one _ _ _ _ _ rfl rfl rfl rfl) ?_
    have HBN : Hid (Below w1.heap.size w1 (World.setRow w2 w1.heap.size (engCells S (.slice fa2 S.frames.length fc2) (.slice ea2 S.events.length ec2) (.slice aa2 S.answers.length ac2) (.slice ao n0 cap0)).toArray)) := below_setRow HB2.out (Nat.le_refl _) _
    have HEN : Hid (EngAt (World.setRow w2 w1.heap.size (engCells S (.slice fa2 S.frames.length fc2) (.slice ea2 S.events.length ec2) (.slice aa2 S.answers.length ac2) (.slice ao n0 cap0)).toArray) w1.heap.size w1.heap.size P (.slice ao n0 cap0) S (.slice fa2 S.frames.length fc2) (.slice ea2 S.events.length ec2) (.slice aa2 S.answers.length ac2)) := eng_new ho2 (by simp) (Nat.le_refl _) hg2 (fun W hW => HPV.out W (HBN.out.trans hW))
    generalize World.setRow w2 w1.heap.size (engCells S (.slice fa2 S.frames.length fc2) (.slice ea2 S.events.length ec2) (.slice aa2 S.answers.length ac2) (.slice ao n0 cap0)).toArray = WW at HBN HEN ⊢
    obtain ⟨G, hG⟩ : ∃ G : Nat, G = w1.heap.size := ⟨_, rfl⟩
    have HEM : Hid (EngAt WW w1.heap.size G P (.slice ao n0 cap0) S (.slice fa2 S.frames.length fc2) (.slice ea2 S.events.length ec2) (.slice aa2 S.answers.length ac2)) := by rw [hG]; exact HEN
    rw [← hG]
    clear HEN
    clear hG ho2 hb2 hHeld
    (try simp only [Act.put])
    go_wp2_with fail
    go_loopw [2] (fun n wr => ∃ (k m : Nat) (fv ev av : Value), k + m = N ∧ n = .int .i64 (m : Int) ∧ EngAt wr w1.heap.size G P (.slice ao n0 cap0) (walkS P k S) fv ev av ∧ Below w1.heap.size w1 wr) (fun n _ => (intOf n).toNat)
    case atStart => exact ⟨0, N, _, _, _, by omega, rfl, HEM.out, HBN.out⟩
    case round =>
      obtain ⟨k, m, fv3, ev3, av3, hkm, rfl, hen, hbn⟩ := hrel
      obtain ⟨q0, -⟩ := hen.own
      obtain ⟨fa3, fc3, rfl⟩ := own_shape hen.frames
      obtain ⟨ea3, ec3, rfl⟩ := own_shape hen.events
      obtain ⟨aa3, ac3, rfl⟩ := hen.answers.shape
      have HER : Hid (EngAt wr w1.heap.size G P (.slice ao n0 cap0) (walkS P k S) (.slice fa3 (walkS P k S).frames.length fc3) (.slice ea3 (walkS P k S).events.length ec3) (.slice aa3 (walkS P k S).answers.length ac3)) := hen
      have HBR : Hid (Below w1.heap.size w1 wr) := hbn
      have k0r : wr.cell? ⟨w.heap.size, 0, none⟩ = some (.slice ao n0 cap0) := keeps_below hbn _ _ k0
      have h6r : wr.heap[w.heap.size + 1 + 1]? = some (.cells zeroStCells 34 (0, 0)) := (hbn.block _ (by have := HZ1.out; omega)).trans h6
      obtain ⟨OUT, ORG⟩ := eng_out hen (show w.heap.size + 1 + 1 < w1.heap.size by have := HZ1.out; omega)
      have HOUT : Hid _ := OUT
      have hsi : (Tryd.prog.info? 34).map (·.size) = some (stCells (walkS P k S) (.slice fa3 (walkS P k S).frames.length fc3) (.slice ea3 (walkS P k S).events.length ec3) (.slice aa3 (walkS P k S).answers.length ac3)).length := by rw [stCells_length _ _ _ _ hen.mem]; exact infoSt
      have hold : zeroStCells.size = (stCells (walkS P k S) (.slice fa3 (walkS P k S).frames.length fc3) (.slice ea3 (walkS P k S).events.length ec3) (.slice aa3 (walkS P k S).answers.length ac3)).toArray.size := (show zeroStCells.size = 22 from rfl).trans (by rw [List.size_toArray, stCells_length _ _ _ _ hen.mem])
      have hone := stCells_one (walkS P k S) (.slice fa3 (walkS P k S).frames.length fc3) (.slice ea3 (walkS P k S).events.length ec3) (.slice aa3 (walkS P k S).answers.length ac3) rfl rfl rfl
      by_cases hrun : 0 < m ∧ (walkS P k S).status = 0
      · obtain ⟨hm0, hst⟩ := hrun
        obtain ⟨gm, gf⟩ := hg k (Or.inr (by omega))
        have hfr : (walkS P k S).frames ≠ [] := by
          intro e
          have := ((mayB_iff _).1 gm).2.2.2.2.2.2.1.2 (by rw [e]; rfl)
          omega
        obtain ⟨fs, f, hSf⟩ : ∃ fs f, (walkS P k S).frames = fs ++ [f] := ⟨_, _, (List.dropLast_concat_getLast hfr).symm⟩
        have hpf : placeB P f = true := gf.place f (by rw [hSf]; simp)
        have hf12 : f.regs.length = 12 := hen.wf f (by rw [hSf]; simp)
        obtain ⟨fb, cap3, hfa⟩ := hen.fshape hfr
        obtain ⟨rfl, rfl⟩ : fa3 = some ⟨fb, 0, none⟩ ∧ fc3 = cap3 := by simpa using hfa
        have HST : Hid (∀ W, Below wr.heap.size wr W → Calls Tryd.prog 22 #[.pointer (some ⟨G, 0, none⟩)] W (EngPost w1.heap.size G P (.slice ao n0 cap0) (walkS P (k + 1) S) W)) := fun W hb => by
          rw [walkS_succ P k S hst]
          exact step_any w1.heap.size G P (.slice ao n0 cap0) (walkS P k S) _ _ _ W (HER.out.below hb) (right_code hR) gf gm hst (by have := walkS_events_len P k S; omega)
        have HLA : Hid (∀ W, Below wr.heap.size wr W → Calls Tryd.prog 21 #[.pointer (some ⟨G, 0, none⟩)] W fun e w' => e = .returned (.pointer (some ⟨fb, fs.length * 14, none⟩)) ∧ Below W.heap.size W w') := fun W hb => last_eng (HER.out.below hb) hSf
        have HPL : Hid (∀ W, Below wr.heap.size wr W → Calls Tryd.prog 20 #[.agg #[.slice ao n0 cap0], .agg (frCells f).toArray] W fun e w' => e = .returned (.bool true) ∧ Below W.heap.size W w') := fun W hb => by
          have := hasPlace_any P (.slice ao n0 cap0) f W (HPV.out W (HBR.out.trans (hb.mono HER.out.base))) hf12
          rw [hpf] at this; exact this
        have HRF : Hid (∀ W, Below wr.heap.size wr W → W.rangeAt fb (fs.length * 14) (frCells f)) := fun W hb => eng_last (HER.out.below hb) hSf
        have hfl : (Tryd.prog.info? 45).map (·.size) = some (frCells f).length := by rw [frCells_length f hf12]; exact infoFr
        rw [hst] at q0
        obtain ⟨m', rfl⟩ : ∃ m' : Nat, m = m' + 1 := ⟨m - 1, by omega⟩
        have hmI : (0 : Int) < ((m' + 1 : Nat) : Int) := by omega
        have hw1 : IntKind.i64.wrap (((m' + 1 : Nat) : Int) - 1) = (m' : Int) := by rw [show ((m' + 1 : Nat) : Int) - 1 = m' by omega]; exact wrap_fits _ (by omega) (by omega)
        generalize hmm : m' + 1 = mm at hmI hw1 ⊢
        have HMM : Hid (m' + 1 = mm) := hmm
        clear hmm hen hbn OUT ORG hsi hold hone gm gf hfr hSf hfa hst hpf h6r hm0
        go_upto_region 9 with fail
        refine wp_region_held_drew (S := fun W => Below wr.heap.size wr W) (by kernel_rfl) ((Below.refl _ _).drew) (fun hHeld => ?_)
        show wpAnyH _ _ _ _ _ 6 _ _ _
        refine wpAnyH_take (i := 0) (v := ?_) rfl (by kernel_rfl) (by kernel_rfl) (by kernel_rfl) (fun _ _ _ h => h) (Or.inl ⟨by rfl, ?_⟩) (by assumption) ?_
        rotate_left
        · (intro W hSW; have zz := keeps_below hSW _ _ k0r; go_simp; try (with_reducible rfl))
        (try simp only [Act.put, List.setIfInBounds_toArray])
        refine wpAnyH_ready (rs := [1]) (by kernel_rfl) (by simp) ?_
        refine AllReadyH.cons rfl (fun K hK => ?_) AllReadyH.nil
        go_simp
        go_at_call 21
        refine (HLA.out _ hHeld).mono ?_
        rintro e w3 ⟨rfl, hb3⟩
        have HB3 : Hid (Below wr.heap.size wr w3) := hHeld.trans (hb3.mono (Nat.le_refl _))
        dsimp only
        refine hK.out _ _ HB3.out (fun _ => ?_)
        clear hK K
        (try simp only [Act.put, List.setIfInBounds_toArray, List.set_cons_zero, List.set_cons_succ])
        refine wpAnyH_take (i := 2) (v := ?_) rfl (by kernel_rfl) (by kernel_rfl) (by kernel_rfl) (fun _ _ _ h => h) (Or.inl ⟨by rfl, ?_⟩) HB3.out ?_
        rotate_left
        · (intro W hSW; go_simp; try (with_reducible rfl))
        (try simp only [Act.put, List.setIfInBounds_toArray])
        refine wpAnyH_take (i := 3) (v := .agg (frCells f).toArray) rfl (by kernel_rfl) (by kernel_rfl) (by kernel_rfl) (fun _ _ _ h => h) (yieldsIf_load_mid (by rfl) 45 (.tmp 36) rfl fb (fs.length * 14) rfl (frCells f) _ HRF.out Tryd.underlying45 rfl hfl) HB3.out ?_
        (try simp only [Act.put])
        refine wpAnyH_ready (rs := [4]) (by kernel_rfl) (by simp) ?_
        refine AllReadyH.cons rfl (fun K hK => ?_) AllReadyH.nil
        go_simp
        go_at_call 20
        refine (HPL.out _ HB3.out).mono ?_
        rintro e w4 ⟨rfl, hb4⟩
        have HB4 : Hid (Below wr.heap.size wr w4) := HB3.out.trans (hb4.mono HB3.out.size)
        dsimp only
        refine hK.out _ _ HB4.out (fun _ => ?_)
        clear hK K
        (try simp only [Act.put, List.setIfInBounds_toArray, List.set_cons_zero, List.set_cons_succ])
        refine wpAnyH_take (i := 5) (v := ?_) rfl (by kernel_rfl) (by kernel_rfl) (by kernel_rfl) (fun _ _ _ h => h) (Or.inl ⟨by rfl, ?_⟩) HB4.out ?_
        rotate_left
        · (intro W hSW; go_simp; try (with_reducible rfl))
        (try simp only [Act.put, List.setIfInBounds_toArray])
        refine wpAnyH_done (by kernel_rfl) ?_ _
        clear hHeld hb3 hb4
        go_simp
        go_wp2_with (go_at_call 22; refine (HST.out _ HB4.out).mono ?_; rintro e w5 ⟨rfl, fv5, ev5, av5, he5, hb5⟩)

        go_roundw
        case rel => exact ⟨k + 1, m', fv5, ev5, av5, by have := HMM.out; omega, rfl, he5, (HBR.out.trans (HB4.out.mono HER.out.base)).trans hb5⟩
        case measure => simp [intOf]; have := HMM.out; omega
      · have HX : Hid (walkS P N S = walkS P k S) := by
          show _ = _
          by_cases hst : (walkS P k S).status = 0
          · have : m = 0 := by
              rcases Nat.eq_zero_or_pos m with h | h
              · exact h
              · exact absurd ⟨h, hst⟩ hrun
            rw [show N = k by omega]
          · exact walkS_ended P k N S (by omega) hst
        have HXB : Hid (Below w.heap.size w wr) := HB1.out.trans (HBR.out.mono HB1.out.size)
        have hsi2 : (Tryd.prog.info? 34).map (·.size) = some (stCells (walkS P k S) (.slice fa3 (walkS P k S).frames.length fc3) (.slice ea3 (walkS P k S).events.length ec3) (.slice aa3 (walkS P k S).answers.length ac3)).toArray.size := by rw [List.size_toArray]; exact hsi
        clear hen hbn OUT
        rcases Nat.eq_zero_or_pos m with h0 | h0
        · subst h0
          clear hrun
          go_wp2_with (first
            | (refine wpList_load_mid rfl _ _ rfl G 0 rfl (stCells (walkS P k S) (.slice fa3 (walkS P k S).frames.length fc3) (.slice ea3 (walkS P k S).events.length ec3) (.slice aa3 (walkS P k S).answers.length ac3)) _ ORG Tryd.underlying34 rfl hsi ?_)
            | (refine wpList_store_row rfl _ _ _ rfl _ _ rfl rfl _ _ h6r hsi2 hold hone ?_))
          try simp only [Exit.inBlock, Exit.then]
          exact bodyPost_ret (results_row_tmp rfl _ _ (w.heap.size + 1 + 1) 34 _ (0, 0) _ rfl (setRow_heap _ _ _ _ _ _ h6r) Tryd.underlying34 rfl hsi2) rfl ⟨_, rfl, by rw [HX.out]; exact StAt.mono HOUT.out HB1.out.size, below_setRow HXB.out (by omega) _⟩
        · have hst : ¬ (walkS P k S).status = 0 := fun h => hrun ⟨h0, h⟩
          have hmI : (0 : Int) < (m : Int) := by omega
          clear hrun
          go_wp2_with (first
            | (refine wpList_load_mid rfl _ _ rfl G 0 rfl (stCells (walkS P k S) (.slice fa3 (walkS P k S).frames.length fc3) (.slice ea3 (walkS P k S).events.length ec3) (.slice aa3 (walkS P k S).answers.length ac3)) _ ORG Tryd.underlying34 rfl hsi ?_)
            | (refine wpList_store_row rfl _ _ _ rfl _ _ rfl rfl _ _ h6r hsi2 hold hone ?_))
          try simp only [Exit.inBlock, Exit.then]
          exact bodyPost_ret (results_row_tmp rfl _ _ (w.heap.size + 1 + 1) 34 _ (0, 0) _ rfl (setRow_heap _ _ _ _ _ _ h6r) Tryd.underlying34 rfl hsi2) rfl ⟨_, rfl, by rw [HX.out]; exact StAt.mono HOUT.out HB1.out.size, below_setRow HXB.out (by omega) _⟩
end Go.Proofs.YtgdmdlkhnokieaaDoor

/- Contracts of step.Next and step.Run, at runs. -/
namespace Go.Proofs.YtgdmdlkhnokieaaDoor
open Go Go.RowKit

end Go.Proofs.YtgdmdlkhnokieaaDoor

/- Contract of step.Walk once more: its answer owns its frames and events. -/
namespace Go.Proofs.YtgdmdlkhnokieaaDoor
open Go Go.RowKit

/-- A state whose frames and events are owned, its answers lying apart of them. -/
def StO (w : World) (base : Nat) (v : Value) (s : St) : Prop := ∃ fv ev av, v = .agg (stCells s fv ev av).toArray ∧ s.mem.length = 16 ∧ FrsWf s.frames ∧ w.ownsRow base 45 14 fv s.frames.length (framesCells s.frames) ∧ w.ownsRow base 3 1 ev s.events.length (i64s s.events) ∧ IntsVal w av s.answers ∧ LowV base av ∧ ∀ a n cp, av = .slice (some a) n cp → 0 < n → some a.block ≠ fv.ownBlock
theorem StO.at {w : World} {base : Nat} {v : Value} {s : St} (h : StO w base v s) : StAt w base v s := by
  obtain ⟨fv, ev, av, rfl, hm, hw, h1, h2, h3, h4, -⟩ := h
  exact ⟨fv, ev, av, rfl, hm, frames_of_own hw h1, ints_of_own h2, h3, low_own h1 (Nat.le_refl _), low_own h2 (Nat.le_refl _), h4⟩
theorem StO.mono {w : World} {base base' : Nat} {v : Value} {s : St} (h : StO w base v s) (hb : base' ≤ base) : StO w base' v s := by
  obtain ⟨fv, ev, av, rfl, hm, hw, h1, h2, h3, h4, h5⟩ := h
  exact ⟨fv, ev, av, rfl, hm, hw, own_base h1 hb, own_base h2 hb, h3, fun a n cp e hn => Nat.le_trans hb (h4 a n cp e hn), h5⟩
theorem own_setRow {w : World} {base t size n r : Nat} {v : Value} {xs : List Value} (h : w.ownsRow base t size v n xs) (hr : r < base) (cs : Array Value) : (w.setRow r cs).ownsRow base t size v n xs := by
  refine ⟨h.1, ?_⟩
  rcases h.2 with h2 | ⟨g', cap, cur, hv, hb, hh, r'⟩
  · exact Or.inl h2
  · exact Or.inr ⟨g', cap, cur, hv, hb, (setRow_other w r cs g' (by omega)).trans hh, r'⟩
theorem eng_outO {w : World} {base g r : Nat} {P : List Fn} {pv fv ev av : Value} {S : St} (h : EngAt w base g P pv S fv ev av) (hr : r < base) :
    StO (w.setRow r (stCells S fv ev av).toArray) base (.agg (stCells S fv ev av).toArray) S ∧ w.rangeAt g 0 (stCells S fv ev av) := by
  obtain ⟨h1, h2⟩ := eng_out h hr
  obtain ⟨fv', ev', av', e, -, -, -, ha, -, -, hl⟩ := h1
  have e2 := Value.agg.inj e
  have e3 : av = av' := by
    have a1 := (stCells_get S fv ev av h.mem).2.2
    rw [e2, (stCells_get S fv' ev' av' h.mem).2.2] at a1
    exact (Option.some.inj a1).symm
  subst e3
  exact ⟨⟨fv, ev, av, rfl, h.mem, h.wf, own_setRow h.frames hr _, own_setRow h.events hr _, ha, hl, fun a n cp e hn => (h.apart a n cp e hn).2.2⟩, h2⟩

set_option maxRecDepth 100000 in
set_option maxHeartbeats 8000000 in
theorem walk_own (P : List Fn) (v sv : Value) (S : St) (N : Nat) (w : World) (ht : TabOk w) (hc : CallOk w) (hR : ProofAns P 0) (hv : ProgVal w v P) (hs : StVal w sv S) (hg : Stays P N S) (hN : N ≤ 100000) (he : (S.events.length + N) * 8 + 8 ≤ 140737488355328) :
    Calls Tryd.prog 8 #[.agg #[v], sv, .int .i64 N] w fun e w' => ∃ v', e = .returned (.tuple #[v', .int .i64 0]) ∧ StO w' w.heap.size v' (walkS P N S) ∧ Below w.heap.size w w' := by
  have hbx : ∀ o o' o'', Below w.heap.size w (((w.alloc o).alloc o').alloc o'') := fun o o' o'' => (((Below.refl _ _).alloc (Nat.le_refl _) _).alloc (by simp) _).alloc (by simp; omega) _
  have hC : Hid (∀ o o' o'', Calls Tryd.prog 18 #[.agg #[v], sv] (((w.alloc o).alloc o').alloc o'') fun e w' => e = .returned (.int .i64 0) ∧ Below (((w.alloc o).alloc o').alloc o'').heap.size (((w.alloc o).alloc o').alloc o'') w') := fun o o' o'' => by
    refine (stepCheck_any P v sv S _ (ht.below (hbx o o' o'')) (hc.below (hbx o o' o'')) (hv.keeps (keeps_below (hbx o o' o''))) (hs.keeps (keeps_below (hbx o o' o'')))).mono ?_
    rintro e w' ⟨E, hE, rfl, hb⟩
    obtain rfl := proofAns_unique hE hR
    obtain ⟨g1, g2⟩ := hg 0 (Or.inl rfl)
    have e0 : checkE 0 P S = 0 := by
      unfold checkE
      rw [if_neg (by simp), if_pos]
      have g3 : framesB P S.frames = true := (framesB_iff _ _).2 g2
      have g1 : mayB S = true := g1
      rw [g1, g3]; rfl
    rw [e0]
    exact ⟨rfl, hb⟩
  have HV : Hid (ProgVal w v P) := hv
  have HSV : Hid (StVal w sv S) := hs
  obtain ⟨ao, n0, cap0, rfl⟩ := hv.shape
  obtain ⟨fv, ev, av, rfl, hm, hf, he', ha⟩ := hs
  obtain ⟨cs, hcs⟩ : ∃ cs, cs = (stCells S fv ev av).toArray := ⟨_, rfl⟩
  have hsz : (Tryd.prog.info? 34).map (·.size) = some cs.size := by rw [hcs, List.size_toArray, stCells_length _ _ _ _ hm]; exact infoSt
  rw [← hcs] at hC HSV ⊢
  clear hf he' ha ht hc hv hcs
  have hNI : ¬ (N : Int) < 0 := by omega
  go_enter Tryd.func8, Tryd.ntmps8
  go_upto_region 6 with (first
    | (refine wpList_load_row rfl _ _ rfl _ rfl _ _ _ _ (heap_alloc_old _ _ (by simp) |>.trans (heap_alloc2_new _ _ _)) Tryd.underlying34 rfl hsz ?_)
    | (go_at_call 18; refine (hC.out _ _ _).mono ?_; rintro e w1 ⟨rfl, hb1⟩))
  have k0 : w1.cell? ⟨w.heap.size, 0, none⟩ = some (.slice ao n0 cap0) := by
    refine keeps_below hb1 _ _ ?_
    rw [cell_of_row _ _ _ _ _ _ ((heap_alloc_old _ _ (by simp; omega)).trans (heap_alloc2_old _ _ _))]; rfl
  have h9 : w1.heap[w.heap.size + 1]? = some (.cells cs 34 (0, 0)) := (hb1.block _ (by simp)).trans ((heap_alloc_old _ _ (by simp)).trans (heap_alloc2_new _ _ _))
  have h6 : w1.heap[w.heap.size + 1 + 1]? = some (.cells zeroStCells 34 (0, 0)) := (hb1.block _ (by simp)).trans (heap_alloc3_new _ _ _ _)
  have HB1 : Hid (Below w.heap.size w w1) := (hbx _ _ _).trans (hb1.mono (by simp; omega))
  have HZ1 : Hid (w.heap.size + 3 ≤ w1.heap.size) := by have := hb1.size; simp at this; show _ ≤ _; omega
  have HOWN : Hid (∀ W, Below w1.heap.size w1 W → Calls Tryd.prog 19 #[.agg cs] W fun e w' => ∃ v' fv ev av, e = .returned v' ∧ OwnState w' W.heap.size v' S fv ev av ∧ Below W.heap.size W w') := fun W hb =>
    own_any S _ W (HSV.out.keeps (keeps_below (HB1.out.trans (hb.mono HB1.out.size)))) (by have := (mayB_iff _).1 (hg 0 (Or.inl rfl)).1; have : S.frames.length ≤ 8 := this.2.2.2.2.1; omega) (by omega) (by have := (mayB_iff _).1 (hg 0 (Or.inl rfl)).1; have : S.answers.length ≤ 100 := this.2.2.2.2.2.1; omega)
  have HPV : Hid (∀ W, Below w1.heap.size w1 W → ProgVal W (.slice ao n0 cap0) P) := fun W hb => HV.out.keeps (keeps_below (HB1.out.trans (hb.mono HB1.out.size)))
  have HM : Hid (S.mem.length = 16) := hm
  refine wp_region_last (S := fun W => Below w1.heap.size w1 W) _ 5 (by kernel_rfl) (by kernel_rfl) rfl ((Below.refl _ _).drew) (fun hHeld => ?_)
  simp only [List.pop_toArray, List.dropLast]
  refine wpAnyH_take (i := 0) (v := .agg cs.toList.toArray) rfl (by kernel_rfl) (by kernel_rfl) (by kernel_rfl) (fun _ _ _ h => h) (yieldsIf_load_mid (by rfl) 34 (.tmp 4) rfl (w.heap.size + 1) 0 rfl cs.toList _ (fun W hSW j u hu => by
      rw [cell_of_row _ _ _ _ _ _ ((hSW.block _ (by have := HZ1.out; omega)).trans h9)]; simpa using hu) Tryd.underlying34 rfl (by simpa using hsz)) (by assumption) ?_
  (try simp only [Act.put, Array.toArray_toList, List.setIfInBounds_toArray])
  refine wpAnyH_take (i := 2) (v := ?_) rfl (by kernel_rfl) (by kernel_rfl) (by kernel_rfl) (fun _ _ _ h => h) (Or.inl ⟨by rfl, ?_⟩) (by assumption) ?_
  rotate_left
  · (intro W hSW; have zz := keeps_below hSW _ _ k0; go_simp; try (with_reducible rfl))
  (try simp only [Act.put])
  refine wpAnyH_ready (rs := [1, 4]) (by kernel_rfl) (by simp) ?_
  refine AllReadyH.cons rfl (fun K hK => ?_) (AllReadyH.cons rfl (fun K hK => ?_) AllReadyH.nil)
  · go_simp
    go_at_call 19
    refine (HOWN.out _ hHeld).mono ?_
    rintro e w2 ⟨v2, fv2, ev2, av2, rfl, ho2, hb2⟩
    obtain rfl := ho2.val
    obtain ⟨fa2, fc2, rfl⟩ := own_shape ho2.frames
    obtain ⟨ea2, ec2, rfl⟩ := own_shape ho2.events
    obtain ⟨aa2, ac2, rfl⟩ := own_shape ho2.answers
    have HB2 : Hid (Below w1.heap.size w1 w2) := hHeld.trans (hb2.mono (Nat.le_refl _))
    dsimp only
    refine hK.out _ _ HB2.out (fun _ => ?_)
    clear hK K
    (try simp only [Act.put, List.setIfInBounds_toArray, List.set_cons_zero, List.set_cons_succ])
    refine wpAnyH_take (i := 3) (v := .agg (engCells S (.slice fa2 S.frames.length fc2) (.slice ea2 S.events.length ec2) (.slice aa2 S.answers.length ac2) (.slice ao n0 cap0)).toArray) rfl (by kernel_rfl) (by kernel_rfl) (by kernel_rfl) (fun _ _ _ h => h) (yieldsIf_build (by rfl) _ _ rfl _ (by simpa [Act.eval] using built_eng S (.slice fa2 S.frames.length fc2) (.slice ea2 S.events.length ec2) (.slice aa2 S.answers.length ac2) (.slice ao n0 cap0) HM.out)) HB2.out ?_
    (try simp only [Act.put, List.setIfInBounds_toArray])
    refine wpAnyH_ready (rs := [4]) (by kernel_rfl) (by simp) ?_
    refine AllReadyH.cons rfl (fun K hK => ?_) AllReadyH.nil
    go_simp
    refine hK.out _ _ (HB2.out.alloc HB2.out.size _) (fun _ => ?_)
    clear hK K
    (try simp only [Act.put, List.setIfInBounds_toArray, List.set_cons_zero, List.set_cons_succ])
    refine wpAnyH_done (by kernel_rfl) ?_ _
    refine Or.inl ?_
    refine wp_store_row 73 _ _ rfl w2.heap.size (engCells S (.slice fa2 S.frames.length fc2) (.slice ea2 S.events.length ec2) (.slice aa2 S.answers.length ac2) (.slice ao n0 cap0)).toArray rfl rfl 73 zeroEngCells (heap_alloc_last w2 _) (by rw [List.size_toArray, engCells_length _ _ _ _ HM.out]; exact infoEng) ((show zeroEngCells.size = 23 from rfl).trans (by rw [List.size_toArray, engCells_length _ _ _ _ HM.out])) (engCells_one _ _ _ _ _ rfl rfl rfl rfl) ?_
    have HBN : Hid (Below w1.heap.size w1 (World.setRow (w2.alloc (.cells #[.int .i64 0, .int .i64 0, .slice none 0 0, .int .i64 0, .int .i64 0, .int .i64 0, .int .i64 0, .int .i64 0, .int .i64 0, .int .i64 0, .int .i64 0, .int .i64 0, .int .i64 0, .int .i64 0, .int .i64 0, .int .i64 0, .int .i64 0, .int .i64 0, .int .i64 0, .int .i64 0, .slice none 0 0, .slice none 0 0, .slice none 0 0] 73)) w2.heap.size (engCells S (.slice fa2 S.frames.length fc2) (.slice ea2 S.events.length ec2) (.slice aa2 S.answers.length ac2) (.slice ao n0 cap0)).toArray)) := below_setRow (HB2.out.alloc HB2.out.size _) HB2.out.size _
    have HEN : Hid (EngAt (World.setRow (w2.alloc (.cells #[.int .i64 0, .int .i64 0, .slice none 0 0, .int .i64 0, .int .i64 0, .int .i64 0, .int .i64 0, .int .i64 0, .int .i64 0, .int .i64 0, .int .i64 0, .int .i64 0, .int .i64 0, .int .i64 0, .int .i64 0, .int .i64 0, .int .i64 0, .int .i64 0, .int .i64 0, .int .i64 0, .slice none 0 0, .slice none 0 0, .slice none 0 0] 73)) w2.heap.size (engCells S (.slice fa2 S.frames.length fc2) (.slice ea2 S.events.length ec2) (.slice aa2 S.answers.length ac2) (.slice ao n0 cap0)).toArray) w1.heap.size w2.heap.size P (.slice ao n0 cap0) S (.slice fa2 S.frames.length fc2) (.slice ea2 S.events.length ec2) (.slice aa2 S.answers.length ac2)) := eng_new (ho2.below ((Below.refl _ _).alloc (Nat.le_refl _) _)) (Nat.le_refl _) HB2.out.size (heap_alloc_last w2 _) (fun W hW => HPV.out W (HBN.out.trans hW))
    generalize World.setRow (w2.alloc (.cells #[.int .i64 0, .int .i64 0, .slice none 0 0, .int .i64 0, .int .i64 0, .int .i64 0, .int .i64 0, .int .i64 0, .int .i64 0, .int .i64 0, .int .i64 0, .int .i64 0, .int .i64 0, .int .i64 0, .int .i64 0, .int .i64 0, .int .i64 0, .int .i64 0, .int .i64 0, .int .i64 0, .slice none 0 0, .slice none 0 0, .slice none 0 0] 73)) w2.heap.size (engCells S (.slice fa2 S.frames.length fc2) (.slice ea2 S.events.length ec2) (.slice aa2 S.answers.length ac2) (.slice ao n0 cap0)).toArray = WW at HBN HEN ⊢
    obtain ⟨G, hG⟩ : ∃ G : Nat, G = w2.heap.size := ⟨_, rfl⟩
    have HEM : Hid (EngAt WW w1.heap.size G P (.slice ao n0 cap0) S (.slice fa2 S.frames.length fc2) (.slice ea2 S.events.length ec2) (.slice aa2 S.answers.length ac2)) := by rw [hG]; exact HEN
    rw [← hG]
    clear HEN
    clear hG ho2 hb2 hHeld
    (try simp only [Act.put, List.setIfInBounds_toArray])
    go_wp2_with fail
    go_loopw [2] (fun n wr => ∃ (k m : Nat) (fv ev av : Value), k + m = N ∧ n = .int .i64 (m : Int) ∧ EngAt wr w1.heap.size G P (.slice ao n0 cap0) (walkS P k S) fv ev av ∧ Below w1.heap.size w1 wr) (fun n _ => (intOf n).toNat)
    case atStart => exact ⟨0, N, _, _, _, by omega, rfl, HEM.out, HBN.out⟩
    case round =>
      obtain ⟨k, m, fv3, ev3, av3, hkm, rfl, hen, hbn⟩ := hrel
      obtain ⟨q0, -⟩ := hen.own
      obtain ⟨fa3, fc3, rfl⟩ := own_shape hen.frames
      obtain ⟨ea3, ec3, rfl⟩ := own_shape hen.events
      obtain ⟨aa3, ac3, rfl⟩ := hen.answers.shape
      have HER : Hid (EngAt wr w1.heap.size G P (.slice ao n0 cap0) (walkS P k S) (.slice fa3 (walkS P k S).frames.length fc3) (.slice ea3 (walkS P k S).events.length ec3) (.slice aa3 (walkS P k S).answers.length ac3)) := hen
      have HBR : Hid (Below w1.heap.size w1 wr) := hbn
      have k0r : wr.cell? ⟨w.heap.size, 0, none⟩ = some (.slice ao n0 cap0) := keeps_below hbn _ _ k0
      have h6r : wr.heap[w.heap.size + 1 + 1]? = some (.cells zeroStCells 34 (0, 0)) := (hbn.block _ (by have := HZ1.out; omega)).trans h6
      obtain ⟨OUT, ORG⟩ := eng_outO hen (show w.heap.size + 1 + 1 < w1.heap.size by have := HZ1.out; omega)
      have HOUT : Hid _ := OUT
      have hsi : (Tryd.prog.info? 34).map (·.size) = some (stCells (walkS P k S) (.slice fa3 (walkS P k S).frames.length fc3) (.slice ea3 (walkS P k S).events.length ec3) (.slice aa3 (walkS P k S).answers.length ac3)).length := by rw [stCells_length _ _ _ _ hen.mem]; exact infoSt
      have hold : zeroStCells.size = (stCells (walkS P k S) (.slice fa3 (walkS P k S).frames.length fc3) (.slice ea3 (walkS P k S).events.length ec3) (.slice aa3 (walkS P k S).answers.length ac3)).toArray.size := (show zeroStCells.size = 22 from rfl).trans (by rw [List.size_toArray, stCells_length _ _ _ _ hen.mem])
      have hone := stCells_one (walkS P k S) (.slice fa3 (walkS P k S).frames.length fc3) (.slice ea3 (walkS P k S).events.length ec3) (.slice aa3 (walkS P k S).answers.length ac3) rfl rfl rfl
      by_cases hrun : 0 < m ∧ (walkS P k S).status = 0
      · obtain ⟨hm0, hst⟩ := hrun
        obtain ⟨gm, gf⟩ := hg k (Or.inr (by omega))
        have hfr : (walkS P k S).frames ≠ [] := by
          intro e
          have := ((mayB_iff _).1 gm).2.2.2.2.2.2.1.2 (by rw [e]; rfl)
          omega
        obtain ⟨fs, f, hSf⟩ : ∃ fs f, (walkS P k S).frames = fs ++ [f] := ⟨_, _, (List.dropLast_concat_getLast hfr).symm⟩
        have hpf : placeB P f = true := gf.place f (by rw [hSf]; simp)
        have hf12 : f.regs.length = 12 := hen.wf f (by rw [hSf]; simp)
        obtain ⟨fb, cap3, hfa⟩ := hen.fshape hfr
        obtain ⟨rfl, rfl⟩ : fa3 = some ⟨fb, 0, none⟩ ∧ fc3 = cap3 := by simpa using hfa
        have HST : Hid (∀ W, Below wr.heap.size wr W → Calls Tryd.prog 22 #[.pointer (some ⟨G, 0, none⟩)] W (EngPost w1.heap.size G P (.slice ao n0 cap0) (walkS P (k + 1) S) W)) := fun W hb => by
          rw [walkS_succ P k S hst]
          exact step_any w1.heap.size G P (.slice ao n0 cap0) (walkS P k S) _ _ _ W (HER.out.below hb) (right_code hR) gf gm hst (by have := walkS_events_len P k S; omega)
        have HLA : Hid (∀ W, Below wr.heap.size wr W → Calls Tryd.prog 21 #[.pointer (some ⟨G, 0, none⟩)] W fun e w' => e = .returned (.pointer (some ⟨fb, fs.length * 14, none⟩)) ∧ Below W.heap.size W w') := fun W hb => last_eng (HER.out.below hb) hSf
        have HPL : Hid (∀ W, Below wr.heap.size wr W → Calls Tryd.prog 20 #[.agg #[.slice ao n0 cap0], .agg (frCells f).toArray] W fun e w' => e = .returned (.bool true) ∧ Below W.heap.size W w') := fun W hb => by
          have := hasPlace_any P (.slice ao n0 cap0) f W (HPV.out W (HBR.out.trans (hb.mono HER.out.base))) hf12
          rw [hpf] at this; exact this
        have HRF : Hid (∀ W, Below wr.heap.size wr W → W.rangeAt fb (fs.length * 14) (frCells f)) := fun W hb => eng_last (HER.out.below hb) hSf
        have hfl : (Tryd.prog.info? 45).map (·.size) = some (frCells f).length := by rw [frCells_length f hf12]; exact infoFr
        rw [hst] at q0
        obtain ⟨m', rfl⟩ : ∃ m' : Nat, m = m' + 1 := ⟨m - 1, by omega⟩
        have hmI : (0 : Int) < ((m' + 1 : Nat) : Int) := by omega
        have hw1 : IntKind.i64.wrap (((m' + 1 : Nat) : Int) - 1) = (m' : Int) := by rw [show ((m' + 1 : Nat) : Int) - 1 = m' by omega]; exact wrap_fits _ (by omega) (by omega)
        generalize hmm : m' + 1 = mm at hmI hw1 ⊢
        have HMM : Hid (m' + 1 = mm) := hmm
        clear hmm hen hbn OUT ORG hsi hold hone gm gf hfr hSf hfa hst hpf h6r hm0
        go_upto_region 9 with fail
        refine wp_region_held_drew (S := fun W => Below wr.heap.size wr W) (by kernel_rfl) ((Below.refl _ _).drew) (fun hHeld => ?_)
        show wpAnyH _ _ _ _ _ 6 _ _ _
        refine wpAnyH_take (i := 0) (v := ?_) rfl (by kernel_rfl) (by kernel_rfl) (by kernel_rfl) (fun _ _ _ h => h) (Or.inl ⟨by rfl, ?_⟩) (by assumption) ?_
        rotate_left
        · (intro W hSW; have zz := keeps_below hSW _ _ k0r; go_simp; try (with_reducible rfl))
        (try simp only [Act.put, List.setIfInBounds_toArray])
        refine wpAnyH_ready (rs := [1]) (by kernel_rfl) (by simp) ?_
        refine AllReadyH.cons rfl (fun K hK => ?_) AllReadyH.nil
        go_simp
        go_at_call 21
        refine (HLA.out _ hHeld).mono ?_
        rintro e w3 ⟨rfl, hb3⟩
        have HB3 : Hid (Below wr.heap.size wr w3) := hHeld.trans (hb3.mono (Nat.le_refl _))
        dsimp only
        refine hK.out _ _ HB3.out (fun _ => ?_)
        clear hK K
        (try simp only [Act.put, List.setIfInBounds_toArray, List.set_cons_zero, List.set_cons_succ])
        refine wpAnyH_take (i := 2) (v := ?_) rfl (by kernel_rfl) (by kernel_rfl) (by kernel_rfl) (fun _ _ _ h => h) (Or.inl ⟨by rfl, ?_⟩) HB3.out ?_
        rotate_left
        · (intro W hSW; go_simp; try (with_reducible rfl))
        (try simp only [Act.put, List.setIfInBounds_toArray])
        refine wpAnyH_take (i := 3) (v := .agg (frCells f).toArray) rfl (by kernel_rfl) (by kernel_rfl) (by kernel_rfl) (fun _ _ _ h => h) (yieldsIf_load_mid (by rfl) 45 (.tmp 36) rfl fb (fs.length * 14) rfl (frCells f) _ HRF.out Tryd.underlying45 rfl hfl) HB3.out ?_
        (try simp only [Act.put])
        refine wpAnyH_ready (rs := [4]) (by kernel_rfl) (by simp) ?_
        refine AllReadyH.cons rfl (fun K hK => ?_) AllReadyH.nil
        go_simp
        go_at_call 20
        refine (HPL.out _ HB3.out).mono ?_
        rintro e w4 ⟨rfl, hb4⟩
        have HB4 : Hid (Below wr.heap.size wr w4) := HB3.out.trans (hb4.mono HB3.out.size)
        dsimp only
        refine hK.out _ _ HB4.out (fun _ => ?_)
        clear hK K
        (try simp only [Act.put, List.setIfInBounds_toArray, List.set_cons_zero, List.set_cons_succ])
        refine wpAnyH_take (i := 5) (v := ?_) rfl (by kernel_rfl) (by kernel_rfl) (by kernel_rfl) (fun _ _ _ h => h) (Or.inl ⟨by rfl, ?_⟩) HB4.out ?_
        rotate_left
        · (intro W hSW; go_simp; try (with_reducible rfl))
        (try simp only [Act.put, List.setIfInBounds_toArray])
        refine wpAnyH_done (by kernel_rfl) ?_ _
        clear hHeld hb3 hb4
        go_simp
        go_wp2_with (go_at_call 22; refine (HST.out _ HB4.out).mono ?_; rintro e w5 ⟨rfl, fv5, ev5, av5, he5, hb5⟩)

        go_roundw
        case rel => exact ⟨k + 1, m', fv5, ev5, av5, by have := HMM.out; omega, rfl, he5, (HBR.out.trans (HB4.out.mono HER.out.base)).trans hb5⟩
        case measure => simp [intOf]; have := HMM.out; omega
      · have HX : Hid (walkS P N S = walkS P k S) := by
          show _ = _
          by_cases hst : (walkS P k S).status = 0
          · have : m = 0 := by
              rcases Nat.eq_zero_or_pos m with h | h
              · exact h
              · exact absurd ⟨h, hst⟩ hrun
            rw [show N = k by omega]
          · exact walkS_ended P k N S (by omega) hst
        have HXB : Hid (Below w.heap.size w wr) := HB1.out.trans (HBR.out.mono HB1.out.size)
        have hsi2 : (Tryd.prog.info? 34).map (·.size) = some (stCells (walkS P k S) (.slice fa3 (walkS P k S).frames.length fc3) (.slice ea3 (walkS P k S).events.length ec3) (.slice aa3 (walkS P k S).answers.length ac3)).toArray.size := by rw [List.size_toArray]; exact hsi
        clear hen hbn OUT
        rcases Nat.eq_zero_or_pos m with h0 | h0
        · subst h0
          clear hrun
          go_wp2_with (first
            | (refine wpList_load_mid rfl _ _ rfl G 0 rfl (stCells (walkS P k S) (.slice fa3 (walkS P k S).frames.length fc3) (.slice ea3 (walkS P k S).events.length ec3) (.slice aa3 (walkS P k S).answers.length ac3)) _ ORG Tryd.underlying34 rfl hsi ?_)
            | (refine wpList_store_row rfl _ _ _ rfl _ _ rfl rfl _ _ h6r hsi2 hold hone ?_))
          try simp only [Exit.inBlock, Exit.then]
          exact bodyPost_ret (results_row_tmp rfl _ _ (w.heap.size + 1 + 1) 34 _ (0, 0) _ rfl (setRow_heap _ _ _ _ _ _ h6r) Tryd.underlying34 rfl hsi2) rfl ⟨_, rfl, by rw [HX.out]; exact StO.mono HOUT.out HB1.out.size, below_setRow HXB.out (by omega) _⟩
        · have hst : ¬ (walkS P k S).status = 0 := fun h => hrun ⟨h0, h⟩
          have hmI : (0 : Int) < (m : Int) := by omega
          clear hrun
          go_wp2_with (first
            | (refine wpList_load_mid rfl _ _ rfl G 0 rfl (stCells (walkS P k S) (.slice fa3 (walkS P k S).frames.length fc3) (.slice ea3 (walkS P k S).events.length ec3) (.slice aa3 (walkS P k S).answers.length ac3)) _ ORG Tryd.underlying34 rfl hsi ?_)
            | (refine wpList_store_row rfl _ _ _ rfl _ _ rfl rfl _ _ h6r hsi2 hold hone ?_))
          try simp only [Exit.inBlock, Exit.then]
          exact bodyPost_ret (results_row_tmp rfl _ _ (w.heap.size + 1 + 1) 34 _ (0, 0) _ rfl (setRow_heap _ _ _ _ _ _ h6r) Tryd.underlying34 rfl hsi2) rfl ⟨_, rfl, by rw [HX.out]; exact StO.mono HOUT.out HB1.out.size, below_setRow HXB.out (by omega) _⟩
  · go_simp
    refine hK.out _ _ (((Below.refl _ _).alloc (Nat.le_refl _) _).drew) (fun hHeld2 => ?_)
    clear hK K
    (try simp only [Act.put, List.setIfInBounds_toArray, List.set_cons_zero, List.set_cons_succ])
    refine wpAnyH_ready (rs := [1]) (by kernel_rfl) (by simp) ?_
    refine AllReadyH.cons rfl (fun K hK => ?_) AllReadyH.nil
    go_simp
    go_at_call 19
    refine (HOWN.out _ hHeld2).mono ?_
    rintro e w2 ⟨v2, fv2, ev2, av2, rfl, ho2, hb2⟩
    obtain rfl := ho2.val
    obtain ⟨fa2, fc2, rfl⟩ := own_shape ho2.frames
    obtain ⟨ea2, ec2, rfl⟩ := own_shape ho2.events
    obtain ⟨aa2, ac2, rfl⟩ := own_shape ho2.answers
    have HB2 : Hid (Below w1.heap.size w1 w2) := hHeld2.trans (hb2.mono (by simp))
    have hg2 : w2.heap[w1.heap.size]? = some (.cells zeroEngCells 73 (0, 0)) := (hb2.block _ (by simp)).trans (heap_alloc_last w1 _)
    dsimp only
    refine hK.out _ _ HB2.out (fun _ => ?_)
    clear hK K
    (try simp only [Act.put, List.setIfInBounds_toArray, List.set_cons_zero, List.set_cons_succ])
    refine wpAnyH_take (i := 3) (v := .agg (engCells S (.slice fa2 S.frames.length fc2) (.slice ea2 S.events.length ec2) (.slice aa2 S.answers.length ac2) (.slice ao n0 cap0)).toArray) rfl (by kernel_rfl) (by kernel_rfl) (by kernel_rfl) (fun _ _ _ h => h) (yieldsIf_build (by rfl) _ _ rfl _ (by simpa [Act.eval] using built_eng S (.slice fa2 S.frames.length fc2) (.slice ea2 S.events.length ec2) (.slice aa2 S.answers.length ac2) (.slice ao n0 cap0) HM.out)) HB2.out ?_
    (try simp only [Act.put, List.setIfInBounds_toArray])
    simp only [List.getElem_toArray, List.getElem_cons_succ, List.getElem_cons_zero, List.set_cons_zero, List.set_cons_succ]
    (try simp only [Act.put, List.setIfInBounds_toArray, List.set_cons_zero, List.set_cons_succ])
    refine wpAnyH_done (by kernel_rfl) ?_ _
    refine Or.inl ?_
    refine wp_store_row 73 _ _ rfl w1.heap.size (engCells S (.slice fa2 S.frames.length fc2) (.slice ea2 S.events.length ec2) (.slice aa2 S.answers.length ac2) (.slice ao n0 cap0)).toArray rfl rfl 73 zeroEngCells hg2 (by rw [List.size_toArray, engCells_length _ _ _ _ HM.out]; exact infoEng) ((show zeroEngCells.size = 23 from rfl).trans (by rw [List.size_toArray, engCells_length _ _ _ _ HM.out])) (engCells_one _ _ _ _ _ rfl rfl rfl rfl) ?_
    have HBN : Hid (Below w1.heap.size w1 (World.setRow w2 w1.heap.size (engCells S (.slice fa2 S.frames.length fc2) (.slice ea2 S.events.length ec2) (.slice aa2 S.answers.length ac2) (.slice ao n0 cap0)).toArray)) := below_setRow HB2.out (Nat.le_refl _) _
    have HEN : Hid (EngAt (World.setRow w2 w1.heap.size (engCells S (.slice fa2 S.frames.length fc2) (.slice ea2 S.events.length ec2) (.slice aa2 S.answers.length ac2) (.slice ao n0 cap0)).toArray) w1.heap.size w1.heap.size P (.slice ao n0 cap0) S (.slice fa2 S.frames.length fc2) (.slice ea2 S.events.length ec2) (.slice aa2 S.answers.length ac2)) := eng_new ho2 (by simp) (Nat.le_refl _) hg2 (fun W hW => HPV.out W (HBN.out.trans hW))
    generalize World.setRow w2 w1.heap.size (engCells S (.slice fa2 S.frames.length fc2) (.slice ea2 S.events.length ec2) (.slice aa2 S.answers.length ac2) (.slice ao n0 cap0)).toArray = WW at HBN HEN ⊢
    obtain ⟨G, hG⟩ : ∃ G : Nat, G = w1.heap.size := ⟨_, rfl⟩
    have HEM : Hid (EngAt WW w1.heap.size G P (.slice ao n0 cap0) S (.slice fa2 S.frames.length fc2) (.slice ea2 S.events.length ec2) (.slice aa2 S.answers.length ac2)) := by rw [hG]; exact HEN
    rw [← hG]
    clear HEN
    clear hG ho2 hb2 hHeld
    (try simp only [Act.put])
    go_wp2_with fail
    go_loopw [2] (fun n wr => ∃ (k m : Nat) (fv ev av : Value), k + m = N ∧ n = .int .i64 (m : Int) ∧ EngAt wr w1.heap.size G P (.slice ao n0 cap0) (walkS P k S) fv ev av ∧ Below w1.heap.size w1 wr) (fun n _ => (intOf n).toNat)
    case atStart => exact ⟨0, N, _, _, _, by omega, rfl, HEM.out, HBN.out⟩
    case round =>
      obtain ⟨k, m, fv3, ev3, av3, hkm, rfl, hen, hbn⟩ := hrel
      obtain ⟨q0, -⟩ := hen.own
      obtain ⟨fa3, fc3, rfl⟩ := own_shape hen.frames
      obtain ⟨ea3, ec3, rfl⟩ := own_shape hen.events
      obtain ⟨aa3, ac3, rfl⟩ := hen.answers.shape
      have HER : Hid (EngAt wr w1.heap.size G P (.slice ao n0 cap0) (walkS P k S) (.slice fa3 (walkS P k S).frames.length fc3) (.slice ea3 (walkS P k S).events.length ec3) (.slice aa3 (walkS P k S).answers.length ac3)) := hen
      have HBR : Hid (Below w1.heap.size w1 wr) := hbn
      have k0r : wr.cell? ⟨w.heap.size, 0, none⟩ = some (.slice ao n0 cap0) := keeps_below hbn _ _ k0
      have h6r : wr.heap[w.heap.size + 1 + 1]? = some (.cells zeroStCells 34 (0, 0)) := (hbn.block _ (by have := HZ1.out; omega)).trans h6
      obtain ⟨OUT, ORG⟩ := eng_outO hen (show w.heap.size + 1 + 1 < w1.heap.size by have := HZ1.out; omega)
      have HOUT : Hid _ := OUT
      have hsi : (Tryd.prog.info? 34).map (·.size) = some (stCells (walkS P k S) (.slice fa3 (walkS P k S).frames.length fc3) (.slice ea3 (walkS P k S).events.length ec3) (.slice aa3 (walkS P k S).answers.length ac3)).length := by rw [stCells_length _ _ _ _ hen.mem]; exact infoSt
      have hold : zeroStCells.size = (stCells (walkS P k S) (.slice fa3 (walkS P k S).frames.length fc3) (.slice ea3 (walkS P k S).events.length ec3) (.slice aa3 (walkS P k S).answers.length ac3)).toArray.size := (show zeroStCells.size = 22 from rfl).trans (by rw [List.size_toArray, stCells_length _ _ _ _ hen.mem])
      have hone := stCells_one (walkS P k S) (.slice fa3 (walkS P k S).frames.length fc3) (.slice ea3 (walkS P k S).events.length ec3) (.slice aa3 (walkS P k S).answers.length ac3) rfl rfl rfl
      by_cases hrun : 0 < m ∧ (walkS P k S).status = 0
      · obtain ⟨hm0, hst⟩ := hrun
        obtain ⟨gm, gf⟩ := hg k (Or.inr (by omega))
        have hfr : (walkS P k S).frames ≠ [] := by
          intro e
          have := ((mayB_iff _).1 gm).2.2.2.2.2.2.1.2 (by rw [e]; rfl)
          omega
        obtain ⟨fs, f, hSf⟩ : ∃ fs f, (walkS P k S).frames = fs ++ [f] := ⟨_, _, (List.dropLast_concat_getLast hfr).symm⟩
        have hpf : placeB P f = true := gf.place f (by rw [hSf]; simp)
        have hf12 : f.regs.length = 12 := hen.wf f (by rw [hSf]; simp)
        obtain ⟨fb, cap3, hfa⟩ := hen.fshape hfr
        obtain ⟨rfl, rfl⟩ : fa3 = some ⟨fb, 0, none⟩ ∧ fc3 = cap3 := by simpa using hfa
        have HST : Hid (∀ W, Below wr.heap.size wr W → Calls Tryd.prog 22 #[.pointer (some ⟨G, 0, none⟩)] W (EngPost w1.heap.size G P (.slice ao n0 cap0) (walkS P (k + 1) S) W)) := fun W hb => by
          rw [walkS_succ P k S hst]
          exact step_any w1.heap.size G P (.slice ao n0 cap0) (walkS P k S) _ _ _ W (HER.out.below hb) (right_code hR) gf gm hst (by have := walkS_events_len P k S; omega)
        have HLA : Hid (∀ W, Below wr.heap.size wr W → Calls Tryd.prog 21 #[.pointer (some ⟨G, 0, none⟩)] W fun e w' => e = .returned (.pointer (some ⟨fb, fs.length * 14, none⟩)) ∧ Below W.heap.size W w') := fun W hb => last_eng (HER.out.below hb) hSf
        have HPL : Hid (∀ W, Below wr.heap.size wr W → Calls Tryd.prog 20 #[.agg #[.slice ao n0 cap0], .agg (frCells f).toArray] W fun e w' => e = .returned (.bool true) ∧ Below W.heap.size W w') := fun W hb => by
          have := hasPlace_any P (.slice ao n0 cap0) f W (HPV.out W (HBR.out.trans (hb.mono HER.out.base))) hf12
          rw [hpf] at this; exact this
        have HRF : Hid (∀ W, Below wr.heap.size wr W → W.rangeAt fb (fs.length * 14) (frCells f)) := fun W hb => eng_last (HER.out.below hb) hSf
        have hfl : (Tryd.prog.info? 45).map (·.size) = some (frCells f).length := by rw [frCells_length f hf12]; exact infoFr
        rw [hst] at q0
        obtain ⟨m', rfl⟩ : ∃ m' : Nat, m = m' + 1 := ⟨m - 1, by omega⟩
        have hmI : (0 : Int) < ((m' + 1 : Nat) : Int) := by omega
        have hw1 : IntKind.i64.wrap (((m' + 1 : Nat) : Int) - 1) = (m' : Int) := by rw [show ((m' + 1 : Nat) : Int) - 1 = m' by omega]; exact wrap_fits _ (by omega) (by omega)
        generalize hmm : m' + 1 = mm at hmI hw1 ⊢
        have HMM : Hid (m' + 1 = mm) := hmm
        clear hmm hen hbn OUT ORG hsi hold hone gm gf hfr hSf hfa hst hpf h6r hm0
        go_upto_region 9 with fail
        refine wp_region_held_drew (S := fun W => Below wr.heap.size wr W) (by kernel_rfl) ((Below.refl _ _).drew) (fun hHeld => ?_)
        show wpAnyH _ _ _ _ _ 6 _ _ _
        refine wpAnyH_take (i := 0) (v := ?_) rfl (by kernel_rfl) (by kernel_rfl) (by kernel_rfl) (fun _ _ _ h => h) (Or.inl ⟨by rfl, ?_⟩) (by assumption) ?_
        rotate_left
        · (intro W hSW; have zz := keeps_below hSW _ _ k0r; go_simp; try (with_reducible rfl))
        (try simp only [Act.put, List.setIfInBounds_toArray])
        refine wpAnyH_ready (rs := [1]) (by kernel_rfl) (by simp) ?_
        refine AllReadyH.cons rfl (fun K hK => ?_) AllReadyH.nil
        go_simp
        go_at_call 21
        refine (HLA.out _ hHeld).mono ?_
        rintro e w3 ⟨rfl, hb3⟩
        have HB3 : Hid (Below wr.heap.size wr w3) := hHeld.trans (hb3.mono (Nat.le_refl _))
        dsimp only
        refine hK.out _ _ HB3.out (fun _ => ?_)
        clear hK K
        (try simp only [Act.put, List.setIfInBounds_toArray, List.set_cons_zero, List.set_cons_succ])
        refine wpAnyH_take (i := 2) (v := ?_) rfl (by kernel_rfl) (by kernel_rfl) (by kernel_rfl) (fun _ _ _ h => h) (Or.inl ⟨by rfl, ?_⟩) HB3.out ?_
        rotate_left
        · (intro W hSW; go_simp; try (with_reducible rfl))
        (try simp only [Act.put, List.setIfInBounds_toArray])
        refine wpAnyH_take (i := 3) (v := .agg (frCells f).toArray) rfl (by kernel_rfl) (by kernel_rfl) (by kernel_rfl) (fun _ _ _ h => h) (yieldsIf_load_mid (by rfl) 45 (.tmp 36) rfl fb (fs.length * 14) rfl (frCells f) _ HRF.out Tryd.underlying45 rfl hfl) HB3.out ?_
        (try simp only [Act.put])
        refine wpAnyH_ready (rs := [4]) (by kernel_rfl) (by simp) ?_
        refine AllReadyH.cons rfl (fun K hK => ?_) AllReadyH.nil
        go_simp
        go_at_call 20
        refine (HPL.out _ HB3.out).mono ?_
        rintro e w4 ⟨rfl, hb4⟩
        have HB4 : Hid (Below wr.heap.size wr w4) := HB3.out.trans (hb4.mono HB3.out.size)
        dsimp only
        refine hK.out _ _ HB4.out (fun _ => ?_)
        clear hK K
        (try simp only [Act.put, List.setIfInBounds_toArray, List.set_cons_zero, List.set_cons_succ])
        refine wpAnyH_take (i := 5) (v := ?_) rfl (by kernel_rfl) (by kernel_rfl) (by kernel_rfl) (fun _ _ _ h => h) (Or.inl ⟨by rfl, ?_⟩) HB4.out ?_
        rotate_left
        · (intro W hSW; go_simp; try (with_reducible rfl))
        (try simp only [Act.put, List.setIfInBounds_toArray])
        refine wpAnyH_done (by kernel_rfl) ?_ _
        clear hHeld hb3 hb4
        go_simp
        go_wp2_with (go_at_call 22; refine (HST.out _ HB4.out).mono ?_; rintro e w5 ⟨rfl, fv5, ev5, av5, he5, hb5⟩)

        go_roundw
        case rel => exact ⟨k + 1, m', fv5, ev5, av5, by have := HMM.out; omega, rfl, he5, (HBR.out.trans (HB4.out.mono HER.out.base)).trans hb5⟩
        case measure => simp [intOf]; have := HMM.out; omega
      · have HX : Hid (walkS P N S = walkS P k S) := by
          show _ = _
          by_cases hst : (walkS P k S).status = 0
          · have : m = 0 := by
              rcases Nat.eq_zero_or_pos m with h | h
              · exact h
              · exact absurd ⟨h, hst⟩ hrun
            rw [show N = k by omega]
          · exact walkS_ended P k N S (by omega) hst
        have HXB : Hid (Below w.heap.size w wr) := HB1.out.trans (HBR.out.mono HB1.out.size)
        have hsi2 : (Tryd.prog.info? 34).map (·.size) = some (stCells (walkS P k S) (.slice fa3 (walkS P k S).frames.length fc3) (.slice ea3 (walkS P k S).events.length ec3) (.slice aa3 (walkS P k S).answers.length ac3)).toArray.size := by rw [List.size_toArray]; exact hsi
        clear hen hbn OUT
        rcases Nat.eq_zero_or_pos m with h0 | h0
        · subst h0
          clear hrun
          go_wp2_with (first
            | (refine wpList_load_mid rfl _ _ rfl G 0 rfl (stCells (walkS P k S) (.slice fa3 (walkS P k S).frames.length fc3) (.slice ea3 (walkS P k S).events.length ec3) (.slice aa3 (walkS P k S).answers.length ac3)) _ ORG Tryd.underlying34 rfl hsi ?_)
            | (refine wpList_store_row rfl _ _ _ rfl _ _ rfl rfl _ _ h6r hsi2 hold hone ?_))
          try simp only [Exit.inBlock, Exit.then]
          exact bodyPost_ret (results_row_tmp rfl _ _ (w.heap.size + 1 + 1) 34 _ (0, 0) _ rfl (setRow_heap _ _ _ _ _ _ h6r) Tryd.underlying34 rfl hsi2) rfl ⟨_, rfl, by rw [HX.out]; exact StO.mono HOUT.out HB1.out.size, below_setRow HXB.out (by omega) _⟩
        · have hst : ¬ (walkS P k S).status = 0 := fun h => hrun ⟨h0, h⟩
          have hmI : (0 : Int) < (m : Int) := by omega
          clear hrun
          go_wp2_with (first
            | (refine wpList_load_mid rfl _ _ rfl G 0 rfl (stCells (walkS P k S) (.slice fa3 (walkS P k S).frames.length fc3) (.slice ea3 (walkS P k S).events.length ec3) (.slice aa3 (walkS P k S).answers.length ac3)) _ ORG Tryd.underlying34 rfl hsi ?_)
            | (refine wpList_store_row rfl _ _ _ rfl _ _ rfl rfl _ _ h6r hsi2 hold hone ?_))
          try simp only [Exit.inBlock, Exit.then]
          exact bodyPost_ret (results_row_tmp rfl _ _ (w.heap.size + 1 + 1) 34 _ (0, 0) _ rfl (setRow_heap _ _ _ _ _ _ h6r) Tryd.underlying34 rfl hsi2) rfl ⟨_, rfl, by rw [HX.out]; exact StO.mono HOUT.out HB1.out.size, below_setRow HXB.out (by omega) _⟩
end Go.Proofs.YtgdmdlkhnokieaaDoor
