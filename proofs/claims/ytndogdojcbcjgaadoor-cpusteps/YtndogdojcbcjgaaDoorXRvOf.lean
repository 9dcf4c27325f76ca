/- Contract of the document's RvOf (package tierlineref; written by gen/mkrvof.py): P11.3, op by op, its fields bit by bit. -/
import Derived.Test.YtndogdojcbcjgaaDoorXRvAcc
import Derived.Test.YtndogdojcbcjgaaDoorXRvOneBit
import Derived.Test.YtndogdojcbcjgaaDoorXRvWordOf
import Derived.Test.YtndogdojcbcjgaaDoorGroupB
import Derived.Deep.DeepCutAuto
namespace Go.Proofs.YtndogdojcbcjgaaDoor
open Go Go.RowKit

theorem wrapI (n : Int) (h0 : 0 ≤ n) (h1 : n < 4611686018427387904) : IntKind.i64.wrap n = n ∧ wrap64 n = n := by
  refine ⟨?_, wrap64_small n (by omega) (by omega)⟩
  rw [IntKind.wrap_i64]
  omega
theorem wrapJ (n : Int) (h0 : -4611686018427387904 ≤ n) (h1 : n < 4611686018427387904) : IntKind.i64.wrap n = n ∧ wrap64 n = n := by
  refine ⟨?_, wrap64_small n (by omega) (by omega)⟩
  rw [IntKind.wrap_i64]
  omega
theorem built_op (k : Nat) : Tryd.prog.built 151 [(0, .int .i64 (k : Int))] = some (miC ⟨k, 0, 0, 0, 0⟩).toArray := by kernel_rfl
theorem setCell_row {w : World} {g j : Nat} {u : Value} {cs cs' : Array Value} {t : TypeId} (h : w.heap[g]? = some (.cells cs t (0, 0))) (he : cs.setIfInBounds j u = cs') : (w.setCell ⟨g, j, none⟩ u).heap[g]? = some (.cells cs' t (0, 0)) := by
  rw [heap_setCell_same _ _ _ _ _ _ h, he]
theorem refX_eq (s k : Nat) (w : Int) (X : Mi) (h : (s = 7 ∧ X = ⟨k, 0, 0, 0, 0⟩) ∨ (s ≠ 7 ∧ X = ⟨k, (acc s w 32).rd, (acc s w 32).rs1, (acc s w 32).rs2, if s ≠ 2 ∧ 0 ≤ (acc s w 32).top ∧ 2 ^ (acc s w 32).top.toNat ≤ (acc s w 32).imm then (acc s w 32).imm - 2 * 2 ^ (acc s w 32).top.toNat else (acc s w 32).imm⟩)) : refX s k w = X := by
  unfold refX
  rcases h with ⟨h1, h2⟩ | ⟨h1, h2⟩
  · rw [if_pos h1, h2]
  · rw [if_neg h1, h2]
theorem top_neg (s : Nat) (hs : s < 8) (w : Int) (h : (acc s w 32).top < 0) : s = 0 ∨ s = 7 := by
  rcases eight s hs with rfl | rfl | rfl | rfl | rfl | rfl | rfl | rfl
  · exact Or.inl rfl
  · rw [acc1] at h; simp at h
  · rw [acc2] at h; simp at h
  · rw [acc3] at h; simp at h
  · rw [acc4] at h; simp at h
  · rw [acc5] at h; simp at h
  · rw [acc6] at h; simp at h
  · exact Or.inr rfl
theorem setRow_other2 (w : World) (g : Nat) (cs : Array Value) (k : Nat) (h : k ≠ g) : (w.setRow g cs).heap[k]? = w.heap[k]? := by
  simp only [World.setRow, Array.getElem?_modify]; rw [if_neg (fun e => h e.symm)]
theorem acc7_top (w : Int) : (acc 7 w 32).top = -1 := by kernel_rfl
theorem fitsM (z : Int) (h0 : -1152921504606846976 ≤ z) (h1 : z ≤ 1152921504606846976) : Fits z := by unfold Fits; omega

set_option maxRecDepth 100000 in
set_option maxHeartbeats 8000000 in
theorem rvOf_any (wd : Int) (hwd : Fits wd) (w : World) :
    Calls Tryd.prog 107 #[.int .i64 wd] w fun e w' => e = .returned (.tuple #[(decX wd).val, .int .i64 (decE wd)]) ∧ Below w.heap.size w w' := by
  have h60 : (w.alloc (.cells #[.int .i64 0, .int .i64 0, .int .i64 0, .int .i64 0, .int .i64 0] 151)).heap[w.heap.size]? = some (.cells #[.int .i64 0, .int .i64 0, .int .i64 0, .int .i64 0, .int .i64 0] 151 (0, 0)) := heap_alloc_last w _
  have HB0 : Hid (∀ o, Below w.heap.size w (w.alloc o)) := fun o => (Below.refl _ _).alloc (Nat.le_refl _) _
  by_cases h1 : 0 ≤ wd ∧ wd ≤ 4294967295
  case neg =>
    have gI := inR_f wd 0 4294967295 h1
    have e1 : decX wd = zeroMi := if_pos (by omega)
    have e2 : decE wd = 2 := if_pos (by omega)
    rw [e1, e2]
    clear e1 e2 h1
    go_enter Tryd.func107, Tryd.ntmps107
    go_wp2_with (first | (go_at_call 48; refine (gI _).mono ?_; rintro e w' ⟨rfl, rfl⟩))
    try simp only [Exit.inBlock, Exit.then]
    exact bodyPost_ret (results_row_tmpR rfl _ _ w.heap.size 151 _ (0, 0) _ rfl h60 Tryd.underlying151 rfl infoRv) rfl ⟨rfl, HB0.out _⟩
  have gI := inR_t wd 0 4294967295 h1
  have HGD : Hid (∀ k, Good wd k → decX wd = refX (shOf k) k wd ∧ decE wd = 0) := fun k h => good_dec wd k h
  have HNG : Hid ((∀ k, 1 ≤ k → k ≤ 29 → ¬ Good wd k) → decX wd = zeroMi ∧ decE wd = 3) := fun h => not_good wd (by omega) (by omega) h
  have HBO : Hid (∀ i : Nat, i < 64 → ∀ W, Calls Tryd.prog 141 #[.int .i64 wd, .int .i64 i] W fun e w' => e = .returned (.int .i64 (bitI wd i)) ∧ Below W.heap.size W w') := fun i hi W => bitOf_any wd hwd i hi W
  clear h1 hwd
  go_enter Tryd.func107, Tryd.ntmps107
  go_wp2_with (first | (go_at_call 48; refine (gI _).mono ?_; rintro e w' ⟨rfl, rfl⟩))
  go_loopw [4] (fun v wr => ∃ k : Nat, 1 ≤ k ∧ k ≤ 30 ∧ v = .int .i64 k ∧ (∀ j, 1 ≤ j → j < k → ¬ Good wd j) ∧ Below (w.heap.size + 1) (w.alloc (.cells #[.int .i64 0, .int .i64 0, .int .i64 0, .int .i64 0, .int .i64 0] 151)) wr) (fun v _ => 30 - (intOf v).toNat)
  case atStart => exact ⟨1, by omega, by omega, rfl, fun j a b => by omega, Below.refl _ _⟩
  case round =>
    obtain ⟨k, hk1, hk2, rfl, hall, hbr⟩ := hrel
    have h6r : wr.heap[w.heap.size]? = some (.cells #[.int .i64 0, .int .i64 0, .int .i64 0, .int .i64 0, .int .i64 0] 151 (0, 0)) := (hbr.block _ (by omega)).trans h60
    have HBR : Hid (Below (w.heap.size + 1) (w.alloc (.cells #[.int .i64 0, .int .i64 0, .int .i64 0, .int .i64 0, .int .i64 0] 151)) wr) := hbr
    have HBW : Hid (Below w.heap.size w wr) := (HB0.out _).trans (hbr.mono (by omega))
    have HZ : Hid (w.heap.size < wr.heap.size) := World.heap_lt h6r
    have HALL : Hid (∀ j, 1 ≤ j → j < k → ¬ Good wd j) := hall
    clear hall hbr gI h60
    by_cases hlt : k ≤ 29
    case neg =>
      obtain rfl : k = 30 := by omega
      obtain ⟨e1, e2⟩ := HNG.out (fun j a b => HALL.out j a (by omega))
      have HE1 : Hid (decX wd = zeroMi) := e1
      have HE2 : Hid (decE wd = 3) := e2
      clear e1 e2
      go_wp2_with (first | (refine wpList_build_storeR rfl _ _ rfl (miC zeroMi).toArray built_rv rfl _ _ rfl _ rfl rfl _ _ h6r infoRv rfl (miC_one _) ?_) | (refine wpList_store_row rfl _ _ _ rfl _ (miC zeroMi).toArray rfl rfl _ _ h6r infoRv rfl (miC_one _) ?_))
      try simp only [Exit.inBlock, Exit.then]
      exact bodyPost_ret (results_row_tmpR rfl _ _ w.heap.size 151 (miC zeroMi).toArray (0, 0) _ rfl (setRow_heap _ _ _ _ _ _ h6r) Tryd.underlying151 rfl infoRv) rfl ⟨by rw [HE1.out, HE2.out]; rfl, below_setRowR HBW.out (Nat.le_refl _) _⟩
    have hs := shOf_lt k hk1 hlt
    have hkI : (k : Int) ≤ 29 := by omega
    have gS := fun W => shapeOf_any k hk1 hlt W
    have HY : Hid (∀ W, Calls Tryd.prog 139 #[.int .i64 (shOf k : Int)] W (LayPost (shOf k) W)) := fun W => layOut_any _ hs W
    have HGK : Hid (Good wd k ↔ rvE (refX (shOf k) k wd) = 0 ∧ encI (refX (shOf k) k wd) = wd) := Iff.rfl
    have HGX : Hid (Good wd k → decX wd = refX (shOf k) k wd ∧ decE wd = 0) := HGD.out k
    have HAC : Hid (∀ m, m ≤ 32 → AccOk (acc (shOf k) wd m) m) := fun m hm => acc_ok _ hs wd m hm
    have HLC : Hid (∀ j, j < 32 → _) := fun j hj => lay_class (shOf k) j hs hj
    have HS : Hid (shOf k < 8) := hs
    generalize shOf k = s at *
    clear hs
    obtain ⟨wo, hwo⟩ : ∃ wo, wo = wr := ⟨_, rfl⟩
    subst hwo
    go_wp2_with (first
      | (go_at_call 140; refine (gS _).mono ?_; rintro e w' ⟨rfl, hw'⟩; replace hw' := hw'.symm; subst hw')
      | (go_at_call 139; refine (HY.out _).mono ?_; rintro e w2 hP2; obtain ⟨rfl, hg2, hb2⟩ := hP2; have HG2 : Hid _ := hg2; have H52 : Hid _ := (hb2.block wo.heap.size (by simp)).trans (heap_alloc_last wo _); have HB2 : Hid (Below wo.heap.size wo w2) := ((Below.refl _ _).alloc (Nat.le_refl _) _).trans (hb2.mono (by simp)); clear hb2 hg2))
    simp only [World.size_alloc] at HG2 ⊢
    go_loopw [7, 8] (fun t i wi => ∃ m : Nat, m ≤ 32 ∧ i = .int .i64 m ∧ t = .int .i64 (acc s wd m).top ∧ wi.heap[wo.heap.size]? = some (.cells (miC ⟨k, (acc s wd m).rd, (acc s wd m).rs1, (acc s wd m).rs2, (acc s wd m).imm⟩).toArray 151 (0, 0)) ∧ wi.heap[wo.heap.size + 1]? = some (.cells (layArr (layT s)) 3 (0, 0)) ∧ Below wo.heap.size wo wi) (fun _ i _ => 32 - (intOf i).toNat)
    case atStart => exact ⟨0, by omega, rfl, rfl, H52.out, HG2.out, HB2.out⟩
    case round =>
      obtain ⟨m, hm, rfl, rfl, h5, hg, hbi⟩ := hrel
      have H5 : Hid _ := h5
      have HG : Hid _ := hg
      have HBI : Hid (Below wo.heap.size wo wr) := hbi
      have hz5 : wo.heap.size + 1 < wr.heap.size := World.heap_lt hg
      obtain ⟨d0, d1, a0, a1, b0, b1, i0, i1, t0, t1⟩ := HAC.out m hm
      by_cases hml : m < 32
      case pos =>
        have hmI : (m : Int) < 32 := by omega
        have HST : Hid (acc s wd (m + 1) = accStep (layT s m) (bitI wd m) (acc s wd m)) := rfl
        have gB := fun W => HBO.out m (by omega) W
        have hbb := bitI_bounds wd m
        have hcl := HLC.out m hml
        have HLG : Hid ((layArr (layT s))[m]? = some (.int .i64 (layT s m))) := layArr_get _ _ hml
        clear h5 hg hbi
        generalize acc s wd m = AA at *
        generalize layT s m = C at *
        generalize bitI wd m = b at *
        obtain ⟨ard, ars1, ars2, aimm, atop⟩ := AA
        dsimp only at *
        rcases hcl with hcl | hcl | hcl | hcl | hcl | hcl | hcl | hcl | hcl
        · -- 0
          obtain ⟨n, h1, hCn, hn, t1c, t3, t2, hh, hh0, hh1⟩ := code_parts C 0 (by omega)
          replace t3 : C.tdiv 10 = 0 := t3
          obtain ⟨cn, rfl⟩ := Int.eq_ofNat_of_zero_le (show 0 ≤ C by omega)
          have hcn : cn ≤ 20 := by omega
          have HST2 : Hid (acc s wd (m + 1) = ⟨ard, ars1, ars2, aimm + b * 2 ^ cn, if atop < (cn : Int) then (cn : Int) else atop⟩) := by
            show _ = _
            rw [HST.out]
            unfold accStep
            rw [if_pos (by omega), Int.toNat_natCast]
          have hbm := bitmul b cn hbb.1 hbb.2 hcn
          have G1 : Hid (∀ W, Calls Tryd.prog 142 #[.int .i64 (cn : Int)] W fun e w' => e = .returned (.int .i64 (2 ^ cn)) ∧ w' = W) := fun W => oneBitR_any cn W hcn
          generalize (2 : Int) ^ cn = P2 at *
          obtain ⟨hw1, hw2⟩ := wrapI (b * P2) hbm.1 (by omega)
          obtain ⟨hw3, hw4⟩ := wrapI (aimm + b * P2) (by omega) (by omega)
          clear HST hh hh0 hh1 hCn hcl hm
          try clear hn
          go_wp2_with (go_at_call 141; refine (gB _).mono ?_; rintro e w3 ⟨rfl, hb3⟩; have H53 : Hid _ := (hb3.block wo.heap.size (by omega)).trans H5.out; have HG3 : Hid _ := (hb3.block (wo.heap.size + 1) hz5).trans HG.out; have HB3 : Hid (Below wo.heap.size wo w3) := HBI.out.trans (hb3.mono HBI.out.size); have ca : w3.cell? ⟨wo.heap.size + 1, m, none⟩ = some (.int .i64 (cn : Int)) := (by rw [cell_of_row _ _ _ _ _ _ HG3.out]; exact HLG.out); have hz3 : wo.heap.size + 1 < w3.heap.size := Nat.lt_of_lt_of_le hz5 hb3.size; clear hb3)
          have cv : w3.cell? ⟨wo.heap.size, 4, none⟩ = some (.int .i64 aimm) := by rw [cell_of_row _ _ _ _ _ _ H53.out]; rfl
          have fv : w3.frozen? ⟨wo.heap.size, 4, none⟩ = false := frozen_of_row _ _ _ _ _ H53.out
          refine wp_region_last (S := fun W => Below w3.heap.size w3 W) _ 11 (by kernel_rfl) (by kernel_rfl) rfl ((Below.refl _ _).drew) (fun hHeld => ?_)
          simp only [List.pop_toArray, List.dropLast]
          refine wpAnyH_take (i := 0) (v := ?_) rfl (by kernel_rfl) (by kernel_rfl) (by kernel_rfl) (fun _ _ _ h => h) (Or.inl ⟨by rfl, ?_⟩) (by assumption) ?_
          rotate_left
          · (intro W hSW; go_simp; try (with_reducible rfl))
          (try simp only [List.getElem_toArray, List.getElem_cons_succ, List.getElem_cons_zero])
          (try simp only [Act.put, List.setIfInBounds_toArray, List.set_cons_zero, List.set_cons_succ])
          refine wpAnyH_take (i := 1) (v := ?_) rfl (by kernel_rfl) (by kernel_rfl) (by kernel_rfl) (fun _ _ _ h => h) (Or.inl ⟨by rfl, ?_⟩) (by assumption) ?_
          rotate_left
          · (intro W hSW; have z0 := keeps_below hSW _ _ cv; go_simp; try (with_reducible rfl))
          (try simp only [List.getElem_toArray, List.getElem_cons_succ, List.getElem_cons_zero])
          (try simp only [Act.put, List.setIfInBounds_toArray, List.set_cons_zero, List.set_cons_succ])
          refine wpAnyH_take (i := 2) (v := ?_) rfl (by kernel_rfl) (by kernel_rfl) (by kernel_rfl) (fun _ _ _ h => h) (Or.inl ⟨by rfl, ?_⟩) (by assumption) ?_
          rotate_left
          · (intro W hSW; go_simp; try (with_reducible rfl))
          (try simp only [List.getElem_toArray, List.getElem_cons_succ, List.getElem_cons_zero])
          (try simp only [Act.put, List.setIfInBounds_toArray, List.set_cons_zero, List.set_cons_succ])
          refine wpAnyH_take (i := 3) (v := ?_) rfl (by kernel_rfl) (by kernel_rfl) (by kernel_rfl) (fun _ _ _ h => h) (Or.inl ⟨by rfl, ?_⟩) (by assumption) ?_
          rotate_left
          · (intro W hSW; go_simp; try (with_reducible rfl))
          (try simp only [List.getElem_toArray, List.getElem_cons_succ, List.getElem_cons_zero])
          (try simp only [Act.put, List.setIfInBounds_toArray, List.set_cons_zero, List.set_cons_succ])
          refine wpAnyH_take (i := 4) (v := ?_) rfl (by kernel_rfl) (by kernel_rfl) (by kernel_rfl) (fun _ _ _ h => h) (Or.inl ⟨by rfl, ?_⟩) (by assumption) ?_
          rotate_left
          · (intro W hSW; go_simp; try (with_reducible rfl))
          (try simp only [List.getElem_toArray, List.getElem_cons_succ, List.getElem_cons_zero])
          (try simp only [Act.put, List.setIfInBounds_toArray, List.set_cons_zero, List.set_cons_succ])
          refine wpAnyH_take (i := 5) (v := ?_) rfl (by kernel_rfl) (by kernel_rfl) (by kernel_rfl) (fun _ _ _ h => h) (Or.inl ⟨by rfl, ?_⟩) (by assumption) ?_
          rotate_left
          · (intro W hSW; go_simp; try (with_reducible rfl))
          (try simp only [List.getElem_toArray, List.getElem_cons_succ, List.getElem_cons_zero])
          (try simp only [Act.put, List.setIfInBounds_toArray, List.set_cons_zero, List.set_cons_succ])
          refine wpAnyH_take (i := 6) (v := ?_) rfl (by kernel_rfl) (by kernel_rfl) (by kernel_rfl) (fun _ _ _ h => h) (Or.inl ⟨by rfl, ?_⟩) (by assumption) ?_
          rotate_left
          · (intro W hSW; have z0 := keeps_below hSW _ _ ca; go_simp; try (with_reducible rfl))
          (try simp only [List.getElem_toArray, List.getElem_cons_succ, List.getElem_cons_zero])
          (try simp only [Act.put, List.setIfInBounds_toArray, List.set_cons_zero, List.set_cons_succ])
          refine wpAnyH_ready (rs := [7]) (by kernel_rfl) (by simp) ?_
          refine AllReadyH.cons rfl (fun K hK => ?_) AllReadyH.nil
          go_simp
          go_at_call 142
          refine (G1.out _).mono ?_
          rintro e w4 ⟨rfl, rfl⟩
          dsimp only
          refine hK.out _ _ (hHeld) (fun _ => ?_)
          clear hK K
          (try simp only [Act.put, List.setIfInBounds_toArray, List.set_cons_zero, List.set_cons_succ])
          refine wpAnyH_take (i := 8) (v := ?_) rfl (by kernel_rfl) (by kernel_rfl) (by kernel_rfl) (fun _ _ _ h => h) (Or.inl ⟨by rfl, ?_⟩) (by assumption) ?_
          rotate_left
          · (intro W hSW; go_simp; try (with_reducible rfl))
          (try simp only [List.getElem_toArray, List.getElem_cons_succ, List.getElem_cons_zero])
          (try simp only [Act.put, List.setIfInBounds_toArray, List.set_cons_zero, List.set_cons_succ])
          refine wpAnyH_take (i := 9) (v := ?_) rfl (by kernel_rfl) (by kernel_rfl) (by kernel_rfl) (fun _ _ _ h => h) (Or.inl ⟨by rfl, ?_⟩) (by assumption) ?_
          rotate_left
          · (intro W hSW; go_simp; try (with_reducible rfl))
          (try simp only [List.getElem_toArray, List.getElem_cons_succ, List.getElem_cons_zero])
          (try simp only [Act.put, List.setIfInBounds_toArray, List.set_cons_zero, List.set_cons_succ])
          refine wpAnyH_take (i := 10) (v := ?_) rfl (by kernel_rfl) (by kernel_rfl) (by kernel_rfl) (fun _ _ _ h => h) (Or.inl ⟨by rfl, ?_⟩) (by assumption) ?_
          rotate_left
          · (intro W hSW; go_simp; try (with_reducible rfl))
          (try simp only [List.getElem_toArray, List.getElem_cons_succ, List.getElem_cons_zero])
          (try simp only [Act.put, List.setIfInBounds_toArray, List.set_cons_zero, List.set_cons_succ])
          refine wpAnyH_done (by kernel_rfl) ?_ _
          refine Or.inl ?_
          have cv8 : w3.drew.cell? ⟨wo.heap.size, 4, none⟩ = some (.int .i64 aimm) := cv
          have fv8 : w3.drew.frozen? ⟨wo.heap.size, 4, none⟩ = false := fv
          have H58 : Hid ((w3.drew.setCell ⟨wo.heap.size, 4, none⟩ (.int .i64 (aimm + b * P2))).heap[wo.heap.size]? = some (.cells (miC ⟨(k : Int), ard, ars1, ars2, aimm + b * P2⟩).toArray 151 (0, 0))) := setCell_row H53.out rfl
          have HG8 : Hid ((w3.drew.setCell ⟨wo.heap.size, 4, none⟩ (.int .i64 (aimm + b * P2))).heap[wo.heap.size + 1]? = some (.cells (layArr (layT s)) 3 (0, 0))) := (Below.heap_setCell _ _ _ _ (by simp)).trans HG3.out
          have HB8 : Hid (Below wo.heap.size wo (w3.drew.setCell ⟨wo.heap.size, 4, none⟩ (.int .i64 (aimm + b * P2)))) := HB3.out.drew.setCell (Nat.le_refl _) _
          have hz8 : wo.heap.size + 1 < (w3.drew.setCell ⟨wo.heap.size, 4, none⟩ (.int .i64 (aimm + b * P2))).heap.size := World.heap_lt HG8.out
          clear hHeld cv fv
          go_simp
          go_upto_region 16 with fail
          rw [show (w3.setCell ⟨wo.heap.size, 4, none⟩ (.int .i64 (aimm + b * P2))).drew = (w3.drew.setCell ⟨wo.heap.size, 4, none⟩ (.int .i64 (aimm + b * P2))) from rfl]
          generalize (w3.drew.setCell ⟨wo.heap.size, 4, none⟩ (.int .i64 (aimm + b * P2))) = w8 at *
          clear cv8 fv8 ca
          have ca8 : w8.cell? ⟨wo.heap.size + 1, m, none⟩ = some (.int .i64 (cn : Int)) := by rw [cell_of_row _ _ _ _ _ _ HG8.out]; exact HLG.out
          by_cases hct : atop < (cn : Int)
          · rw [if_pos hct] at HST2
            go_wp2
            go_roundw
            case rel => exact ⟨m + 1, by omega, by go_num, by rw [HST2.out], by rw [HST2.out]; exact H58.out, HG8.out, HB8.out⟩
            case measure => simp [intOf]; omega
          · rw [if_neg hct] at HST2
            go_wp2
            go_roundw
            case rel => exact ⟨m + 1, by omega, by go_num, by rw [HST2.out], by rw [HST2.out]; exact H58.out, HG8.out, HB8.out⟩
            case measure => simp [intOf]; omega
        · -- 1
          obtain ⟨n, h1, hCn, hn, t1c, t3, t2, hh, hh0, hh1⟩ := code_parts C 1 (by omega)
          replace t3 : C.tdiv 10 = 1 := t3
          obtain ⟨cn, rfl⟩ := Int.eq_ofNat_of_zero_le (show 0 ≤ C by omega)
          have hcn : cn ≤ 20 := by omega
          have HST2 : Hid (acc s wd (m + 1) = ⟨ard, ars1, ars2, aimm + b * 2 ^ cn, if atop < (cn : Int) then (cn : Int) else atop⟩) := by
            show _ = _
            rw [HST.out]
            unfold accStep
            rw [if_pos (by omega), Int.toNat_natCast]
          have hbm := bitmul b cn hbb.1 hbb.2 hcn
          have G1 : Hid (∀ W, Calls Tryd.prog 142 #[.int .i64 (cn : Int)] W fun e w' => e = .returned (.int .i64 (2 ^ cn)) ∧ w' = W) := fun W => oneBitR_any cn W hcn
          generalize (2 : Int) ^ cn = P2 at *
          obtain ⟨hw1, hw2⟩ := wrapI (b * P2) hbm.1 (by omega)
          obtain ⟨hw3, hw4⟩ := wrapI (aimm + b * P2) (by omega) (by omega)
          clear HST hh hh0 hh1 hCn hcl hm
          try clear hn
          go_wp2_with (go_at_call 141; refine (gB _).mono ?_; rintro e w3 ⟨rfl, hb3⟩; have H53 : Hid _ := (hb3.block wo.heap.size (by omega)).trans H5.out; have HG3 : Hid _ := (hb3.block (wo.heap.size + 1) hz5).trans HG.out; have HB3 : Hid (Below wo.heap.size wo w3) := HBI.out.trans (hb3.mono HBI.out.size); have ca : w3.cell? ⟨wo.heap.size + 1, m, none⟩ = some (.int .i64 (cn : Int)) := (by rw [cell_of_row _ _ _ _ _ _ HG3.out]; exact HLG.out); have hz3 : wo.heap.size + 1 < w3.heap.size := Nat.lt_of_lt_of_le hz5 hb3.size; clear hb3)
          have cv : w3.cell? ⟨wo.heap.size, 4, none⟩ = some (.int .i64 aimm) := by rw [cell_of_row _ _ _ _ _ _ H53.out]; rfl
          have fv : w3.frozen? ⟨wo.heap.size, 4, none⟩ = false := frozen_of_row _ _ _ _ _ H53.out
          refine wp_region_last (S := fun W => Below w3.heap.size w3 W) _ 11 (by kernel_rfl) (by kernel_rfl) rfl ((Below.refl _ _).drew) (fun hHeld => ?_)
          simp only [List.pop_toArray, List.dropLast]
          refine wpAnyH_take (i := 0) (v := ?_) rfl (by kernel_rfl) (by kernel_rfl) (by kernel_rfl) (fun _ _ _ h => h) (Or.inl ⟨by rfl, ?_⟩) (by assumption) ?_
          rotate_left
          · (intro W hSW; go_simp; try (with_reducible rfl))
          (try simp only [List.getElem_toArray, List.getElem_cons_succ, List.getElem_cons_zero])
          (try simp only [Act.put, List.setIfInBounds_toArray, List.set_cons_zero, List.set_cons_succ])
          refine wpAnyH_take (i := 1) (v := ?_) rfl (by kernel_rfl) (by kernel_rfl) (by kernel_rfl) (fun _ _ _ h => h) (Or.inl ⟨by rfl, ?_⟩) (by assumption) ?_
          rotate_left
          · (intro W hSW; have z0 := keeps_below hSW _ _ cv; go_simp; try (with_reducible rfl))
          (try simp only [List.getElem_toArray, List.getElem_cons_succ, List.getElem_cons_zero])
          (try simp only [Act.put, List.setIfInBounds_toArray, List.set_cons_zero, List.set_cons_succ])
          refine wpAnyH_take (i := 2) (v := ?_) rfl (by kernel_rfl) (by kernel_rfl) (by kernel_rfl) (fun _ _ _ h => h) (Or.inl ⟨by rfl, ?_⟩) (by assumption) ?_
          rotate_left
          · (intro W hSW; go_simp; try (with_reducible rfl))
          (try simp only [List.getElem_toArray, List.getElem_cons_succ, List.getElem_cons_zero])
          (try simp only [Act.put, List.setIfInBounds_toArray, List.set_cons_zero, List.set_cons_succ])
          refine wpAnyH_take (i := 3) (v := ?_) rfl (by kernel_rfl) (by kernel_rfl) (by kernel_rfl) (fun _ _ _ h => h) (Or.inl ⟨by rfl, ?_⟩) (by assumption) ?_
          rotate_left
          · (intro W hSW; go_simp; try (with_reducible rfl))
          (try simp only [List.getElem_toArray, List.getElem_cons_succ, List.getElem_cons_zero])
          (try simp only [Act.put, List.setIfInBounds_toArray, List.set_cons_zero, List.set_cons_succ])
          refine wpAnyH_take (i := 4) (v := ?_) rfl (by kernel_rfl) (by kernel_rfl) (by kernel_rfl) (fun _ _ _ h => h) (Or.inl ⟨by rfl, ?_⟩) (by assumption) ?_
          rotate_left
          · (intro W hSW; go_simp; try (with_reducible rfl))
          (try simp only [List.getElem_toArray, List.getElem_cons_succ, List.getElem_cons_zero])
          (try simp only [Act.put, List.setIfInBounds_toArray, List.set_cons_zero, List.set_cons_succ])
          refine wpAnyH_take (i := 5) (v := ?_) rfl (by kernel_rfl) (by kernel_rfl) (by kernel_rfl) (fun _ _ _ h => h) (Or.inl ⟨by rfl, ?_⟩) (by assumption) ?_
          rotate_left
          · (intro W hSW; go_simp; try (with_reducible rfl))
          (try simp only [List.getElem_toArray, List.getElem_cons_succ, List.getElem_cons_zero])
          (try simp only [Act.put, List.setIfInBounds_toArray, List.set_cons_zero, List.set_cons_succ])
          refine wpAnyH_take (i := 6) (v := ?_) rfl (by kernel_rfl) (by kernel_rfl) (by kernel_rfl) (fun _ _ _ h => h) (Or.inl ⟨by rfl, ?_⟩) (by assumption) ?_
          rotate_left
          · (intro W hSW; have z0 := keeps_below hSW _ _ ca; go_simp; try (with_reducible rfl))
          (try simp only [List.getElem_toArray, List.getElem_cons_succ, List.getElem_cons_zero])
          (try simp only [Act.put, List.setIfInBounds_toArray, List.set_cons_zero, List.set_cons_succ])
          refine wpAnyH_ready (rs := [7]) (by kernel_rfl) (by simp) ?_
          refine AllReadyH.cons rfl (fun K hK => ?_) AllReadyH.nil
          go_simp
          go_at_call 142
          refine (G1.out _).mono ?_
          rintro e w4 ⟨rfl, rfl⟩
          dsimp only
          refine hK.out _ _ (hHeld) (fun _ => ?_)
          clear hK K
          (try simp only [Act.put, List.setIfInBounds_toArray, List.set_cons_zero, List.set_cons_succ])
          refine wpAnyH_take (i := 8) (v := ?_) rfl (by kernel_rfl) (by kernel_rfl) (by kernel_rfl) (fun _ _ _ h => h) (Or.inl ⟨by rfl, ?_⟩) (by assumption) ?_
          rotate_left
          · (intro W hSW; go_simp; try (with_reducible rfl))
          (try simp only [List.getElem_toArray, List.getElem_cons_succ, List.getElem_cons_zero])
          (try simp only [Act.put, List.setIfInBounds_toArray, List.set_cons_zero, List.set_cons_succ])
          refine wpAnyH_take (i := 9) (v := ?_) rfl (by kernel_rfl) (by kernel_rfl) (by kernel_rfl) (fun _ _ _ h => h) (Or.inl ⟨by rfl, ?_⟩) (by assumption) ?_
          rotate_left
          · (intro W hSW; go_simp; try (with_reducible rfl))
          (try simp only [List.getElem_toArray, List.getElem_cons_succ, List.getElem_cons_zero])
          (try simp only [Act.put, List.setIfInBounds_toArray, List.set_cons_zero, List.set_cons_succ])
          refine wpAnyH_take (i := 10) (v := ?_) rfl (by kernel_rfl) (by kernel_rfl) (by kernel_rfl) (fun _ _ _ h => h) (Or.inl ⟨by rfl, ?_⟩) (by assumption) ?_
          rotate_left
          · (intro W hSW; go_simp; try (with_reducible rfl))
          (try simp only [List.getElem_toArray, List.getElem_cons_succ, List.getElem_cons_zero])
          (try simp only [Act.put, List.setIfInBounds_toArray, List.set_cons_zero, List.set_cons_succ])
          refine wpAnyH_done (by kernel_rfl) ?_ _
          refine Or.inl ?_
          have cv8 : w3.drew.cell? ⟨wo.heap.size, 4, none⟩ = some (.int .i64 aimm) := cv
          have fv8 : w3.drew.frozen? ⟨wo.heap.size, 4, none⟩ = false := fv
          have H58 : Hid ((w3.drew.setCell ⟨wo.heap.size, 4, none⟩ (.int .i64 (aimm + b * P2))).heap[wo.heap.size]? = some (.cells (miC ⟨(k : Int), ard, ars1, ars2, aimm + b * P2⟩).toArray 151 (0, 0))) := setCell_row H53.out rfl
          have HG8 : Hid ((w3.drew.setCell ⟨wo.heap.size, 4, none⟩ (.int .i64 (aimm + b * P2))).heap[wo.heap.size + 1]? = some (.cells (layArr (layT s)) 3 (0, 0))) := (Below.heap_setCell _ _ _ _ (by simp)).trans HG3.out
          have HB8 : Hid (Below wo.heap.size wo (w3.drew.setCell ⟨wo.heap.size, 4, none⟩ (.int .i64 (aimm + b * P2)))) := HB3.out.drew.setCell (Nat.le_refl _) _
          have hz8 : wo.heap.size + 1 < (w3.drew.setCell ⟨wo.heap.size, 4, none⟩ (.int .i64 (aimm + b * P2))).heap.size := World.heap_lt HG8.out
          clear hHeld cv fv
          go_simp
          go_upto_region 16 with fail
          rw [show (w3.setCell ⟨wo.heap.size, 4, none⟩ (.int .i64 (aimm + b * P2))).drew = (w3.drew.setCell ⟨wo.heap.size, 4, none⟩ (.int .i64 (aimm + b * P2))) from rfl]
          generalize (w3.drew.setCell ⟨wo.heap.size, 4, none⟩ (.int .i64 (aimm + b * P2))) = w8 at *
          clear cv8 fv8 ca
          have ca8 : w8.cell? ⟨wo.heap.size + 1, m, none⟩ = some (.int .i64 (cn : Int)) := by rw [cell_of_row _ _ _ _ _ _ HG8.out]; exact HLG.out
          by_cases hct : atop < (cn : Int)
          · rw [if_pos hct] at HST2
            go_wp2
            go_roundw
            case rel => exact ⟨m + 1, by omega, by go_num, by rw [HST2.out], by rw [HST2.out]; exact H58.out, HG8.out, HB8.out⟩
            case measure => simp [intOf]; omega
          · rw [if_neg hct] at HST2
            go_wp2
            go_roundw
            case rel => exact ⟨m + 1, by omega, by go_num, by rw [HST2.out], by rw [HST2.out]; exact H58.out, HG8.out, HB8.out⟩
            case measure => simp [intOf]; omega
        · -- 2
          obtain ⟨n, h1, hCn, hn, t1c, t3, t2, hh, hh0, hh1⟩ := code_parts C 2 (by omega)
          replace t3 : C.tdiv 10 = 2 := t3
          obtain ⟨cn, rfl⟩ := Int.eq_ofNat_of_zero_le (show 0 ≤ C by omega)
          have hcn : cn ≤ 20 := by omega
          have HST2 : Hid (acc s wd (m + 1) = ⟨ard, ars1, ars2, aimm + b * 2 ^ cn, if atop < (cn : Int) then (cn : Int) else atop⟩) := by
            show _ = _
            rw [HST.out]
            unfold accStep
            rw [if_pos (by omega), Int.toNat_natCast]
          have hbm := bitmul b cn hbb.1 hbb.2 hcn
          have G1 : Hid (∀ W, Calls Tryd.prog 142 #[.int .i64 (cn : Int)] W fun e w' => e = .returned (.int .i64 (2 ^ cn)) ∧ w' = W) := fun W => oneBitR_any cn W hcn
          generalize (2 : Int) ^ cn = P2 at *
          obtain ⟨hw1, hw2⟩ := wrapI (b * P2) hbm.1 (by omega)
          obtain ⟨hw3, hw4⟩ := wrapI (aimm + b * P2) (by omega) (by omega)
          clear HST hh hh0 hh1 hCn hcl hm
          try clear hn
          go_wp2_with (go_at_call 141; refine (gB _).mono ?_; rintro e w3 ⟨rfl, hb3⟩; have H53 : Hid _ := (hb3.block wo.heap.size (by omega)).trans H5.out; have HG3 : Hid _ := (hb3.block (wo.heap.size + 1) hz5).trans HG.out; have HB3 : Hid (Below wo.heap.size wo w3) := HBI.out.trans (hb3.mono HBI.out.size); have ca : w3.cell? ⟨wo.heap.size + 1, m, none⟩ = some (.int .i64 (cn : Int)) := (by rw [cell_of_row _ _ _ _ _ _ HG3.out]; exact HLG.out); have hz3 : wo.heap.size + 1 < w3.heap.size := Nat.lt_of_lt_of_le hz5 hb3.size; clear hb3)
          have cv : w3.cell? ⟨wo.heap.size, 4, none⟩ = some (.int .i64 aimm) := by rw [cell_of_row _ _ _ _ _ _ H53.out]; rfl
          have fv : w3.frozen? ⟨wo.heap.size, 4, none⟩ = false := frozen_of_row _ _ _ _ _ H53.out
          refine wp_region_last (S := fun W => Below w3.heap.size w3 W) _ 11 (by kernel_rfl) (by kernel_rfl) rfl ((Below.refl _ _).drew) (fun hHeld => ?_)
          simp only [List.pop_toArray, List.dropLast]
          refine wpAnyH_take (i := 0) (v := ?_) rfl (by kernel_rfl) (by kernel_rfl) (by kernel_rfl) (fun _ _ _ h => h) (Or.inl ⟨by rfl, ?_⟩) (by assumption) ?_
          rotate_left
          · (intro W hSW; go_simp; try (with_reducible rfl))
          (try simp only [List.getElem_toArray, List.getElem_cons_succ, List.getElem_cons_zero])
          (try simp only [Act.put, List.setIfInBounds_toArray, List.set_cons_zero, List.set_cons_succ])
          refine wpAnyH_take (i := 1) (v := ?_) rfl (by kernel_rfl) (by kernel_rfl) (by kernel_rfl) (fun _ _ _ h => h) (Or.inl ⟨by rfl, ?_⟩) (by assumption) ?_
          rotate_left
          · (intro W hSW; have z0 := keeps_below hSW _ _ cv; go_simp; try (with_reducible rfl))
          (try simp only [List.getElem_toArray, List.getElem_cons_succ, List.getElem_cons_zero])
          (try simp only [Act.put, List.setIfInBounds_toArray, List.set_cons_zero, List.set_cons_succ])
          refine wpAnyH_take (i := 2) (v := ?_) rfl (by kernel_rfl) (by kernel_rfl) (by kernel_rfl) (fun _ _ _ h => h) (Or.inl ⟨by rfl, ?_⟩) (by assumption) ?_
          rotate_left
          · (intro W hSW; go_simp; try (with_reducible rfl))
          (try simp only [List.getElem_toArray, List.getElem_cons_succ, List.getElem_cons_zero])
          (try simp only [Act.put, List.setIfInBounds_toArray, List.set_cons_zero, List.set_cons_succ])
          refine wpAnyH_take (i := 3) (v := ?_) rfl (by kernel_rfl) (by kernel_rfl) (by kernel_rfl) (fun _ _ _ h => h) (Or.inl ⟨by rfl, ?_⟩) (by assumption) ?_
          rotate_left
          · (intro W hSW; go_simp; try (with_reducible rfl))
          (try simp only [List.getElem_toArray, List.getElem_cons_succ, List.getElem_cons_zero])
          (try simp only [Act.put, List.setIfInBounds_toArray, List.set_cons_zero, List.set_cons_succ])
          refine wpAnyH_take (i := 4) (v := ?_) rfl (by kernel_rfl) (by kernel_rfl) (by kernel_rfl) (fun _ _ _ h => h) (Or.inl ⟨by rfl, ?_⟩) (by assumption) ?_
          rotate_left
          · (intro W hSW; go_simp; try (with_reducible rfl))
          (try simp only [List.getElem_toArray, List.getElem_cons_succ, List.getElem_cons_zero])
          (try simp only [Act.put, List.setIfInBounds_toArray, List.set_cons_zero, List.set_cons_succ])
          refine wpAnyH_take (i := 5) (v := ?_) rfl (by kernel_rfl) (by kernel_rfl) (by kernel_rfl) (fun _ _ _ h => h) (Or.inl ⟨by rfl, ?_⟩) (by assumption) ?_
          rotate_left
          · (intro W hSW; go_simp; try (with_reducible rfl))
          (try simp only [List.getElem_toArray, List.getElem_cons_succ, List.getElem_cons_zero])
          (try simp only [Act.put, List.setIfInBounds_toArray, List.set_cons_zero, List.set_cons_succ])
          refine wpAnyH_take (i := 6) (v := ?_) rfl (by kernel_rfl) (by kernel_rfl) (by kernel_rfl) (fun _ _ _ h => h) (Or.inl ⟨by rfl, ?_⟩) (by assumption) ?_
          rotate_left
          · (intro W hSW; have z0 := keeps_below hSW _ _ ca; go_simp; try (with_reducible rfl))
          (try simp only [List.getElem_toArray, List.getElem_cons_succ, List.getElem_cons_zero])
          (try simp only [Act.put, List.setIfInBounds_toArray, List.set_cons_zero, List.set_cons_succ])
          refine wpAnyH_ready (rs := [7]) (by kernel_rfl) (by simp) ?_
          refine AllReadyH.cons rfl (fun K hK => ?_) AllReadyH.nil
          go_simp
          go_at_call 142
          refine (G1.out _).mono ?_
          rintro e w4 ⟨rfl, rfl⟩
          dsimp only
          refine hK.out _ _ (hHeld) (fun _ => ?_)
          clear hK K
          (try simp only [Act.put, List.setIfInBounds_toArray, List.set_cons_zero, List.set_cons_succ])
          refine wpAnyH_take (i := 8) (v := ?_) rfl (by kernel_rfl) (by kernel_rfl) (by kernel_rfl) (fun _ _ _ h => h) (Or.inl ⟨by rfl, ?_⟩) (by assumption) ?_
          rotate_left
          · (intro W hSW; go_simp; try (with_reducible rfl))
          (try simp only [List.getElem_toArray, List.getElem_cons_succ, List.getElem_cons_zero])
          (try simp only [Act.put, List.setIfInBounds_toArray, List.set_cons_zero, List.set_cons_succ])
          refine wpAnyH_take (i := 9) (v := ?_) rfl (by kernel_rfl) (by kernel_rfl) (by kernel_rfl) (fun _ _ _ h => h) (Or.inl ⟨by rfl, ?_⟩) (by assumption) ?_
          rotate_left
          · (intro W hSW; go_simp; try (with_reducible rfl))
          (try simp only [List.getElem_toArray, List.getElem_cons_succ, List.getElem_cons_zero])
          (try simp only [Act.put, List.setIfInBounds_toArray, List.set_cons_zero, List.set_cons_succ])
          refine wpAnyH_take (i := 10) (v := ?_) rfl (by kernel_rfl) (by kernel_rfl) (by kernel_rfl) (fun _ _ _ h => h) (Or.inl ⟨by rfl, ?_⟩) (by assumption) ?_
          rotate_left
          · (intro W hSW; go_simp; try (with_reducible rfl))
          (try simp only [List.getElem_toArray, List.getElem_cons_succ, List.getElem_cons_zero])
          (try simp only [Act.put, List.setIfInBounds_toArray, List.set_cons_zero, List.set_cons_succ])
          refine wpAnyH_done (by kernel_rfl) ?_ _
          refine Or.inl ?_
          have cv8 : w3.drew.cell? ⟨wo.heap.size, 4, none⟩ = some (.int .i64 aimm) := cv
          have fv8 : w3.drew.frozen? ⟨wo.heap.size, 4, none⟩ = false := fv
          have H58 : Hid ((w3.drew.setCell ⟨wo.heap.size, 4, none⟩ (.int .i64 (aimm + b * P2))).heap[wo.heap.size]? = some (.cells (miC ⟨(k : Int), ard, ars1, ars2, aimm + b * P2⟩).toArray 151 (0, 0))) := setCell_row H53.out rfl
          have HG8 : Hid ((w3.drew.setCell ⟨wo.heap.size, 4, none⟩ (.int .i64 (aimm + b * P2))).heap[wo.heap.size + 1]? = some (.cells (layArr (layT s)) 3 (0, 0))) := (Below.heap_setCell _ _ _ _ (by simp)).trans HG3.out
          have HB8 : Hid (Below wo.heap.size wo (w3.drew.setCell ⟨wo.heap.size, 4, none⟩ (.int .i64 (aimm + b * P2)))) := HB3.out.drew.setCell (Nat.le_refl _) _
          have hz8 : wo.heap.size + 1 < (w3.drew.setCell ⟨wo.heap.size, 4, none⟩ (.int .i64 (aimm + b * P2))).heap.size := World.heap_lt HG8.out
          clear hHeld cv fv
          go_simp
          go_upto_region 16 with fail
          rw [show (w3.setCell ⟨wo.heap.size, 4, none⟩ (.int .i64 (aimm + b * P2))).drew = (w3.drew.setCell ⟨wo.heap.size, 4, none⟩ (.int .i64 (aimm + b * P2))) from rfl]
          generalize (w3.drew.setCell ⟨wo.heap.size, 4, none⟩ (.int .i64 (aimm + b * P2))) = w8 at *
          clear cv8 fv8 ca
          have ca8 : w8.cell? ⟨wo.heap.size + 1, m, none⟩ = some (.int .i64 (cn : Int)) := by rw [cell_of_row _ _ _ _ _ _ HG8.out]; exact HLG.out
          by_cases hct : atop < (cn : Int)
          · rw [if_pos hct] at HST2
            go_wp2
            go_roundw
            case rel => exact ⟨m + 1, by omega, by go_num, by rw [HST2.out], by rw [HST2.out]; exact H58.out, HG8.out, HB8.out⟩
            case measure => simp [intOf]; omega
          · rw [if_neg hct] at HST2
            go_wp2
            go_roundw
            case rel => exact ⟨m + 1, by omega, by go_num, by rw [HST2.out], by rw [HST2.out]; exact H58.out, HG8.out, HB8.out⟩
            case measure => simp [intOf]; omega
        · -- 10
          obtain ⟨n, h1, hCn, hn, t1c, t3, t2, hh, hh0, hh1⟩ := code_parts C 10 (by omega)
          replace t3 : C.tdiv 10 = 10 := t3
          have HST2 : Hid (acc s wd (m + 1) = ⟨ard + b * 2 ^ n, ars1, ars2, aimm, atop⟩) := by
            show _ = _
            rw [HST.out]
            unfold accStep
            rw [if_neg (by omega), if_pos (by omega)]
            have en : (C - 100).toNat = n := by omega
            rw [en]
          have hbm := bitmul b n hbb.1 hbb.2 (by omega)
          have G1 : Hid (∀ W, Calls Tryd.prog 142 #[.int .i64 (n : Int)] W fun e w' => e = .returned (.int .i64 (2 ^ n)) ∧ w' = W) := fun W => oneBitR_any n W (by omega)
          generalize (2 : Int) ^ n = P2 at *
          obtain ⟨hw1, hw2⟩ := wrapI (b * P2) hbm.1 (by omega)
          obtain ⟨hw3, hw4⟩ := wrapI (ard + b * P2) (by omega) (by omega)
          clear HST hh hh0 hh1 hCn hcl hm
          try clear hn
          go_wp2_with (go_at_call 141; refine (gB _).mono ?_; rintro e w3 ⟨rfl, hb3⟩; have H53 : Hid _ := (hb3.block wo.heap.size (by omega)).trans H5.out; have HG3 : Hid _ := (hb3.block (wo.heap.size + 1) hz5).trans HG.out; have HB3 : Hid (Below wo.heap.size wo w3) := HBI.out.trans (hb3.mono HBI.out.size); have ca : w3.cell? ⟨wo.heap.size + 1, m, none⟩ = some (.int .i64 C) := (by rw [cell_of_row _ _ _ _ _ _ HG3.out]; exact HLG.out); have hz3 : wo.heap.size + 1 < w3.heap.size := Nat.lt_of_lt_of_le hz5 hb3.size; clear hb3)
          have cv : w3.cell? ⟨wo.heap.size, 1, none⟩ = some (.int .i64 ard) := by rw [cell_of_row _ _ _ _ _ _ H53.out]; rfl
          have fv : w3.frozen? ⟨wo.heap.size, 1, none⟩ = false := frozen_of_row _ _ _ _ _ H53.out
          refine wp_region_last (S := fun W => Below w3.heap.size w3 W) _ 8 (by kernel_rfl) (by kernel_rfl) rfl ((Below.refl _ _).drew) (fun hHeld => ?_)
          simp only [List.pop_toArray, List.dropLast]
          refine wpAnyH_take (i := 0) (v := ?_) rfl (by kernel_rfl) (by kernel_rfl) (by kernel_rfl) (fun _ _ _ h => h) (Or.inl ⟨by rfl, ?_⟩) (by assumption) ?_
          rotate_left
          · (intro W hSW; go_simp; try (with_reducible rfl))
          (try simp only [List.getElem_toArray, List.getElem_cons_succ, List.getElem_cons_zero])
          (try simp only [Act.put, List.setIfInBounds_toArray, List.set_cons_zero, List.set_cons_succ])
          refine wpAnyH_take (i := 1) (v := ?_) rfl (by kernel_rfl) (by kernel_rfl) (by kernel_rfl) (fun _ _ _ h => h) (Or.inl ⟨by rfl, ?_⟩) (by assumption) ?_
          rotate_left
          · (intro W hSW; have z0 := keeps_below hSW _ _ cv; go_simp; try (with_reducible rfl))
          (try simp only [List.getElem_toArray, List.getElem_cons_succ, List.getElem_cons_zero])
          (try simp only [Act.put, List.setIfInBounds_toArray, List.set_cons_zero, List.set_cons_succ])
          refine wpAnyH_take (i := 2) (v := ?_) rfl (by kernel_rfl) (by kernel_rfl) (by kernel_rfl) (fun _ _ _ h => h) (Or.inl ⟨by rfl, ?_⟩) (by assumption) ?_
          rotate_left
          · (intro W hSW; go_simp; try (with_reducible rfl))
          (try simp only [List.getElem_toArray, List.getElem_cons_succ, List.getElem_cons_zero])
          (try simp only [Act.put, List.setIfInBounds_toArray, List.set_cons_zero, List.set_cons_succ])
          refine wpAnyH_take (i := 3) (v := ?_) rfl (by kernel_rfl) (by kernel_rfl) (by kernel_rfl) (fun _ _ _ h => h) (Or.inl ⟨by rfl, ?_⟩) (by assumption) ?_
          rotate_left
          · (intro W hSW; go_simp; try (with_reducible rfl))
          (try simp only [List.getElem_toArray, List.getElem_cons_succ, List.getElem_cons_zero])
          (try simp only [Act.put, List.setIfInBounds_toArray, List.set_cons_zero, List.set_cons_succ])
          refine wpAnyH_ready (rs := [4]) (by kernel_rfl) (by simp) ?_
          refine AllReadyH.cons rfl (fun K hK => ?_) AllReadyH.nil
          go_simp
          go_at_call 142
          refine (G1.out _).mono ?_
          rintro e w4 ⟨rfl, rfl⟩
          dsimp only
          refine hK.out _ _ (hHeld) (fun _ => ?_)
          clear hK K
          (try simp only [Act.put, List.setIfInBounds_toArray, List.set_cons_zero, List.set_cons_succ])
          refine wpAnyH_take (i := 5) (v := ?_) rfl (by kernel_rfl) (by kernel_rfl) (by kernel_rfl) (fun _ _ _ h => h) (Or.inl ⟨by rfl, ?_⟩) (by assumption) ?_
          rotate_left
          · (intro W hSW; go_simp; try (with_reducible rfl))
          (try simp only [List.getElem_toArray, List.getElem_cons_succ, List.getElem_cons_zero])
          (try simp only [Act.put, List.setIfInBounds_toArray, List.set_cons_zero, List.set_cons_succ])
          refine wpAnyH_take (i := 6) (v := ?_) rfl (by kernel_rfl) (by kernel_rfl) (by kernel_rfl) (fun _ _ _ h => h) (Or.inl ⟨by rfl, ?_⟩) (by assumption) ?_
          rotate_left
          · (intro W hSW; go_simp; try (with_reducible rfl))
          (try simp only [List.getElem_toArray, List.getElem_cons_succ, List.getElem_cons_zero])
          (try simp only [Act.put, List.setIfInBounds_toArray, List.set_cons_zero, List.set_cons_succ])
          refine wpAnyH_take (i := 7) (v := ?_) rfl (by kernel_rfl) (by kernel_rfl) (by kernel_rfl) (fun _ _ _ h => h) (Or.inl ⟨by rfl, ?_⟩) (by assumption) ?_
          rotate_left
          · (intro W hSW; go_simp; try (with_reducible rfl))
          (try simp only [List.getElem_toArray, List.getElem_cons_succ, List.getElem_cons_zero])
          (try simp only [Act.put, List.setIfInBounds_toArray, List.set_cons_zero, List.set_cons_succ])
          refine wpAnyH_done (by kernel_rfl) ?_ _
          refine Or.inl ?_
          have cv8 : w3.drew.cell? ⟨wo.heap.size, 1, none⟩ = some (.int .i64 ard) := cv
          have fv8 : w3.drew.frozen? ⟨wo.heap.size, 1, none⟩ = false := fv
          have H58 : Hid ((w3.drew.setCell ⟨wo.heap.size, 1, none⟩ (.int .i64 (ard + b * P2))).heap[wo.heap.size]? = some (.cells (miC ⟨(k : Int), ard + b * P2, ars1, ars2, aimm⟩).toArray 151 (0, 0))) := setCell_row H53.out rfl
          have HG8 : Hid ((w3.drew.setCell ⟨wo.heap.size, 1, none⟩ (.int .i64 (ard + b * P2))).heap[wo.heap.size + 1]? = some (.cells (layArr (layT s)) 3 (0, 0))) := (Below.heap_setCell _ _ _ _ (by simp)).trans HG3.out
          have HB8 : Hid (Below wo.heap.size wo (w3.drew.setCell ⟨wo.heap.size, 1, none⟩ (.int .i64 (ard + b * P2)))) := HB3.out.drew.setCell (Nat.le_refl _) _
          have hz8 : wo.heap.size + 1 < (w3.drew.setCell ⟨wo.heap.size, 1, none⟩ (.int .i64 (ard + b * P2))).heap.size := World.heap_lt HG8.out
          clear hHeld cv fv
          go_simp
          go_upto_region 11 with fail
          rw [show (w3.setCell ⟨wo.heap.size, 1, none⟩ (.int .i64 (ard + b * P2))).drew = (w3.drew.setCell ⟨wo.heap.size, 1, none⟩ (.int .i64 (ard + b * P2))) from rfl]
          generalize (w3.drew.setCell ⟨wo.heap.size, 1, none⟩ (.int .i64 (ard + b * P2))) = w8 at *
          clear cv8 fv8 ca
          go_wp2
          go_roundw
          case rel => exact ⟨m + 1, by omega, by go_num, by rw [HST2.out], by rw [HST2.out]; exact H58.out, HG8.out, HB8.out⟩
          case measure => simp [intOf]; omega
        · -- 11
          obtain ⟨n, h1, hCn, hn, t1c, t3, t2, hh, hh0, hh1⟩ := code_parts C 11 (by omega)
          replace t3 : C.tdiv 10 = 11 := t3
          have HST2 : Hid (acc s wd (m + 1) = ⟨ard, ars1 + b * 2 ^ n, ars2, aimm, atop⟩) := by
            show _ = _
            rw [HST.out]
            unfold accStep
            rw [if_neg (by omega), if_neg (by omega), if_pos (by omega)]
            have en : (C - 110).toNat = n := by omega
            rw [en]
          have hbm := bitmul b n hbb.1 hbb.2 (by omega)
          have G1 : Hid (∀ W, Calls Tryd.prog 142 #[.int .i64 (n : Int)] W fun e w' => e = .returned (.int .i64 (2 ^ n)) ∧ w' = W) := fun W => oneBitR_any n W (by omega)
          generalize (2 : Int) ^ n = P2 at *
          obtain ⟨hw1, hw2⟩ := wrapI (b * P2) hbm.1 (by omega)
          obtain ⟨hw3, hw4⟩ := wrapI (ars1 + b * P2) (by omega) (by omega)
          clear HST hh hh0 hh1 hCn hcl hm
          try clear hn
          go_wp2_with (go_at_call 141; refine (gB _).mono ?_; rintro e w3 ⟨rfl, hb3⟩; have H53 : Hid _ := (hb3.block wo.heap.size (by omega)).trans H5.out; have HG3 : Hid _ := (hb3.block (wo.heap.size + 1) hz5).trans HG.out; have HB3 : Hid (Below wo.heap.size wo w3) := HBI.out.trans (hb3.mono HBI.out.size); have ca : w3.cell? ⟨wo.heap.size + 1, m, none⟩ = some (.int .i64 C) := (by rw [cell_of_row _ _ _ _ _ _ HG3.out]; exact HLG.out); have hz3 : wo.heap.size + 1 < w3.heap.size := Nat.lt_of_lt_of_le hz5 hb3.size; clear hb3)
          have cv : w3.cell? ⟨wo.heap.size, 2, none⟩ = some (.int .i64 ars1) := by rw [cell_of_row _ _ _ _ _ _ H53.out]; rfl
          have fv : w3.frozen? ⟨wo.heap.size, 2, none⟩ = false := frozen_of_row _ _ _ _ _ H53.out
          refine wp_region_last (S := fun W => Below w3.heap.size w3 W) _ 8 (by kernel_rfl) (by kernel_rfl) rfl ((Below.refl _ _).drew) (fun hHeld => ?_)
          simp only [List.pop_toArray, List.dropLast]
          refine wpAnyH_take (i := 0) (v := ?_) rfl (by kernel_rfl) (by kernel_rfl) (by kernel_rfl) (fun _ _ _ h => h) (Or.inl ⟨by rfl, ?_⟩) (by assumption) ?_
          rotate_left
          · (intro W hSW; go_simp; try (with_reducible rfl))
          (try simp only [List.getElem_toArray, List.getElem_cons_succ, List.getElem_cons_zero])
          (try simp only [Act.put, List.setIfInBounds_toArray, List.set_cons_zero, List.set_cons_succ])
          refine wpAnyH_take (i := 1) (v := ?_) rfl (by kernel_rfl) (by kernel_rfl) (by kernel_rfl) (fun _ _ _ h => h) (Or.inl ⟨by rfl, ?_⟩) (by assumption) ?_
          rotate_left
          · (intro W hSW; have z0 := keeps_below hSW _ _ cv; go_simp; try (with_reducible rfl))
          (try simp only [List.getElem_toArray, List.getElem_cons_succ, List.getElem_cons_zero])
          (try simp only [Act.put, List.setIfInBounds_toArray, List.set_cons_zero, List.set_cons_succ])
          refine wpAnyH_take (i := 2) (v := ?_) rfl (by kernel_rfl) (by kernel_rfl) (by kernel_rfl) (fun _ _ _ h => h) (Or.inl ⟨by rfl, ?_⟩) (by assumption) ?_
          rotate_left
          · (intro W hSW; go_simp; try (with_reducible rfl))
          (try simp only [List.getElem_toArray, List.getElem_cons_succ, List.getElem_cons_zero])
          (try simp only [Act.put, List.setIfInBounds_toArray, List.set_cons_zero, List.set_cons_succ])
          refine wpAnyH_take (i := 3) (v := ?_) rfl (by kernel_rfl) (by kernel_rfl) (by kernel_rfl) (fun _ _ _ h => h) (Or.inl ⟨by rfl, ?_⟩) (by assumption) ?_
          rotate_left
          · (intro W hSW; go_simp; try (with_reducible rfl))
          (try simp only [List.getElem_toArray, List.getElem_cons_succ, List.getElem_cons_zero])
          (try simp only [Act.put, List.setIfInBounds_toArray, List.set_cons_zero, List.set_cons_succ])
          refine wpAnyH_ready (rs := [4]) (by kernel_rfl) (by simp) ?_
          refine AllReadyH.cons rfl (fun K hK => ?_) AllReadyH.nil
          go_simp
          go_at_call 142
          refine (G1.out _).mono ?_
          rintro e w4 ⟨rfl, rfl⟩
          dsimp only
          refine hK.out _ _ (hHeld) (fun _ => ?_)
          clear hK K
          (try simp only [Act.put, List.setIfInBounds_toArray, List.set_cons_zero, List.set_cons_succ])
          refine wpAnyH_take (i := 5) (v := ?_) rfl (by kernel_rfl) (by kernel_rfl) (by kernel_rfl) (fun _ _ _ h => h) (Or.inl ⟨by rfl, ?_⟩) (by assumption) ?_
          rotate_left
          · (intro W hSW; go_simp; try (with_reducible rfl))
          (try simp only [List.getElem_toArray, List.getElem_cons_succ, List.getElem_cons_zero])
          (try simp only [Act.put, List.setIfInBounds_toArray, List.set_cons_zero, List.set_cons_succ])
          refine wpAnyH_take (i := 6) (v := ?_) rfl (by kernel_rfl) (by kernel_rfl) (by kernel_rfl) (fun _ _ _ h => h) (Or.inl ⟨by rfl, ?_⟩) (by assumption) ?_
          rotate_left
          · (intro W hSW; go_simp; try (with_reducible rfl))
          (try simp only [List.getElem_toArray, List.getElem_cons_succ, List.getElem_cons_zero])
          (try simp only [Act.put, List.setIfInBounds_toArray, List.set_cons_zero, List.set_cons_succ])
          refine wpAnyH_take (i := 7) (v := ?_) rfl (by kernel_rfl) (by kernel_rfl) (by kernel_rfl) (fun _ _ _ h => h) (Or.inl ⟨by rfl, ?_⟩) (by assumption) ?_
          rotate_left
          · (intro W hSW; go_simp; try (with_reducible rfl))
          (try simp only [List.getElem_toArray, List.getElem_cons_succ, List.getElem_cons_zero])
          (try simp only [Act.put, List.setIfInBounds_toArray, List.set_cons_zero, List.set_cons_succ])
          refine wpAnyH_done (by kernel_rfl) ?_ _
          refine Or.inl ?_
          have cv8 : w3.drew.cell? ⟨wo.heap.size, 2, none⟩ = some (.int .i64 ars1) := cv
          have fv8 : w3.drew.frozen? ⟨wo.heap.size, 2, none⟩ = false := fv
          have H58 : Hid ((w3.drew.setCell ⟨wo.heap.size, 2, none⟩ (.int .i64 (ars1 + b * P2))).heap[wo.heap.size]? = some (.cells (miC ⟨(k : Int), ard, ars1 + b * P2, ars2, aimm⟩).toArray 151 (0, 0))) := setCell_row H53.out rfl
          have HG8 : Hid ((w3.drew.setCell ⟨wo.heap.size, 2, none⟩ (.int .i64 (ars1 + b * P2))).heap[wo.heap.size + 1]? = some (.cells (layArr (layT s)) 3 (0, 0))) := (Below.heap_setCell _ _ _ _ (by simp)).trans HG3.out
          have HB8 : Hid (Below wo.heap.size wo (w3.drew.setCell ⟨wo.heap.size, 2, none⟩ (.int .i64 (ars1 + b * P2)))) := HB3.out.drew.setCell (Nat.le_refl _) _
          have hz8 : wo.heap.size + 1 < (w3.drew.setCell ⟨wo.heap.size, 2, none⟩ (.int .i64 (ars1 + b * P2))).heap.size := World.heap_lt HG8.out
          clear hHeld cv fv
          go_simp
          go_upto_region 11 with fail
          rw [show (w3.setCell ⟨wo.heap.size, 2, none⟩ (.int .i64 (ars1 + b * P2))).drew = (w3.drew.setCell ⟨wo.heap.size, 2, none⟩ (.int .i64 (ars1 + b * P2))) from rfl]
          generalize (w3.drew.setCell ⟨wo.heap.size, 2, none⟩ (.int .i64 (ars1 + b * P2))) = w8 at *
          clear cv8 fv8 ca
          go_wp2
          go_roundw
          case rel => exact ⟨m + 1, by omega, by go_num, by rw [HST2.out], by rw [HST2.out]; exact H58.out, HG8.out, HB8.out⟩
          case measure => simp [intOf]; omega
        · -- 12
          obtain ⟨n, h1, hCn, hn, t1c, t3, t2, hh, hh0, hh1⟩ := code_parts C 12 (by omega)
          replace t3 : C.tdiv 10 = 12 := t3
          have HST2 : Hid (acc s wd (m + 1) = ⟨ard, ars1, ars2 + b * 2 ^ n, aimm, atop⟩) := by
            show _ = _
            rw [HST.out]
            unfold accStep
            rw [if_neg (by omega), if_neg (by omega), if_neg (by omega), if_pos (by omega)]
            have en : (C - 120).toNat = n := by omega
            rw [en]
          have hbm := bitmul b n hbb.1 hbb.2 (by omega)
          have G1 : Hid (∀ W, Calls Tryd.prog 142 #[.int .i64 (n : Int)] W fun e w' => e = .returned (.int .i64 (2 ^ n)) ∧ w' = W) := fun W => oneBitR_any n W (by omega)
          generalize (2 : Int) ^ n = P2 at *
          obtain ⟨hw1, hw2⟩ := wrapI (b * P2) hbm.1 (by omega)
          obtain ⟨hw3, hw4⟩ := wrapI (ars2 + b * P2) (by omega) (by omega)
          clear HST hh hh0 hh1 hCn hcl hm
          try clear hn
          go_wp2_with (go_at_call 141; refine (gB _).mono ?_; rintro e w3 ⟨rfl, hb3⟩; have H53 : Hid _ := (hb3.block wo.heap.size (by omega)).trans H5.out; have HG3 : Hid _ := (hb3.block (wo.heap.size + 1) hz5).trans HG.out; have HB3 : Hid (Below wo.heap.size wo w3) := HBI.out.trans (hb3.mono HBI.out.size); have ca : w3.cell? ⟨wo.heap.size + 1, m, none⟩ = some (.int .i64 C) := (by rw [cell_of_row _ _ _ _ _ _ HG3.out]; exact HLG.out); have hz3 : wo.heap.size + 1 < w3.heap.size := Nat.lt_of_lt_of_le hz5 hb3.size; clear hb3)
          have cv : w3.cell? ⟨wo.heap.size, 3, none⟩ = some (.int .i64 ars2) := by rw [cell_of_row _ _ _ _ _ _ H53.out]; rfl
          have fv : w3.frozen? ⟨wo.heap.size, 3, none⟩ = false := frozen_of_row _ _ _ _ _ H53.out
          refine wp_region_last (S := fun W => Below w3.heap.size w3 W) _ 8 (by kernel_rfl) (by kernel_rfl) rfl ((Below.refl _ _).drew) (fun hHeld => ?_)
          simp only [List.pop_toArray, List.dropLast]
          refine wpAnyH_take (i := 0) (v := ?_) rfl (by kernel_rfl) (by kernel_rfl) (by kernel_rfl) (fun _ _ _ h => h) (Or.inl ⟨by rfl, ?_⟩) (by assumption) ?_
          rotate_left
          · (intro W hSW; go_simp; try (with_reducible rfl))
          (try simp only [List.getElem_toArray, List.getElem_cons_succ, List.getElem_cons_zero])
          (try simp only [Act.put, List.setIfInBounds_toArray, List.set_cons_zero, List.set_cons_succ])
          refine wpAnyH_take (i := 1) (v := ?_) rfl (by kernel_rfl) (by kernel_rfl) (by kernel_rfl) (fun _ _ _ h => h) (Or.inl ⟨by rfl, ?_⟩) (by assumption) ?_
          rotate_left
          · (intro W hSW; have z0 := keeps_below hSW _ _ cv; go_simp; try (with_reducible rfl))
          (try simp only [List.getElem_toArray, List.getElem_cons_succ, List.getElem_cons_zero])
          (try simp only [Act.put, List.setIfInBounds_toArray, List.set_cons_zero, List.set_cons_succ])
          refine wpAnyH_take (i := 2) (v := ?_) rfl (by kernel_rfl) (by kernel_rfl) (by kernel_rfl) (fun _ _ _ h => h) (Or.inl ⟨by rfl, ?_⟩) (by assumption) ?_
          rotate_left
          · (intro W hSW; go_simp; try (with_reducible rfl))
          (try simp only [List.getElem_toArray, List.getElem_cons_succ, List.getElem_cons_zero])
          (try simp only [Act.put, List.setIfInBounds_toArray, List.set_cons_zero, List.set_cons_succ])
          refine wpAnyH_take (i := 3) (v := ?_) rfl (by kernel_rfl) (by kernel_rfl) (by kernel_rfl) (fun _ _ _ h => h) (Or.inl ⟨by rfl, ?_⟩) (by assumption) ?_
          rotate_left
          · (intro W hSW; go_simp; try (with_reducible rfl))
          (try simp only [List.getElem_toArray, List.getElem_cons_succ, List.getElem_cons_zero])
          (try simp only [Act.put, List.setIfInBounds_toArray, List.set_cons_zero, List.set_cons_succ])
          refine wpAnyH_ready (rs := [4]) (by kernel_rfl) (by simp) ?_
          refine AllReadyH.cons rfl (fun K hK => ?_) AllReadyH.nil
          go_simp
          go_at_call 142
          refine (G1.out _).mono ?_
          rintro e w4 ⟨rfl, rfl⟩
          dsimp only
          refine hK.out _ _ (hHeld) (fun _ => ?_)
          clear hK K
          (try simp only [Act.put, List.setIfInBounds_toArray, List.set_cons_zero, List.set_cons_succ])
          refine wpAnyH_take (i := 5) (v := ?_) rfl (by kernel_rfl) (by kernel_rfl) (by kernel_rfl) (fun _ _ _ h => h) (Or.inl ⟨by rfl, ?_⟩) (by assumption) ?_
          rotate_left
          · (intro W hSW; go_simp; try (with_reducible rfl))
          (try simp only [List.getElem_toArray, List.getElem_cons_succ, List.getElem_cons_zero])
          (try simp only [Act.put, List.setIfInBounds_toArray, List.set_cons_zero, List.set_cons_succ])
          refine wpAnyH_take (i := 6) (v := ?_) rfl (by kernel_rfl) (by kernel_rfl) (by kernel_rfl) (fun _ _ _ h => h) (Or.inl ⟨by rfl, ?_⟩) (by assumption) ?_
          rotate_left
          · (intro W hSW; go_simp; try (with_reducible rfl))
          (try simp only [List.getElem_toArray, List.getElem_cons_succ, List.getElem_cons_zero])
          (try simp only [Act.put, List.setIfInBounds_toArray, List.set_cons_zero, List.set_cons_succ])
          refine wpAnyH_take (i := 7) (v := ?_) rfl (by kernel_rfl) (by kernel_rfl) (by kernel_rfl) (fun _ _ _ h => h) (Or.inl ⟨by rfl, ?_⟩) (by assumption) ?_
          rotate_left
          · (intro W hSW; go_simp; try (with_reducible rfl))
          (try simp only [List.getElem_toArray, List.getElem_cons_succ, List.getElem_cons_zero])
          (try simp only [Act.put, List.setIfInBounds_toArray, List.set_cons_zero, List.set_cons_succ])
          refine wpAnyH_done (by kernel_rfl) ?_ _
          refine Or.inl ?_
          have cv8 : w3.drew.cell? ⟨wo.heap.size, 3, none⟩ = some (.int .i64 ars2) := cv
          have fv8 : w3.drew.frozen? ⟨wo.heap.size, 3, none⟩ = false := fv
          have H58 : Hid ((w3.drew.setCell ⟨wo.heap.size, 3, none⟩ (.int .i64 (ars2 + b * P2))).heap[wo.heap.size]? = some (.cells (miC ⟨(k : Int), ard, ars1, ars2 + b * P2, aimm⟩).toArray 151 (0, 0))) := setCell_row H53.out rfl
          have HG8 : Hid ((w3.drew.setCell ⟨wo.heap.size, 3, none⟩ (.int .i64 (ars2 + b * P2))).heap[wo.heap.size + 1]? = some (.cells (layArr (layT s)) 3 (0, 0))) := (Below.heap_setCell _ _ _ _ (by simp)).trans HG3.out
          have HB8 : Hid (Below wo.heap.size wo (w3.drew.setCell ⟨wo.heap.size, 3, none⟩ (.int .i64 (ars2 + b * P2)))) := HB3.out.drew.setCell (Nat.le_refl _) _
          have hz8 : wo.heap.size + 1 < (w3.drew.setCell ⟨wo.heap.size, 3, none⟩ (.int .i64 (ars2 + b * P2))).heap.size := World.heap_lt HG8.out
          clear hHeld cv fv
          go_simp
          go_upto_region 11 with fail
          rw [show (w3.setCell ⟨wo.heap.size, 3, none⟩ (.int .i64 (ars2 + b * P2))).drew = (w3.drew.setCell ⟨wo.heap.size, 3, none⟩ (.int .i64 (ars2 + b * P2))) from rfl]
          generalize (w3.drew.setCell ⟨wo.heap.size, 3, none⟩ (.int .i64 (ars2 + b * P2))) = w8 at *
          clear cv8 fv8 ca
          go_wp2
          go_roundw
          case rel => exact ⟨m + 1, by omega, by go_num, by rw [HST2.out], by rw [HST2.out]; exact H58.out, HG8.out, HB8.out⟩
          case measure => simp [intOf]; omega
        · -- 13
          obtain ⟨n, h1, hCn, hn, t1c, t3, t2, hh, hh0, hh1⟩ := code_parts C 13 (by omega)
          replace t3 : C.tdiv 10 = 13 := t3
          have HST2 : Hid (acc s wd (m + 1) = ⟨ard, ars1, ars2, aimm, atop⟩) := by
            show _ = _
            rw [HST.out]
            unfold accStep
            rw [if_neg (by omega), if_neg (by omega), if_neg (by omega), if_neg (by omega)]
          clear HST hh hh0 hh1 hCn hcl hm
          try clear hn
          go_wp2_with (go_at_call 141; refine (gB _).mono ?_; rintro e w3 ⟨rfl, hb3⟩; have H53 : Hid _ := (hb3.block wo.heap.size (by omega)).trans H5.out; have HG3 : Hid _ := (hb3.block (wo.heap.size + 1) hz5).trans HG.out; have HB3 : Hid (Below wo.heap.size wo w3) := HBI.out.trans (hb3.mono HBI.out.size); have ca : w3.cell? ⟨wo.heap.size + 1, m, none⟩ = some (.int .i64 C) := (by rw [cell_of_row _ _ _ _ _ _ HG3.out]; exact HLG.out); have hz3 : wo.heap.size + 1 < w3.heap.size := Nat.lt_of_lt_of_le hz5 hb3.size; clear hb3)
          go_roundw
          case rel => exact ⟨m + 1, by omega, by go_num, by rw [HST2.out], by rw [HST2.out]; exact H53.out, HG3.out, HB3.out⟩
          case measure => simp [intOf]; omega
        · -- 14
          obtain ⟨n, h1, hCn, hn, t1c, t3, t2, hh, hh0, hh1⟩ := code_parts C 14 (by omega)
          replace t3 : C.tdiv 10 = 14 := t3
          have HST2 : Hid (acc s wd (m + 1) = ⟨ard, ars1, ars2, aimm, atop⟩) := by
            show _ = _
            rw [HST.out]
            unfold accStep
            rw [if_neg (by omega), if_neg (by omega), if_neg (by omega), if_neg (by omega)]
          clear HST hh hh0 hh1 hCn hcl hm
          try clear hn
          go_wp2_with (go_at_call 141; refine (gB _).mono ?_; rintro e w3 ⟨rfl, hb3⟩; have H53 : Hid _ := (hb3.block wo.heap.size (by omega)).trans H5.out; have HG3 : Hid _ := (hb3.block (wo.heap.size + 1) hz5).trans HG.out; have HB3 : Hid (Below wo.heap.size wo w3) := HBI.out.trans (hb3.mono HBI.out.size); have ca : w3.cell? ⟨wo.heap.size + 1, m, none⟩ = some (.int .i64 C) := (by rw [cell_of_row _ _ _ _ _ _ HG3.out]; exact HLG.out); have hz3 : wo.heap.size + 1 < w3.heap.size := Nat.lt_of_lt_of_le hz5 hb3.size; clear hb3)
          go_roundw
          case rel => exact ⟨m + 1, by omega, by go_num, by rw [HST2.out], by rw [HST2.out]; exact H53.out, HG3.out, HB3.out⟩
          case measure => simp [intOf]; omega
        · -- 15
          obtain ⟨n, h1, hCn, hn, t1c, t3, t2, hh, hh0, hh1⟩ := code_parts C 15 (by omega)
          replace t3 : C.tdiv 10 = 15 := t3
          have HST2 : Hid (acc s wd (m + 1) = ⟨ard, ars1, ars2, aimm, atop⟩) := by
            show _ = _
            rw [HST.out]
            unfold accStep
            rw [if_neg (by omega), if_neg (by omega), if_neg (by omega), if_neg (by omega)]
          clear HST hh hh0 hh1 hCn hcl hm
          try clear hn
          go_wp2_with (go_at_call 141; refine (gB _).mono ?_; rintro e w3 ⟨rfl, hb3⟩; have H53 : Hid _ := (hb3.block wo.heap.size (by omega)).trans H5.out; have HG3 : Hid _ := (hb3.block (wo.heap.size + 1) hz5).trans HG.out; have HB3 : Hid (Below wo.heap.size wo w3) := HBI.out.trans (hb3.mono HBI.out.size); have ca : w3.cell? ⟨wo.heap.size + 1, m, none⟩ = some (.int .i64 C) := (by rw [cell_of_row _ _ _ _ _ _ HG3.out]; exact HLG.out); have hz3 : wo.heap.size + 1 < w3.heap.size := Nat.lt_of_lt_of_le hz5 hb3.size; clear hb3)
          go_roundw
          case rel => exact ⟨m + 1, by omega, by go_num, by rw [HST2.out], by rw [HST2.out]; exact H53.out, HG3.out, HB3.out⟩
          case measure => simp [intOf]; omega
      obtain rfl : m = 32 := by omega
      clear h5 hg hbi HBO HLC
      have HRE : Hid (∀ X, ((s = 7 ∧ X = ⟨k, 0, 0, 0, 0⟩) ∨ (s ≠ 7 ∧ X = ⟨k, (acc s wd 32).rd, (acc s wd 32).rs1, (acc s wd 32).rs2, if s ≠ 2 ∧ 0 ≤ (acc s wd 32).top ∧ 2 ^ (acc s wd 32).top.toNat ≤ (acc s wd 32).imm then (acc s wd 32).imm - 2 * 2 ^ (acc s wd 32).top.toNat else (acc s wd 32).imm⟩)) → refX s k wd = X) := fun X h => refX_eq s k wd X h
      have HTN : Hid ((acc s wd 32).top < 0 → s = 0 ∨ s = 7) := fun h => top_neg s HS.out wd h
      have H7T : Hid (s = 7 → (acc s wd 32).top = -1) := fun h => by subst h; exact acc7_top wd
      generalize acc s wd 32 = AA at *
      obtain ⟨ard, ars1, ars2, aimm, atop⟩ := AA
      dsimp only at *
      have hz5' : wo.heap.size < wr.heap.size := by omega
      rcases (show s = 7 ∨ (s = 2 ∧ s ≠ 7) ∨ (s ≠ 2 ∧ s ≠ 7 ∧ atop < 0) ∨ (s ≠ 2 ∧ s ≠ 7 ∧ 0 ≤ atop) by omega) with rfl | ⟨rfl, h7⟩ | ⟨h2, h7, ht⟩ | ⟨h2, h7, ht⟩
      · -- S
        obtain rfl := H7T.out rfl
        have HRX : Hid (refX 7 k wd = ⟨(k : Int), 0, 0, 0, 0⟩) := HRE.out _ (Or.inl ⟨rfl, rfl⟩)
        clear HRE HTN H7T
        go_wp2_with fail
        refine wp_region_held_drew (S := fun W => Below wr.heap.size wr W) (by kernel_rfl) ((Below.refl _ _).drew) (fun hHeld => ?_)
        show wpAnyH _ _ _ _ _ 14 _ _ _
        refine wpAnyH_take (i := 0) (v := ?_) rfl (by kernel_rfl) (by kernel_rfl) (by kernel_rfl) (fun _ _ _ h => h) (Or.inl ⟨by rfl, ?_⟩) (by assumption) ?_
        rotate_left
        · (intro W hSW; go_simp; try (with_reducible rfl))
        (try simp only [List.getElem_toArray, List.getElem_cons_zero])
        (try simp only [Act.put, List.setIfInBounds_toArray, List.set_cons_zero, List.set_cons_succ])
        refine wpAnyH_ready (rs := [1]) (by kernel_rfl) (by simp) ?_
        refine AllReadyH.cons rfl (fun K hK => ?_) AllReadyH.nil
        go_simp
        go_at_call 140
        refine (gS _).mono ?_
        rintro e w4 ⟨rfl, rfl⟩
        dsimp only
        refine hK.out _ _ (hHeld) (fun _ => ?_)
        clear hK K
        (try simp only [Act.put, List.setIfInBounds_toArray, List.set_cons_zero, List.set_cons_succ])
        refine wpAnyH_take (i := 2) (v := ?_) rfl (by kernel_rfl) (by kernel_rfl) (by kernel_rfl) (fun _ _ _ h => h) (Or.inl ⟨by rfl, ?_⟩) (by assumption) ?_
        rotate_left
        · (intro W hSW; go_simp; try (with_reducible rfl))
        (try simp only [List.getElem_toArray, List.getElem_cons_succ, List.getElem_cons_zero])
        (try simp only [Act.put, List.setIfInBounds_toArray, List.set_cons_zero, List.set_cons_succ])
        refine wpAnyH_take (i := 3) (v := ?_) rfl (by kernel_rfl) (by kernel_rfl) (by kernel_rfl) (fun _ _ _ h => h) (Or.inl ⟨by rfl, ?_⟩) (by assumption) ?_
        rotate_left
        · (intro W hSW; go_simp; try (with_reducible rfl))
        (try simp only [List.getElem_toArray, List.getElem_cons_succ, List.getElem_cons_zero])
        (try simp only [Act.put, List.setIfInBounds_toArray, List.set_cons_zero, List.set_cons_succ])
        refine wpAnyH_take (i := 4) (v := ?_) rfl (by kernel_rfl) (by kernel_rfl) (by kernel_rfl) (fun _ _ _ h => h) (Or.inl ⟨by kernel_rfl, ?_⟩) (by assumption) ?_
        rotate_left
        · (intro W hSW; go_simp; try (with_reducible rfl))
        (try simp only [List.getElem_toArray, List.getElem_cons_succ, List.getElem_cons_zero])
        (try simp only [Act.put, List.setIfInBounds_toArray, List.set_cons_zero, List.set_cons_succ])
        refine wpAnyH_take (i := 5) (v := ?_) rfl (by kernel_rfl) (by kernel_rfl) (by kernel_rfl) (fun _ _ _ h => h) (Or.inl ⟨by kernel_rfl, ?_⟩) (by assumption) ?_
        rotate_left
        · (intro W hSW; go_simp; try (with_reducible rfl))
        (try simp only [List.getElem_toArray, List.getElem_cons_succ, List.getElem_cons_zero])
        (try simp only [Act.put, List.setIfInBounds_toArray, List.set_cons_zero, List.set_cons_succ])
        refine wpAnyH_take (i := 6) (v := ?_) rfl (by kernel_rfl) (by kernel_rfl) (by kernel_rfl) (fun _ _ _ h => h) (Or.inl ⟨by rfl, ?_⟩) (by assumption) ?_
        rotate_left
        · (intro W hSW; go_simp; try (with_reducible rfl))
        (try simp only [List.getElem_toArray, List.getElem_cons_succ, List.getElem_cons_zero])
        (try simp only [Act.put, List.setIfInBounds_toArray, List.set_cons_zero, List.set_cons_succ])
        refine wpAnyH_take (i := 7) (v := ?_) rfl (by kernel_rfl) (by kernel_rfl) (by kernel_rfl) (fun _ _ _ h => h) (Or.inl ⟨by rfl, ?_⟩) (by assumption) ?_
        rotate_left
        · (intro W hSW; go_simp; try (with_reducible rfl))
        (try simp only [List.getElem_toArray, List.getElem_cons_succ, List.getElem_cons_zero])
        (try simp only [Act.put, List.setIfInBounds_toArray, List.set_cons_zero, List.set_cons_succ])
        refine wpAnyH_take (i := 8) (v := undef) rfl (by kernel_rfl) (by kernel_rfl) (by kernel_rfl) (fun _ _ _ h => h) (Or.inr ⟨by kernel_rfl, rfl⟩) (by assumption) ?_
        (try simp only [Act.put, List.getElem_toArray, List.getElem_cons_succ, List.getElem_cons_zero, List.setIfInBounds_toArray, List.set_cons_zero, List.set_cons_succ])
        refine wpAnyH_take (i := 9) (v := undef) rfl (by kernel_rfl) (by kernel_rfl) (by kernel_rfl) (fun _ _ _ h => h) (Or.inr ⟨by kernel_rfl, rfl⟩) (by assumption) ?_
        (try simp only [Act.put, List.getElem_toArray, List.getElem_cons_succ, List.getElem_cons_zero, List.setIfInBounds_toArray, List.set_cons_zero, List.set_cons_succ])
        refine wpAnyH_take (i := 10) (v := undef) rfl (by kernel_rfl) (by kernel_rfl) (by kernel_rfl) (fun _ _ _ h => h) (Or.inr ⟨by kernel_rfl, rfl⟩) (by assumption) ?_
        (try simp only [Act.put, List.getElem_toArray, List.getElem_cons_succ, List.getElem_cons_zero, List.setIfInBounds_toArray, List.set_cons_zero, List.set_cons_succ])
        refine wpAnyH_take (i := 11) (v := undef) rfl (by kernel_rfl) (by kernel_rfl) (by kernel_rfl) (fun _ _ _ h => h) (Or.inr ⟨by kernel_rfl, rfl⟩) (by assumption) ?_
        (try simp only [Act.put, List.getElem_toArray, List.getElem_cons_succ, List.getElem_cons_zero, List.setIfInBounds_toArray, List.set_cons_zero, List.set_cons_succ])
        refine wpAnyH_take (i := 12) (v := undef) rfl (by kernel_rfl) (by kernel_rfl) (by kernel_rfl) (fun _ _ _ h => h) (Or.inr ⟨by kernel_rfl, rfl⟩) (by assumption) ?_
        (try simp only [Act.put, List.getElem_toArray, List.getElem_cons_succ, List.getElem_cons_zero, List.setIfInBounds_toArray, List.set_cons_zero, List.set_cons_succ])
        refine wpAnyH_take (i := 13) (v := ?_) rfl (by kernel_rfl) (by kernel_rfl) (by kernel_rfl) (fun _ _ _ h => h) (Or.inl ⟨by rfl, ?_⟩) (by assumption) ?_
        rotate_left
        · (intro W hSW; go_simp; try (with_reducible rfl))
        (try simp only [List.getElem_toArray, List.getElem_cons_succ, List.getElem_cons_zero])
        (try simp only [Act.put, List.setIfInBounds_toArray, List.set_cons_zero, List.set_cons_succ])
        refine wpAnyH_done (by kernel_rfl) ?_ _
        generalize World.drew wr = w5 at *
        have H55 : Hid _ := (hHeld.block _ hz5').trans H5.out
        have HB5 : Hid (Below wo.heap.size wo w5) := HBI.out.trans (hHeld.mono HBI.out.size)
        clear hHeld
        have HWO : Hid (∀ W, Calls Tryd.prog 143 #[.agg (miC ⟨(k : Int), 0, 0, 0, 0⟩).toArray] W fun e w' => e = .returned (.tuple #[.int .i64 (encI ⟨(k : Int), 0, 0, 0, 0⟩), .int .i64 (rvE ⟨(k : Int), 0, 0, 0, 0⟩)]) ∧ Below W.heap.size W w') := fun W => wordOf_any _ (fitsM _ (by dsimp only; omega) (by dsimp only; omega)) (fitsM _ (by dsimp only; omega) (by dsimp only; omega)) (fitsM _ (by dsimp only; omega) (by dsimp only; omega)) (fitsM _ (by dsimp only; omega) (by dsimp only; omega)) W
        have HGK2 : Hid (Good wd k ↔ rvE ⟨(k : Int), 0, 0, 0, 0⟩ = 0 ∧ encI ⟨(k : Int), 0, 0, 0, 0⟩ = wd) := by rw [← HRX.out]; exact HGK.out
        have HGX2 : Hid (Good wd k → decX wd = ⟨(k : Int), 0, 0, 0, 0⟩ ∧ decE wd = 0) := by rw [← HRX.out]; exact HGX.out
        have h6w : w5.heap[w.heap.size]? = some (.cells #[.int .i64 0, .int .i64 0, .int .i64 0, .int .i64 0, .int .i64 0] 151 (0, 0)) := (HB5.out.block _ HZ.out).trans h6r
        have hzw : wo.heap.size < w5.heap.size := World.heap_lt H55.out
        have hbox := H55.out
        have hbox7 : ∀ cs, (w5.setRow wo.heap.size cs).heap[wo.heap.size]? = some (.cells cs 151 (0, 0)) := fun cs => setRow_heap _ _ _ _ _ _ hbox
        have h6w7 : ∀ cs, (w5.setRow wo.heap.size cs).heap[w.heap.size]? = some (.cells #[.int .i64 0, .int .i64 0, .int .i64 0, .int .i64 0, .int .i64 0] 151 (0, 0)) := fun cs => by rw [setRow_other2 _ _ _ _ (by have := HZ.out; omega)]; exact h6w
        by_cases hE : rvE ⟨(k : Int), 0, 0, 0, 0⟩ = 0
        · by_cases hV : encI ⟨(k : Int), 0, 0, 0, 0⟩ = wd
          · obtain ⟨e1, e2⟩ := HGX2.out (HGK2.out.2 ⟨hE, hV⟩)
            have HE1 : Hid _ := e1
            have HE2 : Hid _ := e2
            rw [hE, hV] at HWO
            clear e1 e2 hE hV HGK2 HGX2 HRX
            go_wp2_with (first | (go_at_call 140; refine (gS _).mono ?_; rintro e w' ⟨rfl, hw'⟩; replace hw' := hw'.symm; subst hw') | (refine wpList_build_storeR rfl _ _ rfl (miC ⟨(k : Int), 0, 0, 0, 0⟩).toArray (built_op k) rfl _ _ rfl _ rfl rfl _ _ hbox infoRv rfl (miC_one _) ?_) | (refine wpList_store_row rfl _ _ _ rfl _ (miC ⟨(k : Int), 0, 0, 0, 0⟩).toArray rfl rfl _ _ hbox infoRv rfl (miC_one _) ?_) | (refine wpList_load_row rfl 151 (.tmp 5) rfl _ rfl _ _ _ _ (hbox7 _) Tryd.underlying151 rfl infoRv ?_) | (go_at_call 143; refine (HWO.out _).mono ?_; rintro e w6 ⟨rfl, hb6⟩; have h56 : w6.heap[wo.heap.size]? = some (.cells (miC ⟨(k : Int), 0, 0, 0, 0⟩).toArray 151 (0, 0)) := (hb6.block _ (World.heap_lt (hbox7 _))).trans (hbox7 _); have h66 : w6.heap[w.heap.size]? = some (.cells #[.int .i64 0, .int .i64 0, .int .i64 0, .int .i64 0, .int .i64 0] 151 (0, 0)) := (hb6.block _ (World.heap_lt (h6w7 _))).trans (h6w7 _); have HB6 : Hid (Below wo.heap.size wo w6) := (below_setRowR HB5.out (Nat.le_refl _) _).trans (hb6.mono (Nat.le_of_lt (World.heap_lt (hbox7 _)))); clear hb6) | (refine wpList_load_row rfl 151 (.tmp 5) rfl _ rfl _ _ _ _ h56 Tryd.underlying151 rfl infoRv ?_) | (refine wpList_store_row rfl _ _ _ rfl _ (miC ⟨(k : Int), 0, 0, 0, 0⟩).toArray rfl rfl _ _ h66 infoRv rfl (miC_one _) ?_))
            try simp only [Exit.inBlock, Exit.then]
            exact bodyPost_ret (results_row_tmpR rfl _ _ w.heap.size 151 (miC ⟨(k : Int), 0, 0, 0, 0⟩).toArray (0, 0) _ rfl (setRow_heap _ _ _ _ _ _ h66) Tryd.underlying151 rfl infoRv) rfl ⟨by rw [HE1.out, HE2.out]; rfl, below_setRowR (HBW.out.trans (HB6.out.mono (by have := HZ.out; omega))) (Nat.le_refl _) _⟩
          · have HNK : Hid (¬ Good wd k) := fun h => hV (HGK2.out.1 h).2
            have hvb : (encI ⟨(k : Int), 0, 0, 0, 0⟩ == wd) = false := beq_eq_false_iff_ne.2 hV
            rw [hE] at HWO
            generalize encI ⟨(k : Int), 0, 0, 0, 0⟩ = V at *
            clear hE hV HGK2 HGX2 HRX
            go_wp2_with (first | (go_at_call 140; refine (gS _).mono ?_; rintro e w' ⟨rfl, hw'⟩; replace hw' := hw'.symm; subst hw') | (refine wpList_build_storeR rfl _ _ rfl (miC ⟨(k : Int), 0, 0, 0, 0⟩).toArray (built_op k) rfl _ _ rfl _ rfl rfl _ _ hbox infoRv rfl (miC_one _) ?_) | (refine wpList_store_row rfl _ _ _ rfl _ (miC ⟨(k : Int), 0, 0, 0, 0⟩).toArray rfl rfl _ _ hbox infoRv rfl (miC_one _) ?_) | (refine wpList_load_row rfl 151 (.tmp 5) rfl _ rfl _ _ _ _ (hbox7 _) Tryd.underlying151 rfl infoRv ?_) | (go_at_call 143; refine (HWO.out _).mono ?_; rintro e w6 ⟨rfl, hb6⟩; have h56 : w6.heap[wo.heap.size]? = some (.cells (miC ⟨(k : Int), 0, 0, 0, 0⟩).toArray 151 (0, 0)) := (hb6.block _ (World.heap_lt (hbox7 _))).trans (hbox7 _); have h66 : w6.heap[w.heap.size]? = some (.cells #[.int .i64 0, .int .i64 0, .int .i64 0, .int .i64 0, .int .i64 0] 151 (0, 0)) := (hb6.block _ (World.heap_lt (h6w7 _))).trans (h6w7 _); have HB6 : Hid (Below wo.heap.size wo w6) := (below_setRowR HB5.out (Nat.le_refl _) _).trans (hb6.mono (Nat.le_of_lt (World.heap_lt (hbox7 _)))); clear hb6))
            go_roundw
            case rel => exact ⟨k + 1, by omega, by omega, by go_num, fun j a b => by rcases Nat.lt_succ_iff_lt_or_eq.1 b with hl | rfl; exact HALL.out j a hl; exact HNK.out, HBR.out.trans (HB6.out.mono (by have := HZ.out; omega))⟩
            case measure => simp [intOf]; omega
        · have HNK : Hid (¬ Good wd k) := fun h => hE (HGK2.out.1 h).1
          have hvb : (rvE ⟨(k : Int), 0, 0, 0, 0⟩ == 0) = false := beq_eq_false_iff_ne.2 hE
          generalize encI ⟨(k : Int), 0, 0, 0, 0⟩ = V at *
          generalize rvE ⟨(k : Int), 0, 0, 0, 0⟩ = E at *
          clear hE HGK2 HGX2 HRX
          go_wp2_with (first | (go_at_call 140; refine (gS _).mono ?_; rintro e w' ⟨rfl, hw'⟩; replace hw' := hw'.symm; subst hw') | (refine wpList_build_storeR rfl _ _ rfl (miC ⟨(k : Int), 0, 0, 0, 0⟩).toArray (built_op k) rfl _ _ rfl _ rfl rfl _ _ hbox infoRv rfl (miC_one _) ?_) | (refine wpList_store_row rfl _ _ _ rfl _ (miC ⟨(k : Int), 0, 0, 0, 0⟩).toArray rfl rfl _ _ hbox infoRv rfl (miC_one _) ?_) | (refine wpList_load_row rfl 151 (.tmp 5) rfl _ rfl _ _ _ _ (hbox7 _) Tryd.underlying151 rfl infoRv ?_) | (go_at_call 143; refine (HWO.out _).mono ?_; rintro e w6 ⟨rfl, hb6⟩; have h56 : w6.heap[wo.heap.size]? = some (.cells (miC ⟨(k : Int), 0, 0, 0, 0⟩).toArray 151 (0, 0)) := (hb6.block _ (World.heap_lt (hbox7 _))).trans (hbox7 _); have h66 : w6.heap[w.heap.size]? = some (.cells #[.int .i64 0, .int .i64 0, .int .i64 0, .int .i64 0, .int .i64 0] 151 (0, 0)) := (hb6.block _ (World.heap_lt (h6w7 _))).trans (h6w7 _); have HB6 : Hid (Below wo.heap.size wo w6) := (below_setRowR HB5.out (Nat.le_refl _) _).trans (hb6.mono (Nat.le_of_lt (World.heap_lt (hbox7 _)))); clear hb6))
          go_roundw
          case rel => exact ⟨k + 1, by omega, by omega, by go_num, fun j a b => by rcases Nat.lt_succ_iff_lt_or_eq.1 b with hl | rfl; exact HALL.out j a hl; exact HNK.out, HBR.out.trans (HB6.out.mono (by have := HZ.out; omega))⟩
          case measure => simp [intOf]; omega
      · -- A
        have HRX : Hid (refX 2 k wd = ⟨(k : Int), ard, ars1, ars2, aimm⟩) := HRE.out _ (Or.inr ⟨h7, by rw [if_neg (fun h => h.1 rfl)]⟩)
        clear HRE HTN H7T h7
        go_wp2_with fail
        refine wp_region_held_drew (S := fun W => Below wr.heap.size wr W) (by kernel_rfl) ((Below.refl _ _).drew) (fun hHeld => ?_)
        show wpAnyH _ _ _ _ _ 14 _ _ _
        refine wpAnyH_take (i := 0) (v := ?_) rfl (by kernel_rfl) (by kernel_rfl) (by kernel_rfl) (fun _ _ _ h => h) (Or.inl ⟨by rfl, ?_⟩) (by assumption) ?_
        rotate_left
        · (intro W hSW; go_simp; try (with_reducible rfl))
        (try simp only [List.getElem_toArray, List.getElem_cons_zero])
        (try simp only [Act.put, List.setIfInBounds_toArray, List.set_cons_zero, List.set_cons_succ])
        refine wpAnyH_ready (rs := [1]) (by kernel_rfl) (by simp) ?_
        refine AllReadyH.cons rfl (fun K hK => ?_) AllReadyH.nil
        go_simp
        go_at_call 140
        refine (gS _).mono ?_
        rintro e w4 ⟨rfl, rfl⟩
        dsimp only
        refine hK.out _ _ (hHeld) (fun _ => ?_)
        clear hK K
        (try simp only [Act.put, List.setIfInBounds_toArray, List.set_cons_zero, List.set_cons_succ])
        refine wpAnyH_take (i := 2) (v := ?_) rfl (by kernel_rfl) (by kernel_rfl) (by kernel_rfl) (fun _ _ _ h => h) (Or.inl ⟨by rfl, ?_⟩) (by assumption) ?_
        rotate_left
        · (intro W hSW; go_simp; try (with_reducible rfl))
        (try simp only [List.getElem_toArray, List.getElem_cons_succ, List.getElem_cons_zero])
        (try simp only [Act.put, List.setIfInBounds_toArray, List.set_cons_zero, List.set_cons_succ])
        refine wpAnyH_take (i := 3) (v := ?_) rfl (by kernel_rfl) (by kernel_rfl) (by kernel_rfl) (fun _ _ _ h => h) (Or.inl ⟨by rfl, ?_⟩) (by assumption) ?_
        rotate_left
        · (intro W hSW; go_simp; try (with_reducible rfl))
        (try simp only [List.getElem_toArray, List.getElem_cons_succ, List.getElem_cons_zero])
        (try simp only [Act.put, List.setIfInBounds_toArray, List.set_cons_zero, List.set_cons_succ])
        refine wpAnyH_take (i := 4) (v := undef) rfl (by kernel_rfl) (by kernel_rfl) (by kernel_rfl) (fun _ _ _ h => h) (Or.inr ⟨by kernel_rfl, rfl⟩) (by assumption) ?_
        (try simp only [Act.put, List.getElem_toArray, List.getElem_cons_succ, List.getElem_cons_zero, List.setIfInBounds_toArray, List.set_cons_zero, List.set_cons_succ])
        refine wpAnyH_take (i := 5) (v := undef) rfl (by kernel_rfl) (by kernel_rfl) (by kernel_rfl) (fun _ _ _ h => h) (Or.inr ⟨by kernel_rfl, rfl⟩) (by assumption) ?_
        (try simp only [Act.put, List.getElem_toArray, List.getElem_cons_succ, List.getElem_cons_zero, List.setIfInBounds_toArray, List.set_cons_zero, List.set_cons_succ])
        refine wpAnyH_take (i := 6) (v := ?_) rfl (by kernel_rfl) (by kernel_rfl) (by kernel_rfl) (fun _ _ _ h => h) (Or.inl ⟨by rfl, ?_⟩) (by assumption) ?_
        rotate_left
        · (intro W hSW; go_simp; try (with_reducible rfl))
        (try simp only [List.getElem_toArray, List.getElem_cons_succ, List.getElem_cons_zero])
        (try simp only [Act.put, List.setIfInBounds_toArray, List.set_cons_zero, List.set_cons_succ])
        refine wpAnyH_take (i := 7) (v := ?_) rfl (by kernel_rfl) (by kernel_rfl) (by kernel_rfl) (fun _ _ _ h => h) (Or.inl ⟨by rfl, ?_⟩) (by assumption) ?_
        rotate_left
        · (intro W hSW; go_simp; try (with_reducible rfl))
        (try simp only [List.getElem_toArray, List.getElem_cons_succ, List.getElem_cons_zero])
        (try simp only [Act.put, List.setIfInBounds_toArray, List.set_cons_zero, List.set_cons_succ])
        refine wpAnyH_take (i := 8) (v := undef) rfl (by kernel_rfl) (by kernel_rfl) (by kernel_rfl) (fun _ _ _ h => h) (Or.inr ⟨by kernel_rfl, rfl⟩) (by assumption) ?_
        (try simp only [Act.put, List.getElem_toArray, List.getElem_cons_succ, List.getElem_cons_zero, List.setIfInBounds_toArray, List.set_cons_zero, List.set_cons_succ])
        refine wpAnyH_take (i := 9) (v := undef) rfl (by kernel_rfl) (by kernel_rfl) (by kernel_rfl) (fun _ _ _ h => h) (Or.inr ⟨by kernel_rfl, rfl⟩) (by assumption) ?_
        (try simp only [Act.put, List.getElem_toArray, List.getElem_cons_succ, List.getElem_cons_zero, List.setIfInBounds_toArray, List.set_cons_zero, List.set_cons_succ])
        refine wpAnyH_take (i := 10) (v := undef) rfl (by kernel_rfl) (by kernel_rfl) (by kernel_rfl) (fun _ _ _ h => h) (Or.inr ⟨by kernel_rfl, rfl⟩) (by assumption) ?_
        (try simp only [Act.put, List.getElem_toArray, List.getElem_cons_succ, List.getElem_cons_zero, List.setIfInBounds_toArray, List.set_cons_zero, List.set_cons_succ])
        refine wpAnyH_take (i := 11) (v := undef) rfl (by kernel_rfl) (by kernel_rfl) (by kernel_rfl) (fun _ _ _ h => h) (Or.inr ⟨by kernel_rfl, rfl⟩) (by assumption) ?_
        (try simp only [Act.put, List.getElem_toArray, List.getElem_cons_succ, List.getElem_cons_zero, List.setIfInBounds_toArray, List.set_cons_zero, List.set_cons_succ])
        refine wpAnyH_take (i := 12) (v := undef) rfl (by kernel_rfl) (by kernel_rfl) (by kernel_rfl) (fun _ _ _ h => h) (Or.inr ⟨by kernel_rfl, rfl⟩) (by assumption) ?_
        (try simp only [Act.put, List.getElem_toArray, List.getElem_cons_succ, List.getElem_cons_zero, List.setIfInBounds_toArray, List.set_cons_zero, List.set_cons_succ])
        refine wpAnyH_take (i := 13) (v := ?_) rfl (by kernel_rfl) (by kernel_rfl) (by kernel_rfl) (fun _ _ _ h => h) (Or.inl ⟨by rfl, ?_⟩) (by assumption) ?_
        rotate_left
        · (intro W hSW; go_simp; try (with_reducible rfl))
        (try simp only [List.getElem_toArray, List.getElem_cons_succ, List.getElem_cons_zero])
        (try simp only [Act.put, List.setIfInBounds_toArray, List.set_cons_zero, List.set_cons_succ])
        refine wpAnyH_done (by kernel_rfl) ?_ _
        generalize World.drew wr = w5 at *
        have H55 : Hid _ := (hHeld.block _ hz5').trans H5.out
        have HB5 : Hid (Below wo.heap.size wo w5) := HBI.out.trans (hHeld.mono HBI.out.size)
        clear hHeld
        have HWO : Hid (∀ W, Calls Tryd.prog 143 #[.agg (miC ⟨(k : Int), ard, ars1, ars2, aimm⟩).toArray] W fun e w' => e = .returned (.tuple #[.int .i64 (encI ⟨(k : Int), ard, ars1, ars2, aimm⟩), .int .i64 (rvE ⟨(k : Int), ard, ars1, ars2, aimm⟩)]) ∧ Below W.heap.size W w') := fun W => wordOf_any _ (fitsM _ (by dsimp only; omega) (by dsimp only; omega)) (fitsM _ (by dsimp only; omega) (by dsimp only; omega)) (fitsM _ (by dsimp only; omega) (by dsimp only; omega)) (fitsM _ (by dsimp only; omega) (by dsimp only; omega)) W
        have HGK2 : Hid (Good wd k ↔ rvE ⟨(k : Int), ard, ars1, ars2, aimm⟩ = 0 ∧ encI ⟨(k : Int), ard, ars1, ars2, aimm⟩ = wd) := by rw [← HRX.out]; exact HGK.out
        have HGX2 : Hid (Good wd k → decX wd = ⟨(k : Int), ard, ars1, ars2, aimm⟩ ∧ decE wd = 0) := by rw [← HRX.out]; exact HGX.out
        have h6w : w5.heap[w.heap.size]? = some (.cells #[.int .i64 0, .int .i64 0, .int .i64 0, .int .i64 0, .int .i64 0] 151 (0, 0)) := (HB5.out.block _ HZ.out).trans h6r
        have hzw : wo.heap.size < w5.heap.size := World.heap_lt H55.out
        have hbox := H55.out
        by_cases hE : rvE ⟨(k : Int), ard, ars1, ars2, aimm⟩ = 0
        · by_cases hV : encI ⟨(k : Int), ard, ars1, ars2, aimm⟩ = wd
          · obtain ⟨e1, e2⟩ := HGX2.out (HGK2.out.2 ⟨hE, hV⟩)
            have HE1 : Hid _ := e1
            have HE2 : Hid _ := e2
            rw [hE, hV] at HWO
            clear e1 e2 hE hV HGK2 HGX2 HRX
            go_wp2_with (first | (go_at_call 140; refine (gS _).mono ?_; rintro e w' ⟨rfl, hw'⟩; replace hw' := hw'.symm; subst hw') | (refine wpList_load_row rfl 151 (.tmp 5) rfl _ rfl _ _ _ _ (hbox) Tryd.underlying151 rfl infoRv ?_) | (go_at_call 143; refine (HWO.out _).mono ?_; rintro e w6 ⟨rfl, hb6⟩; have h56 : w6.heap[wo.heap.size]? = some (.cells (miC ⟨(k : Int), ard, ars1, ars2, aimm⟩).toArray 151 (0, 0)) := (hb6.block _ (World.heap_lt (hbox))).trans (hbox); have h66 : w6.heap[w.heap.size]? = some (.cells #[.int .i64 0, .int .i64 0, .int .i64 0, .int .i64 0, .int .i64 0] 151 (0, 0)) := (hb6.block _ (World.heap_lt (h6w))).trans (h6w); have HB6 : Hid (Below wo.heap.size wo w6) := HB5.out.trans (hb6.mono (Nat.le_of_lt (World.heap_lt (hbox)))); clear hb6) | (refine wpList_load_row rfl 151 (.tmp 5) rfl _ rfl _ _ _ _ h56 Tryd.underlying151 rfl infoRv ?_) | (refine wpList_store_row rfl _ _ _ rfl _ (miC ⟨(k : Int), ard, ars1, ars2, aimm⟩).toArray rfl rfl _ _ h66 infoRv rfl (miC_one _) ?_))
            try simp only [Exit.inBlock, Exit.then]
            exact bodyPost_ret (results_row_tmpR rfl _ _ w.heap.size 151 (miC ⟨(k : Int), ard, ars1, ars2, aimm⟩).toArray (0, 0) _ rfl (setRow_heap _ _ _ _ _ _ h66) Tryd.underlying151 rfl infoRv) rfl ⟨by rw [HE1.out, HE2.out]; rfl, below_setRowR (HBW.out.trans (HB6.out.mono (by have := HZ.out; omega))) (Nat.le_refl _) _⟩
          · have HNK : Hid (¬ Good wd k) := fun h => hV (HGK2.out.1 h).2
            have hvb : (encI ⟨(k : Int), ard, ars1, ars2, aimm⟩ == wd) = false := beq_eq_false_iff_ne.2 hV
            rw [hE] at HWO
            generalize encI ⟨(k : Int), ard, ars1, ars2, aimm⟩ = V at *
            clear hE hV HGK2 HGX2 HRX
            go_wp2_with (first | (go_at_call 140; refine (gS _).mono ?_; rintro e w' ⟨rfl, hw'⟩; replace hw' := hw'.symm; subst hw') | (refine wpList_load_row rfl 151 (.tmp 5) rfl _ rfl _ _ _ _ (hbox) Tryd.underlying151 rfl infoRv ?_) | (go_at_call 143; refine (HWO.out _).mono ?_; rintro e w6 ⟨rfl, hb6⟩; have h56 : w6.heap[wo.heap.size]? = some (.cells (miC ⟨(k : Int), ard, ars1, ars2, aimm⟩).toArray 151 (0, 0)) := (hb6.block _ (World.heap_lt (hbox))).trans (hbox); have h66 : w6.heap[w.heap.size]? = some (.cells #[.int .i64 0, .int .i64 0, .int .i64 0, .int .i64 0, .int .i64 0] 151 (0, 0)) := (hb6.block _ (World.heap_lt (h6w))).trans (h6w); have HB6 : Hid (Below wo.heap.size wo w6) := HB5.out.trans (hb6.mono (Nat.le_of_lt (World.heap_lt (hbox)))); clear hb6))
            go_roundw
            case rel => exact ⟨k + 1, by omega, by omega, by go_num, fun j a b => by rcases Nat.lt_succ_iff_lt_or_eq.1 b with hl | rfl; exact HALL.out j a hl; exact HNK.out, HBR.out.trans (HB6.out.mono (by have := HZ.out; omega))⟩
            case measure => simp [intOf]; omega
        · have HNK : Hid (¬ Good wd k) := fun h => hE (HGK2.out.1 h).1
          have hvb : (rvE ⟨(k : Int), ard, ars1, ars2, aimm⟩ == 0) = false := beq_eq_false_iff_ne.2 hE
          generalize encI ⟨(k : Int), ard, ars1, ars2, aimm⟩ = V at *
          generalize rvE ⟨(k : Int), ard, ars1, ars2, aimm⟩ = E at *
          clear hE HGK2 HGX2 HRX
          go_wp2_with (first | (go_at_call 140; refine (gS _).mono ?_; rintro e w' ⟨rfl, hw'⟩; replace hw' := hw'.symm; subst hw') | (refine wpList_load_row rfl 151 (.tmp 5) rfl _ rfl _ _ _ _ (hbox) Tryd.underlying151 rfl infoRv ?_) | (go_at_call 143; refine (HWO.out _).mono ?_; rintro e w6 ⟨rfl, hb6⟩; have h56 : w6.heap[wo.heap.size]? = some (.cells (miC ⟨(k : Int), ard, ars1, ars2, aimm⟩).toArray 151 (0, 0)) := (hb6.block _ (World.heap_lt (hbox))).trans (hbox); have h66 : w6.heap[w.heap.size]? = some (.cells #[.int .i64 0, .int .i64 0, .int .i64 0, .int .i64 0, .int .i64 0] 151 (0, 0)) := (hb6.block _ (World.heap_lt (h6w))).trans (h6w); have HB6 : Hid (Below wo.heap.size wo w6) := HB5.out.trans (hb6.mono (Nat.le_of_lt (World.heap_lt (hbox)))); clear hb6))
          go_roundw
          case rel => exact ⟨k + 1, by omega, by omega, by go_num, fun j a b => by rcases Nat.lt_succ_iff_lt_or_eq.1 b with hl | rfl; exact HALL.out j a hl; exact HNK.out, HBR.out.trans (HB6.out.mono (by have := HZ.out; omega))⟩
          case measure => simp [intOf]; omega
      · -- B
        obtain rfl : atop = -1 := by omega
        have HRX : Hid (refX s k wd = ⟨(k : Int), ard, ars1, ars2, aimm⟩) := HRE.out _ (Or.inr ⟨h7, by rw [if_neg (fun h => absurd h.2.1 (by decide))]⟩)
        have s2 : ((s : Int) != 2) = true := by simp; omega
        have s7 : ((s : Int) == 7) = false := by rw [beq_eq_false_iff_ne]; omega
        clear HRE HTN H7T h7 h2 ht
        go_wp2_with fail
        refine wp_region_held_drew (S := fun W => Below wr.heap.size wr W) (by kernel_rfl) ((Below.refl _ _).drew) (fun hHeld => ?_)
        show wpAnyH _ _ _ _ _ 14 _ _ _
        refine wpAnyH_take (i := 0) (v := ?_) rfl (by kernel_rfl) (by kernel_rfl) (by kernel_rfl) (fun _ _ _ h => h) (Or.inl ⟨by rfl, ?_⟩) (by assumption) ?_
        rotate_left
        · (intro W hSW; go_simp; try (with_reducible rfl))
        (try simp only [List.getElem_toArray, List.getElem_cons_zero])
        (try simp only [Act.put, List.setIfInBounds_toArray, List.set_cons_zero, List.set_cons_succ])
        refine wpAnyH_ready (rs := [1]) (by kernel_rfl) (by simp) ?_
        refine AllReadyH.cons rfl (fun K hK => ?_) AllReadyH.nil
        go_simp
        go_at_call 140
        refine (gS _).mono ?_
        rintro e w4 ⟨rfl, rfl⟩
        dsimp only
        refine hK.out _ _ (hHeld) (fun _ => ?_)
        clear hK K
        (try simp only [Act.put, List.setIfInBounds_toArray, List.set_cons_zero, List.set_cons_succ])
        refine wpAnyH_take (i := 2) (v := ?_) rfl (by kernel_rfl) (by kernel_rfl) (by kernel_rfl) (fun _ _ _ h => h) (Or.inl ⟨by rfl, ?_⟩) (by assumption) ?_
        rotate_left
        · (intro W hSW; go_simp; try (with_reducible rfl))
        (try simp only [List.getElem_toArray, List.getElem_cons_succ, List.getElem_cons_zero])
        (try simp only [Act.put, List.setIfInBounds_toArray, List.set_cons_zero, List.set_cons_succ])
        refine wpAnyH_take (i := 3) (v := ?_) rfl (by kernel_rfl) (by kernel_rfl) (by kernel_rfl) (fun _ _ _ h => h) (Or.inl ⟨by rfl, ?_⟩) (by assumption) ?_
        rotate_left
        · (intro W hSW; go_simp; try (with_reducible rfl))
        (try simp only [List.getElem_toArray, List.getElem_cons_succ, List.getElem_cons_zero])
        (try simp only [Act.put, List.setIfInBounds_toArray, List.set_cons_zero, List.set_cons_succ])
        refine wpAnyH_take (i := 4) (v := ?_) rfl (by kernel_rfl) (by kernel_rfl) (by kernel_rfl) (fun _ _ _ h => h) (Or.inl ⟨by kernel_rfl, ?_⟩) (by assumption) ?_
        rotate_left
        · (intro W hSW; go_simp; try (with_reducible rfl))
        (try simp only [List.getElem_toArray, List.getElem_cons_succ, List.getElem_cons_zero])
        (try simp only [Act.put, List.setIfInBounds_toArray, List.set_cons_zero, List.set_cons_succ])
        refine wpAnyH_take (i := 5) (v := ?_) rfl (by kernel_rfl) (by kernel_rfl) (by kernel_rfl) (fun _ _ _ h => h) (Or.inl ⟨by kernel_rfl, ?_⟩) (by assumption) ?_
        rotate_left
        · (intro W hSW; go_simp; try (with_reducible rfl))
        (try simp only [List.getElem_toArray, List.getElem_cons_succ, List.getElem_cons_zero])
        (try simp only [Act.put, List.setIfInBounds_toArray, List.set_cons_zero, List.set_cons_succ])
        refine wpAnyH_take (i := 6) (v := ?_) rfl (by kernel_rfl) (by kernel_rfl) (by kernel_rfl) (fun _ _ _ h => h) (Or.inl ⟨by rfl, ?_⟩) (by assumption) ?_
        rotate_left
        · (intro W hSW; go_simp; try (with_reducible rfl))
        (try simp only [List.getElem_toArray, List.getElem_cons_succ, List.getElem_cons_zero])
        (try simp only [Act.put, List.setIfInBounds_toArray, List.set_cons_zero, List.set_cons_succ])
        refine wpAnyH_take (i := 7) (v := ?_) rfl (by kernel_rfl) (by kernel_rfl) (by kernel_rfl) (fun _ _ _ h => h) (Or.inl ⟨by rfl, ?_⟩) (by assumption) ?_
        rotate_left
        · (intro W hSW; go_simp; try (with_reducible rfl))
        (try simp only [List.getElem_toArray, List.getElem_cons_succ, List.getElem_cons_zero])
        (try simp only [Act.put, List.setIfInBounds_toArray, List.set_cons_zero, List.set_cons_succ])
        refine wpAnyH_take (i := 8) (v := undef) rfl (by kernel_rfl) (by kernel_rfl) (by kernel_rfl) (fun _ _ _ h => h) (Or.inr ⟨by kernel_rfl, rfl⟩) (by assumption) ?_
        (try simp only [Act.put, List.getElem_toArray, List.getElem_cons_succ, List.getElem_cons_zero, List.setIfInBounds_toArray, List.set_cons_zero, List.set_cons_succ])
        refine wpAnyH_take (i := 9) (v := undef) rfl (by kernel_rfl) (by kernel_rfl) (by kernel_rfl) (fun _ _ _ h => h) (Or.inr ⟨by kernel_rfl, rfl⟩) (by assumption) ?_
        (try simp only [Act.put, List.getElem_toArray, List.getElem_cons_succ, List.getElem_cons_zero, List.setIfInBounds_toArray, List.set_cons_zero, List.set_cons_succ])
        refine wpAnyH_take (i := 10) (v := undef) rfl (by kernel_rfl) (by kernel_rfl) (by kernel_rfl) (fun _ _ _ h => h) (Or.inr ⟨by kernel_rfl, rfl⟩) (by assumption) ?_
        (try simp only [Act.put, List.getElem_toArray, List.getElem_cons_succ, List.getElem_cons_zero, List.setIfInBounds_toArray, List.set_cons_zero, List.set_cons_succ])
        refine wpAnyH_take (i := 11) (v := undef) rfl (by kernel_rfl) (by kernel_rfl) (by kernel_rfl) (fun _ _ _ h => h) (Or.inr ⟨by kernel_rfl, rfl⟩) (by assumption) ?_
        (try simp only [Act.put, List.getElem_toArray, List.getElem_cons_succ, List.getElem_cons_zero, List.setIfInBounds_toArray, List.set_cons_zero, List.set_cons_succ])
        refine wpAnyH_take (i := 12) (v := undef) rfl (by kernel_rfl) (by kernel_rfl) (by kernel_rfl) (fun _ _ _ h => h) (Or.inr ⟨by kernel_rfl, rfl⟩) (by assumption) ?_
        (try simp only [Act.put, List.getElem_toArray, List.getElem_cons_succ, List.getElem_cons_zero, List.setIfInBounds_toArray, List.set_cons_zero, List.set_cons_succ])
        refine wpAnyH_take (i := 13) (v := ?_) rfl (by kernel_rfl) (by kernel_rfl) (by kernel_rfl) (fun _ _ _ h => h) (Or.inl ⟨by rfl, ?_⟩) (by assumption) ?_
        rotate_left
        · (intro W hSW; go_simp; try (with_reducible rfl))
        (try simp only [List.getElem_toArray, List.getElem_cons_succ, List.getElem_cons_zero])
        (try simp only [Act.put, List.setIfInBounds_toArray, List.set_cons_zero, List.set_cons_succ])
        refine wpAnyH_done (by kernel_rfl) ?_ _
        generalize World.drew wr = w5 at *
        have H55 : Hid _ := (hHeld.block _ hz5').trans H5.out
        have HB5 : Hid (Below wo.heap.size wo w5) := HBI.out.trans (hHeld.mono HBI.out.size)
        clear hHeld
        have HWO : Hid (∀ W, Calls Tryd.prog 143 #[.agg (miC ⟨(k : Int), ard, ars1, ars2, aimm⟩).toArray] W fun e w' => e = .returned (.tuple #[.int .i64 (encI ⟨(k : Int), ard, ars1, ars2, aimm⟩), .int .i64 (rvE ⟨(k : Int), ard, ars1, ars2, aimm⟩)]) ∧ Below W.heap.size W w') := fun W => wordOf_any _ (fitsM _ (by dsimp only; omega) (by dsimp only; omega)) (fitsM _ (by dsimp only; omega) (by dsimp only; omega)) (fitsM _ (by dsimp only; omega) (by dsimp only; omega)) (fitsM _ (by dsimp only; omega) (by dsimp only; omega)) W
        have HGK2 : Hid (Good wd k ↔ rvE ⟨(k : Int), ard, ars1, ars2, aimm⟩ = 0 ∧ encI ⟨(k : Int), ard, ars1, ars2, aimm⟩ = wd) := by rw [← HRX.out]; exact HGK.out
        have HGX2 : Hid (Good wd k → decX wd = ⟨(k : Int), ard, ars1, ars2, aimm⟩ ∧ decE wd = 0) := by rw [← HRX.out]; exact HGX.out
        have h6w : w5.heap[w.heap.size]? = some (.cells #[.int .i64 0, .int .i64 0, .int .i64 0, .int .i64 0, .int .i64 0] 151 (0, 0)) := (HB5.out.block _ HZ.out).trans h6r
        have hzw : wo.heap.size < w5.heap.size := World.heap_lt H55.out
        have hbox := H55.out
        by_cases hE : rvE ⟨(k : Int), ard, ars1, ars2, aimm⟩ = 0
        · by_cases hV : encI ⟨(k : Int), ard, ars1, ars2, aimm⟩ = wd
          · obtain ⟨e1, e2⟩ := HGX2.out (HGK2.out.2 ⟨hE, hV⟩)
            have HE1 : Hid _ := e1
            have HE2 : Hid _ := e2
            rw [hE, hV] at HWO
            clear e1 e2 hE hV HGK2 HGX2 HRX
            go_wp2_with (first | (go_at_call 140; refine (gS _).mono ?_; rintro e w' ⟨rfl, hw'⟩; replace hw' := hw'.symm; subst hw') | (refine wpList_load_row rfl 151 (.tmp 5) rfl _ rfl _ _ _ _ (hbox) Tryd.underlying151 rfl infoRv ?_) | (go_at_call 143; refine (HWO.out _).mono ?_; rintro e w6 ⟨rfl, hb6⟩; have h56 : w6.heap[wo.heap.size]? = some (.cells (miC ⟨(k : Int), ard, ars1, ars2, aimm⟩).toArray 151 (0, 0)) := (hb6.block _ (World.heap_lt (hbox))).trans (hbox); have h66 : w6.heap[w.heap.size]? = some (.cells #[.int .i64 0, .int .i64 0, .int .i64 0, .int .i64 0, .int .i64 0] 151 (0, 0)) := (hb6.block _ (World.heap_lt (h6w))).trans (h6w); have HB6 : Hid (Below wo.heap.size wo w6) := HB5.out.trans (hb6.mono (Nat.le_of_lt (World.heap_lt (hbox)))); clear hb6) | (refine wpList_load_row rfl 151 (.tmp 5) rfl _ rfl _ _ _ _ h56 Tryd.underlying151 rfl infoRv ?_) | (refine wpList_store_row rfl _ _ _ rfl _ (miC ⟨(k : Int), ard, ars1, ars2, aimm⟩).toArray rfl rfl _ _ h66 infoRv rfl (miC_one _) ?_))
            try simp only [Exit.inBlock, Exit.then]
            exact bodyPost_ret (results_row_tmpR rfl _ _ w.heap.size 151 (miC ⟨(k : Int), ard, ars1, ars2, aimm⟩).toArray (0, 0) _ rfl (setRow_heap _ _ _ _ _ _ h66) Tryd.underlying151 rfl infoRv) rfl ⟨by rw [HE1.out, HE2.out]; rfl, below_setRowR (HBW.out.trans (HB6.out.mono (by have := HZ.out; omega))) (Nat.le_refl _) _⟩
          · have HNK : Hid (¬ Good wd k) := fun h => hV (HGK2.out.1 h).2
            have hvb : (encI ⟨(k : Int), ard, ars1, ars2, aimm⟩ == wd) = false := beq_eq_false_iff_ne.2 hV
            rw [hE] at HWO
            generalize encI ⟨(k : Int), ard, ars1, ars2, aimm⟩ = V at *
            clear hE hV HGK2 HGX2 HRX
            go_wp2_with (first | (go_at_call 140; refine (gS _).mono ?_; rintro e w' ⟨rfl, hw'⟩; replace hw' := hw'.symm; subst hw') | (refine wpList_load_row rfl 151 (.tmp 5) rfl _ rfl _ _ _ _ (hbox) Tryd.underlying151 rfl infoRv ?_) | (go_at_call 143; refine (HWO.out _).mono ?_; rintro e w6 ⟨rfl, hb6⟩; have h56 : w6.heap[wo.heap.size]? = some (.cells (miC ⟨(k : Int), ard, ars1, ars2, aimm⟩).toArray 151 (0, 0)) := (hb6.block _ (World.heap_lt (hbox))).trans (hbox); have h66 : w6.heap[w.heap.size]? = some (.cells #[.int .i64 0, .int .i64 0, .int .i64 0, .int .i64 0, .int .i64 0] 151 (0, 0)) := (hb6.block _ (World.heap_lt (h6w))).trans (h6w); have HB6 : Hid (Below wo.heap.size wo w6) := HB5.out.trans (hb6.mono (Nat.le_of_lt (World.heap_lt (hbox)))); clear hb6))
            go_roundw
            case rel => exact ⟨k + 1, by omega, by omega, by go_num, fun j a b => by rcases Nat.lt_succ_iff_lt_or_eq.1 b with hl | rfl; exact HALL.out j a hl; exact HNK.out, HBR.out.trans (HB6.out.mono (by have := HZ.out; omega))⟩
            case measure => simp [intOf]; omega
        · have HNK : Hid (¬ Good wd k) := fun h => hE (HGK2.out.1 h).1
          have hvb : (rvE ⟨(k : Int), ard, ars1, ars2, aimm⟩ == 0) = false := beq_eq_false_iff_ne.2 hE
          generalize encI ⟨(k : Int), ard, ars1, ars2, aimm⟩ = V at *
          generalize rvE ⟨(k : Int), ard, ars1, ars2, aimm⟩ = E at *
          clear hE HGK2 HGX2 HRX
          go_wp2_with (first | (go_at_call 140; refine (gS _).mono ?_; rintro e w' ⟨rfl, hw'⟩; replace hw' := hw'.symm; subst hw') | (refine wpList_load_row rfl 151 (.tmp 5) rfl _ rfl _ _ _ _ (hbox) Tryd.underlying151 rfl infoRv ?_) | (go_at_call 143; refine (HWO.out _).mono ?_; rintro e w6 ⟨rfl, hb6⟩; have h56 : w6.heap[wo.heap.size]? = some (.cells (miC ⟨(k : Int), ard, ars1, ars2, aimm⟩).toArray 151 (0, 0)) := (hb6.block _ (World.heap_lt (hbox))).trans (hbox); have h66 : w6.heap[w.heap.size]? = some (.cells #[.int .i64 0, .int .i64 0, .int .i64 0, .int .i64 0, .int .i64 0] 151 (0, 0)) := (hb6.block _ (World.heap_lt (h6w))).trans (h6w); have HB6 : Hid (Below wo.heap.size wo w6) := HB5.out.trans (hb6.mono (Nat.le_of_lt (World.heap_lt (hbox)))); clear hb6))
          go_roundw
          case rel => exact ⟨k + 1, by omega, by omega, by go_num, fun j a b => by rcases Nat.lt_succ_iff_lt_or_eq.1 b with hl | rfl; exact HALL.out j a hl; exact HNK.out, HBR.out.trans (HB6.out.mono (by have := HZ.out; omega))⟩
          case measure => simp [intOf]; omega
      · -- C, D
        obtain ⟨tn, rfl⟩ := Int.eq_ofNat_of_zero_le ht
        have htn : tn ≤ 20 := by omega
        have G1 : Hid (∀ W, Calls Tryd.prog 142 #[.int .i64 (tn : Int)] W fun e w' => e = .returned (.int .i64 (2 ^ tn)) ∧ w' = W) := fun W => oneBitR_any tn W htn
        have hpb := bitmul 1 tn (by decide) (by decide) htn
        rw [Int.one_mul] at hpb
        simp only [Int.toNat_natCast] at HRE
        have s2 : ((s : Int) != 2) = true := by simp; omega
        have s7 : ((s : Int) == 7) = false := by rw [beq_eq_false_iff_ne]; omega
        generalize (2 : Int) ^ tn = P2 at *
        have ci : wr.cell? ⟨wo.heap.size, 4, none⟩ = some (.int .i64 aimm) := by rw [cell_of_row _ _ _ _ _ _ H5.out]; rfl
        by_cases hc : P2 ≤ aimm
        · -- D
          have HRX : Hid (refX s k wd = ⟨(k : Int), ard, ars1, ars2, aimm - 2 * P2⟩) := HRE.out _ (Or.inr ⟨h7, by rw [if_pos ⟨h2, by omega, hc⟩]⟩)
          have hcb : decide (P2 ≤ aimm) = true := decide_eq_true hc
          obtain ⟨hw1, hw2⟩ := wrapJ (2 * P2) (by omega) (by omega)
          obtain ⟨hw3, hw4⟩ := wrapJ (aimm - 2 * P2) (by omega) (by omega)
          clear HRE HTN H7T h7 h2
          go_wp2_with fail
          refine wp_region_held_drew (S := fun W => Below wr.heap.size wr W) (by kernel_rfl) ((Below.refl _ _).drew) (fun hHeld => ?_)
          show wpAnyH _ _ _ _ _ 14 _ _ _
          refine wpAnyH_take (i := 0) (v := ?_) rfl (by kernel_rfl) (by kernel_rfl) (by kernel_rfl) (fun _ _ _ h => h) (Or.inl ⟨by rfl, ?_⟩) (by assumption) ?_
          rotate_left
          · (intro W hSW; go_simp; try (with_reducible rfl))
          (try simp only [List.getElem_toArray, List.getElem_cons_zero])
          (try simp only [Act.put, List.setIfInBounds_toArray, List.set_cons_zero, List.set_cons_succ])
          refine wpAnyH_ready (rs := [1]) (by kernel_rfl) (by simp) ?_
          refine AllReadyH.cons rfl (fun K hK => ?_) AllReadyH.nil
          go_simp
          go_at_call 140
          refine (gS _).mono ?_
          rintro e w4 ⟨rfl, rfl⟩
          dsimp only
          refine hK.out _ _ (hHeld) (fun _ => ?_)
          clear hK K
          (try simp only [Act.put, List.setIfInBounds_toArray, List.set_cons_zero, List.set_cons_succ])
          refine wpAnyH_take (i := 2) (v := ?_) rfl (by kernel_rfl) (by kernel_rfl) (by kernel_rfl) (fun _ _ _ h => h) (Or.inl ⟨by rfl, ?_⟩) (by assumption) ?_
          rotate_left
          · (intro W hSW; go_simp; try (with_reducible rfl))
          (try simp only [List.getElem_toArray, List.getElem_cons_succ, List.getElem_cons_zero])
          (try simp only [Act.put, List.setIfInBounds_toArray, List.set_cons_zero, List.set_cons_succ])
          refine wpAnyH_take (i := 3) (v := ?_) rfl (by kernel_rfl) (by kernel_rfl) (by kernel_rfl) (fun _ _ _ h => h) (Or.inl ⟨by rfl, ?_⟩) (by assumption) ?_
          rotate_left
          · (intro W hSW; go_simp; try (with_reducible rfl))
          (try simp only [List.getElem_toArray, List.getElem_cons_succ, List.getElem_cons_zero])
          (try simp only [Act.put, List.setIfInBounds_toArray, List.set_cons_zero, List.set_cons_succ])
          refine wpAnyH_take (i := 4) (v := ?_) rfl (by kernel_rfl) (by kernel_rfl) (by kernel_rfl) (fun _ _ _ h => h) (Or.inl ⟨by kernel_rfl, ?_⟩) (by assumption) ?_
          rotate_left
          · (intro W hSW; go_simp; try (with_reducible rfl))
          (try simp only [List.getElem_toArray, List.getElem_cons_succ, List.getElem_cons_zero])
          (try simp only [Act.put, List.setIfInBounds_toArray, List.set_cons_zero, List.set_cons_succ])
          refine wpAnyH_take (i := 5) (v := ?_) rfl (by kernel_rfl) (by kernel_rfl) (by kernel_rfl) (fun _ _ _ h => h) (Or.inl ⟨by kernel_rfl, ?_⟩) (by assumption) ?_
          rotate_left
          · (intro W hSW; go_simp; try (with_reducible rfl))
          (try simp only [List.getElem_toArray, List.getElem_cons_succ, List.getElem_cons_zero])
          (try simp only [Act.put, List.setIfInBounds_toArray, List.set_cons_zero, List.set_cons_succ])
          refine wpAnyH_take (i := 6) (v := ?_) rfl (by kernel_rfl) (by kernel_rfl) (by kernel_rfl) (fun _ _ _ h => h) (Or.inl ⟨by rfl, ?_⟩) (by assumption) ?_
          rotate_left
          · (intro W hSW; go_simp; try (with_reducible rfl))
          (try simp only [List.getElem_toArray, List.getElem_cons_succ, List.getElem_cons_zero])
          (try simp only [Act.put, List.setIfInBounds_toArray, List.set_cons_zero, List.set_cons_succ])
          refine wpAnyH_take (i := 7) (v := ?_) rfl (by kernel_rfl) (by kernel_rfl) (by kernel_rfl) (fun _ _ _ h => h) (Or.inl ⟨by rfl, ?_⟩) (by assumption) ?_
          rotate_left
          · (intro W hSW; go_simp; try (with_reducible rfl))
          (try simp only [List.getElem_toArray, List.getElem_cons_succ, List.getElem_cons_zero])
          (try simp only [Act.put, List.setIfInBounds_toArray, List.set_cons_zero, List.set_cons_succ])
          refine wpAnyH_take (i := 8) (v := ?_) rfl (by kernel_rfl) (by kernel_rfl) (by kernel_rfl) (fun _ _ _ h => h) (Or.inl ⟨by kernel_rfl, ?_⟩) (by assumption) ?_
          rotate_left
          · (intro W hSW; go_simp; try (with_reducible rfl))
          (try simp only [List.getElem_toArray, List.getElem_cons_succ, List.getElem_cons_zero])
          (try simp only [Act.put, List.setIfInBounds_toArray, List.set_cons_zero, List.set_cons_succ])
          refine wpAnyH_take (i := 9) (v := ?_) rfl (by kernel_rfl) (by kernel_rfl) (by kernel_rfl) (fun _ _ _ h => h) (Or.inl ⟨by kernel_rfl, ?_⟩) (by assumption) ?_
          rotate_left
          · (intro W hSW; have z0 := keeps_below hSW _ _ ci; go_simp; try (with_reducible rfl))
          (try simp only [List.getElem_toArray, List.getElem_cons_succ, List.getElem_cons_zero])
          (try simp only [Act.put, List.setIfInBounds_toArray, List.set_cons_zero, List.set_cons_succ])
          refine wpAnyH_take (i := 10) (v := ?_) rfl (by kernel_rfl) (by kernel_rfl) (by kernel_rfl) (fun _ _ _ h => h) (Or.inl ⟨by kernel_rfl, ?_⟩) (by assumption) ?_
          rotate_left
          · (intro W hSW; go_simp; try (with_reducible rfl))
          (try simp only [List.getElem_toArray, List.getElem_cons_succ, List.getElem_cons_zero])
          (try simp only [Act.put, List.setIfInBounds_toArray, List.set_cons_zero, List.set_cons_succ])
          refine wpAnyH_ready (rs := [11]) (by kernel_rfl) (by simp) ?_
          refine AllReadyH.cons rfl (fun K hK => ?_) AllReadyH.nil
          go_simp
          go_at_call 142
          refine (G1.out _).mono ?_
          rintro e w4 ⟨rfl, rfl⟩
          dsimp only
          refine hK.out _ _ (hHeld) (fun _ => ?_)
          clear hK K
          (try simp only [Act.put, List.setIfInBounds_toArray, List.set_cons_zero, List.set_cons_succ])
          refine wpAnyH_take (i := 12) (v := ?_) rfl (by kernel_rfl) (by kernel_rfl) (by kernel_rfl) (fun _ _ _ h => h) (Or.inl ⟨by kernel_rfl, ?_⟩) (by assumption) ?_
          rotate_left
          · (intro W hSW; go_simp; try (with_reducible rfl))
          (try simp only [List.getElem_toArray, List.getElem_cons_succ, List.getElem_cons_zero])
          (try simp only [Act.put, List.setIfInBounds_toArray, List.set_cons_zero, List.set_cons_succ])
          refine wpAnyH_take (i := 13) (v := ?_) rfl (by kernel_rfl) (by kernel_rfl) (by kernel_rfl) (fun _ _ _ h => h) (Or.inl ⟨by rfl, ?_⟩) (by assumption) ?_
          rotate_left
          · (intro W hSW; go_simp; try (with_reducible rfl))
          (try simp only [List.getElem_toArray, List.getElem_cons_succ, List.getElem_cons_zero])
          (try simp only [Act.put, List.setIfInBounds_toArray, List.set_cons_zero, List.set_cons_succ])
          refine wpAnyH_done (by kernel_rfl) ?_ _
          generalize World.drew wr = w5 at *
          have H55 : Hid _ := (hHeld.block _ hz5').trans H5.out
          have HB5 : Hid (Below wo.heap.size wo w5) := HBI.out.trans (hHeld.mono HBI.out.size)
          clear hHeld
          have cv : w5.cell? ⟨wo.heap.size, 4, none⟩ = some (.int .i64 aimm) := by rw [cell_of_row _ _ _ _ _ _ H55.out]; rfl
          have fv : w5.frozen? ⟨wo.heap.size, 4, none⟩ = false := frozen_of_row _ _ _ _ _ H55.out
          clear ci
          go_wp2_with fail
          refine wp_region_last (S := fun W => Below w5.heap.size w5 W) _ 7 (by kernel_rfl) (by kernel_rfl) rfl ((Below.refl _ _).drew) (fun hHeld => ?_)
          simp only [List.pop_toArray, List.dropLast]
          refine wpAnyH_take (i := 0) (v := ?_) rfl (by kernel_rfl) (by kernel_rfl) (by kernel_rfl) (fun _ _ _ h => h) (Or.inl ⟨by rfl, ?_⟩) (by assumption) ?_
          rotate_left
          · (intro W hSW; go_simp; try (with_reducible rfl))
          (try simp only [List.getElem_toArray, List.getElem_cons_succ, List.getElem_cons_zero])
          (try simp only [Act.put, List.setIfInBounds_toArray, List.set_cons_zero, List.set_cons_succ])
          refine wpAnyH_take (i := 1) (v := ?_) rfl (by kernel_rfl) (by kernel_rfl) (by kernel_rfl) (fun _ _ _ h => h) (Or.inl ⟨by rfl, ?_⟩) (by assumption) ?_
          rotate_left
          · (intro W hSW; have z0 := keeps_below hSW _ _ cv; go_simp; try (with_reducible rfl))
          (try simp only [List.getElem_toArray, List.getElem_cons_succ, List.getElem_cons_zero])
          (try simp only [Act.put, List.setIfInBounds_toArray, List.set_cons_zero, List.set_cons_succ])
          refine wpAnyH_take (i := 2) (v := ?_) rfl (by kernel_rfl) (by kernel_rfl) (by kernel_rfl) (fun _ _ _ h => h) (Or.inl ⟨by rfl, ?_⟩) (by assumption) ?_
          rotate_left
          · (intro W hSW; go_simp; try (with_reducible rfl))
          (try simp only [List.getElem_toArray, List.getElem_cons_succ, List.getElem_cons_zero])
          (try simp only [Act.put, List.setIfInBounds_toArray, List.set_cons_zero, List.set_cons_succ])
          refine wpAnyH_ready (rs := [3]) (by kernel_rfl) (by simp) ?_
          refine AllReadyH.cons rfl (fun K hK => ?_) AllReadyH.nil
          go_simp
          go_at_call 142
          refine (G1.out _).mono ?_
          rintro e w4 ⟨rfl, rfl⟩
          dsimp only
          refine hK.out _ _ (hHeld) (fun _ => ?_)
          clear hK K
          (try simp only [Act.put, List.setIfInBounds_toArray, List.set_cons_zero, List.set_cons_succ])
          refine wpAnyH_take (i := 4) (v := ?_) rfl (by kernel_rfl) (by kernel_rfl) (by kernel_rfl) (fun _ _ _ h => h) (Or.inl ⟨by rfl, ?_⟩) (by assumption) ?_
          rotate_left
          · (intro W hSW; go_simp; try (with_reducible rfl))
          (try simp only [List.getElem_toArray, List.getElem_cons_succ, List.getElem_cons_zero])
          (try simp only [Act.put, List.setIfInBounds_toArray, List.set_cons_zero, List.set_cons_succ])
          refine wpAnyH_take (i := 5) (v := ?_) rfl (by kernel_rfl) (by kernel_rfl) (by kernel_rfl) (fun _ _ _ h => h) (Or.inl ⟨by rfl, ?_⟩) (by assumption) ?_
          rotate_left
          · (intro W hSW; go_simp; try (with_reducible rfl))
          (try simp only [List.getElem_toArray, List.getElem_cons_succ, List.getElem_cons_zero])
          (try simp only [Act.put, List.setIfInBounds_toArray, List.set_cons_zero, List.set_cons_succ])
          refine wpAnyH_take (i := 6) (v := ?_) rfl (by kernel_rfl) (by kernel_rfl) (by kernel_rfl) (fun _ _ _ h => h) (Or.inl ⟨by rfl, ?_⟩) (by assumption) ?_
          rotate_left
          · (intro W hSW; go_simp; try (with_reducible rfl))
          (try simp only [List.getElem_toArray, List.getElem_cons_succ, List.getElem_cons_zero])
          (try simp only [Act.put, List.setIfInBounds_toArray, List.set_cons_zero, List.set_cons_succ])
          refine wpAnyH_done (by kernel_rfl) ?_ _
          refine Or.inl ?_
          have cv8 : w5.drew.cell? ⟨wo.heap.size, 4, none⟩ = some (.int .i64 aimm) := cv
          have fv8 : w5.drew.frozen? ⟨wo.heap.size, 4, none⟩ = false := fv
          have H58 : Hid ((w5.drew.setCell ⟨wo.heap.size, 4, none⟩ (.int .i64 (aimm - 2 * P2))).heap[wo.heap.size]? = some (.cells (miC ⟨(k : Int), ard, ars1, ars2, aimm - 2 * P2⟩).toArray 151 (0, 0))) := setCell_row H55.out rfl
          have HB8 : Hid (Below wo.heap.size wo (w5.drew.setCell ⟨wo.heap.size, 4, none⟩ (.int .i64 (aimm - 2 * P2)))) := HB5.out.drew.setCell (Nat.le_refl _) _
          clear hHeld cv fv
          go_simp
          go_upto_region 29 with fail
          rw [show (w5.setCell ⟨wo.heap.size, 4, none⟩ (.int .i64 (aimm - 2 * P2))).drew = (w5.drew.setCell ⟨wo.heap.size, 4, none⟩ (.int .i64 (aimm - 2 * P2))) from rfl]
          generalize (w5.drew.setCell ⟨wo.heap.size, 4, none⟩ (.int .i64 (aimm - 2 * P2))) = w8 at *
          clear cv8 fv8
          have HWO : Hid (∀ W, Calls Tryd.prog 143 #[.agg (miC ⟨(k : Int), ard, ars1, ars2, aimm - 2 * P2⟩).toArray] W fun e w' => e = .returned (.tuple #[.int .i64 (encI ⟨(k : Int), ard, ars1, ars2, aimm - 2 * P2⟩), .int .i64 (rvE ⟨(k : Int), ard, ars1, ars2, aimm - 2 * P2⟩)]) ∧ Below W.heap.size W w') := fun W => wordOf_any _ (fitsM _ (by dsimp only; omega) (by dsimp only; omega)) (fitsM _ (by dsimp only; omega) (by dsimp only; omega)) (fitsM _ (by dsimp only; omega) (by dsimp only; omega)) (fitsM _ (by dsimp only; omega) (by dsimp only; omega)) W
          have HGK2 : Hid (Good wd k ↔ rvE ⟨(k : Int), ard, ars1, ars2, aimm - 2 * P2⟩ = 0 ∧ encI ⟨(k : Int), ard, ars1, ars2, aimm - 2 * P2⟩ = wd) := by rw [← HRX.out]; exact HGK.out
          have HGX2 : Hid (Good wd k → decX wd = ⟨(k : Int), ard, ars1, ars2, aimm - 2 * P2⟩ ∧ decE wd = 0) := by rw [← HRX.out]; exact HGX.out
          have h6w : w8.heap[w.heap.size]? = some (.cells #[.int .i64 0, .int .i64 0, .int .i64 0, .int .i64 0, .int .i64 0] 151 (0, 0)) := (HB8.out.block _ HZ.out).trans h6r
          have hzw : wo.heap.size < w8.heap.size := World.heap_lt H58.out
          have hbox := H58.out
          by_cases hE : rvE ⟨(k : Int), ard, ars1, ars2, aimm - 2 * P2⟩ = 0
          · by_cases hV : encI ⟨(k : Int), ard, ars1, ars2, aimm - 2 * P2⟩ = wd
            · obtain ⟨e1, e2⟩ := HGX2.out (HGK2.out.2 ⟨hE, hV⟩)
              have HE1 : Hid _ := e1
              have HE2 : Hid _ := e2
              rw [hE, hV] at HWO
              clear e1 e2 hE hV HGK2 HGX2 HRX
              go_wp2_with (first | (go_at_call 140; refine (gS _).mono ?_; rintro e w' ⟨rfl, hw'⟩; replace hw' := hw'.symm; subst hw') | (refine wpList_load_row rfl 151 (.tmp 5) rfl _ rfl _ _ _ _ (hbox) Tryd.underlying151 rfl infoRv ?_) | (go_at_call 143; refine (HWO.out _).mono ?_; rintro e w6 ⟨rfl, hb6⟩; have h56 : w6.heap[wo.heap.size]? = some (.cells (miC ⟨(k : Int), ard, ars1, ars2, aimm - 2 * P2⟩).toArray 151 (0, 0)) := (hb6.block _ (World.heap_lt (hbox))).trans (hbox); have h66 : w6.heap[w.heap.size]? = some (.cells #[.int .i64 0, .int .i64 0, .int .i64 0, .int .i64 0, .int .i64 0] 151 (0, 0)) := (hb6.block _ (World.heap_lt (h6w))).trans (h6w); have HB6 : Hid (Below wo.heap.size wo w6) := HB8.out.trans (hb6.mono (Nat.le_of_lt (World.heap_lt (hbox)))); clear hb6) | (refine wpList_load_row rfl 151 (.tmp 5) rfl _ rfl _ _ _ _ h56 Tryd.underlying151 rfl infoRv ?_) | (refine wpList_store_row rfl _ _ _ rfl _ (miC ⟨(k : Int), ard, ars1, ars2, aimm - 2 * P2⟩).toArray rfl rfl _ _ h66 infoRv rfl (miC_one _) ?_))
              try simp only [Exit.inBlock, Exit.then]
              exact bodyPost_ret (results_row_tmpR rfl _ _ w.heap.size 151 (miC ⟨(k : Int), ard, ars1, ars2, aimm - 2 * P2⟩).toArray (0, 0) _ rfl (setRow_heap _ _ _ _ _ _ h66) Tryd.underlying151 rfl infoRv) rfl ⟨by rw [HE1.out, HE2.out]; rfl, below_setRowR (HBW.out.trans (HB6.out.mono (by have := HZ.out; omega))) (Nat.le_refl _) _⟩
            · have HNK : Hid (¬ Good wd k) := fun h => hV (HGK2.out.1 h).2
              have hvb : (encI ⟨(k : Int), ard, ars1, ars2, aimm - 2 * P2⟩ == wd) = false := beq_eq_false_iff_ne.2 hV
              rw [hE] at HWO
              generalize encI ⟨(k : Int), ard, ars1, ars2, aimm - 2 * P2⟩ = V at *
              clear hE hV HGK2 HGX2 HRX
              go_wp2_with (first | (go_at_call 140; refine (gS _).mono ?_; rintro e w' ⟨rfl, hw'⟩; replace hw' := hw'.symm; subst hw') | (refine wpList_load_row rfl 151 (.tmp 5) rfl _ rfl _ _ _ _ (hbox) Tryd.underlying151 rfl infoRv ?_) | (go_at_call 143; refine (HWO.out _).mono ?_; rintro e w6 ⟨rfl, hb6⟩; have h56 : w6.heap[wo.heap.size]? = some (.cells (miC ⟨(k : Int), ard, ars1, ars2, aimm - 2 * P2⟩).toArray 151 (0, 0)) := (hb6.block _ (World.heap_lt (hbox))).trans (hbox); have h66 : w6.heap[w.heap.size]? = some (.cells #[.int .i64 0, .int .i64 0, .int .i64 0, .int .i64 0, .int .i64 0] 151 (0, 0)) := (hb6.block _ (World.heap_lt (h6w))).trans (h6w); have HB6 : Hid (Below wo.heap.size wo w6) := HB8.out.trans (hb6.mono (Nat.le_of_lt (World.heap_lt (hbox)))); clear hb6))
              go_roundw
              case rel => exact ⟨k + 1, by omega, by omega, by go_num, fun j a b => by rcases Nat.lt_succ_iff_lt_or_eq.1 b with hl | rfl; exact HALL.out j a hl; exact HNK.out, HBR.out.trans (HB6.out.mono (by have := HZ.out; omega))⟩
              case measure => simp [intOf]; omega
          · have HNK : Hid (¬ Good wd k) := fun h => hE (HGK2.out.1 h).1
            have hvb : (rvE ⟨(k : Int), ard, ars1, ars2, aimm - 2 * P2⟩ == 0) = false := beq_eq_false_iff_ne.2 hE
            generalize encI ⟨(k : Int), ard, ars1, ars2, aimm - 2 * P2⟩ = V at *
            generalize rvE ⟨(k : Int), ard, ars1, ars2, aimm - 2 * P2⟩ = E at *
            clear hE HGK2 HGX2 HRX
            go_wp2_with (first | (go_at_call 140; refine (gS _).mono ?_; rintro e w' ⟨rfl, hw'⟩; replace hw' := hw'.symm; subst hw') | (refine wpList_load_row rfl 151 (.tmp 5) rfl _ rfl _ _ _ _ (hbox) Tryd.underlying151 rfl infoRv ?_) | (go_at_call 143; refine (HWO.out _).mono ?_; rintro e w6 ⟨rfl, hb6⟩; have h56 : w6.heap[wo.heap.size]? = some (.cells (miC ⟨(k : Int), ard, ars1, ars2, aimm - 2 * P2⟩).toArray 151 (0, 0)) := (hb6.block _ (World.heap_lt (hbox))).trans (hbox); have h66 : w6.heap[w.heap.size]? = some (.cells #[.int .i64 0, .int .i64 0, .int .i64 0, .int .i64 0, .int .i64 0] 151 (0, 0)) := (hb6.block _ (World.heap_lt (h6w))).trans (h6w); have HB6 : Hid (Below wo.heap.size wo w6) := HB8.out.trans (hb6.mono (Nat.le_of_lt (World.heap_lt (hbox)))); clear hb6))
            go_roundw
            case rel => exact ⟨k + 1, by omega, by omega, by go_num, fun j a b => by rcases Nat.lt_succ_iff_lt_or_eq.1 b with hl | rfl; exact HALL.out j a hl; exact HNK.out, HBR.out.trans (HB6.out.mono (by have := HZ.out; omega))⟩
            case measure => simp [intOf]; omega
        · -- C
          have HRX : Hid (refX s k wd = ⟨(k : Int), ard, ars1, ars2, aimm⟩) := HRE.out _ (Or.inr ⟨h7, by rw [if_neg (fun h => hc h.2.2)]⟩)
          have hcb : decide (P2 ≤ aimm) = false := decide_eq_false hc
          clear HRE HTN H7T h7 h2
          go_wp2_with fail
          refine wp_region_held_drew (S := fun W => Below wr.heap.size wr W) (by kernel_rfl) ((Below.refl _ _).drew) (fun hHeld => ?_)
          show wpAnyH _ _ _ _ _ 14 _ _ _
          refine wpAnyH_take (i := 0) (v := ?_) rfl (by kernel_rfl) (by kernel_rfl) (by kernel_rfl) (fun _ _ _ h => h) (Or.inl ⟨by rfl, ?_⟩) (by assumption) ?_
          rotate_left
          · (intro W hSW; go_simp; try (with_reducible rfl))
          (try simp only [List.getElem_toArray, List.getElem_cons_zero])
          (try simp only [Act.put, List.setIfInBounds_toArray, List.set_cons_zero, List.set_cons_succ])
          refine wpAnyH_ready (rs := [1]) (by kernel_rfl) (by simp) ?_
          refine AllReadyH.cons rfl (fun K hK => ?_) AllReadyH.nil
          go_simp
          go_at_call 140
          refine (gS _).mono ?_
          rintro e w4 ⟨rfl, rfl⟩
          dsimp only
          refine hK.out _ _ (hHeld) (fun _ => ?_)
          clear hK K
          (try simp only [Act.put, List.setIfInBounds_toArray, List.set_cons_zero, List.set_cons_succ])
          refine wpAnyH_take (i := 2) (v := ?_) rfl (by kernel_rfl) (by kernel_rfl) (by kernel_rfl) (fun _ _ _ h => h) (Or.inl ⟨by rfl, ?_⟩) (by assumption) ?_
          rotate_left
          · (intro W hSW; go_simp; try (with_reducible rfl))
          (try simp only [List.getElem_toArray, List.getElem_cons_succ, List.getElem_cons_zero])
          (try simp only [Act.put, List.setIfInBounds_toArray, List.set_cons_zero, List.set_cons_succ])
          refine wpAnyH_take (i := 3) (v := ?_) rfl (by kernel_rfl) (by kernel_rfl) (by kernel_rfl) (fun _ _ _ h => h) (Or.inl ⟨by rfl, ?_⟩) (by assumption) ?_
          rotate_left
          · (intro W hSW; go_simp; try (with_reducible rfl))
          (try simp only [List.getElem_toArray, List.getElem_cons_succ, List.getElem_cons_zero])
          (try simp only [Act.put, List.setIfInBounds_toArray, List.set_cons_zero, List.set_cons_succ])
          refine wpAnyH_take (i := 4) (v := ?_) rfl (by kernel_rfl) (by kernel_rfl) (by kernel_rfl) (fun _ _ _ h => h) (Or.inl ⟨by kernel_rfl, ?_⟩) (by assumption) ?_
          rotate_left
          · (intro W hSW; go_simp; try (with_reducible rfl))
          (try simp only [List.getElem_toArray, List.getElem_cons_succ, List.getElem_cons_zero])
          (try simp only [Act.put, List.setIfInBounds_toArray, List.set_cons_zero, List.set_cons_succ])
          refine wpAnyH_take (i := 5) (v := ?_) rfl (by kernel_rfl) (by kernel_rfl) (by kernel_rfl) (fun _ _ _ h => h) (Or.inl ⟨by kernel_rfl, ?_⟩) (by assumption) ?_
          rotate_left
          · (intro W hSW; go_simp; try (with_reducible rfl))
          (try simp only [List.getElem_toArray, List.getElem_cons_succ, List.getElem_cons_zero])
          (try simp only [Act.put, List.setIfInBounds_toArray, List.set_cons_zero, List.set_cons_succ])
          refine wpAnyH_take (i := 6) (v := ?_) rfl (by kernel_rfl) (by kernel_rfl) (by kernel_rfl) (fun _ _ _ h => h) (Or.inl ⟨by rfl, ?_⟩) (by assumption) ?_
          rotate_left
          · (intro W hSW; go_simp; try (with_reducible rfl))
          (try simp only [List.getElem_toArray, List.getElem_cons_succ, List.getElem_cons_zero])
          (try simp only [Act.put, List.setIfInBounds_toArray, List.set_cons_zero, List.set_cons_succ])
          refine wpAnyH_take (i := 7) (v := ?_) rfl (by kernel_rfl) (by kernel_rfl) (by kernel_rfl) (fun _ _ _ h => h) (Or.inl ⟨by rfl, ?_⟩) (by assumption) ?_
          rotate_left
          · (intro W hSW; go_simp; try (with_reducible rfl))
          (try simp only [List.getElem_toArray, List.getElem_cons_succ, List.getElem_cons_zero])
          (try simp only [Act.put, List.setIfInBounds_toArray, List.set_cons_zero, List.set_cons_succ])
          refine wpAnyH_take (i := 8) (v := ?_) rfl (by kernel_rfl) (by kernel_rfl) (by kernel_rfl) (fun _ _ _ h => h) (Or.inl ⟨by kernel_rfl, ?_⟩) (by assumption) ?_
          rotate_left
          · (intro W hSW; go_simp; try (with_reducible rfl))
          (try simp only [List.getElem_toArray, List.getElem_cons_succ, List.getElem_cons_zero])
          (try simp only [Act.put, List.setIfInBounds_toArray, List.set_cons_zero, List.set_cons_succ])
          refine wpAnyH_take (i := 9) (v := ?_) rfl (by kernel_rfl) (by kernel_rfl) (by kernel_rfl) (fun _ _ _ h => h) (Or.inl ⟨by kernel_rfl, ?_⟩) (by assumption) ?_
          rotate_left
          · (intro W hSW; have z0 := keeps_below hSW _ _ ci; go_simp; try (with_reducible rfl))
          (try simp only [List.getElem_toArray, List.getElem_cons_succ, List.getElem_cons_zero])
          (try simp only [Act.put, List.setIfInBounds_toArray, List.set_cons_zero, List.set_cons_succ])
          refine wpAnyH_take (i := 10) (v := ?_) rfl (by kernel_rfl) (by kernel_rfl) (by kernel_rfl) (fun _ _ _ h => h) (Or.inl ⟨by kernel_rfl, ?_⟩) (by assumption) ?_
          rotate_left
          · (intro W hSW; go_simp; try (with_reducible rfl))
          (try simp only [List.getElem_toArray, List.getElem_cons_succ, List.getElem_cons_zero])
          (try simp only [Act.put, List.setIfInBounds_toArray, List.set_cons_zero, List.set_cons_succ])
          refine wpAnyH_ready (rs := [11]) (by kernel_rfl) (by simp) ?_
          refine AllReadyH.cons rfl (fun K hK => ?_) AllReadyH.nil
          go_simp
          go_at_call 142
          refine (G1.out _).mono ?_
          rintro e w4 ⟨rfl, rfl⟩
          dsimp only
          refine hK.out _ _ (hHeld) (fun _ => ?_)
          clear hK K
          (try simp only [Act.put, List.setIfInBounds_toArray, List.set_cons_zero, List.set_cons_succ])
          refine wpAnyH_take (i := 12) (v := ?_) rfl (by kernel_rfl) (by kernel_rfl) (by kernel_rfl) (fun _ _ _ h => h) (Or.inl ⟨by kernel_rfl, ?_⟩) (by assumption) ?_
          rotate_left
          · (intro W hSW; go_simp; try (with_reducible rfl))
          (try simp only [List.getElem_toArray, List.getElem_cons_succ, List.getElem_cons_zero])
          (try simp only [Act.put, List.setIfInBounds_toArray, List.set_cons_zero, List.set_cons_succ])
          refine wpAnyH_take (i := 13) (v := ?_) rfl (by kernel_rfl) (by kernel_rfl) (by kernel_rfl) (fun _ _ _ h => h) (Or.inl ⟨by rfl, ?_⟩) (by assumption) ?_
          rotate_left
          · (intro W hSW; go_simp; try (with_reducible rfl))
          (try simp only [List.getElem_toArray, List.getElem_cons_succ, List.getElem_cons_zero])
          (try simp only [Act.put, List.setIfInBounds_toArray, List.set_cons_zero, List.set_cons_succ])
          refine wpAnyH_done (by kernel_rfl) ?_ _
          generalize World.drew wr = w5 at *
          have H55 : Hid _ := (hHeld.block _ hz5').trans H5.out
          have HB5 : Hid (Below wo.heap.size wo w5) := HBI.out.trans (hHeld.mono HBI.out.size)
          clear hHeld
          have HWO : Hid (∀ W, Calls Tryd.prog 143 #[.agg (miC ⟨(k : Int), ard, ars1, ars2, aimm⟩).toArray] W fun e w' => e = .returned (.tuple #[.int .i64 (encI ⟨(k : Int), ard, ars1, ars2, aimm⟩), .int .i64 (rvE ⟨(k : Int), ard, ars1, ars2, aimm⟩)]) ∧ Below W.heap.size W w') := fun W => wordOf_any _ (fitsM _ (by dsimp only; omega) (by dsimp only; omega)) (fitsM _ (by dsimp only; omega) (by dsimp only; omega)) (fitsM _ (by dsimp only; omega) (by dsimp only; omega)) (fitsM _ (by dsimp only; omega) (by dsimp only; omega)) W
          have HGK2 : Hid (Good wd k ↔ rvE ⟨(k : Int), ard, ars1, ars2, aimm⟩ = 0 ∧ encI ⟨(k : Int), ard, ars1, ars2, aimm⟩ = wd) := by rw [← HRX.out]; exact HGK.out
          have HGX2 : Hid (Good wd k → decX wd = ⟨(k : Int), ard, ars1, ars2, aimm⟩ ∧ decE wd = 0) := by rw [← HRX.out]; exact HGX.out
          have h6w : w5.heap[w.heap.size]? = some (.cells #[.int .i64 0, .int .i64 0, .int .i64 0, .int .i64 0, .int .i64 0] 151 (0, 0)) := (HB5.out.block _ HZ.out).trans h6r
          have hzw : wo.heap.size < w5.heap.size := World.heap_lt H55.out
          have hbox := H55.out
          by_cases hE : rvE ⟨(k : Int), ard, ars1, ars2, aimm⟩ = 0
          · by_cases hV : encI ⟨(k : Int), ard, ars1, ars2, aimm⟩ = wd
            · obtain ⟨e1, e2⟩ := HGX2.out (HGK2.out.2 ⟨hE, hV⟩)
              have HE1 : Hid _ := e1
              have HE2 : Hid _ := e2
              rw [hE, hV] at HWO
              clear e1 e2 hE hV HGK2 HGX2 HRX
              go_wp2_with (first | (go_at_call 140; refine (gS _).mono ?_; rintro e w' ⟨rfl, hw'⟩; replace hw' := hw'.symm; subst hw') | (refine wpList_load_row rfl 151 (.tmp 5) rfl _ rfl _ _ _ _ (hbox) Tryd.underlying151 rfl infoRv ?_) | (go_at_call 143; refine (HWO.out _).mono ?_; rintro e w6 ⟨rfl, hb6⟩; have h56 : w6.heap[wo.heap.size]? = some (.cells (miC ⟨(k : Int), ard, ars1, ars2, aimm⟩).toArray 151 (0, 0)) := (hb6.block _ (World.heap_lt (hbox))).trans (hbox); have h66 : w6.heap[w.heap.size]? = some (.cells #[.int .i64 0, .int .i64 0, .int .i64 0, .int .i64 0, .int .i64 0] 151 (0, 0)) := (hb6.block _ (World.heap_lt (h6w))).trans (h6w); have HB6 : Hid (Below wo.heap.size wo w6) := HB5.out.trans (hb6.mono (Nat.le_of_lt (World.heap_lt (hbox)))); clear hb6) | (refine wpList_load_row rfl 151 (.tmp 5) rfl _ rfl _ _ _ _ h56 Tryd.underlying151 rfl infoRv ?_) | (refine wpList_store_row rfl _ _ _ rfl _ (miC ⟨(k : Int), ard, ars1, ars2, aimm⟩).toArray rfl rfl _ _ h66 infoRv rfl (miC_one _) ?_))
              try simp only [Exit.inBlock, Exit.then]
              exact bodyPost_ret (results_row_tmpR rfl _ _ w.heap.size 151 (miC ⟨(k : Int), ard, ars1, ars2, aimm⟩).toArray (0, 0) _ rfl (setRow_heap _ _ _ _ _ _ h66) Tryd.underlying151 rfl infoRv) rfl ⟨by rw [HE1.out, HE2.out]; rfl, below_setRowR (HBW.out.trans (HB6.out.mono (by have := HZ.out; omega))) (Nat.le_refl _) _⟩
            · have HNK : Hid (¬ Good wd k) := fun h => hV (HGK2.out.1 h).2
              have hvb : (encI ⟨(k : Int), ard, ars1, ars2, aimm⟩ == wd) = false := beq_eq_false_iff_ne.2 hV
              rw [hE] at HWO
              generalize encI ⟨(k : Int), ard, ars1, ars2, aimm⟩ = V at *
              clear hE hV HGK2 HGX2 HRX
              go_wp2_with (first | (go_at_call 140; refine (gS _).mono ?_; rintro e w' ⟨rfl, hw'⟩; replace hw' := hw'.symm; subst hw') | (refine wpList_load_row rfl 151 (.tmp 5) rfl _ rfl _ _ _ _ (hbox) Tryd.underlying151 rfl infoRv ?_) | (go_at_call 143; refine (HWO.out _).mono ?_; rintro e w6 ⟨rfl, hb6⟩; have h56 : w6.heap[wo.heap.size]? = some (.cells (miC ⟨(k : Int), ard, ars1, ars2, aimm⟩).toArray 151 (0, 0)) := (hb6.block _ (World.heap_lt (hbox))).trans (hbox); have h66 : w6.heap[w.heap.size]? = some (.cells #[.int .i64 0, .int .i64 0, .int .i64 0, .int .i64 0, .int .i64 0] 151 (0, 0)) := (hb6.block _ (World.heap_lt (h6w))).trans (h6w); have HB6 : Hid (Below wo.heap.size wo w6) := HB5.out.trans (hb6.mono (Nat.le_of_lt (World.heap_lt (hbox)))); clear hb6))
              go_roundw
              case rel => exact ⟨k + 1, by omega, by omega, by go_num, fun j a b => by rcases Nat.lt_succ_iff_lt_or_eq.1 b with hl | rfl; exact HALL.out j a hl; exact HNK.out, HBR.out.trans (HB6.out.mono (by have := HZ.out; omega))⟩
              case measure => simp [intOf]; omega
          · have HNK : Hid (¬ Good wd k) := fun h => hE (HGK2.out.1 h).1
            have hvb : (rvE ⟨(k : Int), ard, ars1, ars2, aimm⟩ == 0) = false := beq_eq_false_iff_ne.2 hE
            generalize encI ⟨(k : Int), ard, ars1, ars2, aimm⟩ = V at *
            generalize rvE ⟨(k : Int), ard, ars1, ars2, aimm⟩ = E at *
            clear hE HGK2 HGX2 HRX
            go_wp2_with (first | (go_at_call 140; refine (gS _).mono ?_; rintro e w' ⟨rfl, hw'⟩; replace hw' := hw'.symm; subst hw') | (refine wpList_load_row rfl 151 (.tmp 5) rfl _ rfl _ _ _ _ (hbox) Tryd.underlying151 rfl infoRv ?_) | (go_at_call 143; refine (HWO.out _).mono ?_; rintro e w6 ⟨rfl, hb6⟩; have h56 : w6.heap[wo.heap.size]? = some (.cells (miC ⟨(k : Int), ard, ars1, ars2, aimm⟩).toArray 151 (0, 0)) := (hb6.block _ (World.heap_lt (hbox))).trans (hbox); have h66 : w6.heap[w.heap.size]? = some (.cells #[.int .i64 0, .int .i64 0, .int .i64 0, .int .i64 0, .int .i64 0] 151 (0, 0)) := (hb6.block _ (World.heap_lt (h6w))).trans (h6w); have HB6 : Hid (Below wo.heap.size wo w6) := HB5.out.trans (hb6.mono (Nat.le_of_lt (World.heap_lt (hbox)))); clear hb6))
            go_roundw
            case rel => exact ⟨k + 1, by omega, by omega, by go_num, fun j a b => by rcases Nat.lt_succ_iff_lt_or_eq.1 b with hl | rfl; exact HALL.out j a hl; exact HNK.out, HBR.out.trans (HB6.out.mono (by have := HZ.out; omega))⟩
            case measure => simp [intOf]; omega
end Go.Proofs.YtndogdojcbcjgaaDoor
