import Derived.Test.YtldbmdgpdolaaaaDoorPXSsaMath
namespace Go.Proofs.YtldbmdgpdolaaaaDoor
open Go Go.RowKit

set_option maxRecDepth 100000 in
set_option maxHeartbeats 2000000 in
theorem paramsP_any (pn : Int) (pv cv bv lv : Value) (w : World) :
    Calls Tryd.prog 93 #[.agg #[pv, .int .i64 pn, cv, bv, lv]] w fun e w' => e = .returned (.agg (i64s (parR pn)).toArray) ∧ Below w.heap.size w w' := by
  have hz0 : (List.replicate 12 (0 : Int)).length = 12 := rfl
  have HZ : Hid (i64s (upto (parR pn) (List.replicate 12 0) 0) = zero12) := rfl
  have HA : Hid (upto (parR pn) (List.replicate 12 0) 12 = parR pn) := upto_all (parR_len _) hz0
  have HL : Hid (∀ q, q ≤ 12 → (i64s (upto (parR pn) (List.replicate 12 0) q)).length = 12) := fun q hq => by have := upto_len (parR_len pn) hz0 hq; simp only [i64s, List.length_map]; exact this
  have HS : Hid (∀ q, q < 12 → i64s ((upto (parR pn) (List.replicate 12 0) q).set q ((parR pn).getD q 0)) = i64s (upto (parR pn) (List.replicate 12 0) (q + 1))) := fun q hq => by rw [upto_set (parR_len _) hz0 hq]
  have HG : Hid (∀ q, q < 12 → (parR pn).getD q 0 = if (q : Int) < pn then (q : Int) else -1) := fun q hq => parR_get _ hq
  have i12 := infoRgL (parR_len pn)
  have o12 := oneI64 (parR pn)
  have hlz : zero12.toArray.size = (i64s (parR pn)).toArray.size := by simp [zero12, i64s, parR_len]
  go_enter Tryd.func93, Tryd.ntmps93
  go_upto_region 2 with fail
  rw [show (#[.int .i64 0, .int .i64 0, .int .i64 0, .int .i64 0, .int .i64 0, .int .i64 0, .int .i64 0, .int .i64 0, .int .i64 0, .int .i64 0, .int .i64 0, .int .i64 0] : Array Value) = zero12.toArray from rfl]
  have r2 : (((w.alloc (.cells #[pv, .int .i64 pn, cv, bv, lv] 56)).alloc (.cells zero12.toArray 108)).alloc (.cells zero12.toArray 108)).heap[w.heap.size + 1]? = some (.cells zero12.toArray 108 (0, 0)) := heap_alloc_old _ _ (by simp) |>.trans (heap_alloc2_new _ _ _)
  have r3 : (((w.alloc (.cells #[pv, .int .i64 pn, cv, bv, lv] 56)).alloc (.cells zero12.toArray 108)).alloc (.cells zero12.toArray 108)).heap[w.heap.size + 1 + 1]? = some (.cells zero12.toArray 108 (0, 0)) := heap_alloc3_newS _ _ _ _
  have k1 : (((w.alloc (.cells #[pv, .int .i64 pn, cv, bv, lv] 56)).alloc (.cells zero12.toArray 108)).alloc (.cells zero12.toArray 108)).cell? ⟨w.heap.size, 1, none⟩ = some (.int .i64 pn) := cell_alloc (cell_alloc (by rw [cell_of_row _ _ _ _ _ _ (heap_alloc_last w _)]; rfl) _) _
  have HB0 : Hid (Below w.heap.size w (((w.alloc (.cells #[pv, .int .i64 pn, cv, bv, lv] 56)).alloc (.cells zero12.toArray 108)).alloc (.cells zero12.toArray 108))) := (((Below.refl _ _).alloc (Nat.le_refl _) _).alloc (by simp) _).alloc (by simp; omega) _
  generalize (((w.alloc (.cells #[pv, .int .i64 pn, cv, bv, lv] 56)).alloc (.cells zero12.toArray 108)).alloc (.cells zero12.toArray 108)) = W0 at *
  go_upto_region 3 with fail
  go_loopw [4, 5] (fun _ i wr => ∃ q : Nat, q ≤ 12 ∧ i = .int .i64 q ∧ wr.heap[w.heap.size + 1 + 1]? = some (.cells (i64s (upto (parR pn) (List.replicate 12 0) q)).toArray 108 (0, 0)) ∧ wr.heap[w.heap.size + 1]? = some (.cells zero12.toArray 108 (0, 0)) ∧ wr.cell? ⟨w.heap.size, 1, none⟩ = some (.int .i64 pn) ∧ Below w.heap.size w wr) (fun _ i _ => 12 - (intOf i).toNat)
  case atStart => exact ⟨0, by omega, rfl, by rw [HZ.out]; exact r3, r2, k1, HB0.out⟩
  case round =>
    clear r2 r3 k1 HB0
    obtain ⟨q, hq, rfl, g3, g2, g1, hbr⟩ := hrel
    have HBR : Hid (Below w.heap.size w wr) := hbr
    clear hbr
    by_cases hlt : q < 12
    · have hqI : (q : Int) < 12 := by omega
      have hqn : ¬ (q : Int) < 0 := by omega
      have hS := HS.out q hlt
      have hG := HG.out q hlt
      have hLq := HL.out q hq
      obtain ⟨lq, hlq⟩ : ∃ lq, lq = upto (parR pn) (List.replicate 12 0) q := ⟨_, rfl⟩
      rw [← hlq] at g3 hS hLq
      obtain ⟨y, hy⟩ : ∃ y, wr.cell? ⟨w.heap.size + 1 + 1, q, none⟩ = some y := ⟨(i64s lq)[q]'(by rw [hLq]; omega), by rw [cell_of_row _ _ _ _ _ _ g3]; simp⟩
      have hf : wr.frozen? ⟨w.heap.size + 1 + 1, q, none⟩ = false := frozen_of_row _ _ _ _ _ g3
      have a3 : (wr.setCell ⟨w.heap.size + 1 + 1, q, none⟩ (.int .i64 (-1))).heap[w.heap.size + 1 + 1]? = some (.cells (i64s (lq.set q (-1))).toArray 108 (0, 0)) := by rw [heap_setCell_same _ _ _ _ _ _ g3, List.setIfInBounds_toArray, i64s_set]
      have a2 : (wr.setCell ⟨w.heap.size + 1 + 1, q, none⟩ (.int .i64 (-1))).heap[w.heap.size + 1]? = some (.cells zero12.toArray 108 (0, 0)) := (heap_setCell_other _ _ _ _ (by simp)).trans g2
      have a1 : (wr.setCell ⟨w.heap.size + 1 + 1, q, none⟩ (.int .i64 (-1))).cell? ⟨w.heap.size, 1, none⟩ = some (.int .i64 pn) := (World.cell?_of_block (heap_setCell_other _ _ _ _ (by show w.heap.size ≠ w.heap.size + 1 + 1; omega))).trans g1
      have HAB : Hid (Below w.heap.size w (wr.setCell ⟨w.heap.size + 1 + 1, q, none⟩ (.int .i64 (-1)))) := HBR.out.setCell (by simp; omega) _
      go_upto_region 6 with fail
      clear hy hf g3 g2 g1 hlq HBR
      generalize (wr.setCell ⟨w.heap.size + 1 + 1, q, none⟩ (.int .i64 (-1))) = V1 at *
      by_cases hp : (q : Int) < pn
      · rw [if_pos hp] at hG
        rw [hG] at hS
        have b3 : (V1.setCell ⟨w.heap.size + 1 + 1, q, none⟩ (.int .i64 q)).heap[w.heap.size + 1 + 1]? = some (.cells (i64s (upto (parR pn) (List.replicate 12 0) (q + 1))).toArray 108 (0, 0)) := by rw [heap_setCell_same _ _ _ _ _ _ a3, List.setIfInBounds_toArray, i64s_set, List.set_set, hS]
        have b2 : (V1.setCell ⟨w.heap.size + 1 + 1, q, none⟩ (.int .i64 q)).heap[w.heap.size + 1]? = some (.cells zero12.toArray 108 (0, 0)) := (heap_setCell_other _ _ _ _ (by simp)).trans a2
        have b1 : (V1.setCell ⟨w.heap.size + 1 + 1, q, none⟩ (.int .i64 q)).cell? ⟨w.heap.size, 1, none⟩ = some (.int .i64 pn) := (World.cell?_of_block (heap_setCell_other _ _ _ _ (by show w.heap.size ≠ w.heap.size + 1 + 1; omega))).trans a1
        have HBB : Hid (Below w.heap.size w (V1.setCell ⟨w.heap.size + 1 + 1, q, none⟩ (.int .i64 q))) := HAB.out.setCell (by simp; omega) _
        obtain ⟨y, hy⟩ : ∃ y, V1.cell? ⟨w.heap.size + 1 + 1, q, none⟩ = some y := ⟨.int .i64 (-1), by rw [cell_of_row _ _ _ _ _ _ a3]; have h12 : q < lq.length := (by have e : (i64s lq).length = lq.length := (by simp [i64s]); omega); simp [i64s, h12]⟩
        have hf : V1.frozen? ⟨w.heap.size + 1 + 1, q, none⟩ = false := frozen_of_row _ _ _ _ _ a3
        have HB3 : Hid _ := b3
        have HB2 : Hid _ := b2
        have HB1 : Hid _ := b1
        clear b3 b2 b1 a3 a2 hS hG
        go_wp2
        go_roundw
        case rel => exact ⟨q + 1, by omega, by go_num, HB3.out, HB2.out, HB1.out, HBB.out⟩
        case measure => simp [intOf]; omega
      · rw [if_neg hp] at hG
        rw [hG] at hS
        have HB3 : Hid (V1.heap[w.heap.size + 1 + 1]? = some (.cells (i64s (upto (parR pn) (List.replicate 12 0) (q + 1))).toArray 108 (0, 0))) := by show _ = _; rw [← hS]; exact a3
        clear a3 hS hG
        go_wp2
        go_roundw
        case rel => exact ⟨q + 1, by omega, by go_num, HB3.out, a2, a1, HAB.out⟩
        case measure => simp [intOf]; omega
    · obtain rfl : q = 12 := by omega
      rw [HA.out] at g3
      obtain ⟨RR, hRR⟩ : ∃ R, R = i64s (parR pn) := ⟨_, rfl⟩
      rw [← hRR] at g3 i12 o12 hlz
      have HRR : Hid (RR = i64s (parR pn)) := hRR
      clear hRR
      go_wp2_with (first
        | (refine wpList_load_row rfl 108 (.tmp 3) rfl _ rfl _ _ _ _ g3 Tryd.underlying108 rfl i12 ?_)
        | (refine wpList_store_row rfl 108 (.tmp 2) _ rfl _ RR.toArray rfl rfl _ _ g2 i12 hlz o12 ?_))
      refine bodyPost_ret (results_cell_row rfl _ _ (w.heap.size + 1) 108 RR.toArray (0, 0) _ rfl (setRow_heap _ _ _ _ _ _ g2) Tryd.underlying108 rfl i12) rfl ⟨by rw [HRR.out], ?_⟩
      exact belowSK HBR.out (by omega) _
theorem paramsS_any (f : Fn) (pv cv bv lv : Value) (w : World) :
    Calls Tryd.prog 93 #[.agg (fnV f pv cv bv lv)] w fun e w' => e = .returned (.agg (i64s (parR f.params)).toArray) ∧ Below w.heap.size w w' := paramsP_any f.params pv cv bv lv w
end Go.Proofs.YtldbmdgpdolaaaaDoor
