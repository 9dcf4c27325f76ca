/- Contract of tiers.wanted: registers that are live, and noughts (written by gen/mktidy.py). -/
import Derived.Test.YteabbanjjdmjkaaDoorXLeaveKit
namespace Go.Proofs.YteabbanjjdmjkaaDoor
open Go Go.RowKit

/-- Registers that are live; noughts. -/
def tidR (regs : List Int) (m : Nat) : List Int := (List.range 12).map fun r => if m.testBit r = true then regs.getD r 0 else 0
def tidQ (regs : List Int) (m q : Nat) : List Int := (List.range q).map (fun r => if m.testBit r = true then regs.getD r 0 else 0) ++ regs.drop q
section
variable {regs : List Int} {m q : Nat}
theorem tidQ_zero : tidQ regs m 0 = regs := by simp [tidQ]
theorem tidQ_all (h : regs.length = 12) : tidQ regs m 12 = tidR regs m := by simp [tidQ, tidR, List.drop_eq_nil_of_le, h]
theorem tidR_len : (tidR regs m).length = 12 := by simp [tidR]
theorem tidQ_len (h : regs.length = 12) (hq : q ≤ 12) : (tidQ regs m q).length = 12 := by simp [tidQ, h]; omega
theorem tidQ_set (h : regs.length = 12) (hq : q < 12) (hb : m.testBit q = false) : (tidQ regs m q).set q 0 = tidQ regs m (q + 1) := by
  unfold tidQ
  rw [List.set_append_right _ _ (by simp), List.length_map, List.length_range, Nat.sub_self, List.drop_eq_getElem_cons (show q < regs.length by omega), List.set_cons_zero, List.range_succ, List.map_append, List.append_assoc]
  simp [hb]
theorem tidQ_skip (h : regs.length = 12) (hq : q < 12) (hb : m.testBit q = true) : tidQ regs m q = tidQ regs m (q + 1) := by
  unfold tidQ
  rw [List.drop_eq_getElem_cons (show q < regs.length by omega), List.range_succ, List.map_append, List.append_assoc]
  simp [hb, List.getD, show q < regs.length by omega]
end

set_option maxRecDepth 100000 in
set_option maxHeartbeats 2000000 in
theorem wanted_pos (regs : List Int) (m : Nat) (hm : m < 4096) (hR : regs.length = 12) (w : World) :
    Calls Tryd.prog 86 #[.agg (i64s regs).toArray, .int .i64 (m : Int)] w fun e w' => e = .returned (.agg (i64s (tidR regs m)).toArray) ∧ Below w.heap.size w w' := by
  have HS : Hid (∀ q, q < 12 → Nat.testBit m q = false → (i64s (tidQ regs m q)).set q (.int .i64 0) = i64s (tidQ regs m (q + 1))) := fun q hq hb => by rw [← tidQ_set hR hq hb]; simp [i64s, List.map_set]
  have HK : Hid (∀ q, q < 12 → Nat.testBit m q = true → tidQ regs m q = tidQ regs m (q + 1)) := fun q hq h => tidQ_skip hR hq h
  have HL : Hid (∀ q, q ≤ 12 → (i64s (tidQ regs m q)).length = 12) := fun q hq => by simp [i64s, tidQ_len hR hq]
  have HBD : Hid (∀ q, bits .and .i64 ((m : Int) / 2 ^ q) 1 = if Nat.testBit m q = true then 1 else 0) := fun q => bit_downL m q hm
  have HZ : Hid (regs = tidQ regs m 0) := tidQ_zero.symm
  have HA : Hid (tidQ regs m 12 = tidR regs m) := tidQ_all hR
  have HRL : Hid ((i64s (tidR regs m)).length = 12) := by show _ = _; simp [i64s, tidR_len]
  clear hm
  generalize hdd : i64s regs = DD at *
  go_enter Tryd.func86, Tryd.ntmps86
  go_upto_region 1 with fail
  rw [show (#[.int .i64 0, .int .i64 0, .int .i64 0, .int .i64 0, .int .i64 0, .int .i64 0, .int .i64 0, .int .i64 0, .int .i64 0, .int .i64 0, .int .i64 0, .int .i64 0] : Array Value) = zeroR.toArray from rfl]
  have r0 : ((w.alloc (.cells DD.toArray 52)).alloc (.cells zeroR.toArray 52)).heap[w.heap.size]? = some (.cells DD.toArray 52 (0, 0)) := heap_alloc2_old _ _ _
  have r1 : ((w.alloc (.cells DD.toArray 52)).alloc (.cells zeroR.toArray 52)).heap[w.heap.size + 1]? = some (.cells zeroR.toArray 52 (0, 0)) := heap_alloc2_new _ _ _
  have HB0 : Hid (Below w.heap.size w ((w.alloc (.cells DD.toArray 52)).alloc (.cells zeroR.toArray 52))) := ((Below.refl _ _).alloc (Nat.le_refl _) _).alloc (by simp) _
  generalize ((w.alloc (.cells DD.toArray 52)).alloc (.cells zeroR.toArray 52)) = W0 at *
  have hm1 : ((m : Int) == -1) = false := by rw [beq_eq_false_iff_ne]; omega
  have hm2 : ¬ (m : Int) = -1 := by omega
  go_upto_region 4 with fail
  go_loopw [8] (fun i wr => ∃ q : Nat, q ≤ 12 ∧ i = .int .i64 q ∧ wr.heap[w.heap.size]? = some (.cells (i64s (tidQ regs m q)).toArray 52 (0, 0)) ∧ wr.heap[w.heap.size + 1]? = some (.cells zeroR.toArray 52 (0, 0)) ∧ Below w.heap.size w wr) (fun i _ => 12 - (intOf i).toNat)
  case atStart => exact ⟨0, by omega, rfl, by rw [← HZ.out, hdd]; exact r0, r1, HB0.out⟩
  case round =>
    clear r0 r1 HB0
    obtain ⟨q, hq, rfl, g0, g1, hbr⟩ := hrel
    have HBR : Hid (Below w.heap.size w wr) := hbr
    clear hbr
    by_cases hlt : q < 12
    · have hqI : (q : Int) < 12 := by omega
      have hqn : ¬ (q : Int) < 0 := by omega
      have hq64 : (q : Int) < 64 := by omega
      have hbd := HBD.out q
      cases hb : Nat.testBit m q
      · rw [hb, if_neg (by decide)] at hbd
        have hS := HS.out q hlt hb
        obtain ⟨y, hy⟩ : ∃ y, wr.cell? ⟨w.heap.size, q, none⟩ = some y := ⟨(i64s (tidQ regs m q))[q]'(by rw [HL.out q hq]; omega), by rw [cell_of_row _ _ _ _ _ _ g0]; simp⟩
        have hf : wr.frozen? ⟨w.heap.size, q, none⟩ = false := frozen_of_row _ _ _ _ _ g0
        have HN : Hid ((wr.setCell ⟨w.heap.size, q, none⟩ (.int .i64 0)).heap[w.heap.size]? = some (.cells (i64s (tidQ regs m (q + 1))).toArray 52 (0, 0))) := by show _ = _; rw [heap_setCell_same _ _ _ _ _ _ g0, List.setIfInBounds_toArray, hS]
        have HN1 : Hid ((wr.setCell ⟨w.heap.size, q, none⟩ (.int .i64 0)).heap[w.heap.size + 1]? = some (.cells zeroR.toArray 52 (0, 0))) := (heap_setCell_other _ _ _ _ (by simp)).trans g1
        have HNB : Hid (Below w.heap.size w (wr.setCell ⟨w.heap.size, q, none⟩ (.int .i64 0))) := by show Below _ _ _; exact HBR.out.setCell (by simp) _
        clear hS hb g0 g1
        go_wp2
        go_roundw
        case rel => exact ⟨q + 1, by omega, by go_num, HN.out, HN1.out, HNB.out⟩
        case measure => simp [intOf]; omega
      · rw [hb, if_pos rfl] at hbd
        have HN : Hid (wr.heap[w.heap.size]? = some (.cells (i64s (tidQ regs m (q + 1))).toArray 52 (0, 0))) := by show _ = _; rw [← HK.out q hlt hb]; exact g0
        clear hb
        go_wp2
        go_roundw
        case rel => exact ⟨q + 1, by omega, by go_num, HN.out, g1, HBR.out⟩
        case measure => simp [intOf]; omega
    · obtain rfl : q = 12 := by omega
      rw [HA.out] at g0
      have h12 := HRL.out
      have i12 : (Tryd.prog.info? 52).map (·.size) = some (i64s (tidR regs m)).toArray.size := by rw [List.size_toArray, h12]; exact infoR12
      have o12 : (i64s (tidR regs m)).toArray.all (·.oneCell') = true := all_oneCell_toArray (i64s_one _)
      have hlz : zeroR.toArray.size = (i64s (tidR regs m)).toArray.size := by rw [List.size_toArray, List.size_toArray, h12]; rfl
      obtain ⟨RR, hRR⟩ : ∃ R, R = i64s (tidR regs m) := ⟨_, rfl⟩
      rw [← hRR] at g0 i12 o12 hlz
      have HRR : Hid (RR = i64s (tidR regs m)) := hRR
      clear hRR h12
      go_wp2_with (first
        | (refine wpList_load_row rfl 52 (.tmp 2) rfl _ rfl _ _ _ _ g0 Tryd.underlying52 rfl i12 ?_)
        | (refine wpList_store_row rfl 52 (.tmp 4) _ rfl _ RR.toArray rfl rfl _ _ g1 i12 hlz o12 ?_))
      refine bodyPost_ret (results_cell_row rfl _ _ (w.heap.size + 1) 52 RR.toArray (0, 0) _ rfl (setRow_heap _ _ _ _ _ _ g1) Tryd.underlying52 rfl i12) rfl ⟨by rw [HRR.out], ?_⟩
      exact belowSR HBR.out (by omega) _

set_option maxRecDepth 100000 in
set_option maxHeartbeats 2000000 in
theorem wanted_neg (regs : List Int) (hR : regs.length = 12) (w : World) :
    Calls Tryd.prog 86 #[.agg (i64s regs).toArray, .int .i64 (-1)] w fun e w' => e = .returned (.agg (i64s (tidR regs 0)).toArray) ∧ Below w.heap.size w w' := by
  have HS : Hid (∀ q, q < 12 → Nat.testBit 0 q = false → (i64s (tidQ regs 0 q)).set q (.int .i64 0) = i64s (tidQ regs 0 (q + 1))) := fun q hq hb => by rw [← tidQ_set hR hq hb]; simp [i64s, List.map_set]
  have HK : Hid (∀ q, q < 12 → Nat.testBit 0 q = true → tidQ regs 0 q = tidQ regs 0 (q + 1)) := fun q hq h => tidQ_skip hR hq h
  have HL : Hid (∀ q, q ≤ 12 → (i64s (tidQ regs 0 q)).length = 12) := fun q hq => by simp [i64s, tidQ_len hR hq]
  have HBD : Hid (∀ q, bits .and .i64 ((0 : Int) / 2 ^ q) 1 = if Nat.testBit 0 q = true then 1 else 0) := fun q => (by have := bit_downL 0 q (by omega); simpa using this)
  have HZ : Hid (regs = tidQ regs 0 0) := tidQ_zero.symm
  have HA : Hid (tidQ regs 0 12 = tidR regs 0) := tidQ_all hR
  have HRL : Hid ((i64s (tidR regs 0)).length = 12) := by show _ = _; simp [i64s, tidR_len]
  generalize hdd : i64s regs = DD at *
  go_enter Tryd.func86, Tryd.ntmps86
  go_upto_region 1 with fail
  rw [show (#[.int .i64 0, .int .i64 0, .int .i64 0, .int .i64 0, .int .i64 0, .int .i64 0, .int .i64 0, .int .i64 0, .int .i64 0, .int .i64 0, .int .i64 0, .int .i64 0] : Array Value) = zeroR.toArray from rfl]
  have r0 : ((w.alloc (.cells DD.toArray 52)).alloc (.cells zeroR.toArray 52)).heap[w.heap.size]? = some (.cells DD.toArray 52 (0, 0)) := heap_alloc2_old _ _ _
  have r1 : ((w.alloc (.cells DD.toArray 52)).alloc (.cells zeroR.toArray 52)).heap[w.heap.size + 1]? = some (.cells zeroR.toArray 52 (0, 0)) := heap_alloc2_new _ _ _
  have HB0 : Hid (Below w.heap.size w ((w.alloc (.cells DD.toArray 52)).alloc (.cells zeroR.toArray 52))) := ((Below.refl _ _).alloc (Nat.le_refl _) _).alloc (by simp) _
  generalize ((w.alloc (.cells DD.toArray 52)).alloc (.cells zeroR.toArray 52)) = W0 at *
  go_upto_region 4 with fail
  go_loopw [8] (fun i wr => ∃ q : Nat, q ≤ 12 ∧ i = .int .i64 q ∧ wr.heap[w.heap.size]? = some (.cells (i64s (tidQ regs 0 q)).toArray 52 (0, 0)) ∧ wr.heap[w.heap.size + 1]? = some (.cells zeroR.toArray 52 (0, 0)) ∧ Below w.heap.size w wr) (fun i _ => 12 - (intOf i).toNat)
  case atStart => exact ⟨0, by omega, rfl, by rw [← HZ.out, hdd]; exact r0, r1, HB0.out⟩
  case round =>
    clear r0 r1 HB0
    obtain ⟨q, hq, rfl, g0, g1, hbr⟩ := hrel
    have HBR : Hid (Below w.heap.size w wr) := hbr
    clear hbr
    by_cases hlt : q < 12
    · have hqI : (q : Int) < 12 := by omega
      have hqn : ¬ (q : Int) < 0 := by omega
      have hq64 : (q : Int) < 64 := by omega
      have hbd := HBD.out q
      cases hb : Nat.testBit 0 q
      · rw [hb, if_neg (by decide)] at hbd
        have hS := HS.out q hlt hb
        obtain ⟨y, hy⟩ : ∃ y, wr.cell? ⟨w.heap.size, q, none⟩ = some y := ⟨(i64s (tidQ regs 0 q))[q]'(by rw [HL.out q hq]; omega), by rw [cell_of_row _ _ _ _ _ _ g0]; simp⟩
        have hf : wr.frozen? ⟨w.heap.size, q, none⟩ = false := frozen_of_row _ _ _ _ _ g0
        have HN : Hid ((wr.setCell ⟨w.heap.size, q, none⟩ (.int .i64 0)).heap[w.heap.size]? = some (.cells (i64s (tidQ regs 0 (q + 1))).toArray 52 (0, 0))) := by show _ = _; rw [heap_setCell_same _ _ _ _ _ _ g0, List.setIfInBounds_toArray, hS]
        have HN1 : Hid ((wr.setCell ⟨w.heap.size, q, none⟩ (.int .i64 0)).heap[w.heap.size + 1]? = some (.cells zeroR.toArray 52 (0, 0))) := (heap_setCell_other _ _ _ _ (by simp)).trans g1
        have HNB : Hid (Below w.heap.size w (wr.setCell ⟨w.heap.size, q, none⟩ (.int .i64 0))) := by show Below _ _ _; exact HBR.out.setCell (by simp) _
        clear hS hb g0 g1
        go_wp2
        go_roundw
        case rel => exact ⟨q + 1, by omega, by go_num, HN.out, HN1.out, HNB.out⟩
        case measure => simp [intOf]; omega
      · simp at hb
    · obtain rfl : q = 12 := by omega
      rw [HA.out] at g0
      have h12 := HRL.out
      have i12 : (Tryd.prog.info? 52).map (·.size) = some (i64s (tidR regs 0)).toArray.size := by rw [List.size_toArray, h12]; exact infoR12
      have o12 : (i64s (tidR regs 0)).toArray.all (·.oneCell') = true := all_oneCell_toArray (i64s_one _)
      have hlz : zeroR.toArray.size = (i64s (tidR regs 0)).toArray.size := by rw [List.size_toArray, List.size_toArray, h12]; rfl
      obtain ⟨RR, hRR⟩ : ∃ R, R = i64s (tidR regs 0) := ⟨_, rfl⟩
      rw [← hRR] at g0 i12 o12 hlz
      have HRR : Hid (RR = i64s (tidR regs 0)) := hRR
      clear hRR h12
      go_wp2_with (first
        | (refine wpList_load_row rfl 52 (.tmp 2) rfl _ rfl _ _ _ _ g0 Tryd.underlying52 rfl i12 ?_)
        | (refine wpList_store_row rfl 52 (.tmp 4) _ rfl _ RR.toArray rfl rfl _ _ g1 i12 hlz o12 ?_))
      refine bodyPost_ret (results_cell_row rfl _ _ (w.heap.size + 1) 52 RR.toArray (0, 0) _ rfl (setRow_heap _ _ _ _ _ _ g1) Tryd.underlying52 rfl i12) rfl ⟨by rw [HRR.out], ?_⟩
      exact belowSR HBR.out (by omega) _
end Go.Proofs.YteabbanjjdmjkaaDoor
