/- Contracts of emit.isLive, emit.regsOf and emit.mayLeave. -/
import Derived.Test.YteabbanjjdmjkaaDoorXEmitData
import Derived.Test.YteabbanjjdmjkaaDoorGroupA
namespace Go.Proofs.YteabbanjjdmjkaaDoor
open Go Go.RowKit

theorem bit_downL (m u : Nat) (hm : m < 4096) : bits .and .i64 ((m : Int) / 2 ^ u) 1 = if m.testBit u = true then 1 else 0 := by
  have e : ((m : Int) / 2 ^ u) = ((m / 2 ^ u : Nat) : Int) := by rw [Int.natCast_ediv, Int.natCast_pow]; rfl
  have hd : m / 2 ^ u < 65536 := Nat.lt_of_le_of_lt (Nat.div_le_self _ _) (by omega)
  have h1 := bits_and_nat (m / 2 ^ u) 1 hd (by omega)
  rw [e]
  refine h1.trans ?_
  rw [Nat.and_one_is_mod, Nat.testBit_eq_decide_div_mod_eq]
  simp only [decide_eq_true_eq]
  split <;> omega

set_option maxRecDepth 100000 in
theorem isLive_any (m u : Nat) (b : Bool) (hm : m < 4096) (hu : u < 12) (hb : m.testBit u = b) (w : World) :
    Calls Tryd.prog 62 #[.int .i64 (m : Int), .int .i64 (u : Int)] w fun e w' => e = .returned (.bool b) ∧ w' = w := by
  have hbd := bit_downL m u hm
  have huI : ¬ (u : Int) < 0 := by omega
  have hu64 : (u : Int) < 64 := by omega
  cases b
  · rw [hb, if_neg (by decide)] at hbd
    clear hb
    go_enter Tryd.func62, Tryd.ntmps62
    go_wp2
    go_ret
    exact ⟨rfl, rfl⟩
  · rw [hb, if_pos rfl] at hbd
    clear hb
    go_enter Tryd.func62, Tryd.ntmps62
    go_wp2
    go_ret
    exact ⟨rfl, rfl⟩
/-- The registers that a machine leaves: those that are live. -/
def regsL (D : List Int) (m : Nat) : List Int := (List.range 12).map fun r => if m.testBit r = true then D.getD (16 + r) 0 else 0
def regsQ (D : List Int) (m q : Nat) : List Int := (List.range q).map (fun r => if m.testBit r = true then D.getD (16 + r) 0 else 0) ++ List.replicate (12 - q) 0
theorem regsQ_all (D : List Int) (m : Nat) : regsQ D m 12 = regsL D m := by simp [regsQ, regsL]
theorem regsQ_len (D : List Int) (m q : Nat) (hq : q ≤ 12) : (regsQ D m q).length = 12 := by simp [regsQ]; omega
theorem regsQ_set (D : List Int) (m q : Nat) (hq : q < 12) : (regsQ D m q).set q (if m.testBit q = true then D.getD (16 + q) 0 else 0) = regsQ D m (q + 1) := by
  unfold regsQ
  rw [List.set_append_right _ _ (by simp), List.length_map, List.length_range, Nat.sub_self, show 12 - q = (12 - (q + 1)) + 1 by omega, List.replicate_succ, List.set_cons_zero, List.range_succ, List.map_append, List.append_assoc]
  rfl
theorem regsQ_skip (D : List Int) (m q : Nat) (hq : q < 12) (h : m.testBit q = false) : regsQ D m q = regsQ D m (q + 1) := by
  rw [← regsQ_set D m q hq, h, if_neg (by decide)]
  unfold regsQ
  rw [List.set_append_right _ _ (by simp), List.length_map, List.length_range, Nat.sub_self, show 12 - q = (12 - (q + 1)) + 1 by omega, List.replicate_succ, List.set_cons_zero]
theorem regsL_len (D : List Int) (m : Nat) : (regsL D m).length = 12 := by simp [regsL]
def zeroR : List Value := [.int .i64 0, .int .i64 0, .int .i64 0, .int .i64 0, .int .i64 0, .int .i64 0, .int .i64 0, .int .i64 0, .int .i64 0, .int .i64 0, .int .i64 0, .int .i64 0]
theorem zeroR_eq (D : List Int) (m : Nat) : zeroR = i64s (regsQ D m 0) := rfl
theorem infoR12 : (Tryd.prog.info? 52).map (·.size) = some 12 := by kernel_rfl

set_option maxRecDepth 100000 in
set_option maxHeartbeats 2000000 in
theorem regsOf_any (D : List Int) (m : Nat) (hD : D.length = 64) (hm : m < 4096) (w : World) :
    Calls Tryd.prog 35 #[.agg (i64s D).toArray, .int .i64 (m : Int)] w fun e w' => e = .returned (.agg (i64s (regsL D m)).toArray) ∧ Below w.heap.size w w' := by
  have HIL : Hid (∀ (u : Nat) (b : Bool) W, u < 12 → m.testBit u = b → Calls Tryd.prog 62 #[.int .i64 (m : Int), .int .i64 (u : Int)] W fun e w' => e = .returned (.bool b) ∧ w' = W) := fun u b W hu hb => isLive_any m u b hm hu hb W
  have HZ : Hid (zeroR = i64s (regsQ D m 0)) := zeroR_eq D m
  have HS : Hid (∀ q, q < 12 → (i64s (regsQ D m q)).set q (.int .i64 (if m.testBit q = true then D.getD (16 + q) 0 else 0)) = i64s (regsQ D m (q + 1))) := fun q hq => by rw [← regsQ_set D m q hq]; simp [i64s, List.map_set]
  have HK : Hid (∀ q, q < 12 → m.testBit q = false → regsQ D m q = regsQ D m (q + 1)) := fun q hq h => regsQ_skip D m q hq h
  have HL : Hid (∀ q, q ≤ 12 → (i64s (regsQ D m q)).length = 12) := fun q hq => by simp [i64s, regsQ_len D m q hq]
  have HG : Hid (∀ q, q < 12 → (i64s D)[16 + q]? = some (.int .i64 (D.getD (16 + q) 0))) := fun q hq => by simp [i64s, List.getD, show 16 + q < D.length by omega]
  have HA : Hid (regsQ D m 12 = regsL D m) := regsQ_all D m
  have hDL : (i64s D).length = 64 := by simp [i64s, hD]
  clear hm hD
  generalize i64s D = DD at *
  go_enter Tryd.func35, Tryd.ntmps35
  go_upto_region 2 with fail
  rw [show (#[.int .i64 0, .int .i64 0, .int .i64 0, .int .i64 0, .int .i64 0, .int .i64 0, .int .i64 0, .int .i64 0, .int .i64 0, .int .i64 0, .int .i64 0, .int .i64 0] : Array Value) = zeroR.toArray from rfl]
  have r0 : (((w.alloc (.cells DD.toArray 31)).alloc (.cells zeroR.toArray 52)).alloc (.cells zeroR.toArray 52)).heap[w.heap.size]? = some (.cells DD.toArray 31 (0, 0)) := heap_alloc_old _ _ (by simp; omega) |>.trans (heap_alloc2_old _ _ _)
  have r1 : (((w.alloc (.cells DD.toArray 31)).alloc (.cells zeroR.toArray 52)).alloc (.cells zeroR.toArray 52)).heap[w.heap.size + 1]? = some (.cells zeroR.toArray 52 (0, 0)) := heap_alloc_old _ _ (by simp) |>.trans (heap_alloc2_new _ _ _)
  have r2 : (((w.alloc (.cells DD.toArray 31)).alloc (.cells zeroR.toArray 52)).alloc (.cells zeroR.toArray 52)).heap[w.heap.size + 1 + 1]? = some (.cells zeroR.toArray 52 (0, 0)) := heap_alloc3_new _ _ _ _
  have HB0 : Hid (Below w.heap.size w (((w.alloc (.cells DD.toArray 31)).alloc (.cells zeroR.toArray 52)).alloc (.cells zeroR.toArray 52))) := (((Below.refl _ _).alloc (Nat.le_refl _) _).alloc (by simp) _).alloc (by simp; omega) _
  generalize (((w.alloc (.cells DD.toArray 31)).alloc (.cells zeroR.toArray 52)).alloc (.cells zeroR.toArray 52)) = W0 at *
  go_upto_region 3 with fail
  go_loopw [7] (fun i wr => ∃ q : Nat, q ≤ 12 ∧ i = .int .i64 q ∧ wr.heap[w.heap.size + 1 + 1]? = some (.cells (i64s (regsQ D m q)).toArray 52 (0, 0)) ∧ wr.heap[w.heap.size]? = some (.cells DD.toArray 31 (0, 0)) ∧ wr.heap[w.heap.size + 1]? = some (.cells zeroR.toArray 52 (0, 0)) ∧ Below w.heap.size w wr) (fun i _ => 12 - (intOf i).toNat)
  case atStart => exact ⟨0, by omega, rfl, by rw [← HZ.out]; exact r2, r0, r1, HB0.out⟩
  case round =>
    clear r0 r1 r2 HB0
    obtain ⟨q, hq, rfl, g2, g0, g1, hbr⟩ := hrel
    have HBR : Hid (Below w.heap.size w wr) := hbr
    clear hbr
    by_cases hlt : q < 12
    · have hqI : (q : Int) < 12 := by omega
      cases hb : m.testBit q
      · have hIL := HIL.out q false wr hlt hb
        have HN : Hid (wr.heap[w.heap.size + 1 + 1]? = some (.cells (i64s (regsQ D m (q + 1))).toArray 52 (0, 0))) := by show _ = _; rw [← HK.out q hlt hb]; exact g2
        clear hb
        go_wp2_with (go_at_call 62; refine hIL.mono ?_; rintro e wq ⟨rfl, hwq⟩; replace hwq := hwq.symm; subst hwq)
        go_roundw
        case rel => exact ⟨q + 1, by omega, by go_num, HN.out, g0, g1, HBR.out⟩
        case measure => simp [intOf]; omega
      · have hIL := HIL.out q true wr hlt hb
        have c1 : wr.cell? ⟨w.heap.size, 16 + q, none⟩ = some (.int .i64 (D.getD (16 + q) 0)) := by rw [cell_of_row _ _ _ _ _ _ g0, List.getElem?_toArray]; exact HG.out q hlt
        have hS := HS.out q hlt
        rw [hb, if_pos rfl] at hS
        obtain ⟨y, hy⟩ : ∃ y, wr.cell? ⟨w.heap.size + 1 + 1, q, none⟩ = some y := ⟨(i64s (regsQ D m q))[q]'(by rw [HL.out q hq]; omega), by rw [cell_of_row _ _ _ _ _ _ g2]; simp⟩
        have hf : wr.frozen? ⟨w.heap.size + 1 + 1, q, none⟩ = false := frozen_of_row _ _ _ _ _ g2
        have HN : Hid ((wr.setCell ⟨w.heap.size + 1 + 1, q, none⟩ (.int .i64 (D.getD (16 + q) 0))).heap[w.heap.size + 1 + 1]? = some (.cells (i64s (regsQ D m (q + 1))).toArray 52 (0, 0))) := by show _ = _; rw [heap_setCell_same _ _ _ _ _ _ g2, List.setIfInBounds_toArray, hS]
        have HN0 : Hid ((wr.setCell ⟨w.heap.size + 1 + 1, q, none⟩ (.int .i64 (D.getD (16 + q) 0))).heap[w.heap.size]? = some (.cells DD.toArray 31 (0, 0))) := (heap_setCell_other _ _ _ _ (by simp; omega)).trans g0
        have HN1 : Hid ((wr.setCell ⟨w.heap.size + 1 + 1, q, none⟩ (.int .i64 (D.getD (16 + q) 0))).heap[w.heap.size + 1]? = some (.cells zeroR.toArray 52 (0, 0))) := (heap_setCell_other _ _ _ _ (by simp)).trans g1
        have HNB : Hid (Below w.heap.size w (wr.setCell ⟨w.heap.size + 1 + 1, q, none⟩ (.int .i64 (D.getD (16 + q) 0)))) := by show Below _ _ _; exact HBR.out.setCell (by simp; omega) _
        have hw16 : IntKind.i64.wrap (16 + (q : Int)) = ((16 + q : Nat) : Int) := by rw [show 16 + (q : Int) = ((16 + q : Nat) : Int) by omega]; exact wrap_fits _ (by omega) (by omega)
        generalize D.getD (16 + q) 0 = x at *
        obtain ⟨u, hu⟩ : ∃ u : Nat, u = 16 + q := ⟨_, rfl⟩
        rw [← hu] at hw16 c1
        have hu64 : (u : Int) < 64 := by omega
        have hu64' : u < 64 := by omega
        clear hu hS hb g0 g1 g2
        go_wp2_with (go_at_call 62; refine hIL.mono ?_; rintro e wq ⟨rfl, hwq⟩; replace hwq := hwq.symm; subst hwq)
        go_roundw
        case rel => exact ⟨q + 1, by omega, by go_num, HN.out, HN0.out, HN1.out, HNB.out⟩
        case measure => simp [intOf]; omega
    · obtain rfl : q = 12 := by omega
      have h12 := HL.out 12 (by omega)
      rw [HA.out] at g2 h12
      have i12 : (Tryd.prog.info? 52).map (·.size) = some (i64s (regsL D m)).toArray.size := by rw [List.size_toArray, h12]; exact infoR12
      have o12 : (i64s (regsL D m)).toArray.all (·.oneCell') = true := by rw [Array.all_eq_true_iff_forall_mem]; intro u hu; exact i64s_one _ u (by simpa using hu)
      have hlz : zeroR.toArray.size = (i64s (regsL D m)).toArray.size := by rw [List.size_toArray, List.size_toArray, h12]; rfl
      obtain ⟨RR, hRR⟩ : ∃ R, R = i64s (regsL D m) := ⟨_, rfl⟩
      rw [← hRR] at g2 i12 o12 hlz
      have HRR : Hid (RR = i64s (regsL D m)) := hRR
      clear hRR h12
      go_wp2_with (first
        | (refine wpList_load_row rfl 52 (.tmp 5) rfl _ rfl _ _ _ _ g2 Tryd.underlying52 rfl i12 ?_)
        | (refine wpList_store_row rfl 52 (.tmp 4) _ rfl _ RR.toArray rfl rfl _ _ g1 i12 hlz o12 ?_))
      refine bodyPost_ret (results_cell_row rfl _ _ (w.heap.size + 1) 52 RR.toArray (0, 0) _ rfl (setRow_heap _ _ _ _ _ _ g1) Tryd.underlying52 rfl i12) rfl ⟨by rw [HRR.out], ?_⟩
      exact belowSR HBR.out (by omega) _
/-- May a machine leave so? -/
def leaveOk (D L : List Int) (fuel : Int) : Prop := 0 ≤ D.getD 29 0 ∧ D.getD 29 0 < L.length ∧ L.getD (D.getD 29 0).toNat 0 ≠ -1 ∧ 0 ≤ D.getD 28 0 ∧ D.getD 28 0 ≤ fuel

set_option maxRecDepth 100000 in
set_option maxHeartbeats 2000000 in
theorem mayLeave_any (D L : List Int) (fuel : Int) (b : Bool) (hb : b = true ↔ leaveOk D L fuel) (vl : Value) (hD : D.length = 64) (w : World) (hv : IntsVal w vl L) :
    Calls Tryd.prog 34 #[.agg (i64s D).toArray, vl, .int .i64 fuel] w fun e w' => e = .returned (.bool b) ∧ Below w.heap.size w w' := by
  obtain ⟨al, bl, ol, nl, cl, rfl, hll, hal, hcl, hcp, hmx⟩ := ints_get hv
  have c29 : (w.alloc (.cells (i64s D).toArray 31)).cell? ⟨w.heap.size, 29, none⟩ = some (.int .i64 (D.getD 29 0)) := by
    rw [cell_of_row _ _ _ _ _ _ (heap_alloc_last w _), List.getElem?_toArray]; simp [i64s, List.getD, show 29 < D.length by omega]
  have c28 : (w.alloc (.cells (i64s D).toArray 31)).cell? ⟨w.heap.size, 28, none⟩ = some (.int .i64 (D.getD 28 0)) := by
    rw [cell_of_row _ _ _ _ _ _ (heap_alloc_last w _), List.getElem?_toArray]; simp [i64s, List.getD, show 28 < D.length by omega]
  have HB : Hid (Below w.heap.size w (w.alloc (.cells (i64s D).toArray 31))) := (Below.refl _ _).alloc (Nat.le_refl _) _
  have HCL : Hid (∀ k, k < nl → (w.alloc (.cells (i64s D).toArray 31)).cell? ⟨bl, ol + k, none⟩ = some (.int .i64 (L.getD k 0))) := fun k hk => cell_alloc (hcl k hk) _
  have HAL : Hid (0 < nl → al = some ⟨bl, ol, none⟩) := hal
  unfold leaveOk at hb
  rw [hll] at hb
  clear hv hcl hal hll hD
  generalize i64s D = DD at *
  generalize D.getD 29 0 = pc at *
  generalize D.getD 28 0 = fu at *
  by_cases h1 : 0 ≤ pc
  case neg =>
    have hbv : b = false := by rw [Bool.eq_false_iff]; intro hh; obtain ⟨g1, g2, g3, g4, g5⟩ := hb.1 hh; exact h1 g1
    rw [hbv]
    have d1 : decide (0 ≤ pc) = false := by simpa using h1
    clear h1
    clear hb hbv HCL HAL
    go_enter Tryd.func34, Tryd.ntmps34
    go_upto_region 1 with fail
    generalize (w.alloc (.cells DD.toArray 31)) = W at *
    go_wp2
    go_ret
    exact ⟨rfl, HB.out⟩
  obtain ⟨pn, rfl⟩ := Int.eq_ofNat_of_zero_le h1
  by_cases h2 : (pn : Int) < nl
  case neg =>
    have hbv : b = false := by rw [Bool.eq_false_iff]; intro hh; obtain ⟨g1, g2, g3, g4, g5⟩ := hb.1 hh; exact h2 g2
    rw [hbv]
    have d2 : decide ((pn : Int) < (nl : Int)) = false := by simpa using h2
    have d3 : decide (pn < nl) = false := by simp; omega
    clear h2 h1
    clear hb hbv HCL HAL
    go_enter Tryd.func34, Tryd.ntmps34
    go_upto_region 1 with fail
    generalize (w.alloc (.cells DD.toArray 31)) = W at *
    go_wp2
    go_ret
    exact ⟨rfl, HB.out⟩
  have hpn : pn < nl := by omega
  obtain rfl := HAL.out (by omega)
  have cL := HCL.out pn hpn
  have e3 : L.getD ((pn : Nat) : Int).toNat 0 = L.getD pn 0 := rfl
  rw [e3] at hb
  generalize L.getD pn 0 = lv at *
  by_cases h3 : lv ≠ -1
  case neg =>
    obtain rfl : lv = -1 := by omega
    have hbv : b = false := by rw [Bool.eq_false_iff]; intro hh; obtain ⟨g1, g2, g3, g4, g5⟩ := hb.1 hh; exact h3 g3
    rw [hbv]
    clear h1 h3
    clear hb hbv HCL HAL
    go_enter Tryd.func34, Tryd.ntmps34
    go_upto_region 1 with fail
    generalize (w.alloc (.cells DD.toArray 31)) = W at *
    go_wp2
    go_ret
    exact ⟨rfl, HB.out⟩
  have d4 : (lv != -1) = true := by simpa using h3
  by_cases h4 : 0 ≤ fu
  case neg =>
    have hbv : b = false := by rw [Bool.eq_false_iff]; intro hh; obtain ⟨g1, g2, g3, g4, g5⟩ := hb.1 hh; exact h4 g4
    rw [hbv]
    have d1 : decide (0 ≤ fu) = false := by simpa using h4
    clear h1 h3 h4
    clear hb hbv HCL HAL
    go_enter Tryd.func34, Tryd.ntmps34
    go_upto_region 1 with fail
    generalize (w.alloc (.cells DD.toArray 31)) = W at *
    go_wp2
    go_ret
    exact ⟨rfl, HB.out⟩
  by_cases h5 : fu ≤ fuel
  case neg =>
    have hbv : b = false := by rw [Bool.eq_false_iff]; intro hh; obtain ⟨g1, g2, g3, g4, g5⟩ := hb.1 hh; exact h5 g5
    rw [hbv]
    have d1 : decide (0 ≤ fu) = true := by simpa using h4
    have d2 : decide (fu ≤ fuel) = false := by simpa using h5
    clear h1 h3 h4 h5
    clear hb hbv HCL HAL
    go_enter Tryd.func34, Tryd.ntmps34
    go_upto_region 1 with fail
    generalize (w.alloc (.cells DD.toArray 31)) = W at *
    go_wp2
    go_ret
    exact ⟨rfl, HB.out⟩
  have hbv : b = true := by rw [hb]; exact ⟨h1, h2, h3, h4, h5⟩
  rw [hbv]
  have d1 : decide (0 ≤ fu) = true := by simpa using h4
  have d2 : decide (fu ≤ fuel) = true := by simpa using h5
  clear h1 h3 h4 h5
  clear hb hbv HCL HAL
  go_enter Tryd.func34, Tryd.ntmps34
  go_upto_region 1 with fail
  generalize (w.alloc (.cells DD.toArray 31)) = W at *
  go_wp2
  go_ret
  exact ⟨rfl, HB.out⟩
end Go.Proofs.YteabbanjjdmjkaaDoor
