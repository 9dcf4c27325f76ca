import Derived.Test.YtldbmdgpdolaaaaGreatDoorPXSsaKit
namespace Go.Proofs.YtldbmdgpdolaaaaGreatDoor
open Go Go.RowKit

def upto (a b : List Int) (q : Nat) : List Int := a.take q ++ b.drop q
theorem upto_zero (a b : List Int) : upto a b 0 = b := by simp [upto]
theorem upto_all {a b : List Int} (ha : a.length = 12) (hb : b.length = 12) : upto a b 12 = a := by simp [upto, List.take_of_length_le, ha, List.drop_eq_nil_of_le, hb]
theorem upto_len {a b : List Int} (ha : a.length = 12) (hb : b.length = 12) {q : Nat} (hq : q ≤ 12) : (upto a b q).length = 12 := by simp [upto, ha, hb]; omega
theorem upto_set {a b : List Int} (ha : a.length = 12) (hb : b.length = 12) {q : Nat} (hq : q < 12) : (upto a b q).set q (a.getD q 0) = upto a b (q + 1) := by
  unfold upto
  have h1 : (a.take q).length = q := by rw [List.length_take]; omega
  rw [List.set_append_right _ _ (by omega), h1, Nat.sub_self, List.drop_eq_getElem_cons (show q < b.length by omega), List.set_cons_zero, List.take_succ_eq_append_getElem (show q < a.length by omega), List.append_assoc]
  simp [List.getD, show q < a.length by omega]
theorem upto_same {a b : List Int} (ha : a.length = 12) (hb : b.length = 12) {q : Nat} (hq : q < 12) (h : a.getD q 0 = b.getD q 0) : upto a b q = upto a b (q + 1) := by
  unfold upto
  rw [List.drop_eq_getElem_cons (show q < b.length by omega), List.take_succ_eq_append_getElem (show q < a.length by omega), List.append_assoc]
  have e1 : a.getD q 0 = a[q]'(by omega) := by simp [List.getD, show q < a.length by omega]
  have e2 : b.getD q 0 = b[q]'(by omega) := by simp [List.getD, show q < b.length by omega]
  rw [e1, e2] at h
  rw [h]; rfl
set_option maxRecDepth 100000 in
set_option maxHeartbeats 2000000 in
theorem wantedS_any {P : List Fn} {f : Fn} {S : List Nat} {T : Nat → Nat} {L : List Int} {pv cv bv lv : Value} (w : World) (h : SsaFn w P f S T L pv cv bv lv) (l : List Int) (hl : l.length = 12) (pc : Nat) (hpc : pc < f.code.length) (hw : Way f 63 pc) :
    Calls Tryz.prog 49 #[.agg (fnV f pv cv bv lv), .agg (i64s l).toArray, .int .i64 pc] w fun e w' => e = .returned (.agg (i64s (wantR (mkL L pc) l)).toArray) ∧ Below w.heap.size w w' := by
  obtain ⟨m, hm, hml⟩ : ∃ m : Nat, m < 4096 ∧ L.getD pc 0 = (m : Int) := by
    rcases h.lspec.2 pc hpc with ⟨h1, -⟩ | ⟨-, m, h1, h2, -⟩
    · exact absurd hw h1
    · exact ⟨m, h1, h2⟩
  have hmk : mkL L pc = m := by unfold mkL; rw [hml]; rfl
  rw [hmk]
  obtain ⟨ao, lb, lo, n, cap, e, hll, ha, hcl, hcp⟩ := ints_get h.live
  have hLl := h.lspec.1
  have hpn : pc < n := by omega
  obtain rfl := ha (by omega)
  have cm := hcl pc hpn
  rw [hml] at cm
  subst e
  have HCM : Hid (∀ W, Below w.heap.size w W → W.cell? ⟨lb, lo + pc, none⟩ = some (.int .i64 (m : Int))) := fun W hb => keeps_below hb _ _ cm
  have hpI : (pc : Int) < (n : Int) := by omega
  have HWR : Hid (wantR m l = wantR m l ∧ (wantR m l).length = 12) := ⟨rfl, wantR_len m l⟩
  have HS : Hid (∀ q, q < 12 → m.testBit q = false → (i64s (upto (wantR m l) l q)).set q (.int .i64 (-1)) = i64s (upto (wantR m l) l (q + 1))) := fun q hq hb => by
    rw [i64s_set, ← upto_set (wantR_len m l) hl hq, wantR_get m l hq, if_neg (by rw [hb]; decide)]
  have HK : Hid (∀ q, q < 12 → m.testBit q = true → upto (wantR m l) l q = upto (wantR m l) l (q + 1)) := fun q hq hb => upto_same (wantR_len m l) hl hq (by rw [wantR_get m l hq, if_pos hb])
  have HL : Hid (∀ q, q ≤ 12 → (i64s (upto (wantR m l) l q)).length = 12) := fun q hq => by simp [i64s, upto_len (wantR_len m l) hl hq]
  have HBD : Hid (∀ q, bits .and .i64 ((m : Int) / 2 ^ q) 1 = if m.testBit q = true then 1 else 0) := fun q => bit_downS m q hm
  have HZ : Hid (upto (wantR m l) l 0 = l) := upto_zero _ _
  have HA : Hid (upto (wantR m l) l 12 = wantR m l) := upto_all (wantR_len m l) hl
  have i12 := infoRgL (wantR_len m l)
  have o12 := oneI64 (wantR m l)
  have hlz : zero12.toArray.size = (i64s (wantR m l)).toArray.size := by simp [zero12, i64s, wantR_len]
  have hpcN : ¬ (pc : Int) < 0 := by omega
  unfold fnV
  clear h hml hmk hll hcl hcp ha hLl hw hpc hm cm
  generalize hdd : i64s l = DD at *
  go_enter Tryz.func49, Tryz.ntmps49
  go_upto_region 1 with fail
  rw [show (#[.int .i64 0, .int .i64 0, .int .i64 0, .int .i64 0, .int .i64 0, .int .i64 0, .int .i64 0, .int .i64 0, .int .i64 0, .int .i64 0, .int .i64 0, .int .i64 0] : Array Value) = zero12.toArray from rfl]
  have r0 : (((w.alloc (.cells #[pv, .int .i64 f.params, cv, bv, .slice (some ⟨lb, lo, none⟩) n cap] 89)).alloc (.cells DD.toArray 95)).alloc (.cells zero12.toArray 95)).heap[w.heap.size + 1]? = some (.cells DD.toArray 95 (0, 0)) := heap_alloc_old _ _ (by simp) |>.trans (heap_alloc2_new _ _ _)
  have r1 : (((w.alloc (.cells #[pv, .int .i64 f.params, cv, bv, .slice (some ⟨lb, lo, none⟩) n cap] 89)).alloc (.cells DD.toArray 95)).alloc (.cells zero12.toArray 95)).heap[w.heap.size + 1 + 1]? = some (.cells zero12.toArray 95 (0, 0)) := heap_alloc3_newS _ _ _ _
  have k4 : (((w.alloc (.cells #[pv, .int .i64 f.params, cv, bv, .slice (some ⟨lb, lo, none⟩) n cap] 89)).alloc (.cells DD.toArray 95)).alloc (.cells zero12.toArray 95)).cell? ⟨w.heap.size, 4, none⟩ = some (.slice (some ⟨lb, lo, none⟩) n cap) := cell_alloc (cell_alloc (by rw [cell_of_row _ _ _ _ _ _ (heap_alloc_last w _)]; rfl) _) _
  have HB0 : Hid (Below w.heap.size w (((w.alloc (.cells #[pv, .int .i64 f.params, cv, bv, .slice (some ⟨lb, lo, none⟩) n cap] 89)).alloc (.cells DD.toArray 95)).alloc (.cells zero12.toArray 95))) := (((Below.refl _ _).alloc (Nat.le_refl _) _).alloc (by simp) _).alloc (by simp; omega) _
  generalize (((w.alloc (.cells #[pv, .int .i64 f.params, cv, bv, .slice (some ⟨lb, lo, none⟩) n cap] 89)).alloc (.cells DD.toArray 95)).alloc (.cells zero12.toArray 95)) = W0 at *
  go_upto_region 2 with fail
  go_loopw [7, 8] (fun _ i wr => ∃ q : Nat, q ≤ 12 ∧ i = .int .i64 q ∧ wr.heap[w.heap.size + 1]? = some (.cells (i64s (upto (wantR m l) l q)).toArray 95 (0, 0)) ∧ wr.heap[w.heap.size + 1 + 1]? = some (.cells zero12.toArray 95 (0, 0)) ∧ wr.cell? ⟨w.heap.size, 4, none⟩ = some (.slice (some ⟨lb, lo, none⟩) n cap) ∧ Below w.heap.size w wr) (fun _ i _ => 12 - (intOf i).toNat)
  case atStart => exact ⟨0, by omega, rfl, by rw [HZ.out, hdd]; exact r0, r1, k4, HB0.out⟩
  case round =>
    clear r0 r1 k4 HB0
    obtain ⟨q, hq, rfl, g0, g1, g4, hbr⟩ := hrel
    have HBR : Hid (Below w.heap.size w wr) := hbr
    have cm := HCM.out wr hbr
    clear hbr
    by_cases hlt : q < 12
    · have hqI : (q : Int) < 12 := by omega
      have hqn : ¬ (q : Int) < 0 := by omega
      have hq64 : (q : Int) < 64 := by omega
      have hbd := HBD.out q
      cases hb : m.testBit q
      · rw [hb, if_neg (by decide)] at hbd
        have hS := HS.out q hlt hb
        obtain ⟨y, hy⟩ : ∃ y, wr.cell? ⟨w.heap.size + 1, q, none⟩ = some y := ⟨(i64s (upto (wantR m l) l q))[q]'(by rw [HL.out q hq]; omega), by rw [cell_of_row _ _ _ _ _ _ g0]; simp⟩
        have hf : wr.frozen? ⟨w.heap.size + 1, q, none⟩ = false := frozen_of_row _ _ _ _ _ g0
        have HN : Hid ((wr.setCell ⟨w.heap.size + 1, q, none⟩ (.int .i64 (-1))).heap[w.heap.size + 1]? = some (.cells (i64s (upto (wantR m l) l (q + 1))).toArray 95 (0, 0))) := by show _ = _; rw [heap_setCell_same _ _ _ _ _ _ g0, List.setIfInBounds_toArray, hS]
        have HN1 : Hid ((wr.setCell ⟨w.heap.size + 1, q, none⟩ (.int .i64 (-1))).heap[w.heap.size + 1 + 1]? = some (.cells zero12.toArray 95 (0, 0))) := (heap_setCell_other _ _ _ _ (by simp)).trans g1
        have HN4 : Hid ((wr.setCell ⟨w.heap.size + 1, q, none⟩ (.int .i64 (-1))).cell? ⟨w.heap.size, 4, none⟩ = some (.slice (some ⟨lb, lo, none⟩) n cap)) := (World.cell?_of_block (heap_setCell_other _ _ _ _ (by simp))).trans g4
        have HNB : Hid (Below w.heap.size w (wr.setCell ⟨w.heap.size + 1, q, none⟩ (.int .i64 (-1)))) := by show Below _ _ _; exact HBR.out.setCell (by simp) _
        clear hS hb g0 g1
        go_wp2
        go_roundw
        case rel => exact ⟨q + 1, by omega, by go_num, HN.out, HN1.out, HN4.out, HNB.out⟩
        case measure => simp [intOf]; omega
      · rw [hb, if_pos rfl] at hbd
        have HN : Hid (wr.heap[w.heap.size + 1]? = some (.cells (i64s (upto (wantR m l) l (q + 1))).toArray 95 (0, 0))) := by show _ = _; rw [← HK.out q hlt hb]; exact g0
        clear hb
        go_wp2
        go_roundw
        case rel => exact ⟨q + 1, by omega, by go_num, HN.out, g1, g4, HBR.out⟩
        case measure => simp [intOf]; omega
    · obtain rfl : q = 12 := by omega
      rw [HA.out] at g0
      obtain ⟨RR, hRR⟩ : ∃ R, R = i64s (wantR m l) := ⟨_, rfl⟩
      rw [← hRR] at g0 i12 o12 hlz
      have HRR : Hid (RR = i64s (wantR m l)) := hRR
      clear hRR
      go_wp2_with (first
        | (refine wpList_load_row rfl 95 (.tmp 4) rfl _ rfl _ _ _ _ g0 Tryz.underlying95 rfl i12 ?_)
        | (refine wpList_store_row rfl 95 (.tmp 6) _ rfl _ RR.toArray rfl rfl _ _ g1 i12 hlz o12 ?_))
      refine bodyPost_ret (results_cell_row rfl _ _ (w.heap.size + 1 + 1) 95 RR.toArray (0, 0) _ rfl (setRow_heap _ _ _ _ _ _ g1) Tryz.underlying95 rfl i12) rfl ⟨by rw [HRR.out], ?_⟩
      exact belowSK HBR.out (by omega) _
end Go.Proofs.YtldbmdgpdolaaaaGreatDoor
