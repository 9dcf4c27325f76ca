import Derived.Test.YtldbmdgpdolaaaaDoorPXPlaceMeet
import Derived.Test.YtldbmdgpdolaaaaDoorPXBrief
namespace Go.Proofs.YtldbmdgpdolaaaaDoor
open Go Go.RowKit

def upto (a b : List Int) (q : Nat) : List Int := a.take q ++ b.drop q
theorem upto_zero (a b : List Int) : upto a b 0 = b := by simp [upto]
theorem upto_all {a b : List Int} (ha : a.length = 12) (hb : b.length = 12) : upto a b 12 = a := by simp [upto, List.take_of_length_le, ha, List.drop_eq_nil_of_le, hb]
theorem upto_len {a b : List Int} (ha : a.length = 12) (hb : b.length = 12) {q : Nat} (hq : q ≤ 12) : (upto a b q).length = 12 := by simp [upto, ha, hb]; omega
theorem upto_set {a b : List Int} (ha : a.length = 12) (hb : b.length = 12) {q : Nat} (hq : q < 12) : (upto a b q).set q (a.getD q 0) = upto a b (q + 1) := by
  unfold upto
  have h1 : (a.take q).length = q := by rw [List.length_take]; omega
  rw [List.set_append_right _ _ (by omega), h1, Nat.sub_self, List.drop_eq_getElem_cons (show q < b.length by omega), List.set_cons_zero, List.take_succ_eq_append_getElem (show q < a.length by omega), List.append_assoc]
  simp [List.getD, show q < a.length by omega]
theorem upto_same {a b : List Int} (ha : a.length = 12) (hb : b.length = 12) {q : Nat} (hq : q < 12) (h : a.getD q 0 = b.getD q 0) : upto a b q = upto a b (q + 1) := by
  unfold upto
  rw [List.drop_eq_getElem_cons (show q < b.length by omega), List.take_succ_eq_append_getElem (show q < a.length by omega), List.append_assoc]
  have e1 : a.getD q 0 = a[q]'(by omega) := by simp [List.getD, show q < a.length by omega]
  have e2 : b.getD q 0 = b[q]'(by omega) := by simp [List.getD, show q < b.length by omega]
  rw [e1, e2] at h
  rw [h]; rfl
set_option maxRecDepth 100000 in
set_option maxHeartbeats 2000000 in
theorem wantedS_any {P : List Fn} {f : Fn} {S : List Nat} {T : Nat → Nat} {L : List Int} {pv cv bv lv : Value} (w : World) (h : SsaFn w P f S T L pv cv bv lv) (l : List Int) (hl : l.length = 12) (pc : Nat) (hpc : pc < f.code.length) (hw : Way f 63 pc) :
    Calls Tryd.prog 47 #[.agg (fnV f pv cv bv lv), .agg (i64s l).toArray, .int .i64 pc] w fun e w' => e = .returned (.agg (i64s (wantR (mkL L pc) l)).toArray) ∧ Below w.heap.size w w' := by
  obtain ⟨m, hm, hml⟩ : ∃ m : Nat, m < 4096 ∧ L.getD pc 0 = (m : Int) := by
    rcases h.lspec.2 pc hpc with ⟨h1, -⟩ | ⟨-, m, h1, h2, -⟩
    · exact absurd hw h1
    · exact ⟨m, h1, h2⟩
  have hmk : mkL L pc = m := by unfold mkL; rw [hml]; rfl
  rw [hmk]
  obtain ⟨ao, lb, lo, n, cap, e, hll, ha, hcl, hcp⟩ := ints_get h.live
  have hLl := h.lspec.1
  have hpn : pc < n := by omega
  obtain rfl := ha (by omega)
  have cm := hcl pc hpn
  rw [hml] at cm
  subst e
  have HCM : Hid (∀ W, Below w.heap.size w W → W.cell? ⟨lb, lo + pc, none⟩ = some (.int .i64 (m : Int))) := fun W hb => keeps_below hb _ _ cm
  have hpI : (pc : Int) < (n : Int) := by omega
  have HWR : Hid (wantR m l = wantR m l ∧ (wantR m l).length = 12) := ⟨rfl, wantR_len m l⟩
  have HS : Hid (∀ q, q < 12 → m.testBit q = false → (i64s (upto (wantR m l) l q)).set q (.int .i64 (-1)) = i64s (upto (wantR m l) l (q + 1))) := fun q hq hb => by
    rw [i64s_set, ← upto_set (wantR_len m l) hl hq, wantR_get m l hq, if_neg (by rw [hb]; decide)]
  have HK : Hid (∀ q, q < 12 → m.testBit q = true → upto (wantR m l) l q = upto (wantR m l) l (q + 1)) := fun q hq hb => upto_same (wantR_len m l) hl hq (by rw [wantR_get m l hq, if_pos hb])
  have HL : Hid (∀ q, q ≤ 12 → (i64s (upto (wantR m l) l q)).length = 12) := fun q hq => by simp [i64s, upto_len (wantR_len m l) hl hq]
  have HBD : Hid (∀ q, bits .and .i64 ((m : Int) / 2 ^ q) 1 = if m.testBit q = true then 1 else 0) := fun q => bit_downS m q hm
  have HZ : Hid (upto (wantR m l) l 0 = l) := upto_zero _ _
  have HA : Hid (upto (wantR m l) l 12 = wantR m l) := upto_all (wantR_len m l) hl
  have i12 := infoRgL (wantR_len m l)
  have o12 := oneI64 (wantR m l)
  have hlz : zero12.toArray.size = (i64s (wantR m l)).toArray.size := by simp [zero12, i64s, wantR_len]
  have hpcN : ¬ (pc : Int) < 0 := by omega
  unfold fnV
  clear h hml hmk hll hcl hcp ha hLl hw hpc hm cm
  generalize hdd : i64s l = DD at *
  go_enter Tryd.func47, Tryd.ntmps47
  go_upto_region 1 with fail
  rw [show (#[.int .i64 0, .int .i64 0, .int .i64 0, .int .i64 0, .int .i64 0, .int .i64 0, .int .i64 0, .int .i64 0, .int .i64 0, .int .i64 0, .int .i64 0, .int .i64 0] : Array Value) = zero12.toArray from rfl]
  have r0 : (((w.alloc (.cells #[pv, .int .i64 f.params, cv, bv, .slice (some ⟨lb, lo, none⟩) n cap] 56)).alloc (.cells DD.toArray 108)).alloc (.cells zero12.toArray 108)).heap[w.heap.size + 1]? = some (.cells DD.toArray 108 (0, 0)) := heap_alloc_old _ _ (by simp) |>.trans (heap_alloc2_new _ _ _)
  have r1 : (((w.alloc (.cells #[pv, .int .i64 f.params, cv, bv, .slice (some ⟨lb, lo, none⟩) n cap] 56)).alloc (.cells DD.toArray 108)).alloc (.cells zero12.toArray 108)).heap[w.heap.size + 1 + 1]? = some (.cells zero12.toArray 108 (0, 0)) := heap_alloc3_newS _ _ _ _
  have k4 : (((w.alloc (.cells #[pv, .int .i64 f.params, cv, bv, .slice (some ⟨lb, lo, none⟩) n cap] 56)).alloc (.cells DD.toArray 108)).alloc (.cells zero12.toArray 108)).cell? ⟨w.heap.size, 4, none⟩ = some (.slice (some ⟨lb, lo, none⟩) n cap) := cell_alloc (cell_alloc (by rw [cell_of_row _ _ _ _ _ _ (heap_alloc_last w _)]; rfl) _) _
  have HB0 : Hid (Below w.heap.size w (((w.alloc (.cells #[pv, .int .i64 f.params, cv, bv, .slice (some ⟨lb, lo, none⟩) n cap] 56)).alloc (.cells DD.toArray 108)).alloc (.cells zero12.toArray 108))) := (((Below.refl _ _).alloc (Nat.le_refl _) _).alloc (by simp) _).alloc (by simp; omega) _
  generalize (((w.alloc (.cells #[pv, .int .i64 f.params, cv, bv, .slice (some ⟨lb, lo, none⟩) n cap] 56)).alloc (.cells DD.toArray 108)).alloc (.cells zero12.toArray 108)) = W0 at *
  go_upto_region 2 with fail
  go_loopw [7, 8] (fun _ i wr => ∃ q : Nat, q ≤ 12 ∧ i = .int .i64 q ∧ wr.heap[w.heap.size + 1]? = some (.cells (i64s (upto (wantR m l) l q)).toArray 108 (0, 0)) ∧ wr.heap[w.heap.size + 1 + 1]? = some (.cells zero12.toArray 108 (0, 0)) ∧ wr.cell? ⟨w.heap.size, 4, none⟩ = some (.slice (some ⟨lb, lo, none⟩) n cap) ∧ Below w.heap.size w wr) (fun _ i _ => 12 - (intOf i).toNat)
  case atStart => exact ⟨0, by omega, rfl, by rw [HZ.out, hdd]; exact r0, r1, k4, HB0.out⟩
  case round =>
    clear r0 r1 k4 HB0
    obtain ⟨q, hq, rfl, g0, g1, g4, hbr⟩ := hrel
    have HBR : Hid (Below w.heap.size w wr) := hbr
    have cm := HCM.out wr hbr
    clear hbr
    by_cases hlt : q < 12
    · have hqI : (q : Int) < 12 := by omega
      have hqn : ¬ (q : Int) < 0 := by omega
      have hq64 : (q : Int) < 64 := by omega
      have hbd := HBD.out q
      cases hb : m.testBit q
      · rw [hb, if_neg (by decide)] at hbd
        have hS := HS.out q hlt hb
        obtain ⟨y, hy⟩ : ∃ y, wr.cell? ⟨w.heap.size + 1, q, none⟩ = some y := ⟨(i64s (upto (wantR m l) l q))[q]'(by rw [HL.out q hq]; omega), by rw [cell_of_row _ _ _ _ _ _ g0]; simp⟩
        have hf : wr.frozen? ⟨w.heap.size + 1, q, none⟩ = false := frozen_of_row _ _ _ _ _ g0
        have HN : Hid ((wr.setCell ⟨w.heap.size + 1, q, none⟩ (.int .i64 (-1))).heap[w.heap.size + 1]? = some (.cells (i64s (upto (wantR m l) l (q + 1))).toArray 108 (0, 0))) := by show _ = _; rw [heap_setCell_same _ _ _ _ _ _ g0, List.setIfInBounds_toArray, hS]
        have HN1 : Hid ((wr.setCell ⟨w.heap.size + 1, q, none⟩ (.int .i64 (-1))).heap[w.heap.size + 1 + 1]? = some (.cells zero12.toArray 108 (0, 0))) := (heap_setCell_other _ _ _ _ (by simp)).trans g1
        have HN4 : Hid ((wr.setCell ⟨w.heap.size + 1, q, none⟩ (.int .i64 (-1))).cell? ⟨w.heap.size, 4, none⟩ = some (.slice (some ⟨lb, lo, none⟩) n cap)) := (World.cell?_of_block (heap_setCell_other _ _ _ _ (by simp))).trans g4
        have HNB : Hid (Below w.heap.size w (wr.setCell ⟨w.heap.size + 1, q, none⟩ (.int .i64 (-1)))) := by show Below _ _ _; exact HBR.out.setCell (by simp) _
        clear hS hb g0 g1
        go_wp2
        go_roundw
        case rel => exact ⟨q + 1, by omega, by go_num, HN.out, HN1.out, HN4.out, HNB.out⟩
        case measure => simp [intOf]; omega
      · rw [hb, if_pos rfl] at hbd
        have HN : Hid (wr.heap[w.heap.size + 1]? = some (.cells (i64s (upto (wantR m l) l (q + 1))).toArray 108 (0, 0))) := by show _ = _; rw [← HK.out q hlt hb]; exact g0
        clear hb
        go_wp2
        go_roundw
        case rel => exact ⟨q + 1, by omega, by go_num, HN.out, g1, g4, HBR.out⟩
        case measure => simp [intOf]; omega
    · obtain rfl : q = 12 := by omega
      rw [HA.out] at g0
      obtain ⟨RR, hRR⟩ : ∃ R, R = i64s (wantR m l) := ⟨_, rfl⟩
      rw [← hRR] at g0 i12 o12 hlz
      have HRR : Hid (RR = i64s (wantR m l)) := hRR
      clear hRR
      go_wp2_with (first
        | (refine wpList_load_row rfl 108 (.tmp 4) rfl _ rfl _ _ _ _ g0 Tryd.underlying108 rfl i12 ?_)
        | (refine wpList_store_row rfl 108 (.tmp 6) _ rfl _ RR.toArray rfl rfl _ _ g1 i12 hlz o12 ?_))
      refine bodyPost_ret (results_cell_row rfl _ _ (w.heap.size + 1 + 1) 108 RR.toArray (0, 0) _ rfl (setRow_heap _ _ _ _ _ _ g1) Tryd.underlying108 rfl i12) rfl ⟨by rw [HRR.out], ?_⟩
      exact belowSK HBR.out (by omega) _
end Go.Proofs.YtldbmdgpdolaaaaDoor
namespace Go.Proofs.YtldbmdgpdolaaaaDoor
open Go Go.RowKit

theorem infoInsS : (Tryd.prog.info? 42).map (·.size) = some 5 := by kernel_rfl
set_option maxRecDepth 100000 in
set_option maxHeartbeats 4000000 in
theorem onS_any {P : List Fn} {f : Fn} {S : List Nat} {T : Nat → Nat} {L : List Int} {pv cv bv lv : Value} (w : World) (h : SsaFn w P f S T L pv cv bv lv) (ht : TabOk w) (l : List Int) (hl : l.length = 12) (fr t : Nat) (hft : fr ≤ t) (htl : t ≤ f.code.length) :
    Calls Tryd.prog 49 #[.agg (fnV f pv cv bv lv), .agg (i64s l).toArray, .int .i64 fr, .int .i64 t] w fun e w' => e = .returned (.agg (i64s (onR f fr (t - fr) l)).toArray) ∧ Below w.heap.size w w' := by
  obtain ⟨cb, co, ccap, rfl, hc1, hc2, hc3⟩ := h.code
  have HIN : Hid (∀ W, Below w.heap.size w W → ∀ q, q < f.code.length → W.rangeAt cb (co + q * 5) [.int .i64 (insD f q).op, .int .i64 (insD f q).dst, .int .i64 (insD f q).a, .int .i64 (insD f q).b, .int .i64 (insD f q).imm]) := fun W hb q hq i u hu => by
    obtain ⟨i0, i1, i2, i3, i4⟩ := (hc3 q hq).keeps (keeps_below hb)
    have hi : i < 5 := (List.getElem?_eq_some_iff.1 hu).1
    match i, hi, hu with
    | 0, _, hu => cases hu; exact i0
    | 1, _, hu => cases hu; exact i1
    | 2, _, hu => cases hu; exact i2
    | 3, _, hu => cases hu; exact i3
    | 4, _, hu => cases hu; exact i4
  have HIO : Hid (∀ q, q < f.code.length → InsOk P (insD f q)) := fun q hq => (h.flow.insD hq).1
  have HTB : Hid (∀ W, Below w.heap.size w W → TabOk W) := fun W hb => ht.below hb
  have h1000 : f.code.length ≤ 1000 := by have := h.flow.ok.len2; omega
  have HLEN : Hid (∀ n, (onR f fr n l).length = 12) := fun n => by rw [onR_len]; exact hl
  have HSN : Hid (∀ n, onR f fr (n + 1) l = on1 f (fr + n) (onR f fr n l)) := fun n => onR_snoc f n fr l
  have HZ : Hid (onR f fr 0 l = l) := rfl
  have i12 := infoRgL (HLEN.out (t - fr))
  have o12 := oneI64 (onR f fr (t - fr) l)
  have hlz : zero12.toArray.size = (i64s (onR f fr (t - fr) l)).toArray.size := by simp [zero12, i64s, HLEN.out]
  unfold fnV
  clear h ht hc3
  generalize hdd : i64s l = DD at *
  generalize hCL : f.code.length = CL at *
  have HCL : Hid (f.code.length = CL) := hCL
  clear hCL
  go_enter Tryd.func49, Tryd.ntmps49
  go_upto_region 1 with fail
  rw [show (#[.int .i64 0, .int .i64 0, .int .i64 0, .int .i64 0, .int .i64 0, .int .i64 0, .int .i64 0, .int .i64 0, .int .i64 0, .int .i64 0, .int .i64 0, .int .i64 0] : Array Value) = zero12.toArray from rfl]
  have r0 : (((w.alloc (.cells #[pv, .int .i64 f.params, .slice (some ⟨cb, co, none⟩) CL ccap, bv, lv] 56)).alloc (.cells DD.toArray 108)).alloc (.cells zero12.toArray 108)).heap[w.heap.size + 1]? = some (.cells DD.toArray 108 (0, 0)) := heap_alloc_old _ _ (by simp) |>.trans (heap_alloc2_new _ _ _)
  have r1 : (((w.alloc (.cells #[pv, .int .i64 f.params, .slice (some ⟨cb, co, none⟩) CL ccap, bv, lv] 56)).alloc (.cells DD.toArray 108)).alloc (.cells zero12.toArray 108)).heap[w.heap.size + 1 + 1]? = some (.cells zero12.toArray 108 (0, 0)) := heap_alloc3_newS _ _ _ _
  have k2 : (((w.alloc (.cells #[pv, .int .i64 f.params, .slice (some ⟨cb, co, none⟩) CL ccap, bv, lv] 56)).alloc (.cells DD.toArray 108)).alloc (.cells zero12.toArray 108)).cell? ⟨w.heap.size, 2, none⟩ = some (.slice (some ⟨cb, co, none⟩) CL ccap) := cell_alloc (cell_alloc (by rw [cell_of_row _ _ _ _ _ _ (heap_alloc_last w _)]; rfl) _) _
  have HB0 : Hid (Below w.heap.size w (((w.alloc (.cells #[pv, .int .i64 f.params, .slice (some ⟨cb, co, none⟩) CL ccap, bv, lv] 56)).alloc (.cells DD.toArray 108)).alloc (.cells zero12.toArray 108))) := (((Below.refl _ _).alloc (Nat.le_refl _) _).alloc (by simp) _).alloc (by simp; omega) _
  generalize (((w.alloc (.cells #[pv, .int .i64 f.params, .slice (some ⟨cb, co, none⟩) CL ccap, bv, lv] 56)).alloc (.cells DD.toArray 108)).alloc (.cells zero12.toArray 108)) = W0 at *
  go_upto_region 2 with fail
  go_loopw [9, 10] (fun i _ wr => ∃ q : Nat, fr ≤ q ∧ q ≤ t ∧ i = .int .i64 q ∧ wr.heap[w.heap.size + 1]? = some (.cells (i64s (onR f fr (q - fr) l)).toArray 108 (0, 0)) ∧ wr.heap[w.heap.size + 1 + 1]? = some (.cells zero12.toArray 108 (0, 0)) ∧ wr.cell? ⟨w.heap.size, 2, none⟩ = some (.slice (some ⟨cb, co, none⟩) CL ccap) ∧ Below w.heap.size w wr) (fun i _ _ => t - (intOf i).toNat)
  case atStart => exact ⟨fr, Nat.le_refl _, hft, rfl, by rw [Nat.sub_self, HZ.out, hdd]; exact r0, r1, k2, HB0.out⟩
  case round =>
    clear r0 r1 k2 HB0
    obtain ⟨q, hq0, hq, rfl, g0, g1, g2, hbr⟩ := hrel
    have HBR : Hid (Below w.heap.size w wr) := hbr
    by_cases hlt : q < t
    · have hqI : (q : Int) < (t : Int) := by omega
      have hqC : (q : Int) < (CL : Int) := by omega
      have hq1000 : q ≤ 1000 := by omega
      have hio := HIO.out q (by omega)
      have HRG := HIN.out wr hbr q (by omega)
      have hn : q + 1 - fr = (q - fr) + 1 := by omega
      have HN1 : Hid (onR f fr (q + 1 - fr) l = if setsB (insD f q).op = true then (onR f fr (q - fr) l).set (insD f q).dst.toNat (madeI q) else onR f fr (q - fr) l) := by
        show _ = _
        rw [hn, HSN.out (q - fr), show fr + (q - fr) = q by omega]; rfl
      have HLQ := HLEN.out (q - fr)
      obtain ⟨dn, hdn⟩ : ∃ n : Nat, (insD f q).dst = (n : Int) := ⟨(insD f q).dst.toNat, by have := hio.dst0; omega⟩
      have hd12 : dn < 12 := by have := hio.dst1; omega
      have HDN : Hid ((insD f q).dst.toNat = dn) := by show _ = _; rw [hdn, Int.toNat_natCast]
      have hmk := fun W (hb : Below w.heap.size w W) => makesS_any P (insD f q) W (HTB.out W hb) hio
      rw [hdn] at HRG
      have hval : (insD f q).val = .agg #[.int .i64 (insD f q).op, .int .i64 (dn : Int), .int .i64 (insD f q).a, .int .i64 (insD f q).b, .int .i64 (insD f q).imm] := by unfold Ins.val; rw [hdn]
      rw [hval] at hmk
      have HMK : Hid (∀ W, Below w.heap.size w W → Calls Tryd.prog 78 #[.agg #[.int .i64 (insD f q).op, .int .i64 (dn : Int), .int .i64 (insD f q).a, .int .i64 (insD f q).b, .int .i64 (insD f q).imm]] W fun e w' => e = .returned (.bool (setsB (insD f q).op)) ∧ Below W.heap.size W w') := hmk
      have HBX : Hid (Below w.heap.size w (wr.alloc (.cells #[.int .i64 (insD f q).op, .int .i64 (dn : Int), .int .i64 (insD f q).a, .int .i64 (insD f q).b, .int .i64 (insD f q).imm] 42))) := HBR.out.alloc HBR.out.size _
      have G0 : Hid ((wr.alloc (.cells #[.int .i64 (insD f q).op, .int .i64 (dn : Int), .int .i64 (insD f q).a, .int .i64 (insD f q).b, .int .i64 (insD f q).imm] 42)).heap[w.heap.size + 1]? = some (.cells (i64s (onR f fr (q - fr) l)).toArray 108 (0, 0))) := (heap_alloc_old _ _ (lt_of_block g0)).trans g0
      have G1 : Hid ((wr.alloc (.cells #[.int .i64 (insD f q).op, .int .i64 (dn : Int), .int .i64 (insD f q).a, .int .i64 (insD f q).b, .int .i64 (insD f q).imm] 42)).heap[w.heap.size + 1 + 1]? = some (.cells zero12.toArray 108 (0, 0))) := (heap_alloc_old _ _ (lt_of_block g1)).trans g1
      have G2 : Hid ((wr.alloc (.cells #[.int .i64 (insD f q).op, .int .i64 (dn : Int), .int .i64 (insD f q).a, .int .i64 (insD f q).b, .int .i64 (insD f q).imm] 42)).cell? ⟨w.heap.size, 2, none⟩ = some (.slice (some ⟨cb, co, none⟩) CL ccap)) := cell_alloc g2 _
      clear hmk hval hdn hio hn hbr
      generalize (insD f q).op = op at *
      generalize (insD f q).a = xa at *
      generalize (insD f q).b = xb at *
      generalize (insD f q).imm = xi at *
      generalize onR f fr (q - fr) l = lq at *
      go_upto_region 5 with (first
        | (refine wpList_load_mid rfl _ _ rfl cb (co + q * 5) rfl [.int .i64 op, .int .i64 (dn : Int), .int .i64 xa, .int .i64 xb, .int .i64 xi] _ HRG Tryd.underlying42 rfl infoInsS ?_)
        | (refine wpList_store_row rfl _ _ _ rfl _ #[.int .i64 op, .int .i64 (dn : Int), .int .i64 xa, .int .i64 xb, .int .i64 xi] rfl rfl _ _ (heap_alloc_last wr _) infoInsS rfl rfl ?_; rw [World.setRow_alloc_new]))
      have HB1 : Hid (Below wr.heap.size wr (wr.alloc (.cells #[.int .i64 op, .int .i64 (dn : Int), .int .i64 xa, .int .i64 xb, .int .i64 xi] 42))) := (Below.refl _ _).alloc (Nat.le_refl _) _
      have rx : (wr.alloc (.cells #[.int .i64 op, .int .i64 (dn : Int), .int .i64 xa, .int .i64 xb, .int .i64 xi] 42)).heap[wr.heap.size]? = some (.cells #[.int .i64 op, .int .i64 (dn : Int), .int .i64 xa, .int .i64 xb, .int .i64 xi] 42 (0, 0)) := heap_alloc_last wr _
      generalize (wr.alloc (.cells #[.int .i64 op, .int .i64 (dn : Int), .int .i64 xa, .int .i64 xb, .int .i64 xi] 42)) = V1 at *
      generalize wr.heap.size = GX at *
      have hgw : Hid (Below w.heap.size w V1) := HBX.out
      have hMK := HMK.out V1 HBX.out
      have HDEC : Hid (∀ B : Bool, setsB op = B → Calls Tryd.prog 78 #[.agg #[.int .i64 op, .int .i64 (dn : Int), .int .i64 xa, .int .i64 xb, .int .i64 xi]] V1 fun e w' => e = .returned (.bool B) ∧ Below V1.heap.size V1 w') := fun B hB => by rw [← hB]; exact hMK
      clear hMK HMK
      cases hB : setsB op
      · have hM := HDEC.out _ hB
        have HN2 : Hid (onR f fr (q + 1 - fr) l = lq) := by show _ = _; rw [HN1.out, hB]; rfl
        clear hB HDEC HN1
        go_wp2_with (first
          | (refine wpList_load_row rfl 42 _ rfl _ rfl _ _ _ _ rx Tryd.underlying42 rfl infoInsS ?_)
          | (go_at_call 78; refine hM.mono ?_; rintro e w2 ⟨rfl, hb2⟩))
        go_roundw
        case rel => exact ⟨q + 1, by omega, by omega, by go_num, by rw [HN2.out]; exact (hb2.block _ (lt_of_block G0.out)).trans G0.out, (hb2.block _ (lt_of_block G1.out)).trans G1.out, keeps_below hb2 _ _ G2.out, HBX.out.trans (hb2.mono HBX.out.size)⟩
        case measure => simp [intOf]; omega
      · have hM := HDEC.out _ hB
        have HN2 : Hid (onR f fr (q + 1 - fr) l = lq.set dn (madeI q)) := by show _ = _; rw [HN1.out, hB, if_pos rfl, HDN.out]
        clear hB HDEC HN1
        go_upto_region 6 with (first
          | (refine wpList_load_row rfl 42 _ rfl _ rfl _ _ _ _ rx Tryd.underlying42 rfl infoInsS ?_)
          | (go_at_call 78; refine hM.mono ?_; rintro e w2 ⟨rfl, hb2⟩))
        have HB2 : Hid (Below w.heap.size w w2) := HBX.out.trans (hb2.mono HBX.out.size)
        have rx2 := (hb2.block _ (lt_of_block rx)).trans rx
        have xd : w2.cell? ⟨GX, 1, none⟩ = some (.int .i64 (dn : Int)) := by rw [cell_of_row _ _ _ _ _ _ rx2]; rfl
        have g02 := (hb2.block _ (lt_of_block G0.out)).trans G0.out
        have g12 := (hb2.block _ (lt_of_block G1.out)).trans G1.out
        have g22 := keeps_below hb2 _ _ G2.out
        have hdI : (dn : Int) < 12 := by omega
        have hdN : ¬ (dn : Int) < 0 := by omega
        clear hb2 hM rx rx2 HBX hgw HB1
        generalize hV2 : w2 = V2 at *
        clear hV2
        have hdl : dn < lq.length := by rw [HLQ]; exact hd12
        obtain ⟨y, hy⟩ : ∃ y, V2.drew.cell? ⟨w.heap.size + 1, dn, none⟩ = some y := ⟨.int .i64 lq[dn], by show V2.cell? _ = _; rw [cell_of_row _ _ _ _ _ _ g02]; simp [i64s, hdl]⟩
        have hf : V2.drew.frozen? ⟨w.heap.size + 1, dn, none⟩ = false := frozen_of_row _ _ _ _ _ g02
        have HQ : Hid ((V2.setCell ⟨w.heap.size + 1, dn, none⟩ (.int .i64 (madeI q))).drew.heap[w.heap.size + 1]? = some (.cells (i64s (lq.set dn (madeI q))).toArray 108 (0, 0))) := by show (V2.setCell _ _).heap[_]? = _; rw [heap_setCell_same _ _ _ _ _ _ g02, List.setIfInBounds_toArray, i64s_set]
        have HQ1 : Hid ((V2.setCell ⟨w.heap.size + 1, dn, none⟩ (.int .i64 (madeI q))).drew.heap[w.heap.size + 1 + 1]? = some (.cells zero12.toArray 108 (0, 0))) := (heap_setCell_other _ _ _ _ (by simp)).trans g12
        have HQ2 : Hid ((V2.setCell ⟨w.heap.size + 1, dn, none⟩ (.int .i64 (madeI q))).drew.cell? ⟨w.heap.size, 2, none⟩ = some (.slice (some ⟨cb, co, none⟩) CL ccap)) := (World.cell?_of_block (heap_setCell_other V2 _ _ _ (by simp))).trans g22
        have HQB : Hid (Below w.heap.size w (V2.setCell ⟨w.heap.size + 1, dn, none⟩ (.int .i64 (madeI q))).drew) := (HB2.out.setCell (by simp) _).drew
        clear g02 g12 g22
        refine wp_region_last (S := fun W => Below V2.heap.size V2 W) _ 5 (by kernel_rfl) (by kernel_rfl) rfl ((Below.refl _ _).drew) (fun hHeld => ?_)
        simp only [List.pop_toArray, List.dropLast]
        refine wpAnyH_take (i := 0) (v := ?_) rfl (by kernel_rfl) (by kernel_rfl) (by kernel_rfl) (fun _ _ _ h => h) (Or.inl ⟨by rfl, ?_⟩) (by assumption) ?_
        rotate_left
        · (intro W hSW; go_simp; try (with_reducible rfl))
        (try simp only [zA])
        refine wpAnyH_take (i := 1) (v := ?_) rfl (by kernel_rfl) (by kernel_rfl) (by kernel_rfl) (fun _ _ _ h => h) (Or.inl ⟨by rfl, ?_⟩) (by assumption) ?_
        rotate_left
        · (intro W hSW; have z0 := keeps_below hSW _ _ xd; go_simp; try (with_reducible rfl))
        (try simp only [Act.put])
        refine wpAnyH_take (i := 2) (v := ?_) rfl (by kernel_rfl) (by kernel_rfl) (by kernel_rfl) (fun _ _ _ h => h) (Or.inl ⟨by rfl, ?_⟩) (by assumption) ?_
        rotate_left
        · (intro W hSW; go_simp; try (with_reducible rfl))
        (try simp only [Act.put])
        refine wpAnyH_ready (rs := [3]) (by kernel_rfl) (by simp) ?_
        refine AllReadyH.cons rfl (fun K hK => ?_) AllReadyH.nil
        go_simp
        go_at_call 79
        refine (madeAt_any q _ hq1000).mono ?_
        rintro e w9 ⟨rfl, hw9⟩
        replace hw9 := hw9.symm
        subst hw9
        dsimp only
        refine hK.out _ _ hHeld (fun _ => ?_)
        clear hK K
        (try simp only [zA])
        refine wpAnyH_take (i := 4) (v := ?_) rfl (by kernel_rfl) (by kernel_rfl) (by kernel_rfl) (fun _ _ _ h => h) (Or.inl ⟨by rfl, ?_⟩) (by assumption) ?_
        rotate_left
        · (intro W hSW; go_simp; try (with_reducible rfl))
        (try simp only [zA])
        refine wpAnyH_done (by kernel_rfl) ?_ _
        refine Or.inl ?_
        clear hHeld xd
        go_simp
        go_wp2
        go_roundw
        case rel => exact ⟨q + 1, by omega, by omega, by go_num, by rw [HN2.out]; exact HQ.out, HQ1.out, HQ2.out, HQB.out⟩
        case measure => simp [intOf]; omega
    · obtain rfl : q = t := by omega
      obtain ⟨RR, hRR⟩ : ∃ R, R = i64s (onR f fr (q - fr) l) := ⟨_, rfl⟩
      rw [← hRR] at g0 i12 o12 hlz
      have HRR : Hid (RR = i64s (onR f fr (q - fr) l)) := hRR
      clear hRR hbr
      go_wp2_with (first
        | (refine wpList_load_row rfl 108 (.tmp 5) rfl _ rfl _ _ _ _ g0 Tryd.underlying108 rfl i12 ?_)
        | (refine wpList_store_row rfl 108 (.tmp 8) _ rfl _ RR.toArray rfl rfl _ _ g1 i12 hlz o12 ?_))
      refine bodyPost_ret (results_cell_row rfl _ _ (w.heap.size + 1 + 1) 108 RR.toArray (0, 0) _ rfl (setRow_heap _ _ _ _ _ _ g1) Tryd.underlying108 rfl i12) rfl ⟨by rw [HRR.out], ?_⟩
      exact belowSK HBR.out (by omega) _
end Go.Proofs.YtldbmdgpdolaaaaDoor
namespace Go.Proofs.YtldbmdgpdolaaaaDoor
open Go Go.RowKit

set_option maxRecDepth 100000 in
set_option maxHeartbeats 2000000 in
theorem paramsP_any (pn : Int) (pv cv bv lv : Value) (w : World) :
    Calls Tryd.prog 93 #[.agg #[pv, .int .i64 pn, cv, bv, lv]] w fun e w' => e = .returned (.agg (i64s (parR pn)).toArray) ∧ Below w.heap.size w w' := by
  have hz0 : (List.replicate 12 (0 : Int)).length = 12 := rfl
  have HZ : Hid (i64s (upto (parR pn) (List.replicate 12 0) 0) = zero12) := rfl
  have HA : Hid (upto (parR pn) (List.replicate 12 0) 12 = parR pn) := upto_all (parR_len _) hz0
  have HL : Hid (∀ q, q ≤ 12 → (i64s (upto (parR pn) (List.replicate 12 0) q)).length = 12) := fun q hq => by have := upto_len (parR_len pn) hz0 hq; simp only [i64s, List.length_map]; exact this
  have HS : Hid (∀ q, q < 12 → i64s ((upto (parR pn) (List.replicate 12 0) q).set q ((parR pn).getD q 0)) = i64s (upto (parR pn) (List.replicate 12 0) (q + 1))) := fun q hq => by rw [upto_set (parR_len _) hz0 hq]
  have HG : Hid (∀ q, q < 12 → (parR pn).getD q 0 = if (q : Int) < pn then (q : Int) else -1) := fun q hq => parR_get _ hq
  have i12 := infoRgL (parR_len pn)
  have o12 := oneI64 (parR pn)
  have hlz : zero12.toArray.size = (i64s (parR pn)).toArray.size := by simp [zero12, i64s, parR_len]
  go_enter Tryd.func93, Tryd.ntmps93
  go_upto_region 2 with fail
  rw [show (#[.int .i64 0, .int .i64 0, .int .i64 0, .int .i64 0, .int .i64 0, .int .i64 0, .int .i64 0, .int .i64 0, .int .i64 0, .int .i64 0, .int .i64 0, .int .i64 0] : Array Value) = zero12.toArray from rfl]
  have r2 : (((w.alloc (.cells #[pv, .int .i64 pn, cv, bv, lv] 56)).alloc (.cells zero12.toArray 108)).alloc (.cells zero12.toArray 108)).heap[w.heap.size + 1]? = some (.cells zero12.toArray 108 (0, 0)) := heap_alloc_old _ _ (by simp) |>.trans (heap_alloc2_new _ _ _)
  have r3 : (((w.alloc (.cells #[pv, .int .i64 pn, cv, bv, lv] 56)).alloc (.cells zero12.toArray 108)).alloc (.cells zero12.toArray 108)).heap[w.heap.size + 1 + 1]? = some (.cells zero12.toArray 108 (0, 0)) := heap_alloc3_newS _ _ _ _
  have k1 : (((w.alloc (.cells #[pv, .int .i64 pn, cv, bv, lv] 56)).alloc (.cells zero12.toArray 108)).alloc (.cells zero12.toArray 108)).cell? ⟨w.heap.size, 1, none⟩ = some (.int .i64 pn) := cell_alloc (cell_alloc (by rw [cell_of_row _ _ _ _ _ _ (heap_alloc_last w _)]; rfl) _) _
  have HB0 : Hid (Below w.heap.size w (((w.alloc (.cells #[pv, .int .i64 pn, cv, bv, lv] 56)).alloc (.cells zero12.toArray 108)).alloc (.cells zero12.toArray 108))) := (((Below.refl _ _).alloc (Nat.le_refl _) _).alloc (by simp) _).alloc (by simp; omega) _
  generalize (((w.alloc (.cells #[pv, .int .i64 pn, cv, bv, lv] 56)).alloc (.cells zero12.toArray 108)).alloc (.cells zero12.toArray 108)) = W0 at *
  go_upto_region 3 with fail
  go_loopw [4, 5] (fun _ i wr => ∃ q : Nat, q ≤ 12 ∧ i = .int .i64 q ∧ wr.heap[w.heap.size + 1 + 1]? = some (.cells (i64s (upto (parR pn) (List.replicate 12 0) q)).toArray 108 (0, 0)) ∧ wr.heap[w.heap.size + 1]? = some (.cells zero12.toArray 108 (0, 0)) ∧ wr.cell? ⟨w.heap.size, 1, none⟩ = some (.int .i64 pn) ∧ Below w.heap.size w wr) (fun _ i _ => 12 - (intOf i).toNat)
  case atStart => exact ⟨0, by omega, rfl, by rw [HZ.out]; exact r3, r2, k1, HB0.out⟩
  case round =>
    clear r2 r3 k1 HB0
    obtain ⟨q, hq, rfl, g3, g2, g1, hbr⟩ := hrel
    have HBR : Hid (Below w.heap.size w wr) := hbr
    clear hbr
    by_cases hlt : q < 12
    · have hqI : (q : Int) < 12 := by omega
      have hqn : ¬ (q : Int) < 0 := by omega
      have hS := HS.out q hlt
      have hG := HG.out q hlt
      have hLq := HL.out q hq
      obtain ⟨lq, hlq⟩ : ∃ lq, lq = upto (parR pn) (List.replicate 12 0) q := ⟨_, rfl⟩
      rw [← hlq] at g3 hS hLq
      obtain ⟨y, hy⟩ : ∃ y, wr.cell? ⟨w.heap.size + 1 + 1, q, none⟩ = some y := ⟨(i64s lq)[q]'(by rw [hLq]; omega), by rw [cell_of_row _ _ _ _ _ _ g3]; simp⟩
      have hf : wr.frozen? ⟨w.heap.size + 1 + 1, q, none⟩ = false := frozen_of_row _ _ _ _ _ g3
      have a3 : (wr.setCell ⟨w.heap.size + 1 + 1, q, none⟩ (.int .i64 (-1))).heap[w.heap.size + 1 + 1]? = some (.cells (i64s (lq.set q (-1))).toArray 108 (0, 0)) := by rw [heap_setCell_same _ _ _ _ _ _ g3, List.setIfInBounds_toArray, i64s_set]
      have a2 : (wr.setCell ⟨w.heap.size + 1 + 1, q, none⟩ (.int .i64 (-1))).heap[w.heap.size + 1]? = some (.cells zero12.toArray 108 (0, 0)) := (heap_setCell_other _ _ _ _ (by simp)).trans g2
      have a1 : (wr.setCell ⟨w.heap.size + 1 + 1, q, none⟩ (.int .i64 (-1))).cell? ⟨w.heap.size, 1, none⟩ = some (.int .i64 pn) := (World.cell?_of_block (heap_setCell_other _ _ _ _ (by show w.heap.size ≠ w.heap.size + 1 + 1; omega))).trans g1
      have HAB : Hid (Below w.heap.size w (wr.setCell ⟨w.heap.size + 1 + 1, q, none⟩ (.int .i64 (-1)))) := HBR.out.setCell (by simp; omega) _
      go_upto_region 6 with fail
      clear hy hf g3 g2 g1 hlq HBR
      generalize (wr.setCell ⟨w.heap.size + 1 + 1, q, none⟩ (.int .i64 (-1))) = V1 at *
      by_cases hp : (q : Int) < pn
      · rw [if_pos hp] at hG
        rw [hG] at hS
        have b3 : (V1.setCell ⟨w.heap.size + 1 + 1, q, none⟩ (.int .i64 q)).heap[w.heap.size + 1 + 1]? = some (.cells (i64s (upto (parR pn) (List.replicate 12 0) (q + 1))).toArray 108 (0, 0)) := by rw [heap_setCell_same _ _ _ _ _ _ a3, List.setIfInBounds_toArray, i64s_set, List.set_set, hS]
        have b2 : (V1.setCell ⟨w.heap.size + 1 + 1, q, none⟩ (.int .i64 q)).heap[w.heap.size + 1]? = some (.cells zero12.toArray 108 (0, 0)) := (heap_setCell_other _ _ _ _ (by simp)).trans a2
        have b1 : (V1.setCell ⟨w.heap.size + 1 + 1, q, none⟩ (.int .i64 q)).cell? ⟨w.heap.size, 1, none⟩ = some (.int .i64 pn) := (World.cell?_of_block (heap_setCell_other _ _ _ _ (by show w.heap.size ≠ w.heap.size + 1 + 1; omega))).trans a1
        have HBB : Hid (Below w.heap.size w (V1.setCell ⟨w.heap.size + 1 + 1, q, none⟩ (.int .i64 q))) := HAB.out.setCell (by simp; omega) _
        obtain ⟨y, hy⟩ : ∃ y, V1.cell? ⟨w.heap.size + 1 + 1, q, none⟩ = some y := ⟨.int .i64 (-1), by rw [cell_of_row _ _ _ _ _ _ a3]; have h12 : q < lq.length := (by have e : (i64s lq).length = lq.length := (by simp [i64s]); omega); simp [i64s, h12]⟩
        have hf : V1.frozen? ⟨w.heap.size + 1 + 1, q, none⟩ = false := frozen_of_row _ _ _ _ _ a3
        have HB3 : Hid _ := b3
        have HB2 : Hid _ := b2
        have HB1 : Hid _ := b1
        clear b3 b2 b1 a3 a2 hS hG
        go_wp2
        go_roundw
        case rel => exact ⟨q + 1, by omega, by go_num, HB3.out, HB2.out, HB1.out, HBB.out⟩
        case measure => simp [intOf]; omega
      · rw [if_neg hp] at hG
        rw [hG] at hS
        have HB3 : Hid (V1.heap[w.heap.size + 1 + 1]? = some (.cells (i64s (upto (parR pn) (List.replicate 12 0) (q + 1))).toArray 108 (0, 0))) := by show _ = _; rw [← hS]; exact a3
        clear a3 hS hG
        go_wp2
        go_roundw
        case rel => exact ⟨q + 1, by omega, by go_num, HB3.out, a2, a1, HAB.out⟩
        case measure => simp [intOf]; omega
    · obtain rfl : q = 12 := by omega
      rw [HA.out] at g3
      obtain ⟨RR, hRR⟩ : ∃ R, R = i64s (parR pn) := ⟨_, rfl⟩
      rw [← hRR] at g3 i12 o12 hlz
      have HRR : Hid (RR = i64s (parR pn)) := hRR
      clear hRR
      go_wp2_with (first
        | (refine wpList_load_row rfl 108 (.tmp 3) rfl _ rfl _ _ _ _ g3 Tryd.underlying108 rfl i12 ?_)
        | (refine wpList_store_row rfl 108 (.tmp 2) _ rfl _ RR.toArray rfl rfl _ _ g2 i12 hlz o12 ?_))
      refine bodyPost_ret (results_cell_row rfl _ _ (w.heap.size + 1) 108 RR.toArray (0, 0) _ rfl (setRow_heap _ _ _ _ _ _ g2) Tryd.underlying108 rfl i12) rfl ⟨by rw [HRR.out], ?_⟩
      exact belowSK HBR.out (by omega) _
theorem paramsS_any (f : Fn) (pv cv bv lv : Value) (w : World) :
    Calls Tryd.prog 93 #[.agg (fnV f pv cv bv lv)] w fun e w' => e = .returned (.agg (i64s (parR f.params)).toArray) ∧ Below w.heap.size w w' := paramsP_any f.params pv cv bv lv w
end Go.Proofs.YtldbmdgpdolaaaaDoor
