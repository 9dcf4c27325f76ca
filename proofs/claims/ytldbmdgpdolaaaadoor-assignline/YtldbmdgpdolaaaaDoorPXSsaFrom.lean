import Derived.Test.YtldbmdgpdolaaaaDoorPXBrief
import Derived.Test.YtldbmdgpdolaaaaDoorPXSsaRegs
namespace Go.Proofs.YtldbmdgpdolaaaaDoor
open Go Go.RowKit

theorem infoFnS : (Tryd.prog.info? 56).map (·.size) = some 5 := by kernel_rfl
set_option maxRecDepth 100000 in
set_option maxHeartbeats 4000000 in
theorem behindS_one {P : List Fn} {f : Fn} {S : List Nat} {T : Nat → Nat} {L : List Int} {pv cv bv lv : Value} (w : World) (h : SsaFn w P f S T L pv cv bv lv) (ht : TabOk w) (j : Nat) (hj : j < S.length) (l : List Int) (hl : l.length = 12)
    (IH : ∀ W, Below w.heap.size w W → Calls Tryd.prog 45 #[.agg (fnV f pv cv bv lv), .int .i64 j] W fun e w' => e = .returned (.agg (i64s l).toArray) ∧ Below W.heap.size W w') :
    Calls Tryd.prog 76 #[.agg (fnV f pv cv bv lv), .int .i64 j] w fun e w' => e = .returned (.agg (i64s (onR f (S.getD j 0) (T j - S.getD j 0) l)).toArray) ∧ Below w.heap.size w w' := by
  obtain ⟨gB, VV, rfl, hb1, hb2⟩ := h.blocks
  have hS : S.length ≤ 1000 := by have := starts_len h.flow h.ok.starts; have := h.flow.ok.len2; omega
  have eS : S.getD j 0 = S[j] := by simp [List.getD, hj]
  have hE := h.ok.ends j hj
  have HON : Hid (∀ W, Below w.heap.size w W → Calls Tryd.prog 49 #[.agg (fnV f pv cv (.slice (some ⟨gB, 0, none⟩) S.length S.length) lv), .agg (i64s l).toArray, .int .i64 ((S.getD j 0 : Nat) : Int), .int .i64 ((T j : Nat) : Int)] W fun e w' => e = .returned (.agg (i64s (onR f (S.getD j 0) (T j - S.getD j 0) l)).toArray) ∧ Below W.heap.size W w') := fun W hb => onS_any W (h.below hb) (ht.below hb) l hl _ _ (by rw [eS]; exact Nat.le_of_lt hE.lt) hE.le
  have HIH : Hid (∀ W, Below w.heap.size w W → Calls Tryd.prog 45 #[.agg (fnV f pv cv (.slice (some ⟨gB, 0, none⟩) S.length S.length) lv), .int .i64 j] W fun e w' => e = .returned (.agg (i64s l).toArray) ∧ Below W.heap.size W w') := IH
  have HCF : Hid (∀ W, Below w.heap.size w W → W.cell? ⟨gB, j * 4, none⟩ = some (.int .i64 ((S.getD j 0 : Nat) : Int)) ∧ W.cell? ⟨gB, j * 4 + 1, none⟩ = some (.int .i64 ((T j : Nat) : Int))) := fun W hb => ⟨keeps_below hb _ _ (blk_from hb1 j hj), keeps_below hb _ _ (blk_to hb1 j hj)⟩
  obtain ⟨RL, hRL⟩ : ∃ RL, RL = onR f (S.getD j 0) (T j - S.getD j 0) l := ⟨_, rfl⟩
  have HRL : Hid (RL = onR f (S.getD j 0) (T j - S.getD j 0) l) := hRL
  have hR12 : RL.length = 12 := by rw [hRL, onR_len]; exact hl
  have i12 := infoRgL hR12
  have o12 := oneI64 RL
  have hlz : zero12.toArray.size = (i64s RL).toArray.size := by simp [zero12, i64s, hR12]
  rw [← hRL] at HON
  have hjI : (j : Int) < (S.length : Int) := by omega
  have hjm : ((j : Int) == -1) = false := by rw [beq_eq_false_iff_ne]; omega
  have hjm2 : ¬ (j : Int) = -1 := by omega
  unfold fnV at *
  clear h ht IH hE hb1 hb2 eS hRL hl hR12
  generalize ((S.getD j 0 : Nat) : Int) = zF at *
  generalize ((T j : Nat) : Int) = zT at *
  generalize hSL : S.length = SL at *
  clear hSL
  go_enter Tryd.func76, Tryd.ntmps76
  go_upto_region 1 with fail
  rw [show (#[.int .i64 0, .int .i64 0, .int .i64 0, .int .i64 0, .int .i64 0, .int .i64 0, .int .i64 0, .int .i64 0, .int .i64 0, .int .i64 0, .int .i64 0, .int .i64 0] : Array Value) = zero12.toArray from rfl]
  have r2 : ((w.alloc (.cells #[pv, .int .i64 f.params, cv, .slice (some ⟨gB, 0, none⟩) SL SL, lv] 56)).alloc (.cells zero12.toArray 108)).heap[w.heap.size]? = some (.cells #[pv, .int .i64 f.params, cv, .slice (some ⟨gB, 0, none⟩) SL SL, lv] 56 (0, 0)) := heap_alloc2_old _ _ _
  have r4 : ((w.alloc (.cells #[pv, .int .i64 f.params, cv, .slice (some ⟨gB, 0, none⟩) SL SL, lv] 56)).alloc (.cells zero12.toArray 108)).heap[w.heap.size + 1]? = some (.cells zero12.toArray 108 (0, 0)) := heap_alloc2_new _ _ _
  have k3 : ((w.alloc (.cells #[pv, .int .i64 f.params, cv, .slice (some ⟨gB, 0, none⟩) SL SL, lv] 56)).alloc (.cells zero12.toArray 108)).cell? ⟨w.heap.size, 3, none⟩ = some (.slice (some ⟨gB, 0, none⟩) SL SL) := by rw [cell_of_row _ _ _ _ _ _ r2]; rfl
  have HB0 : Hid (Below w.heap.size w ((w.alloc (.cells #[pv, .int .i64 f.params, cv, .slice (some ⟨gB, 0, none⟩) SL SL, lv] 56)).alloc (.cells zero12.toArray 108))) := ((Below.refl _ _).alloc (Nat.le_refl _) _).alloc (by simp) _
  generalize ((w.alloc (.cells #[pv, .int .i64 f.params, cv, .slice (some ⟨gB, 0, none⟩) SL SL, lv] 56)).alloc (.cells zero12.toArray 108)) = V at *
  have hz2 : w.heap.size < V.heap.size := lt_of_block r2
  obtain ⟨cF, cT⟩ := HCF.out V HB0.out
  have infoFn : (Tryd.prog.info? 56).map (·.size) = some [pv, .int .i64 f.params, cv, .slice (some ⟨gB, 0, none⟩) SL SL, lv].length := infoFnS
  obtain ⟨FVL, hFV⟩ : ∃ FVL, FVL = [pv, .int .i64 f.params, cv, .slice (some ⟨gB, 0, none⟩) SL SL, lv] := ⟨_, rfl⟩
  rw [show #[pv, .int .i64 f.params, cv, .slice (some ⟨gB, 0, none⟩) SL SL, lv] = FVL.toArray by rw [hFV]] at *
  rw [← hFV] at infoFn
  clear hFV
  go_upto_region 3 with fail
  refine wp_region_last (S := fun W => Below V.heap.size V W) _ 17 (by kernel_rfl) (by kernel_rfl) rfl ((Below.refl _ _).drew) (fun hHeld => ?_)
  simp only [List.pop_toArray, List.dropLast]
  refine wpAnyH_take (i := 0) (v := .agg FVL.toArray) rfl (by kernel_rfl) (by kernel_rfl) (by kernel_rfl) (fun _ _ _ h => h) (yieldsIf_load_mid (by rfl) 56 _ rfl _ 0 rfl FVL _ (fun W hSW j u hu => by rw [cell_of_row _ _ _ _ _ _ ((hSW.block _ hz2).trans r2)]; simpa using hu) Tryd.underlying56 rfl infoFn) (by assumption) ?_
  (try simp only [zB])
  (try simp only [zA])
  refine wpAnyH_take (i := 1) (v := .agg FVL.toArray) rfl (by kernel_rfl) (by kernel_rfl) (by kernel_rfl) (fun _ _ _ h => h) (yieldsIf_load_mid (by rfl) 56 _ rfl _ 0 rfl FVL _ (fun W hSW j u hu => by rw [cell_of_row _ _ _ _ _ _ ((hSW.block _ hz2).trans r2)]; simpa using hu) Tryd.underlying56 rfl infoFn) (by assumption) ?_
  (try simp only [zB])
  (try simp only [zA])
  refine wpAnyH_take (i := 2) (v := ?_) rfl (by kernel_rfl) (by kernel_rfl) (by kernel_rfl) (fun _ _ _ h => h) (Or.inl ⟨by rfl, ?_⟩) (by assumption) ?_
  rotate_left
  · (intro W hSW; go_simp; try (with_reducible rfl))
  (try simp only [zA])
  refine wpAnyH_take (i := 4) (v := ?_) rfl (by kernel_rfl) (by kernel_rfl) (by kernel_rfl) (fun _ _ _ h => h) (Or.inl ⟨by rfl, ?_⟩) (by assumption) ?_
  rotate_left
  · (intro W hSW; go_simp; try (with_reducible rfl))
  (try simp only [Act.put])
  refine wpAnyH_take (i := 5) (v := ?_) rfl (by kernel_rfl) (by kernel_rfl) (by kernel_rfl) (fun _ _ _ h => h) (Or.inl ⟨by rfl, ?_⟩) (by assumption) ?_
  rotate_left
  · (intro W hSW; have z0 := keeps_below hSW _ _ k3; go_simp; try (with_reducible rfl))
  (try simp only [Act.put])
  refine wpAnyH_take (i := 6) (v := ?_) rfl (by kernel_rfl) (by kernel_rfl) (by kernel_rfl) (fun _ _ _ h => h) (Or.inl ⟨by rfl, ?_⟩) (by assumption) ?_
  rotate_left
  · (intro W hSW; go_simp; try (with_reducible rfl))
  (try simp only [Act.put])
  refine wpAnyH_take (i := 7) (v := ?_) rfl (by kernel_rfl) (by kernel_rfl) (by kernel_rfl) (fun _ _ _ h => h) (Or.inl ⟨by rfl, ?_⟩) (by assumption) ?_
  rotate_left
  · (intro W hSW; go_simp; try (with_reducible rfl))
  (try simp only [Act.put])
  refine wpAnyH_take (i := 8) (v := ?_) rfl (by kernel_rfl) (by kernel_rfl) (by kernel_rfl) (fun _ _ _ h => h) (Or.inl ⟨by rfl, ?_⟩) (by assumption) ?_
  rotate_left
  · (intro W hSW; go_simp; try (with_reducible rfl))
  (try simp only [Act.put])
  refine wpAnyH_take (i := 9) (v := ?_) rfl (by kernel_rfl) (by kernel_rfl) (by kernel_rfl) (fun _ _ _ h => h) (Or.inl ⟨by rfl, ?_⟩) (by assumption) ?_
  rotate_left
  · (intro W hSW; have z0 := keeps_below hSW _ _ cF; go_simp; try (with_reducible rfl))
  (try simp only [Act.put])
  refine wpAnyH_take (i := 10) (v := ?_) rfl (by kernel_rfl) (by kernel_rfl) (by kernel_rfl) (fun _ _ _ h => h) (Or.inl ⟨by rfl, ?_⟩) (by assumption) ?_
  rotate_left
  · (intro W hSW; go_simp; try (with_reducible rfl))
  (try simp only [Act.put])
  refine wpAnyH_take (i := 11) (v := ?_) rfl (by kernel_rfl) (by kernel_rfl) (by kernel_rfl) (fun _ _ _ h => h) (Or.inl ⟨by rfl, ?_⟩) (by assumption) ?_
  rotate_left
  · (intro W hSW; have z0 := keeps_below hSW _ _ k3; go_simp; try (with_reducible rfl))
  (try simp only [Act.put])
  refine wpAnyH_take (i := 12) (v := ?_) rfl (by kernel_rfl) (by kernel_rfl) (by kernel_rfl) (fun _ _ _ h => h) (Or.inl ⟨by rfl, ?_⟩) (by assumption) ?_
  rotate_left
  · (intro W hSW; go_simp; try (with_reducible rfl))
  (try simp only [Act.put])
  refine wpAnyH_take (i := 13) (v := ?_) rfl (by kernel_rfl) (by kernel_rfl) (by kernel_rfl) (fun _ _ _ h => h) (Or.inl ⟨by rfl, ?_⟩) (by assumption) ?_
  rotate_left
  · (intro W hSW; go_simp; try (with_reducible rfl))
  (try simp only [Act.put])
  refine wpAnyH_take (i := 14) (v := ?_) rfl (by kernel_rfl) (by kernel_rfl) (by kernel_rfl) (fun _ _ _ h => h) (Or.inl ⟨by rfl, ?_⟩) (by assumption) ?_
  rotate_left
  · (intro W hSW; go_simp; try (with_reducible rfl))
  (try simp only [Act.put])
  refine wpAnyH_take (i := 15) (v := ?_) rfl (by kernel_rfl) (by kernel_rfl) (by kernel_rfl) (fun _ _ _ h => h) (Or.inl ⟨by rfl, ?_⟩) (by assumption) ?_
  rotate_left
  · (intro W hSW; have z0 := keeps_below hSW _ _ cT; go_simp; try (with_reducible rfl))
  (try simp only [Act.put])
  refine wpAnyH_ready (rs := [3]) (by kernel_rfl) (by simp) ?_
  refine AllReadyH.cons rfl (fun K hK => ?_) AllReadyH.nil
  go_simp
  go_at_call 45
  refine (HIH.out _ (HB0.out.trans (Below.mono hHeld HB0.out.size))).mono ?_
  rintro e w3 ⟨rfl, hbc⟩
  have HBw3 : Below V.heap.size V w3 := Below.trans hHeld (Below.mono hbc (Below.size hHeld))
  dsimp only
  refine hK.out _ _ HBw3 (fun _ => ?_)
  clear hK K hbc hHeld
  have hHeld := HBw3
  (try simp only [zA])
  refine wpAnyH_ready (rs := [16]) (by kernel_rfl) (by simp) ?_
  refine AllReadyH.cons rfl (fun K hK => ?_) AllReadyH.nil
  go_simp
  go_at_call 49
  refine (HON.out _ (HB0.out.trans (Below.mono hHeld HB0.out.size))).mono ?_
  rintro e w4 ⟨rfl, hbc⟩
  have HBw4 : Below V.heap.size V w4 := Below.trans hHeld (Below.mono hbc (Below.size hHeld))
  dsimp only
  refine hK.out _ _ HBw4 (fun _ => ?_)
  clear hK K hbc hHeld
  have hHeld := HBw4
  (try simp only [zA])
  refine wpAnyH_done (by kernel_rfl) ?_ _
  refine Or.inl ?_
  have r4w := (Below.block hHeld _ (lt_of_block r4)).trans r4
  have HBW : Hid (Below w.heap.size w w4) := HB0.out.trans (Below.mono hHeld HB0.out.size)
  refine wp_store_row 108 _ _ rfl (w.heap.size + 1) (i64s RL).toArray rfl rfl 108 zero12.toArray r4w i12 hlz o12 ?_
  (try simp only [Act.put])
  clear hHeld
  go_wp2
  try simp only [Exit.inBlock, Exit.then]
  exact bodyPost_ret (results_cell_row rfl _ _ (w.heap.size + 1) 108 (i64s RL).toArray (0, 0) _ rfl (setRow_heap _ _ _ _ _ _ r4w) Tryd.underlying108 rfl i12) rfl ⟨by rw [HRL.out], belowSK HBW.out (by omega) _⟩
set_option maxRecDepth 100000 in
theorem behindS_start (f : Fn) (pv cv bv lv : Value) (w : World) :
    Calls Tryd.prog 76 #[.agg (fnV f pv cv bv lv), .int .i64 (-1)] w fun e w' => e = .returned (.agg (i64s (parR f.params)).toArray) ∧ Below w.heap.size w w' := by
  have HP : Hid (∀ W, Calls Tryd.prog 93 #[.agg (fnV f pv cv bv lv)] W _) := fun W => paramsS_any f pv cv bv lv W
  obtain ⟨RL, hRL⟩ : ∃ RL, RL = parR f.params := ⟨_, rfl⟩
  have HRL : Hid (RL = parR f.params) := hRL
  have i12 := infoRgL (parR_len f.params)
  have o12 := oneI64 (parR f.params)
  have hlz : zero12.toArray.size = (i64s (parR f.params)).toArray.size := by simp [zero12, i64s, parR_len]
  rw [← hRL] at HP i12 o12 hlz
  unfold fnV at *
  clear hRL
  have r2 : ((w.alloc (.cells #[pv, .int .i64 f.params, cv, bv, lv] 56)).alloc (.cells zero12.toArray 108)).heap[w.heap.size]? = some (.cells #[pv, .int .i64 f.params, cv, bv, lv] 56 (0, 0)) := heap_alloc2_old _ _ _
  have r4 : ((w.alloc (.cells #[pv, .int .i64 f.params, cv, bv, lv] 56)).alloc (.cells zero12.toArray 108)).heap[w.heap.size + 1]? = some (.cells zero12.toArray 108 (0, 0)) := heap_alloc2_new _ _ _
  have HB0 : Hid (Below w.heap.size w ((w.alloc (.cells #[pv, .int .i64 f.params, cv, bv, lv] 56)).alloc (.cells zero12.toArray 108))) := ((Below.refl _ _).alloc (Nat.le_refl _) _).alloc (by simp) _
  go_enter Tryd.func76, Tryd.ntmps76
  go_upto_region 1 with fail
  rw [show (#[.int .i64 0, .int .i64 0, .int .i64 0, .int .i64 0, .int .i64 0, .int .i64 0, .int .i64 0, .int .i64 0, .int .i64 0, .int .i64 0, .int .i64 0, .int .i64 0] : Array Value) = zero12.toArray from rfl]
  generalize ((w.alloc (.cells #[pv, .int .i64 f.params, cv, bv, lv] 56)).alloc (.cells zero12.toArray 108)) = V at *
  go_wp2_with (first
    | (refine wpList_load_row rfl 56 _ rfl _ rfl _ _ _ _ r2 Tryd.underlying56 rfl infoFnS ?_)
    | (go_at_call 93; refine (HP.out _).mono ?_; rintro e w3 ⟨rfl, hb3⟩; have r43 := (hb3.block _ (lt_of_block r4)).trans r4)
    | (refine wpList_store_row rfl 108 _ _ rfl _ (i64s RL).toArray rfl rfl _ _ r43 i12 hlz o12 ?_))
  try simp only [Exit.inBlock, Exit.then]
  exact bodyPost_ret (results_cell_row rfl _ _ (w.heap.size + 1) 108 (i64s RL).toArray (0, 0) _ rfl (setRow_heap _ _ _ _ _ _ r43) Tryd.underlying108 rfl i12) rfl ⟨by rw [HRL.out], belowSK (HB0.out.trans (hb3.mono HB0.out.size)) (by omega) _⟩
set_option maxRecDepth 100000 in
set_option maxHeartbeats 4000000 in
theorem fromS_one {P : List Fn} {f : Fn} {S : List Nat} {T : Nat → Nat} {L : List Int} {pv cv bv lv : Value} (w : World) (h : SsaFn w P f S T L pv cv bv lv) (b : Nat) (hb : b < S.length) (z : Int) (hz : prevs f S T b = [z]) (l : List Int) (hl : l.length = 12)
    (IH : ∀ W, Below w.heap.size w W → Calls Tryd.prog 76 #[.agg (fnV f pv cv bv lv), .int .i64 z] W fun e w' => e = .returned (.agg (i64s l).toArray) ∧ Below W.heap.size W w') :
    Calls Tryd.prog 45 #[.agg (fnV f pv cv bv lv), .int .i64 b] w fun e w' => e = .returned (.agg (i64s l).toArray) ∧ Below w.heap.size w w' := by
  obtain ⟨gB, VV, rfl, hb1, hb2⟩ := h.blocks
  have hS : S.length ≤ 1000 := by have := starts_len h.flow h.ok.starts; have := h.flow.ok.len2; omega
  obtain ⟨ao, pb, po, n, cap, eV, hln, ha, hcl, hcp⟩ := ints_get (hb2 b hb)
  rw [hz] at hln hcl
  have hn1 : n = 1 := hln.symm
  subst hn1
  obtain rfl := ha (by omega)
  have cz0 := hcl 0 (by omega)
  have HJ : Hid (∀ W, Below w.heap.size w W → Calls Tryd.prog 75 #[.agg (fnV f pv cv (.slice (some ⟨gB, 0, none⟩) S.length S.length) lv), .int .i64 b] W fun e w' => e = .returned (.bool false) ∧ Below W.heap.size W w') := fun W hbw => by
    have := joinsS_any W (h.below hbw) b hb
    rw [hz] at this
    exact this
  have HBH : Hid (∀ W, Below w.heap.size w W → Calls Tryd.prog 76 #[.agg (fnV f pv cv (.slice (some ⟨gB, 0, none⟩) S.length S.length) lv), .int .i64 z] W fun e w' => e = .returned (.agg (i64s l).toArray) ∧ Below W.heap.size W w') := IH
  have HCF : Hid (∀ W, Below w.heap.size w W → W.cell? ⟨gB, b * 4 + 3, none⟩ = some (.slice (some ⟨pb, po, none⟩) 1 cap) ∧ W.cell? ⟨pb, po, none⟩ = some (.int .i64 z)) := fun W hbw => ⟨keeps_below hbw _ _ (by rw [blk_prev hb1 b hb, eV]), keeps_below hbw _ _ (by simpa using cz0)⟩
  obtain ⟨RL, hRL⟩ : ∃ RL, RL = l := ⟨_, rfl⟩
  have HRL : Hid (RL = l) := hRL
  rw [← hRL] at HBH
  have hR12 : RL.length = 12 := by rw [hRL]; exact hl
  have i12 := infoRgL hR12
  have o12 := oneI64 RL
  have hlz : zero12.toArray.size = (i64s RL).toArray.size := by simp [zero12, i64s, hR12]
  have hbI : (b : Int) < (S.length : Int) := by omega
  unfold fnV at *
  clear h IH hb1 hb2 hRL hl hR12 eV hcl hln cz0 ha hz
  generalize hSL : S.length = SL at *
  clear hSL
  go_enter Tryd.func45, Tryd.ntmps45
  go_upto_region 1 with fail
  rw [show (#[.int .i64 0, .int .i64 0, .int .i64 0, .int .i64 0, .int .i64 0, .int .i64 0, .int .i64 0, .int .i64 0, .int .i64 0, .int .i64 0, .int .i64 0, .int .i64 0] : Array Value) = zero12.toArray from rfl]
  have r2 : ((w.alloc (.cells #[pv, .int .i64 f.params, cv, .slice (some ⟨gB, 0, none⟩) SL SL, lv] 56)).alloc (.cells zero12.toArray 108)).heap[w.heap.size]? = some (.cells #[pv, .int .i64 f.params, cv, .slice (some ⟨gB, 0, none⟩) SL SL, lv] 56 (0, 0)) := heap_alloc2_old _ _ _
  have r4 : ((w.alloc (.cells #[pv, .int .i64 f.params, cv, .slice (some ⟨gB, 0, none⟩) SL SL, lv] 56)).alloc (.cells zero12.toArray 108)).heap[w.heap.size + 1]? = some (.cells zero12.toArray 108 (0, 0)) := heap_alloc2_new _ _ _
  have k3 : ((w.alloc (.cells #[pv, .int .i64 f.params, cv, .slice (some ⟨gB, 0, none⟩) SL SL, lv] 56)).alloc (.cells zero12.toArray 108)).cell? ⟨w.heap.size, 3, none⟩ = some (.slice (some ⟨gB, 0, none⟩) SL SL) := by rw [cell_of_row _ _ _ _ _ _ r2]; rfl
  have HB0 : Hid (Below w.heap.size w ((w.alloc (.cells #[pv, .int .i64 f.params, cv, .slice (some ⟨gB, 0, none⟩) SL SL, lv] 56)).alloc (.cells zero12.toArray 108))) := ((Below.refl _ _).alloc (Nat.le_refl _) _).alloc (by simp) _
  generalize ((w.alloc (.cells #[pv, .int .i64 f.params, cv, .slice (some ⟨gB, 0, none⟩) SL SL, lv] 56)).alloc (.cells zero12.toArray 108)) = V at *
  have hz2 : w.heap.size < V.heap.size := lt_of_block r2
  obtain ⟨cP, cZ⟩ := HCF.out V HB0.out
  have infoFn : (Tryd.prog.info? 56).map (·.size) = some [pv, .int .i64 f.params, cv, .slice (some ⟨gB, 0, none⟩) SL SL, lv].length := infoFnS
  obtain ⟨FVL, hFV⟩ : ∃ FVL, FVL = [pv, .int .i64 f.params, cv, .slice (some ⟨gB, 0, none⟩) SL SL, lv] := ⟨_, rfl⟩
  rw [show #[pv, .int .i64 f.params, cv, .slice (some ⟨gB, 0, none⟩) SL SL, lv] = FVL.toArray by rw [hFV]] at *
  rw [← hFV] at infoFn
  clear hFV
  have infoFa : (Tryd.prog.info? 56).map (·.size) = some FVL.toArray.size := by rw [List.size_toArray]; exact infoFn
  have hJ := HJ.out V HB0.out
  go_upto_region 2 with (first
    | (refine wpList_load_row rfl 56 _ rfl _ rfl _ _ _ _ r2 Tryd.underlying56 rfl infoFa ?_)
    | (go_at_call 75; refine hJ.mono ?_; rintro e w1 ⟨rfl, hb1⟩))
  have r21 := (hb1.block _ (lt_of_block r2)).trans r2
  have r41 := (hb1.block _ (lt_of_block r4)).trans r4
  have k31 := keeps_below hb1 _ _ k3
  have cP1 := keeps_below hb1 _ _ cP
  have cZ1 := keeps_below hb1 _ _ cZ
  have HB1 : Hid (Below w.heap.size w w1) := HB0.out.trans (hb1.mono HB0.out.size)
  clear r2 r4 k3 cP cZ HB0 hb1 hz2 hJ HJ
  have r2 := r21
  have r4 := r41
  have k3 := k31
  have cP := cP1
  have cZ := cZ1
  have HB0 := HB1
  clear r21 r41 k31 cP1 cZ1 HB1
  generalize hV1 : w1 = V1 at *
  clear hV1
  have hz2 : w.heap.size < V1.heap.size := lt_of_block r2
  refine wp_region_last (S := fun W => Below V1.heap.size V1 W) _ 10 (by kernel_rfl) (by kernel_rfl) rfl ((Below.refl _ _).drew) (fun hHeld => ?_)
  simp only [List.pop_toArray, List.dropLast]
  refine wpAnyH_take (i := 0) (v := .agg FVL.toArray) rfl (by kernel_rfl) (by kernel_rfl) (by kernel_rfl) (fun _ _ _ h => h) (yieldsIf_load_mid (by rfl) 56 _ rfl _ 0 rfl FVL _ (fun W hSW j u hu => by rw [cell_of_row _ _ _ _ _ _ ((hSW.block _ hz2).trans r2)]; simpa using hu) Tryd.underlying56 rfl infoFn) (by assumption) ?_
  (try simp only [zB])
  (try simp only [zA])
  refine wpAnyH_take (i := 1) (v := ?_) rfl (by kernel_rfl) (by kernel_rfl) (by kernel_rfl) (fun _ _ _ h => h) (Or.inl ⟨by rfl, ?_⟩) (by assumption) ?_
  rotate_left
  · (intro W hSW; go_simp; try (with_reducible rfl))
  (try simp only [zA])
  refine wpAnyH_take (i := 2) (v := ?_) rfl (by kernel_rfl) (by kernel_rfl) (by kernel_rfl) (fun _ _ _ h => h) (Or.inl ⟨by rfl, ?_⟩) (by assumption) ?_
  rotate_left
  · (intro W hSW; have z0 := keeps_below hSW _ _ k3; go_simp; try (with_reducible rfl))
  (try simp only [Act.put])
  refine wpAnyH_take (i := 3) (v := ?_) rfl (by kernel_rfl) (by kernel_rfl) (by kernel_rfl) (fun _ _ _ h => h) (Or.inl ⟨by rfl, ?_⟩) (by assumption) ?_
  rotate_left
  · (intro W hSW; go_simp; try (with_reducible rfl))
  (try simp only [Act.put])
  refine wpAnyH_take (i := 4) (v := ?_) rfl (by kernel_rfl) (by kernel_rfl) (by kernel_rfl) (fun _ _ _ h => h) (Or.inl ⟨by rfl, ?_⟩) (by assumption) ?_
  rotate_left
  · (intro W hSW; go_simp; try (with_reducible rfl))
  (try simp only [Act.put])
  refine wpAnyH_take (i := 5) (v := ?_) rfl (by kernel_rfl) (by kernel_rfl) (by kernel_rfl) (fun _ _ _ h => h) (Or.inl ⟨by rfl, ?_⟩) (by assumption) ?_
  rotate_left
  · (intro W hSW; go_simp; try (with_reducible rfl))
  (try simp only [Act.put])
  refine wpAnyH_take (i := 6) (v := ?_) rfl (by kernel_rfl) (by kernel_rfl) (by kernel_rfl) (fun _ _ _ h => h) (Or.inl ⟨by rfl, ?_⟩) (by assumption) ?_
  rotate_left
  · (intro W hSW; have z0 := keeps_below hSW _ _ cP; go_simp; try (with_reducible rfl))
  (try simp only [Act.put])
  refine wpAnyH_take (i := 7) (v := ?_) rfl (by kernel_rfl) (by kernel_rfl) (by kernel_rfl) (fun _ _ _ h => h) (Or.inl ⟨by rfl, ?_⟩) (by assumption) ?_
  rotate_left
  · (intro W hSW; go_simp; try (with_reducible rfl))
  (try simp only [Act.put])
  refine wpAnyH_take (i := 8) (v := ?_) rfl (by kernel_rfl) (by kernel_rfl) (by kernel_rfl) (fun _ _ _ h => h) (Or.inl ⟨by rfl, ?_⟩) (by assumption) ?_
  rotate_left
  · (intro W hSW; have z0 := keeps_below hSW _ _ cZ; go_simp; try (with_reducible rfl))
  (try simp only [Act.put])
  refine wpAnyH_ready (rs := [9]) (by kernel_rfl) (by simp) ?_
  refine AllReadyH.cons rfl (fun K hK => ?_) AllReadyH.nil
  go_simp
  go_at_call 76
  refine (HBH.out _ (HB0.out.trans (Below.mono hHeld HB0.out.size))).mono ?_
  rintro e w4 ⟨rfl, hbc⟩
  have HBw4 : Below V1.heap.size V1 w4 := Below.trans hHeld (Below.mono hbc (Below.size hHeld))
  dsimp only
  refine hK.out _ _ HBw4 (fun _ => ?_)
  clear hK K hbc hHeld
  have hHeld := HBw4
  (try simp only [zA])
  refine wpAnyH_done (by kernel_rfl) ?_ _
  refine Or.inl ?_
  have r4w := (Below.block hHeld _ (lt_of_block r4)).trans r4
  have HBW : Hid (Below w.heap.size w w4) := HB0.out.trans (Below.mono hHeld HB0.out.size)
  refine wp_store_row 108 _ _ rfl (w.heap.size + 1) (i64s RL).toArray rfl rfl 108 zero12.toArray r4w i12 hlz o12 ?_
  (try simp only [Act.put])
  clear hHeld
  go_wp2
  try simp only [Exit.inBlock, Exit.then]
  exact bodyPost_ret (results_cell_row rfl _ _ (w.heap.size + 1) 108 (i64s RL).toArray (0, 0) _ rfl (setRow_heap _ _ _ _ _ _ r4w) Tryd.underlying108 rfl i12) rfl ⟨by rw [HRL.out], belowSK HBW.out (by omega) _⟩
set_option maxRecDepth 100000 in
set_option maxHeartbeats 4000000 in
theorem fromS_joins {P : List Fn} {f : Fn} {S : List Nat} {T : Nat → Nat} {L : List Int} {pv cv bv lv : Value} (w : World) (h : SsaFn w P f S T L pv cv bv lv) (b : Nat) (hb : b < S.length) (hjn : 1 < (prevs f S T b).length) :
    Calls Tryd.prog 45 #[.agg (fnV f pv cv bv lv), .int .i64 b] w fun e w' => e = .returned (.agg (i64s (wantR (mkL L (S.getD b 0)) (phiR b))).toArray) ∧ Below w.heap.size w w' := by
  obtain ⟨gB, VV, rfl, hb1, hb2⟩ := h.blocks
  have hS : S.length ≤ 1000 := by have := starts_len h.flow h.ok.starts; have := h.flow.ok.len2; omega
  have HJ : Hid (∀ W, Below w.heap.size w W → Calls Tryd.prog 75 #[.agg (fnV f pv cv (.slice (some ⟨gB, 0, none⟩) S.length S.length) lv), .int .i64 b] W fun e w' => e = .returned (.bool true) ∧ Below W.heap.size W w') := fun W hbw => by
    have := joinsS_any W (h.below hbw) b hb
    rw [decide_eq_true hjn] at this
    exact this
  have hrc := h.ok.starts.reach h.flow (List.getElem_mem hb)
  have eS : S.getD b 0 = S[b] := by simp [List.getD, hb]
  have HWN : Hid (∀ W, Below w.heap.size w W → Calls Tryd.prog 47 #[.agg (fnV f pv cv (.slice (some ⟨gB, 0, none⟩) S.length S.length) lv), .agg (i64s (phiR b)).toArray, .int .i64 ((S.getD b 0 : Nat) : Int)] W fun e w' => e = .returned (.agg (i64s (wantR (mkL L (S.getD b 0)) (phiR b))).toArray) ∧ Below W.heap.size W w') := fun W hbw => wantedS_any W (h.below hbw) (phiR b) (phiR_len b) (S.getD b 0) (by rw [eS]; exact hrc.2) (by rw [eS]; exact hrc.1)
  have HCF : Hid (∀ W, Below w.heap.size w W → W.cell? ⟨gB, b * 4, none⟩ = some (.int .i64 ((S.getD b 0 : Nat) : Int))) := fun W hbw => keeps_below hbw _ _ (blk_from hb1 b hb)
  obtain ⟨RL, hRL⟩ : ∃ RL, RL = wantR (mkL L (S.getD b 0)) (phiR b) := ⟨_, rfl⟩
  have HRL : Hid (RL = wantR (mkL L (S.getD b 0)) (phiR b)) := hRL
  rw [← hRL] at HWN
  have hR12 : RL.length = 12 := by rw [hRL]; exact wantR_len _ _
  have i12 := infoRgL hR12
  have o12 := oneI64 RL
  have hlz : zero12.toArray.size = (i64s RL).toArray.size := by simp [zero12, i64s, hR12]
  have hz0 : (List.replicate 12 (0 : Int)).length = 12 := rfl
  have HZ : Hid (i64s (upto (phiR b) (List.replicate 12 0) 0) = zero12) := rfl
  have HA : Hid (upto (phiR b) (List.replicate 12 0) 12 = phiR b) := upto_all (phiR_len _) hz0
  have HL : Hid (∀ q, q ≤ 12 → (i64s (upto (phiR b) (List.replicate 12 0) q)).length = 12) := fun q hq => by have := upto_len (phiR_len b) hz0 hq; simp only [i64s, List.length_map]; exact this
  have HS : Hid (∀ q, q < 12 → (i64s (upto (phiR b) (List.replicate 12 0) q)).set q (.int .i64 (phiI b q)) = i64s (upto (phiR b) (List.replicate 12 0) (q + 1))) := fun q hq => by rw [i64s_set, ← upto_set (phiR_len _) hz0 hq, phiR_get b hq]
  have ip12 : (Tryd.prog.info? 108).map (·.size) = some (i64s (phiR b)).length := by (have e12 : (i64s (phiR b)).length = 12 := (by simp [i64s, phiR_len])); rw [e12]; exact infoRg
  have hbI : (b : Int) < (S.length : Int) := by omega
  have hb1000 : b ≤ 1000 := by omega
  unfold fnV at *
  clear h hb1 hb2 hRL hR12 hrc eS hjn
  generalize ((S.getD b 0 : Nat) : Int) = zF at *
  generalize hSL : S.length = SL at *
  clear hSL
  go_enter Tryd.func45, Tryd.ntmps45
  go_upto_region 1 with fail
  rw [show (#[.int .i64 0, .int .i64 0, .int .i64 0, .int .i64 0, .int .i64 0, .int .i64 0, .int .i64 0, .int .i64 0, .int .i64 0, .int .i64 0, .int .i64 0, .int .i64 0] : Array Value) = zero12.toArray from rfl]
  have r2 : ((w.alloc (.cells #[pv, .int .i64 f.params, cv, .slice (some ⟨gB, 0, none⟩) SL SL, lv] 56)).alloc (.cells zero12.toArray 108)).heap[w.heap.size]? = some (.cells #[pv, .int .i64 f.params, cv, .slice (some ⟨gB, 0, none⟩) SL SL, lv] 56 (0, 0)) := heap_alloc2_old _ _ _
  have r4 : ((w.alloc (.cells #[pv, .int .i64 f.params, cv, .slice (some ⟨gB, 0, none⟩) SL SL, lv] 56)).alloc (.cells zero12.toArray 108)).heap[w.heap.size + 1]? = some (.cells zero12.toArray 108 (0, 0)) := heap_alloc2_new _ _ _
  have k3 : ((w.alloc (.cells #[pv, .int .i64 f.params, cv, .slice (some ⟨gB, 0, none⟩) SL SL, lv] 56)).alloc (.cells zero12.toArray 108)).cell? ⟨w.heap.size, 3, none⟩ = some (.slice (some ⟨gB, 0, none⟩) SL SL) := by rw [cell_of_row _ _ _ _ _ _ r2]; rfl
  have HB0 : Hid (Below w.heap.size w ((w.alloc (.cells #[pv, .int .i64 f.params, cv, .slice (some ⟨gB, 0, none⟩) SL SL, lv] 56)).alloc (.cells zero12.toArray 108))) := ((Below.refl _ _).alloc (Nat.le_refl _) _).alloc (by simp) _
  generalize ((w.alloc (.cells #[pv, .int .i64 f.params, cv, .slice (some ⟨gB, 0, none⟩) SL SL, lv] 56)).alloc (.cells zero12.toArray 108)) = V at *
  have hz2 : w.heap.size < V.heap.size := lt_of_block r2
  have infoFn : (Tryd.prog.info? 56).map (·.size) = some [pv, .int .i64 f.params, cv, .slice (some ⟨gB, 0, none⟩) SL SL, lv].length := infoFnS
  obtain ⟨FVL, hFV⟩ : ∃ FVL, FVL = [pv, .int .i64 f.params, cv, .slice (some ⟨gB, 0, none⟩) SL SL, lv] := ⟨_, rfl⟩
  rw [show #[pv, .int .i64 f.params, cv, .slice (some ⟨gB, 0, none⟩) SL SL, lv] = FVL.toArray by rw [hFV]] at *
  rw [← hFV] at infoFn
  have HF3 : Hid (FVL.toArray[3]? = some (.slice (some ⟨gB, 0, none⟩) SL SL)) := by show _ = _; rw [hFV]; rfl
  clear hFV
  have infoFa : (Tryd.prog.info? 56).map (·.size) = some FVL.toArray.size := by rw [List.size_toArray]; exact infoFn
  have hJ := HJ.out V HB0.out
  go_upto_region 3 with (first
    | (refine wpList_load_row rfl 56 _ rfl _ rfl _ _ _ _ r2 Tryd.underlying56 rfl infoFa ?_)
    | (go_at_call 75; refine hJ.mono ?_; rintro e w1 ⟨rfl, hb1⟩))
  have r21 := (hb1.block _ (lt_of_block r2)).trans r2
  have r41 := (hb1.block _ (lt_of_block r4)).trans r4
  have HB1 : Hid (Below w.heap.size w w1) := HB0.out.trans (hb1.mono HB0.out.size)
  have hz4 : w.heap.size + 1 < w1.heap.size := lt_of_block r41
  clear r2 r4 k3 HB0 hb1 hz2 hJ HJ
  go_upto_region 4 with fail
  rw [show (#[.int .i64 0, .int .i64 0, .int .i64 0, .int .i64 0, .int .i64 0, .int .i64 0, .int .i64 0, .int .i64 0, .int .i64 0, .int .i64 0, .int .i64 0, .int .i64 0] : Array Value) = zero12.toArray from rfl]
  have r5 : (w1.alloc (.cells zero12.toArray 108)).heap[w1.heap.size]? = some (.cells zero12.toArray 108 (0, 0)) := heap_alloc_last w1 _
  have r2 := (heap_alloc_old w1 (.cells zero12.toArray 108) (lt_of_block r21)).trans r21
  have r4 := (heap_alloc_old w1 (.cells zero12.toArray 108) (lt_of_block r41)).trans r41
  have HB2 : Hid (Below w.heap.size w (w1.alloc (.cells zero12.toArray 108))) := HB1.out.alloc HB1.out.size _
  clear r21 r41
  generalize (w1.alloc (.cells zero12.toArray 108)) = V2 at *
  have hG5 : w.heap.size + 1 < w1.heap.size := hz4
  have HG0 : Hid (w.heap.size ≤ w1.heap.size) := by show _ ≤ _; omega
  generalize w1.heap.size = G5 at *
  go_upto_region 5 with fail
  go_loopw [6, 21] (fun _ i wr => ∃ q : Nat, q ≤ 12 ∧ i = .int .i64 q ∧ wr.heap[G5]? = some (.cells (i64s (upto (phiR b) (List.replicate 12 0) q)).toArray 108 (0, 0)) ∧ wr.heap[w.heap.size]? = some (.cells FVL.toArray 56 (0, 0)) ∧ wr.heap[w.heap.size + 1]? = some (.cells zero12.toArray 108 (0, 0)) ∧ Below w.heap.size w wr) (fun _ i _ => 12 - (intOf i).toNat)
  case atStart => exact ⟨0, by omega, rfl, by rw [HZ.out]; exact r5, r2, r4, HB2.out⟩
  case round =>
    clear r5 r2 r4 HB2
    obtain ⟨q, hq, rfl, g5, g2, g4, hbr⟩ := hrel
    have HBR : Hid (Below w.heap.size w wr) := hbr
    clear hbr
    by_cases hlt : q < 12
    · have hqI : (q : Int) < 12 := by omega
      have hqn : ¬ (q : Int) < 0 := by omega
      have hS := HS.out q hlt
      obtain ⟨y, hy⟩ : ∃ y, wr.cell? ⟨G5, q, none⟩ = some y := ⟨(i64s (upto (phiR b) (List.replicate 12 0) q))[q]'(by rw [HL.out q hq]; omega), by rw [cell_of_row _ _ _ _ _ _ g5]; simp⟩
      have hf : wr.frozen? ⟨G5, q, none⟩ = false := frozen_of_row _ _ _ _ _ g5
      have HN5 : Hid ((wr.setCell ⟨G5, q, none⟩ (.int .i64 (phiI b q))).heap[G5]? = some (.cells (i64s (upto (phiR b) (List.replicate 12 0) (q + 1))).toArray 108 (0, 0))) := by show _ = _; rw [heap_setCell_same _ _ _ _ _ _ g5, List.setIfInBounds_toArray, hS]
      have HN2 : Hid ((wr.setCell ⟨G5, q, none⟩ (.int .i64 (phiI b q))).heap[w.heap.size]? = some (.cells FVL.toArray 56 (0, 0))) := (heap_setCell_other _ _ _ _ (by show w.heap.size ≠ G5; omega)).trans g2
      have HN4 : Hid ((wr.setCell ⟨G5, q, none⟩ (.int .i64 (phiI b q))).heap[w.heap.size + 1]? = some (.cells zero12.toArray 108 (0, 0))) := (heap_setCell_other _ _ _ _ (by show w.heap.size + 1 ≠ G5; omega)).trans g4
      have HNB : Hid (Below w.heap.size w (wr.setCell ⟨G5, q, none⟩ (.int .i64 (phiI b q)))) := HBR.out.setCell HG0.out _
      clear hS g5 g2 g4
      go_wp2_with (go_at_call 77; refine (phiAt_any b q _ hb1000 (by omega)).mono ?_; rintro e w6 ⟨rfl, hw6⟩; replace hw6 := hw6.symm; subst hw6)
      go_roundw
      case rel => exact ⟨q + 1, by omega, by go_num, HN5.out, HN2.out, HN4.out, HNB.out⟩
      case measure => simp [intOf]; omega
    · obtain rfl : q = 12 := by omega
      rw [HA.out] at g5
      have r2 := g2
      have r4 := g4
      have HB0 := HBR
      have k3 : wr.cell? ⟨w.heap.size, 3, none⟩ = some (.slice (some ⟨gB, 0, none⟩) SL SL) := by rw [cell_of_row _ _ _ _ _ _ g2]; exact HF3.out
      have cF := HCF.out wr HBR.out
      have hz2 : w.heap.size < wr.heap.size := lt_of_block g2
      have hz5 : G5 < wr.heap.size := lt_of_block g5
      clear g2 g4 HBR
      go_upto_region 9 with fail
      refine wp_region_last (S := fun W => Below wr.heap.size wr W) _ 9 (by kernel_rfl) (by kernel_rfl) rfl ((Below.refl _ _).drew) (fun hHeld => ?_)
      simp only [List.pop_toArray, List.dropLast]
      refine wpAnyH_take (i := 0) (v := .agg FVL.toArray) rfl (by kernel_rfl) (by kernel_rfl) (by kernel_rfl) (fun _ _ _ h => h) (yieldsIf_load_mid (by rfl) 56 _ rfl _ 0 rfl FVL _ (fun W hSW j u hu => by rw [cell_of_row _ _ _ _ _ _ ((hSW.block _ hz2).trans r2)]; simpa using hu) Tryd.underlying56 rfl infoFn) (by assumption) ?_
      (try simp only [zB])
      (try simp only [zA])
      refine wpAnyH_take (i := 1) (v := .agg (i64s (phiR b)).toArray) rfl (by kernel_rfl) (by kernel_rfl) (by kernel_rfl) (fun _ _ _ h => h) (yieldsIf_load_mid (by rfl) 108 _ rfl _ 0 rfl (i64s (phiR b)) _ (fun W hSW j u hu => by rw [cell_of_row _ _ _ _ _ _ ((hSW.block _ hz5).trans g5)]; simpa using hu) Tryd.underlying108 rfl ip12) (by assumption) ?_
      (try simp only [zB])
      (try simp only [zA])
      refine wpAnyH_take (i := 2) (v := ?_) rfl (by kernel_rfl) (by kernel_rfl) (by kernel_rfl) (fun _ _ _ h => h) (Or.inl ⟨by rfl, ?_⟩) (by assumption) ?_
      rotate_left
      · (intro W hSW; go_simp; try (with_reducible rfl))
      (try simp only [zA])
      refine wpAnyH_take (i := 3) (v := ?_) rfl (by kernel_rfl) (by kernel_rfl) (by kernel_rfl) (fun _ _ _ h => h) (Or.inl ⟨by rfl, ?_⟩) (by assumption) ?_
      rotate_left
      · (intro W hSW; have z0 := keeps_below hSW _ _ k3; go_simp; try (with_reducible rfl))
      (try simp only [Act.put])
      refine wpAnyH_take (i := 4) (v := ?_) rfl (by kernel_rfl) (by kernel_rfl) (by kernel_rfl) (fun _ _ _ h => h) (Or.inl ⟨by rfl, ?_⟩) (by assumption) ?_
      rotate_left
      · (intro W hSW; go_simp; try (with_reducible rfl))
      (try simp only [Act.put])
      refine wpAnyH_take (i := 5) (v := ?_) rfl (by kernel_rfl) (by kernel_rfl) (by kernel_rfl) (fun _ _ _ h => h) (Or.inl ⟨by rfl, ?_⟩) (by assumption) ?_
      rotate_left
      · (intro W hSW; go_simp; try (with_reducible rfl))
      (try simp only [Act.put])
      refine wpAnyH_take (i := 6) (v := ?_) rfl (by kernel_rfl) (by kernel_rfl) (by kernel_rfl) (fun _ _ _ h => h) (Or.inl ⟨by rfl, ?_⟩) (by assumption) ?_
      rotate_left
      · (intro W hSW; go_simp; try (with_reducible rfl))
      (try simp only [Act.put])
      refine wpAnyH_take (i := 7) (v := ?_) rfl (by kernel_rfl) (by kernel_rfl) (by kernel_rfl) (fun _ _ _ h => h) (Or.inl ⟨by rfl, ?_⟩) (by assumption) ?_
      rotate_left
      · (intro W hSW; have z0 := keeps_below hSW _ _ cF; go_simp; try (with_reducible rfl))
      (try simp only [Act.put])
      refine wpAnyH_ready (rs := [8]) (by kernel_rfl) (by simp) ?_
      refine AllReadyH.cons rfl (fun K hK => ?_) AllReadyH.nil
      go_simp
      go_at_call 47
      refine (HWN.out _ (HB0.out.trans (Below.mono hHeld HB0.out.size))).mono ?_
      rintro e w4 ⟨rfl, hbc⟩
      have HBw4 : Below wr.heap.size wr w4 := Below.trans hHeld (Below.mono hbc (Below.size hHeld))
      dsimp only
      refine hK.out _ _ HBw4 (fun _ => ?_)
      clear hK K hbc hHeld
      have hHeld := HBw4
      (try simp only [zA])
      refine wpAnyH_done (by kernel_rfl) ?_ _
      refine Or.inl ?_
      have r4w := (Below.block hHeld _ (lt_of_block r4)).trans r4
      have HBW : Hid (Below w.heap.size w w4) := HB0.out.trans (Below.mono hHeld HB0.out.size)
      refine wp_store_row 108 _ _ rfl (w.heap.size + 1) (i64s RL).toArray rfl rfl 108 zero12.toArray r4w i12 hlz o12 ?_
      (try simp only [Act.put])
      clear hHeld
      go_wp2
      try simp only [Exit.inBlock, Exit.then]
      exact bodyPost_ret (results_cell_row rfl _ _ (w.heap.size + 1) 108 (i64s RL).toArray (0, 0) _ rfl (setRow_heap _ _ _ _ _ _ r4w) Tryd.underlying108 rfl i12) rfl ⟨by rw [HRL.out], belowSK HBW.out (by omega) _⟩
end Go.Proofs.YtldbmdgpdolaaaaDoor
