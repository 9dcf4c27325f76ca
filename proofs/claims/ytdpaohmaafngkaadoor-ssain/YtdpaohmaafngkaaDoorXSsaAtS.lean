/- Contracts of ssa's at, and of ssa.At at right programs (written by gen/mkssaat.py). -/
import Derived.Test.YtdpaohmaafngkaaDoorXSsaBuild
namespace Go.Proofs.YtdpaohmaafngkaaDoor
open Go Go.RowKit

set_option maxRecDepth 100000 in
theorem atC_any (fr t pc : Int) (nx pv : Value) (B : Nat) (w : World) (hc : w.cell? ⟨B, 0, none⟩ = some (.int .i64 pc)) :
    Calls Tryd.prog 44 #[.agg #[.int .i64 fr, .int .i64 t, nx, pv], .pointer (some ⟨B, 0, none⟩)] w fun e w' => e = .returned (.bool (decide (pc < t))) ∧ Below w.heap.size w w' := by
  have HB : Hid (Below w.heap.size w (w.alloc (.cells #[.int .i64 fr, .int .i64 t, nx, pv] 51))) := (Below.refl _ _).alloc (Nat.le_refl _) _
  have hc2 := keeps_below HB.out _ _ hc
  have k0 : (w.alloc (.cells #[.int .i64 fr, .int .i64 t, nx, pv] 51)).cell? ⟨w.heap.size, 1, none⟩ = some (.int .i64 t) := by rw [cell_of_row _ _ _ _ _ _ (heap_alloc_last w _)]; rfl
  clear hc
  go_enter Tryd.func44, Tryd.ntmps44
  go_upto_region 1 with fail
  generalize w.alloc (.cells #[.int .i64 fr, .int .i64 t, nx, pv] 51) = W1 at *
  go_wp2
  go_ret
  exact ⟨rfl, HB.out⟩
theorem BlkRow.rangeA {w : World} {g n : Nat} {F T : Nat → Int} {VV : Nat → Value} (h : BlkRow w g n F T VV) {i : Nat} (hi : i < n) : w.rangeAt g (i * 4) [.int .i64 (F i), .int .i64 (T i), VV (2 * i), VV (2 * i + 1)] := by
  intro j u hu
  have hj : j < 4 := (List.getElem?_eq_some_iff.1 hu).1
  match j, hj, hu with
  | 0, _, hu => cases hu; exact blk_from h i hi
  | 1, _, hu => cases hu; exact blk_to h i hi
  | 2, _, hu => cases hu; exact blk_next h i hi
  | 3, _, hu => cases hu; exact blk_prev h i hi
theorem infoBlkA : (Tryd.prog.info? 51).map (·.size) = some 4 := by kernel_rfl

set_option maxRecDepth 100000 in
theorem indexA_any (n : Nat) (F T : Nat → Int) (VV : Nat → Value) (g B b : Nat) (pc : Int) (w : World) (hS : n ≤ 1000) (hb : b < n) (hr : BlkRow w g n F T VV) (hc : w.cell? ⟨B, 0, none⟩ = some (.int .i64 pc)) (h1 : pc < T b) (h2 : ∀ j, j < b → ¬ pc < T j) :
    Calls Tryd.prog 43 #[.slice (some ⟨g, 0, none⟩) n n, .func (.func 44) #[] #[.pointer (some ⟨B, 0, none⟩)]] w fun e w' => e = .returned (.int .i64 (b : Int)) ∧ Below w.heap.size w w' := by
  have HR : Hid (∀ W, Below w.heap.size w W → ∀ i, i < n → W.rangeAt g (i * 4) [.int .i64 (F i), .int .i64 (T i), VV (2 * i), VV (2 * i + 1)]) := fun W hb i hi j u hu => keeps_below hb _ _ (hr.rangeA hi j u hu)
  have HC : Hid (∀ W, Below w.heap.size w W → W.cell? ⟨B, 0, none⟩ = some (.int .i64 pc)) := fun W hb => keeps_below hb _ _ hc
  have H1 : Hid (pc < T b) := h1
  have H2 : Hid (∀ j, j < b → ¬ pc < T j) := h2
  clear hr hc h1 h2
  go_enter Tryd.func43, Tryd.ntmps43
  go_wp2
  go_loopw [5, 8] (fun _ i wr => ∃ q : Nat, q ≤ b ∧ i = .int .i64 q ∧ Below w.heap.size w wr) (fun _ i _ => n - (intOf i).toNat)
  case atStart => exact ⟨0, Nat.zero_le _, rfl, Below.refl _ _⟩
  case round =>
    obtain ⟨q, hq, rfl, hwr⟩ := hrel
    have HW : Hid (Below w.heap.size w wr) := hwr
    clear hwr
    have hqn : q < n := by omega
    have hqI : (q : Int) < n := by omega
    have HRG := HR.out wr HW.out q hqn
    have hcl := HC.out wr HW.out
    have hB := atC_any (F q) (T q) pc (VV (2 * q)) (VV (2 * q + 1)) B wr hcl
    by_cases he : q = b
    · have hd : decide (pc < T q) = true := by rw [he]; simpa using H1.out
      rw [hd] at hB
      have HE : Hid (q = b) := he
      clear he hd
      generalize T q = y at *
      generalize F q = x at *
      go_wp2_with (first
        | (refine wpList_load_mid rfl 51 _ rfl g (q * 4) rfl [.int .i64 x, .int .i64 y, VV (2 * q), VV (2 * q + 1)] _ HRG Tryd.underlying51 rfl infoBlkA ?_)
        | (go_at_call 44; refine hB.mono ?_; rintro e w2 ⟨rfl, hb2⟩))
      go_ret
      exact ⟨by rw [HE.out]; rfl, HW.out.trans (hb2.mono HW.out.size)⟩
    · have hd : decide (pc < T q) = false := by simpa using H2.out q (by omega)
      rw [hd] at hB
      clear hd
      generalize T q = y at *
      generalize F q = x at *
      go_wp2_with (first
        | (refine wpList_load_mid rfl 51 _ rfl g (q * 4) rfl [.int .i64 x, .int .i64 y, VV (2 * q), VV (2 * q + 1)] _ HRG Tryd.underlying51 rfl infoBlkA ?_)
        | (go_at_call 44; refine hB.mono ?_; rintro e w2 ⟨rfl, hb2⟩))
      go_roundw
      case rel => exact ⟨q + 1, by omega, by go_num, HW.out.trans (hb2.mono HW.out.size)⟩
      case measure => simp [intOf]; omega

/-- What registers are ahead of a place, by their first numbers. -/
noncomputable def atR (f : Fn) (S : List Nat) (T : Nat → Nat) (L : List Int) (b pc : Nat) : List Int := wantR (mkL L pc) (onR f (S.getD b 0) (pc - S.getD b 0) (fromR f S T L b))

set_option maxRecDepth 100000 in
set_option maxHeartbeats 4000000 in
theorem atS_any {P : List Fn} {f : Fn} {S : List Nat} {T : Nat → Nat} {L : List Int} {pv cv bv lv : Value} (w : World) (h : SsaFn w P f S T L pv cv bv lv) (ht : TabOk w) (pc b : Nat) (hin : InBlk S T pc b) (hpc : pc < f.code.length) (hw : Way f 63 pc) :
    Calls Tryd.prog 27 #[.agg (fnV f pv cv bv lv), .int .i64 pc] w fun e w' => e = .returned (.agg (i64s (atR f S T L b pc)).toArray) ∧ Below w.heap.size w w' := by
  obtain ⟨hb, hi1, hi2⟩ := hin
  have eS : S.getD b 0 = S[b] := by simp [List.getD, hb]
  have hS : S.length ≤ 1000 := by have := starts_len h.flow h.ok.starts; have := h.flow.ok.len2; omega
  have hl12 := (fromR_is h.flow h.ok L hb).len
  have hap : ∀ j, j < b → T j ≤ S.getD b 0 := fun j hj => by
    have := h.ok.apart hb hj
    simpa [List.getD, hb] using this
  have HFR : Hid (∀ W, Below w.heap.size w W → Calls Tryd.prog 47 #[.agg (fnV f pv cv bv lv), .int .i64 b] W fun e w' => e = .returned (.agg (i64s (fromR f S T L b)).toArray) ∧ Below W.heap.size W w') := fun W hW => fromS_all W (h.below hW) (ht.below hW) b hb
  have HON : Hid (∀ W, Below w.heap.size w W → Calls Tryd.prog 46 #[.agg (fnV f pv cv bv lv), .agg (i64s (fromR f S T L b)).toArray, .int .i64 ((S.getD b 0 : Nat) : Int), .int .i64 (pc : Int)] W fun e w' => e = .returned (.agg (i64s (onR f (S.getD b 0) (pc - S.getD b 0) (fromR f S T L b))).toArray) ∧ Below W.heap.size W w') := fun W hW => onS_any W (h.below hW) (ht.below hW) _ hl12 _ _ (by rw [eS]; exact hi1) (Nat.le_of_lt hpc)
  have HWN : Hid (∀ W, Below w.heap.size w W → Calls Tryd.prog 45 #[.agg (fnV f pv cv bv lv), .agg (i64s (onR f (S.getD b 0) (pc - S.getD b 0) (fromR f S T L b))).toArray, .int .i64 (pc : Int)] W fun e w' => e = .returned (.agg (i64s (atR f S T L b pc)).toArray) ∧ Below W.heap.size W w') := fun W hW => wantedS_any W (h.below hW) _ (by rw [onR_len]; exact hl12) pc hpc hw
  obtain ⟨RL, hRL⟩ : ∃ RL, RL = atR f S T L b pc := ⟨_, rfl⟩
  have HRL : Hid (RL = atR f S T L b pc) := hRL
  rw [← hRL] at HWN
  have hR12 : RL.length = 12 := by rw [hRL]; exact wantR_len _ _
  have i12 := infoRgL hR12
  have o12 := oneI64 RL
  have hlz : zero12.toArray.size = (i64s RL).toArray.size := by simp [zero12, i64s, hR12]
  obtain ⟨gB, VV, rfl, hb1, -⟩ := h.blocks
  have HIX : Hid (∀ W, Below w.heap.size w W → W.cell? ⟨w.heap.size + 1, 0, none⟩ = some (.int .i64 (pc : Int)) → Calls Tryd.prog 43 #[.slice (some ⟨gB, 0, none⟩) S.length S.length, .func (.func 44) #[] #[.pointer (some ⟨w.heap.size + 1, 0, none⟩)]] W fun e w' => e = .returned (.int .i64 (b : Int)) ∧ Below W.heap.size W w') := fun W hW hc => indexA_any S.length _ _ VV gB (w.heap.size + 1) b pc W hS hb (ownsRow_below hb1 hW) hc (by omega) (fun j hj => by have := hap j hj; rw [eS] at this; omega)
  have HCF : Hid (∀ W, Below w.heap.size w W → W.cell? ⟨gB, b * 4, none⟩ = some (.int .i64 ((S.getD b 0 : Nat) : Int))) := fun W hW => keeps_below hW _ _ (blk_from hb1 b hb)
  have hbI : (b : Int) < (S.length : Int) := by omega
  have hmf : ∀ (fn : Go.Fn) (first cap : Array Value) (w : World), (Instr.makeFunc fn first cap).run Tryd.prog w = .ok (.func fn first cap) w := fun _ _ _ _ => rfl
  unfold fnV at *
  clear h ht hb1 eS hRL hl12 hR12 hap hi1 hi2
  generalize ((S.getD b 0 : Nat) : Int) = zF at *
  generalize (i64s (fromR f S T L b)).toArray = FRL at *
  generalize (i64s (onR f (S.getD b 0) (pc - S.getD b 0) (fromR f S T L b))).toArray = ONL at *
  generalize hSL : S.length = SL at *
  clear hSL
  go_enter Tryd.func27, Tryd.ntmps27
  go_upto_region 1 with fail
  rw [show (#[.int .i64 0, .int .i64 0, .int .i64 0, .int .i64 0, .int .i64 0, .int .i64 0, .int .i64 0, .int .i64 0, .int .i64 0, .int .i64 0, .int .i64 0, .int .i64 0] : Array Value) = zero12.toArray from rfl]
  have r2 : (((w.alloc (.cells #[pv, .int .i64 f.params, cv, .slice (some ⟨gB, 0, none⟩) SL SL, lv] 69)).alloc (.cells #[.int .i64 (pc : Int)] 3)).alloc (.cells zero12.toArray 79)).heap[w.heap.size]? = some (.cells #[pv, .int .i64 f.params, cv, .slice (some ⟨gB, 0, none⟩) SL SL, lv] 69 (0, 0)) := heap_alloc_old _ _ (by simp <;> omega) |>.trans (heap_alloc2_old _ _ _)
  have r3 : (((w.alloc (.cells #[pv, .int .i64 f.params, cv, .slice (some ⟨gB, 0, none⟩) SL SL, lv] 69)).alloc (.cells #[.int .i64 (pc : Int)] 3)).alloc (.cells zero12.toArray 79)).heap[w.heap.size + 1]? = some (.cells #[.int .i64 (pc : Int)] 3 (0, 0)) := heap_alloc_old _ _ (by simp <;> omega) |>.trans (heap_alloc2_new _ _ _)
  have r4 : (((w.alloc (.cells #[pv, .int .i64 f.params, cv, .slice (some ⟨gB, 0, none⟩) SL SL, lv] 69)).alloc (.cells #[.int .i64 (pc : Int)] 3)).alloc (.cells zero12.toArray 79)).heap[w.heap.size + 1 + 1]? = some (.cells zero12.toArray 79 (0, 0)) := heap_alloc3_newS _ _ _ _
  have HB0 : Hid (Below w.heap.size w (((w.alloc (.cells #[pv, .int .i64 f.params, cv, .slice (some ⟨gB, 0, none⟩) SL SL, lv] 69)).alloc (.cells #[.int .i64 (pc : Int)] 3)).alloc (.cells zero12.toArray 79))) := (((Below.refl _ _).alloc (Nat.le_refl _) _).alloc (by simp) _).alloc (by simp <;> omega) _
  generalize (((w.alloc (.cells #[pv, .int .i64 f.params, cv, .slice (some ⟨gB, 0, none⟩) SL SL, lv] 69)).alloc (.cells #[.int .i64 (pc : Int)] 3)).alloc (.cells zero12.toArray 79)) = V0 at *
  have k3 : V0.cell? ⟨w.heap.size, 3, none⟩ = some (.slice (some ⟨gB, 0, none⟩) SL SL) := by rw [cell_of_row _ _ _ _ _ _ r2]; rfl
  have kpc : V0.cell? ⟨w.heap.size + 1, 0, none⟩ = some (.int .i64 (pc : Int)) := by rw [cell_of_row _ _ _ _ _ _ r3]; rfl
  have hix := HIX.out V0 HB0.out kpc
  go_upto_region 2 with (go_at_call 43; refine hix.mono ?_; rintro e V ⟨rfl, hb2⟩)
  have HBV : Hid (Below w.heap.size w V) := HB0.out.trans (hb2.mono HB0.out.size)
  replace r2 := (hb2.block _ (lt_of_block r2)).trans r2
  replace r4 := (hb2.block _ (lt_of_block r4)).trans r4
  replace k3 := keeps_below hb2 _ _ k3
  replace kpc := keeps_below hb2 _ _ kpc
  have hz2 : w.heap.size < V.heap.size := lt_of_block r2
  have cF := HCF.out V HBV.out
  clear hb2 hix r3 HIX
  have infoFn : (Tryd.prog.info? 69).map (·.size) = some [pv, .int .i64 f.params, cv, .slice (some ⟨gB, 0, none⟩) SL SL, lv].length := infoFnS
  obtain ⟨FVL, hFV⟩ : ∃ FVL, FVL = [pv, .int .i64 f.params, cv, .slice (some ⟨gB, 0, none⟩) SL SL, lv] := ⟨_, rfl⟩
  rw [show #[pv, .int .i64 f.params, cv, .slice (some ⟨gB, 0, none⟩) SL SL, lv] = FVL.toArray by rw [hFV]] at *
  rw [← hFV] at infoFn
  clear hFV
  refine wp_region_last (S := fun W => Below V.heap.size V W) _ 15 (by kernel_rfl) (by kernel_rfl) rfl ((Below.refl _ _).drew) (fun hHeld => ?_)
  simp only [List.pop_toArray, List.dropLast]
  refine wpAnyH_take (i := 0) (v := .agg FVL.toArray) rfl (by kernel_rfl) (by kernel_rfl) (by kernel_rfl) (fun _ _ _ h => h) (yieldsIf_load_mid (by rfl) 69 _ rfl _ 0 rfl FVL _ (fun W hSW j u hu => by rw [cell_of_row _ _ _ _ _ _ ((hSW.block _ hz2).trans r2)]; simpa using hu) Tryd.underlying69 rfl infoFn) (by assumption) ?_
  (try simp only [List.getElem_toArray, List.getElem_cons_succ, List.getElem_cons_zero])
  (try simp only [Act.put, List.setIfInBounds_toArray, List.set_cons_zero, List.set_cons_succ])
  refine wpAnyH_take (i := 1) (v := .agg FVL.toArray) rfl (by kernel_rfl) (by kernel_rfl) (by kernel_rfl) (fun _ _ _ h => h) (yieldsIf_load_mid (by rfl) 69 _ rfl _ 0 rfl FVL _ (fun W hSW j u hu => by rw [cell_of_row _ _ _ _ _ _ ((hSW.block _ hz2).trans r2)]; simpa using hu) Tryd.underlying69 rfl infoFn) (by assumption) ?_
  (try simp only [List.getElem_toArray, List.getElem_cons_succ, List.getElem_cons_zero])
  (try simp only [Act.put, List.setIfInBounds_toArray, List.set_cons_zero, List.set_cons_succ])
  refine wpAnyH_take (i := 2) (v := .agg FVL.toArray) rfl (by kernel_rfl) (by kernel_rfl) (by kernel_rfl) (fun _ _ _ h => h) (yieldsIf_load_mid (by rfl) 69 _ rfl _ 0 rfl FVL _ (fun W hSW j u hu => by rw [cell_of_row _ _ _ _ _ _ ((hSW.block _ hz2).trans r2)]; simpa using hu) Tryd.underlying69 rfl infoFn) (by assumption) ?_
  (try simp only [List.getElem_toArray, List.getElem_cons_succ, List.getElem_cons_zero])
  (try simp only [Act.put, List.setIfInBounds_toArray, List.set_cons_zero, List.set_cons_succ])
  refine wpAnyH_take (i := 3) (v := ?_) rfl (by kernel_rfl) (by kernel_rfl) (by kernel_rfl) (fun _ _ _ h => h) (Or.inl ⟨by rfl, ?_⟩) (by assumption) ?_
  rotate_left
  · (intro W hSW; go_simp; try (with_reducible rfl))
  (try simp only [Act.put, List.setIfInBounds_toArray])
  refine wpAnyH_take (i := 5) (v := ?_) rfl (by kernel_rfl) (by kernel_rfl) (by kernel_rfl) (fun _ _ _ h => h) (Or.inl ⟨by rfl, ?_⟩) (by assumption) ?_
  rotate_left
  · (intro W hSW; go_simp; try (with_reducible rfl))
  (try simp only [Act.put])
  refine wpAnyH_take (i := 6) (v := ?_) rfl (by kernel_rfl) (by kernel_rfl) (by kernel_rfl) (fun _ _ _ h => h) (Or.inl ⟨by rfl, ?_⟩) (by assumption) ?_
  rotate_left
  · (intro W hSW; have z0 := keeps_below hSW _ _ k3; go_simp; try (with_reducible rfl))
  (try simp only [Act.put])
  refine wpAnyH_take (i := 7) (v := ?_) rfl (by kernel_rfl) (by kernel_rfl) (by kernel_rfl) (fun _ _ _ h => h) (Or.inl ⟨by rfl, ?_⟩) (by assumption) ?_
  rotate_left
  · (intro W hSW; go_simp; try (with_reducible rfl))
  (try simp only [Act.put])
  refine wpAnyH_take (i := 8) (v := ?_) rfl (by kernel_rfl) (by kernel_rfl) (by kernel_rfl) (fun _ _ _ h => h) (Or.inl ⟨by rfl, ?_⟩) (by assumption) ?_
  rotate_left
  · (intro W hSW; go_simp; try (with_reducible rfl))
  (try simp only [Act.put])
  refine wpAnyH_take (i := 9) (v := ?_) rfl (by kernel_rfl) (by kernel_rfl) (by kernel_rfl) (fun _ _ _ h => h) (Or.inl ⟨by rfl, ?_⟩) (by assumption) ?_
  rotate_left
  · (intro W hSW; go_simp; try (with_reducible rfl))
  (try simp only [Act.put])
  refine wpAnyH_take (i := 10) (v := ?_) rfl (by kernel_rfl) (by kernel_rfl) (by kernel_rfl) (fun _ _ _ h => h) (Or.inl ⟨by rfl, ?_⟩) (by assumption) ?_
  rotate_left
  · (intro W hSW; have z0 := keeps_below hSW _ _ cF; go_simp; try (with_reducible rfl))
  (try simp only [Act.put])
  refine wpAnyH_take (i := 11) (v := ?_) rfl (by kernel_rfl) (by kernel_rfl) (by kernel_rfl) (fun _ _ _ h => h) (Or.inl ⟨by rfl, ?_⟩) (by assumption) ?_
  rotate_left
  · (intro W hSW; have z0 := keeps_below hSW _ _ kpc; go_simp; try (with_reducible rfl))
  (try simp only [Act.put])
  refine wpAnyH_take (i := 13) (v := ?_) rfl (by kernel_rfl) (by kernel_rfl) (by kernel_rfl) (fun _ _ _ h => h) (Or.inl ⟨by rfl, ?_⟩) (by assumption) ?_
  rotate_left
  · (intro W hSW; have z0 := keeps_below hSW _ _ kpc; go_simp; try (with_reducible rfl))
  (try simp only [Act.put])
  refine wpAnyH_ready (rs := [4]) (by kernel_rfl) (by simp) ?_
  refine AllReadyH.cons rfl (fun K hK => ?_) AllReadyH.nil
  go_simp
  go_at_call 47
  refine (HFR.out _ (HBV.out.trans (Below.mono hHeld HBV.out.size))).mono ?_
  rintro e w3 ⟨rfl, hbc⟩
  have HBw3 : Below V.heap.size V w3 := Below.trans hHeld (Below.mono hbc (Below.size hHeld))
  dsimp only
  refine hK.out _ _ HBw3 (fun _ => ?_)
  clear hK K hbc hHeld
  have hHeld := HBw3
  (try simp only [Act.put, List.setIfInBounds_toArray, List.set_cons_zero, List.set_cons_succ])
  refine wpAnyH_ready (rs := [12]) (by kernel_rfl) (by simp) ?_
  refine AllReadyH.cons rfl (fun K hK => ?_) AllReadyH.nil
  go_simp
  go_at_call 46
  refine (HON.out _ (HBV.out.trans (Below.mono hHeld HBV.out.size))).mono ?_
  rintro e w4 ⟨rfl, hbc⟩
  have HBw4 : Below V.heap.size V w4 := Below.trans hHeld (Below.mono hbc (Below.size hHeld))
  dsimp only
  refine hK.out _ _ HBw4 (fun _ => ?_)
  clear hK K hbc hHeld
  have hHeld := HBw4
  (try simp only [Act.put, List.setIfInBounds_toArray, List.set_cons_zero, List.set_cons_succ])
  refine wpAnyH_ready (rs := [14]) (by kernel_rfl) (by simp) ?_
  refine AllReadyH.cons rfl (fun K hK => ?_) AllReadyH.nil
  go_simp
  go_at_call 45
  refine (HWN.out _ (HBV.out.trans (Below.mono hHeld HBV.out.size))).mono ?_
  rintro e w5 ⟨rfl, hbc⟩
  have HBw5 : Below V.heap.size V w5 := Below.trans hHeld (Below.mono hbc (Below.size hHeld))
  dsimp only
  refine hK.out _ _ HBw5 (fun _ => ?_)
  clear hK K hbc hHeld
  have hHeld := HBw5
  (try simp only [Act.put, List.setIfInBounds_toArray, List.set_cons_zero, List.set_cons_succ])
  refine wpAnyH_done (by kernel_rfl) ?_ _
  refine Or.inl ?_
  have r4w := (Below.block hHeld _ (lt_of_block r4)).trans r4
  have HBW : Hid (Below w.heap.size w w5) := HBV.out.trans (Below.mono hHeld HBV.out.size)
  refine wp_store_row 79 _ _ rfl (w.heap.size + 1 + 1) (i64s RL).toArray rfl rfl 79 zero12.toArray r4w i12 hlz o12 ?_
  (try simp only [Act.put])
  clear hHeld
  go_wp2
  try simp only [Exit.inBlock, Exit.then]
  exact bodyPost_ret (results_cell_row rfl _ _ (w.heap.size + 1 + 1) 79 (i64s RL).toArray (0, 0) _ rfl (setRow_heap _ _ _ _ _ _ r4w) Tryd.underlying79 rfl i12) rfl ⟨by rw [HRL.out], belowSK HBW.out (by omega) _⟩
end Go.Proofs.YtdpaohmaafngkaaDoor
