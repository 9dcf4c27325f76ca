/- Contract of rv.Decode (written by gen/mkrvc.py): what it answers, in plain numbers. No condition but that the two tables lie in memory as they were laid. -/
import Derived.Test.YtapjfiihfgndeaaDoorRvCode
namespace Go.Proofs.YtapjfiihfgndeaaDoor
open Go Go.RowKit

theorem find_none (p : Pts) (h : ∀ j, 1 ≤ j → j < 30 → hitB p j = false) : findOp p 1 = none := by
  unfold findOp
  rw [List.find?_eq_none]
  intro j hj
  simp at hj
  rw [h j (by omega) (by omega)]
  simp
theorem RvTab.pat {w : World} (h : RvTab w) (k : Nat) (hk : k < 30) : w.rangeAt 0 (k * 2) [.int .i64 (shOf k), .int .i64 (setOf k)] := by
  intro j u hu
  obtain ⟨e0, e1⟩ := h.pt k hk
  match j, hu with
  | 0, hu => rw [← Option.some.inj (show some (Value.int .i64 (shOf k : Int)) = some u from hu)]; exact e0
  | 1, hu => rw [← Option.some.inj (show some (Value.int .i64 (setOf k : Int)) = some u from hu)]; exact e1
  | j + 2, hu => simp at hu

set_option maxRecDepth 100000 in
set_option maxHeartbeats 1000000 in
theorem rdecode_any (wd : Int) (w : World) (ht : RvTab w) :
    Calls Tryd.prog 35 #[.int .i64 wd] w fun e w' => e = .returned (.tuple #[(decX wd).val, .int .i64 (decE wd)]) ∧ Below w.heap.size w w' := by
  have HT1 : Hid (∀ o, RvTab (w.alloc o)) := fun o => ht.below ((Below.refl _ _).alloc (Nat.le_refl _) _)
  have h60 : (w.alloc (.cells #[.int .i64 0, .int .i64 0, .int .i64 0, .int .i64 0, .int .i64 0] 41)).heap[w.heap.size]? = some (.cells #[.int .i64 0, .int .i64 0, .int .i64 0, .int .i64 0, .int .i64 0] 41 (0, 0)) := heap_alloc_last w _
  have HB0 : Hid (∀ o, Below w.heap.size w (w.alloc o)) := fun o => (Below.refl _ _).alloc (Nat.le_refl _) _
  clear ht
  by_cases h1 : wd < 0 ∨ 4294967295 < wd
  · have e1 : decX wd = zeroMi := if_pos h1
    have e2 : decE wd = 2 := if_pos h1
    rw [e1, e2]
    clear e1 e2
    rcases h1 with h1 | h1
    all_goals
      go_enter Tryd.func35, Tryd.ntmps35
      go_wp2_with (first | (refine wpList_build_storeR rfl _ _ rfl (miC zeroMi).toArray built_rv rfl _ _ rfl _ rfl rfl _ _ h60 infoRv rfl (miC_one _) ?_))
      try simp only [Exit.inBlock, Exit.then]
      exact bodyPost_ret (results_row_tmpR rfl _ _ w.heap.size 41 _ (0, 0) _ rfl h60 Tryd.underlying41 rfl infoRv) rfl ⟨rfl, HB0.out _⟩
  have w0 : 0 ≤ wd := by omega
  have w1 : wd < 4294967296 := by omega
  have w2 : wd ≤ 4294967295 := by omega
  have HD : Hid (∀ r, findOp (partsOf wd) 1 = r → decX wd = (match r with | none => zeroMi | some op => if fitsB (shOf op) (instQ (shOf op) op (partsOf wd)) = true then instQ (shOf op) op (partsOf wd) else zeroMi) ∧ decE wd = (match r with | none => 3 | some op => if fitsB (shOf op) (instQ (shOf op) op (partsOf wd)) = true then 0 else 3)) := fun r hr => by
    subst hr
    unfold decX decE
    rw [if_neg h1, if_neg h1]
    exact ⟨rfl, rfl⟩
  have HM : Hid (∀ k, 1 ≤ k → k ≤ 29 → (bits .and .i64 wd (shF (shOf k) 18) == (setOf k : Int)) = hitB (partsOf wd) k) := fun k a b => mask_eq k a b wd w0 w1
  have HI : Hid (∀ (k : Nat) W, 1 ≤ k → k ≤ 29 → Calls Tryd.prog 42 #[.int .i64 k, .int .i64 wd, .agg (shC (shOf k)).toArray] W fun e w' => e = .returned (.tuple #[(if fitsB (shOf k) (instQ (shOf k) k (partsOf wd)) = true then instQ (shOf k) k (partsOf wd) else zeroMi).val, .int .i64 (if fitsB (shOf k) (instQ (shOf k) k (partsOf wd)) = true then 0 else 3)]) ∧ Below W.heap.size W w') := fun k W a b => instruction_any k wd _ (shOf_lt k a b) w0 w1 W
  clear h1
  go_enter Tryd.func35, Tryd.ntmps35
  go_wp2
  go_loopw [4] (fun v wr => ∃ k : Nat, 1 ≤ k ∧ k ≤ 30 ∧ v = .int .i64 k ∧ (∀ j, 1 ≤ j → j < k → hitB (partsOf wd) j = false) ∧ Below (w.heap.size + 1) (w.alloc (.cells #[.int .i64 0, .int .i64 0, .int .i64 0, .int .i64 0, .int .i64 0] 41)) wr) (fun v _ => 30 - (intOf v).toNat)
  case atStart => exact ⟨1, by omega, by omega, rfl, fun j a b => by omega, Below.refl _ _⟩
  case round =>
    obtain ⟨k, hk1, hk2, rfl, hall, hbr⟩ := hrel
    have h6r : wr.heap[w.heap.size]? = some (.cells #[.int .i64 0, .int .i64 0, .int .i64 0, .int .i64 0, .int .i64 0] 41 (0, 0)) := (hbr.block _ (by omega)).trans h60
    have HBR : Hid (Below (w.heap.size + 1) (w.alloc (.cells #[.int .i64 0, .int .i64 0, .int .i64 0, .int .i64 0, .int .i64 0] 41)) wr) := hbr
    have HBW : Hid (Below w.heap.size w wr) := (HB0.out _).trans (hbr.mono (by omega))
    have HTR : Hid (RvTab wr) := (HT1.out _).below (hbr.mono (by simp))
    have HZ : Hid (w.heap.size < wr.heap.size) := World.heap_lt h6r
    have HALL : Hid (∀ j, 1 ≤ j → j < k → hitB (partsOf wd) j = false) := hall
    clear hall hbr
    by_cases hlt : k ≤ 29
    case neg =>
      obtain rfl : k = 30 := by omega
      obtain ⟨e1, e2⟩ := HD.out _ (find_none _ HALL.out)
      have HE1 : Hid (decX wd = zeroMi) := e1
      have HE2 : Hid (decE wd = 3) := e2
      clear e1 e2
      go_wp2_with (first | (refine wpList_build_storeR rfl _ _ rfl (miC zeroMi).toArray built_rv rfl _ _ rfl _ rfl rfl _ _ h6r infoRv rfl (miC_one _) ?_) | (refine wpList_store_row rfl _ _ _ rfl _ (miC zeroMi).toArray rfl rfl _ _ h6r infoRv rfl (miC_one _) ?_))
      try simp only [Exit.inBlock, Exit.then]
      exact bodyPost_ret (results_row_tmpR rfl _ _ w.heap.size 41 (miC zeroMi).toArray (0, 0) _ rfl (setRow_heap _ _ _ _ _ _ h6r) Tryd.underlying41 rfl infoRv) rfl ⟨by rw [HE1.out, HE2.out]; rfl, below_setRowR HBW.out (Nat.le_refl _) _⟩
    have hs := shOf_lt k hk1 hlt
    have hkI : (k : Int) < 30 := by omega
    have hm := HM.out k hk1 hlt
    have HII : Hid (∀ W, Calls Tryd.prog 42 #[.int .i64 k, .int .i64 wd, .agg (shC (shOf k)).toArray] W fun e w' => e = .returned (.tuple #[(if fitsB (shOf k) (instQ (shOf k) k (partsOf wd)) = true then instQ (shOf k) k (partsOf wd) else zeroMi).val, .int .i64 (if fitsB (shOf k) (instQ (shOf k) k (partsOf wd)) = true then 0 else 3)]) ∧ Below W.heap.size W w') := fun W => HI.out k W hk1 hlt
    have HH : Hid (∀ b, hitB (partsOf wd) k = b → b = true → findOp (partsOf wd) 1 = some k) := fun b e hb => find_hit _ k hk1 hlt (e.trans hb)
    have HN : Hid (hitB (partsOf wd) k = false → ∀ j, 1 ≤ j → j < k + 1 → hitB (partsOf wd) j = false) := fun h j a b => by
      rcases Nat.lt_succ_iff_lt_or_eq.1 b with hl | rfl
      · exact HALL.out j a hl
      · exact h
    have HPR : Hid (wr.rangeAt 0 (k * 2) [.int .i64 (shOf k : Int), .int .i64 (setOf k : Int)]) := HTR.out.pat k (by omega)
    have cm0 : wr.cell? ⟨1, shOf k * 19 + 18, none⟩ = some (.int .i64 (shF (shOf k) 18)) := HTR.out.sh _ 18 hs (by omega)
    have HS : Hid (shOf k < 8) := hs
    have hsI : (shOf k : Int) < 8 := by omega
    have HDK : Hid (findOp (partsOf wd) 1 = some k → decX wd = (if fitsB (shOf k) (instQ (shOf k) k (partsOf wd)) = true then instQ (shOf k) k (partsOf wd) else zeroMi) ∧ decE wd = (if fitsB (shOf k) (instQ (shOf k) k (partsOf wd)) = true then 0 else 3)) := HD.out (some k)
    generalize (if fitsB (shOf k) (instQ (shOf k) k (partsOf wd)) = true then instQ (shOf k) k (partsOf wd) else zeroMi) = XX at HII HDK
    generalize (if fitsB (shOf k) (instQ (shOf k) k (partsOf wd)) = true then (0 : Int) else 3) = EE at HII HDK
    generalize shF (shOf k) 18 = mk at *
    generalize shOf k = s at *
    generalize setOf k = S at *
    generalize hitB (partsOf wd) k = H at *
    have c0 : (wr.alloc (.cells #[.int .i64 (s : Int), .int .i64 (S : Int)] 69)).cell? ⟨wr.heap.size, 0, none⟩ = some (.int .i64 (s : Int)) := by simp
    have c1 : (wr.alloc (.cells #[.int .i64 (s : Int), .int .i64 (S : Int)] 69)).cell? ⟨wr.heap.size, 1, none⟩ = some (.int .i64 (S : Int)) := by simp
    have cm := cell_alloc cm0 (.cells #[.int .i64 (s : Int), .int .i64 (S : Int)] 69)
    have hal : ∀ o, Below wr.heap.size wr (wr.alloc o) := fun o => (Below.refl _ _).alloc (Nat.le_refl _) _
    have h62 := ((hal (.cells #[.int .i64 (s : Int), .int .i64 (S : Int)] 69)).block _ HZ.out).trans h6r
    have HB2 : Hid (Below (w.heap.size + 1) (w.alloc (.cells #[.int .i64 0, .int .i64 0, .int .i64 0, .int .i64 0, .int .i64 0] 41)) (wr.alloc (.cells #[.int .i64 (s : Int), .int .i64 (S : Int)] 69))) := HBR.out.trans ((hal _).mono HZ.out)
    have HBW2 : Hid (Below w.heap.size w (wr.alloc (.cells #[.int .i64 (s : Int), .int .i64 (S : Int)] 69))) := HBW.out.trans ((hal _).mono (Nat.le_of_lt HZ.out))
    have HT2 : Hid (RvTab (wr.alloc (.cells #[.int .i64 (s : Int), .int .i64 (S : Int)] 69))) := HTR.out.below (hal _)
    have HZ2 : Hid (w.heap.size + 1 ≤ (wr.alloc (.cells #[.int .i64 (s : Int), .int .i64 (S : Int)] 69)).heap.size) := by have := HZ.out; show _ ≤ _; simp; omega
    have HPB : Hid (wr.heap.size < (wr.alloc (.cells #[.int .i64 (s : Int), .int .i64 (S : Int)] 69)).heap.size) := by show _ < _; simp
    clear hal cm0 h60 h6r
    go_wp2_with (first | (refine wpList_load_mid rfl _ _ rfl 0 (k * 2) rfl [.int .i64 (s : Int), .int .i64 (S : Int)] _ HPR.out Tryd.underlying69 rfl infoPt ?_))
    generalize wr.alloc (.cells #[.int .i64 (s : Int), .int .i64 (S : Int)] 69) = w2 at *
    generalize wr.heap.size = b2 at *
    refine wp_region_held_drew (S := fun W => Below w2.heap.size w2 W) (by kernel_rfl) ((Below.refl _ _).drew) (fun hHeld => ?_)
    show wpAnyH _ _ _ _ _ 10 _ _ _
    refine wpAnyH_take (i := 0) (v := ?_) rfl (by kernel_rfl) (by kernel_rfl) (by kernel_rfl) (fun _ _ _ h => h) (Or.inl ⟨by rfl, ?_⟩) (by assumption) ?_
    rotate_left
    · (intro W hSW; go_simp; try (with_reducible rfl))
    (try simp only [List.getElem_toArray, List.getElem_cons_zero])
    (try simp only [Act.put, List.setIfInBounds_toArray, List.set_cons_zero, List.set_cons_succ])
    refine wpAnyH_take (i := 1) (v := ?_) rfl (by kernel_rfl) (by kernel_rfl) (by kernel_rfl) (fun _ _ _ h => h) (Or.inl ⟨by rfl, ?_⟩) (by assumption) ?_
    rotate_left
    · (intro W hSW; go_simp; try (with_reducible rfl))
    (try simp only [List.getElem_toArray, List.getElem_cons_succ, List.getElem_cons_zero])
    (try simp only [Act.put, List.setIfInBounds_toArray, List.set_cons_zero, List.set_cons_succ])
    refine wpAnyH_take (i := 2) (v := ?_) rfl (by kernel_rfl) (by kernel_rfl) (by kernel_rfl) (fun _ _ _ h => h) (Or.inl ⟨by rfl, ?_⟩) (by assumption) ?_
    rotate_left
    · (intro W hSW; have z0 := keeps_below hSW _ _ c0; go_simp; try (with_reducible rfl))
    (try simp only [List.getElem_toArray, List.getElem_cons_succ, List.getElem_cons_zero])
    (try simp only [Act.put, List.setIfInBounds_toArray, List.set_cons_zero, List.set_cons_succ])
    refine wpAnyH_take (i := 3) (v := ?_) rfl (by kernel_rfl) (by kernel_rfl) (by kernel_rfl) (fun _ _ _ h => h) (Or.inl ⟨by rfl, ?_⟩) (by assumption) ?_
    rotate_left
    · (intro W hSW; go_simp; try (with_reducible rfl))
    (try simp only [List.getElem_toArray, List.getElem_cons_succ, List.getElem_cons_zero])
    (try simp only [Act.put, List.setIfInBounds_toArray, List.set_cons_zero, List.set_cons_succ])
    refine wpAnyH_take (i := 4) (v := ?_) rfl (by kernel_rfl) (by kernel_rfl) (by kernel_rfl) (fun _ _ _ h => h) (Or.inl ⟨by rfl, ?_⟩) (by assumption) ?_
    rotate_left
    · (intro W hSW; go_simp; try (with_reducible rfl))
    (try simp only [List.getElem_toArray, List.getElem_cons_succ, List.getElem_cons_zero])
    (try simp only [Act.put, List.setIfInBounds_toArray, List.set_cons_zero, List.set_cons_succ])
    refine wpAnyH_take (i := 5) (v := ?_) rfl (by kernel_rfl) (by kernel_rfl) (by kernel_rfl) (fun _ _ _ h => h) (Or.inl ⟨by rfl, ?_⟩) (by assumption) ?_
    rotate_left
    · (intro W hSW; have z0 := keeps_below hSW _ _ cm; go_simp; try (with_reducible rfl))
    (try simp only [List.getElem_toArray, List.getElem_cons_succ, List.getElem_cons_zero])
    (try simp only [Act.put, List.setIfInBounds_toArray, List.set_cons_zero, List.set_cons_succ])
    refine wpAnyH_take (i := 6) (v := ?_) rfl (by kernel_rfl) (by kernel_rfl) (by kernel_rfl) (fun _ _ _ h => h) (Or.inl ⟨by rfl, ?_⟩) (by assumption) ?_
    rotate_left
    · (intro W hSW; go_simp; try (with_reducible rfl))
    (try simp only [List.getElem_toArray, List.getElem_cons_succ, List.getElem_cons_zero])
    (try simp only [Act.put, List.setIfInBounds_toArray, List.set_cons_zero, List.set_cons_succ])
    refine wpAnyH_take (i := 7) (v := ?_) rfl (by kernel_rfl) (by kernel_rfl) (by kernel_rfl) (fun _ _ _ h => h) (Or.inl ⟨by rfl, ?_⟩) (by assumption) ?_
    rotate_left
    · (intro W hSW; go_simp; try (with_reducible rfl))
    (try simp only [List.getElem_toArray, List.getElem_cons_succ, List.getElem_cons_zero])
    (try simp only [Act.put, List.setIfInBounds_toArray, List.set_cons_zero, List.set_cons_succ])
    refine wpAnyH_take (i := 8) (v := ?_) rfl (by kernel_rfl) (by kernel_rfl) (by kernel_rfl) (fun _ _ _ h => h) (Or.inl ⟨by rfl, ?_⟩) (by assumption) ?_
    rotate_left
    · (intro W hSW; have z0 := keeps_below hSW _ _ c1; go_simp; try (with_reducible rfl))
    (try simp only [List.getElem_toArray, List.getElem_cons_succ, List.getElem_cons_zero])
    (try simp only [Act.put, List.setIfInBounds_toArray, List.set_cons_zero, List.set_cons_succ])
    refine wpAnyH_take (i := 9) (v := ?_) rfl (by kernel_rfl) (by kernel_rfl) (by kernel_rfl) (fun _ _ _ h => h) (Or.inl ⟨by rfl, ?_⟩) (by assumption) ?_
    rotate_left
    · (intro W hSW; go_simp; try (with_reducible rfl))
    (try simp only [List.getElem_toArray, List.getElem_cons_succ, List.getElem_cons_zero])
    (try simp only [Act.put, List.setIfInBounds_toArray, List.set_cons_zero, List.set_cons_succ])
    refine wpAnyH_done (by kernel_rfl) ?_ _
    generalize World.drew w2 = w3 at *
    have h63 : w3.heap[w.heap.size]? = some (.cells #[.int .i64 0, .int .i64 0, .int .i64 0, .int .i64 0, .int .i64 0] 41 (0, 0)) := (hHeld.block _ (World.heap_lt h62)).trans h62
    have HB3 : Hid (Below (w.heap.size + 1) (w.alloc (.cells #[.int .i64 0, .int .i64 0, .int .i64 0, .int .i64 0, .int .i64 0] 41)) w3) := HB2.out.trans (hHeld.mono HZ2.out)
    have HBW3 : Hid (Below w.heap.size w w3) := HBW2.out.trans (hHeld.mono (Nat.le_of_succ_le HZ2.out))
    have d0 := keeps_below hHeld _ _ c0
    have HR3 : Hid (w3.rangeAt 1 (s * 19) (shC s)) := (HT2.out.below hHeld).range s HS.out
    clear c0 c1 cm h62 hHeld
    cases H
    · have HNX : Hid _ := HN.out rfl
      go_wp2
      go_roundw
      case rel => exact ⟨k + 1, by omega, by omega, by go_num, HNX.out, HB3.out⟩
      case measure => simp [intOf]; omega
    · obtain ⟨e1, e2⟩ := HDK.out (HH.out _ rfl rfl)
      have HE1 : Hid _ := e1
      have HE2 : Hid _ := e2
      clear e1 e2
      go_wp2_with (first
        | (refine wpList_load_mid rfl 76 _ rfl 1 (s * 19) rfl (shC s) _ HR3.out Tryd.underlying76 rfl (infoShC s) ?_)
        | (go_at_call 42; refine (HII.out _).mono ?_; rintro e w5 ⟨rfl, hb5⟩; have h65 : w5.heap[w.heap.size]? = some (.cells #[.int .i64 0, .int .i64 0, .int .i64 0, .int .i64 0, .int .i64 0] 41 (0, 0)) := (hb5.block _ (World.heap_lt h63)).trans h63; have HB5 : Hid (Below w.heap.size w w5) := HBW3.out.trans (hb5.mono HBW3.out.size); clear hb5)
        | (refine wpList_store_row rfl _ _ _ rfl _ _ rfl rfl _ _ h65 infoRv rfl (miC_one _) ?_))
      try simp only [Exit.inBlock, Exit.then]
      exact bodyPost_ret (results_row_tmpR rfl _ _ w.heap.size 41 _ (0, 0) _ rfl (setRow_heap _ _ _ _ _ _ h65) Tryd.underlying41 rfl infoRv) rfl ⟨by rw [HE1.out, HE2.out]; rfl, below_setRowR HB5.out (Nat.le_refl _) _⟩
end Go.Proofs.YtapjfiihfgndeaaDoor
