/- Contracts of rv.Check, Encode, instruction, Decode (written by gen/mkrvc.py): what each answers, in plain numbers. No condition but that the two tables lie in memory as they were laid. -/
import Derived.Test.YtapjfiihfgndeaaDoorRvFits
import Derived.Test.YtapjfiihfgndeaaDoorRvEqs
import Derived.Deep.RegionHeld3
import Derived.Deep.MidRow
import Derived.Deep.WholeRow
namespace Go.Proofs.YtapjfiihfgndeaaDoor
open Go Go.RowKit

theorem infoRv : (Tryd.prog.info? 41).map (·.size) = some 5 := by kernel_rfl
theorem infoSh : (Tryd.prog.info? 76).map (·.size) = some 19 := by kernel_rfl
theorem infoPt : (Tryd.prog.info? 69).map (·.size) = some 2 := by kernel_rfl
theorem shC_len (s : Nat) : (shC s).length = 19 := by simp [shC]
theorem infoShC (s : Nat) : (Tryd.prog.info? 76).map (·.size) = some (shC s).length := by rw [shC_len]; exact infoSh
def miC (x : Mi) : List Value := [.int .i64 x.op, .int .i64 x.rd, .int .i64 x.rs1, .int .i64 x.rs2, .int .i64 x.imm]
theorem miC_val (x : Mi) : Value.agg (miC x).toArray = x.val := rfl
theorem box_range {w : World} {cs : List Value} {t : TypeId} : (w.alloc (.cells cs.toArray t)).rangeAt w.heap.size 0 cs := by
  intro j u hu
  rw [Nat.zero_add, cell_of_row (w.alloc (.cells cs.toArray t)) w.heap.size j cs.toArray t (0, 0) (heap_alloc_new w _)]
  simpa using hu
theorem range_below {B : Nat} {w w' : World} {b o : Nat} {cs : List Value} (h : w.rangeAt b o cs) (hb : Below B w w') (hB : b < B) : w'.rangeAt b o cs :=
  fun j u hu => (hb.cell (p := ⟨b, o + j, none⟩) hB).trans (h j u hu)

set_option maxRecDepth 100000 in
set_option maxHeartbeats 2000000 in
theorem rcheck_any (x : Mi) (w : World) (ht : RvTab w) :
    Calls Tryd.prog 33 #[x.val] w fun e w' => e = .returned (.int .i64 (rvE x)) ∧ Below w.heap.size w w' := by
  obtain ⟨op, rd, rs1, rs2, imm⟩ := x
  by_cases h1 : op < 1
  · have e : rvE ⟨op, rd, rs1, rs2, imm⟩ = 3 := by unfold rvE; rw [if_pos (Or.inl h1)]
    rw [e]; clear e ht
    unfold Mi.val
    dsimp only
    go_enter Tryd.func33, Tryd.ntmps33
    go_wp2
    go_ret
    exact ⟨rfl, (Below.refl _ _).alloc (Nat.le_refl _) _⟩
  by_cases h2 : 29 < op
  · have e : rvE ⟨op, rd, rs1, rs2, imm⟩ = 3 := by unfold rvE; rw [if_pos (Or.inr h2)]
    rw [e]; clear e ht
    unfold Mi.val
    dsimp only
    go_enter Tryd.func33, Tryd.ntmps33
    go_wp2
    go_ret
    exact ⟨rfl, (Below.refl _ _).alloc (Nat.le_refl _) _⟩
  obtain ⟨k, rfl⟩ := Int.eq_ofNat_of_zero_le (show 0 ≤ op by omega)
  have hs := shOf_lt k (by omega) (by omega)
  have e : rvE ⟨(k : Int), rd, rs1, rs2, imm⟩ = if fitsB (shOf k) ⟨(k : Int), rd, rs1, rs2, imm⟩ = true then 0 else 2 := by
    unfold rvE; rw [if_neg (by simp only; omega)]; simp
  rw [e]; clear e
  have HB1 : ∀ o, Below w.heap.size w (w.alloc o) := fun o => (Below.refl _ _).alloc (Nat.le_refl _) _
  have HT : Hid (RvTab (w.alloc (.cells (miC ⟨k, rd, rs1, rs2, imm⟩).toArray 41))) := ht.below (HB1 _)
  have cp := (HT.out.pt k (by omega)).1
  have HX : Hid ((w.alloc (.cells (miC ⟨k, rd, rs1, rs2, imm⟩).toArray 41)).rangeAt w.heap.size 0 (miC ⟨k, rd, rs1, rs2, imm⟩)) := box_range
  have cx := HX.out 0 (.int .i64 k) rfl
  have HZ : Hid (w.heap.size < (w.alloc (.cells (miC ⟨k, rd, rs1, rs2, imm⟩).toArray 41)).heap.size) := by show _ < _; simp
  have HBW : Hid (Below w.heap.size w (w.alloc (.cells (miC ⟨k, rd, rs1, rs2, imm⟩).toArray 41))) := HB1 _
  have HF : Hid (∀ W, Calls Tryd.prog 40 #[.agg (miC ⟨k, rd, rs1, rs2, imm⟩).toArray, .agg (shC (shOf k)).toArray] W fun e w' => e = .returned (.bool (fitsB (shOf k) ⟨k, rd, rs1, rs2, imm⟩)) ∧ Below W.heap.size W w') := fun W => fits_shape _ _ hs W
  generalize shOf k = s at *
  have HS : Hid (s < 8) := hs
  have hkI : (k : Int) < 30 := by omega
  have hsI : (s : Int) < 8 := by omega
  clear ht HB1 h2
  generalize fitsB s ⟨(k : Int), rd, rs1, rs2, imm⟩ = F at *
  rw [← miC_val]
  cases F
  · simp only [Bool.false_eq_true, if_false]
    go_enter Tryd.func33, Tryd.ntmps33
    go_wp2
    generalize w.alloc (.cells (miC ⟨k, rd, rs1, rs2, imm⟩).toArray 41) = w1 at *
    refine wp_region_held_drew (S := fun W => Below w1.heap.size w1 W) (by kernel_rfl) ((Below.refl _ _).drew) (fun hHeld => ?_)
    show wpAnyH _ _ _ _ _ 10 _ _ _
    refine wpAnyH_take (i := 0) (v := .agg (miC ⟨k, rd, rs1, rs2, imm⟩ : List Value).toArray) rfl (by kernel_rfl) (by kernel_rfl) (by kernel_rfl) (fun _ _ _ h => h) (yieldsIf_load_mid (by rfl) 41 (.tmp 1) rfl (w.heap.size) (0) rfl (miC ⟨k, rd, rs1, rs2, imm⟩) _ (fun W hW => range_below HX.out hW HZ.out) Tryd.underlying41 rfl infoRv) (by assumption) ?_
    simp only [List.getElem_toArray, List.getElem_cons_zero]
    (try simp only [Act.put, List.setIfInBounds_toArray, List.set_cons_zero, List.set_cons_succ])
    refine wpAnyH_take (i := 1) (v := ?_) rfl (by kernel_rfl) (by kernel_rfl) (by kernel_rfl) (fun _ _ _ h => h) (Or.inl ⟨by rfl, ?_⟩) (by assumption) ?_
    rotate_left
    · (intro W hSW; go_simp; try (with_reducible rfl))
    (try simp only [List.getElem_toArray, List.getElem_cons_succ, List.getElem_cons_zero])
    (try simp only [Act.put, List.setIfInBounds_toArray, List.set_cons_zero, List.set_cons_succ])
    refine wpAnyH_take (i := 2) (v := ?_) rfl (by kernel_rfl) (by kernel_rfl) (by kernel_rfl) (fun _ _ _ h => h) (Or.inl ⟨by rfl, ?_⟩) (by assumption) ?_
    rotate_left
    · (intro W hSW; have z0 := keeps_below hSW _ _ cx; go_simp; try (with_reducible rfl))
    (try simp only [List.getElem_toArray, List.getElem_cons_succ, List.getElem_cons_zero])
    (try simp only [Act.put, List.setIfInBounds_toArray, List.set_cons_zero, List.set_cons_succ])
    refine wpAnyH_take (i := 3) (v := ?_) rfl (by kernel_rfl) (by kernel_rfl) (by kernel_rfl) (fun _ _ _ h => h) (Or.inl ⟨by rfl, ?_⟩) (by assumption) ?_
    rotate_left
    · (intro W hSW; go_simp; try (with_reducible rfl))
    (try simp only [List.getElem_toArray, List.getElem_cons_succ, List.getElem_cons_zero])
    (try simp only [Act.put, List.setIfInBounds_toArray, List.set_cons_zero, List.set_cons_succ])
    refine wpAnyH_take (i := 4) (v := ?_) rfl (by kernel_rfl) (by kernel_rfl) (by kernel_rfl) (fun _ _ _ h => h) (Or.inl ⟨by rfl, ?_⟩) (by assumption) ?_
    rotate_left
    · (intro W hSW; go_simp; try (with_reducible rfl))
    (try simp only [List.getElem_toArray, List.getElem_cons_succ, List.getElem_cons_zero])
    (try simp only [Act.put, List.setIfInBounds_toArray, List.set_cons_zero, List.set_cons_succ])
    refine wpAnyH_take (i := 5) (v := ?_) rfl (by kernel_rfl) (by kernel_rfl) (by kernel_rfl) (fun _ _ _ h => h) (Or.inl ⟨by rfl, ?_⟩) (by assumption) ?_
    rotate_left
    · (intro W hSW; have z0 := keeps_below hSW _ _ cp; go_simp; try (with_reducible rfl))
    (try simp only [List.getElem_toArray, List.getElem_cons_succ, List.getElem_cons_zero])
    (try simp only [Act.put, List.setIfInBounds_toArray, List.set_cons_zero, List.set_cons_succ])
    refine wpAnyH_take (i := 6) (v := ?_) rfl (by kernel_rfl) (by kernel_rfl) (by kernel_rfl) (fun _ _ _ h => h) (Or.inl ⟨by rfl, ?_⟩) (by assumption) ?_
    rotate_left
    · (intro W hSW; go_simp; try (with_reducible rfl))
    (try simp only [List.getElem_toArray, List.getElem_cons_succ, List.getElem_cons_zero])
    (try simp only [Act.put, List.setIfInBounds_toArray, List.set_cons_zero, List.set_cons_succ])
    refine wpAnyH_take (i := 7) (v := .agg (shC s : List Value).toArray) rfl (by kernel_rfl) (by kernel_rfl) (by kernel_rfl) (fun _ _ _ h => h) (yieldsIf_load_mid (by rfl) 76 (.tmp 17) rfl (1) (s * 19) rfl (shC s) _ (fun W hW => (HT.out.below hW).range s HS.out) Tryd.underlying76 rfl (infoShC s)) (by assumption) ?_
    simp only [List.getElem_toArray, List.getElem_cons_succ, List.getElem_cons_zero]
    (try simp only [Act.put, List.setIfInBounds_toArray, List.set_cons_zero, List.set_cons_succ])
    refine wpAnyH_ready (rs := [8]) (by kernel_rfl) (by simp) ?_
    refine AllReadyH.cons rfl (fun K hK => ?_) AllReadyH.nil
    go_simp
    go_at_call 40
    refine (HF.out _).mono ?_
    rintro e w3 ⟨rfl, hb3⟩
    have hH3 : Below w1.heap.size w1 w3 := hHeld.trans (hb3.mono hHeld.size)
    dsimp only
    refine hK.out _ _ (hHeld.trans (hb3.mono hHeld.size)) (fun _ => ?_)
    clear hK K
    (try simp only [Act.put, List.setIfInBounds_toArray, List.set_cons_zero, List.set_cons_succ])
    clear hHeld
    have hHeld : Below w1.heap.size w1 w3 := hH3
    clear hH3
    refine wpAnyH_take (i := 9) (v := ?_) rfl (by kernel_rfl) (by kernel_rfl) (by kernel_rfl) (fun _ _ _ h => h) (Or.inl ⟨by rfl, ?_⟩) (by assumption) ?_
    rotate_left
    · (intro W hSW; go_simp; try (with_reducible rfl))
    (try simp only [List.getElem_toArray, List.getElem_cons_succ, List.getElem_cons_zero])
    (try simp only [Act.put, List.setIfInBounds_toArray, List.set_cons_zero, List.set_cons_succ])
    refine wpAnyH_done (by kernel_rfl) ?_ _
    go_wp2
    go_ret
    exact ⟨rfl, HBW.out.trans (hHeld.mono (by have := HZ.out; omega))⟩
  · simp only [if_true]
    go_enter Tryd.func33, Tryd.ntmps33
    go_wp2
    generalize w.alloc (.cells (miC ⟨k, rd, rs1, rs2, imm⟩).toArray 41) = w1 at *
    refine wp_region_held_drew (S := fun W => Below w1.heap.size w1 W) (by kernel_rfl) ((Below.refl _ _).drew) (fun hHeld => ?_)
    show wpAnyH _ _ _ _ _ 10 _ _ _
    refine wpAnyH_take (i := 0) (v := .agg (miC ⟨k, rd, rs1, rs2, imm⟩ : List Value).toArray) rfl (by kernel_rfl) (by kernel_rfl) (by kernel_rfl) (fun _ _ _ h => h) (yieldsIf_load_mid (by rfl) 41 (.tmp 1) rfl (w.heap.size) (0) rfl (miC ⟨k, rd, rs1, rs2, imm⟩) _ (fun W hW => range_below HX.out hW HZ.out) Tryd.underlying41 rfl infoRv) (by assumption) ?_
    simp only [List.getElem_toArray, List.getElem_cons_zero]
    (try simp only [Act.put, List.setIfInBounds_toArray, List.set_cons_zero, List.set_cons_succ])
    refine wpAnyH_take (i := 1) (v := ?_) rfl (by kernel_rfl) (by kernel_rfl) (by kernel_rfl) (fun _ _ _ h => h) (Or.inl ⟨by rfl, ?_⟩) (by assumption) ?_
    rotate_left
    · (intro W hSW; go_simp; try (with_reducible rfl))
    (try simp only [List.getElem_toArray, List.getElem_cons_succ, List.getElem_cons_zero])
    (try simp only [Act.put, List.setIfInBounds_toArray, List.set_cons_zero, List.set_cons_succ])
    refine wpAnyH_take (i := 2) (v := ?_) rfl (by kernel_rfl) (by kernel_rfl) (by kernel_rfl) (fun _ _ _ h => h) (Or.inl ⟨by rfl, ?_⟩) (by assumption) ?_
    rotate_left
    · (intro W hSW; have z0 := keeps_below hSW _ _ cx; go_simp; try (with_reducible rfl))
    (try simp only [List.getElem_toArray, List.getElem_cons_succ, List.getElem_cons_zero])
    (try simp only [Act.put, List.setIfInBounds_toArray, List.set_cons_zero, List.set_cons_succ])
    refine wpAnyH_take (i := 3) (v := ?_) rfl (by kernel_rfl) (by kernel_rfl) (by kernel_rfl) (fun _ _ _ h => h) (Or.inl ⟨by rfl, ?_⟩) (by assumption) ?_
    rotate_left
    · (intro W hSW; go_simp; try (with_reducible rfl))
    (try simp only [List.getElem_toArray, List.getElem_cons_succ, List.getElem_cons_zero])
    (try simp only [Act.put, List.setIfInBounds_toArray, List.set_cons_zero, List.set_cons_succ])
    refine wpAnyH_take (i := 4) (v := ?_) rfl (by kernel_rfl) (by kernel_rfl) (by kernel_rfl) (fun _ _ _ h => h) (Or.inl ⟨by rfl, ?_⟩) (by assumption) ?_
    rotate_left
    · (intro W hSW; go_simp; try (with_reducible rfl))
    (try simp only [List.getElem_toArray, List.getElem_cons_succ, List.getElem_cons_zero])
    (try simp only [Act.put, List.setIfInBounds_toArray, List.set_cons_zero, List.set_cons_succ])
    refine wpAnyH_take (i := 5) (v := ?_) rfl (by kernel_rfl) (by kernel_rfl) (by kernel_rfl) (fun _ _ _ h => h) (Or.inl ⟨by rfl, ?_⟩) (by assumption) ?_
    rotate_left
    · (intro W hSW; have z0 := keeps_below hSW _ _ cp; go_simp; try (with_reducible rfl))
    (try simp only [List.getElem_toArray, List.getElem_cons_succ, List.getElem_cons_zero])
    (try simp only [Act.put, List.setIfInBounds_toArray, List.set_cons_zero, List.set_cons_succ])
    refine wpAnyH_take (i := 6) (v := ?_) rfl (by kernel_rfl) (by kernel_rfl) (by kernel_rfl) (fun _ _ _ h => h) (Or.inl ⟨by rfl, ?_⟩) (by assumption) ?_
    rotate_left
    · (intro W hSW; go_simp; try (with_reducible rfl))
    (try simp only [List.getElem_toArray, List.getElem_cons_succ, List.getElem_cons_zero])
    (try simp only [Act.put, List.setIfInBounds_toArray, List.set_cons_zero, List.set_cons_succ])
    refine wpAnyH_take (i := 7) (v := .agg (shC s : List Value).toArray) rfl (by kernel_rfl) (by kernel_rfl) (by kernel_rfl) (fun _ _ _ h => h) (yieldsIf_load_mid (by rfl) 76 (.tmp 17) rfl (1) (s * 19) rfl (shC s) _ (fun W hW => (HT.out.below hW).range s HS.out) Tryd.underlying76 rfl (infoShC s)) (by assumption) ?_
    simp only [List.getElem_toArray, List.getElem_cons_succ, List.getElem_cons_zero]
    (try simp only [Act.put, List.setIfInBounds_toArray, List.set_cons_zero, List.set_cons_succ])
    refine wpAnyH_ready (rs := [8]) (by kernel_rfl) (by simp) ?_
    refine AllReadyH.cons rfl (fun K hK => ?_) AllReadyH.nil
    go_simp
    go_at_call 40
    refine (HF.out _).mono ?_
    rintro e w3 ⟨rfl, hb3⟩
    have hH3 : Below w1.heap.size w1 w3 := hHeld.trans (hb3.mono hHeld.size)
    dsimp only
    refine hK.out _ _ (hHeld.trans (hb3.mono hHeld.size)) (fun _ => ?_)
    clear hK K
    (try simp only [Act.put, List.setIfInBounds_toArray, List.set_cons_zero, List.set_cons_succ])
    clear hHeld
    have hHeld : Below w1.heap.size w1 w3 := hH3
    clear hH3
    refine wpAnyH_take (i := 9) (v := ?_) rfl (by kernel_rfl) (by kernel_rfl) (by kernel_rfl) (fun _ _ _ h => h) (Or.inl ⟨by rfl, ?_⟩) (by assumption) ?_
    rotate_left
    · (intro W hSW; go_simp; try (with_reducible rfl))
    (try simp only [List.getElem_toArray, List.getElem_cons_succ, List.getElem_cons_zero])
    (try simp only [Act.put, List.setIfInBounds_toArray, List.set_cons_zero, List.set_cons_succ])
    refine wpAnyH_done (by kernel_rfl) ?_ _
    go_wp2
    go_ret
    exact ⟨rfl, HBW.out.trans (hHeld.mono (by have := HZ.out; omega))⟩

def encI (x : Mi) : Int := if rvE x = 0 then wordI x else 0
set_option maxRecDepth 100000 in
set_option maxHeartbeats 2000000 in
theorem rencode_any (x : Mi) (w : World) (ht : RvTab w) :
    Calls Tryd.prog 22 #[x.val] w fun e w' => e = .returned (.tuple #[.int .i64 (encI x), .int .i64 (rvE x)]) ∧ Below w.heap.size w w' := by
  have hC := fun o => rcheck_any x (w.alloc o) (ht.below ((Below.refl _ _).alloc (Nat.le_refl _) _))
  by_cases h0 : rvE x = 0
  case neg =>
    have e : encI x = 0 := if_neg h0
    rw [e]; clear e ht
    have h1 : (rvE x != 0) = true := by simpa using h0
    generalize rvE x = E at *
    clear h0
    rw [← miC_val] at hC
    rw [← miC_val]
    obtain ⟨op, rd, rs1, rs2, imm⟩ := x
    unfold miC at *
    dsimp only at *
    go_enter Tryd.func22, Tryd.ntmps22
    go_wp2_with (go_at_call 33; refine (hC _).mono ?_; rintro e w1 ⟨rfl, hb1⟩; have HB1 : Hid (Below w.heap.size w w1) := ((Below.refl _ _).alloc (Nat.le_refl _) _).trans (hb1.mono (by simp)); clear hb1)
    go_ret2
    exact ⟨rfl, HB1.out⟩
  have hok := rvE_ok h0
  have e : encI x = wordI x := if_pos h0
  rw [e]; clear e
  rw [h0] at hC ⊢
  obtain ⟨op, rd, rs1, rs2, imm⟩ := x
  have hE := enc_eq _ hok
  obtain ⟨o1, o2, -⟩ := hok
  dsimp only at o1 o2 hE
  obtain ⟨k, rfl⟩ := Int.eq_ofNat_of_zero_le (show 0 ≤ op by omega)
  simp only [Int.toNat_natCast] at hE
  have hs := shOf_lt k (by omega) (by omega)
  have HF : Hid (∀ W, Calls Tryd.prog 34 #[.agg (miC ⟨k, rd, rs1, rs2, imm⟩).toArray, .agg (shC (shOf k)).toArray] W fun e w' => e = .returned (.int .i64 (fieldsG (shOf k) ⟨k, rd, rs1, rs2, imm⟩)) ∧ Below W.heap.size W w') := fun W => fields_shape _ _ hs W
  have HPT : Hid (∀ W, Below w.heap.size w W → RvTab W ∧ W.rangeAt 0 (k * 2) [.int .i64 (shOf k), .int .i64 (setOf k)]) := fun W hW => by
    have hT := ht.below hW
    refine ⟨hT, fun j u hu => ?_⟩
    obtain ⟨e0, e1⟩ := hT.pt k (by omega)
    match j, hu with
    | 0, hu => rw [← Option.some.inj (show some (Value.int .i64 (shOf k : Int)) = some u from hu)]; exact e0
    | 1, hu => rw [← Option.some.inj (show some (Value.int .i64 (setOf k : Int)) = some u from hu)]; exact e1
    | j + 2, hu => simp at hu
  have HE : Hid (orI (setOf k : Int) (fieldsG (shOf k) ⟨k, rd, rs1, rs2, imm⟩) = wordI ⟨k, rd, rs1, rs2, imm⟩) := hE
  clear hE h0 ht
  generalize shOf k = s at *
  generalize setOf k = S at *
  generalize fieldsG s ⟨k, rd, rs1, rs2, imm⟩ = FG at *
  generalize wordI ⟨k, rd, rs1, rs2, imm⟩ = WI at *
  have HS : Hid (s < 8) := hs
  have hkI : (k : Int) < 30 := by omega
  have hsI : (s : Int) < 8 := by omega
  rw [← miC_val] at hC ⊢
  go_enter Tryd.func22, Tryd.ntmps22
  go_wp2_with (first
    | (refine wpList_load_row rfl 41 _ rfl w.heap.size rfl 41 _ (0, 0) _ (heap_alloc_new w _) Tryd.underlying41 rfl infoRv ?_)
    | (go_at_call 33; refine (hC _).mono ?_; rintro e w1 ⟨rfl, hb1⟩; have HB1 : Hid (Below w.heap.size w w1) := ((Below.refl _ _).alloc (Nat.le_refl _) _).trans (hb1.mono (by simp)); have HX1 : Hid (w1.rangeAt w.heap.size 0 (miC ⟨k, rd, rs1, rs2, imm⟩)) := range_below box_range hb1 (by simp); have cx := HX1.out 0 (.int .i64 k) rfl; have hz1 : w.heap.size < w1.heap.size := Nat.lt_of_lt_of_le (by simp) hb1.size; have HPR : Hid (w1.rangeAt 0 (k * 2) [.int .i64 (s : Int), .int .i64 (S : Int)]) := (HPT.out w1 HB1.out).2; clear hb1)
    | (refine wpList_load_mid rfl _ _ rfl 0 (k * 2) rfl [.int .i64 (s : Int), .int .i64 (S : Int)] _ HPR.out Tryd.underlying69 rfl infoPt ?_))
  have c0 : (w1.alloc (.cells #[.int .i64 (s : Int), .int .i64 (S : Int)] 69)).cell? ⟨w1.heap.size, 0, none⟩ = some (.int .i64 (s : Int)) := by simp
  have c1 : (w1.alloc (.cells #[.int .i64 (s : Int), .int .i64 (S : Int)] 69)).cell? ⟨w1.heap.size, 1, none⟩ = some (.int .i64 (S : Int)) := by simp
  have HB2 : Hid (Below w.heap.size w (w1.alloc (.cells #[.int .i64 (s : Int), .int .i64 (S : Int)] 69))) := HB1.out.alloc (by omega) _
  have HX2 : Hid ((w1.alloc (.cells #[.int .i64 (s : Int), .int .i64 (S : Int)] 69)).rangeAt w.heap.size 0 (miC ⟨k, rd, rs1, rs2, imm⟩)) := range_below HX1.out ((Below.refl _ w1).alloc (Nat.le_refl _) _) hz1
  have HT2 : Hid (RvTab (w1.alloc (.cells #[.int .i64 (s : Int), .int .i64 (S : Int)] 69))) := (HPT.out _ HB2.out).1
  have HZ2 : Hid (w.heap.size < (w1.alloc (.cells #[.int .i64 (s : Int), .int .i64 (S : Int)] 69)).heap.size) := by show _ < _; simp; omega
  clear cx
  generalize w1.alloc (.cells #[.int .i64 (s : Int), .int .i64 (S : Int)] 69) = w2 at *
  refine wp_region_held_drew (S := fun W => Below w2.heap.size w2 W) (by kernel_rfl) ((Below.refl _ _).drew) (fun hHeld => ?_)
  show wpAnyH _ _ _ _ _ 11 _ _ _
  refine wpAnyH_take (i := 0) (v := ?_) rfl (by kernel_rfl) (by kernel_rfl) (by kernel_rfl) (fun _ _ _ h => h) (Or.inl ⟨by rfl, ?_⟩) (by assumption) ?_
  rotate_left
  · (intro W hSW; go_simp; try (with_reducible rfl))
  (try simp only [List.getElem_toArray, List.getElem_cons_zero])
  (try simp only [Act.put, List.setIfInBounds_toArray, List.set_cons_zero, List.set_cons_succ])
  refine wpAnyH_take (i := 1) (v := ?_) rfl (by kernel_rfl) (by kernel_rfl) (by kernel_rfl) (fun _ _ _ h => h) (Or.inl ⟨by rfl, ?_⟩) (by assumption) ?_
  rotate_left
  · (intro W hSW; have z0 := keeps_below hSW _ _ c1; go_simp; try (with_reducible rfl))
  (try simp only [List.getElem_toArray, List.getElem_cons_succ, List.getElem_cons_zero])
  (try simp only [Act.put, List.setIfInBounds_toArray, List.set_cons_zero, List.set_cons_succ])
  refine wpAnyH_take (i := 2) (v := .agg (miC ⟨k, rd, rs1, rs2, imm⟩ : List Value).toArray) rfl (by kernel_rfl) (by kernel_rfl) (by kernel_rfl) (fun _ _ _ h => h) (yieldsIf_load_mid (by rfl) 41 (.tmp 1) rfl (w.heap.size) (0) rfl (miC ⟨k, rd, rs1, rs2, imm⟩) _ (fun W hW => range_below HX2.out hW HZ2.out) Tryd.underlying41 rfl infoRv) (by assumption) ?_
  simp only [List.getElem_toArray, List.getElem_cons_succ, List.getElem_cons_zero]
  (try simp only [Act.put, List.setIfInBounds_toArray, List.set_cons_zero, List.set_cons_succ])
  refine wpAnyH_take (i := 3) (v := ?_) rfl (by kernel_rfl) (by kernel_rfl) (by kernel_rfl) (fun _ _ _ h => h) (Or.inl ⟨by rfl, ?_⟩) (by assumption) ?_
  rotate_left
  · (intro W hSW; go_simp; try (with_reducible rfl))
  (try simp only [List.getElem_toArray, List.getElem_cons_succ, List.getElem_cons_zero])
  (try simp only [Act.put, List.setIfInBounds_toArray, List.set_cons_zero, List.set_cons_succ])
  refine wpAnyH_take (i := 4) (v := ?_) rfl (by kernel_rfl) (by kernel_rfl) (by kernel_rfl) (fun _ _ _ h => h) (Or.inl ⟨by rfl, ?_⟩) (by assumption) ?_
  rotate_left
  · (intro W hSW; have z0 := keeps_below hSW _ _ c0; go_simp; try (with_reducible rfl))
  (try simp only [List.getElem_toArray, List.getElem_cons_succ, List.getElem_cons_zero])
  (try simp only [Act.put, List.setIfInBounds_toArray, List.set_cons_zero, List.set_cons_succ])
  refine wpAnyH_take (i := 5) (v := ?_) rfl (by kernel_rfl) (by kernel_rfl) (by kernel_rfl) (fun _ _ _ h => h) (Or.inl ⟨by rfl, ?_⟩) (by assumption) ?_
  rotate_left
  · (intro W hSW; go_simp; try (with_reducible rfl))
  (try simp only [List.getElem_toArray, List.getElem_cons_succ, List.getElem_cons_zero])
  (try simp only [Act.put, List.setIfInBounds_toArray, List.set_cons_zero, List.set_cons_succ])
  refine wpAnyH_take (i := 6) (v := .agg (shC s : List Value).toArray) rfl (by kernel_rfl) (by kernel_rfl) (by kernel_rfl) (fun _ _ _ h => h) (yieldsIf_load_mid (by rfl) 76 (.tmp 20) rfl (1) (s * 19) rfl (shC s) _ (fun W hW => (HT2.out.below hW).range s HS.out) Tryd.underlying76 rfl (infoShC s)) (by assumption) ?_
  simp only [List.getElem_toArray, List.getElem_cons_succ, List.getElem_cons_zero]
  (try simp only [Act.put, List.setIfInBounds_toArray, List.set_cons_zero, List.set_cons_succ])
  refine wpAnyH_ready (rs := [7]) (by kernel_rfl) (by simp) ?_
  refine AllReadyH.cons rfl (fun K hK => ?_) AllReadyH.nil
  go_simp
  go_at_call 34
  refine (HF.out _).mono ?_
  rintro e w3 ⟨rfl, hb3⟩
  have hH3 : Below w2.heap.size w2 w3 := hHeld.trans (hb3.mono hHeld.size)
  dsimp only
  refine hK.out _ _ (hHeld.trans (hb3.mono hHeld.size)) (fun _ => ?_)
  clear hK K
  (try simp only [Act.put, List.setIfInBounds_toArray, List.set_cons_zero, List.set_cons_succ])
  clear hHeld
  have hHeld : Below w2.heap.size w2 w3 := hH3
  clear hH3
  refine wpAnyH_take (i := 8) (v := ?_) rfl (by kernel_rfl) (by kernel_rfl) (by kernel_rfl) (fun _ _ _ h => h) (Or.inl ⟨by rfl, ?_⟩) (by assumption) ?_
  rotate_left
  · (intro W hSW; go_simp; try (with_reducible rfl))
  (try simp only [List.getElem_toArray, List.getElem_cons_succ, List.getElem_cons_zero])
  (try simp only [Act.put, List.setIfInBounds_toArray, List.set_cons_zero, List.set_cons_succ])
  refine wpAnyH_take (i := 9) (v := ?_) rfl (by kernel_rfl) (by kernel_rfl) (by kernel_rfl) (fun _ _ _ h => h) (Or.inl ⟨by rfl, ?_⟩) (by assumption) ?_
  rotate_left
  · (intro W hSW; go_simp; try (with_reducible rfl))
  (try simp only [List.getElem_toArray, List.getElem_cons_succ, List.getElem_cons_zero])
  (try simp only [Act.put, List.setIfInBounds_toArray, List.set_cons_zero, List.set_cons_succ])
  refine wpAnyH_take (i := 10) (v := ?_) rfl (by kernel_rfl) (by kernel_rfl) (by kernel_rfl) (fun _ _ _ h => h) (Or.inl ⟨by rfl, ?_⟩) (by assumption) ?_
  rotate_left
  · (intro W hSW; go_simp; try (with_reducible rfl))
  (try simp only [List.getElem_toArray, List.getElem_cons_succ, List.getElem_cons_zero])
  (try simp only [Act.put, List.setIfInBounds_toArray, List.set_cons_zero, List.set_cons_succ])
  refine wpAnyH_done (by kernel_rfl) ?_ _
  go_wp2
  go_ret2
  exact ⟨by rw [← HE.out]; rfl, HB2.out.trans (hHeld.mono (by have := HZ2.out; omega))⟩

theorem miC_one (x : Mi) : (miC x).toArray.all (·.oneCell') = true := by simp [miC, Value.oneCell']
theorem World.heap_lt {w : World} {g : Nat} {o : Obj} (h : w.heap[g]? = some o) : g < w.heap.size := (Array.getElem?_eq_some_iff.1 h).1
theorem below_setRowR {B g : Nat} {w w' : World} (h : Below B w w') (hB : B ≤ g) (cs : Array Value) : Below B w (w'.setRow g cs) :=
  h.trans ⟨rfl, rfl, rfl, by simp, fun k hk => by simp only [World.setRow, Array.getElem?_modify]; rw [if_neg (by omega)]⟩
theorem built_rv : Tryd.prog.built 41 [] = some (miC zeroMi).toArray := by kernel_rfl
theorem results_row_tmpR {P : Program} {fn : Func} {p u : Tmp} {ty : TypeId} (h : fn.results = #[.cell p ty, .tmp u]) (tmps : Array Value) (w : World) (g : Nat) (t : TypeId) (cs : Array Value) (fr : Nat × Nat) (d : TypeDesc)
    (hp : tmps.getD p undef = .pointer (some ⟨g, 0, none⟩)) (hg : w.heap[g]? = some (.cells cs t fr))
    (hu : P.underlying ty = some d) (hd : (match d with | .struct _ | .array _ _ => true | _ => false) = true) (hi : (P.info? ty).map (·.size) = some cs.size) :
    (results fn tmps).run P w = .ok (.tuple #[.agg cs, tmps.getD u undef]) w := by
  rw [results_cell_tmp h, hp]
  simp only [asAddr, Sem.run_pure, Result.andThen_ok, run_loadVar_row w g t ty cs fr d hg hu hd hi]
theorem wpList_build_storeR {P : Program} {ops : Array Oper} {rest : List Oper} {o1 o2 : Oper} {a : Act} {w : World} {Q : Exit → Act → World → Prop} (hg1 : o1.guard = none) (t : TypeId) (parts : Array (Nat × Operand)) (ho1 : o1.op = .build t parts)
    (cs : Array Value) (hf : P.built t (parts.map fun (i, x) => (i, a.eval x)).toList = some cs) (hg2 : o2.guard = none) (x y : Operand) (ho2 : o2.op = .store t x y) (g : Nat)
    (hx : (a.put o1.dst (.agg cs)).eval x = .pointer (some ⟨g, 0, none⟩)) (hy : (a.put o1.dst (.agg cs)).eval y = .agg cs) (ty : TypeId) (old : Array Value) (hg : w.heap[g]? = some (.cells old ty (0, 0))) (hi : (P.info? t).map (·.size) = some cs.size)
    (hold : old.size = cs.size) (h1 : cs.all (·.oneCell') = true) (h : wpList P ops Q rest ((a.put o1.dst (.agg cs)).put o2.dst undef) (w.setRow g cs)) : wpList P ops Q (o1 :: o2 :: rest) a w := by
  refine wpList_build hg1 t parts ho1 (by rw [hf]; rfl) ?_
  rw [hf]
  exact wpList_store_row hg2 t x y ho2 g cs hx hy ty old hg hi hold h1 h

set_option maxRecDepth 100000 in
set_option maxHeartbeats 4000000 in
theorem instruction_any (op : Nat) (wd : Int) (s : Nat) (hs : s < 8) (w0 : 0 ≤ wd) (w1 : wd < 4294967296) (w : World) :
    Calls Tryd.prog 42 #[.int .i64 op, .int .i64 wd, .agg (shC s).toArray] w fun e w' => e = .returned (.tuple #[(if fitsB s (instQ s op (partsOf wd)) = true then instQ s op (partsOf wd) else zeroMi).val, .int .i64 (if fitsB s (instQ s op (partsOf wd)) = true then 0 else 3)]) ∧ Below w.heap.size w w' := by
  obtain ⟨g0, g1, g2⟩ := regs_eq s hs
  have hX : instQ s op (partsOf wd) = ⟨op, bits .and .i64 (wd / 128) (shF s 0), bits .and .i64 (wd / 32768) (shF s 1), bits .and .i64 (wd / 1048576) (shF s 2), immRaw s wd⟩ := by
    rw [reg_eq _ _ g0 (by omega) (by omega), reg_eq _ _ g1 (by omega) (by omega), reg_eq _ _ g2 (by omega) (by omega), imm_eq s hs wd w0 w1]
    rfl
  have HI : Hid (∀ W, Calls Tryd.prog 55 #[.int .i64 wd, .agg (shC s).toArray] W fun e w' => e = .returned (.int .i64 (immRaw s wd)) ∧ Below W.heap.size W w') := fun W => imm_shape wd s hs W
  generalize instQ s op (partsOf wd) = X at *
  have HXX : Hid (Value.agg (miC X).toArray = X.val) := rfl
  have HX : Hid (X = ⟨op, bits .and .i64 (wd / 128) (shF s 0), bits .and .i64 (wd / 32768) (shF s 1), bits .and .i64 (wd / 1048576) (shF s 2), immRaw s wd⟩) := hX
  have HF : Hid (∀ W, Calls Tryd.prog 40 #[.agg (miC X).toArray, .agg (shC s).toArray] W fun e w' => e = .returned (.bool (fitsB s X)) ∧ Below W.heap.size W w') := fun W => fits_shape X s hs W
  generalize fitsB s X = F at *
  generalize immRaw s wd = IM at *
  clear hX g0 g1 g2
  have HR : Hid (((w.alloc (.cells (shC s).toArray 76)).alloc (.cells #[.int .i64 0, .int .i64 0, .int .i64 0, .int .i64 0, .int .i64 0] 41)).rangeAt w.heap.size 0 (shC s)) := range_below box_range ((Below.refl _ _).alloc (Nat.le_refl _) _) (by simp)
  have d0 := HR.out 0 (.int .i64 (shF s 0)) rfl
  have d1 := HR.out 1 (.int .i64 (shF s 1)) rfl
  have d2 := HR.out 2 (.int .i64 (shF s 2)) rfl
  have H6 : Hid (((w.alloc (.cells (shC s).toArray 76)).alloc (.cells #[.int .i64 0, .int .i64 0, .int .i64 0, .int .i64 0, .int .i64 0] 41)).heap[w.heap.size + 1]? = some (.cells #[.int .i64 0, .int .i64 0, .int .i64 0, .int .i64 0, .int .i64 0] 41 (0, 0))) := heap_alloc2_new _ _ _
  have HB : Hid (Below w.heap.size w ((w.alloc (.cells (shC s).toArray 76)).alloc (.cells #[.int .i64 0, .int .i64 0, .int .i64 0, .int .i64 0, .int .i64 0] 41))) := ((Below.refl _ _).alloc (Nat.le_refl _) _).alloc (by simp) _
  have HZ : Hid (w.heap.size < ((w.alloc (.cells (shC s).toArray 76)).alloc (.cells #[.int .i64 0, .int .i64 0, .int .i64 0, .int .i64 0, .int .i64 0] 41)).heap.size) := by show _ < _; simp; omega
  have HZ6 : Hid (w.heap.size + 1 < ((w.alloc (.cells (shC s).toArray 76)).alloc (.cells #[.int .i64 0, .int .i64 0, .int .i64 0, .int .i64 0, .int .i64 0] 41)).heap.size) := by show _ < _; simp
  cases F
  · simp only [Bool.false_eq_true, if_false]
    go_enter Tryd.func42, Tryd.ntmps42
    go_wp2
    generalize (w.alloc (.cells (shC s).toArray 76)).alloc (.cells #[.int .i64 0, .int .i64 0, .int .i64 0, .int .i64 0, .int .i64 0] 41) = w1 at *
    refine wp_region_held_drew (S := fun W => Below w1.heap.size w1 W) (by kernel_rfl) ((Below.refl _ _).drew) (fun hHeld => ?_)
    show wpAnyH _ _ _ _ _ 22 _ _ _
    refine wpAnyH_take (i := 0) (v := ?_) rfl (by kernel_rfl) (by kernel_rfl) (by kernel_rfl) (fun _ _ _ h => h) (Or.inl ⟨by rfl, ?_⟩) (by assumption) ?_
    rotate_left
    · (intro W hSW; go_simp; try (with_reducible rfl))
    (try simp only [List.getElem_toArray, List.getElem_cons_zero])
    (try simp only [Act.put, List.setIfInBounds_toArray, List.set_cons_zero, List.set_cons_succ])
    refine wpAnyH_take (i := 1) (v := ?_) rfl (by kernel_rfl) (by kernel_rfl) (by kernel_rfl) (fun _ _ _ h => h) (Or.inl ⟨by rfl, ?_⟩) (by assumption) ?_
    rotate_left
    · (intro W hSW; go_simp; try (with_reducible rfl))
    (try simp only [List.getElem_toArray, List.getElem_cons_succ, List.getElem_cons_zero])
    (try simp only [Act.put, List.setIfInBounds_toArray, List.set_cons_zero, List.set_cons_succ])
    refine wpAnyH_take (i := 2) (v := ?_) rfl (by kernel_rfl) (by kernel_rfl) (by kernel_rfl) (fun _ _ _ h => h) (Or.inl ⟨by rfl, ?_⟩) (by assumption) ?_
    rotate_left
    · (intro W hSW; go_simp; try (with_reducible rfl))
    (try simp only [List.getElem_toArray, List.getElem_cons_succ, List.getElem_cons_zero])
    (try simp only [Act.put, List.setIfInBounds_toArray, List.set_cons_zero, List.set_cons_succ])
    refine wpAnyH_take (i := 3) (v := ?_) rfl (by kernel_rfl) (by kernel_rfl) (by kernel_rfl) (fun _ _ _ h => h) (Or.inl ⟨by rfl, ?_⟩) (by assumption) ?_
    rotate_left
    · (intro W hSW; go_simp; try (with_reducible rfl))
    (try simp only [List.getElem_toArray, List.getElem_cons_succ, List.getElem_cons_zero])
    (try simp only [Act.put, List.setIfInBounds_toArray, List.set_cons_zero, List.set_cons_succ])
    refine wpAnyH_take (i := 4) (v := ?_) rfl (by kernel_rfl) (by kernel_rfl) (by kernel_rfl) (fun _ _ _ h => h) (Or.inl ⟨by rfl, ?_⟩) (by assumption) ?_
    rotate_left
    · (intro W hSW; have z0 := keeps_below hSW _ _ d0; go_simp; try (with_reducible rfl))
    (try simp only [List.getElem_toArray, List.getElem_cons_succ, List.getElem_cons_zero])
    (try simp only [Act.put, List.setIfInBounds_toArray, List.set_cons_zero, List.set_cons_succ])
    refine wpAnyH_take (i := 5) (v := ?_) rfl (by kernel_rfl) (by kernel_rfl) (by kernel_rfl) (fun _ _ _ h => h) (Or.inl ⟨by rfl, ?_⟩) (by assumption) ?_
    rotate_left
    · (intro W hSW; go_simp; try (with_reducible rfl))
    (try simp only [List.getElem_toArray, List.getElem_cons_succ, List.getElem_cons_zero])
    (try simp only [Act.put, List.setIfInBounds_toArray, List.set_cons_zero, List.set_cons_succ])
    refine wpAnyH_take (i := 6) (v := ?_) rfl (by kernel_rfl) (by kernel_rfl) (by kernel_rfl) (fun _ _ _ h => h) (Or.inl ⟨by rfl, ?_⟩) (by assumption) ?_
    rotate_left
    · (intro W hSW; go_simp; try (with_reducible rfl))
    (try simp only [List.getElem_toArray, List.getElem_cons_succ, List.getElem_cons_zero])
    (try simp only [Act.put, List.setIfInBounds_toArray, List.set_cons_zero, List.set_cons_succ])
    refine wpAnyH_take (i := 7) (v := ?_) rfl (by kernel_rfl) (by kernel_rfl) (by kernel_rfl) (fun _ _ _ h => h) (Or.inl ⟨by rfl, ?_⟩) (by assumption) ?_
    rotate_left
    · (intro W hSW; go_simp; try (with_reducible rfl))
    (try simp only [List.getElem_toArray, List.getElem_cons_succ, List.getElem_cons_zero])
    (try simp only [Act.put, List.setIfInBounds_toArray, List.set_cons_zero, List.set_cons_succ])
    refine wpAnyH_take (i := 8) (v := ?_) rfl (by kernel_rfl) (by kernel_rfl) (by kernel_rfl) (fun _ _ _ h => h) (Or.inl ⟨by rfl, ?_⟩) (by assumption) ?_
    rotate_left
    · (intro W hSW; go_simp; try (with_reducible rfl))
    (try simp only [List.getElem_toArray, List.getElem_cons_succ, List.getElem_cons_zero])
    (try simp only [Act.put, List.setIfInBounds_toArray, List.set_cons_zero, List.set_cons_succ])
    refine wpAnyH_take (i := 9) (v := ?_) rfl (by kernel_rfl) (by kernel_rfl) (by kernel_rfl) (fun _ _ _ h => h) (Or.inl ⟨by rfl, ?_⟩) (by assumption) ?_
    rotate_left
    · (intro W hSW; have z0 := keeps_below hSW _ _ d1; go_simp; try (with_reducible rfl))
    (try simp only [List.getElem_toArray, List.getElem_cons_succ, List.getElem_cons_zero])
    (try simp only [Act.put, List.setIfInBounds_toArray, List.set_cons_zero, List.set_cons_succ])
    refine wpAnyH_take (i := 10) (v := ?_) rfl (by kernel_rfl) (by kernel_rfl) (by kernel_rfl) (fun _ _ _ h => h) (Or.inl ⟨by rfl, ?_⟩) (by assumption) ?_
    rotate_left
    · (intro W hSW; go_simp; try (with_reducible rfl))
    (try simp only [List.getElem_toArray, List.getElem_cons_succ, List.getElem_cons_zero])
    (try simp only [Act.put, List.setIfInBounds_toArray, List.set_cons_zero, List.set_cons_succ])
    refine wpAnyH_take (i := 11) (v := ?_) rfl (by kernel_rfl) (by kernel_rfl) (by kernel_rfl) (fun _ _ _ h => h) (Or.inl ⟨by rfl, ?_⟩) (by assumption) ?_
    rotate_left
    · (intro W hSW; go_simp; try (with_reducible rfl))
    (try simp only [List.getElem_toArray, List.getElem_cons_succ, List.getElem_cons_zero])
    (try simp only [Act.put, List.setIfInBounds_toArray, List.set_cons_zero, List.set_cons_succ])
    refine wpAnyH_take (i := 12) (v := ?_) rfl (by kernel_rfl) (by kernel_rfl) (by kernel_rfl) (fun _ _ _ h => h) (Or.inl ⟨by rfl, ?_⟩) (by assumption) ?_
    rotate_left
    · (intro W hSW; go_simp; try (with_reducible rfl))
    (try simp only [List.getElem_toArray, List.getElem_cons_succ, List.getElem_cons_zero])
    (try simp only [Act.put, List.setIfInBounds_toArray, List.set_cons_zero, List.set_cons_succ])
    refine wpAnyH_take (i := 13) (v := ?_) rfl (by kernel_rfl) (by kernel_rfl) (by kernel_rfl) (fun _ _ _ h => h) (Or.inl ⟨by rfl, ?_⟩) (by assumption) ?_
    rotate_left
    · (intro W hSW; go_simp; try (with_reducible rfl))
    (try simp only [List.getElem_toArray, List.getElem_cons_succ, List.getElem_cons_zero])
    (try simp only [Act.put, List.setIfInBounds_toArray, List.set_cons_zero, List.set_cons_succ])
    refine wpAnyH_take (i := 14) (v := ?_) rfl (by kernel_rfl) (by kernel_rfl) (by kernel_rfl) (fun _ _ _ h => h) (Or.inl ⟨by rfl, ?_⟩) (by assumption) ?_
    rotate_left
    · (intro W hSW; have z0 := keeps_below hSW _ _ d2; go_simp; try (with_reducible rfl))
    (try simp only [List.getElem_toArray, List.getElem_cons_succ, List.getElem_cons_zero])
    (try simp only [Act.put, List.setIfInBounds_toArray, List.set_cons_zero, List.set_cons_succ])
    refine wpAnyH_take (i := 15) (v := ?_) rfl (by kernel_rfl) (by kernel_rfl) (by kernel_rfl) (fun _ _ _ h => h) (Or.inl ⟨by rfl, ?_⟩) (by assumption) ?_
    rotate_left
    · (intro W hSW; go_simp; try (with_reducible rfl))
    (try simp only [List.getElem_toArray, List.getElem_cons_succ, List.getElem_cons_zero])
    (try simp only [Act.put, List.setIfInBounds_toArray, List.set_cons_zero, List.set_cons_succ])
    refine wpAnyH_take (i := 16) (v := ?_) rfl (by kernel_rfl) (by kernel_rfl) (by kernel_rfl) (fun _ _ _ h => h) (Or.inl ⟨by rfl, ?_⟩) (by assumption) ?_
    rotate_left
    · (intro W hSW; go_simp; try (with_reducible rfl))
    (try simp only [List.getElem_toArray, List.getElem_cons_succ, List.getElem_cons_zero])
    (try simp only [Act.put, List.setIfInBounds_toArray, List.set_cons_zero, List.set_cons_succ])
    refine wpAnyH_take (i := 17) (v := .agg (shC s : List Value).toArray) rfl (by kernel_rfl) (by kernel_rfl) (by kernel_rfl) (fun _ _ _ h => h) (yieldsIf_load_mid (by rfl) 76 (.tmp 5) rfl (w.heap.size) (0) rfl (shC s) _ (fun W hW => range_below HR.out hW HZ.out) Tryd.underlying76 rfl (infoShC s)) (by assumption) ?_
    simp only [List.getElem_toArray, List.getElem_cons_succ, List.getElem_cons_zero]
    (try simp only [Act.put, List.setIfInBounds_toArray, List.set_cons_zero, List.set_cons_succ])
    refine wpAnyH_ready (rs := [18, 20]) (by kernel_rfl) (by simp) ?_
    refine AllReadyH.cons rfl (fun K hK => ?_) (AllReadyH.cons rfl (fun K hK => ?_) AllReadyH.nil)
    · -- the call, then the box
      go_simp
      go_at_call 55
      refine (HI.out _).mono ?_
      rintro e w3 ⟨rfl, hb3⟩
      have HB3 : Hid (Below w1.heap.size w1 w3) := hHeld.trans (hb3.mono hHeld.size)
      dsimp only
      refine hK.out _ _ HB3.out (fun _ => ?_)
      clear hK K hHeld hb3
      (try simp only [Act.put, List.setIfInBounds_toArray, List.set_cons_zero, List.set_cons_succ])
      have hHeld := HB3.out
      refine wpAnyH_take (i := 19) (v := ?_) rfl (by kernel_rfl) (by kernel_rfl) (by kernel_rfl) (fun _ _ _ h => h) (Or.inl ⟨by rfl, ?_⟩) (by assumption) ?_
      rotate_left
      · (intro W hSW; go_simp; try (with_reducible rfl))
      (try simp only [List.getElem_toArray, List.getElem_cons_succ, List.getElem_cons_zero])
      (try simp only [Act.put, List.setIfInBounds_toArray, List.set_cons_zero, List.set_cons_succ])
      refine wpAnyH_ready (rs := [20]) (by kernel_rfl) (by simp) ?_
      refine AllReadyH.cons rfl (fun K hK => ?_) AllReadyH.nil
      go_simp
      refine hK.out _ _ (HB3.out.alloc HB3.out.size _) (fun hHeld2 => ?_)
      clear hK K
      (try simp only [Act.put, List.setIfInBounds_toArray, List.set_cons_zero, List.set_cons_succ])
      refine wpAnyH_ready (rs := [21]) (by kernel_rfl) (by simp) ?_
      refine AllReadyH.cons rfl (fun K hK => ?_) AllReadyH.nil
      refine wp_store_row 41 _ _ rfl (w3.heap.size) (miC X).toArray rfl (by rw [HX.out]; rfl) 41 #[.int .i64 0, .int .i64 0, .int .i64 0, .int .i64 0, .int .i64 0] (heap_alloc_last w3 _) infoRv rfl (miC_one X) ?_
      have HBN : Hid (Below w1.heap.size w1 (World.setRow (w3.alloc (.cells #[.int .i64 0, .int .i64 0, .int .i64 0, .int .i64 0, .int .i64 0] 41)) w3.heap.size (miC X).toArray)) := below_setRowR (HB3.out.alloc HB3.out.size _) HB3.out.size _
      have HGN : Hid ((World.setRow (w3.alloc (.cells #[.int .i64 0, .int .i64 0, .int .i64 0, .int .i64 0, .int .i64 0] 41)) w3.heap.size (miC X).toArray).heap[w3.heap.size]? = some (.cells (miC X).toArray 41 (0, 0))) := setRow_heap _ _ _ _ _ _ (heap_alloc_last w3 _)
      have HGB : Hid (w1.heap.size ≤ w3.heap.size) := HB3.out.size
      refine hK.out _ _ HBN.out (fun _ => ?_)
      clear hK K hHeld hHeld2
      (try simp only [Act.put, List.setIfInBounds_toArray])
      refine wpAnyH_done (by kernel_rfl) ?_ _
      generalize World.setRow (w3.alloc (.cells #[.int .i64 0, .int .i64 0, .int .i64 0, .int .i64 0, .int .i64 0] 41)) w3.heap.size (miC X).toArray = w4 at HBN HGN ⊢
      generalize w3.heap.size = b4 at HGN HGB ⊢
      have HR4 : Hid (w4.rangeAt w.heap.size 0 (shC s)) := range_below HR.out HBN.out HZ.out
      have h64 : w4.heap[w.heap.size + 1]? = some (.cells #[.int .i64 0, .int .i64 0, .int .i64 0, .int .i64 0, .int .i64 0] 41 (0, 0)) := (HBN.out.block _ HZ6.out).trans H6.out
      have HBW : Hid (Below w.heap.size w w4) := HB.out.trans (HBN.out.mono (by have := HZ.out; omega))
      have hgn := HGN.out
      clear d0 d1 d2
      go_wp2_with (first
      | (refine wpList_load_row rfl 41 (.tmp 8) rfl _ rfl _ _ _ _ hgn Tryd.underlying41 rfl infoRv ?_)
      | (refine wpList_load_mid rfl 76 _ rfl w.heap.size 0 rfl (shC s) _ HR4.out Tryd.underlying76 rfl (infoShC s) ?_)
      | (go_at_call 40; refine (HF.out _).mono ?_; rintro e w5 ⟨rfl, hb5⟩; have h65 : w5.heap[w.heap.size + 1]? = some (.cells #[.int .i64 0, .int .i64 0, .int .i64 0, .int .i64 0, .int .i64 0] 41 (0, 0)) := (hb5.block _ (World.heap_lt h64)).trans h64; have hgn5 : w5.heap[b4]? = some (.cells (miC X).toArray 41 (0, 0)) := (hb5.block _ (World.heap_lt hgn)).trans hgn; have HB5 : Hid (Below w.heap.size w w5) := HBW.out.trans (hb5.mono HBW.out.size); clear hb5)
      | (refine wpList_build_storeR rfl _ _ rfl (miC zeroMi).toArray built_rv rfl _ _ rfl _ rfl rfl _ _ h65 infoRv rfl (miC_one _) ?_)
      | (refine wpList_store_row rfl _ _ _ rfl _ (miC zeroMi).toArray rfl rfl _ _ h65 infoRv rfl (miC_one _) ?_))
      try simp only [Exit.inBlock, Exit.then]
      exact bodyPost_ret (results_row_tmpR rfl _ _ (w.heap.size + 1) 41 _ (0, 0) _ rfl (setRow_heap _ _ _ _ _ _ h65) Tryd.underlying41 rfl infoRv) rfl ⟨by first | rfl | (rw [HXX.out]; rfl), below_setRowR HB5.out (by omega) _⟩
    · -- the box, then the call
      go_simp
      refine hK.out _ _ (hHeld.alloc (Nat.le_refl _) _) (fun hHeld2 => ?_)
      clear hK K
      (try simp only [Act.put, List.setIfInBounds_toArray, List.set_cons_zero, List.set_cons_succ])
      refine wpAnyH_ready (rs := [18]) (by kernel_rfl) (by simp) ?_
      refine AllReadyH.cons rfl (fun K hK => ?_) AllReadyH.nil
      go_simp
      go_at_call 55
      refine (HI.out _).mono ?_
      rintro e w3 ⟨rfl, hb3⟩
      have HB3 : Hid (Below w1.heap.size w1 w3) := hHeld2.trans (hb3.mono hHeld2.size)
      have hg3 : w3.heap[w1.heap.size]? = some (.cells #[.int .i64 0, .int .i64 0, .int .i64 0, .int .i64 0, .int .i64 0] 41 (0, 0)) := (hb3.block _ (by simp)).trans (heap_alloc_last w1 _)
      dsimp only
      refine hK.out _ _ HB3.out (fun _ => ?_)
      clear hK K hHeld hHeld2 hb3
      (try simp only [Act.put, List.setIfInBounds_toArray, List.set_cons_zero, List.set_cons_succ])
      have hHeld := HB3.out
      refine wpAnyH_take (i := 19) (v := ?_) rfl (by kernel_rfl) (by kernel_rfl) (by kernel_rfl) (fun _ _ _ h => h) (Or.inl ⟨by rfl, ?_⟩) (by assumption) ?_
      rotate_left
      · (intro W hSW; go_simp; try (with_reducible rfl))
      (try simp only [List.getElem_toArray, List.getElem_cons_succ, List.getElem_cons_zero])
      (try simp only [Act.put, List.setIfInBounds_toArray, List.set_cons_zero, List.set_cons_succ])
      refine wpAnyH_ready (rs := [21]) (by kernel_rfl) (by simp) ?_
      refine AllReadyH.cons rfl (fun K hK => ?_) AllReadyH.nil
      refine wp_store_row 41 _ _ rfl (w1.heap.size) (miC X).toArray rfl (by rw [HX.out]; rfl) 41 #[.int .i64 0, .int .i64 0, .int .i64 0, .int .i64 0, .int .i64 0] (hg3) infoRv rfl (miC_one X) ?_
      have HBN : Hid (Below w1.heap.size w1 (World.setRow w3 w1.heap.size (miC X).toArray)) := below_setRowR HB3.out (Nat.le_refl _) _
      have HGN : Hid ((World.setRow w3 w1.heap.size (miC X).toArray).heap[w1.heap.size]? = some (.cells (miC X).toArray 41 (0, 0))) := setRow_heap _ _ _ _ _ _ hg3
      have HGB : Hid (w1.heap.size ≤ w1.heap.size) := Nat.le_refl _
      refine hK.out _ _ HBN.out (fun _ => ?_)
      clear hK K hHeld hg3
      (try simp only [Act.put, List.setIfInBounds_toArray])
      refine wpAnyH_done (by kernel_rfl) ?_ _
      generalize World.setRow w3 w1.heap.size (miC X).toArray = w4 at HBN HGN ⊢
      generalize HBE : w1.heap.size = b4 at HGN ⊢
      have HGB : Hid (w1.heap.size ≤ b4) := Nat.le_of_eq HBE
      clear HBE
      have HR4 : Hid (w4.rangeAt w.heap.size 0 (shC s)) := range_below HR.out HBN.out HZ.out
      have h64 : w4.heap[w.heap.size + 1]? = some (.cells #[.int .i64 0, .int .i64 0, .int .i64 0, .int .i64 0, .int .i64 0] 41 (0, 0)) := (HBN.out.block _ HZ6.out).trans H6.out
      have HBW : Hid (Below w.heap.size w w4) := HB.out.trans (HBN.out.mono (by have := HZ.out; omega))
      have hgn := HGN.out
      clear d0 d1 d2
      go_wp2_with (first
      | (refine wpList_load_row rfl 41 (.tmp 8) rfl _ rfl _ _ _ _ hgn Tryd.underlying41 rfl infoRv ?_)
      | (refine wpList_load_mid rfl 76 _ rfl w.heap.size 0 rfl (shC s) _ HR4.out Tryd.underlying76 rfl (infoShC s) ?_)
      | (go_at_call 40; refine (HF.out _).mono ?_; rintro e w5 ⟨rfl, hb5⟩; have h65 : w5.heap[w.heap.size + 1]? = some (.cells #[.int .i64 0, .int .i64 0, .int .i64 0, .int .i64 0, .int .i64 0] 41 (0, 0)) := (hb5.block _ (World.heap_lt h64)).trans h64; have hgn5 : w5.heap[b4]? = some (.cells (miC X).toArray 41 (0, 0)) := (hb5.block _ (World.heap_lt hgn)).trans hgn; have HB5 : Hid (Below w.heap.size w w5) := HBW.out.trans (hb5.mono HBW.out.size); clear hb5)
      | (refine wpList_build_storeR rfl _ _ rfl (miC zeroMi).toArray built_rv rfl _ _ rfl _ rfl rfl _ _ h65 infoRv rfl (miC_one _) ?_)
      | (refine wpList_store_row rfl _ _ _ rfl _ (miC zeroMi).toArray rfl rfl _ _ h65 infoRv rfl (miC_one _) ?_))
      try simp only [Exit.inBlock, Exit.then]
      exact bodyPost_ret (results_row_tmpR rfl _ _ (w.heap.size + 1) 41 _ (0, 0) _ rfl (setRow_heap _ _ _ _ _ _ h65) Tryd.underlying41 rfl infoRv) rfl ⟨by first | rfl | (rw [HXX.out]; rfl), below_setRowR HB5.out (by omega) _⟩
  · simp only [if_true]
    go_enter Tryd.func42, Tryd.ntmps42
    go_wp2
    generalize (w.alloc (.cells (shC s).toArray 76)).alloc (.cells #[.int .i64 0, .int .i64 0, .int .i64 0, .int .i64 0, .int .i64 0] 41) = w1 at *
    refine wp_region_held_drew (S := fun W => Below w1.heap.size w1 W) (by kernel_rfl) ((Below.refl _ _).drew) (fun hHeld => ?_)
    show wpAnyH _ _ _ _ _ 22 _ _ _
    refine wpAnyH_take (i := 0) (v := ?_) rfl (by kernel_rfl) (by kernel_rfl) (by kernel_rfl) (fun _ _ _ h => h) (Or.inl ⟨by rfl, ?_⟩) (by assumption) ?_
    rotate_left
    · (intro W hSW; go_simp; try (with_reducible rfl))
    (try simp only [List.getElem_toArray, List.getElem_cons_zero])
    (try simp only [Act.put, List.setIfInBounds_toArray, List.set_cons_zero, List.set_cons_succ])
    refine wpAnyH_take (i := 1) (v := ?_) rfl (by kernel_rfl) (by kernel_rfl) (by kernel_rfl) (fun _ _ _ h => h) (Or.inl ⟨by rfl, ?_⟩) (by assumption) ?_
    rotate_left
    · (intro W hSW; go_simp; try (with_reducible rfl))
    (try simp only [List.getElem_toArray, List.getElem_cons_succ, List.getElem_cons_zero])
    (try simp only [Act.put, List.setIfInBounds_toArray, List.set_cons_zero, List.set_cons_succ])
    refine wpAnyH_take (i := 2) (v := ?_) rfl (by kernel_rfl) (by kernel_rfl) (by kernel_rfl) (fun _ _ _ h => h) (Or.inl ⟨by rfl, ?_⟩) (by assumption) ?_
    rotate_left
    · (intro W hSW; go_simp; try (with_reducible rfl))
    (try simp only [List.getElem_toArray, List.getElem_cons_succ, List.getElem_cons_zero])
    (try simp only [Act.put, List.setIfInBounds_toArray, List.set_cons_zero, List.set_cons_succ])
    refine wpAnyH_take (i := 3) (v := ?_) rfl (by kernel_rfl) (by kernel_rfl) (by kernel_rfl) (fun _ _ _ h => h) (Or.inl ⟨by rfl, ?_⟩) (by assumption) ?_
    rotate_left
    · (intro W hSW; go_simp; try (with_reducible rfl))
    (try simp only [List.getElem_toArray, List.getElem_cons_succ, List.getElem_cons_zero])
    (try simp only [Act.put, List.setIfInBounds_toArray, List.set_cons_zero, List.set_cons_succ])
    refine wpAnyH_take (i := 4) (v := ?_) rfl (by kernel_rfl) (by kernel_rfl) (by kernel_rfl) (fun _ _ _ h => h) (Or.inl ⟨by rfl, ?_⟩) (by assumption) ?_
    rotate_left
    · (intro W hSW; have z0 := keeps_below hSW _ _ d0; go_simp; try (with_reducible rfl))
    (try simp only [List.getElem_toArray, List.getElem_cons_succ, List.getElem_cons_zero])
    (try simp only [Act.put, List.setIfInBounds_toArray, List.set_cons_zero, List.set_cons_succ])
    refine wpAnyH_take (i := 5) (v := ?_) rfl (by kernel_rfl) (by kernel_rfl) (by kernel_rfl) (fun _ _ _ h => h) (Or.inl ⟨by rfl, ?_⟩) (by assumption) ?_
    rotate_left
    · (intro W hSW; go_simp; try (with_reducible rfl))
    (try simp only [List.getElem_toArray, List.getElem_cons_succ, List.getElem_cons_zero])
    (try simp only [Act.put, List.setIfInBounds_toArray, List.set_cons_zero, List.set_cons_succ])
    refine wpAnyH_take (i := 6) (v := ?_) rfl (by kernel_rfl) (by kernel_rfl) (by kernel_rfl) (fun _ _ _ h => h) (Or.inl ⟨by rfl, ?_⟩) (by assumption) ?_
    rotate_left
    · (intro W hSW; go_simp; try (with_reducible rfl))
    (try simp only [List.getElem_toArray, List.getElem_cons_succ, List.getElem_cons_zero])
    (try simp only [Act.put, List.setIfInBounds_toArray, List.set_cons_zero, List.set_cons_succ])
    refine wpAnyH_take (i := 7) (v := ?_) rfl (by kernel_rfl) (by kernel_rfl) (by kernel_rfl) (fun _ _ _ h => h) (Or.inl ⟨by rfl, ?_⟩) (by assumption) ?_
    rotate_left
    · (intro W hSW; go_simp; try (with_reducible rfl))
    (try simp only [List.getElem_toArray, List.getElem_cons_succ, List.getElem_cons_zero])
    (try simp only [Act.put, List.setIfInBounds_toArray, List.set_cons_zero, List.set_cons_succ])
    refine wpAnyH_take (i := 8) (v := ?_) rfl (by kernel_rfl) (by kernel_rfl) (by kernel_rfl) (fun _ _ _ h => h) (Or.inl ⟨by rfl, ?_⟩) (by assumption) ?_
    rotate_left
    · (intro W hSW; go_simp; try (with_reducible rfl))
    (try simp only [List.getElem_toArray, List.getElem_cons_succ, List.getElem_cons_zero])
    (try simp only [Act.put, List.setIfInBounds_toArray, List.set_cons_zero, List.set_cons_succ])
    refine wpAnyH_take (i := 9) (v := ?_) rfl (by kernel_rfl) (by kernel_rfl) (by kernel_rfl) (fun _ _ _ h => h) (Or.inl ⟨by rfl, ?_⟩) (by assumption) ?_
    rotate_left
    · (intro W hSW; have z0 := keeps_below hSW _ _ d1; go_simp; try (with_reducible rfl))
    (try simp only [List.getElem_toArray, List.getElem_cons_succ, List.getElem_cons_zero])
    (try simp only [Act.put, List.setIfInBounds_toArray, List.set_cons_zero, List.set_cons_succ])
    refine wpAnyH_take (i := 10) (v := ?_) rfl (by kernel_rfl) (by kernel_rfl) (by kernel_rfl) (fun _ _ _ h => h) (Or.inl ⟨by rfl, ?_⟩) (by assumption) ?_
    rotate_left
    · (intro W hSW; go_simp; try (with_reducible rfl))
    (try simp only [List.getElem_toArray, List.getElem_cons_succ, List.getElem_cons_zero])
    (try simp only [Act.put, List.setIfInBounds_toArray, List.set_cons_zero, List.set_cons_succ])
    refine wpAnyH_take (i := 11) (v := ?_) rfl (by kernel_rfl) (by kernel_rfl) (by kernel_rfl) (fun _ _ _ h => h) (Or.inl ⟨by rfl, ?_⟩) (by assumption) ?_
    rotate_left
    · (intro W hSW; go_simp; try (with_reducible rfl))
    (try simp only [List.getElem_toArray, List.getElem_cons_succ, List.getElem_cons_zero])
    (try simp only [Act.put, List.setIfInBounds_toArray, List.set_cons_zero, List.set_cons_succ])
    refine wpAnyH_take (i := 12) (v := ?_) rfl (by kernel_rfl) (by kernel_rfl) (by kernel_rfl) (fun _ _ _ h => h) (Or.inl ⟨by rfl, ?_⟩) (by assumption) ?_
    rotate_left
    · (intro W hSW; go_simp; try (with_reducible rfl))
    (try simp only [List.getElem_toArray, List.getElem_cons_succ, List.getElem_cons_zero])
    (try simp only [Act.put, List.setIfInBounds_toArray, List.set_cons_zero, List.set_cons_succ])
    refine wpAnyH_take (i := 13) (v := ?_) rfl (by kernel_rfl) (by kernel_rfl) (by kernel_rfl) (fun _ _ _ h => h) (Or.inl ⟨by rfl, ?_⟩) (by assumption) ?_
    rotate_left
    · (intro W hSW; go_simp; try (with_reducible rfl))
    (try simp only [List.getElem_toArray, List.getElem_cons_succ, List.getElem_cons_zero])
    (try simp only [Act.put, List.setIfInBounds_toArray, List.set_cons_zero, List.set_cons_succ])
    refine wpAnyH_take (i := 14) (v := ?_) rfl (by kernel_rfl) (by kernel_rfl) (by kernel_rfl) (fun _ _ _ h => h) (Or.inl ⟨by rfl, ?_⟩) (by assumption) ?_
    rotate_left
    · (intro W hSW; have z0 := keeps_below hSW _ _ d2; go_simp; try (with_reducible rfl))
    (try simp only [List.getElem_toArray, List.getElem_cons_succ, List.getElem_cons_zero])
    (try simp only [Act.put, List.setIfInBounds_toArray, List.set_cons_zero, List.set_cons_succ])
    refine wpAnyH_take (i := 15) (v := ?_) rfl (by kernel_rfl) (by kernel_rfl) (by kernel_rfl) (fun _ _ _ h => h) (Or.inl ⟨by rfl, ?_⟩) (by assumption) ?_
    rotate_left
    · (intro W hSW; go_simp; try (with_reducible rfl))
    (try simp only [List.getElem_toArray, List.getElem_cons_succ, List.getElem_cons_zero])
    (try simp only [Act.put, List.setIfInBounds_toArray, List.set_cons_zero, List.set_cons_succ])
    refine wpAnyH_take (i := 16) (v := ?_) rfl (by kernel_rfl) (by kernel_rfl) (by kernel_rfl) (fun _ _ _ h => h) (Or.inl ⟨by rfl, ?_⟩) (by assumption) ?_
    rotate_left
    · (intro W hSW; go_simp; try (with_reducible rfl))
    (try simp only [List.getElem_toArray, List.getElem_cons_succ, List.getElem_cons_zero])
    (try simp only [Act.put, List.setIfInBounds_toArray, List.set_cons_zero, List.set_cons_succ])
    refine wpAnyH_take (i := 17) (v := .agg (shC s : List Value).toArray) rfl (by kernel_rfl) (by kernel_rfl) (by kernel_rfl) (fun _ _ _ h => h) (yieldsIf_load_mid (by rfl) 76 (.tmp 5) rfl (w.heap.size) (0) rfl (shC s) _ (fun W hW => range_below HR.out hW HZ.out) Tryd.underlying76 rfl (infoShC s)) (by assumption) ?_
    simp only [List.getElem_toArray, List.getElem_cons_succ, List.getElem_cons_zero]
    (try simp only [Act.put, List.setIfInBounds_toArray, List.set_cons_zero, List.set_cons_succ])
    refine wpAnyH_ready (rs := [18, 20]) (by kernel_rfl) (by simp) ?_
    refine AllReadyH.cons rfl (fun K hK => ?_) (AllReadyH.cons rfl (fun K hK => ?_) AllReadyH.nil)
    · -- the call, then the box
      go_simp
      go_at_call 55
      refine (HI.out _).mono ?_
      rintro e w3 ⟨rfl, hb3⟩
      have HB3 : Hid (Below w1.heap.size w1 w3) := hHeld.trans (hb3.mono hHeld.size)
      dsimp only
      refine hK.out _ _ HB3.out (fun _ => ?_)
      clear hK K hHeld hb3
      (try simp only [Act.put, List.setIfInBounds_toArray, List.set_cons_zero, List.set_cons_succ])
      have hHeld := HB3.out
      refine wpAnyH_take (i := 19) (v := ?_) rfl (by kernel_rfl) (by kernel_rfl) (by kernel_rfl) (fun _ _ _ h => h) (Or.inl ⟨by rfl, ?_⟩) (by assumption) ?_
      rotate_left
      · (intro W hSW; go_simp; try (with_reducible rfl))
      (try simp only [List.getElem_toArray, List.getElem_cons_succ, List.getElem_cons_zero])
      (try simp only [Act.put, List.setIfInBounds_toArray, List.set_cons_zero, List.set_cons_succ])
      refine wpAnyH_ready (rs := [20]) (by kernel_rfl) (by simp) ?_
      refine AllReadyH.cons rfl (fun K hK => ?_) AllReadyH.nil
      go_simp
      refine hK.out _ _ (HB3.out.alloc HB3.out.size _) (fun hHeld2 => ?_)
      clear hK K
      (try simp only [Act.put, List.setIfInBounds_toArray, List.set_cons_zero, List.set_cons_succ])
      refine wpAnyH_ready (rs := [21]) (by kernel_rfl) (by simp) ?_
      refine AllReadyH.cons rfl (fun K hK => ?_) AllReadyH.nil
      refine wp_store_row 41 _ _ rfl (w3.heap.size) (miC X).toArray rfl (by rw [HX.out]; rfl) 41 #[.int .i64 0, .int .i64 0, .int .i64 0, .int .i64 0, .int .i64 0] (heap_alloc_last w3 _) infoRv rfl (miC_one X) ?_
      have HBN : Hid (Below w1.heap.size w1 (World.setRow (w3.alloc (.cells #[.int .i64 0, .int .i64 0, .int .i64 0, .int .i64 0, .int .i64 0] 41)) w3.heap.size (miC X).toArray)) := below_setRowR (HB3.out.alloc HB3.out.size _) HB3.out.size _
      have HGN : Hid ((World.setRow (w3.alloc (.cells #[.int .i64 0, .int .i64 0, .int .i64 0, .int .i64 0, .int .i64 0] 41)) w3.heap.size (miC X).toArray).heap[w3.heap.size]? = some (.cells (miC X).toArray 41 (0, 0))) := setRow_heap _ _ _ _ _ _ (heap_alloc_last w3 _)
      have HGB : Hid (w1.heap.size ≤ w3.heap.size) := HB3.out.size
      refine hK.out _ _ HBN.out (fun _ => ?_)
      clear hK K hHeld hHeld2
      (try simp only [Act.put, List.setIfInBounds_toArray])
      refine wpAnyH_done (by kernel_rfl) ?_ _
      generalize World.setRow (w3.alloc (.cells #[.int .i64 0, .int .i64 0, .int .i64 0, .int .i64 0, .int .i64 0] 41)) w3.heap.size (miC X).toArray = w4 at HBN HGN ⊢
      generalize w3.heap.size = b4 at HGN HGB ⊢
      have HR4 : Hid (w4.rangeAt w.heap.size 0 (shC s)) := range_below HR.out HBN.out HZ.out
      have h64 : w4.heap[w.heap.size + 1]? = some (.cells #[.int .i64 0, .int .i64 0, .int .i64 0, .int .i64 0, .int .i64 0] 41 (0, 0)) := (HBN.out.block _ HZ6.out).trans H6.out
      have HBW : Hid (Below w.heap.size w w4) := HB.out.trans (HBN.out.mono (by have := HZ.out; omega))
      have hgn := HGN.out
      clear d0 d1 d2
      go_wp2_with (first
      | (refine wpList_load_row rfl 41 (.tmp 8) rfl _ rfl _ _ _ _ hgn Tryd.underlying41 rfl infoRv ?_)
      | (refine wpList_load_mid rfl 76 _ rfl w.heap.size 0 rfl (shC s) _ HR4.out Tryd.underlying76 rfl (infoShC s) ?_)
      | (go_at_call 40; refine (HF.out _).mono ?_; rintro e w5 ⟨rfl, hb5⟩; have h65 : w5.heap[w.heap.size + 1]? = some (.cells #[.int .i64 0, .int .i64 0, .int .i64 0, .int .i64 0, .int .i64 0] 41 (0, 0)) := (hb5.block _ (World.heap_lt h64)).trans h64; have hgn5 : w5.heap[b4]? = some (.cells (miC X).toArray 41 (0, 0)) := (hb5.block _ (World.heap_lt hgn)).trans hgn; have HB5 : Hid (Below w.heap.size w w5) := HBW.out.trans (hb5.mono HBW.out.size); clear hb5)
      | (refine wpList_load_row rfl 41 (.tmp 8) rfl _ rfl _ _ _ _ hgn5 Tryd.underlying41 rfl infoRv ?_)
      | (refine wpList_store_row rfl _ _ _ rfl _ (miC X).toArray rfl rfl _ _ h65 infoRv rfl (miC_one X) ?_))
      try simp only [Exit.inBlock, Exit.then]
      exact bodyPost_ret (results_row_tmpR rfl _ _ (w.heap.size + 1) 41 _ (0, 0) _ rfl (setRow_heap _ _ _ _ _ _ h65) Tryd.underlying41 rfl infoRv) rfl ⟨by first | rfl | (rw [HXX.out]; rfl), below_setRowR HB5.out (by omega) _⟩
    · -- the box, then the call
      go_simp
      refine hK.out _ _ (hHeld.alloc (Nat.le_refl _) _) (fun hHeld2 => ?_)
      clear hK K
      (try simp only [Act.put, List.setIfInBounds_toArray, List.set_cons_zero, List.set_cons_succ])
      refine wpAnyH_ready (rs := [18]) (by kernel_rfl) (by simp) ?_
      refine AllReadyH.cons rfl (fun K hK => ?_) AllReadyH.nil
      go_simp
      go_at_call 55
      refine (HI.out _).mono ?_
      rintro e w3 ⟨rfl, hb3⟩
      have HB3 : Hid (Below w1.heap.size w1 w3) := hHeld2.trans (hb3.mono hHeld2.size)
      have hg3 : w3.heap[w1.heap.size]? = some (.cells #[.int .i64 0, .int .i64 0, .int .i64 0, .int .i64 0, .int .i64 0] 41 (0, 0)) := (hb3.block _ (by simp)).trans (heap_alloc_last w1 _)
      dsimp only
      refine hK.out _ _ HB3.out (fun _ => ?_)
      clear hK K hHeld hHeld2 hb3
      (try simp only [Act.put, List.setIfInBounds_toArray, List.set_cons_zero, List.set_cons_succ])
      have hHeld := HB3.out
      refine wpAnyH_take (i := 19) (v := ?_) rfl (by kernel_rfl) (by kernel_rfl) (by kernel_rfl) (fun _ _ _ h => h) (Or.inl ⟨by rfl, ?_⟩) (by assumption) ?_
      rotate_left
      · (intro W hSW; go_simp; try (with_reducible rfl))
      (try simp only [List.getElem_toArray, List.getElem_cons_succ, List.getElem_cons_zero])
      (try simp only [Act.put, List.setIfInBounds_toArray, List.set_cons_zero, List.set_cons_succ])
      refine wpAnyH_ready (rs := [21]) (by kernel_rfl) (by simp) ?_
      refine AllReadyH.cons rfl (fun K hK => ?_) AllReadyH.nil
      refine wp_store_row 41 _ _ rfl (w1.heap.size) (miC X).toArray rfl (by rw [HX.out]; rfl) 41 #[.int .i64 0, .int .i64 0, .int .i64 0, .int .i64 0, .int .i64 0] (hg3) infoRv rfl (miC_one X) ?_
      have HBN : Hid (Below w1.heap.size w1 (World.setRow w3 w1.heap.size (miC X).toArray)) := below_setRowR HB3.out (Nat.le_refl _) _
      have HGN : Hid ((World.setRow w3 w1.heap.size (miC X).toArray).heap[w1.heap.size]? = some (.cells (miC X).toArray 41 (0, 0))) := setRow_heap _ _ _ _ _ _ hg3
      have HGB : Hid (w1.heap.size ≤ w1.heap.size) := Nat.le_refl _
      refine hK.out _ _ HBN.out (fun _ => ?_)
      clear hK K hHeld hg3
      (try simp only [Act.put, List.setIfInBounds_toArray])
      refine wpAnyH_done (by kernel_rfl) ?_ _
      generalize World.setRow w3 w1.heap.size (miC X).toArray = w4 at HBN HGN ⊢
      generalize HBE : w1.heap.size = b4 at HGN ⊢
      have HGB : Hid (w1.heap.size ≤ b4) := Nat.le_of_eq HBE
      clear HBE
      have HR4 : Hid (w4.rangeAt w.heap.size 0 (shC s)) := range_below HR.out HBN.out HZ.out
      have h64 : w4.heap[w.heap.size + 1]? = some (.cells #[.int .i64 0, .int .i64 0, .int .i64 0, .int .i64 0, .int .i64 0] 41 (0, 0)) := (HBN.out.block _ HZ6.out).trans H6.out
      have HBW : Hid (Below w.heap.size w w4) := HB.out.trans (HBN.out.mono (by have := HZ.out; omega))
      have hgn := HGN.out
      clear d0 d1 d2
      go_wp2_with (first
      | (refine wpList_load_row rfl 41 (.tmp 8) rfl _ rfl _ _ _ _ hgn Tryd.underlying41 rfl infoRv ?_)
      | (refine wpList_load_mid rfl 76 _ rfl w.heap.size 0 rfl (shC s) _ HR4.out Tryd.underlying76 rfl (infoShC s) ?_)
      | (go_at_call 40; refine (HF.out _).mono ?_; rintro e w5 ⟨rfl, hb5⟩; have h65 : w5.heap[w.heap.size + 1]? = some (.cells #[.int .i64 0, .int .i64 0, .int .i64 0, .int .i64 0, .int .i64 0] 41 (0, 0)) := (hb5.block _ (World.heap_lt h64)).trans h64; have hgn5 : w5.heap[b4]? = some (.cells (miC X).toArray 41 (0, 0)) := (hb5.block _ (World.heap_lt hgn)).trans hgn; have HB5 : Hid (Below w.heap.size w w5) := HBW.out.trans (hb5.mono HBW.out.size); clear hb5)
      | (refine wpList_load_row rfl 41 (.tmp 8) rfl _ rfl _ _ _ _ hgn5 Tryd.underlying41 rfl infoRv ?_)
      | (refine wpList_store_row rfl _ _ _ rfl _ (miC X).toArray rfl rfl _ _ h65 infoRv rfl (miC_one X) ?_))
      try simp only [Exit.inBlock, Exit.then]
      exact bodyPost_ret (results_row_tmpR rfl _ _ (w.heap.size + 1) 41 _ (0, 0) _ rfl (setRow_heap _ _ _ _ _ _ h65) Tryd.underlying41 rfl infoRv) rfl ⟨by first | rfl | (rw [HXX.out]; rfl), below_setRowR HB5.out (by omega) _⟩
end Go.Proofs.YtapjfiihfgndeaaDoor
