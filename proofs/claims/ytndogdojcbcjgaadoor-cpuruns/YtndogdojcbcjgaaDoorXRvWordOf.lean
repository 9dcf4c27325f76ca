/- Contract of the document's WordOf (package tierlineref; written by gen/mkwordof.py): P11.2, bit by bit. -/
import Derived.Test.YtndogdojcbcjgaaDoorXRvHw
import Derived.Deep.RegionHeld3
namespace Go.Proofs.YtndogdojcbcjgaaDoor
open Go Go.RowKit

theorem lay_class (s j : Nat) (hs : s < 8) (hj : j < 32) : (0 ≤ layT s j ∧ layT s j < 10) ∨ (10 ≤ layT s j ∧ layT s j < 20) ∨ layT s j = 20 ∨ (100 ≤ layT s j ∧ layT s j < 105) ∨ (110 ≤ layT s j ∧ layT s j < 115) ∨ (120 ≤ layT s j ∧ layT s j < 125) ∨ (130 ≤ layT s j ∧ layT s j < 137) ∨ (140 ≤ layT s j ∧ layT s j < 143) ∨ (150 ≤ layT s j ∧ layT s j < 157) := by
  have key : ∀ (s : Fin 8) (j : Fin 32), (0 ≤ layT s j ∧ layT s j < 10) ∨ (10 ≤ layT s j ∧ layT s j < 20) ∨ layT s j = 20 ∨ (100 ≤ layT s j ∧ layT s j < 105) ∨ (110 ≤ layT s j ∧ layT s j < 115) ∨ (120 ≤ layT s j ∧ layT s j < 125) ∨ (130 ≤ layT s j ∧ layT s j < 137) ∨ (140 ≤ layT s j ∧ layT s j < 143) ∨ (150 ≤ layT s j ∧ layT s j < 157) := by decide +kernel
  exact key ⟨s, hs⟩ ⟨j, hj⟩
theorem code_parts (C : Int) (q : Nat) (h : 10 * (q : Int) ≤ C ∧ C < 10 * q + 10) : ∃ n h1 : Nat, C = 10 * q + n ∧ n < 10 ∧ C.tmod 10 = (n : Int) ∧ C.tdiv 10 = (q : Int) ∧ C.tmod 100 = (h1 : Int) ∧ h1 < 100 ∧ (C < 100 → (h1 : Int) = C) ∧ (100 ≤ C → C < 200 → (h1 : Int) = C - 100) := by
  have e1 : C.tmod 10 = C % 10 := Int.tmod_eq_emod_of_nonneg (by omega)
  have e2 : C.tdiv 10 = C / 10 := Int.tdiv_eq_ediv_of_nonneg (by omega)
  have e3 : C.tmod 100 = C % 100 := Int.tmod_eq_emod_of_nonneg (by omega)
  rw [e1, e2, e3]
  exact ⟨(C % 10).toNat, (C % 100).toNat, by omega, by omega, by omega, by omega, by omega, by omega, by omega, by omega⟩
theorem cells5W {w : World} {g : Nat} {a b c d e : Int} {t : TypeId} {fr : Nat × Nat} (h : w.heap[g]? = some (.cells #[.int .i64 a, .int .i64 b, .int .i64 c, .int .i64 d, .int .i64 e] t fr)) :
    w.cell? ⟨g, 0, none⟩ = some (.int .i64 a) ∧ w.cell? ⟨g, 1, none⟩ = some (.int .i64 b) ∧ w.cell? ⟨g, 2, none⟩ = some (.int .i64 c) ∧ w.cell? ⟨g, 3, none⟩ = some (.int .i64 d) ∧ w.cell? ⟨g, 4, none⟩ = some (.int .i64 e) := by
  refine ⟨?_, ?_, ?_, ?_, ?_⟩ <;> rw [cell_of_row _ _ _ _ _ _ h] <;> rfl
theorem fitsS (z : Int) (h0 : 0 ≤ z) (h1 : z < 128) : Fits z := by unfold Fits; omega
theorem tT_small (k : Nat) (h0 : 1 ≤ k) (h1 : k ≤ 29) : 0 ≤ tT k ∧ tT k < 128 := ops29 (Q := fun k => 0 ≤ tT k ∧ tT k < 128) (by decide +kernel) k h0 h1

set_option maxRecDepth 100000 in
set_option maxHeartbeats 8000000 in
theorem wordOf_any (x : Mi) (hd : Fits x.rd) (ha : Fits x.rs1) (hb : Fits x.rs2) (hi : Fits x.imm) (w : World) :
    Calls Tryd.prog 143 #[x.val] w fun e w' => e = .returned (.tuple #[.int .i64 (encI x), .int .i64 (rvE x)]) ∧ Below w.heap.size w w' := by
  have hC := fun o => rvFault_any x (w.alloc o)
  by_cases h0 : rvE x = 0
  case neg =>
    have e : encI x = 0 := if_neg h0
    rw [e]; clear e
    have h1 : (rvE x != 0) = true := by simpa using h0
    generalize rvE x = E at *
    clear h0 hd ha hb hi
    obtain ⟨op, rd, rs1, rs2, imm⟩ := x
    unfold Mi.val at *
    dsimp only at *
    go_enter Tryd.func143, Tryd.ntmps143
    go_wp2_with (go_at_call 162; refine (hC _).mono ?_; rintro e w1 ⟨rfl, hb1⟩; have HB1 : Hid (Below w.heap.size w w1) := ((Below.refl _ _).alloc (Nat.le_refl _) _).trans (hb1.mono (by simp)); clear hb1)
    go_ret2
    exact ⟨rfl, HB1.out⟩
  have hok := rvE_ok h0
  have e : encI x = wordI x := if_pos h0
  rw [e]; clear e
  rw [h0] at hC ⊢
  rw [← hw_word x hok]
  have k1 : 1 ≤ x.op.toNat := by have := hok.op1; omega
  have k2 : x.op.toNat ≤ 29 := by have := hok.op2; omega
  have hop : x.op = (x.op.toNat : Int) := by have := hok.op1; omega
  have hs := shOf_lt _ k1 k2
  have gS := fun W => shapeOf_any _ k1 k2 W
  have gY := fun W => layOut_any _ hs W
  have HL7 : Hid (∀ W, Calls Tryd.prog 163 #[.int .i64 (x.op.toNat : Int)] W fun e w' => e = .returned (.int .i64 (sA x.op.toNat)) ∧ Below W.heap.size W w') := fun W => lowSeven_any _ k1 k2 W
  have HT3 : Hid (∀ W, Calls Tryd.prog 164 #[.int .i64 (x.op.toNat : Int)] W fun e w' => e = .returned (.int .i64 (sB x.op.toNat)) ∧ Below W.heap.size W w') := fun W => threeBits_any _ k1 k2 W
  have HTT : Hid (∀ W, Calls Tryd.prog 165 #[.int .i64 (x.op.toNat : Int)] W fun e w' => e = .returned (.int .i64 (tT x.op.toNat)) ∧ Below W.heap.size W w') := fun W => topBits_any _ k1 k2 W
  have HBO : Hid (∀ n, Fits n → ∀ i : Nat, i < 64 → ∀ W, Calls Tryd.prog 141 #[.int .i64 n, .int .i64 i] W fun e w' => e = .returned (.int .i64 (bitI n i)) ∧ Below W.heap.size W w') := fun n hn i hi W => bitOf_any n hn i hi W
  have hS := sett_of _ k1 k2
  have HFA : Hid (Fits (sA x.op.toNat)) := fitsS _ hS.a0 hS.a1
  have HFB : Hid (Fits (sB x.op.toNat)) := fitsS _ hS.b0 (by have := hS.b1; omega)
  have HFT : Hid (Fits (tT x.op.toNat)) := fitsS _ (tT_small _ k1 k2).1 (tT_small _ k1 k2).2
  have HFD : Hid (Fits x.rd ∧ Fits x.rs1 ∧ Fits x.rs2 ∧ Fits x.imm) := ⟨hd, ha, hb, hi⟩
  have HS : Hid (shOf x.op.toNat < 8) := hs
  have HBB : Hid (∀ j, 0 ≤ bitAt x x.op.toNat (layT (shOf x.op.toNat) j) ∧ bitAt x x.op.toNat (layT (shOf x.op.toNat) j) ≤ 1) := fun j => bitAt_bounds _ _ _
  have HBD : Hid (∀ c, bitAt x x.op.toNat c = if c < 100 then bitI x.imm c.toNat else if c < 110 then bitI x.rd (c - 100).toNat else if c < 120 then bitI x.rs1 (c - 110).toNat else if c < 130 then bitI x.rs2 (c - 120).toNat else if c < 140 then bitI (sA x.op.toNat) (c - 130).toNat else if c < 150 then bitI (sB x.op.toNat) (c - 140).toNat else bitI (tT x.op.toNat) (c - 150).toNat) := fun c => rfl
  clear h0 hok hd ha hb hi hS hs k1 k2
  generalize bitAt x x.op.toNat = BA at *
  generalize sA x.op.toNat = SA at *
  generalize sB x.op.toNat = SB at *
  generalize tT x.op.toNat = ST at *
  generalize shOf x.op.toNat = s at *
  generalize x.op.toNat = k at *
  obtain ⟨op, rd, rs1, rs2, imm⟩ := x
  dsimp only at hop
  subst hop
  unfold Mi.val at *
  dsimp only at *
  have HY : Hid (∀ W, Calls Tryd.prog 139 #[.int .i64 (s : Int)] W (LayPost s W)) := gY
  clear gY
  go_enter Tryd.func143, Tryd.ntmps143
  go_wp2_with (first
    | (go_at_call 162; refine (hC _).mono ?_; rintro e w1 ⟨rfl, hb1⟩; have HB1 : Hid (Below w.heap.size w w1) := ((Below.refl _ _).alloc (Nat.le_refl _) _).trans (hb1.mono (by simp)); have HC1 : Hid _ := (hb1.block w.heap.size (by simp)).trans (heap_alloc_last w _); have hz1 : w.heap.size < w1.heap.size := Nat.lt_of_lt_of_le (by simp) hb1.size; have c := cells5W HC1.out; obtain ⟨c0, c1, c2, c3, c4⟩ := c; clear hb1)
    | (go_at_call 140; refine (gS _).mono ?_; rintro e w' ⟨rfl, hw'⟩; replace hw' := hw'.symm; subst hw')
    | (go_at_call 139; refine (HY.out _).mono ?_; rintro e w2 hP2; obtain ⟨rfl, hg2, hb2⟩ := hP2; have HB2 : Hid (Below w.heap.size w w2) := HB1.out.trans (hb2.mono HB1.out.size); have HG2 : Hid (w2.heap[w1.heap.size]? = some (.cells (layArr (layT s)) 3 (0, 0))) := hg2; have HC2 : Hid _ := (hb2.block w.heap.size hz1).trans HC1.out; have hz2 : w1.heap.size < w2.heap.size := World.heap_lt hg2; clear hb2 hg2 c0 c1 c2 c3 c4))
  have hz : w.heap.size < w2.heap.size := by omega
  generalize w1.heap.size = g at *
  go_loopw [6, 7] (fun v i wr => ∃ m : Nat, m ≤ 32 ∧ i = .int .i64 (31 - (m : Int)) ∧ v = .int .i64 (hw (fun j => BA (layT s j)) m) ∧ Below w2.heap.size w2 wr) (fun _ i _ => (intOf i + 1).toNat)
  case atStart => exact ⟨0, by omega, rfl, rfl, Below.refl _ _⟩
  case round =>
    obtain ⟨m, hm, rfl, rfl, hbr⟩ := hrel
    have HBR : Hid (Below w2.heap.size w2 wr) := hbr
    have hv := hw_small _ HBB.out m hm
    have HWS : Hid (hw (fun j => BA (layT s j)) m * 2 + BA (layT s (31 - m)) = hw (fun j => BA (layT s j)) (m + 1)) := rfl
    have HWE : Hid (m = 32 → hw (fun j => BA (layT s j)) m = hw (fun j => BA (layT s j)) 32) := fun h => by rw [h]
    generalize hw (fun j => BA (layT s j)) m = V at *
    by_cases hlt : m < 32
    case neg =>
      have HVE : Hid (V = hw (fun j => BA (layT s j)) 32) := HWE.out (by omega)
      have hneg : ¬ (0 : Int) ≤ 31 - (m : Int) := by omega
      clear hbr HWS HWE
      go_wp2
      go_ret2
      exact ⟨by rw [← HVE.out]; rfl, HB2.out.trans (HBR.out.mono (by omega))⟩
    obtain ⟨j, hj⟩ : ∃ j : Nat, j = 31 - m := ⟨_, rfl⟩
    have hjI : (31 - (m : Int)) = (j : Int) := by omega
    have hj32 : (j : Int) < 32 := by omega
    rw [← hj] at HWS
    have HJM : Hid ((j : Int) - 1 = 31 - ((m + 1 : Nat) : Int) ∧ j + m = 31) := ⟨by omega, by omega⟩
    rw [hjI]
    clear hjI hj HWE
    have hcl := lay_class s j HS.out (by omega)
    have ca : wr.cell? ⟨g, j, none⟩ = some (.int .i64 (layT s j)) := by rw [cell_of_row _ _ _ _ _ _ ((hbr.block _ hz2).trans HG2.out), layArr_get _ _ (by omega)]
    obtain ⟨xo, xd, xa, xb, xi⟩ := cells5W ((hbr.block _ hz).trans HC2.out)
    clear hbr
    generalize layT s j = C at *
    rcases hcl with hcl | hcl | hcl | hcl | hcl | hcl | hcl | hcl | hcl
    · -- 0
      obtain ⟨n, h1, hCn, hn, t1, t3, t2, hh, hh0, hh1⟩ := code_parts C 0 (by omega)
      replace t3 : C.tdiv 10 = 0 := t3
      have HBV : Hid (BA C = bitI imm h1) := by
        show _ = _
        rw [HBD.out, if_pos (by omega)]
        congr 1
        omega
      have G0 : Hid (∀ W, Calls Tryd.prog 141 #[.int .i64 imm, .int .i64 (h1 : Int)] W fun e w' => e = .returned (.int .i64 (bitI imm h1)) ∧ Below W.heap.size W w') := fun W => HBO.out imm HFD.out.2.2.2 h1 (by omega) W
      have hq0 := bitI_bounds imm h1
      generalize bitI imm h1 = b0 at *
      have HCW : Hid (V * 2 + BA C = hw (fun j => BA (layT s j)) (m + 1)) := HWS.out
      clear hh hh0 hh1 hCn hn HWS
      rw [HBV.out] at HCW
      have hm31 : m < 32 := by have := HJM.out; omega
      clear hm HBV
      try clear hcl
      go_wp2_with fail
      refine wp_region_held_drew (S := fun W => Below wr.heap.size wr W) (by kernel_rfl) ((Below.refl _ _).drew) (fun hHeld => ?_)
      show wpAnyH _ _ _ _ _ 9 _ _ _
      refine wpAnyH_take (i := 0) (v := ?_) rfl (by kernel_rfl) (by kernel_rfl) (by kernel_rfl) (fun _ _ _ h => h) (Or.inl ⟨by rfl, ?_⟩) (by assumption) ?_
      rotate_left
      · (intro W hSW; go_simp; try (with_reducible rfl))
      (try simp only [List.getElem_toArray, List.getElem_cons_zero])
      (try simp only [Act.put, List.setIfInBounds_toArray, List.set_cons_zero, List.set_cons_succ])
      refine wpAnyH_take (i := 1) (v := ?_) rfl (by kernel_rfl) (by kernel_rfl) (by kernel_rfl) (fun _ _ _ h => h) (Or.inl ⟨by rfl, ?_⟩) (by assumption) ?_
      rotate_left
      · (intro W hSW; have z0 := keeps_below hSW _ _ xi; go_simp; try (with_reducible rfl))
      (try simp only [List.getElem_toArray, List.getElem_cons_succ, List.getElem_cons_zero])
      (try simp only [Act.put, List.setIfInBounds_toArray, List.set_cons_zero, List.set_cons_succ])
      refine wpAnyH_take (i := 2) (v := ?_) rfl (by kernel_rfl) (by kernel_rfl) (by kernel_rfl) (fun _ _ _ h => h) (Or.inl ⟨by rfl, ?_⟩) (by assumption) ?_
      rotate_left
      · (intro W hSW; go_simp; try (with_reducible rfl))
      (try simp only [List.getElem_toArray, List.getElem_cons_succ, List.getElem_cons_zero])
      (try simp only [Act.put, List.setIfInBounds_toArray, List.set_cons_zero, List.set_cons_succ])
      refine wpAnyH_take (i := 3) (v := ?_) rfl (by kernel_rfl) (by kernel_rfl) (by kernel_rfl) (fun _ _ _ h => h) (Or.inl ⟨by rfl, ?_⟩) (by assumption) ?_
      rotate_left
      · (intro W hSW; go_simp; try (with_reducible rfl))
      (try simp only [List.getElem_toArray, List.getElem_cons_succ, List.getElem_cons_zero])
      (try simp only [Act.put, List.setIfInBounds_toArray, List.set_cons_zero, List.set_cons_succ])
      refine wpAnyH_take (i := 4) (v := ?_) rfl (by kernel_rfl) (by kernel_rfl) (by kernel_rfl) (fun _ _ _ h => h) (Or.inl ⟨by rfl, ?_⟩) (by assumption) ?_
      rotate_left
      · (intro W hSW; go_simp; try (with_reducible rfl))
      (try simp only [List.getElem_toArray, List.getElem_cons_succ, List.getElem_cons_zero])
      (try simp only [Act.put, List.setIfInBounds_toArray, List.set_cons_zero, List.set_cons_succ])
      refine wpAnyH_take (i := 5) (v := ?_) rfl (by kernel_rfl) (by kernel_rfl) (by kernel_rfl) (fun _ _ _ h => h) (Or.inl ⟨by rfl, ?_⟩) (by assumption) ?_
      rotate_left
      · (intro W hSW; have z0 := keeps_below hSW _ _ ca; go_simp; try (with_reducible rfl))
      (try simp only [List.getElem_toArray, List.getElem_cons_succ, List.getElem_cons_zero])
      (try simp only [Act.put, List.setIfInBounds_toArray, List.set_cons_zero, List.set_cons_succ])
      refine wpAnyH_take (i := 6) (v := ?_) rfl (by kernel_rfl) (by kernel_rfl) (by kernel_rfl) (fun _ _ _ h => h) (Or.inl ⟨by rfl, ?_⟩) (by assumption) ?_
      rotate_left
      · (intro W hSW; go_simp; try (with_reducible rfl))
      (try simp only [List.getElem_toArray, List.getElem_cons_succ, List.getElem_cons_zero])
      (try simp only [Act.put, List.setIfInBounds_toArray, List.set_cons_zero, List.set_cons_succ])
      refine wpAnyH_ready (rs := [7]) (by kernel_rfl) (by simp) ?_
      refine AllReadyH.cons rfl (fun K hK => ?_) AllReadyH.nil
      go_simp
      go_at_call 141
      refine (G0.out _).mono ?_
      rintro e w3 ⟨rfl, hb3⟩
      have hH3 : Below wr.heap.size wr w3 := hHeld.trans (hb3.mono hHeld.size)
      dsimp only
      refine hK.out _ _ (hHeld.trans (hb3.mono hHeld.size)) (fun _ => ?_)
      clear hK K
      (try simp only [Act.put, List.setIfInBounds_toArray, List.set_cons_zero, List.set_cons_succ])
      clear hHeld
      have hHeld : Below wr.heap.size wr w3 := hH3
      clear hH3
      refine wpAnyH_take (i := 8) (v := ?_) rfl (by kernel_rfl) (by kernel_rfl) (by kernel_rfl) (fun _ _ _ h => h) (Or.inl ⟨by rfl, ?_⟩) (by assumption) ?_
      rotate_left
      · (intro W hSW; go_simp; try (with_reducible rfl))
      (try simp only [List.getElem_toArray, List.getElem_cons_succ, List.getElem_cons_zero])
      (try simp only [Act.put, List.setIfInBounds_toArray, List.set_cons_zero, List.set_cons_succ])
      refine wpAnyH_done (by kernel_rfl) ?_ _
      have ca3 := keeps_below hHeld _ _ ca
      have xo3 := keeps_below hHeld _ _ xo
      have xd3 := keeps_below hHeld _ _ xd
      have xa3 := keeps_below hHeld _ _ xa
      have xb3 := keeps_below hHeld _ _ xb
      have HB3 : Hid (Below w2.heap.size w2 w3) := HBR.out.trans (hHeld.mono HBR.out.size)
      clear hHeld ca xo xd xa xb xi
      go_wp2
      go_roundw
      case rel => exact ⟨m + 1, by omega, by rw [← HJM.out.1], by rw [← HCW.out], HB3.out⟩
      case measure => simp [intOf]
    · -- 1
      obtain ⟨n, h1, hCn, hn, t1, t3, t2, hh, hh0, hh1⟩ := code_parts C 1 (by omega)
      replace t3 : C.tdiv 10 = 1 := t3
      have HBV : Hid (BA C = bitI imm h1) := by
        show _ = _
        rw [HBD.out, if_pos (by omega)]
        congr 1
        omega
      have G0 : Hid (∀ W, Calls Tryd.prog 141 #[.int .i64 imm, .int .i64 (h1 : Int)] W fun e w' => e = .returned (.int .i64 (bitI imm h1)) ∧ Below W.heap.size W w') := fun W => HBO.out imm HFD.out.2.2.2 h1 (by omega) W
      have hq0 := bitI_bounds imm h1
      generalize bitI imm h1 = b0 at *
      have HCW : Hid (V * 2 + BA C = hw (fun j => BA (layT s j)) (m + 1)) := HWS.out
      clear hh hh0 hh1 hCn hn HWS
      rw [HBV.out] at HCW
      have hm31 : m < 32 := by have := HJM.out; omega
      clear hm HBV
      try clear hcl
      go_wp2_with fail
      refine wp_region_held_drew (S := fun W => Below wr.heap.size wr W) (by kernel_rfl) ((Below.refl _ _).drew) (fun hHeld => ?_)
      show wpAnyH _ _ _ _ _ 9 _ _ _
      refine wpAnyH_take (i := 0) (v := ?_) rfl (by kernel_rfl) (by kernel_rfl) (by kernel_rfl) (fun _ _ _ h => h) (Or.inl ⟨by rfl, ?_⟩) (by assumption) ?_
      rotate_left
      · (intro W hSW; go_simp; try (with_reducible rfl))
      (try simp only [List.getElem_toArray, List.getElem_cons_zero])
      (try simp only [Act.put, List.setIfInBounds_toArray, List.set_cons_zero, List.set_cons_succ])
      refine wpAnyH_take (i := 1) (v := ?_) rfl (by kernel_rfl) (by kernel_rfl) (by kernel_rfl) (fun _ _ _ h => h) (Or.inl ⟨by rfl, ?_⟩) (by assumption) ?_
      rotate_left
      · (intro W hSW; have z0 := keeps_below hSW _ _ xi; go_simp; try (with_reducible rfl))
      (try simp only [List.getElem_toArray, List.getElem_cons_succ, List.getElem_cons_zero])
      (try simp only [Act.put, List.setIfInBounds_toArray, List.set_cons_zero, List.set_cons_succ])
      refine wpAnyH_take (i := 2) (v := ?_) rfl (by kernel_rfl) (by kernel_rfl) (by kernel_rfl) (fun _ _ _ h => h) (Or.inl ⟨by rfl, ?_⟩) (by assumption) ?_
      rotate_left
      · (intro W hSW; go_simp; try (with_reducible rfl))
      (try simp only [List.getElem_toArray, List.getElem_cons_succ, List.getElem_cons_zero])
      (try simp only [Act.put, List.setIfInBounds_toArray, List.set_cons_zero, List.set_cons_succ])
      refine wpAnyH_take (i := 3) (v := ?_) rfl (by kernel_rfl) (by kernel_rfl) (by kernel_rfl) (fun _ _ _ h => h) (Or.inl ⟨by rfl, ?_⟩) (by assumption) ?_
      rotate_left
      · (intro W hSW; go_simp; try (with_reducible rfl))
      (try simp only [List.getElem_toArray, List.getElem_cons_succ, List.getElem_cons_zero])
      (try simp only [Act.put, List.setIfInBounds_toArray, List.set_cons_zero, List.set_cons_succ])
      refine wpAnyH_take (i := 4) (v := ?_) rfl (by kernel_rfl) (by kernel_rfl) (by kernel_rfl) (fun _ _ _ h => h) (Or.inl ⟨by rfl, ?_⟩) (by assumption) ?_
      rotate_left
      · (intro W hSW; go_simp; try (with_reducible rfl))
      (try simp only [List.getElem_toArray, List.getElem_cons_succ, List.getElem_cons_zero])
      (try simp only [Act.put, List.setIfInBounds_toArray, List.set_cons_zero, List.set_cons_succ])
      refine wpAnyH_take (i := 5) (v := ?_) rfl (by kernel_rfl) (by kernel_rfl) (by kernel_rfl) (fun _ _ _ h => h) (Or.inl ⟨by rfl, ?_⟩) (by assumption) ?_
      rotate_left
      · (intro W hSW; have z0 := keeps_below hSW _ _ ca; go_simp; try (with_reducible rfl))
      (try simp only [List.getElem_toArray, List.getElem_cons_succ, List.getElem_cons_zero])
      (try simp only [Act.put, List.setIfInBounds_toArray, List.set_cons_zero, List.set_cons_succ])
      refine wpAnyH_take (i := 6) (v := ?_) rfl (by kernel_rfl) (by kernel_rfl) (by kernel_rfl) (fun _ _ _ h => h) (Or.inl ⟨by rfl, ?_⟩) (by assumption) ?_
      rotate_left
      · (intro W hSW; go_simp; try (with_reducible rfl))
      (try simp only [List.getElem_toArray, List.getElem_cons_succ, List.getElem_cons_zero])
      (try simp only [Act.put, List.setIfInBounds_toArray, List.set_cons_zero, List.set_cons_succ])
      refine wpAnyH_ready (rs := [7]) (by kernel_rfl) (by simp) ?_
      refine AllReadyH.cons rfl (fun K hK => ?_) AllReadyH.nil
      go_simp
      go_at_call 141
      refine (G0.out _).mono ?_
      rintro e w3 ⟨rfl, hb3⟩
      have hH3 : Below wr.heap.size wr w3 := hHeld.trans (hb3.mono hHeld.size)
      dsimp only
      refine hK.out _ _ (hHeld.trans (hb3.mono hHeld.size)) (fun _ => ?_)
      clear hK K
      (try simp only [Act.put, List.setIfInBounds_toArray, List.set_cons_zero, List.set_cons_succ])
      clear hHeld
      have hHeld : Below wr.heap.size wr w3 := hH3
      clear hH3
      refine wpAnyH_take (i := 8) (v := ?_) rfl (by kernel_rfl) (by kernel_rfl) (by kernel_rfl) (fun _ _ _ h => h) (Or.inl ⟨by rfl, ?_⟩) (by assumption) ?_
      rotate_left
      · (intro W hSW; go_simp; try (with_reducible rfl))
      (try simp only [List.getElem_toArray, List.getElem_cons_succ, List.getElem_cons_zero])
      (try simp only [Act.put, List.setIfInBounds_toArray, List.set_cons_zero, List.set_cons_succ])
      refine wpAnyH_done (by kernel_rfl) ?_ _
      have ca3 := keeps_below hHeld _ _ ca
      have xo3 := keeps_below hHeld _ _ xo
      have xd3 := keeps_below hHeld _ _ xd
      have xa3 := keeps_below hHeld _ _ xa
      have xb3 := keeps_below hHeld _ _ xb
      have HB3 : Hid (Below w2.heap.size w2 w3) := HBR.out.trans (hHeld.mono HBR.out.size)
      clear hHeld ca xo xd xa xb xi
      go_wp2
      go_roundw
      case rel => exact ⟨m + 1, by omega, by rw [← HJM.out.1], by rw [← HCW.out], HB3.out⟩
      case measure => simp [intOf]
    · -- 2
      obtain ⟨n, h1, hCn, hn, t1, t3, t2, hh, hh0, hh1⟩ := code_parts C 2 (by omega)
      replace t3 : C.tdiv 10 = 2 := t3
      have HBV : Hid (BA C = bitI imm h1) := by
        show _ = _
        rw [HBD.out, if_pos (by omega)]
        congr 1
        omega
      have G0 : Hid (∀ W, Calls Tryd.prog 141 #[.int .i64 imm, .int .i64 (h1 : Int)] W fun e w' => e = .returned (.int .i64 (bitI imm h1)) ∧ Below W.heap.size W w') := fun W => HBO.out imm HFD.out.2.2.2 h1 (by omega) W
      have hq0 := bitI_bounds imm h1
      generalize bitI imm h1 = b0 at *
      have HCW : Hid (V * 2 + BA C = hw (fun j => BA (layT s j)) (m + 1)) := HWS.out
      clear hh hh0 hh1 hCn hn HWS
      rw [HBV.out] at HCW
      have hm31 : m < 32 := by have := HJM.out; omega
      clear hm HBV
      try clear hcl
      go_wp2_with fail
      refine wp_region_held_drew (S := fun W => Below wr.heap.size wr W) (by kernel_rfl) ((Below.refl _ _).drew) (fun hHeld => ?_)
      show wpAnyH _ _ _ _ _ 9 _ _ _
      refine wpAnyH_take (i := 0) (v := ?_) rfl (by kernel_rfl) (by kernel_rfl) (by kernel_rfl) (fun _ _ _ h => h) (Or.inl ⟨by rfl, ?_⟩) (by assumption) ?_
      rotate_left
      · (intro W hSW; go_simp; try (with_reducible rfl))
      (try simp only [List.getElem_toArray, List.getElem_cons_zero])
      (try simp only [Act.put, List.setIfInBounds_toArray, List.set_cons_zero, List.set_cons_succ])
      refine wpAnyH_take (i := 1) (v := ?_) rfl (by kernel_rfl) (by kernel_rfl) (by kernel_rfl) (fun _ _ _ h => h) (Or.inl ⟨by rfl, ?_⟩) (by assumption) ?_
      rotate_left
      · (intro W hSW; have z0 := keeps_below hSW _ _ xi; go_simp; try (with_reducible rfl))
      (try simp only [List.getElem_toArray, List.getElem_cons_succ, List.getElem_cons_zero])
      (try simp only [Act.put, List.setIfInBounds_toArray, List.set_cons_zero, List.set_cons_succ])
      refine wpAnyH_take (i := 2) (v := ?_) rfl (by kernel_rfl) (by kernel_rfl) (by kernel_rfl) (fun _ _ _ h => h) (Or.inl ⟨by rfl, ?_⟩) (by assumption) ?_
      rotate_left
      · (intro W hSW; go_simp; try (with_reducible rfl))
      (try simp only [List.getElem_toArray, List.getElem_cons_succ, List.getElem_cons_zero])
      (try simp only [Act.put, List.setIfInBounds_toArray, List.set_cons_zero, List.set_cons_succ])
      refine wpAnyH_take (i := 3) (v := ?_) rfl (by kernel_rfl) (by kernel_rfl) (by kernel_rfl) (fun _ _ _ h => h) (Or.inl ⟨by rfl, ?_⟩) (by assumption) ?_
      rotate_left
      · (intro W hSW; go_simp; try (with_reducible rfl))
      (try simp only [List.getElem_toArray, List.getElem_cons_succ, List.getElem_cons_zero])
      (try simp only [Act.put, List.setIfInBounds_toArray, List.set_cons_zero, List.set_cons_succ])
      refine wpAnyH_take (i := 4) (v := ?_) rfl (by kernel_rfl) (by kernel_rfl) (by kernel_rfl) (fun _ _ _ h => h) (Or.inl ⟨by rfl, ?_⟩) (by assumption) ?_
      rotate_left
      · (intro W hSW; go_simp; try (with_reducible rfl))
      (try simp only [List.getElem_toArray, List.getElem_cons_succ, List.getElem_cons_zero])
      (try simp only [Act.put, List.setIfInBounds_toArray, List.set_cons_zero, List.set_cons_succ])
      refine wpAnyH_take (i := 5) (v := ?_) rfl (by kernel_rfl) (by kernel_rfl) (by kernel_rfl) (fun _ _ _ h => h) (Or.inl ⟨by rfl, ?_⟩) (by assumption) ?_
      rotate_left
      · (intro W hSW; have z0 := keeps_below hSW _ _ ca; go_simp; try (with_reducible rfl))
      (try simp only [List.getElem_toArray, List.getElem_cons_succ, List.getElem_cons_zero])
      (try simp only [Act.put, List.setIfInBounds_toArray, List.set_cons_zero, List.set_cons_succ])
      refine wpAnyH_take (i := 6) (v := ?_) rfl (by kernel_rfl) (by kernel_rfl) (by kernel_rfl) (fun _ _ _ h => h) (Or.inl ⟨by rfl, ?_⟩) (by assumption) ?_
      rotate_left
      · (intro W hSW; go_simp; try (with_reducible rfl))
      (try simp only [List.getElem_toArray, List.getElem_cons_succ, List.getElem_cons_zero])
      (try simp only [Act.put, List.setIfInBounds_toArray, List.set_cons_zero, List.set_cons_succ])
      refine wpAnyH_ready (rs := [7]) (by kernel_rfl) (by simp) ?_
      refine AllReadyH.cons rfl (fun K hK => ?_) AllReadyH.nil
      go_simp
      go_at_call 141
      refine (G0.out _).mono ?_
      rintro e w3 ⟨rfl, hb3⟩
      have hH3 : Below wr.heap.size wr w3 := hHeld.trans (hb3.mono hHeld.size)
      dsimp only
      refine hK.out _ _ (hHeld.trans (hb3.mono hHeld.size)) (fun _ => ?_)
      clear hK K
      (try simp only [Act.put, List.setIfInBounds_toArray, List.set_cons_zero, List.set_cons_succ])
      clear hHeld
      have hHeld : Below wr.heap.size wr w3 := hH3
      clear hH3
      refine wpAnyH_take (i := 8) (v := ?_) rfl (by kernel_rfl) (by kernel_rfl) (by kernel_rfl) (fun _ _ _ h => h) (Or.inl ⟨by rfl, ?_⟩) (by assumption) ?_
      rotate_left
      · (intro W hSW; go_simp; try (with_reducible rfl))
      (try simp only [List.getElem_toArray, List.getElem_cons_succ, List.getElem_cons_zero])
      (try simp only [Act.put, List.setIfInBounds_toArray, List.set_cons_zero, List.set_cons_succ])
      refine wpAnyH_done (by kernel_rfl) ?_ _
      have ca3 := keeps_below hHeld _ _ ca
      have xo3 := keeps_below hHeld _ _ xo
      have xd3 := keeps_below hHeld _ _ xd
      have xa3 := keeps_below hHeld _ _ xa
      have xb3 := keeps_below hHeld _ _ xb
      have HB3 : Hid (Below w2.heap.size w2 w3) := HBR.out.trans (hHeld.mono HBR.out.size)
      clear hHeld ca xo xd xa xb xi
      go_wp2
      go_roundw
      case rel => exact ⟨m + 1, by omega, by rw [← HJM.out.1], by rw [← HCW.out], HB3.out⟩
      case measure => simp [intOf]
    · -- 10
      obtain ⟨n, h1, hCn, hn, t1, t3, t2, hh, hh0, hh1⟩ := code_parts C 10 (by omega)
      replace t3 : C.tdiv 10 = 10 := t3
      have HBV : Hid (BA C = bitI rd n) := by
        show _ = _
        rw [HBD.out, if_neg (by omega), if_pos (by omega)]
        congr 1
        omega
      have G0 : Hid (∀ W, Calls Tryd.prog 141 #[.int .i64 imm, .int .i64 (h1 : Int)] W fun e w' => e = .returned (.int .i64 (bitI imm h1)) ∧ Below W.heap.size W w') := fun W => HBO.out imm HFD.out.2.2.2 h1 (by omega) W
      have G1 : Hid (∀ W, Calls Tryd.prog 141 #[.int .i64 rd, .int .i64 (n : Int)] W fun e w' => e = .returned (.int .i64 (bitI rd n)) ∧ Below W.heap.size W w') := fun W => HBO.out rd HFD.out.1 n (by omega) W
      have hq0 := bitI_bounds imm h1
      have hq1 := bitI_bounds rd n
      generalize bitI rd n = b1 at *
      generalize bitI imm h1 = b0 at *
      have HCW : Hid (V * 2 + BA C = hw (fun j => BA (layT s j)) (m + 1)) := HWS.out
      clear hh hh0 hh1 hCn hn HWS
      rw [HBV.out] at HCW
      have hm31 : m < 32 := by have := HJM.out; omega
      clear hm HBV
      try clear hcl
      go_wp2_with fail
      refine wp_region_held_drew (S := fun W => Below wr.heap.size wr W) (by kernel_rfl) ((Below.refl _ _).drew) (fun hHeld => ?_)
      show wpAnyH _ _ _ _ _ 9 _ _ _
      refine wpAnyH_take (i := 0) (v := ?_) rfl (by kernel_rfl) (by kernel_rfl) (by kernel_rfl) (fun _ _ _ h => h) (Or.inl ⟨by rfl, ?_⟩) (by assumption) ?_
      rotate_left
      · (intro W hSW; go_simp; try (with_reducible rfl))
      (try simp only [List.getElem_toArray, List.getElem_cons_zero])
      (try simp only [Act.put, List.setIfInBounds_toArray, List.set_cons_zero, List.set_cons_succ])
      refine wpAnyH_take (i := 1) (v := ?_) rfl (by kernel_rfl) (by kernel_rfl) (by kernel_rfl) (fun _ _ _ h => h) (Or.inl ⟨by rfl, ?_⟩) (by assumption) ?_
      rotate_left
      · (intro W hSW; have z0 := keeps_below hSW _ _ xi; go_simp; try (with_reducible rfl))
      (try simp only [List.getElem_toArray, List.getElem_cons_succ, List.getElem_cons_zero])
      (try simp only [Act.put, List.setIfInBounds_toArray, List.set_cons_zero, List.set_cons_succ])
      refine wpAnyH_take (i := 2) (v := ?_) rfl (by kernel_rfl) (by kernel_rfl) (by kernel_rfl) (fun _ _ _ h => h) (Or.inl ⟨by rfl, ?_⟩) (by assumption) ?_
      rotate_left
      · (intro W hSW; go_simp; try (with_reducible rfl))
      (try simp only [List.getElem_toArray, List.getElem_cons_succ, List.getElem_cons_zero])
      (try simp only [Act.put, List.setIfInBounds_toArray, List.set_cons_zero, List.set_cons_succ])
      refine wpAnyH_take (i := 3) (v := ?_) rfl (by kernel_rfl) (by kernel_rfl) (by kernel_rfl) (fun _ _ _ h => h) (Or.inl ⟨by rfl, ?_⟩) (by assumption) ?_
      rotate_left
      · (intro W hSW; go_simp; try (with_reducible rfl))
      (try simp only [List.getElem_toArray, List.getElem_cons_succ, List.getElem_cons_zero])
      (try simp only [Act.put, List.setIfInBounds_toArray, List.set_cons_zero, List.set_cons_succ])
      refine wpAnyH_take (i := 4) (v := ?_) rfl (by kernel_rfl) (by kernel_rfl) (by kernel_rfl) (fun _ _ _ h => h) (Or.inl ⟨by rfl, ?_⟩) (by assumption) ?_
      rotate_left
      · (intro W hSW; go_simp; try (with_reducible rfl))
      (try simp only [List.getElem_toArray, List.getElem_cons_succ, List.getElem_cons_zero])
      (try simp only [Act.put, List.setIfInBounds_toArray, List.set_cons_zero, List.set_cons_succ])
      refine wpAnyH_take (i := 5) (v := ?_) rfl (by kernel_rfl) (by kernel_rfl) (by kernel_rfl) (fun _ _ _ h => h) (Or.inl ⟨by rfl, ?_⟩) (by assumption) ?_
      rotate_left
      · (intro W hSW; have z0 := keeps_below hSW _ _ ca; go_simp; try (with_reducible rfl))
      (try simp only [List.getElem_toArray, List.getElem_cons_succ, List.getElem_cons_zero])
      (try simp only [Act.put, List.setIfInBounds_toArray, List.set_cons_zero, List.set_cons_succ])
      refine wpAnyH_take (i := 6) (v := ?_) rfl (by kernel_rfl) (by kernel_rfl) (by kernel_rfl) (fun _ _ _ h => h) (Or.inl ⟨by rfl, ?_⟩) (by assumption) ?_
      rotate_left
      · (intro W hSW; go_simp; try (with_reducible rfl))
      (try simp only [List.getElem_toArray, List.getElem_cons_succ, List.getElem_cons_zero])
      (try simp only [Act.put, List.setIfInBounds_toArray, List.set_cons_zero, List.set_cons_succ])
      refine wpAnyH_ready (rs := [7]) (by kernel_rfl) (by simp) ?_
      refine AllReadyH.cons rfl (fun K hK => ?_) AllReadyH.nil
      go_simp
      go_at_call 141
      refine (G0.out _).mono ?_
      rintro e w3 ⟨rfl, hb3⟩
      have hH3 : Below wr.heap.size wr w3 := hHeld.trans (hb3.mono hHeld.size)
      dsimp only
      refine hK.out _ _ (hHeld.trans (hb3.mono hHeld.size)) (fun _ => ?_)
      clear hK K
      (try simp only [Act.put, List.setIfInBounds_toArray, List.set_cons_zero, List.set_cons_succ])
      clear hHeld
      have hHeld : Below wr.heap.size wr w3 := hH3
      clear hH3
      refine wpAnyH_take (i := 8) (v := ?_) rfl (by kernel_rfl) (by kernel_rfl) (by kernel_rfl) (fun _ _ _ h => h) (Or.inl ⟨by rfl, ?_⟩) (by assumption) ?_
      rotate_left
      · (intro W hSW; go_simp; try (with_reducible rfl))
      (try simp only [List.getElem_toArray, List.getElem_cons_succ, List.getElem_cons_zero])
      (try simp only [Act.put, List.setIfInBounds_toArray, List.set_cons_zero, List.set_cons_succ])
      refine wpAnyH_done (by kernel_rfl) ?_ _
      have ca3 := keeps_below hHeld _ _ ca
      have xo3 := keeps_below hHeld _ _ xo
      have xd3 := keeps_below hHeld _ _ xd
      have xa3 := keeps_below hHeld _ _ xa
      have xb3 := keeps_below hHeld _ _ xb
      have HB3 : Hid (Below w2.heap.size w2 w3) := HBR.out.trans (hHeld.mono HBR.out.size)
      clear hHeld ca xo xd xa xb xi
      go_wp2_with (go_at_call 141; refine (G1.out _).mono ?_; rintro e w4 ⟨rfl, hb4⟩; have HB4 : Hid (Below w2.heap.size w2 w4) := HB3.out.trans (hb4.mono HB3.out.size); clear hb4)
      go_roundw
      case rel => exact ⟨m + 1, by omega, by rw [← HJM.out.1], by rw [← HCW.out], HB4.out⟩
      case measure => simp [intOf]
    · -- 11
      obtain ⟨n, h1, hCn, hn, t1, t3, t2, hh, hh0, hh1⟩ := code_parts C 11 (by omega)
      replace t3 : C.tdiv 10 = 11 := t3
      have HBV : Hid (BA C = bitI rs1 n) := by
        show _ = _
        rw [HBD.out, if_neg (by omega), if_neg (by omega), if_pos (by omega)]
        congr 1
        omega
      have G0 : Hid (∀ W, Calls Tryd.prog 141 #[.int .i64 imm, .int .i64 (h1 : Int)] W fun e w' => e = .returned (.int .i64 (bitI imm h1)) ∧ Below W.heap.size W w') := fun W => HBO.out imm HFD.out.2.2.2 h1 (by omega) W
      have G1 : Hid (∀ W, Calls Tryd.prog 141 #[.int .i64 rs1, .int .i64 (n : Int)] W fun e w' => e = .returned (.int .i64 (bitI rs1 n)) ∧ Below W.heap.size W w') := fun W => HBO.out rs1 HFD.out.2.1 n (by omega) W
      have hq0 := bitI_bounds imm h1
      have hq1 := bitI_bounds rs1 n
      generalize bitI rs1 n = b1 at *
      generalize bitI imm h1 = b0 at *
      have HCW : Hid (V * 2 + BA C = hw (fun j => BA (layT s j)) (m + 1)) := HWS.out
      clear hh hh0 hh1 hCn hn HWS
      rw [HBV.out] at HCW
      have hm31 : m < 32 := by have := HJM.out; omega
      clear hm HBV
      try clear hcl
      go_wp2_with fail
      refine wp_region_held_drew (S := fun W => Below wr.heap.size wr W) (by kernel_rfl) ((Below.refl _ _).drew) (fun hHeld => ?_)
      show wpAnyH _ _ _ _ _ 9 _ _ _
      refine wpAnyH_take (i := 0) (v := ?_) rfl (by kernel_rfl) (by kernel_rfl) (by kernel_rfl) (fun _ _ _ h => h) (Or.inl ⟨by rfl, ?_⟩) (by assumption) ?_
      rotate_left
      · (intro W hSW; go_simp; try (with_reducible rfl))
      (try simp only [List.getElem_toArray, List.getElem_cons_zero])
      (try simp only [Act.put, List.setIfInBounds_toArray, List.set_cons_zero, List.set_cons_succ])
      refine wpAnyH_take (i := 1) (v := ?_) rfl (by kernel_rfl) (by kernel_rfl) (by kernel_rfl) (fun _ _ _ h => h) (Or.inl ⟨by rfl, ?_⟩) (by assumption) ?_
      rotate_left
      · (intro W hSW; have z0 := keeps_below hSW _ _ xi; go_simp; try (with_reducible rfl))
      (try simp only [List.getElem_toArray, List.getElem_cons_succ, List.getElem_cons_zero])
      (try simp only [Act.put, List.setIfInBounds_toArray, List.set_cons_zero, List.set_cons_succ])
      refine wpAnyH_take (i := 2) (v := ?_) rfl (by kernel_rfl) (by kernel_rfl) (by kernel_rfl) (fun _ _ _ h => h) (Or.inl ⟨by rfl, ?_⟩) (by assumption) ?_
      rotate_left
      · (intro W hSW; go_simp; try (with_reducible rfl))
      (try simp only [List.getElem_toArray, List.getElem_cons_succ, List.getElem_cons_zero])
      (try simp only [Act.put, List.setIfInBounds_toArray, List.set_cons_zero, List.set_cons_succ])
      refine wpAnyH_take (i := 3) (v := ?_) rfl (by kernel_rfl) (by kernel_rfl) (by kernel_rfl) (fun _ _ _ h => h) (Or.inl ⟨by rfl, ?_⟩) (by assumption) ?_
      rotate_left
      · (intro W hSW; go_simp; try (with_reducible rfl))
      (try simp only [List.getElem_toArray, List.getElem_cons_succ, List.getElem_cons_zero])
      (try simp only [Act.put, List.setIfInBounds_toArray, List.set_cons_zero, List.set_cons_succ])
      refine wpAnyH_take (i := 4) (v := ?_) rfl (by kernel_rfl) (by kernel_rfl) (by kernel_rfl) (fun _ _ _ h => h) (Or.inl ⟨by rfl, ?_⟩) (by assumption) ?_
      rotate_left
      · (intro W hSW; go_simp; try (with_reducible rfl))
      (try simp only [List.getElem_toArray, List.getElem_cons_succ, List.getElem_cons_zero])
      (try simp only [Act.put, List.setIfInBounds_toArray, List.set_cons_zero, List.set_cons_succ])
      refine wpAnyH_take (i := 5) (v := ?_) rfl (by kernel_rfl) (by kernel_rfl) (by kernel_rfl) (fun _ _ _ h => h) (Or.inl ⟨by rfl, ?_⟩) (by assumption) ?_
      rotate_left
      · (intro W hSW; have z0 := keeps_below hSW _ _ ca; go_simp; try (with_reducible rfl))
      (try simp only [List.getElem_toArray, List.getElem_cons_succ, List.getElem_cons_zero])
      (try simp only [Act.put, List.setIfInBounds_toArray, List.set_cons_zero, List.set_cons_succ])
      refine wpAnyH_take (i := 6) (v := ?_) rfl (by kernel_rfl) (by kernel_rfl) (by kernel_rfl) (fun _ _ _ h => h) (Or.inl ⟨by rfl, ?_⟩) (by assumption) ?_
      rotate_left
      · (intro W hSW; go_simp; try (with_reducible rfl))
      (try simp only [List.getElem_toArray, List.getElem_cons_succ, List.getElem_cons_zero])
      (try simp only [Act.put, List.setIfInBounds_toArray, List.set_cons_zero, List.set_cons_succ])
      refine wpAnyH_ready (rs := [7]) (by kernel_rfl) (by simp) ?_
      refine AllReadyH.cons rfl (fun K hK => ?_) AllReadyH.nil
      go_simp
      go_at_call 141
      refine (G0.out _).mono ?_
      rintro e w3 ⟨rfl, hb3⟩
      have hH3 : Below wr.heap.size wr w3 := hHeld.trans (hb3.mono hHeld.size)
      dsimp only
      refine hK.out _ _ (hHeld.trans (hb3.mono hHeld.size)) (fun _ => ?_)
      clear hK K
      (try simp only [Act.put, List.setIfInBounds_toArray, List.set_cons_zero, List.set_cons_succ])
      clear hHeld
      have hHeld : Below wr.heap.size wr w3 := hH3
      clear hH3
      refine wpAnyH_take (i := 8) (v := ?_) rfl (by kernel_rfl) (by kernel_rfl) (by kernel_rfl) (fun _ _ _ h => h) (Or.inl ⟨by rfl, ?_⟩) (by assumption) ?_
      rotate_left
      · (intro W hSW; go_simp; try (with_reducible rfl))
      (try simp only [List.getElem_toArray, List.getElem_cons_succ, List.getElem_cons_zero])
      (try simp only [Act.put, List.setIfInBounds_toArray, List.set_cons_zero, List.set_cons_succ])
      refine wpAnyH_done (by kernel_rfl) ?_ _
      have ca3 := keeps_below hHeld _ _ ca
      have xo3 := keeps_below hHeld _ _ xo
      have xd3 := keeps_below hHeld _ _ xd
      have xa3 := keeps_below hHeld _ _ xa
      have xb3 := keeps_below hHeld _ _ xb
      have HB3 : Hid (Below w2.heap.size w2 w3) := HBR.out.trans (hHeld.mono HBR.out.size)
      clear hHeld ca xo xd xa xb xi
      go_wp2_with (go_at_call 141; refine (G1.out _).mono ?_; rintro e w4 ⟨rfl, hb4⟩; have HB4 : Hid (Below w2.heap.size w2 w4) := HB3.out.trans (hb4.mono HB3.out.size); clear hb4)
      go_roundw
      case rel => exact ⟨m + 1, by omega, by rw [← HJM.out.1], by rw [← HCW.out], HB4.out⟩
      case measure => simp [intOf]
    · -- 12
      obtain ⟨n, h1, hCn, hn, t1, t3, t2, hh, hh0, hh1⟩ := code_parts C 12 (by omega)
      replace t3 : C.tdiv 10 = 12 := t3
      have HBV : Hid (BA C = bitI rs2 n) := by
        show _ = _
        rw [HBD.out, if_neg (by omega), if_neg (by omega), if_neg (by omega), if_pos (by omega)]
        congr 1
        omega
      have G0 : Hid (∀ W, Calls Tryd.prog 141 #[.int .i64 imm, .int .i64 (h1 : Int)] W fun e w' => e = .returned (.int .i64 (bitI imm h1)) ∧ Below W.heap.size W w') := fun W => HBO.out imm HFD.out.2.2.2 h1 (by omega) W
      have G1 : Hid (∀ W, Calls Tryd.prog 141 #[.int .i64 rs2, .int .i64 (n : Int)] W fun e w' => e = .returned (.int .i64 (bitI rs2 n)) ∧ Below W.heap.size W w') := fun W => HBO.out rs2 HFD.out.2.2.1 n (by omega) W
      have hq0 := bitI_bounds imm h1
      have hq1 := bitI_bounds rs2 n
      generalize bitI rs2 n = b1 at *
      generalize bitI imm h1 = b0 at *
      have HCW : Hid (V * 2 + BA C = hw (fun j => BA (layT s j)) (m + 1)) := HWS.out
      clear hh hh0 hh1 hCn hn HWS
      rw [HBV.out] at HCW
      have hm31 : m < 32 := by have := HJM.out; omega
      clear hm HBV
      try clear hcl
      go_wp2_with fail
      refine wp_region_held_drew (S := fun W => Below wr.heap.size wr W) (by kernel_rfl) ((Below.refl _ _).drew) (fun hHeld => ?_)
      show wpAnyH _ _ _ _ _ 9 _ _ _
      refine wpAnyH_take (i := 0) (v := ?_) rfl (by kernel_rfl) (by kernel_rfl) (by kernel_rfl) (fun _ _ _ h => h) (Or.inl ⟨by rfl, ?_⟩) (by assumption) ?_
      rotate_left
      · (intro W hSW; go_simp; try (with_reducible rfl))
      (try simp only [List.getElem_toArray, List.getElem_cons_zero])
      (try simp only [Act.put, List.setIfInBounds_toArray, List.set_cons_zero, List.set_cons_succ])
      refine wpAnyH_take (i := 1) (v := ?_) rfl (by kernel_rfl) (by kernel_rfl) (by kernel_rfl) (fun _ _ _ h => h) (Or.inl ⟨by rfl, ?_⟩) (by assumption) ?_
      rotate_left
      · (intro W hSW; have z0 := keeps_below hSW _ _ xi; go_simp; try (with_reducible rfl))
      (try simp only [List.getElem_toArray, List.getElem_cons_succ, List.getElem_cons_zero])
      (try simp only [Act.put, List.setIfInBounds_toArray, List.set_cons_zero, List.set_cons_succ])
      refine wpAnyH_take (i := 2) (v := ?_) rfl (by kernel_rfl) (by kernel_rfl) (by kernel_rfl) (fun _ _ _ h => h) (Or.inl ⟨by rfl, ?_⟩) (by assumption) ?_
      rotate_left
      · (intro W hSW; go_simp; try (with_reducible rfl))
      (try simp only [List.getElem_toArray, List.getElem_cons_succ, List.getElem_cons_zero])
      (try simp only [Act.put, List.setIfInBounds_toArray, List.set_cons_zero, List.set_cons_succ])
      refine wpAnyH_take (i := 3) (v := ?_) rfl (by kernel_rfl) (by kernel_rfl) (by kernel_rfl) (fun _ _ _ h => h) (Or.inl ⟨by rfl, ?_⟩) (by assumption) ?_
      rotate_left
      · (intro W hSW; go_simp; try (with_reducible rfl))
      (try simp only [List.getElem_toArray, List.getElem_cons_succ, List.getElem_cons_zero])
      (try simp only [Act.put, List.setIfInBounds_toArray, List.set_cons_zero, List.set_cons_succ])
      refine wpAnyH_take (i := 4) (v := ?_) rfl (by kernel_rfl) (by kernel_rfl) (by kernel_rfl) (fun _ _ _ h => h) (Or.inl ⟨by rfl, ?_⟩) (by assumption) ?_
      rotate_left
      · (intro W hSW; go_simp; try (with_reducible rfl))
      (try simp only [List.getElem_toArray, List.getElem_cons_succ, List.getElem_cons_zero])
      (try simp only [Act.put, List.setIfInBounds_toArray, List.set_cons_zero, List.set_cons_succ])
      refine wpAnyH_take (i := 5) (v := ?_) rfl (by kernel_rfl) (by kernel_rfl) (by kernel_rfl) (fun _ _ _ h => h) (Or.inl ⟨by rfl, ?_⟩) (by assumption) ?_
      rotate_left
      · (intro W hSW; have z0 := keeps_below hSW _ _ ca; go_simp; try (with_reducible rfl))
      (try simp only [List.getElem_toArray, List.getElem_cons_succ, List.getElem_cons_zero])
      (try simp only [Act.put, List.setIfInBounds_toArray, List.set_cons_zero, List.set_cons_succ])
      refine wpAnyH_take (i := 6) (v := ?_) rfl (by kernel_rfl) (by kernel_rfl) (by kernel_rfl) (fun _ _ _ h => h) (Or.inl ⟨by rfl, ?_⟩) (by assumption) ?_
      rotate_left
      · (intro W hSW; go_simp; try (with_reducible rfl))
      (try simp only [List.getElem_toArray, List.getElem_cons_succ, List.getElem_cons_zero])
      (try simp only [Act.put, List.setIfInBounds_toArray, List.set_cons_zero, List.set_cons_succ])
      refine wpAnyH_ready (rs := [7]) (by kernel_rfl) (by simp) ?_
      refine AllReadyH.cons rfl (fun K hK => ?_) AllReadyH.nil
      go_simp
      go_at_call 141
      refine (G0.out _).mono ?_
      rintro e w3 ⟨rfl, hb3⟩
      have hH3 : Below wr.heap.size wr w3 := hHeld.trans (hb3.mono hHeld.size)
      dsimp only
      refine hK.out _ _ (hHeld.trans (hb3.mono hHeld.size)) (fun _ => ?_)
      clear hK K
      (try simp only [Act.put, List.setIfInBounds_toArray, List.set_cons_zero, List.set_cons_succ])
      clear hHeld
      have hHeld : Below wr.heap.size wr w3 := hH3
      clear hH3
      refine wpAnyH_take (i := 8) (v := ?_) rfl (by kernel_rfl) (by kernel_rfl) (by kernel_rfl) (fun _ _ _ h => h) (Or.inl ⟨by rfl, ?_⟩) (by assumption) ?_
      rotate_left
      · (intro W hSW; go_simp; try (with_reducible rfl))
      (try simp only [List.getElem_toArray, List.getElem_cons_succ, List.getElem_cons_zero])
      (try simp only [Act.put, List.setIfInBounds_toArray, List.set_cons_zero, List.set_cons_succ])
      refine wpAnyH_done (by kernel_rfl) ?_ _
      have ca3 := keeps_below hHeld _ _ ca
      have xo3 := keeps_below hHeld _ _ xo
      have xd3 := keeps_below hHeld _ _ xd
      have xa3 := keeps_below hHeld _ _ xa
      have xb3 := keeps_below hHeld _ _ xb
      have HB3 : Hid (Below w2.heap.size w2 w3) := HBR.out.trans (hHeld.mono HBR.out.size)
      clear hHeld ca xo xd xa xb xi
      go_wp2_with (go_at_call 141; refine (G1.out _).mono ?_; rintro e w4 ⟨rfl, hb4⟩; have HB4 : Hid (Below w2.heap.size w2 w4) := HB3.out.trans (hb4.mono HB3.out.size); clear hb4)
      go_roundw
      case rel => exact ⟨m + 1, by omega, by rw [← HJM.out.1], by rw [← HCW.out], HB4.out⟩
      case measure => simp [intOf]
    · -- 13
      obtain ⟨n, h1, hCn, hn, t1, t3, t2, hh, hh0, hh1⟩ := code_parts C 13 (by omega)
      replace t3 : C.tdiv 10 = 13 := t3
      have HBV : Hid (BA C = bitI SA n) := by
        show _ = _
        rw [HBD.out, if_neg (by omega), if_neg (by omega), if_neg (by omega), if_neg (by omega), if_pos (by omega)]
        congr 1
        omega
      have G0 : Hid (∀ W, Calls Tryd.prog 141 #[.int .i64 imm, .int .i64 (h1 : Int)] W fun e w' => e = .returned (.int .i64 (bitI imm h1)) ∧ Below W.heap.size W w') := fun W => HBO.out imm HFD.out.2.2.2 h1 (by omega) W
      have G1 : Hid (∀ W, Calls Tryd.prog 141 #[.int .i64 SA, .int .i64 (n : Int)] W fun e w' => e = .returned (.int .i64 (bitI SA n)) ∧ Below W.heap.size W w') := fun W => HBO.out SA HFA.out n (by omega) W
      have hq0 := bitI_bounds imm h1
      have hq1 := bitI_bounds SA n
      generalize bitI SA n = b1 at *
      generalize bitI imm h1 = b0 at *
      have HCW : Hid (V * 2 + BA C = hw (fun j => BA (layT s j)) (m + 1)) := HWS.out
      clear hh hh0 hh1 hCn hn HWS
      rw [HBV.out] at HCW
      have hm31 : m < 32 := by have := HJM.out; omega
      clear hm HBV
      try clear hcl
      go_wp2_with fail
      refine wp_region_held_drew (S := fun W => Below wr.heap.size wr W) (by kernel_rfl) ((Below.refl _ _).drew) (fun hHeld => ?_)
      show wpAnyH _ _ _ _ _ 9 _ _ _
      refine wpAnyH_take (i := 0) (v := ?_) rfl (by kernel_rfl) (by kernel_rfl) (by kernel_rfl) (fun _ _ _ h => h) (Or.inl ⟨by rfl, ?_⟩) (by assumption) ?_
      rotate_left
      · (intro W hSW; go_simp; try (with_reducible rfl))
      (try simp only [List.getElem_toArray, List.getElem_cons_zero])
      (try simp only [Act.put, List.setIfInBounds_toArray, List.set_cons_zero, List.set_cons_succ])
      refine wpAnyH_take (i := 1) (v := ?_) rfl (by kernel_rfl) (by kernel_rfl) (by kernel_rfl) (fun _ _ _ h => h) (Or.inl ⟨by rfl, ?_⟩) (by assumption) ?_
      rotate_left
      · (intro W hSW; have z0 := keeps_below hSW _ _ xi; go_simp; try (with_reducible rfl))
      (try simp only [List.getElem_toArray, List.getElem_cons_succ, List.getElem_cons_zero])
      (try simp only [Act.put, List.setIfInBounds_toArray, List.set_cons_zero, List.set_cons_succ])
      refine wpAnyH_take (i := 2) (v := ?_) rfl (by kernel_rfl) (by kernel_rfl) (by kernel_rfl) (fun _ _ _ h => h) (Or.inl ⟨by rfl, ?_⟩) (by assumption) ?_
      rotate_left
      · (intro W hSW; go_simp; try (with_reducible rfl))
      (try simp only [List.getElem_toArray, List.getElem_cons_succ, List.getElem_cons_zero])
      (try simp only [Act.put, List.setIfInBounds_toArray, List.set_cons_zero, List.set_cons_succ])
      refine wpAnyH_take (i := 3) (v := ?_) rfl (by kernel_rfl) (by kernel_rfl) (by kernel_rfl) (fun _ _ _ h => h) (Or.inl ⟨by rfl, ?_⟩) (by assumption) ?_
      rotate_left
      · (intro W hSW; go_simp; try (with_reducible rfl))
      (try simp only [List.getElem_toArray, List.getElem_cons_succ, List.getElem_cons_zero])
      (try simp only [Act.put, List.setIfInBounds_toArray, List.set_cons_zero, List.set_cons_succ])
      refine wpAnyH_take (i := 4) (v := ?_) rfl (by kernel_rfl) (by kernel_rfl) (by kernel_rfl) (fun _ _ _ h => h) (Or.inl ⟨by rfl, ?_⟩) (by assumption) ?_
      rotate_left
      · (intro W hSW; go_simp; try (with_reducible rfl))
      (try simp only [List.getElem_toArray, List.getElem_cons_succ, List.getElem_cons_zero])
      (try simp only [Act.put, List.setIfInBounds_toArray, List.set_cons_zero, List.set_cons_succ])
      refine wpAnyH_take (i := 5) (v := ?_) rfl (by kernel_rfl) (by kernel_rfl) (by kernel_rfl) (fun _ _ _ h => h) (Or.inl ⟨by rfl, ?_⟩) (by assumption) ?_
      rotate_left
      · (intro W hSW; have z0 := keeps_below hSW _ _ ca; go_simp; try (with_reducible rfl))
      (try simp only [List.getElem_toArray, List.getElem_cons_succ, List.getElem_cons_zero])
      (try simp only [Act.put, List.setIfInBounds_toArray, List.set_cons_zero, List.set_cons_succ])
      refine wpAnyH_take (i := 6) (v := ?_) rfl (by kernel_rfl) (by kernel_rfl) (by kernel_rfl) (fun _ _ _ h => h) (Or.inl ⟨by rfl, ?_⟩) (by assumption) ?_
      rotate_left
      · (intro W hSW; go_simp; try (with_reducible rfl))
      (try simp only [List.getElem_toArray, List.getElem_cons_succ, List.getElem_cons_zero])
      (try simp only [Act.put, List.setIfInBounds_toArray, List.set_cons_zero, List.set_cons_succ])
      refine wpAnyH_ready (rs := [7]) (by kernel_rfl) (by simp) ?_
      refine AllReadyH.cons rfl (fun K hK => ?_) AllReadyH.nil
      go_simp
      go_at_call 141
      refine (G0.out _).mono ?_
      rintro e w3 ⟨rfl, hb3⟩
      have hH3 : Below wr.heap.size wr w3 := hHeld.trans (hb3.mono hHeld.size)
      dsimp only
      refine hK.out _ _ (hHeld.trans (hb3.mono hHeld.size)) (fun _ => ?_)
      clear hK K
      (try simp only [Act.put, List.setIfInBounds_toArray, List.set_cons_zero, List.set_cons_succ])
      clear hHeld
      have hHeld : Below wr.heap.size wr w3 := hH3
      clear hH3
      refine wpAnyH_take (i := 8) (v := ?_) rfl (by kernel_rfl) (by kernel_rfl) (by kernel_rfl) (fun _ _ _ h => h) (Or.inl ⟨by rfl, ?_⟩) (by assumption) ?_
      rotate_left
      · (intro W hSW; go_simp; try (with_reducible rfl))
      (try simp only [List.getElem_toArray, List.getElem_cons_succ, List.getElem_cons_zero])
      (try simp only [Act.put, List.setIfInBounds_toArray, List.set_cons_zero, List.set_cons_succ])
      refine wpAnyH_done (by kernel_rfl) ?_ _
      have ca3 := keeps_below hHeld _ _ ca
      have xo3 := keeps_below hHeld _ _ xo
      have xd3 := keeps_below hHeld _ _ xd
      have xa3 := keeps_below hHeld _ _ xa
      have xb3 := keeps_below hHeld _ _ xb
      have HB3 : Hid (Below w2.heap.size w2 w3) := HBR.out.trans (hHeld.mono HBR.out.size)
      clear hHeld ca xo xd xa xb xi
      go_wp2_with (first | (go_at_call 163; refine (HL7.out _).mono ?_; rintro e w4 ⟨rfl, hb4⟩; have HB4 : Hid (Below w2.heap.size w2 w4) := HB3.out.trans (hb4.mono HB3.out.size); clear hb4) | (go_at_call 141; refine (G1.out _).mono ?_; rintro e w5 ⟨rfl, hb5⟩; have HB5 : Hid (Below w2.heap.size w2 w5) := HB4.out.trans (hb5.mono HB4.out.size); clear hb5))
      go_roundw
      case rel => exact ⟨m + 1, by omega, by rw [← HJM.out.1], by rw [← HCW.out], HB5.out⟩
      case measure => simp [intOf]
    · -- 14
      obtain ⟨n, h1, hCn, hn, t1, t3, t2, hh, hh0, hh1⟩ := code_parts C 14 (by omega)
      replace t3 : C.tdiv 10 = 14 := t3
      have HBV : Hid (BA C = bitI SB n) := by
        show _ = _
        rw [HBD.out, if_neg (by omega), if_neg (by omega), if_neg (by omega), if_neg (by omega), if_neg (by omega), if_pos (by omega)]
        congr 1
        omega
      have G0 : Hid (∀ W, Calls Tryd.prog 141 #[.int .i64 imm, .int .i64 (h1 : Int)] W fun e w' => e = .returned (.int .i64 (bitI imm h1)) ∧ Below W.heap.size W w') := fun W => HBO.out imm HFD.out.2.2.2 h1 (by omega) W
      have G1 : Hid (∀ W, Calls Tryd.prog 141 #[.int .i64 SB, .int .i64 (n : Int)] W fun e w' => e = .returned (.int .i64 (bitI SB n)) ∧ Below W.heap.size W w') := fun W => HBO.out SB HFB.out n (by omega) W
      have hq0 := bitI_bounds imm h1
      have hq1 := bitI_bounds SB n
      generalize bitI SB n = b1 at *
      generalize bitI imm h1 = b0 at *
      have HCW : Hid (V * 2 + BA C = hw (fun j => BA (layT s j)) (m + 1)) := HWS.out
      clear hh hh0 hh1 hCn hn HWS
      rw [HBV.out] at HCW
      have hm31 : m < 32 := by have := HJM.out; omega
      clear hm HBV
      try clear hcl
      go_wp2_with fail
      refine wp_region_held_drew (S := fun W => Below wr.heap.size wr W) (by kernel_rfl) ((Below.refl _ _).drew) (fun hHeld => ?_)
      show wpAnyH _ _ _ _ _ 9 _ _ _
      refine wpAnyH_take (i := 0) (v := ?_) rfl (by kernel_rfl) (by kernel_rfl) (by kernel_rfl) (fun _ _ _ h => h) (Or.inl ⟨by rfl, ?_⟩) (by assumption) ?_
      rotate_left
      · (intro W hSW; go_simp; try (with_reducible rfl))
      (try simp only [List.getElem_toArray, List.getElem_cons_zero])
      (try simp only [Act.put, List.setIfInBounds_toArray, List.set_cons_zero, List.set_cons_succ])
      refine wpAnyH_take (i := 1) (v := ?_) rfl (by kernel_rfl) (by kernel_rfl) (by kernel_rfl) (fun _ _ _ h => h) (Or.inl ⟨by rfl, ?_⟩) (by assumption) ?_
      rotate_left
      · (intro W hSW; have z0 := keeps_below hSW _ _ xi; go_simp; try (with_reducible rfl))
      (try simp only [List.getElem_toArray, List.getElem_cons_succ, List.getElem_cons_zero])
      (try simp only [Act.put, List.setIfInBounds_toArray, List.set_cons_zero, List.set_cons_succ])
      refine wpAnyH_take (i := 2) (v := ?_) rfl (by kernel_rfl) (by kernel_rfl) (by kernel_rfl) (fun _ _ _ h => h) (Or.inl ⟨by rfl, ?_⟩) (by assumption) ?_
      rotate_left
      · (intro W hSW; go_simp; try (with_reducible rfl))
      (try simp only [List.getElem_toArray, List.getElem_cons_succ, List.getElem_cons_zero])
      (try simp only [Act.put, List.setIfInBounds_toArray, List.set_cons_zero, List.set_cons_succ])
      refine wpAnyH_take (i := 3) (v := ?_) rfl (by kernel_rfl) (by kernel_rfl) (by kernel_rfl) (fun _ _ _ h => h) (Or.inl ⟨by rfl, ?_⟩) (by assumption) ?_
      rotate_left
      · (intro W hSW; go_simp; try (with_reducible rfl))
      (try simp only [List.getElem_toArray, List.getElem_cons_succ, List.getElem_cons_zero])
      (try simp only [Act.put, List.setIfInBounds_toArray, List.set_cons_zero, List.set_cons_succ])
      refine wpAnyH_take (i := 4) (v := ?_) rfl (by kernel_rfl) (by kernel_rfl) (by kernel_rfl) (fun _ _ _ h => h) (Or.inl ⟨by rfl, ?_⟩) (by assumption) ?_
      rotate_left
      · (intro W hSW; go_simp; try (with_reducible rfl))
      (try simp only [List.getElem_toArray, List.getElem_cons_succ, List.getElem_cons_zero])
      (try simp only [Act.put, List.setIfInBounds_toArray, List.set_cons_zero, List.set_cons_succ])
      refine wpAnyH_take (i := 5) (v := ?_) rfl (by kernel_rfl) (by kernel_rfl) (by kernel_rfl) (fun _ _ _ h => h) (Or.inl ⟨by rfl, ?_⟩) (by assumption) ?_
      rotate_left
      · (intro W hSW; have z0 := keeps_below hSW _ _ ca; go_simp; try (with_reducible rfl))
      (try simp only [List.getElem_toArray, List.getElem_cons_succ, List.getElem_cons_zero])
      (try simp only [Act.put, List.setIfInBounds_toArray, List.set_cons_zero, List.set_cons_succ])
      refine wpAnyH_take (i := 6) (v := ?_) rfl (by kernel_rfl) (by kernel_rfl) (by kernel_rfl) (fun _ _ _ h => h) (Or.inl ⟨by rfl, ?_⟩) (by assumption) ?_
      rotate_left
      · (intro W hSW; go_simp; try (with_reducible rfl))
      (try simp only [List.getElem_toArray, List.getElem_cons_succ, List.getElem_cons_zero])
      (try simp only [Act.put, List.setIfInBounds_toArray, List.set_cons_zero, List.set_cons_succ])
      refine wpAnyH_ready (rs := [7]) (by kernel_rfl) (by simp) ?_
      refine AllReadyH.cons rfl (fun K hK => ?_) AllReadyH.nil
      go_simp
      go_at_call 141
      refine (G0.out _).mono ?_
      rintro e w3 ⟨rfl, hb3⟩
      have hH3 : Below wr.heap.size wr w3 := hHeld.trans (hb3.mono hHeld.size)
      dsimp only
      refine hK.out _ _ (hHeld.trans (hb3.mono hHeld.size)) (fun _ => ?_)
      clear hK K
      (try simp only [Act.put, List.setIfInBounds_toArray, List.set_cons_zero, List.set_cons_succ])
      clear hHeld
      have hHeld : Below wr.heap.size wr w3 := hH3
      clear hH3
      refine wpAnyH_take (i := 8) (v := ?_) rfl (by kernel_rfl) (by kernel_rfl) (by kernel_rfl) (fun _ _ _ h => h) (Or.inl ⟨by rfl, ?_⟩) (by assumption) ?_
      rotate_left
      · (intro W hSW; go_simp; try (with_reducible rfl))
      (try simp only [List.getElem_toArray, List.getElem_cons_succ, List.getElem_cons_zero])
      (try simp only [Act.put, List.setIfInBounds_toArray, List.set_cons_zero, List.set_cons_succ])
      refine wpAnyH_done (by kernel_rfl) ?_ _
      have ca3 := keeps_below hHeld _ _ ca
      have xo3 := keeps_below hHeld _ _ xo
      have xd3 := keeps_below hHeld _ _ xd
      have xa3 := keeps_below hHeld _ _ xa
      have xb3 := keeps_below hHeld _ _ xb
      have HB3 : Hid (Below w2.heap.size w2 w3) := HBR.out.trans (hHeld.mono HBR.out.size)
      clear hHeld ca xo xd xa xb xi
      go_wp2_with (first | (go_at_call 164; refine (HT3.out _).mono ?_; rintro e w4 ⟨rfl, hb4⟩; have HB4 : Hid (Below w2.heap.size w2 w4) := HB3.out.trans (hb4.mono HB3.out.size); clear hb4) | (go_at_call 141; refine (G1.out _).mono ?_; rintro e w5 ⟨rfl, hb5⟩; have HB5 : Hid (Below w2.heap.size w2 w5) := HB4.out.trans (hb5.mono HB4.out.size); clear hb5))
      go_roundw
      case rel => exact ⟨m + 1, by omega, by rw [← HJM.out.1], by rw [← HCW.out], HB5.out⟩
      case measure => simp [intOf]
    · -- 15
      obtain ⟨n, h1, hCn, hn, t1, t3, t2, hh, hh0, hh1⟩ := code_parts C 15 (by omega)
      replace t3 : C.tdiv 10 = 15 := t3
      have HBV : Hid (BA C = bitI ST n) := by
        show _ = _
        rw [HBD.out, if_neg (by omega), if_neg (by omega), if_neg (by omega), if_neg (by omega), if_neg (by omega), if_neg (by omega)]
        congr 1
        omega
      have G0 : Hid (∀ W, Calls Tryd.prog 141 #[.int .i64 imm, .int .i64 (h1 : Int)] W fun e w' => e = .returned (.int .i64 (bitI imm h1)) ∧ Below W.heap.size W w') := fun W => HBO.out imm HFD.out.2.2.2 h1 (by omega) W
      have G1 : Hid (∀ W, Calls Tryd.prog 141 #[.int .i64 ST, .int .i64 (n : Int)] W fun e w' => e = .returned (.int .i64 (bitI ST n)) ∧ Below W.heap.size W w') := fun W => HBO.out ST HFT.out n (by omega) W
      have hq0 := bitI_bounds imm h1
      have hq1 := bitI_bounds ST n
      generalize bitI ST n = b1 at *
      generalize bitI imm h1 = b0 at *
      have HCW : Hid (V * 2 + BA C = hw (fun j => BA (layT s j)) (m + 1)) := HWS.out
      clear hh hh0 hh1 hCn hn HWS
      rw [HBV.out] at HCW
      have hm31 : m < 32 := by have := HJM.out; omega
      clear hm HBV
      try clear hcl
      go_wp2_with fail
      refine wp_region_held_drew (S := fun W => Below wr.heap.size wr W) (by kernel_rfl) ((Below.refl _ _).drew) (fun hHeld => ?_)
      show wpAnyH _ _ _ _ _ 9 _ _ _
      refine wpAnyH_take (i := 0) (v := ?_) rfl (by kernel_rfl) (by kernel_rfl) (by kernel_rfl) (fun _ _ _ h => h) (Or.inl ⟨by rfl, ?_⟩) (by assumption) ?_
      rotate_left
      · (intro W hSW; go_simp; try (with_reducible rfl))
      (try simp only [List.getElem_toArray, List.getElem_cons_zero])
      (try simp only [Act.put, List.setIfInBounds_toArray, List.set_cons_zero, List.set_cons_succ])
      refine wpAnyH_take (i := 1) (v := ?_) rfl (by kernel_rfl) (by kernel_rfl) (by kernel_rfl) (fun _ _ _ h => h) (Or.inl ⟨by rfl, ?_⟩) (by assumption) ?_
      rotate_left
      · (intro W hSW; have z0 := keeps_below hSW _ _ xi; go_simp; try (with_reducible rfl))
      (try simp only [List.getElem_toArray, List.getElem_cons_succ, List.getElem_cons_zero])
      (try simp only [Act.put, List.setIfInBounds_toArray, List.set_cons_zero, List.set_cons_succ])
      refine wpAnyH_take (i := 2) (v := ?_) rfl (by kernel_rfl) (by kernel_rfl) (by kernel_rfl) (fun _ _ _ h => h) (Or.inl ⟨by rfl, ?_⟩) (by assumption) ?_
      rotate_left
      · (intro W hSW; go_simp; try (with_reducible rfl))
      (try simp only [List.getElem_toArray, List.getElem_cons_succ, List.getElem_cons_zero])
      (try simp only [Act.put, List.setIfInBounds_toArray, List.set_cons_zero, List.set_cons_succ])
      refine wpAnyH_take (i := 3) (v := ?_) rfl (by kernel_rfl) (by kernel_rfl) (by kernel_rfl) (fun _ _ _ h => h) (Or.inl ⟨by rfl, ?_⟩) (by assumption) ?_
      rotate_left
      · (intro W hSW; go_simp; try (with_reducible rfl))
      (try simp only [List.getElem_toArray, List.getElem_cons_succ, List.getElem_cons_zero])
      (try simp only [Act.put, List.setIfInBounds_toArray, List.set_cons_zero, List.set_cons_succ])
      refine wpAnyH_take (i := 4) (v := ?_) rfl (by kernel_rfl) (by kernel_rfl) (by kernel_rfl) (fun _ _ _ h => h) (Or.inl ⟨by rfl, ?_⟩) (by assumption) ?_
      rotate_left
      · (intro W hSW; go_simp; try (with_reducible rfl))
      (try simp only [List.getElem_toArray, List.getElem_cons_succ, List.getElem_cons_zero])
      (try simp only [Act.put, List.setIfInBounds_toArray, List.set_cons_zero, List.set_cons_succ])
      refine wpAnyH_take (i := 5) (v := ?_) rfl (by kernel_rfl) (by kernel_rfl) (by kernel_rfl) (fun _ _ _ h => h) (Or.inl ⟨by rfl, ?_⟩) (by assumption) ?_
      rotate_left
      · (intro W hSW; have z0 := keeps_below hSW _ _ ca; go_simp; try (with_reducible rfl))
      (try simp only [List.getElem_toArray, List.getElem_cons_succ, List.getElem_cons_zero])
      (try simp only [Act.put, List.setIfInBounds_toArray, List.set_cons_zero, List.set_cons_succ])
      refine wpAnyH_take (i := 6) (v := ?_) rfl (by kernel_rfl) (by kernel_rfl) (by kernel_rfl) (fun _ _ _ h => h) (Or.inl ⟨by rfl, ?_⟩) (by assumption) ?_
      rotate_left
      · (intro W hSW; go_simp; try (with_reducible rfl))
      (try simp only [List.getElem_toArray, List.getElem_cons_succ, List.getElem_cons_zero])
      (try simp only [Act.put, List.setIfInBounds_toArray, List.set_cons_zero, List.set_cons_succ])
      refine wpAnyH_ready (rs := [7]) (by kernel_rfl) (by simp) ?_
      refine AllReadyH.cons rfl (fun K hK => ?_) AllReadyH.nil
      go_simp
      go_at_call 141
      refine (G0.out _).mono ?_
      rintro e w3 ⟨rfl, hb3⟩
      have hH3 : Below wr.heap.size wr w3 := hHeld.trans (hb3.mono hHeld.size)
      dsimp only
      refine hK.out _ _ (hHeld.trans (hb3.mono hHeld.size)) (fun _ => ?_)
      clear hK K
      (try simp only [Act.put, List.setIfInBounds_toArray, List.set_cons_zero, List.set_cons_succ])
      clear hHeld
      have hHeld : Below wr.heap.size wr w3 := hH3
      clear hH3
      refine wpAnyH_take (i := 8) (v := ?_) rfl (by kernel_rfl) (by kernel_rfl) (by kernel_rfl) (fun _ _ _ h => h) (Or.inl ⟨by rfl, ?_⟩) (by assumption) ?_
      rotate_left
      · (intro W hSW; go_simp; try (with_reducible rfl))
      (try simp only [List.getElem_toArray, List.getElem_cons_succ, List.getElem_cons_zero])
      (try simp only [Act.put, List.setIfInBounds_toArray, List.set_cons_zero, List.set_cons_succ])
      refine wpAnyH_done (by kernel_rfl) ?_ _
      have ca3 := keeps_below hHeld _ _ ca
      have xo3 := keeps_below hHeld _ _ xo
      have xd3 := keeps_below hHeld _ _ xd
      have xa3 := keeps_below hHeld _ _ xa
      have xb3 := keeps_below hHeld _ _ xb
      have HB3 : Hid (Below w2.heap.size w2 w3) := HBR.out.trans (hHeld.mono HBR.out.size)
      clear hHeld ca xo xd xa xb xi
      go_wp2_with (first | (go_at_call 165; refine (HTT.out _).mono ?_; rintro e w4 ⟨rfl, hb4⟩; have HB4 : Hid (Below w2.heap.size w2 w4) := HB3.out.trans (hb4.mono HB3.out.size); clear hb4) | (go_at_call 141; refine (G1.out _).mono ?_; rintro e w5 ⟨rfl, hb5⟩; have HB5 : Hid (Below w2.heap.size w2 w5) := HB4.out.trans (hb5.mono HB4.out.size); clear hb5))
      go_roundw
      case rel => exact ⟨m + 1, by omega, by rw [← HJM.out.1], by rw [← HCW.out], HB5.out⟩
      case measure => simp [intOf]
end Go.Proofs.YtndogdojcbcjgaaDoor
