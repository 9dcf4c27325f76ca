/- Contracts of rv.within, rv.fits, rv.Check: which instructions may be. No condition but that the two tables lie in memory as they were laid. -/
import Derived.Test.YtapjfiihfgndeaaDoorProg
import Derived.Test.YtapjfiihfgndeaaDoorRvMath
import Derived.WalkKit
import Derived.WalkSpells
import Derived.WalkLawsBesides
import Derived.Deep.QuietTactic
import Derived.BigQuiet
import Derived.Deep.MidRow
namespace Go.Proofs.YtapjfiihfgndeaaDoor
open Go Go.RowKit

set_option maxRecDepth 100000 in
theorem within_any (n least most : Int) (w : World) :
    Calls Tryd.prog 54 #[.int .i64 n, .int .i64 least, .int .i64 most] w fun e w' => e = .returned (.bool (decide (least ≤ n ∧ n ≤ most))) ∧ w' = w := by
  by_cases h0 : least ≤ n
  · by_cases h1 : n ≤ most
    · have e : decide (least ≤ n ∧ n ≤ most) = true := by simp [h0, h1]
      rw [e]; clear e
      go_enter Tryd.func54, Tryd.ntmps54
      go_wp2
      go_ret
      exact ⟨rfl, rfl⟩
    · have e : decide (least ≤ n ∧ n ≤ most) = false := by simp [h1]
      rw [e]; clear e
      go_enter Tryd.func54, Tryd.ntmps54
      go_wp2
      go_ret
      exact ⟨rfl, rfl⟩
  · have e : decide (least ≤ n ∧ n ≤ most) = false := by simp [h0]
    rw [e]; clear e
    go_enter Tryd.func54, Tryd.ntmps54
    go_wp2
    go_ret
    exact ⟨rfl, rfl⟩

theorem within_t (n least most : Int) (h : least ≤ n ∧ n ≤ most) (w : World) : Calls Tryd.prog 54 #[.int .i64 n, .int .i64 least, .int .i64 most] w fun e w' => e = .returned (.bool true) ∧ w' = w := by
  have := within_any n least most w
  rwa [decide_eq_true h] at this
theorem within_f (n least most : Int) (h : ¬ (least ≤ n ∧ n ≤ most)) (w : World) : Calls Tryd.prog 54 #[.int .i64 n, .int .i64 least, .int .i64 most] w fun e w' => e = .returned (.bool false) ∧ w' = w := by
  have := within_any n least most w
  rwa [decide_eq_false h] at this

set_option maxRecDepth 100000 in
set_option maxHeartbeats 1000000 in
theorem fits_any (x : Mi) (r0 r1 r2 r3 r4 r5 r6 r7 r8 r9 r10 r11 r12 r13 r14 r15 r16 r17 r18 : Int) (hf : r5 = 1 ∨ r5 = 4) (w : World) :
    Calls Tryd.prog 40 #[x.val, .agg #[.int .i64 r0, .int .i64 r1, .int .i64 r2, .int .i64 r3, .int .i64 r4, .int .i64 r5, .int .i64 r6, .int .i64 r7, .int .i64 r8, .int .i64 r9, .int .i64 r10, .int .i64 r11, .int .i64 r12, .int .i64 r13, .int .i64 r14, .int .i64 r15, .int .i64 r16, .int .i64 r17, .int .i64 r18]] w
      fun e w' => e = .returned (.bool (decide (0 ≤ x.rd ∧ x.rd ≤ r0 ∧ 0 ≤ x.rs1 ∧ x.rs1 ≤ r1 ∧ 0 ≤ x.rs2 ∧ x.rs2 ≤ r2 ∧ r3 ≤ x.imm ∧ x.imm ≤ r4 ∧ x.imm.tmod r5 = 0))) ∧ Below w.heap.size w w' := by
  obtain ⟨op, rd, rs1, rs2, imm⟩ := x
  unfold Mi.val
  dsimp only
  by_cases h0 : (0 ≤ rd ∧ rd ≤ r0)
  case neg =>
    have e : decide (0 ≤ rd ∧ rd ≤ r0 ∧ 0 ≤ rs1 ∧ rs1 ≤ r1 ∧ 0 ≤ rs2 ∧ rs2 ≤ r2 ∧ r3 ≤ imm ∧ imm ≤ r4 ∧ imm.tmod r5 = 0) = false := decide_eq_false (by omega)
    rw [e]; clear e
    have g0 := within_f rd 0 r0 h0
    clear hf h0
    go_enter Tryd.func40, Tryd.ntmps40
    go_wp2_with (go_at_call 54; first | (with_reducible refine (g0 _).mono ?_; rintro e w' ⟨rfl, rfl⟩))
    go_ret
    exact ⟨rfl, ((Below.refl _ _).alloc (Nat.le_refl _) _).alloc (by simp) _⟩
  have g0 := within_t rd 0 r0 h0
  by_cases h1 : (0 ≤ rs1 ∧ rs1 ≤ r1)
  case neg =>
    have e : decide (0 ≤ rd ∧ rd ≤ r0 ∧ 0 ≤ rs1 ∧ rs1 ≤ r1 ∧ 0 ≤ rs2 ∧ rs2 ≤ r2 ∧ r3 ≤ imm ∧ imm ≤ r4 ∧ imm.tmod r5 = 0) = false := decide_eq_false (by omega)
    rw [e]; clear e
    have g1 := within_f rs1 0 r1 h1
    clear hf h0 h1
    go_enter Tryd.func40, Tryd.ntmps40
    go_wp2_with (go_at_call 54; first | (with_reducible refine (g0 _).mono ?_; rintro e w' ⟨rfl, rfl⟩) | (with_reducible refine (g1 _).mono ?_; rintro e w' ⟨rfl, rfl⟩))
    go_ret
    exact ⟨rfl, ((Below.refl _ _).alloc (Nat.le_refl _) _).alloc (by simp) _⟩
  have g1 := within_t rs1 0 r1 h1
  by_cases h2 : (0 ≤ rs2 ∧ rs2 ≤ r2)
  case neg =>
    have e : decide (0 ≤ rd ∧ rd ≤ r0 ∧ 0 ≤ rs1 ∧ rs1 ≤ r1 ∧ 0 ≤ rs2 ∧ rs2 ≤ r2 ∧ r3 ≤ imm ∧ imm ≤ r4 ∧ imm.tmod r5 = 0) = false := decide_eq_false (by omega)
    rw [e]; clear e
    have g2 := within_f rs2 0 r2 h2
    clear hf h0 h1 h2
    go_enter Tryd.func40, Tryd.ntmps40
    go_wp2_with (go_at_call 54; first | (with_reducible refine (g0 _).mono ?_; rintro e w' ⟨rfl, rfl⟩) | (with_reducible refine (g1 _).mono ?_; rintro e w' ⟨rfl, rfl⟩) | (with_reducible refine (g2 _).mono ?_; rintro e w' ⟨rfl, rfl⟩))
    go_ret
    exact ⟨rfl, ((Below.refl _ _).alloc (Nat.le_refl _) _).alloc (by simp) _⟩
  have g2 := within_t rs2 0 r2 h2
  by_cases h3 : (r3 ≤ imm ∧ imm ≤ r4)
  case neg =>
    have e : decide (0 ≤ rd ∧ rd ≤ r0 ∧ 0 ≤ rs1 ∧ rs1 ≤ r1 ∧ 0 ≤ rs2 ∧ rs2 ≤ r2 ∧ r3 ≤ imm ∧ imm ≤ r4 ∧ imm.tmod r5 = 0) = false := decide_eq_false (by omega)
    rw [e]; clear e
    have g3 := within_f imm r3 r4 h3
    clear hf h0 h1 h2 h3
    go_enter Tryd.func40, Tryd.ntmps40
    go_wp2_with (go_at_call 54; first | (with_reducible refine (g0 _).mono ?_; rintro e w' ⟨rfl, rfl⟩) | (with_reducible refine (g1 _).mono ?_; rintro e w' ⟨rfl, rfl⟩) | (with_reducible refine (g2 _).mono ?_; rintro e w' ⟨rfl, rfl⟩) | (with_reducible refine (g3 _).mono ?_; rintro e w' ⟨rfl, rfl⟩))
    go_ret
    exact ⟨rfl, ((Below.refl _ _).alloc (Nat.le_refl _) _).alloc (by simp) _⟩
  have g3 := within_t imm r3 r4 h3
  rcases hf with rfl | rfl
  · have h4 : imm.tmod 1 = 0 := Int.tmod_one _
    · have e : decide (0 ≤ rd ∧ rd ≤ r0 ∧ 0 ≤ rs1 ∧ rs1 ≤ r1 ∧ 0 ≤ rs2 ∧ rs2 ≤ r2 ∧ r3 ≤ imm ∧ imm ≤ r4 ∧ imm.tmod 1 = 0) = true := decide_eq_true (by omega)
      rw [e]; clear e
      have h5 : (imm.tmod 1 == 0) = true := beq_iff_eq.2 h4
      clear h0 h1 h2 h3 h4
      go_enter Tryd.func40, Tryd.ntmps40
      go_wp2_with (go_at_call 54; first | (with_reducible refine (g0 _).mono ?_; rintro e w' ⟨rfl, rfl⟩) | (with_reducible refine (g1 _).mono ?_; rintro e w' ⟨rfl, rfl⟩) | (with_reducible refine (g2 _).mono ?_; rintro e w' ⟨rfl, rfl⟩) | (with_reducible refine (g3 _).mono ?_; rintro e w' ⟨rfl, rfl⟩))
      go_ret
      exact ⟨rfl, ((Below.refl _ _).alloc (Nat.le_refl _) _).alloc (by simp) _⟩
  · by_cases h4 : imm.tmod 4 = 0
    · have e : decide (0 ≤ rd ∧ rd ≤ r0 ∧ 0 ≤ rs1 ∧ rs1 ≤ r1 ∧ 0 ≤ rs2 ∧ rs2 ≤ r2 ∧ r3 ≤ imm ∧ imm ≤ r4 ∧ imm.tmod 4 = 0) = true := decide_eq_true (by omega)
      rw [e]; clear e
      have h5 : (imm.tmod 4 == 0) = true := beq_iff_eq.2 h4
      clear h0 h1 h2 h3 h4
      go_enter Tryd.func40, Tryd.ntmps40
      go_wp2_with (go_at_call 54; first | (with_reducible refine (g0 _).mono ?_; rintro e w' ⟨rfl, rfl⟩) | (with_reducible refine (g1 _).mono ?_; rintro e w' ⟨rfl, rfl⟩) | (with_reducible refine (g2 _).mono ?_; rintro e w' ⟨rfl, rfl⟩) | (with_reducible refine (g3 _).mono ?_; rintro e w' ⟨rfl, rfl⟩))
      go_ret
      exact ⟨rfl, ((Below.refl _ _).alloc (Nat.le_refl _) _).alloc (by simp) _⟩
    · have e : decide (0 ≤ rd ∧ rd ≤ r0 ∧ 0 ≤ rs1 ∧ rs1 ≤ r1 ∧ 0 ≤ rs2 ∧ rs2 ≤ r2 ∧ r3 ≤ imm ∧ imm ≤ r4 ∧ imm.tmod 4 = 0) = false := decide_eq_false (fun h => h4 h.2.2.2.2.2.2.2.2)
      rw [e]; clear e
      have h5 : (imm.tmod 4 == 0) = false := beq_eq_false_iff_ne.2 h4
      clear h0 h1 h2 h3 h4
      go_enter Tryd.func40, Tryd.ntmps40
      go_wp2_with (go_at_call 54; first | (with_reducible refine (g0 _).mono ?_; rintro e w' ⟨rfl, rfl⟩) | (with_reducible refine (g1 _).mono ?_; rintro e w' ⟨rfl, rfl⟩) | (with_reducible refine (g2 _).mono ?_; rintro e w' ⟨rfl, rfl⟩) | (with_reducible refine (g3 _).mono ?_; rintro e w' ⟨rfl, rfl⟩))
      go_ret
      exact ⟨rfl, ((Below.refl _ _).alloc (Nat.le_refl _) _).alloc (by simp) _⟩

/-- The table of shapes, and the table of ops, lie in memory. -/
structure RvTab (w : World) : Prop where
  sh : ∀ s j : Nat, s < 8 → j < 19 → w.cell? ⟨1, s * 19 + j, none⟩ = some (.int .i64 (shF s j))
  pt : ∀ i : Nat, i < 30 → w.cell? ⟨0, i * 2, none⟩ = some (.int .i64 (shOf i)) ∧ w.cell? ⟨0, i * 2 + 1, none⟩ = some (.int .i64 (setOf i))
theorem RvTab.lts {w : World} (h : RvTab w) : 1 < w.heap.size := World.block_lt_of_cell? _ _ (h.sh 0 0 (by omega) (by omega))
theorem RvTab.ltp {w : World} (h : RvTab w) : 0 < w.heap.size := World.block_lt_of_cell? _ _ (h.pt 0 (by omega)).1
theorem RvTab.below {w w' : World} (h : RvTab w) (hb : Below w.heap.size w w') : RvTab w' :=
  ⟨fun s j hs hj => (hb.cell (p := ⟨1, s * 19 + j, none⟩) h.lts).trans (h.sh s j hs hj),
   fun i hi => ⟨(hb.cell (p := ⟨0, i * 2, none⟩) h.ltp).trans (h.pt i hi).1, (hb.cell (p := ⟨0, i * 2 + 1, none⟩) h.ltp).trans (h.pt i hi).2⟩⟩

/-- A shape as a value. -/
def shC (s : Nat) : List Value := (List.range 19).map fun j => .int .i64 (shF s j)
theorem shC_eq (s : Nat) : shC s = [.int .i64 (shF s 0), .int .i64 (shF s 1), .int .i64 (shF s 2), .int .i64 (shF s 3), .int .i64 (shF s 4), .int .i64 (shF s 5), .int .i64 (shF s 6), .int .i64 (shF s 7), .int .i64 (shF s 8), .int .i64 (shF s 9), .int .i64 (shF s 10), .int .i64 (shF s 11), .int .i64 (shF s 12), .int .i64 (shF s 13), .int .i64 (shF s 14), .int .i64 (shF s 15), .int .i64 (shF s 16), .int .i64 (shF s 17), .int .i64 (shF s 18)] := rfl
theorem RvTab.range {w : World} (h : RvTab w) (s : Nat) (hs : s < 8) : w.rangeAt 1 (s * 19) (shC s) := by
  intro j u hu
  have hj : j < 19 := by have := (List.getElem?_eq_some_iff.1 hu).1; simpa [shC] using this
  have e : u = .int .i64 (shF s j) := by simpa [shC, hj] using hu.symm
  rw [e]
  exact h.sh s j hs hj
theorem shF5 (s : Nat) (h : s < 8) : shF s 5 = 1 ∨ shF s 5 = 4 := by
  rcases eight s h with rfl | rfl | rfl | rfl | rfl | rfl | rfl | rfl <;> decide
theorem fits_shape (x : Mi) (s : Nat) (hs : s < 8) (w : World) : Calls Tryd.prog 40 #[x.val, .agg (shC s).toArray] w fun e w' => e = .returned (.bool (fitsB s x)) ∧ Below w.heap.size w w' :=
  fits_any x _ _ _ _ _ _ _ _ _ _ _ _ _ _ _ _ _ _ _ (shF5 s hs) w
end Go.Proofs.YtapjfiihfgndeaaDoor
