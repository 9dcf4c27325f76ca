/- Contracts of the document's answer to P11.1 (package tierlineref; written by gen/mkrvref.py): In, shapeOf, RvFault. No condition. -/
import Derived.Test.YtndogdojcbcjgaaDoorXRvKeep
namespace Go.Proofs.YtndogdojcbcjgaaDoor
open Go Go.RowKit

set_option maxRecDepth 100000 in
theorem inR_any (n least most : Int) (w : World) :
    Calls Tryd.prog 48 #[.int .i64 n, .int .i64 least, .int .i64 most] w fun e w' => e = .returned (.bool (decide (least ≤ n ∧ n ≤ most))) ∧ w' = w := by
  by_cases h0 : least ≤ n
  · by_cases h1 : n ≤ most
    · have e : decide (least ≤ n ∧ n ≤ most) = true := by simp [h0, h1]
      rw [e]; clear e
      go_enter Tryd.func48, Tryd.ntmps48
      go_wp2
      go_ret
      exact ⟨rfl, rfl⟩
    · have e : decide (least ≤ n ∧ n ≤ most) = false := by simp [h1]
      rw [e]; clear e
      go_enter Tryd.func48, Tryd.ntmps48
      go_wp2
      go_ret
      exact ⟨rfl, rfl⟩
  · have e : decide (least ≤ n ∧ n ≤ most) = false := by simp [h0]
    rw [e]; clear e
    go_enter Tryd.func48, Tryd.ntmps48
    go_wp2
    go_ret
    exact ⟨rfl, rfl⟩
theorem inR_t (n least most : Int) (h : least ≤ n ∧ n ≤ most) (w : World) : Calls Tryd.prog 48 #[.int .i64 n, .int .i64 least, .int .i64 most] w fun e w' => e = .returned (.bool true) ∧ w' = w := by
  have := inR_any n least most w
  rwa [decide_eq_true h] at this
theorem inR_f (n least most : Int) (h : ¬ (least ≤ n ∧ n ≤ most)) (w : World) : Calls Tryd.prog 48 #[.int .i64 n, .int .i64 least, .int .i64 most] w fun e w' => e = .returned (.bool false) ∧ w' = w := by
  have := inR_any n least most w
  rwa [decide_eq_false h] at this

set_option maxRecDepth 100000 in
theorem shapeOf_any (k : Nat) (h0 : 1 ≤ k) (h1 : k ≤ 29) (w : World) :
    Calls Tryd.prog 140 #[.int .i64 k] w fun e w' => e = .returned (.int .i64 (shOf k)) ∧ w' = w := by
  rcases shape_cases k h0 h1 with ⟨hka, hs⟩ | ⟨rfl, hs⟩ | ⟨rfl, hs⟩ | ⟨hka, hkb, hs⟩ | ⟨rfl, hs⟩ | ⟨rfl, hs⟩ | ⟨rfl, hs⟩ | ⟨hka, hkb, hs⟩ | ⟨rfl, hs⟩ | ⟨rfl, hs⟩ | ⟨rfl, hs⟩
  · rw [hs]
    clear hs
    have kk : (k : Int) ≤ 11 := by omega
    go_enter Tryd.func140, Tryd.ntmps140
    go_wp2
    go_ret
    exact ⟨rfl, rfl⟩
  · rw [hs]
    clear hs
    go_enter Tryd.func140, Tryd.ntmps140
    go_wp2
    go_ret
    exact ⟨rfl, rfl⟩
  · rw [hs]
    clear hs
    go_enter Tryd.func140, Tryd.ntmps140
    go_wp2
    go_ret
    exact ⟨rfl, rfl⟩
  · rw [hs]
    clear hs
    have k18 : ((k : Int) == 18) = false := by rw [beq_eq_false_iff_ne]; omega
    have k19 : ((k : Int) == 19) = false := by rw [beq_eq_false_iff_ne]; omega
    have k11 : ¬ (k : Int) ≤ 11 := by omega
    have kk : (k : Int) ≤ 20 := by omega
    go_enter Tryd.func140, Tryd.ntmps140
    go_wp2
    go_ret
    exact ⟨rfl, rfl⟩
  · rw [hs]
    clear hs
    go_enter Tryd.func140, Tryd.ntmps140
    go_wp2
    go_ret
    exact ⟨rfl, rfl⟩
  · rw [hs]
    clear hs
    go_enter Tryd.func140, Tryd.ntmps140
    go_wp2
    go_ret
    exact ⟨rfl, rfl⟩
  · rw [hs]
    clear hs
    go_enter Tryd.func140, Tryd.ntmps140
    go_wp2
    go_ret
    exact ⟨rfl, rfl⟩
  · rw [hs]
    clear hs
    have k18 : ((k : Int) == 18) = false := by rw [beq_eq_false_iff_ne]; omega
    have k19 : ((k : Int) == 19) = false := by rw [beq_eq_false_iff_ne]; omega
    have k27 : ((k : Int) == 27) = false := by rw [beq_eq_false_iff_ne]; omega
    have k21 : ((k : Int) == 21) = false := by rw [beq_eq_false_iff_ne]; omega
    have k11 : ¬ (k : Int) ≤ 11 := by omega
    have k20 : ¬ (k : Int) ≤ 20 := by omega
    have kk : (k : Int) ≤ 25 := by omega
    go_enter Tryd.func140, Tryd.ntmps140
    go_wp2
    go_ret
    exact ⟨rfl, rfl⟩
  · rw [hs]
    clear hs
    go_enter Tryd.func140, Tryd.ntmps140
    go_wp2
    go_ret
    exact ⟨rfl, rfl⟩
  · rw [hs]
    clear hs
    go_enter Tryd.func140, Tryd.ntmps140
    go_wp2
    go_ret
    exact ⟨rfl, rfl⟩
  · rw [hs]
    clear hs
    go_enter Tryd.func140, Tryd.ntmps140
    go_wp2
    go_ret
    exact ⟨rfl, rfl⟩

set_option maxRecDepth 100000 in
set_option maxHeartbeats 4000000 in
theorem fault0 (k : Nat) (rd rs1 rs2 imm : Int) (h0 : 1 ≤ k) (h1 : k ≤ 29) (hs : shOf k = 0) (w : World) :
    Calls Tryd.prog 162 #[.agg #[.int .i64 k, .int .i64 rd, .int .i64 rs1, .int .i64 rs2, .int .i64 imm]] w fun e w' => e = .returned (.int .i64 (if fitsB 0 ⟨k, rd, rs1, rs2, imm⟩ = true then 0 else 2)) ∧ Below w.heap.size w w' := by
  have g := inR_t k 1 29 (by omega)
  have gs := shapeOf_any k h0 h1
  rw [hs] at gs
  have hfi := fits_iff 0 ⟨k, rd, rs1, rs2, imm⟩
  simp [shF, shL] at hfi
  have HB : Hid (∀ o, Below w.heap.size w (w.alloc o)) := fun o => (Below.refl _ _).alloc (Nat.le_refl _) _
  clear hs
  by_cases c0 : 0 ≤ rd ∧ rd ≤ 31
  case neg =>
    have e : fitsB 0 ⟨k, rd, rs1, rs2, imm⟩ = false := by rw [Bool.eq_false_iff]; intro hh; have := hfi.1 hh; omega
    rw [e]; simp only [Bool.false_eq_true, if_false]
    have g0 := inR_f rd 0 31 c0
    clear e hfi c0
    go_enter Tryd.func162, Tryd.ntmps162
    go_wp2_with (first | (go_at_call 140; refine (gs _).mono ?_; rintro e w' ⟨rfl, rfl⟩) | (go_at_call 48; first | (with_reducible refine (g _).mono ?_; rintro e w' ⟨rfl, rfl⟩) | (with_reducible refine (g0 _).mono ?_; rintro e w' ⟨rfl, rfl⟩)))
    go_ret
    exact ⟨rfl, HB.out _⟩
  have g0 := inR_t rd 0 31 c0
  by_cases c1 : 0 ≤ rs1 ∧ rs1 ≤ 31
  case neg =>
    have e : fitsB 0 ⟨k, rd, rs1, rs2, imm⟩ = false := by rw [Bool.eq_false_iff]; intro hh; have := hfi.1 hh; omega
    rw [e]; simp only [Bool.false_eq_true, if_false]
    have g1 := inR_f rs1 0 31 c1
    clear e hfi c0 c1
    go_enter Tryd.func162, Tryd.ntmps162
    go_wp2_with (first | (go_at_call 140; refine (gs _).mono ?_; rintro e w' ⟨rfl, rfl⟩) | (go_at_call 48; first | (with_reducible refine (g _).mono ?_; rintro e w' ⟨rfl, rfl⟩) | (with_reducible refine (g0 _).mono ?_; rintro e w' ⟨rfl, rfl⟩) | (with_reducible refine (g1 _).mono ?_; rintro e w' ⟨rfl, rfl⟩)))
    go_ret
    exact ⟨rfl, HB.out _⟩
  have g1 := inR_t rs1 0 31 c1
  by_cases c2 : 0 ≤ rs2 ∧ rs2 ≤ 31
  case neg =>
    have e : fitsB 0 ⟨k, rd, rs1, rs2, imm⟩ = false := by rw [Bool.eq_false_iff]; intro hh; have := hfi.1 hh; omega
    rw [e]; simp only [Bool.false_eq_true, if_false]
    have g2 := inR_f rs2 0 31 c2
    clear e hfi c0 c1 c2
    go_enter Tryd.func162, Tryd.ntmps162
    go_wp2_with (first | (go_at_call 140; refine (gs _).mono ?_; rintro e w' ⟨rfl, rfl⟩) | (go_at_call 48; first | (with_reducible refine (g _).mono ?_; rintro e w' ⟨rfl, rfl⟩) | (with_reducible refine (g0 _).mono ?_; rintro e w' ⟨rfl, rfl⟩) | (with_reducible refine (g1 _).mono ?_; rintro e w' ⟨rfl, rfl⟩) | (with_reducible refine (g2 _).mono ?_; rintro e w' ⟨rfl, rfl⟩)))
    go_ret
    exact ⟨rfl, HB.out _⟩
  have g2 := inR_t rs2 0 31 c2
  by_cases c3 : imm = 0
  · subst c3
    have e : fitsB 0 ⟨k, rd, rs1, rs2, 0⟩ = true := hfi.2 (by omega)
    rw [e]; simp only [if_true]
    clear e hfi c0 c1 c2 
    go_enter Tryd.func162, Tryd.ntmps162
    go_wp2_with (first | (go_at_call 140; refine (gs _).mono ?_; rintro e w' ⟨rfl, rfl⟩) | (go_at_call 48; first | (with_reducible refine (g _).mono ?_; rintro e w' ⟨rfl, rfl⟩) | (with_reducible refine (g0 _).mono ?_; rintro e w' ⟨rfl, rfl⟩) | (with_reducible refine (g1 _).mono ?_; rintro e w' ⟨rfl, rfl⟩) | (with_reducible refine (g2 _).mono ?_; rintro e w' ⟨rfl, rfl⟩)))
    go_ret
    exact ⟨rfl, HB.out _⟩
  · have e : fitsB 0 ⟨k, rd, rs1, rs2, imm⟩ = false := by rw [Bool.eq_false_iff]; intro hh; have hh := hfi.1 hh; omega
    rw [e]; simp only [Bool.false_eq_true, if_false]
    have cb : (imm == 0) = false := by rw [beq_eq_false_iff_ne]; exact c3
    clear e hfi c0 c1 c2 c3
    go_enter Tryd.func162, Tryd.ntmps162
    go_wp2_with (first | (go_at_call 140; refine (gs _).mono ?_; rintro e w' ⟨rfl, rfl⟩) | (go_at_call 48; first | (with_reducible refine (g _).mono ?_; rintro e w' ⟨rfl, rfl⟩) | (with_reducible refine (g0 _).mono ?_; rintro e w' ⟨rfl, rfl⟩) | (with_reducible refine (g1 _).mono ?_; rintro e w' ⟨rfl, rfl⟩) | (with_reducible refine (g2 _).mono ?_; rintro e w' ⟨rfl, rfl⟩)))
    go_ret
    exact ⟨rfl, HB.out _⟩

set_option maxRecDepth 100000 in
set_option maxHeartbeats 4000000 in
theorem fault1 (k : Nat) (rd rs1 rs2 imm : Int) (h0 : 1 ≤ k) (h1 : k ≤ 29) (hs : shOf k = 1) (w : World) :
    Calls Tryd.prog 162 #[.agg #[.int .i64 k, .int .i64 rd, .int .i64 rs1, .int .i64 rs2, .int .i64 imm]] w fun e w' => e = .returned (.int .i64 (if fitsB 1 ⟨k, rd, rs1, rs2, imm⟩ = true then 0 else 2)) ∧ Below w.heap.size w w' := by
  have g := inR_t k 1 29 (by omega)
  have gs := shapeOf_any k h0 h1
  rw [hs] at gs
  have hfi := fits_iff 1 ⟨k, rd, rs1, rs2, imm⟩
  simp [shF, shL] at hfi
  have HB : Hid (∀ o, Below w.heap.size w (w.alloc o)) := fun o => (Below.refl _ _).alloc (Nat.le_refl _) _
  clear hs
  by_cases c0 : 0 ≤ rd ∧ rd ≤ 31
  case neg =>
    have e : fitsB 1 ⟨k, rd, rs1, rs2, imm⟩ = false := by rw [Bool.eq_false_iff]; intro hh; have := hfi.1 hh; omega
    rw [e]; simp only [Bool.false_eq_true, if_false]
    have g0 := inR_f rd 0 31 c0
    clear e hfi c0
    go_enter Tryd.func162, Tryd.ntmps162
    go_wp2_with (first | (go_at_call 140; refine (gs _).mono ?_; rintro e w' ⟨rfl, rfl⟩) | (go_at_call 48; first | (with_reducible refine (g _).mono ?_; rintro e w' ⟨rfl, rfl⟩) | (with_reducible refine (g0 _).mono ?_; rintro e w' ⟨rfl, rfl⟩)))
    go_ret
    exact ⟨rfl, HB.out _⟩
  have g0 := inR_t rd 0 31 c0
  by_cases c1 : 0 ≤ rs1 ∧ rs1 ≤ 31
  case neg =>
    have e : fitsB 1 ⟨k, rd, rs1, rs2, imm⟩ = false := by rw [Bool.eq_false_iff]; intro hh; have := hfi.1 hh; omega
    rw [e]; simp only [Bool.false_eq_true, if_false]
    have g1 := inR_f rs1 0 31 c1
    clear e hfi c0 c1
    go_enter Tryd.func162, Tryd.ntmps162
    go_wp2_with (first | (go_at_call 140; refine (gs _).mono ?_; rintro e w' ⟨rfl, rfl⟩) | (go_at_call 48; first | (with_reducible refine (g _).mono ?_; rintro e w' ⟨rfl, rfl⟩) | (with_reducible refine (g0 _).mono ?_; rintro e w' ⟨rfl, rfl⟩) | (with_reducible refine (g1 _).mono ?_; rintro e w' ⟨rfl, rfl⟩)))
    go_ret
    exact ⟨rfl, HB.out _⟩
  have g1 := inR_t rs1 0 31 c1
  by_cases c2 : 0 ≤ rs2 ∧ rs2 ≤ 0
  case neg =>
    have e : fitsB 1 ⟨k, rd, rs1, rs2, imm⟩ = false := by rw [Bool.eq_false_iff]; intro hh; have := hfi.1 hh; omega
    rw [e]; simp only [Bool.false_eq_true, if_false]
    have g2 := inR_f rs2 0 0 c2
    clear e hfi c0 c1 c2
    go_enter Tryd.func162, Tryd.ntmps162
    go_wp2_with (first | (go_at_call 140; refine (gs _).mono ?_; rintro e w' ⟨rfl, rfl⟩) | (go_at_call 48; first | (with_reducible refine (g _).mono ?_; rintro e w' ⟨rfl, rfl⟩) | (with_reducible refine (g0 _).mono ?_; rintro e w' ⟨rfl, rfl⟩) | (with_reducible refine (g1 _).mono ?_; rintro e w' ⟨rfl, rfl⟩) | (with_reducible refine (g2 _).mono ?_; rintro e w' ⟨rfl, rfl⟩)))
    go_ret
    exact ⟨rfl, HB.out _⟩
  have g2 := inR_t rs2 0 0 c2
  by_cases c3 : -2048 ≤ imm ∧ imm ≤ 2047
  case neg =>
    have e : fitsB 1 ⟨k, rd, rs1, rs2, imm⟩ = false := by rw [Bool.eq_false_iff]; intro hh; have hh := hfi.1 hh; omega
    rw [e]; simp only [Bool.false_eq_true, if_false]
    have g3 := inR_f imm (-2048) 2047 c3
    clear e hfi c0 c1 c2 c3
    go_enter Tryd.func162, Tryd.ntmps162
    go_wp2_with (first | (go_at_call 140; refine (gs _).mono ?_; rintro e w' ⟨rfl, rfl⟩) | (go_at_call 48; first | (with_reducible refine (g _).mono ?_; rintro e w' ⟨rfl, rfl⟩) | (with_reducible refine (g0 _).mono ?_; rintro e w' ⟨rfl, rfl⟩) | (with_reducible refine (g1 _).mono ?_; rintro e w' ⟨rfl, rfl⟩) | (with_reducible refine (g2 _).mono ?_; rintro e w' ⟨rfl, rfl⟩) | (with_reducible refine (g3 _).mono ?_; rintro e w' ⟨rfl, rfl⟩)))
    go_ret
    exact ⟨rfl, HB.out _⟩
  have e : fitsB 1 ⟨k, rd, rs1, rs2, imm⟩ = true := hfi.2 (by omega)
  rw [e]; simp only [if_true]
  have g3 := inR_t imm (-2048) 2047 c3
  clear e hfi c0 c1 c2 c3
  go_enter Tryd.func162, Tryd.ntmps162
  go_wp2_with (first | (go_at_call 140; refine (gs _).mono ?_; rintro e w' ⟨rfl, rfl⟩) | (go_at_call 48; first | (with_reducible refine (g _).mono ?_; rintro e w' ⟨rfl, rfl⟩) | (with_reducible refine (g0 _).mono ?_; rintro e w' ⟨rfl, rfl⟩) | (with_reducible refine (g1 _).mono ?_; rintro e w' ⟨rfl, rfl⟩) | (with_reducible refine (g2 _).mono ?_; rintro e w' ⟨rfl, rfl⟩) | (with_reducible refine (g3 _).mono ?_; rintro e w' ⟨rfl, rfl⟩)))
  go_ret
  exact ⟨rfl, HB.out _⟩

set_option maxRecDepth 100000 in
set_option maxHeartbeats 4000000 in
theorem fault2 (k : Nat) (rd rs1 rs2 imm : Int) (h0 : 1 ≤ k) (h1 : k ≤ 29) (hs : shOf k = 2) (w : World) :
    Calls Tryd.prog 162 #[.agg #[.int .i64 k, .int .i64 rd, .int .i64 rs1, .int .i64 rs2, .int .i64 imm]] w fun e w' => e = .returned (.int .i64 (if fitsB 2 ⟨k, rd, rs1, rs2, imm⟩ = true then 0 else 2)) ∧ Below w.heap.size w w' := by
  have g := inR_t k 1 29 (by omega)
  have gs := shapeOf_any k h0 h1
  rw [hs] at gs
  have hfi := fits_iff 2 ⟨k, rd, rs1, rs2, imm⟩
  simp [shF, shL] at hfi
  have HB : Hid (∀ o, Below w.heap.size w (w.alloc o)) := fun o => (Below.refl _ _).alloc (Nat.le_refl _) _
  clear hs
  by_cases c0 : 0 ≤ rd ∧ rd ≤ 31
  case neg =>
    have e : fitsB 2 ⟨k, rd, rs1, rs2, imm⟩ = false := by rw [Bool.eq_false_iff]; intro hh; have := hfi.1 hh; omega
    rw [e]; simp only [Bool.false_eq_true, if_false]
    have g0 := inR_f rd 0 31 c0
    clear e hfi c0
    go_enter Tryd.func162, Tryd.ntmps162
    go_wp2_with (first | (go_at_call 140; refine (gs _).mono ?_; rintro e w' ⟨rfl, rfl⟩) | (go_at_call 48; first | (with_reducible refine (g _).mono ?_; rintro e w' ⟨rfl, rfl⟩) | (with_reducible refine (g0 _).mono ?_; rintro e w' ⟨rfl, rfl⟩)))
    go_ret
    exact ⟨rfl, HB.out _⟩
  have g0 := inR_t rd 0 31 c0
  by_cases c1 : 0 ≤ rs1 ∧ rs1 ≤ 31
  case neg =>
    have e : fitsB 2 ⟨k, rd, rs1, rs2, imm⟩ = false := by rw [Bool.eq_false_iff]; intro hh; have := hfi.1 hh; omega
    rw [e]; simp only [Bool.false_eq_true, if_false]
    have g1 := inR_f rs1 0 31 c1
    clear e hfi c0 c1
    go_enter Tryd.func162, Tryd.ntmps162
    go_wp2_with (first | (go_at_call 140; refine (gs _).mono ?_; rintro e w' ⟨rfl, rfl⟩) | (go_at_call 48; first | (with_reducible refine (g _).mono ?_; rintro e w' ⟨rfl, rfl⟩) | (with_reducible refine (g0 _).mono ?_; rintro e w' ⟨rfl, rfl⟩) | (with_reducible refine (g1 _).mono ?_; rintro e w' ⟨rfl, rfl⟩)))
    go_ret
    exact ⟨rfl, HB.out _⟩
  have g1 := inR_t rs1 0 31 c1
  by_cases c2 : 0 ≤ rs2 ∧ rs2 ≤ 0
  case neg =>
    have e : fitsB 2 ⟨k, rd, rs1, rs2, imm⟩ = false := by rw [Bool.eq_false_iff]; intro hh; have := hfi.1 hh; omega
    rw [e]; simp only [Bool.false_eq_true, if_false]
    have g2 := inR_f rs2 0 0 c2
    clear e hfi c0 c1 c2
    go_enter Tryd.func162, Tryd.ntmps162
    go_wp2_with (first | (go_at_call 140; refine (gs _).mono ?_; rintro e w' ⟨rfl, rfl⟩) | (go_at_call 48; first | (with_reducible refine (g _).mono ?_; rintro e w' ⟨rfl, rfl⟩) | (with_reducible refine (g0 _).mono ?_; rintro e w' ⟨rfl, rfl⟩) | (with_reducible refine (g1 _).mono ?_; rintro e w' ⟨rfl, rfl⟩) | (with_reducible refine (g2 _).mono ?_; rintro e w' ⟨rfl, rfl⟩)))
    go_ret
    exact ⟨rfl, HB.out _⟩
  have g2 := inR_t rs2 0 0 c2
  by_cases c3 : 0 ≤ imm ∧ imm ≤ 63
  case neg =>
    have e : fitsB 2 ⟨k, rd, rs1, rs2, imm⟩ = false := by rw [Bool.eq_false_iff]; intro hh; have hh := hfi.1 hh; omega
    rw [e]; simp only [Bool.false_eq_true, if_false]
    have g3 := inR_f imm 0 63 c3
    clear e hfi c0 c1 c2 c3
    go_enter Tryd.func162, Tryd.ntmps162
    go_wp2_with (first | (go_at_call 140; refine (gs _).mono ?_; rintro e w' ⟨rfl, rfl⟩) | (go_at_call 48; first | (with_reducible refine (g _).mono ?_; rintro e w' ⟨rfl, rfl⟩) | (with_reducible refine (g0 _).mono ?_; rintro e w' ⟨rfl, rfl⟩) | (with_reducible refine (g1 _).mono ?_; rintro e w' ⟨rfl, rfl⟩) | (with_reducible refine (g2 _).mono ?_; rintro e w' ⟨rfl, rfl⟩) | (with_reducible refine (g3 _).mono ?_; rintro e w' ⟨rfl, rfl⟩)))
    go_ret
    exact ⟨rfl, HB.out _⟩
  have e : fitsB 2 ⟨k, rd, rs1, rs2, imm⟩ = true := hfi.2 (by omega)
  rw [e]; simp only [if_true]
  have g3 := inR_t imm 0 63 c3
  clear e hfi c0 c1 c2 c3
  go_enter Tryd.func162, Tryd.ntmps162
  go_wp2_with (first | (go_at_call 140; refine (gs _).mono ?_; rintro e w' ⟨rfl, rfl⟩) | (go_at_call 48; first | (with_reducible refine (g _).mono ?_; rintro e w' ⟨rfl, rfl⟩) | (with_reducible refine (g0 _).mono ?_; rintro e w' ⟨rfl, rfl⟩) | (with_reducible refine (g1 _).mono ?_; rintro e w' ⟨rfl, rfl⟩) | (with_reducible refine (g2 _).mono ?_; rintro e w' ⟨rfl, rfl⟩) | (with_reducible refine (g3 _).mono ?_; rintro e w' ⟨rfl, rfl⟩)))
  go_ret
  exact ⟨rfl, HB.out _⟩

set_option maxRecDepth 100000 in
set_option maxHeartbeats 4000000 in
theorem fault3 (k : Nat) (rd rs1 rs2 imm : Int) (h0 : 1 ≤ k) (h1 : k ≤ 29) (hs : shOf k = 3) (w : World) :
    Calls Tryd.prog 162 #[.agg #[.int .i64 k, .int .i64 rd, .int .i64 rs1, .int .i64 rs2, .int .i64 imm]] w fun e w' => e = .returned (.int .i64 (if fitsB 3 ⟨k, rd, rs1, rs2, imm⟩ = true then 0 else 2)) ∧ Below w.heap.size w w' := by
  have g := inR_t k 1 29 (by omega)
  have gs := shapeOf_any k h0 h1
  rw [hs] at gs
  have hfi := fits_iff 3 ⟨k, rd, rs1, rs2, imm⟩
  simp [shF, shL] at hfi
  have HB : Hid (∀ o, Below w.heap.size w (w.alloc o)) := fun o => (Below.refl _ _).alloc (Nat.le_refl _) _
  clear hs
  by_cases c0 : 0 ≤ rd ∧ rd ≤ 0
  case neg =>
    have e : fitsB 3 ⟨k, rd, rs1, rs2, imm⟩ = false := by rw [Bool.eq_false_iff]; intro hh; have := hfi.1 hh; omega
    rw [e]; simp only [Bool.false_eq_true, if_false]
    have g0 := inR_f rd 0 0 c0
    clear e hfi c0
    go_enter Tryd.func162, Tryd.ntmps162
    go_wp2_with (first | (go_at_call 140; refine (gs _).mono ?_; rintro e w' ⟨rfl, rfl⟩) | (go_at_call 48; first | (with_reducible refine (g _).mono ?_; rintro e w' ⟨rfl, rfl⟩) | (with_reducible refine (g0 _).mono ?_; rintro e w' ⟨rfl, rfl⟩)))
    go_ret
    exact ⟨rfl, HB.out _⟩
  have g0 := inR_t rd 0 0 c0
  by_cases c1 : 0 ≤ rs1 ∧ rs1 ≤ 31
  case neg =>
    have e : fitsB 3 ⟨k, rd, rs1, rs2, imm⟩ = false := by rw [Bool.eq_false_iff]; intro hh; have := hfi.1 hh; omega
    rw [e]; simp only [Bool.false_eq_true, if_false]
    have g1 := inR_f rs1 0 31 c1
    clear e hfi c0 c1
    go_enter Tryd.func162, Tryd.ntmps162
    go_wp2_with (first | (go_at_call 140; refine (gs _).mono ?_; rintro e w' ⟨rfl, rfl⟩) | (go_at_call 48; first | (with_reducible refine (g _).mono ?_; rintro e w' ⟨rfl, rfl⟩) | (with_reducible refine (g0 _).mono ?_; rintro e w' ⟨rfl, rfl⟩) | (with_reducible refine (g1 _).mono ?_; rintro e w' ⟨rfl, rfl⟩)))
    go_ret
    exact ⟨rfl, HB.out _⟩
  have g1 := inR_t rs1 0 31 c1
  by_cases c2 : 0 ≤ rs2 ∧ rs2 ≤ 31
  case neg =>
    have e : fitsB 3 ⟨k, rd, rs1, rs2, imm⟩ = false := by rw [Bool.eq_false_iff]; intro hh; have := hfi.1 hh; omega
    rw [e]; simp only [Bool.false_eq_true, if_false]
    have g2 := inR_f rs2 0 31 c2
    clear e hfi c0 c1 c2
    go_enter Tryd.func162, Tryd.ntmps162
    go_wp2_with (first | (go_at_call 140; refine (gs _).mono ?_; rintro e w' ⟨rfl, rfl⟩) | (go_at_call 48; first | (with_reducible refine (g _).mono ?_; rintro e w' ⟨rfl, rfl⟩) | (with_reducible refine (g0 _).mono ?_; rintro e w' ⟨rfl, rfl⟩) | (with_reducible refine (g1 _).mono ?_; rintro e w' ⟨rfl, rfl⟩) | (with_reducible refine (g2 _).mono ?_; rintro e w' ⟨rfl, rfl⟩)))
    go_ret
    exact ⟨rfl, HB.out _⟩
  have g2 := inR_t rs2 0 31 c2
  by_cases c3 : -2048 ≤ imm ∧ imm ≤ 2047
  case neg =>
    have e : fitsB 3 ⟨k, rd, rs1, rs2, imm⟩ = false := by rw [Bool.eq_false_iff]; intro hh; have hh := hfi.1 hh; omega
    rw [e]; simp only [Bool.false_eq_true, if_false]
    have g3 := inR_f imm (-2048) 2047 c3
    clear e hfi c0 c1 c2 c3
    go_enter Tryd.func162, Tryd.ntmps162
    go_wp2_with (first | (go_at_call 140; refine (gs _).mono ?_; rintro e w' ⟨rfl, rfl⟩) | (go_at_call 48; first | (with_reducible refine (g _).mono ?_; rintro e w' ⟨rfl, rfl⟩) | (with_reducible refine (g0 _).mono ?_; rintro e w' ⟨rfl, rfl⟩) | (with_reducible refine (g1 _).mono ?_; rintro e w' ⟨rfl, rfl⟩) | (with_reducible refine (g2 _).mono ?_; rintro e w' ⟨rfl, rfl⟩) | (with_reducible refine (g3 _).mono ?_; rintro e w' ⟨rfl, rfl⟩)))
    go_ret
    exact ⟨rfl, HB.out _⟩
  have e : fitsB 3 ⟨k, rd, rs1, rs2, imm⟩ = true := hfi.2 (by omega)
  rw [e]; simp only [if_true]
  have g3 := inR_t imm (-2048) 2047 c3
  clear e hfi c0 c1 c2 c3
  go_enter Tryd.func162, Tryd.ntmps162
  go_wp2_with (first | (go_at_call 140; refine (gs _).mono ?_; rintro e w' ⟨rfl, rfl⟩) | (go_at_call 48; first | (with_reducible refine (g _).mono ?_; rintro e w' ⟨rfl, rfl⟩) | (with_reducible refine (g0 _).mono ?_; rintro e w' ⟨rfl, rfl⟩) | (with_reducible refine (g1 _).mono ?_; rintro e w' ⟨rfl, rfl⟩) | (with_reducible refine (g2 _).mono ?_; rintro e w' ⟨rfl, rfl⟩) | (with_reducible refine (g3 _).mono ?_; rintro e w' ⟨rfl, rfl⟩)))
  go_ret
  exact ⟨rfl, HB.out _⟩

set_option maxRecDepth 100000 in
set_option maxHeartbeats 4000000 in
theorem fault4 (k : Nat) (rd rs1 rs2 imm : Int) (h0 : 1 ≤ k) (h1 : k ≤ 29) (hs : shOf k = 4) (w : World) :
    Calls Tryd.prog 162 #[.agg #[.int .i64 k, .int .i64 rd, .int .i64 rs1, .int .i64 rs2, .int .i64 imm]] w fun e w' => e = .returned (.int .i64 (if fitsB 4 ⟨k, rd, rs1, rs2, imm⟩ = true then 0 else 2)) ∧ Below w.heap.size w w' := by
  have g := inR_t k 1 29 (by omega)
  have gs := shapeOf_any k h0 h1
  rw [hs] at gs
  have hfi := fits_iff 4 ⟨k, rd, rs1, rs2, imm⟩
  simp [shF, shL] at hfi
  have HB : Hid (∀ o, Below w.heap.size w (w.alloc o)) := fun o => (Below.refl _ _).alloc (Nat.le_refl _) _
  clear hs
  by_cases c0 : 0 ≤ rd ∧ rd ≤ 0
  case neg =>
    have e : fitsB 4 ⟨k, rd, rs1, rs2, imm⟩ = false := by rw [Bool.eq_false_iff]; intro hh; have := hfi.1 hh; omega
    rw [e]; simp only [Bool.false_eq_true, if_false]
    have g0 := inR_f rd 0 0 c0
    clear e hfi c0
    go_enter Tryd.func162, Tryd.ntmps162
    go_wp2_with (first | (go_at_call 140; refine (gs _).mono ?_; rintro e w' ⟨rfl, rfl⟩) | (go_at_call 48; first | (with_reducible refine (g _).mono ?_; rintro e w' ⟨rfl, rfl⟩) | (with_reducible refine (g0 _).mono ?_; rintro e w' ⟨rfl, rfl⟩)))
    go_ret
    exact ⟨rfl, HB.out _⟩
  have g0 := inR_t rd 0 0 c0
  by_cases c1 : 0 ≤ rs1 ∧ rs1 ≤ 31
  case neg =>
    have e : fitsB 4 ⟨k, rd, rs1, rs2, imm⟩ = false := by rw [Bool.eq_false_iff]; intro hh; have := hfi.1 hh; omega
    rw [e]; simp only [Bool.false_eq_true, if_false]
    have g1 := inR_f rs1 0 31 c1
    clear e hfi c0 c1
    go_enter Tryd.func162, Tryd.ntmps162
    go_wp2_with (first | (go_at_call 140; refine (gs _).mono ?_; rintro e w' ⟨rfl, rfl⟩) | (go_at_call 48; first | (with_reducible refine (g _).mono ?_; rintro e w' ⟨rfl, rfl⟩) | (with_reducible refine (g0 _).mono ?_; rintro e w' ⟨rfl, rfl⟩) | (with_reducible refine (g1 _).mono ?_; rintro e w' ⟨rfl, rfl⟩)))
    go_ret
    exact ⟨rfl, HB.out _⟩
  have g1 := inR_t rs1 0 31 c1
  by_cases c2 : 0 ≤ rs2 ∧ rs2 ≤ 31
  case neg =>
    have e : fitsB 4 ⟨k, rd, rs1, rs2, imm⟩ = false := by rw [Bool.eq_false_iff]; intro hh; have := hfi.1 hh; omega
    rw [e]; simp only [Bool.false_eq_true, if_false]
    have g2 := inR_f rs2 0 31 c2
    clear e hfi c0 c1 c2
    go_enter Tryd.func162, Tryd.ntmps162
    go_wp2_with (first | (go_at_call 140; refine (gs _).mono ?_; rintro e w' ⟨rfl, rfl⟩) | (go_at_call 48; first | (with_reducible refine (g _).mono ?_; rintro e w' ⟨rfl, rfl⟩) | (with_reducible refine (g0 _).mono ?_; rintro e w' ⟨rfl, rfl⟩) | (with_reducible refine (g1 _).mono ?_; rintro e w' ⟨rfl, rfl⟩) | (with_reducible refine (g2 _).mono ?_; rintro e w' ⟨rfl, rfl⟩)))
    go_ret
    exact ⟨rfl, HB.out _⟩
  have g2 := inR_t rs2 0 31 c2
  by_cases c3 : -4096 ≤ imm ∧ imm ≤ 4095
  case neg =>
    have e : fitsB 4 ⟨k, rd, rs1, rs2, imm⟩ = false := by rw [Bool.eq_false_iff]; intro hh; have hh := hfi.1 hh; omega
    rw [e]; simp only [Bool.false_eq_true, if_false]
    have g3 := inR_f imm (-4096) 4095 c3
    clear e hfi c0 c1 c2 c3
    go_enter Tryd.func162, Tryd.ntmps162
    go_wp2_with (first | (go_at_call 140; refine (gs _).mono ?_; rintro e w' ⟨rfl, rfl⟩) | (go_at_call 48; first | (with_reducible refine (g _).mono ?_; rintro e w' ⟨rfl, rfl⟩) | (with_reducible refine (g0 _).mono ?_; rintro e w' ⟨rfl, rfl⟩) | (with_reducible refine (g1 _).mono ?_; rintro e w' ⟨rfl, rfl⟩) | (with_reducible refine (g2 _).mono ?_; rintro e w' ⟨rfl, rfl⟩) | (with_reducible refine (g3 _).mono ?_; rintro e w' ⟨rfl, rfl⟩)))
    go_ret
    exact ⟨rfl, HB.out _⟩
  by_cases c4 : imm.tmod 4 = 0
  · have e : fitsB 4 ⟨k, rd, rs1, rs2, imm⟩ = true := hfi.2 (by have := tmod4 _ c4; simp [c4]; omega)
    rw [e]; simp only [if_true]
    have g3 := inR_t imm (-4096) 4095 c3
    have cb : (imm.tmod 4 == 0) = true := beq_iff_eq.2 c4
    clear e hfi c0 c1 c2 c3 c4
    go_enter Tryd.func162, Tryd.ntmps162
    go_wp2_with (first | (go_at_call 140; refine (gs _).mono ?_; rintro e w' ⟨rfl, rfl⟩) | (go_at_call 48; first | (with_reducible refine (g _).mono ?_; rintro e w' ⟨rfl, rfl⟩) | (with_reducible refine (g0 _).mono ?_; rintro e w' ⟨rfl, rfl⟩) | (with_reducible refine (g1 _).mono ?_; rintro e w' ⟨rfl, rfl⟩) | (with_reducible refine (g2 _).mono ?_; rintro e w' ⟨rfl, rfl⟩) | (with_reducible refine (g3 _).mono ?_; rintro e w' ⟨rfl, rfl⟩)))
    go_ret
    exact ⟨rfl, HB.out _⟩
  · have e : fitsB 4 ⟨k, rd, rs1, rs2, imm⟩ = false := by rw [Bool.eq_false_iff]; intro hh; have hh := hfi.1 hh; exact c4 (by simp_all)
    rw [e]; simp only [Bool.false_eq_true, if_false]
    have g3 := inR_t imm (-4096) 4095 c3
    have cb : (imm.tmod 4 == 0) = false := beq_eq_false_iff_ne.2 c4
    clear e hfi c0 c1 c2 c3 c4
    go_enter Tryd.func162, Tryd.ntmps162
    go_wp2_with (first | (go_at_call 140; refine (gs _).mono ?_; rintro e w' ⟨rfl, rfl⟩) | (go_at_call 48; first | (with_reducible refine (g _).mono ?_; rintro e w' ⟨rfl, rfl⟩) | (with_reducible refine (g0 _).mono ?_; rintro e w' ⟨rfl, rfl⟩) | (with_reducible refine (g1 _).mono ?_; rintro e w' ⟨rfl, rfl⟩) | (with_reducible refine (g2 _).mono ?_; rintro e w' ⟨rfl, rfl⟩) | (with_reducible refine (g3 _).mono ?_; rintro e w' ⟨rfl, rfl⟩)))
    go_ret
    exact ⟨rfl, HB.out _⟩

set_option maxRecDepth 100000 in
set_option maxHeartbeats 4000000 in
theorem fault5 (k : Nat) (rd rs1 rs2 imm : Int) (h0 : 1 ≤ k) (h1 : k ≤ 29) (hs : shOf k = 5) (w : World) :
    Calls Tryd.prog 162 #[.agg #[.int .i64 k, .int .i64 rd, .int .i64 rs1, .int .i64 rs2, .int .i64 imm]] w fun e w' => e = .returned (.int .i64 (if fitsB 5 ⟨k, rd, rs1, rs2, imm⟩ = true then 0 else 2)) ∧ Below w.heap.size w w' := by
  have g := inR_t k 1 29 (by omega)
  have gs := shapeOf_any k h0 h1
  rw [hs] at gs
  have hfi := fits_iff 5 ⟨k, rd, rs1, rs2, imm⟩
  simp [shF, shL] at hfi
  have HB : Hid (∀ o, Below w.heap.size w (w.alloc o)) := fun o => (Below.refl _ _).alloc (Nat.le_refl _) _
  clear hs
  by_cases c0 : 0 ≤ rd ∧ rd ≤ 31
  case neg =>
    have e : fitsB 5 ⟨k, rd, rs1, rs2, imm⟩ = false := by rw [Bool.eq_false_iff]; intro hh; have := hfi.1 hh; omega
    rw [e]; simp only [Bool.false_eq_true, if_false]
    have g0 := inR_f rd 0 31 c0
    clear e hfi c0
    go_enter Tryd.func162, Tryd.ntmps162
    go_wp2_with (first | (go_at_call 140; refine (gs _).mono ?_; rintro e w' ⟨rfl, rfl⟩) | (go_at_call 48; first | (with_reducible refine (g _).mono ?_; rintro e w' ⟨rfl, rfl⟩) | (with_reducible refine (g0 _).mono ?_; rintro e w' ⟨rfl, rfl⟩)))
    go_ret
    exact ⟨rfl, HB.out _⟩
  have g0 := inR_t rd 0 31 c0
  by_cases c1 : 0 ≤ rs1 ∧ rs1 ≤ 0
  case neg =>
    have e : fitsB 5 ⟨k, rd, rs1, rs2, imm⟩ = false := by rw [Bool.eq_false_iff]; intro hh; have := hfi.1 hh; omega
    rw [e]; simp only [Bool.false_eq_true, if_false]
    have g1 := inR_f rs1 0 0 c1
    clear e hfi c0 c1
    go_enter Tryd.func162, Tryd.ntmps162
    go_wp2_with (first | (go_at_call 140; refine (gs _).mono ?_; rintro e w' ⟨rfl, rfl⟩) | (go_at_call 48; first | (with_reducible refine (g _).mono ?_; rintro e w' ⟨rfl, rfl⟩) | (with_reducible refine (g0 _).mono ?_; rintro e w' ⟨rfl, rfl⟩) | (with_reducible refine (g1 _).mono ?_; rintro e w' ⟨rfl, rfl⟩)))
    go_ret
    exact ⟨rfl, HB.out _⟩
  have g1 := inR_t rs1 0 0 c1
  by_cases c2 : 0 ≤ rs2 ∧ rs2 ≤ 0
  case neg =>
    have e : fitsB 5 ⟨k, rd, rs1, rs2, imm⟩ = false := by rw [Bool.eq_false_iff]; intro hh; have := hfi.1 hh; omega
    rw [e]; simp only [Bool.false_eq_true, if_false]
    have g2 := inR_f rs2 0 0 c2
    clear e hfi c0 c1 c2
    go_enter Tryd.func162, Tryd.ntmps162
    go_wp2_with (first | (go_at_call 140; refine (gs _).mono ?_; rintro e w' ⟨rfl, rfl⟩) | (go_at_call 48; first | (with_reducible refine (g _).mono ?_; rintro e w' ⟨rfl, rfl⟩) | (with_reducible refine (g0 _).mono ?_; rintro e w' ⟨rfl, rfl⟩) | (with_reducible refine (g1 _).mono ?_; rintro e w' ⟨rfl, rfl⟩) | (with_reducible refine (g2 _).mono ?_; rintro e w' ⟨rfl, rfl⟩)))
    go_ret
    exact ⟨rfl, HB.out _⟩
  have g2 := inR_t rs2 0 0 c2
  by_cases c3 : -1048576 ≤ imm ∧ imm ≤ 1048575
  case neg =>
    have e : fitsB 5 ⟨k, rd, rs1, rs2, imm⟩ = false := by rw [Bool.eq_false_iff]; intro hh; have hh := hfi.1 hh; omega
    rw [e]; simp only [Bool.false_eq_true, if_false]
    have g3 := inR_f imm (-1048576) 1048575 c3
    clear e hfi c0 c1 c2 c3
    go_enter Tryd.func162, Tryd.ntmps162
    go_wp2_with (first | (go_at_call 140; refine (gs _).mono ?_; rintro e w' ⟨rfl, rfl⟩) | (go_at_call 48; first | (with_reducible refine (g _).mono ?_; rintro e w' ⟨rfl, rfl⟩) | (with_reducible refine (g0 _).mono ?_; rintro e w' ⟨rfl, rfl⟩) | (with_reducible refine (g1 _).mono ?_; rintro e w' ⟨rfl, rfl⟩) | (with_reducible refine (g2 _).mono ?_; rintro e w' ⟨rfl, rfl⟩) | (with_reducible refine (g3 _).mono ?_; rintro e w' ⟨rfl, rfl⟩)))
    go_ret
    exact ⟨rfl, HB.out _⟩
  by_cases c4 : imm.tmod 4 = 0
  · have e : fitsB 5 ⟨k, rd, rs1, rs2, imm⟩ = true := hfi.2 (by have := tmod4 _ c4; simp [c4]; omega)
    rw [e]; simp only [if_true]
    have g3 := inR_t imm (-1048576) 1048575 c3
    have cb : (imm.tmod 4 == 0) = true := beq_iff_eq.2 c4
    clear e hfi c0 c1 c2 c3 c4
    go_enter Tryd.func162, Tryd.ntmps162
    go_wp2_with (first | (go_at_call 140; refine (gs _).mono ?_; rintro e w' ⟨rfl, rfl⟩) | (go_at_call 48; first | (with_reducible refine (g _).mono ?_; rintro e w' ⟨rfl, rfl⟩) | (with_reducible refine (g0 _).mono ?_; rintro e w' ⟨rfl, rfl⟩) | (with_reducible refine (g1 _).mono ?_; rintro e w' ⟨rfl, rfl⟩) | (with_reducible refine (g2 _).mono ?_; rintro e w' ⟨rfl, rfl⟩) | (with_reducible refine (g3 _).mono ?_; rintro e w' ⟨rfl, rfl⟩)))
    go_ret
    exact ⟨rfl, HB.out _⟩
  · have e : fitsB 5 ⟨k, rd, rs1, rs2, imm⟩ = false := by rw [Bool.eq_false_iff]; intro hh; have hh := hfi.1 hh; exact c4 (by simp_all)
    rw [e]; simp only [Bool.false_eq_true, if_false]
    have g3 := inR_t imm (-1048576) 1048575 c3
    have cb : (imm.tmod 4 == 0) = false := beq_eq_false_iff_ne.2 c4
    clear e hfi c0 c1 c2 c3 c4
    go_enter Tryd.func162, Tryd.ntmps162
    go_wp2_with (first | (go_at_call 140; refine (gs _).mono ?_; rintro e w' ⟨rfl, rfl⟩) | (go_at_call 48; first | (with_reducible refine (g _).mono ?_; rintro e w' ⟨rfl, rfl⟩) | (with_reducible refine (g0 _).mono ?_; rintro e w' ⟨rfl, rfl⟩) | (with_reducible refine (g1 _).mono ?_; rintro e w' ⟨rfl, rfl⟩) | (with_reducible refine (g2 _).mono ?_; rintro e w' ⟨rfl, rfl⟩) | (with_reducible refine (g3 _).mono ?_; rintro e w' ⟨rfl, rfl⟩)))
    go_ret
    exact ⟨rfl, HB.out _⟩

set_option maxRecDepth 100000 in
set_option maxHeartbeats 4000000 in
theorem fault6 (k : Nat) (rd rs1 rs2 imm : Int) (h0 : 1 ≤ k) (h1 : k ≤ 29) (hs : shOf k = 6) (w : World) :
    Calls Tryd.prog 162 #[.agg #[.int .i64 k, .int .i64 rd, .int .i64 rs1, .int .i64 rs2, .int .i64 imm]] w fun e w' => e = .returned (.int .i64 (if fitsB 6 ⟨k, rd, rs1, rs2, imm⟩ = true then 0 else 2)) ∧ Below w.heap.size w w' := by
  have g := inR_t k 1 29 (by omega)
  have gs := shapeOf_any k h0 h1
  rw [hs] at gs
  have hfi := fits_iff 6 ⟨k, rd, rs1, rs2, imm⟩
  simp [shF, shL] at hfi
  have HB : Hid (∀ o, Below w.heap.size w (w.alloc o)) := fun o => (Below.refl _ _).alloc (Nat.le_refl _) _
  clear hs
  by_cases c0 : 0 ≤ rd ∧ rd ≤ 31
  case neg =>
    have e : fitsB 6 ⟨k, rd, rs1, rs2, imm⟩ = false := by rw [Bool.eq_false_iff]; intro hh; have := hfi.1 hh; omega
    rw [e]; simp only [Bool.false_eq_true, if_false]
    have g0 := inR_f rd 0 31 c0
    clear e hfi c0
    go_enter Tryd.func162, Tryd.ntmps162
    go_wp2_with (first | (go_at_call 140; refine (gs _).mono ?_; rintro e w' ⟨rfl, rfl⟩) | (go_at_call 48; first | (with_reducible refine (g _).mono ?_; rintro e w' ⟨rfl, rfl⟩) | (with_reducible refine (g0 _).mono ?_; rintro e w' ⟨rfl, rfl⟩)))
    go_ret
    exact ⟨rfl, HB.out _⟩
  have g0 := inR_t rd 0 31 c0
  by_cases c1 : 0 ≤ rs1 ∧ rs1 ≤ 0
  case neg =>
    have e : fitsB 6 ⟨k, rd, rs1, rs2, imm⟩ = false := by rw [Bool.eq_false_iff]; intro hh; have := hfi.1 hh; omega
    rw [e]; simp only [Bool.false_eq_true, if_false]
    have g1 := inR_f rs1 0 0 c1
    clear e hfi c0 c1
    go_enter Tryd.func162, Tryd.ntmps162
    go_wp2_with (first | (go_at_call 140; refine (gs _).mono ?_; rintro e w' ⟨rfl, rfl⟩) | (go_at_call 48; first | (with_reducible refine (g _).mono ?_; rintro e w' ⟨rfl, rfl⟩) | (with_reducible refine (g0 _).mono ?_; rintro e w' ⟨rfl, rfl⟩) | (with_reducible refine (g1 _).mono ?_; rintro e w' ⟨rfl, rfl⟩)))
    go_ret
    exact ⟨rfl, HB.out _⟩
  have g1 := inR_t rs1 0 0 c1
  by_cases c2 : 0 ≤ rs2 ∧ rs2 ≤ 0
  case neg =>
    have e : fitsB 6 ⟨k, rd, rs1, rs2, imm⟩ = false := by rw [Bool.eq_false_iff]; intro hh; have := hfi.1 hh; omega
    rw [e]; simp only [Bool.false_eq_true, if_false]
    have g2 := inR_f rs2 0 0 c2
    clear e hfi c0 c1 c2
    go_enter Tryd.func162, Tryd.ntmps162
    go_wp2_with (first | (go_at_call 140; refine (gs _).mono ?_; rintro e w' ⟨rfl, rfl⟩) | (go_at_call 48; first | (with_reducible refine (g _).mono ?_; rintro e w' ⟨rfl, rfl⟩) | (with_reducible refine (g0 _).mono ?_; rintro e w' ⟨rfl, rfl⟩) | (with_reducible refine (g1 _).mono ?_; rintro e w' ⟨rfl, rfl⟩) | (with_reducible refine (g2 _).mono ?_; rintro e w' ⟨rfl, rfl⟩)))
    go_ret
    exact ⟨rfl, HB.out _⟩
  have g2 := inR_t rs2 0 0 c2
  by_cases c3 : -524288 ≤ imm ∧ imm ≤ 524287
  case neg =>
    have e : fitsB 6 ⟨k, rd, rs1, rs2, imm⟩ = false := by rw [Bool.eq_false_iff]; intro hh; have hh := hfi.1 hh; omega
    rw [e]; simp only [Bool.false_eq_true, if_false]
    have g3 := inR_f imm (-524288) 524287 c3
    clear e hfi c0 c1 c2 c3
    go_enter Tryd.func162, Tryd.ntmps162
    go_wp2_with (first | (go_at_call 140; refine (gs _).mono ?_; rintro e w' ⟨rfl, rfl⟩) | (go_at_call 48; first | (with_reducible refine (g _).mono ?_; rintro e w' ⟨rfl, rfl⟩) | (with_reducible refine (g0 _).mono ?_; rintro e w' ⟨rfl, rfl⟩) | (with_reducible refine (g1 _).mono ?_; rintro e w' ⟨rfl, rfl⟩) | (with_reducible refine (g2 _).mono ?_; rintro e w' ⟨rfl, rfl⟩) | (with_reducible refine (g3 _).mono ?_; rintro e w' ⟨rfl, rfl⟩)))
    go_ret
    exact ⟨rfl, HB.out _⟩
  have e : fitsB 6 ⟨k, rd, rs1, rs2, imm⟩ = true := hfi.2 (by omega)
  rw [e]; simp only [if_true]
  have g3 := inR_t imm (-524288) 524287 c3
  clear e hfi c0 c1 c2 c3
  go_enter Tryd.func162, Tryd.ntmps162
  go_wp2_with (first | (go_at_call 140; refine (gs _).mono ?_; rintro e w' ⟨rfl, rfl⟩) | (go_at_call 48; first | (with_reducible refine (g _).mono ?_; rintro e w' ⟨rfl, rfl⟩) | (with_reducible refine (g0 _).mono ?_; rintro e w' ⟨rfl, rfl⟩) | (with_reducible refine (g1 _).mono ?_; rintro e w' ⟨rfl, rfl⟩) | (with_reducible refine (g2 _).mono ?_; rintro e w' ⟨rfl, rfl⟩) | (with_reducible refine (g3 _).mono ?_; rintro e w' ⟨rfl, rfl⟩)))
  go_ret
  exact ⟨rfl, HB.out _⟩

set_option maxRecDepth 100000 in
set_option maxHeartbeats 4000000 in
theorem fault7 (k : Nat) (rd rs1 rs2 imm : Int) (h0 : 1 ≤ k) (h1 : k ≤ 29) (hs : shOf k = 7) (w : World) :
    Calls Tryd.prog 162 #[.agg #[.int .i64 k, .int .i64 rd, .int .i64 rs1, .int .i64 rs2, .int .i64 imm]] w fun e w' => e = .returned (.int .i64 (if fitsB 7 ⟨k, rd, rs1, rs2, imm⟩ = true then 0 else 2)) ∧ Below w.heap.size w w' := by
  have g := inR_t k 1 29 (by omega)
  have gs := shapeOf_any k h0 h1
  rw [hs] at gs
  have hfi := fits_iff 7 ⟨k, rd, rs1, rs2, imm⟩
  simp [shF, shL] at hfi
  have HB : Hid (∀ o, Below w.heap.size w (w.alloc o)) := fun o => (Below.refl _ _).alloc (Nat.le_refl _) _
  clear hs
  by_cases c0 : 0 ≤ rd ∧ rd ≤ 0
  case neg =>
    have e : fitsB 7 ⟨k, rd, rs1, rs2, imm⟩ = false := by rw [Bool.eq_false_iff]; intro hh; have := hfi.1 hh; omega
    rw [e]; simp only [Bool.false_eq_true, if_false]
    have g0 := inR_f rd 0 0 c0
    clear e hfi c0
    go_enter Tryd.func162, Tryd.ntmps162
    go_wp2_with (first | (go_at_call 140; refine (gs _).mono ?_; rintro e w' ⟨rfl, rfl⟩) | (go_at_call 48; first | (with_reducible refine (g _).mono ?_; rintro e w' ⟨rfl, rfl⟩) | (with_reducible refine (g0 _).mono ?_; rintro e w' ⟨rfl, rfl⟩)))
    go_ret
    exact ⟨rfl, HB.out _⟩
  have g0 := inR_t rd 0 0 c0
  by_cases c1 : 0 ≤ rs1 ∧ rs1 ≤ 0
  case neg =>
    have e : fitsB 7 ⟨k, rd, rs1, rs2, imm⟩ = false := by rw [Bool.eq_false_iff]; intro hh; have := hfi.1 hh; omega
    rw [e]; simp only [Bool.false_eq_true, if_false]
    have g1 := inR_f rs1 0 0 c1
    clear e hfi c0 c1
    go_enter Tryd.func162, Tryd.ntmps162
    go_wp2_with (first | (go_at_call 140; refine (gs _).mono ?_; rintro e w' ⟨rfl, rfl⟩) | (go_at_call 48; first | (with_reducible refine (g _).mono ?_; rintro e w' ⟨rfl, rfl⟩) | (with_reducible refine (g0 _).mono ?_; rintro e w' ⟨rfl, rfl⟩) | (with_reducible refine (g1 _).mono ?_; rintro e w' ⟨rfl, rfl⟩)))
    go_ret
    exact ⟨rfl, HB.out _⟩
  have g1 := inR_t rs1 0 0 c1
  by_cases c2 : 0 ≤ rs2 ∧ rs2 ≤ 0
  case neg =>
    have e : fitsB 7 ⟨k, rd, rs1, rs2, imm⟩ = false := by rw [Bool.eq_false_iff]; intro hh; have := hfi.1 hh; omega
    rw [e]; simp only [Bool.false_eq_true, if_false]
    have g2 := inR_f rs2 0 0 c2
    clear e hfi c0 c1 c2
    go_enter Tryd.func162, Tryd.ntmps162
    go_wp2_with (first | (go_at_call 140; refine (gs _).mono ?_; rintro e w' ⟨rfl, rfl⟩) | (go_at_call 48; first | (with_reducible refine (g _).mono ?_; rintro e w' ⟨rfl, rfl⟩) | (with_reducible refine (g0 _).mono ?_; rintro e w' ⟨rfl, rfl⟩) | (with_reducible refine (g1 _).mono ?_; rintro e w' ⟨rfl, rfl⟩) | (with_reducible refine (g2 _).mono ?_; rintro e w' ⟨rfl, rfl⟩)))
    go_ret
    exact ⟨rfl, HB.out _⟩
  have g2 := inR_t rs2 0 0 c2
  by_cases c3 : imm = 0
  · subst c3
    have e : fitsB 7 ⟨k, rd, rs1, rs2, 0⟩ = true := hfi.2 (by omega)
    rw [e]; simp only [if_true]
    clear e hfi c0 c1 c2 
    go_enter Tryd.func162, Tryd.ntmps162
    go_wp2_with (first | (go_at_call 140; refine (gs _).mono ?_; rintro e w' ⟨rfl, rfl⟩) | (go_at_call 48; first | (with_reducible refine (g _).mono ?_; rintro e w' ⟨rfl, rfl⟩) | (with_reducible refine (g0 _).mono ?_; rintro e w' ⟨rfl, rfl⟩) | (with_reducible refine (g1 _).mono ?_; rintro e w' ⟨rfl, rfl⟩) | (with_reducible refine (g2 _).mono ?_; rintro e w' ⟨rfl, rfl⟩)))
    go_ret
    exact ⟨rfl, HB.out _⟩
  · have e : fitsB 7 ⟨k, rd, rs1, rs2, imm⟩ = false := by rw [Bool.eq_false_iff]; intro hh; have hh := hfi.1 hh; omega
    rw [e]; simp only [Bool.false_eq_true, if_false]
    have cb : (imm == 0) = false := by rw [beq_eq_false_iff_ne]; exact c3
    clear e hfi c0 c1 c2 c3
    go_enter Tryd.func162, Tryd.ntmps162
    go_wp2_with (first | (go_at_call 140; refine (gs _).mono ?_; rintro e w' ⟨rfl, rfl⟩) | (go_at_call 48; first | (with_reducible refine (g _).mono ?_; rintro e w' ⟨rfl, rfl⟩) | (with_reducible refine (g0 _).mono ?_; rintro e w' ⟨rfl, rfl⟩) | (with_reducible refine (g1 _).mono ?_; rintro e w' ⟨rfl, rfl⟩) | (with_reducible refine (g2 _).mono ?_; rintro e w' ⟨rfl, rfl⟩)))
    go_ret
    exact ⟨rfl, HB.out _⟩

set_option maxRecDepth 100000 in
theorem rvFault_any (x : Mi) (w : World) : Calls Tryd.prog 162 #[x.val] w fun e w' => e = .returned (.int .i64 (rvE x)) ∧ Below w.heap.size w w' := by
  obtain ⟨op, rd, rs1, rs2, imm⟩ := x
  by_cases h1 : 1 ≤ op ∧ op ≤ 29
  · obtain ⟨k, rfl⟩ := Int.eq_ofNat_of_zero_le (show 0 ≤ op by omega)
    have e : rvE ⟨(k : Int), rd, rs1, rs2, imm⟩ = if fitsB (shOf k) ⟨(k : Int), rd, rs1, rs2, imm⟩ = true then 0 else 2 := by
      unfold rvE; rw [if_neg (by simp only; omega)]; simp
    rw [e]
    have hs := shOf_lt k (by omega) (by omega)
    rcases eight _ hs with h | h | h | h | h | h | h | h <;> rw [h]
    · exact fault0 k rd rs1 rs2 imm (by omega) (by omega) h w
    · exact fault1 k rd rs1 rs2 imm (by omega) (by omega) h w
    · exact fault2 k rd rs1 rs2 imm (by omega) (by omega) h w
    · exact fault3 k rd rs1 rs2 imm (by omega) (by omega) h w
    · exact fault4 k rd rs1 rs2 imm (by omega) (by omega) h w
    · exact fault5 k rd rs1 rs2 imm (by omega) (by omega) h w
    · exact fault6 k rd rs1 rs2 imm (by omega) (by omega) h w
    · exact fault7 k rd rs1 rs2 imm (by omega) (by omega) h w
  · have e : rvE ⟨op, rd, rs1, rs2, imm⟩ = 3 := by unfold rvE; rw [if_pos (by simp only; omega)]
    rw [e]
    have g := inR_f op 1 29 h1
    clear e h1
    unfold Mi.val
    dsimp only
    go_enter Tryd.func162, Tryd.ntmps162
    go_wp2_with (go_at_call 48; refine (g _).mono ?_; rintro e w' ⟨rfl, rfl⟩)
    go_ret
    exact ⟨rfl, (Below.refl _ _).alloc (Nat.le_refl _) _⟩
end Go.Proofs.YtndogdojcbcjgaaDoor
