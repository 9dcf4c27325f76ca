/- Contracts of the document's lowSeven, threeBits, topBits (package tierlineref; written by gen/mkrvt.py): what ops settle. -/
import Derived.Test.YtndogdojcbcjgaaDoorXRvFault
namespace Go.Proofs.YtndogdojcbcjgaaDoor
open Go Go.RowKit

/-- The top bits, as the document has them: of a shift without the lowest. -/
def tT (k : Nat) : Int := if k = 19 then 16 else sC k

set_option maxRecDepth 100000 in
set_option maxHeartbeats 4000000 in
theorem lowSeven_any (k : Nat) (h0 : 1 ≤ k) (h1 : k ≤ 29) (w : World) :
    Calls Tryd.prog 163 #[.int .i64 k] w fun e w' => e = .returned (.int .i64 (sA k)) ∧ Below w.heap.size w w' := by
  have hb := fun o => (Below.refl w.heap.size w).alloc (Nat.le_refl _) o
  rcases (show k = 1 ∨ k = 2 ∨ k = 3 ∨ k = 4 ∨ k = 5 ∨ k = 6 ∨ k = 7 ∨ k = 8 ∨ k = 9 ∨ k = 10 ∨ k = 11 ∨ k = 12 ∨ k = 13 ∨ k = 14 ∨ k = 15 ∨ k = 16 ∨ k = 17 ∨ k = 18 ∨ k = 19 ∨ k = 20 ∨ k = 21 ∨ k = 22 ∨ k = 23 ∨ k = 24 ∨ k = 25 ∨ k = 26 ∨ k = 27 ∨ k = 28 ∨ k = 29 by omega) with rfl | rfl | rfl | rfl | rfl | rfl | rfl | rfl | rfl | rfl | rfl | rfl | rfl | rfl | rfl | rfl | rfl | rfl | rfl | rfl | rfl | rfl | rfl | rfl | rfl | rfl | rfl | rfl | rfl
  · have e : sA 1 = 51 := by decide
    rw [e]
    clear e
    have gs : ∀ w, Calls Tryd.prog 140 #[.int .i64 ((1 : Nat) : Int)] w fun e w' => e = .returned (.int .i64 0) ∧ w' = w := fun w => shapeOf_any 1 (by decide) (by decide) w
    go_enter Tryd.func163, Tryd.ntmps163
    go_wp2_with (go_at_call 140; refine (gs _).mono ?_; rintro e w' ⟨rfl, rfl⟩)
    go_ret
    exact ⟨rfl, by first | exact Below.refl _ _ | exact hb _⟩
  · have e : sA 2 = 51 := by decide
    rw [e]
    clear e
    have gs : ∀ w, Calls Tryd.prog 140 #[.int .i64 ((2 : Nat) : Int)] w fun e w' => e = .returned (.int .i64 0) ∧ w' = w := fun w => shapeOf_any 2 (by decide) (by decide) w
    go_enter Tryd.func163, Tryd.ntmps163
    go_wp2_with (go_at_call 140; refine (gs _).mono ?_; rintro e w' ⟨rfl, rfl⟩)
    go_ret
    exact ⟨rfl, by first | exact Below.refl _ _ | exact hb _⟩
  · have e : sA 3 = 51 := by decide
    rw [e]
    clear e
    have gs : ∀ w, Calls Tryd.prog 140 #[.int .i64 ((3 : Nat) : Int)] w fun e w' => e = .returned (.int .i64 0) ∧ w' = w := fun w => shapeOf_any 3 (by decide) (by decide) w
    go_enter Tryd.func163, Tryd.ntmps163
    go_wp2_with (go_at_call 140; refine (gs _).mono ?_; rintro e w' ⟨rfl, rfl⟩)
    go_ret
    exact ⟨rfl, by first | exact Below.refl _ _ | exact hb _⟩
  · have e : sA 4 = 51 := by decide
    rw [e]
    clear e
    have gs : ∀ w, Calls Tryd.prog 140 #[.int .i64 ((4 : Nat) : Int)] w fun e w' => e = .returned (.int .i64 0) ∧ w' = w := fun w => shapeOf_any 4 (by decide) (by decide) w
    go_enter Tryd.func163, Tryd.ntmps163
    go_wp2_with (go_at_call 140; refine (gs _).mono ?_; rintro e w' ⟨rfl, rfl⟩)
    go_ret
    exact ⟨rfl, by first | exact Below.refl _ _ | exact hb _⟩
  · have e : sA 5 = 51 := by decide
    rw [e]
    clear e
    have gs : ∀ w, Calls Tryd.prog 140 #[.int .i64 ((5 : Nat) : Int)] w fun e w' => e = .returned (.int .i64 0) ∧ w' = w := fun w => shapeOf_any 5 (by decide) (by decide) w
    go_enter Tryd.func163, Tryd.ntmps163
    go_wp2_with (go_at_call 140; refine (gs _).mono ?_; rintro e w' ⟨rfl, rfl⟩)
    go_ret
    exact ⟨rfl, by first | exact Below.refl _ _ | exact hb _⟩
  · have e : sA 6 = 51 := by decide
    rw [e]
    clear e
    have gs : ∀ w, Calls Tryd.prog 140 #[.int .i64 ((6 : Nat) : Int)] w fun e w' => e = .returned (.int .i64 0) ∧ w' = w := fun w => shapeOf_any 6 (by decide) (by decide) w
    go_enter Tryd.func163, Tryd.ntmps163
    go_wp2_with (go_at_call 140; refine (gs _).mono ?_; rintro e w' ⟨rfl, rfl⟩)
    go_ret
    exact ⟨rfl, by first | exact Below.refl _ _ | exact hb _⟩
  · have e : sA 7 = 51 := by decide
    rw [e]
    clear e
    have gs : ∀ w, Calls Tryd.prog 140 #[.int .i64 ((7 : Nat) : Int)] w fun e w' => e = .returned (.int .i64 0) ∧ w' = w := fun w => shapeOf_any 7 (by decide) (by decide) w
    go_enter Tryd.func163, Tryd.ntmps163
    go_wp2_with (go_at_call 140; refine (gs _).mono ?_; rintro e w' ⟨rfl, rfl⟩)
    go_ret
    exact ⟨rfl, by first | exact Below.refl _ _ | exact hb _⟩
  · have e : sA 8 = 51 := by decide
    rw [e]
    clear e
    have gs : ∀ w, Calls Tryd.prog 140 #[.int .i64 ((8 : Nat) : Int)] w fun e w' => e = .returned (.int .i64 0) ∧ w' = w := fun w => shapeOf_any 8 (by decide) (by decide) w
    go_enter Tryd.func163, Tryd.ntmps163
    go_wp2_with (go_at_call 140; refine (gs _).mono ?_; rintro e w' ⟨rfl, rfl⟩)
    go_ret
    exact ⟨rfl, by first | exact Below.refl _ _ | exact hb _⟩
  · have e : sA 9 = 51 := by decide
    rw [e]
    clear e
    have gs : ∀ w, Calls Tryd.prog 140 #[.int .i64 ((9 : Nat) : Int)] w fun e w' => e = .returned (.int .i64 0) ∧ w' = w := fun w => shapeOf_any 9 (by decide) (by decide) w
    go_enter Tryd.func163, Tryd.ntmps163
    go_wp2_with (go_at_call 140; refine (gs _).mono ?_; rintro e w' ⟨rfl, rfl⟩)
    go_ret
    exact ⟨rfl, by first | exact Below.refl _ _ | exact hb _⟩
  · have e : sA 10 = 51 := by decide
    rw [e]
    clear e
    have gs : ∀ w, Calls Tryd.prog 140 #[.int .i64 ((10 : Nat) : Int)] w fun e w' => e = .returned (.int .i64 0) ∧ w' = w := fun w => shapeOf_any 10 (by decide) (by decide) w
    go_enter Tryd.func163, Tryd.ntmps163
    go_wp2_with (go_at_call 140; refine (gs _).mono ?_; rintro e w' ⟨rfl, rfl⟩)
    go_ret
    exact ⟨rfl, by first | exact Below.refl _ _ | exact hb _⟩
  · have e : sA 11 = 51 := by decide
    rw [e]
    clear e
    have gs : ∀ w, Calls Tryd.prog 140 #[.int .i64 ((11 : Nat) : Int)] w fun e w' => e = .returned (.int .i64 0) ∧ w' = w := fun w => shapeOf_any 11 (by decide) (by decide) w
    go_enter Tryd.func163, Tryd.ntmps163
    go_wp2_with (go_at_call 140; refine (gs _).mono ?_; rintro e w' ⟨rfl, rfl⟩)
    go_ret
    exact ⟨rfl, by first | exact Below.refl _ _ | exact hb _⟩
  · have e : sA 12 = 19 := by decide
    rw [e]
    clear e
    have gs : ∀ w, Calls Tryd.prog 140 #[.int .i64 ((12 : Nat) : Int)] w fun e w' => e = .returned (.int .i64 1) ∧ w' = w := fun w => shapeOf_any 12 (by decide) (by decide) w
    go_enter Tryd.func163, Tryd.ntmps163
    go_wp2_with (go_at_call 140; refine (gs _).mono ?_; rintro e w' ⟨rfl, rfl⟩)
    go_ret
    exact ⟨rfl, by first | exact Below.refl _ _ | exact hb _⟩
  · have e : sA 13 = 19 := by decide
    rw [e]
    clear e
    have gs : ∀ w, Calls Tryd.prog 140 #[.int .i64 ((13 : Nat) : Int)] w fun e w' => e = .returned (.int .i64 1) ∧ w' = w := fun w => shapeOf_any 13 (by decide) (by decide) w
    go_enter Tryd.func163, Tryd.ntmps163
    go_wp2_with (go_at_call 140; refine (gs _).mono ?_; rintro e w' ⟨rfl, rfl⟩)
    go_ret
    exact ⟨rfl, by first | exact Below.refl _ _ | exact hb _⟩
  · have e : sA 14 = 19 := by decide
    rw [e]
    clear e
    have gs : ∀ w, Calls Tryd.prog 140 #[.int .i64 ((14 : Nat) : Int)] w fun e w' => e = .returned (.int .i64 1) ∧ w' = w := fun w => shapeOf_any 14 (by decide) (by decide) w
    go_enter Tryd.func163, Tryd.ntmps163
    go_wp2_with (go_at_call 140; refine (gs _).mono ?_; rintro e w' ⟨rfl, rfl⟩)
    go_ret
    exact ⟨rfl, by first | exact Below.refl _ _ | exact hb _⟩
  · have e : sA 15 = 19 := by decide
    rw [e]
    clear e
    have gs : ∀ w, Calls Tryd.prog 140 #[.int .i64 ((15 : Nat) : Int)] w fun e w' => e = .returned (.int .i64 1) ∧ w' = w := fun w => shapeOf_any 15 (by decide) (by decide) w
    go_enter Tryd.func163, Tryd.ntmps163
    go_wp2_with (go_at_call 140; refine (gs _).mono ?_; rintro e w' ⟨rfl, rfl⟩)
    go_ret
    exact ⟨rfl, by first | exact Below.refl _ _ | exact hb _⟩
  · have e : sA 16 = 19 := by decide
    rw [e]
    clear e
    have gs : ∀ w, Calls Tryd.prog 140 #[.int .i64 ((16 : Nat) : Int)] w fun e w' => e = .returned (.int .i64 1) ∧ w' = w := fun w => shapeOf_any 16 (by decide) (by decide) w
    go_enter Tryd.func163, Tryd.ntmps163
    go_wp2_with (go_at_call 140; refine (gs _).mono ?_; rintro e w' ⟨rfl, rfl⟩)
    go_ret
    exact ⟨rfl, by first | exact Below.refl _ _ | exact hb _⟩
  · have e : sA 17 = 19 := by decide
    rw [e]
    clear e
    have gs : ∀ w, Calls Tryd.prog 140 #[.int .i64 ((17 : Nat) : Int)] w fun e w' => e = .returned (.int .i64 1) ∧ w' = w := fun w => shapeOf_any 17 (by decide) (by decide) w
    go_enter Tryd.func163, Tryd.ntmps163
    go_wp2_with (go_at_call 140; refine (gs _).mono ?_; rintro e w' ⟨rfl, rfl⟩)
    go_ret
    exact ⟨rfl, by first | exact Below.refl _ _ | exact hb _⟩
  · have e : sA 18 = 19 := by decide
    rw [e]
    clear e
    have gs : ∀ w, Calls Tryd.prog 140 #[.int .i64 ((18 : Nat) : Int)] w fun e w' => e = .returned (.int .i64 2) ∧ w' = w := fun w => shapeOf_any 18 (by decide) (by decide) w
    go_enter Tryd.func163, Tryd.ntmps163
    go_wp2_with (go_at_call 140; refine (gs _).mono ?_; rintro e w' ⟨rfl, rfl⟩)
    go_ret
    exact ⟨rfl, by first | exact Below.refl _ _ | exact hb _⟩
  · have e : sA 19 = 19 := by decide
    rw [e]
    clear e
    have gs : ∀ w, Calls Tryd.prog 140 #[.int .i64 ((19 : Nat) : Int)] w fun e w' => e = .returned (.int .i64 2) ∧ w' = w := fun w => shapeOf_any 19 (by decide) (by decide) w
    go_enter Tryd.func163, Tryd.ntmps163
    go_wp2_with (go_at_call 140; refine (gs _).mono ?_; rintro e w' ⟨rfl, rfl⟩)
    go_ret
    exact ⟨rfl, by first | exact Below.refl _ _ | exact hb _⟩
  · have e : sA 20 = 3 := by decide
    rw [e]
    clear e
    have gs : ∀ w, Calls Tryd.prog 140 #[.int .i64 ((20 : Nat) : Int)] w fun e w' => e = .returned (.int .i64 1) ∧ w' = w := fun w => shapeOf_any 20 (by decide) (by decide) w
    go_enter Tryd.func163, Tryd.ntmps163
    go_wp2_with (go_at_call 140; refine (gs _).mono ?_; rintro e w' ⟨rfl, rfl⟩)
    go_ret
    exact ⟨rfl, by first | exact Below.refl _ _ | exact hb _⟩
  · have e : sA 21 = 35 := by decide
    rw [e]
    clear e
    have gs : ∀ w, Calls Tryd.prog 140 #[.int .i64 ((21 : Nat) : Int)] w fun e w' => e = .returned (.int .i64 3) ∧ w' = w := fun w => shapeOf_any 21 (by decide) (by decide) w
    go_enter Tryd.func163, Tryd.ntmps163
    go_wp2_with (go_at_call 140; refine (gs _).mono ?_; rintro e w' ⟨rfl, rfl⟩)
    go_ret
    exact ⟨rfl, by first | exact Below.refl _ _ | exact hb _⟩
  · have e : sA 22 = 99 := by decide
    rw [e]
    clear e
    have gs : ∀ w, Calls Tryd.prog 140 #[.int .i64 ((22 : Nat) : Int)] w fun e w' => e = .returned (.int .i64 4) ∧ w' = w := fun w => shapeOf_any 22 (by decide) (by decide) w
    go_enter Tryd.func163, Tryd.ntmps163
    go_wp2_with (go_at_call 140; refine (gs _).mono ?_; rintro e w' ⟨rfl, rfl⟩)
    go_ret
    exact ⟨rfl, by first | exact Below.refl _ _ | exact hb _⟩
  · have e : sA 23 = 99 := by decide
    rw [e]
    clear e
    have gs : ∀ w, Calls Tryd.prog 140 #[.int .i64 ((23 : Nat) : Int)] w fun e w' => e = .returned (.int .i64 4) ∧ w' = w := fun w => shapeOf_any 23 (by decide) (by decide) w
    go_enter Tryd.func163, Tryd.ntmps163
    go_wp2_with (go_at_call 140; refine (gs _).mono ?_; rintro e w' ⟨rfl, rfl⟩)
    go_ret
    exact ⟨rfl, by first | exact Below.refl _ _ | exact hb _⟩
  · have e : sA 24 = 99 := by decide
    rw [e]
    clear e
    have gs : ∀ w, Calls Tryd.prog 140 #[.int .i64 ((24 : Nat) : Int)] w fun e w' => e = .returned (.int .i64 4) ∧ w' = w := fun w => shapeOf_any 24 (by decide) (by decide) w
    go_enter Tryd.func163, Tryd.ntmps163
    go_wp2_with (go_at_call 140; refine (gs _).mono ?_; rintro e w' ⟨rfl, rfl⟩)
    go_ret
    exact ⟨rfl, by first | exact Below.refl _ _ | exact hb _⟩
  · have e : sA 25 = 99 := by decide
    rw [e]
    clear e
    have gs : ∀ w, Calls Tryd.prog 140 #[.int .i64 ((25 : Nat) : Int)] w fun e w' => e = .returned (.int .i64 4) ∧ w' = w := fun w => shapeOf_any 25 (by decide) (by decide) w
    go_enter Tryd.func163, Tryd.ntmps163
    go_wp2_with (go_at_call 140; refine (gs _).mono ?_; rintro e w' ⟨rfl, rfl⟩)
    go_ret
    exact ⟨rfl, by first | exact Below.refl _ _ | exact hb _⟩
  · have e : sA 26 = 111 := by decide
    rw [e]
    clear e
    have gs : ∀ w, Calls Tryd.prog 140 #[.int .i64 ((26 : Nat) : Int)] w fun e w' => e = .returned (.int .i64 5) ∧ w' = w := fun w => shapeOf_any 26 (by decide) (by decide) w
    go_enter Tryd.func163, Tryd.ntmps163
    go_wp2_with (go_at_call 140; refine (gs _).mono ?_; rintro e w' ⟨rfl, rfl⟩)
    go_ret
    exact ⟨rfl, by first | exact Below.refl _ _ | exact hb _⟩
  · have e : sA 27 = 103 := by decide
    rw [e]
    clear e
    have gs : ∀ w, Calls Tryd.prog 140 #[.int .i64 ((27 : Nat) : Int)] w fun e w' => e = .returned (.int .i64 1) ∧ w' = w := fun w => shapeOf_any 27 (by decide) (by decide) w
    go_enter Tryd.func163, Tryd.ntmps163
    go_wp2_with (go_at_call 140; refine (gs _).mono ?_; rintro e w' ⟨rfl, rfl⟩)
    go_ret
    exact ⟨rfl, by first | exact Below.refl _ _ | exact hb _⟩
  · have e : sA 28 = 55 := by decide
    rw [e]
    clear e
    have gs : ∀ w, Calls Tryd.prog 140 #[.int .i64 ((28 : Nat) : Int)] w fun e w' => e = .returned (.int .i64 6) ∧ w' = w := fun w => shapeOf_any 28 (by decide) (by decide) w
    go_enter Tryd.func163, Tryd.ntmps163
    go_wp2_with (go_at_call 140; refine (gs _).mono ?_; rintro e w' ⟨rfl, rfl⟩)
    go_ret
    exact ⟨rfl, by first | exact Below.refl _ _ | exact hb _⟩
  · have e : sA 29 = 115 := by decide
    rw [e]
    clear e
    have gs : ∀ w, Calls Tryd.prog 140 #[.int .i64 ((29 : Nat) : Int)] w fun e w' => e = .returned (.int .i64 7) ∧ w' = w := fun w => shapeOf_any 29 (by decide) (by decide) w
    go_enter Tryd.func163, Tryd.ntmps163
    go_wp2_with (go_at_call 140; refine (gs _).mono ?_; rintro e w' ⟨rfl, rfl⟩)
    go_ret
    exact ⟨rfl, by first | exact Below.refl _ _ | exact hb _⟩

set_option maxRecDepth 100000 in
set_option maxHeartbeats 4000000 in
theorem threeBits_any (k : Nat) (h0 : 1 ≤ k) (h1 : k ≤ 29) (w : World) :
    Calls Tryd.prog 164 #[.int .i64 k] w fun e w' => e = .returned (.int .i64 (sB k)) ∧ Below w.heap.size w w' := by
  have hb := fun o => (Below.refl w.heap.size w).alloc (Nat.le_refl _) o
  rcases (show k = 1 ∨ k = 2 ∨ k = 3 ∨ k = 4 ∨ k = 5 ∨ k = 6 ∨ k = 7 ∨ k = 8 ∨ k = 9 ∨ k = 10 ∨ k = 11 ∨ k = 12 ∨ k = 13 ∨ k = 14 ∨ k = 15 ∨ k = 16 ∨ k = 17 ∨ k = 18 ∨ k = 19 ∨ k = 20 ∨ k = 21 ∨ k = 22 ∨ k = 23 ∨ k = 24 ∨ k = 25 ∨ k = 26 ∨ k = 27 ∨ k = 28 ∨ k = 29 by omega) with rfl | rfl | rfl | rfl | rfl | rfl | rfl | rfl | rfl | rfl | rfl | rfl | rfl | rfl | rfl | rfl | rfl | rfl | rfl | rfl | rfl | rfl | rfl | rfl | rfl | rfl | rfl | rfl | rfl
  · have e : sB 1 = 0 := by decide
    rw [e]
    clear e
    go_enter Tryd.func164, Tryd.ntmps164
    go_wp2
    go_ret
    exact ⟨rfl, by first | exact Below.refl _ _ | exact hb _⟩
  · have e : sB 2 = 0 := by decide
    rw [e]
    clear e
    go_enter Tryd.func164, Tryd.ntmps164
    go_wp2
    go_ret
    exact ⟨rfl, by first | exact Below.refl _ _ | exact hb _⟩
  · have e : sB 3 = 0 := by decide
    rw [e]
    clear e
    go_enter Tryd.func164, Tryd.ntmps164
    go_wp2
    go_ret
    exact ⟨rfl, by first | exact Below.refl _ _ | exact hb _⟩
  · have e : sB 4 = 4 := by decide
    rw [e]
    clear e
    go_enter Tryd.func164, Tryd.ntmps164
    go_wp2
    go_ret
    exact ⟨rfl, by first | exact Below.refl _ _ | exact hb _⟩
  · have e : sB 5 = 7 := by decide
    rw [e]
    clear e
    go_enter Tryd.func164, Tryd.ntmps164
    go_wp2
    go_ret
    exact ⟨rfl, by first | exact Below.refl _ _ | exact hb _⟩
  · have e : sB 6 = 6 := by decide
    rw [e]
    clear e
    go_enter Tryd.func164, Tryd.ntmps164
    go_wp2
    go_ret
    exact ⟨rfl, by first | exact Below.refl _ _ | exact hb _⟩
  · have e : sB 7 = 4 := by decide
    rw [e]
    clear e
    go_enter Tryd.func164, Tryd.ntmps164
    go_wp2
    go_ret
    exact ⟨rfl, by first | exact Below.refl _ _ | exact hb _⟩
  · have e : sB 8 = 1 := by decide
    rw [e]
    clear e
    go_enter Tryd.func164, Tryd.ntmps164
    go_wp2
    go_ret
    exact ⟨rfl, by first | exact Below.refl _ _ | exact hb _⟩
  · have e : sB 9 = 5 := by decide
    rw [e]
    clear e
    go_enter Tryd.func164, Tryd.ntmps164
    go_wp2
    go_ret
    exact ⟨rfl, by first | exact Below.refl _ _ | exact hb _⟩
  · have e : sB 10 = 2 := by decide
    rw [e]
    clear e
    go_enter Tryd.func164, Tryd.ntmps164
    go_wp2
    go_ret
    exact ⟨rfl, by first | exact Below.refl _ _ | exact hb _⟩
  · have e : sB 11 = 3 := by decide
    rw [e]
    clear e
    go_enter Tryd.func164, Tryd.ntmps164
    go_wp2
    go_ret
    exact ⟨rfl, by first | exact Below.refl _ _ | exact hb _⟩
  · have e : sB 12 = 0 := by decide
    rw [e]
    clear e
    go_enter Tryd.func164, Tryd.ntmps164
    go_wp2
    go_ret
    exact ⟨rfl, by first | exact Below.refl _ _ | exact hb _⟩
  · have e : sB 13 = 7 := by decide
    rw [e]
    clear e
    go_enter Tryd.func164, Tryd.ntmps164
    go_wp2
    go_ret
    exact ⟨rfl, by first | exact Below.refl _ _ | exact hb _⟩
  · have e : sB 14 = 6 := by decide
    rw [e]
    clear e
    go_enter Tryd.func164, Tryd.ntmps164
    go_wp2
    go_ret
    exact ⟨rfl, by first | exact Below.refl _ _ | exact hb _⟩
  · have e : sB 15 = 4 := by decide
    rw [e]
    clear e
    go_enter Tryd.func164, Tryd.ntmps164
    go_wp2
    go_ret
    exact ⟨rfl, by first | exact Below.refl _ _ | exact hb _⟩
  · have e : sB 16 = 2 := by decide
    rw [e]
    clear e
    go_enter Tryd.func164, Tryd.ntmps164
    go_wp2
    go_ret
    exact ⟨rfl, by first | exact Below.refl _ _ | exact hb _⟩
  · have e : sB 17 = 3 := by decide
    rw [e]
    clear e
    go_enter Tryd.func164, Tryd.ntmps164
    go_wp2
    go_ret
    exact ⟨rfl, by first | exact Below.refl _ _ | exact hb _⟩
  · have e : sB 18 = 1 := by decide
    rw [e]
    clear e
    go_enter Tryd.func164, Tryd.ntmps164
    go_wp2
    go_ret
    exact ⟨rfl, by first | exact Below.refl _ _ | exact hb _⟩
  · have e : sB 19 = 5 := by decide
    rw [e]
    clear e
    go_enter Tryd.func164, Tryd.ntmps164
    go_wp2
    go_ret
    exact ⟨rfl, by first | exact Below.refl _ _ | exact hb _⟩
  · have e : sB 20 = 3 := by decide
    rw [e]
    clear e
    go_enter Tryd.func164, Tryd.ntmps164
    go_wp2
    go_ret
    exact ⟨rfl, by first | exact Below.refl _ _ | exact hb _⟩
  · have e : sB 21 = 3 := by decide
    rw [e]
    clear e
    go_enter Tryd.func164, Tryd.ntmps164
    go_wp2
    go_ret
    exact ⟨rfl, by first | exact Below.refl _ _ | exact hb _⟩
  · have e : sB 22 = 0 := by decide
    rw [e]
    clear e
    go_enter Tryd.func164, Tryd.ntmps164
    go_wp2
    go_ret
    exact ⟨rfl, by first | exact Below.refl _ _ | exact hb _⟩
  · have e : sB 23 = 1 := by decide
    rw [e]
    clear e
    go_enter Tryd.func164, Tryd.ntmps164
    go_wp2
    go_ret
    exact ⟨rfl, by first | exact Below.refl _ _ | exact hb _⟩
  · have e : sB 24 = 4 := by decide
    rw [e]
    clear e
    go_enter Tryd.func164, Tryd.ntmps164
    go_wp2
    go_ret
    exact ⟨rfl, by first | exact Below.refl _ _ | exact hb _⟩
  · have e : sB 25 = 5 := by decide
    rw [e]
    clear e
    go_enter Tryd.func164, Tryd.ntmps164
    go_wp2
    go_ret
    exact ⟨rfl, by first | exact Below.refl _ _ | exact hb _⟩
  · have e : sB 26 = 0 := by decide
    rw [e]
    clear e
    go_enter Tryd.func164, Tryd.ntmps164
    go_wp2
    go_ret
    exact ⟨rfl, by first | exact Below.refl _ _ | exact hb _⟩
  · have e : sB 27 = 0 := by decide
    rw [e]
    clear e
    go_enter Tryd.func164, Tryd.ntmps164
    go_wp2
    go_ret
    exact ⟨rfl, by first | exact Below.refl _ _ | exact hb _⟩
  · have e : sB 28 = 0 := by decide
    rw [e]
    clear e
    go_enter Tryd.func164, Tryd.ntmps164
    go_wp2
    go_ret
    exact ⟨rfl, by first | exact Below.refl _ _ | exact hb _⟩
  · have e : sB 29 = 0 := by decide
    rw [e]
    clear e
    go_enter Tryd.func164, Tryd.ntmps164
    go_wp2
    go_ret
    exact ⟨rfl, by first | exact Below.refl _ _ | exact hb _⟩

set_option maxRecDepth 100000 in
set_option maxHeartbeats 4000000 in
theorem topBits_any (k : Nat) (h0 : 1 ≤ k) (h1 : k ≤ 29) (w : World) :
    Calls Tryd.prog 165 #[.int .i64 k] w fun e w' => e = .returned (.int .i64 (tT k)) ∧ Below w.heap.size w w' := by
  have hb := fun o => (Below.refl w.heap.size w).alloc (Nat.le_refl _) o
  rcases (show k = 1 ∨ k = 2 ∨ k = 3 ∨ k = 4 ∨ k = 5 ∨ k = 6 ∨ k = 7 ∨ k = 8 ∨ k = 9 ∨ k = 10 ∨ k = 11 ∨ k = 12 ∨ k = 13 ∨ k = 14 ∨ k = 15 ∨ k = 16 ∨ k = 17 ∨ k = 18 ∨ k = 19 ∨ k = 20 ∨ k = 21 ∨ k = 22 ∨ k = 23 ∨ k = 24 ∨ k = 25 ∨ k = 26 ∨ k = 27 ∨ k = 28 ∨ k = 29 by omega) with rfl | rfl | rfl | rfl | rfl | rfl | rfl | rfl | rfl | rfl | rfl | rfl | rfl | rfl | rfl | rfl | rfl | rfl | rfl | rfl | rfl | rfl | rfl | rfl | rfl | rfl | rfl | rfl | rfl
  · have e : tT 1 = 0 := by decide
    rw [e]
    clear e
    go_enter Tryd.func165, Tryd.ntmps165
    go_wp2
    go_ret
    exact ⟨rfl, by first | exact Below.refl _ _ | exact hb _⟩
  · have e : tT 2 = 32 := by decide
    rw [e]
    clear e
    go_enter Tryd.func165, Tryd.ntmps165
    go_wp2
    go_ret
    exact ⟨rfl, by first | exact Below.refl _ _ | exact hb _⟩
  · have e : tT 3 = 1 := by decide
    rw [e]
    clear e
    go_enter Tryd.func165, Tryd.ntmps165
    go_wp2
    go_ret
    exact ⟨rfl, by first | exact Below.refl _ _ | exact hb _⟩
  · have e : tT 4 = 1 := by decide
    rw [e]
    clear e
    go_enter Tryd.func165, Tryd.ntmps165
    go_wp2
    go_ret
    exact ⟨rfl, by first | exact Below.refl _ _ | exact hb _⟩
  · have e : tT 5 = 0 := by decide
    rw [e]
    clear e
    go_enter Tryd.func165, Tryd.ntmps165
    go_wp2
    go_ret
    exact ⟨rfl, by first | exact Below.refl _ _ | exact hb _⟩
  · have e : tT 6 = 0 := by decide
    rw [e]
    clear e
    go_enter Tryd.func165, Tryd.ntmps165
    go_wp2
    go_ret
    exact ⟨rfl, by first | exact Below.refl _ _ | exact hb _⟩
  · have e : tT 7 = 0 := by decide
    rw [e]
    clear e
    go_enter Tryd.func165, Tryd.ntmps165
    go_wp2
    go_ret
    exact ⟨rfl, by first | exact Below.refl _ _ | exact hb _⟩
  · have e : tT 8 = 0 := by decide
    rw [e]
    clear e
    go_enter Tryd.func165, Tryd.ntmps165
    go_wp2
    go_ret
    exact ⟨rfl, by first | exact Below.refl _ _ | exact hb _⟩
  · have e : tT 9 = 32 := by decide
    rw [e]
    clear e
    go_enter Tryd.func165, Tryd.ntmps165
    go_wp2
    go_ret
    exact ⟨rfl, by first | exact Below.refl _ _ | exact hb _⟩
  · have e : tT 10 = 0 := by decide
    rw [e]
    clear e
    go_enter Tryd.func165, Tryd.ntmps165
    go_wp2
    go_ret
    exact ⟨rfl, by first | exact Below.refl _ _ | exact hb _⟩
  · have e : tT 11 = 0 := by decide
    rw [e]
    clear e
    go_enter Tryd.func165, Tryd.ntmps165
    go_wp2
    go_ret
    exact ⟨rfl, by first | exact Below.refl _ _ | exact hb _⟩
  · have e : tT 12 = 0 := by decide
    rw [e]
    clear e
    go_enter Tryd.func165, Tryd.ntmps165
    go_wp2
    go_ret
    exact ⟨rfl, by first | exact Below.refl _ _ | exact hb _⟩
  · have e : tT 13 = 0 := by decide
    rw [e]
    clear e
    go_enter Tryd.func165, Tryd.ntmps165
    go_wp2
    go_ret
    exact ⟨rfl, by first | exact Below.refl _ _ | exact hb _⟩
  · have e : tT 14 = 0 := by decide
    rw [e]
    clear e
    go_enter Tryd.func165, Tryd.ntmps165
    go_wp2
    go_ret
    exact ⟨rfl, by first | exact Below.refl _ _ | exact hb _⟩
  · have e : tT 15 = 0 := by decide
    rw [e]
    clear e
    go_enter Tryd.func165, Tryd.ntmps165
    go_wp2
    go_ret
    exact ⟨rfl, by first | exact Below.refl _ _ | exact hb _⟩
  · have e : tT 16 = 0 := by decide
    rw [e]
    clear e
    go_enter Tryd.func165, Tryd.ntmps165
    go_wp2
    go_ret
    exact ⟨rfl, by first | exact Below.refl _ _ | exact hb _⟩
  · have e : tT 17 = 0 := by decide
    rw [e]
    clear e
    go_enter Tryd.func165, Tryd.ntmps165
    go_wp2
    go_ret
    exact ⟨rfl, by first | exact Below.refl _ _ | exact hb _⟩
  · have e : tT 18 = 0 := by decide
    rw [e]
    clear e
    go_enter Tryd.func165, Tryd.ntmps165
    go_wp2
    go_ret
    exact ⟨rfl, by first | exact Below.refl _ _ | exact hb _⟩
  · have e : tT 19 = 16 := by decide
    rw [e]
    clear e
    go_enter Tryd.func165, Tryd.ntmps165
    go_wp2
    go_ret
    exact ⟨rfl, by first | exact Below.refl _ _ | exact hb _⟩
  · have e : tT 20 = 0 := by decide
    rw [e]
    clear e
    go_enter Tryd.func165, Tryd.ntmps165
    go_wp2
    go_ret
    exact ⟨rfl, by first | exact Below.refl _ _ | exact hb _⟩
  · have e : tT 21 = 0 := by decide
    rw [e]
    clear e
    go_enter Tryd.func165, Tryd.ntmps165
    go_wp2
    go_ret
    exact ⟨rfl, by first | exact Below.refl _ _ | exact hb _⟩
  · have e : tT 22 = 0 := by decide
    rw [e]
    clear e
    go_enter Tryd.func165, Tryd.ntmps165
    go_wp2
    go_ret
    exact ⟨rfl, by first | exact Below.refl _ _ | exact hb _⟩
  · have e : tT 23 = 0 := by decide
    rw [e]
    clear e
    go_enter Tryd.func165, Tryd.ntmps165
    go_wp2
    go_ret
    exact ⟨rfl, by first | exact Below.refl _ _ | exact hb _⟩
  · have e : tT 24 = 0 := by decide
    rw [e]
    clear e
    go_enter Tryd.func165, Tryd.ntmps165
    go_wp2
    go_ret
    exact ⟨rfl, by first | exact Below.refl _ _ | exact hb _⟩
  · have e : tT 25 = 0 := by decide
    rw [e]
    clear e
    go_enter Tryd.func165, Tryd.ntmps165
    go_wp2
    go_ret
    exact ⟨rfl, by first | exact Below.refl _ _ | exact hb _⟩
  · have e : tT 26 = 0 := by decide
    rw [e]
    clear e
    go_enter Tryd.func165, Tryd.ntmps165
    go_wp2
    go_ret
    exact ⟨rfl, by first | exact Below.refl _ _ | exact hb _⟩
  · have e : tT 27 = 0 := by decide
    rw [e]
    clear e
    go_enter Tryd.func165, Tryd.ntmps165
    go_wp2
    go_ret
    exact ⟨rfl, by first | exact Below.refl _ _ | exact hb _⟩
  · have e : tT 28 = 0 := by decide
    rw [e]
    clear e
    go_enter Tryd.func165, Tryd.ntmps165
    go_wp2
    go_ret
    exact ⟨rfl, by first | exact Below.refl _ _ | exact hb _⟩
  · have e : tT 29 = 0 := by decide
    rw [e]
    clear e
    go_enter Tryd.func165, Tryd.ntmps165
    go_wp2
    go_ret
    exact ⟨rfl, by first | exact Below.refl _ _ | exact hb _⟩
end Go.Proofs.YtndogdojcbcjgaaDoor
