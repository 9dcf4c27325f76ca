/- Contracts of the document's machineMade and taken (package tierlineref) (written by gen/mkcpuref.py). -/
import Derived.Test.YtndogdojcbcjgaaDoorGroupX
import Derived.Test.YtndogdojcbcjgaaDoorGroupM
namespace Go.Proofs.YtndogdojcbcjgaaDoor
open Go Go.RowKit

/-- What is made. -/
def MMade (op a b : Int) (w : World) : Prop := Calls Tryd.prog 108 #[.int .i64 op, .int .i64 a, .int .i64 b] w fun e w' => e = .returned (.int .i64 (mdC op a b)) ∧ Below w.heap.size w w'

set_option maxRecDepth 100000 in
theorem mmade_1 (a b : Int) (w : World) (ha : Fits a) (hb : Fits b) : MMade 1 a b w := by
  have HE : mk 2 a b 0 = mdC 1 a b := by simp [mk, mdC]
  have HM : Hid (Calls Tryd.prog 104 #[.int .i64 2, .int .i64 a, .int .i64 b, .int .i64 0] w fun e w' => e = .returned (.tuple #[.int .i64 (mdC 1 a b), .int .i64 (mkE 2 b)]) ∧ Below w.heap.size w w') := (rmade_any 2 a b 0 w ha hb).mono fun e w' h => by rw [HE] at h; exact h
  clear HE ha hb
  unfold MMade
  generalize mdC 1 a b = M at *
  generalize mkE 2 b = E at *
  go_enter Tryd.func108, Tryd.ntmps108
  go_wp2_with (go_at_call 104; refine HM.out.mono ?_; rintro e w1 ⟨rfl, hb1⟩)
  go_ret
  exact ⟨rfl, hb1⟩

set_option maxRecDepth 100000 in
theorem mmade_2 (a b : Int) (w : World) (ha : Fits a) (hb : Fits b) : MMade 2 a b w := by
  have HE : mk 3 a b 0 = mdC 2 a b := by simp [mk, mdC]
  have HM : Hid (Calls Tryd.prog 104 #[.int .i64 3, .int .i64 a, .int .i64 b, .int .i64 0] w fun e w' => e = .returned (.tuple #[.int .i64 (mdC 2 a b), .int .i64 (mkE 3 b)]) ∧ Below w.heap.size w w') := (rmade_any 3 a b 0 w ha hb).mono fun e w' h => by rw [HE] at h; exact h
  clear HE ha hb
  unfold MMade
  generalize mdC 2 a b = M at *
  generalize mkE 3 b = E at *
  go_enter Tryd.func108, Tryd.ntmps108
  go_wp2_with (go_at_call 104; refine HM.out.mono ?_; rintro e w1 ⟨rfl, hb1⟩)
  go_ret
  exact ⟨rfl, hb1⟩

set_option maxRecDepth 100000 in
theorem mmade_3 (a b : Int) (w : World) (ha : Fits a) (hb : Fits b) : MMade 3 a b w := by
  have HE : mk 4 a b 0 = mdC 3 a b := by simp [mk, mdC]
  have HM : Hid (Calls Tryd.prog 104 #[.int .i64 4, .int .i64 a, .int .i64 b, .int .i64 0] w fun e w' => e = .returned (.tuple #[.int .i64 (mdC 3 a b), .int .i64 (mkE 4 b)]) ∧ Below w.heap.size w w') := (rmade_any 4 a b 0 w ha hb).mono fun e w' h => by rw [HE] at h; exact h
  clear HE ha hb
  unfold MMade
  generalize mdC 3 a b = M at *
  generalize mkE 4 b = E at *
  go_enter Tryd.func108, Tryd.ntmps108
  go_wp2_with (go_at_call 104; refine HM.out.mono ?_; rintro e w1 ⟨rfl, hb1⟩)
  go_ret
  exact ⟨rfl, hb1⟩

set_option maxRecDepth 100000 in
theorem mmade_4 (a b : Int) (w : World) (ha : Fits a) (hb : Fits b) : MMade 4 a b w := by
  by_cases h0 : b = 0
  · subst h0
    have e : mdC 4 a 0 = -1 := by simp [mdC]
    unfold MMade
    rw [e]
    clear e ha hb
    go_enter Tryd.func108, Tryd.ntmps108
    go_wp2
    go_ret
    exact ⟨rfl, Below.refl _ _⟩
  · have hb0 : (b == 0) = false := by simpa using h0
    have HE : mk 5 a b 0 = mdC 4 a b := by simp [mk, mdC, h0]
    have HM : Hid (Calls Tryd.prog 104 #[.int .i64 5, .int .i64 a, .int .i64 b, .int .i64 0] w fun e w' => e = .returned (.tuple #[.int .i64 (mdC 4 a b), .int .i64 (mkE 5 b)]) ∧ Below w.heap.size w w') := (rmade_any 5 a b 0 w ha hb).mono fun e w' h => by rw [HE] at h; exact h
    clear HE ha hb
    unfold MMade
    generalize mdC 4 a b = M at *
    generalize mkE 5 b = E at *
    go_enter Tryd.func108, Tryd.ntmps108
    go_wp2_with (go_at_call 104; refine HM.out.mono ?_; rintro e w1 ⟨rfl, hb1⟩)
    go_ret
    exact ⟨rfl, hb1⟩

set_option maxRecDepth 100000 in
theorem mmade_5 (a b : Int) (w : World) (ha : Fits a) (hb : Fits b) : MMade 5 a b w := by
  have HE : mk 6 a b 0 = mdC 5 a b := by simp [mk, mdC]
  have HM : Hid (Calls Tryd.prog 104 #[.int .i64 6, .int .i64 a, .int .i64 b, .int .i64 0] w fun e w' => e = .returned (.tuple #[.int .i64 (mdC 5 a b), .int .i64 (mkE 6 b)]) ∧ Below w.heap.size w w') := (rmade_any 6 a b 0 w ha hb).mono fun e w' h => by rw [HE] at h; exact h
  clear HE ha hb
  unfold MMade
  generalize mdC 5 a b = M at *
  generalize mkE 6 b = E at *
  go_enter Tryd.func108, Tryd.ntmps108
  go_wp2_with (go_at_call 104; refine HM.out.mono ?_; rintro e w1 ⟨rfl, hb1⟩)
  go_ret
  exact ⟨rfl, hb1⟩

set_option maxRecDepth 100000 in
theorem mmade_6 (a b : Int) (w : World) (ha : Fits a) (hb : Fits b) : MMade 6 a b w := by
  have HE : mk 7 a b 0 = mdC 6 a b := by simp [mk, mdC]
  have HM : Hid (Calls Tryd.prog 104 #[.int .i64 7, .int .i64 a, .int .i64 b, .int .i64 0] w fun e w' => e = .returned (.tuple #[.int .i64 (mdC 6 a b), .int .i64 (mkE 7 b)]) ∧ Below w.heap.size w w') := (rmade_any 7 a b 0 w ha hb).mono fun e w' h => by rw [HE] at h; exact h
  clear HE ha hb
  unfold MMade
  generalize mdC 6 a b = M at *
  generalize mkE 7 b = E at *
  go_enter Tryd.func108, Tryd.ntmps108
  go_wp2_with (go_at_call 104; refine HM.out.mono ?_; rintro e w1 ⟨rfl, hb1⟩)
  go_ret
  exact ⟨rfl, hb1⟩

set_option maxRecDepth 100000 in
theorem mmade_7 (a b : Int) (w : World) (ha : Fits a) (hb : Fits b) : MMade 7 a b w := by
  have HE : mk 8 a b 0 = mdC 7 a b := by simp [mk, mdC]
  have HM : Hid (Calls Tryd.prog 104 #[.int .i64 8, .int .i64 a, .int .i64 b, .int .i64 0] w fun e w' => e = .returned (.tuple #[.int .i64 (mdC 7 a b), .int .i64 (mkE 8 b)]) ∧ Below w.heap.size w w') := (rmade_any 8 a b 0 w ha hb).mono fun e w' h => by rw [HE] at h; exact h
  clear HE ha hb
  unfold MMade
  generalize mdC 7 a b = M at *
  generalize mkE 8 b = E at *
  go_enter Tryd.func108, Tryd.ntmps108
  go_wp2_with (go_at_call 104; refine HM.out.mono ?_; rintro e w1 ⟨rfl, hb1⟩)
  go_ret
  exact ⟨rfl, hb1⟩

set_option maxRecDepth 100000 in
theorem mmade_8 (a b : Int) (w : World) (ha : Fits a) (hb : Fits b) : MMade 8 a b w := by
  have HE : mk 9 a b 0 = mdC 8 a b := by simp [mk, mdC]
  have HM : Hid (Calls Tryd.prog 104 #[.int .i64 9, .int .i64 a, .int .i64 b, .int .i64 0] w fun e w' => e = .returned (.tuple #[.int .i64 (mdC 8 a b), .int .i64 (mkE 9 b)]) ∧ Below w.heap.size w w') := (rmade_any 9 a b 0 w ha hb).mono fun e w' h => by rw [HE] at h; exact h
  clear HE ha hb
  unfold MMade
  generalize mdC 8 a b = M at *
  generalize mkE 9 b = E at *
  go_enter Tryd.func108, Tryd.ntmps108
  go_wp2_with (go_at_call 104; refine HM.out.mono ?_; rintro e w1 ⟨rfl, hb1⟩)
  go_ret
  exact ⟨rfl, hb1⟩

set_option maxRecDepth 100000 in
theorem mmade_9 (a b : Int) (w : World) (ha : Fits a) (hb : Fits b) : MMade 9 a b w := by
  have HE : mk 10 a b 0 = mdC 9 a b := by simp [mk, mdC]
  have HM : Hid (Calls Tryd.prog 104 #[.int .i64 10, .int .i64 a, .int .i64 b, .int .i64 0] w fun e w' => e = .returned (.tuple #[.int .i64 (mdC 9 a b), .int .i64 (mkE 10 b)]) ∧ Below w.heap.size w w') := (rmade_any 10 a b 0 w ha hb).mono fun e w' h => by rw [HE] at h; exact h
  clear HE ha hb
  unfold MMade
  generalize mdC 9 a b = M at *
  generalize mkE 10 b = E at *
  go_enter Tryd.func108, Tryd.ntmps108
  go_wp2_with (go_at_call 104; refine HM.out.mono ?_; rintro e w1 ⟨rfl, hb1⟩)
  go_ret
  exact ⟨rfl, hb1⟩

set_option maxRecDepth 100000 in
theorem mmade_10 (a b : Int) (w : World) (ha : Fits a) (hb : Fits b) : MMade 10 a b w := by
  have HE : mk 11 a b 0 = mdC 10 a b := by simp [mk, mdC]
  have HM : Hid (Calls Tryd.prog 104 #[.int .i64 11, .int .i64 a, .int .i64 b, .int .i64 0] w fun e w' => e = .returned (.tuple #[.int .i64 (mdC 10 a b), .int .i64 (mkE 11 b)]) ∧ Below w.heap.size w w') := (rmade_any 11 a b 0 w ha hb).mono fun e w' h => by rw [HE] at h; exact h
  clear HE ha hb
  unfold MMade
  generalize mdC 10 a b = M at *
  generalize mkE 11 b = E at *
  go_enter Tryd.func108, Tryd.ntmps108
  go_wp2_with (go_at_call 104; refine HM.out.mono ?_; rintro e w1 ⟨rfl, hb1⟩)
  go_ret
  exact ⟨rfl, hb1⟩

set_option maxRecDepth 100000 in
theorem mmade_11 (a b : Int) (w : World) (ha : Fits a) (hb : Fits b) : MMade 11 a b w := by
  have e0 : mdC 11 a b = if a % 18446744073709551616 < b % 18446744073709551616 then 1 else 0 := by simp [mdC]
  have hf := ha
  have hg := hb
  unfold Fits at hf hg
  by_cases h1 : a < 0 ∧ 0 ≤ b
  · have e : mdC 11 a b = 0 := by rw [e0, if_neg (by omega)]
    have d1 : decide (a < 0) = true := by simpa using h1.1
    have d2 : decide (0 ≤ b) = true := by simpa using h1.2
    unfold MMade
    rw [e]
    clear e e0 ha hb hf hg h1
    go_enter Tryd.func108, Tryd.ntmps108
    go_wp2
    go_ret
    exact ⟨rfl, Below.refl _ _⟩
  · by_cases h2 : 0 ≤ a ∧ b < 0
    · have e : mdC 11 a b = 1 := by rw [e0, if_pos (by omega)]
      have d0 : decide (a < 0) = false := by simp; omega
      have d1 : decide (0 ≤ a) = true := by simpa using h2.1
      have d2 : decide (b < 0) = true := by simpa using h2.2
      unfold MMade
      rw [e]
      clear e e0 ha hb hf hg h1 h2
      go_enter Tryd.func108, Tryd.ntmps108
      go_wp2
      go_ret
      exact ⟨rfl, Below.refl _ _⟩
    · have HE : mk 11 a b 0 = mdC 11 a b := by
        rw [e0]
        have : mk 11 a b 0 = if a < b then 1 else 0 := by simp [mk]
        rw [this]
        by_cases h : a < b
        · rw [if_pos h, if_pos (by omega)]
        · rw [if_neg h, if_neg (by omega)]
      have HM : Hid (Calls Tryd.prog 104 #[.int .i64 11, .int .i64 a, .int .i64 b, .int .i64 0] w fun e w' => e = .returned (.tuple #[.int .i64 (mdC 11 a b), .int .i64 (mkE 11 b)]) ∧ Below w.heap.size w w') := (rmade_any 11 a b 0 w ha hb).mono fun e w' h => by rw [HE] at h; exact h
      unfold MMade
      clear HE e0 ha hb hf hg
      generalize mdC 11 a b = M at *
      generalize mkE 11 b = E at *
      by_cases ha0 : a < 0
      · have d1 : decide (a < 0) = true := by simpa using ha0
        have d2 : decide (0 ≤ b) = false := by simp; omega
        have d3 : decide (0 ≤ a) = false := by simp; omega
        clear h1 h2 ha0
        go_enter Tryd.func108, Tryd.ntmps108
        go_wp2_with (go_at_call 104; refine HM.out.mono ?_; rintro e w1 ⟨rfl, hb1⟩)
        go_ret
        exact ⟨rfl, hb1⟩
      · have d1 : decide (a < 0) = false := by simpa using ha0
        have d2 : decide (b < 0) = false := by simp; omega
        have d3 : decide (0 ≤ a) = true := by simp; omega
        clear h1 h2 ha0
        go_enter Tryd.func108, Tryd.ntmps108
        go_wp2_with (go_at_call 104; refine HM.out.mono ?_; rintro e w1 ⟨rfl, hb1⟩)
        go_ret
        exact ⟨rfl, hb1⟩

set_option maxRecDepth 100000 in
theorem mmade_12 (a b : Int) (w : World) (ha : Fits a) (hb : Fits b) : MMade 12 a b w := by
  have HE : mk 2 a b 0 = mdC 12 a b := by simp [mk, mdC]
  have HM : Hid (Calls Tryd.prog 104 #[.int .i64 2, .int .i64 a, .int .i64 b, .int .i64 0] w fun e w' => e = .returned (.tuple #[.int .i64 (mdC 12 a b), .int .i64 (mkE 2 b)]) ∧ Below w.heap.size w w') := (rmade_any 2 a b 0 w ha hb).mono fun e w' h => by rw [HE] at h; exact h
  clear HE ha hb
  unfold MMade
  generalize mdC 12 a b = M at *
  generalize mkE 2 b = E at *
  go_enter Tryd.func108, Tryd.ntmps108
  go_wp2_with (go_at_call 104; refine HM.out.mono ?_; rintro e w1 ⟨rfl, hb1⟩)
  go_ret
  exact ⟨rfl, hb1⟩

set_option maxRecDepth 100000 in
theorem mmade_13 (a b : Int) (w : World) (ha : Fits a) (hb : Fits b) : MMade 13 a b w := by
  have HE : mk 6 a b 0 = mdC 13 a b := by simp [mk, mdC]
  have HM : Hid (Calls Tryd.prog 104 #[.int .i64 6, .int .i64 a, .int .i64 b, .int .i64 0] w fun e w' => e = .returned (.tuple #[.int .i64 (mdC 13 a b), .int .i64 (mkE 6 b)]) ∧ Below w.heap.size w w') := (rmade_any 6 a b 0 w ha hb).mono fun e w' h => by rw [HE] at h; exact h
  clear HE ha hb
  unfold MMade
  generalize mdC 13 a b = M at *
  generalize mkE 6 b = E at *
  go_enter Tryd.func108, Tryd.ntmps108
  go_wp2_with (go_at_call 104; refine HM.out.mono ?_; rintro e w1 ⟨rfl, hb1⟩)
  go_ret
  exact ⟨rfl, hb1⟩

set_option maxRecDepth 100000 in
theorem mmade_14 (a b : Int) (w : World) (ha : Fits a) (hb : Fits b) : MMade 14 a b w := by
  have HE : mk 7 a b 0 = mdC 14 a b := by simp [mk, mdC]
  have HM : Hid (Calls Tryd.prog 104 #[.int .i64 7, .int .i64 a, .int .i64 b, .int .i64 0] w fun e w' => e = .returned (.tuple #[.int .i64 (mdC 14 a b), .int .i64 (mkE 7 b)]) ∧ Below w.heap.size w w') := (rmade_any 7 a b 0 w ha hb).mono fun e w' h => by rw [HE] at h; exact h
  clear HE ha hb
  unfold MMade
  generalize mdC 14 a b = M at *
  generalize mkE 7 b = E at *
  go_enter Tryd.func108, Tryd.ntmps108
  go_wp2_with (go_at_call 104; refine HM.out.mono ?_; rintro e w1 ⟨rfl, hb1⟩)
  go_ret
  exact ⟨rfl, hb1⟩

set_option maxRecDepth 100000 in
theorem mmade_15 (a b : Int) (w : World) (ha : Fits a) (hb : Fits b) : MMade 15 a b w := by
  have HE : mk 8 a b 0 = mdC 15 a b := by simp [mk, mdC]
  have HM : Hid (Calls Tryd.prog 104 #[.int .i64 8, .int .i64 a, .int .i64 b, .int .i64 0] w fun e w' => e = .returned (.tuple #[.int .i64 (mdC 15 a b), .int .i64 (mkE 8 b)]) ∧ Below w.heap.size w w') := (rmade_any 8 a b 0 w ha hb).mono fun e w' h => by rw [HE] at h; exact h
  clear HE ha hb
  unfold MMade
  generalize mdC 15 a b = M at *
  generalize mkE 8 b = E at *
  go_enter Tryd.func108, Tryd.ntmps108
  go_wp2_with (go_at_call 104; refine HM.out.mono ?_; rintro e w1 ⟨rfl, hb1⟩)
  go_ret
  exact ⟨rfl, hb1⟩

set_option maxRecDepth 100000 in
theorem mmade_16 (a b : Int) (w : World) (ha : Fits a) (hb : Fits b) : MMade 16 a b w := by
  have HE : mk 11 a b 0 = mdC 16 a b := by simp [mk, mdC]
  have HM : Hid (Calls Tryd.prog 104 #[.int .i64 11, .int .i64 a, .int .i64 b, .int .i64 0] w fun e w' => e = .returned (.tuple #[.int .i64 (mdC 16 a b), .int .i64 (mkE 11 b)]) ∧ Below w.heap.size w w') := (rmade_any 11 a b 0 w ha hb).mono fun e w' h => by rw [HE] at h; exact h
  clear HE ha hb
  unfold MMade
  generalize mdC 16 a b = M at *
  generalize mkE 11 b = E at *
  go_enter Tryd.func108, Tryd.ntmps108
  go_wp2_with (go_at_call 104; refine HM.out.mono ?_; rintro e w1 ⟨rfl, hb1⟩)
  go_ret
  exact ⟨rfl, hb1⟩

set_option maxRecDepth 100000 in
theorem mmade_17 (a b : Int) (w : World) (ha : Fits a) (hb : Fits b) : MMade 17 a b w := by
  have e0 : mdC 17 a b = if a % 18446744073709551616 < b % 18446744073709551616 then 1 else 0 := by simp [mdC]
  have hf := ha
  have hg := hb
  unfold Fits at hf hg
  by_cases h1 : a < 0 ∧ 0 ≤ b
  · have e : mdC 17 a b = 0 := by rw [e0, if_neg (by omega)]
    have d1 : decide (a < 0) = true := by simpa using h1.1
    have d2 : decide (0 ≤ b) = true := by simpa using h1.2
    unfold MMade
    rw [e]
    clear e e0 ha hb hf hg h1
    go_enter Tryd.func108, Tryd.ntmps108
    go_wp2
    go_ret
    exact ⟨rfl, Below.refl _ _⟩
  · by_cases h2 : 0 ≤ a ∧ b < 0
    · have e : mdC 17 a b = 1 := by rw [e0, if_pos (by omega)]
      have d0 : decide (a < 0) = false := by simp; omega
      have d1 : decide (0 ≤ a) = true := by simpa using h2.1
      have d2 : decide (b < 0) = true := by simpa using h2.2
      unfold MMade
      rw [e]
      clear e e0 ha hb hf hg h1 h2
      go_enter Tryd.func108, Tryd.ntmps108
      go_wp2
      go_ret
      exact ⟨rfl, Below.refl _ _⟩
    · have HE : mk 11 a b 0 = mdC 17 a b := by
        rw [e0]
        have : mk 11 a b 0 = if a < b then 1 else 0 := by simp [mk]
        rw [this]
        by_cases h : a < b
        · rw [if_pos h, if_pos (by omega)]
        · rw [if_neg h, if_neg (by omega)]
      have HM : Hid (Calls Tryd.prog 104 #[.int .i64 11, .int .i64 a, .int .i64 b, .int .i64 0] w fun e w' => e = .returned (.tuple #[.int .i64 (mdC 17 a b), .int .i64 (mkE 11 b)]) ∧ Below w.heap.size w w') := (rmade_any 11 a b 0 w ha hb).mono fun e w' h => by rw [HE] at h; exact h
      unfold MMade
      clear HE e0 ha hb hf hg
      generalize mdC 17 a b = M at *
      generalize mkE 11 b = E at *
      by_cases ha0 : a < 0
      · have d1 : decide (a < 0) = true := by simpa using ha0
        have d2 : decide (0 ≤ b) = false := by simp; omega
        have d3 : decide (0 ≤ a) = false := by simp; omega
        clear h1 h2 ha0
        go_enter Tryd.func108, Tryd.ntmps108
        go_wp2_with (go_at_call 104; refine HM.out.mono ?_; rintro e w1 ⟨rfl, hb1⟩)
        go_ret
        exact ⟨rfl, hb1⟩
      · have d1 : decide (a < 0) = false := by simpa using ha0
        have d2 : decide (b < 0) = false := by simp; omega
        have d3 : decide (0 ≤ a) = true := by simp; omega
        clear h1 h2 ha0
        go_enter Tryd.func108, Tryd.ntmps108
        go_wp2_with (go_at_call 104; refine HM.out.mono ?_; rintro e w1 ⟨rfl, hb1⟩)
        go_ret
        exact ⟨rfl, hb1⟩

set_option maxRecDepth 100000 in
theorem mmade_18 (a b : Int) (w : World) (ha : Fits a) (hb : Fits b) : MMade 18 a b w := by
  have HE : mk 9 a b 0 = mdC 18 a b := by simp [mk, mdC]
  have HM : Hid (Calls Tryd.prog 104 #[.int .i64 9, .int .i64 a, .int .i64 b, .int .i64 0] w fun e w' => e = .returned (.tuple #[.int .i64 (mdC 18 a b), .int .i64 (mkE 9 b)]) ∧ Below w.heap.size w w') := (rmade_any 9 a b 0 w ha hb).mono fun e w' h => by rw [HE] at h; exact h
  clear HE ha hb
  unfold MMade
  generalize mdC 18 a b = M at *
  generalize mkE 9 b = E at *
  go_enter Tryd.func108, Tryd.ntmps108
  go_wp2_with (go_at_call 104; refine HM.out.mono ?_; rintro e w1 ⟨rfl, hb1⟩)
  go_ret
  exact ⟨rfl, hb1⟩

set_option maxRecDepth 100000 in
theorem mmade_19 (a b : Int) (w : World) (ha : Fits a) (hb : Fits b) : MMade 19 a b w := by
  have HE : mk 10 a b 0 = mdC 19 a b := by simp [mk, mdC]
  have HM : Hid (Calls Tryd.prog 104 #[.int .i64 10, .int .i64 a, .int .i64 b, .int .i64 0] w fun e w' => e = .returned (.tuple #[.int .i64 (mdC 19 a b), .int .i64 (mkE 10 b)]) ∧ Below w.heap.size w w') := (rmade_any 10 a b 0 w ha hb).mono fun e w' h => by rw [HE] at h; exact h
  clear HE ha hb
  unfold MMade
  generalize mdC 19 a b = M at *
  generalize mkE 10 b = E at *
  go_enter Tryd.func108, Tryd.ntmps108
  go_wp2_with (go_at_call 104; refine HM.out.mono ?_; rintro e w1 ⟨rfl, hb1⟩)
  go_ret
  exact ⟨rfl, hb1⟩

theorem mmade_any (op a b : Int) (h1 : 1 ≤ op) (h2 : op ≤ 19) (w : World) (ha : Fits a) (hb : Fits b) : MMade op a b w := by
  rcases (show op = 1 ∨ op = 2 ∨ op = 3 ∨ op = 4 ∨ op = 5 ∨ op = 6 ∨ op = 7 ∨ op = 8 ∨ op = 9 ∨ op = 10 ∨ op = 11 ∨ op = 12 ∨ op = 13 ∨ op = 14 ∨ op = 15 ∨ op = 16 ∨ op = 17 ∨ op = 18 ∨ op = 19 by omega) with rfl | rfl | rfl | rfl | rfl | rfl | rfl | rfl | rfl | rfl | rfl | rfl | rfl | rfl | rfl | rfl | rfl | rfl | rfl
  · exact mmade_1 a b w ha hb
  · exact mmade_2 a b w ha hb
  · exact mmade_3 a b w ha hb
  · exact mmade_4 a b w ha hb
  · exact mmade_5 a b w ha hb
  · exact mmade_6 a b w ha hb
  · exact mmade_7 a b w ha hb
  · exact mmade_8 a b w ha hb
  · exact mmade_9 a b w ha hb
  · exact mmade_10 a b w ha hb
  · exact mmade_11 a b w ha hb
  · exact mmade_12 a b w ha hb
  · exact mmade_13 a b w ha hb
  · exact mmade_14 a b w ha hb
  · exact mmade_15 a b w ha hb
  · exact mmade_16 a b w ha hb
  · exact mmade_17 a b w ha hb
  · exact mmade_18 a b w ha hb
  · exact mmade_19 a b w ha hb

set_option maxRecDepth 100000 in
theorem rtaken_22 (a b : Int) (w : World) : Calls Tryd.prog 109 #[.int .i64 22, .int .i64 a, .int .i64 b] w fun e w' => e = .returned (.bool (holdsB 22 a b)) ∧ Below w.heap.size w w' := by
  by_cases h : a = b
  · have e : holdsB 22 a b = true := by simp [holdsB, h]
    rw [e]
    have d1 : (a == b) = true := by simpa using h
    have d2 : (a != b) = false := by simpa using h
    clear e h
    go_enter Tryd.func109, Tryd.ntmps109
    go_wp2
    go_ret
    exact ⟨rfl, Below.refl _ _⟩
  · have e : holdsB 22 a b = false := by simp [holdsB, h]
    rw [e]
    have d1 : (a == b) = false := by simpa using h
    have d2 : (a != b) = true := by simpa using h
    clear e h
    go_enter Tryd.func109, Tryd.ntmps109
    go_wp2
    go_ret
    exact ⟨rfl, Below.refl _ _⟩

set_option maxRecDepth 100000 in
theorem rtaken_23 (a b : Int) (w : World) : Calls Tryd.prog 109 #[.int .i64 23, .int .i64 a, .int .i64 b] w fun e w' => e = .returned (.bool (holdsB 23 a b)) ∧ Below w.heap.size w w' := by
  by_cases h : a = b
  · have e : holdsB 23 a b = false := by simp [holdsB, h]
    rw [e]
    have d1 : (a == b) = true := by simpa using h
    have d2 : (a != b) = false := by simpa using h
    clear e h
    go_enter Tryd.func109, Tryd.ntmps109
    go_wp2
    go_ret
    exact ⟨rfl, Below.refl _ _⟩
  · have e : holdsB 23 a b = true := by simp [holdsB, h]
    rw [e]
    have d1 : (a == b) = false := by simpa using h
    have d2 : (a != b) = true := by simpa using h
    clear e h
    go_enter Tryd.func109, Tryd.ntmps109
    go_wp2
    go_ret
    exact ⟨rfl, Below.refl _ _⟩

set_option maxRecDepth 100000 in
theorem rtaken_24 (a b : Int) (w : World) : Calls Tryd.prog 109 #[.int .i64 24, .int .i64 a, .int .i64 b] w fun e w' => e = .returned (.bool (holdsB 24 a b)) ∧ Below w.heap.size w w' := by
  by_cases h : a < b
  · have e : holdsB 24 a b = true := by simp [holdsB, h]
    rw [e]
    have d1 : decide (a < b) = true := by simpa using h
    clear e h
    go_enter Tryd.func109, Tryd.ntmps109
    go_wp2
    go_ret
    exact ⟨rfl, Below.refl _ _⟩
  · have e : holdsB 24 a b = false := by simp [holdsB, h]
    rw [e]
    have d1 : decide (a < b) = false := by simpa using h
    clear e h
    go_enter Tryd.func109, Tryd.ntmps109
    go_wp2
    go_ret
    exact ⟨rfl, Below.refl _ _⟩

set_option maxRecDepth 100000 in
theorem rtaken_25 (a b : Int) (w : World) : Calls Tryd.prog 109 #[.int .i64 25, .int .i64 a, .int .i64 b] w fun e w' => e = .returned (.bool (holdsB 25 a b)) ∧ Below w.heap.size w w' := by
  by_cases h : a < b
  · have e : holdsB 25 a b = false := by simp [holdsB]; omega
    rw [e]
    have d1 : decide (a < b) = true := by simpa using h
    clear e h
    go_enter Tryd.func109, Tryd.ntmps109
    go_wp2
    go_ret
    exact ⟨rfl, Below.refl _ _⟩
  · have e : holdsB 25 a b = true := by simp [holdsB]; omega
    rw [e]
    have d1 : decide (a < b) = false := by simpa using h
    clear e h
    go_enter Tryd.func109, Tryd.ntmps109
    go_wp2
    go_ret
    exact ⟨rfl, Below.refl _ _⟩

theorem rtaken_any (op a b : Int) (h1 : 22 ≤ op) (h2 : op ≤ 25) (w : World) : Calls Tryd.prog 109 #[.int .i64 op, .int .i64 a, .int .i64 b] w fun e w' => e = .returned (.bool (holdsB op a b)) ∧ Below w.heap.size w w' := by
  rcases (show op = 22 ∨ op = 23 ∨ op = 24 ∨ op = 25 by omega) with rfl | rfl | rfl | rfl
  · exact rtaken_22 a b w
  · exact rtaken_23 a b w
  · exact rtaken_24 a b w
  · exact rtaken_25 a b w
end Go.Proofs.YtndogdojcbcjgaaDoor
