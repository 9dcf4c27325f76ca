/- Contract of tierlineref.Made: the document's own reckoning, op by op. -/
import Derived.Test.YtiaammieldfkcaaDoorXOfBits
namespace Go.Proofs.YtiaammieldfkcaaDoor
open Go Go.RowKit

theorem rin_any (n a b : Int) (w : World) :
    Calls Tryd.prog 36 #[.int .i64 n, .int .i64 a, .int .i64 b] w fun e w' => e = .returned (.bool (decide (a ≤ n ∧ n ≤ b))) ∧ w' = w := by
  by_cases h0 : a ≤ n
  · by_cases h1 : n ≤ b
    · have e : decide (a ≤ n ∧ n ≤ b) = true := by simp [h0, h1]
      rw [e]; clear e
      go_enter Tryd.func36, Tryd.ntmps36
      go_wp2
      go_ret
      exact ⟨rfl, rfl⟩
    · have e : decide (a ≤ n ∧ n ≤ b) = false := by simp [h1]
      rw [e]; clear e
      go_enter Tryd.func36, Tryd.ntmps36
      go_wp2
      go_ret
      exact ⟨rfl, rfl⟩
  · have e : decide (a ≤ n ∧ n ≤ b) = false := by simp [h0]
    rw [e]; clear e
    go_enter Tryd.func36, Tryd.ntmps36
    go_wp2
    go_ret
    exact ⟨rfl, rfl⟩

theorem zeros64 (x : BitVec 64) : bitsPart x 0 = (List.replicate 64 (Value.bool false)).toArray := by
  apply Array.ext_getElem?
  intro i
  by_cases hi : i < 64
  · rw [bitsPart_get x 0 i hi, List.getElem?_toArray, List.getElem?_replicate, if_pos hi]; simp
  · rw [Array.getElem?_eq_none (by simp [bitsPart_size]; omega), Array.getElem?_eq_none (by simp; omega)]
/-- The lowest six bits, as far as they are reckoned. -/
def low6 (y : BitVec 64) (k : Nat) : Nat := y.toNat % 64 / 2 ^ (6 - k)
theorem low6_step (y : BitVec 64) (k : Nat) (h : k < 6) : low6 y (k + 1) = low6 y k * 2 + (if y.getLsbD (5 - k) then 1 else 0) ∧ low6 y k < 64 := by
  have e1 : y.getLsbD (5 - k) = decide (y.toNat % 64 / 2 ^ (5 - k) % 2 = 1) := by
    have e : (y.toNat % 64).testBit (5 - k) = y.toNat.testBit (5 - k) := by
      generalize y.toNat = m
      rw [show (64 : Nat) = 2 ^ 6 from rfl, Nat.testBit_mod_two_pow]; simp; omega
    show y.toNat.testBit (5 - k) = _
    rw [← e, Nat.testBit_eq_decide_div_mod_eq]
  have e2 : y.toNat % 64 / 2 ^ (6 - k) = y.toNat % 64 / 2 ^ (5 - k) / 2 := by
    rw [show 6 - k = 5 - k + 1 by omega, Nat.pow_succ, Nat.div_div_eq_div_mul]
  have e3 : 6 - (k + 1) = 5 - k := by omega
  unfold low6
  rw [e1, e2, e3]
  have h6 : y.toNat % 64 / 2 ^ (5 - k) < 64 := Nat.lt_of_le_of_lt (Nat.div_le_self _ _) (Nat.mod_lt _ (by decide))
  generalize y.toNat % 64 / 2 ^ (5 - k) = h' at h6
  constructor
  · by_cases hb : h' % 2 = 1
    · simp [hb]; omega
    · simp [hb]; omega
  · omega
theorem low6_zero (y : BitVec 64) : low6 y 0 = 0 := by
  unfold low6
  exact Nat.div_eq_of_lt (Nat.mod_lt _ (by decide))
theorem low6_last (y : BitVec 64) : low6 y 6 = (y.toInt % 64).toNat := by
  unfold low6
  have e : y.toNat % 64 / 2 ^ (6 - 6) = y.toNat % 64 := by rw [Nat.sub_self, Nat.pow_zero, Nat.div_one]
  rw [e, BitVec.toInt_eq_toNat_cond]
  split <;> omega
theorem part_same (r : BitVec 64) (k : Nat) (h : r.getLsbD k = false) : bitsPart r (k + 1) = bitsPart r k := by
  apply Array.ext_getElem?
  intro i
  by_cases hi : i < 64
  · rw [bitsPart_get r (k + 1) i hi, bitsPart_get r k i hi]
    by_cases e : i = k
    · subst e; simp [h]
    · have : decide (i < k + 1) = decide (i < k) := decide_eq_decide.2 (by omega)
      rw [this]
  · rw [Array.getElem?_eq_none (by simp [bitsPart_size]; omega), Array.getElem?_eq_none (by simp [bitsPart_size]; omega)]

set_option maxRecDepth 100000 in
theorem rmade_set (a b imm : Int) (w : World) :
    Calls Tryd.prog 37 #[.int .i64 1, .int .i64 a, .int .i64 b, .int .i64 imm] w fun e w' => e = .returned (.tuple #[.int .i64 imm, .int .i64 0]) ∧ Below w.heap.size w w' := by
  go_enter Tryd.func37, Tryd.ntmps37
  go_wp2
  all_goals go_ret2
  all_goals exact ⟨rfl, Below.refl _ _⟩
set_option maxRecDepth 100000 in
theorem rmade_add (a b imm : Int) (w : World) :
    Calls Tryd.prog 37 #[.int .i64 2, .int .i64 a, .int .i64 b, .int .i64 imm] w fun e w' => e = .returned (.tuple #[.int .i64 (wrap64 (a + b)), .int .i64 0]) ∧ Below w.heap.size w w' := by
  go_enter Tryd.func37, Tryd.ntmps37
  go_wp2
  all_goals go_ret2
  all_goals exact ⟨rfl, Below.refl _ _⟩
set_option maxRecDepth 100000 in
theorem rmade_sub (a b imm : Int) (w : World) :
    Calls Tryd.prog 37 #[.int .i64 3, .int .i64 a, .int .i64 b, .int .i64 imm] w fun e w' => e = .returned (.tuple #[.int .i64 (wrap64 (a - b)), .int .i64 0]) ∧ Below w.heap.size w w' := by
  go_enter Tryd.func37, Tryd.ntmps37
  go_wp2
  all_goals go_ret2
  all_goals exact ⟨rfl, Below.refl _ _⟩
set_option maxRecDepth 100000 in
theorem rmade_mul (a b imm : Int) (w : World) :
    Calls Tryd.prog 37 #[.int .i64 4, .int .i64 a, .int .i64 b, .int .i64 imm] w fun e w' => e = .returned (.tuple #[.int .i64 (wrap64 (a * b)), .int .i64 0]) ∧ Below w.heap.size w w' := by
  go_enter Tryd.func37, Tryd.ntmps37
  go_wp2
  all_goals go_ret2
  all_goals exact ⟨rfl, Below.refl _ _⟩
set_option maxRecDepth 100000 in
theorem rmade_zero (a b imm : Int) (w : World) (hb : b = 0) :
    Calls Tryd.prog 37 #[.int .i64 5, .int .i64 a, .int .i64 b, .int .i64 imm] w fun e w' => e = .returned (.tuple #[.int .i64 0, .int .i64 9]) ∧ Below w.heap.size w w' := by
  subst hb
  go_enter Tryd.func37, Tryd.ntmps37
  go_wp2
  all_goals go_ret2
  all_goals exact ⟨rfl, Below.refl _ _⟩
set_option maxRecDepth 100000 in
theorem rmade_div (a b imm : Int) (w : World) (hb : ¬ b = 0) :
    Calls Tryd.prog 37 #[.int .i64 5, .int .i64 a, .int .i64 b, .int .i64 imm] w fun e w' => e = .returned (.tuple #[.int .i64 (wrap64 (a.tdiv b)), .int .i64 0]) ∧ Below w.heap.size w w' := by
  go_enter Tryd.func37, Tryd.ntmps37
  go_wp2
  all_goals go_ret2
  all_goals exact ⟨rfl, Below.refl _ _⟩
set_option maxRecDepth 100000 in
theorem rmade_lt (a b imm : Int) (w : World) :
    Calls Tryd.prog 37 #[.int .i64 11, .int .i64 a, .int .i64 b, .int .i64 imm] w fun e w' => e = .returned (.tuple #[.int .i64 (if a < b then 1 else 0), .int .i64 0]) ∧ Below w.heap.size w w' := by
  by_cases h : a < b
  · rw [if_pos h]
    go_enter Tryd.func37, Tryd.ntmps37
    go_wp2
    go_ret2
    exact ⟨rfl, Below.refl _ _⟩
  · rw [if_neg h]
    go_enter Tryd.func37, Tryd.ntmps37
    go_wp2
    go_ret2
    exact ⟨rfl, Below.refl _ _⟩
set_option maxRecDepth 100000 in
theorem rmade_eq (a b imm : Int) (w : World) :
    Calls Tryd.prog 37 #[.int .i64 12, .int .i64 a, .int .i64 b, .int .i64 imm] w fun e w' => e = .returned (.tuple #[.int .i64 (if a = b then 1 else 0), .int .i64 0]) ∧ Below w.heap.size w w' := by
  by_cases h : a = b
  · rw [if_pos h]
    go_enter Tryd.func37, Tryd.ntmps37
    go_wp2
    go_ret2
    exact ⟨rfl, Below.refl _ _⟩
  · rw [if_neg h]
    go_enter Tryd.func37, Tryd.ntmps37
    go_wp2
    go_ret2
    exact ⟨rfl, Below.refl _ _⟩
theorem rmade_none (op a b imm : Int) (w : World) (h : op < 1 ∨ 12 < op) :
    Calls Tryd.prog 37 #[.int .i64 op, .int .i64 a, .int .i64 b, .int .i64 imm] w fun e w' => e = .returned (.tuple #[.int .i64 0, .int .i64 3]) ∧ Below w.heap.size w w' := by
  have hi := fun w => rin_any op 1 12 w
  have e : decide ((1 : Int) ≤ op ∧ op ≤ 12) = false := by simp; omega
  rw [e] at hi
  clear e h
  go_enter Tryd.func37, Tryd.ntmps37
  go_wp2_with (go_at_call 36; refine (hi _).mono ?_; rintro e w' ⟨rfl, hw'⟩; replace hw' := hw'.symm; subst hw')
  go_ret2
  exact ⟨rfl, Below.refl _ _⟩
end Go.Proofs.YtiaammieldfkcaaDoor
