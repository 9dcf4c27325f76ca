/- Numbers: the lowest byte of a number, and division by 256; the eight bytes of a number in two ways. No program is named. -/
import Derived.WalkKit
import Derived.WalkSpells
namespace Go.Proofs.YtjckpdeogbamjaaDoor
open Go Go.RowKit

theorem i64_and255 (n : Int) : bits .and .i64 n 255 = n % 256 := by
  have hm : (BitVec.ofInt 64 255).toNat = 2 ^ 8 - 1 := by decide
  have hk : (BitVec.ofInt 64 n &&& BitVec.ofInt 64 255).toNat = (n % ((2 ^ 64 : Nat) : Int)).toNat % 2 ^ 8 := by
    rw [BitVec.toNat_and, BitVec.toNat_ofInt, hm, Nat.and_two_pow_sub_one_eq_mod]
  show IntKind.i64.wrap ((BitVec.ofInt 64 n &&& BitVec.ofInt 64 255).toNat : Nat) = n % 256
  rw [hk, IntKind.wrap_i64]
  omega
theorem div256 (n : Int) (h1 : -9223372036854775808 ≤ n) (h2 : n ≤ 9223372036854775807) : wrap64 ((wrap64 (n - n % 256)).tdiv 256) = n / 256 := by
  have e1 : wrap64 (n - n % 256) = n - n % 256 := by unfold wrap64; omega
  rw [e1]
  have e2 : (n - n % 256).tdiv 256 = n / 256 := by
    have : n - n % 256 = 256 * (n / 256) := by omega
    rw [this, Int.mul_comm, Int.mul_tdiv_cancel _ (by decide)]
  rw [e2]
  unfold wrap64; omega
def nth (n : Int) (k : Nat) : Int := n / 256 ^ k
theorem wrapBytes (imm : Int) (i : Nat) (hi : i < 8) : IntKind.u64.wrap imm / 2 ^ (8 * i) % 256 = nth imm i % 256 := by
  have e : IntKind.u64.wrap imm = imm % 18446744073709551616 := by simp [IntKind.wrap, IntKind.signed, IntKind.bits]
  rw [e]
  have hc : i = 0 ∨ i = 1 ∨ i = 2 ∨ i = 3 ∨ i = 4 ∨ i = 5 ∨ i = 6 ∨ i = 7 := by omega
  rcases hc with rfl | rfl | rfl | rfl | rfl | rfl | rfl | rfl <;> simp [nth] <;> omega
theorem nth_zero (n : Int) : nth n 0 = n := by simp [nth]
theorem nth_succ (n : Int) (k : Nat) : nth n k / 256 = nth n (k + 1) := by
  unfold nth
  rw [Int.ediv_ediv_of_nonneg (Int.pow_nonneg (by decide)), ← Int.pow_succ]
theorem nth_bounds (n : Int) (h1 : -9223372036854775808 ≤ n) (h2 : n ≤ 9223372036854775807) : ∀ k, -9223372036854775808 ≤ nth n k ∧ nth n k ≤ 9223372036854775807
  | 0 => by rw [nth_zero]; exact ⟨h1, h2⟩
  | k + 1 => by
    have := nth_bounds n h1 h2 k
    rw [← nth_succ]
    omega
/-- The bytes of a number, the lowest ones: so many. -/
def lowBytes (n : Int) : Nat → List Int
  | 0 => []
  | k + 1 => (nth n k % 256) :: lowBytes n k
theorem lowBytes_length (n : Int) : ∀ k, (lowBytes n k).length = k
  | 0 => rfl
  | k + 1 => by simp [lowBytes, lowBytes_length n k]
theorem lowBytes_div (n : Int) : ∀ k, lowBytes n (k + 1) = lowBytes (n / 256) k ++ [n % 256]
  | 0 => by simp [lowBytes, nth_zero]
  | k + 1 => by
    have ih := lowBytes_div n k
    have e : nth n (k + 1) = nth (n / 256) k := by
      unfold nth
      rw [Int.ediv_ediv_of_nonneg (by decide), Int.pow_succ, Int.mul_comm]
    rw [lowBytes, ih, lowBytes, e]
    rfl
end Go.Proofs.YtjckpdeogbamjaaDoor
