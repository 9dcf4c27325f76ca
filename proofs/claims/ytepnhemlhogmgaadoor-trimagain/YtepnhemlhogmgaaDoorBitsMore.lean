/- Bits of small numbers. No program is named. -/
import Derived.Test.YtepnhemlhogmgaaDoorBits
namespace Go.Proofs.YtepnhemlhogmgaaDoor
open Go Go.RowKit

theorem testBit_div (n i : Nat) : n.testBit i = decide (n / 2 ^ i % 2 = 1) := Nat.testBit_eq_decide_div_mod_eq
theorem or_pow (m r : Nat) (hm : m < 65536) (hr : r < 12) (h : m.testBit r = false) : m ||| 2 ^ r = m + 2 ^ r := by
  have hp := two_lt r hr
  have hz : bvn m &&& bvn (2 ^ r) = 0#64 := by
    rw [bvn_and]
    have : m &&& 2 ^ r = 0 := by
      apply Nat.eq_of_testBit_eq
      intro i
      rw [Nat.testBit_and, Nat.testBit_two_pow, Nat.zero_testBit]
      by_cases e : r = i
      · subst e; simp [h]
      · simp [e]
    rw [this]; rfl
  have e := BitVec.add_eq_or_of_and_eq_zero (bvn m) (bvn (2 ^ r)) hz
  have e2 : (bvn m + bvn (2 ^ r)).toNat = (bvn m ||| bvn (2 ^ r)).toNat := by rw [e]
  rw [bvn_or] at e2
  have l := or_lt m (2 ^ r) hm hp
  generalize 2 ^ r = q at hp l e2 ⊢
  generalize m ||| q = s at l e2 ⊢
  simp [bvn, BitVec.toNat_add] at e2
  omega
theorem or_pow_same (m r : Nat) (h : m.testBit r = true) : m ||| 2 ^ r = m := by
  apply Nat.eq_of_testBit_eq
  intro i
  rw [Nat.testBit_or, Nat.testBit_two_pow]
  by_cases e : r = i
  · subst e; simp [h]
  · simp [e]

end Go.Proofs.YtepnhemlhogmgaaDoor
