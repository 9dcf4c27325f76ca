/- Bits of numbers of 64 bits, as bit vectors. No program is named. -/
import Derived.WalkKit
import Derived.WalkSpells
namespace Go.Proofs.YtapjfiihfgndeaaDoor
open Go Go.RowKit

theorem wrap_bv (z : BitVec 64) : IntKind.i64.wrap (z.toNat : Int) = z.toInt := by
  have h := z.isLt
  have h' : z.toNat < 18446744073709551616 := h
  have e : (z.toNat : Int) % 2 ^ 64 = z.toNat := Int.emod_eq_of_lt (by omega) (by simp; omega)
  have w1 : IntKind.i64.wrap (z.toNat : Int) = if (true && decide ((z.toNat : Int) ≥ 2 ^ 63)) = true then (z.toNat : Int) - (2 ^ 64 : Int) else (z.toNat : Int) := by
    simp only [IntKind.wrap, IntKind.bits, IntKind.signed, e]
  rw [w1, BitVec.toInt_eq_toNat_cond]
  by_cases hs : 2 * z.toNat < 2 ^ 64
  · have h2 : ¬ ((z.toNat : Int) ≥ 2 ^ 63) := by simp at hs ⊢; omega
    rw [if_pos hs, if_neg (by simpa using h2)]
  · have h2 : (z.toNat : Int) ≥ 2 ^ 63 := by simp at hs ⊢; omega
    rw [if_neg hs, if_pos (by simpa using h2)]
    simp
theorem bits_or_bv (x y : BitVec 64) : bits .or .i64 x.toInt y.toInt = (x ||| y).toInt := by
  show IntKind.i64.wrap ((BitVec.ofInt 64 x.toInt ||| BitVec.ofInt 64 y.toInt).toNat : Int) = _
  rw [BitVec.ofInt_toInt, BitVec.ofInt_toInt, wrap_bv]
theorem bits_and_bv (x y : BitVec 64) : bits .and .i64 x.toInt y.toInt = (x &&& y).toInt := by
  show IntKind.i64.wrap ((BitVec.ofInt 64 x.toInt &&& BitVec.ofInt 64 y.toInt).toNat : Int) = _
  rw [BitVec.ofInt_toInt, BitVec.ofInt_toInt, wrap_bv]
theorem bits_andNot_bv (x y : BitVec 64) : bits .andNot .i64 x.toInt y.toInt = (x &&& ~~~y).toInt := by
  show IntKind.i64.wrap ((BitVec.ofInt 64 x.toInt &&& ~~~BitVec.ofInt 64 y.toInt).toNat : Int) = _
  rw [BitVec.ofInt_toInt, BitVec.ofInt_toInt, wrap_bv]

/-- A small number as bits. -/
def bvn (n : Nat) : BitVec 64 := BitVec.ofNat 64 n
theorem bvn_toInt (n : Nat) (h : n < 65536) : (bvn n).toInt = (n : Int) := by
  have e : (bvn n).toNat = n := by simp [bvn]; omega
  rw [BitVec.toInt_eq_toNat_cond, e, if_pos (by omega)]
theorem bvn_or (m n : Nat) : bvn m ||| bvn n = bvn (m ||| n) := by simp [bvn, BitVec.ofNat_or]
theorem bvn_and (m n : Nat) : bvn m &&& bvn n = bvn (m &&& n) := by simp [bvn, BitVec.ofNat_and]
theorem or_lt (m n : Nat) (hm : m < 65536) (hn : n < 65536) : m ||| n < 65536 := Nat.or_lt_two_pow (n := 16) hm hn
theorem bits_or_nat (m n : Nat) (hm : m < 65536) (hn : n < 65536) : bits .or .i64 (m : Int) (n : Int) = ((m ||| n : Nat) : Int) := by
  rw [← bvn_toInt m hm, ← bvn_toInt n hn, bits_or_bv, bvn_or, bvn_toInt _ (or_lt m n hm hn)]
theorem and_lt (m n : Nat) (hm : m < 65536) : m &&& n < 65536 := Nat.lt_of_le_of_lt Nat.and_le_left hm
theorem bits_and_nat (m n : Nat) (hm : m < 65536) (hn : n < 65536) : bits .and .i64 (m : Int) (n : Int) = ((m &&& n : Nat) : Int) := by
  rw [← bvn_toInt m hm, ← bvn_toInt n hn, bits_and_bv, bvn_and, bvn_toInt _ (and_lt m n hm)]

theorem twelve {P : Int → Prop} (h : ∀ k : Fin 12, P ((k.val : Nat) : Int)) (a : Int) (h0 : 0 ≤ a) (h1 : a < 12) : P a := by
  obtain ⟨k, rfl⟩ := Int.eq_ofNat_of_zero_le h0
  exact h ⟨k, by omega⟩
theorem two_lt (a : Nat) (h : a < 12) : 2 ^ a < 65536 := Nat.lt_of_lt_of_le (Nat.pow_lt_pow_right (by decide) h) (by decide)
theorem wrap_small (n : Nat) (h : n < 65536) : IntKind.i64.wrap (n : Int) = n := by
  have := wrap_bv (bvn n)
  rw [bvn_toInt n h] at this
  have e : (bvn n).toNat = n := by simp [bvn]; omega
  rw [e] at this
  exact this
theorem wrap64_small (n : Int) (h0 : -9223372036854775808 ≤ n) (h1 : n < 9223372036854775808) : wrap64 n = n := by unfold wrap64; omega
theorem shl_one (a : Int) (_h0 : 0 ≤ a) (h1 : a < 12) : wrap64 (2 ^ a.toNat) = ((2 ^ a.toNat : Nat) : Int) := by
  have := two_lt a.toNat (by omega)
  have e : (2 : Int) ^ a.toNat = ((2 ^ a.toNat : Nat) : Int) := by simp
  rw [e]
  generalize 2 ^ a.toNat = m at this
  exact wrap64_small _ (by omega) (by omega)

end Go.Proofs.YtapjfiihfgndeaaDoor
