/- What the ops make, as laws of numbers. No program is walked. -/
import Derived.Test.YtapjfiihfgndeaaDoorMake
namespace Go.Proofs.YtapjfiihfgndeaaDoor
open Go Go.RowKit

theorem wrap64_bv (n : Int) : wrap64 n = (BitVec.ofInt 64 n).toInt := by
  rw [BitVec.toInt_ofInt, Int.bmod_def]
  unfold wrap64
  have e : ((2 ^ 64 : Nat) : Int) = 18446744073709551616 := by decide
  rw [e]
  split <;> omega
theorem to_bv (a : Int) (h0 : -9223372036854775808 ≤ a) (h1 : a ≤ 9223372036854775807) : (BitVec.ofInt 64 a).toInt = a := by
  rw [← wrap64_bv]; unfold wrap64; omega
theorem bits_xor_bv (x y : BitVec 64) : bits .xor .i64 x.toInt y.toInt = (x ^^^ y).toInt := by
  show IntKind.i64.wrap ((BitVec.ofInt 64 x.toInt ^^^ BitVec.ofInt 64 y.toInt).toNat : Int) = _
  rw [BitVec.ofInt_toInt, BitVec.ofInt_toInt, wrap_bv]
theorem wrap_add_bv (x y : BitVec 64) : wrap64 (x.toInt + y.toInt) = (x + y).toInt := by
  rw [wrap64_bv, BitVec.ofInt_add, BitVec.ofInt_toInt, BitVec.ofInt_toInt]
theorem wrap_mul_bv (x y : BitVec 64) : wrap64 (x.toInt * y.toInt) = (x * y).toInt := by
  rw [wrap64_bv, BitVec.ofInt_mul, BitVec.ofInt_toInt, BitVec.ofInt_toInt]
theorem wrap_sub_bv (x y : BitVec 64) : wrap64 (x.toInt - y.toInt) = (x - y).toInt := by
  rw [wrap64_bv, BitVec.toInt_ofInt, BitVec.toInt_sub]

theorem mk2 (a b i : Int) : mk 2 a b i = wrap64 (a + b) := rfl
theorem mk3 (a b i : Int) : mk 3 a b i = wrap64 (a - b) := rfl
theorem mk4 (a b i : Int) : mk 4 a b i = wrap64 (a * b) := rfl
theorem mk6 (a b i : Int) : mk 6 a b i = bits .and .i64 a b := rfl
theorem mk7 (a b i : Int) : mk 7 a b i = bits .or .i64 a b := rfl
theorem mk8 (a b i : Int) : mk 8 a b i = bits .xor .i64 a b := rfl
theorem mk9 (a b i : Int) : mk 9 a b i = wrap64 (a * 2 ^ (b % 64).toNat) := rfl
theorem mk10 (a b i : Int) : mk 10 a b i = a / 2 ^ (b % 64).toNat := rfl
theorem mk11 (a b i : Int) : mk 11 a b i = if a < b then 1 else 0 := rfl
theorem mk12 (a b i : Int) : mk 12 a b i = if a = b then 1 else 0 := rfl

theorem and_add_or (x y : BitVec 64) : (x &&& y) + (x ||| y) = x + y := by
  have h1 : x ||| y = x + (y &&& ~~~x) := by
    rw [BitVec.add_eq_or_of_and_eq_zero]
    · ext i hi; simp; cases x[i] <;> simp
    · ext i hi; simp; cases x[i] <;> simp
  have h2 : y = (x &&& y) + (y &&& ~~~x) := by
    rw [BitVec.add_eq_or_of_and_eq_zero]
    · ext i hi; simp; cases x[i] <;> simp
    · ext i hi; simp; cases x[i] <;> simp
  have h3 : x + y = x + ((x &&& y) + (y &&& ~~~x)) := by rw [← h2]
  rw [h3, h1, ← BitVec.add_assoc, ← BitVec.add_assoc, BitVec.add_comm (x &&& y) x]

def Fits (a : Int) : Prop := -9223372036854775808 ≤ a ∧ a ≤ 9223372036854775807
theorem bv_of {a : Int} (h : Fits a) : ∃ x : BitVec 64, a = x.toInt := ⟨BitVec.ofInt 64 a, (to_bv a h.1 h.2).symm⟩

theorem laws_plain (a b c : Int) (ha : Fits a) (hb : Fits b) (hc : Fits c) :
    mk 3 (mk 2 a b 0) b 0 = a ∧ mk 8 (mk 8 a b 0) b 0 = a ∧ mk 2 (mk 6 a b 0) (mk 7 a b 0) 0 = mk 2 a b 0 ∧ mk 4 a (mk 2 b c 0) 0 = mk 2 (mk 4 a b 0) (mk 4 a c 0) 0 ∧ mk 12 a a 0 = 1 := by
  obtain ⟨x, rfl⟩ := bv_of ha
  obtain ⟨y, rfl⟩ := bv_of hb
  obtain ⟨z, rfl⟩ := bv_of hc
  refine ⟨?_, ?_, ?_, ?_, ?_⟩
  · rw [mk2, mk3, wrap_add_bv, wrap_sub_bv, BitVec.add_sub_cancel]
  · rw [mk8, mk8, bits_xor_bv, bits_xor_bv, BitVec.xor_assoc, BitVec.xor_self, BitVec.xor_zero]
  · rw [mk6, mk7, mk2, mk2, bits_and_bv, bits_or_bv, wrap_add_bv, wrap_add_bv, and_add_or]
  · simp only [mk2, mk4, wrap_add_bv, wrap_mul_bv, BitVec.mul_add]
  · simp [mk12]
theorem laws_turn (a b : Int) (ha : Fits a) (hb : Fits b) :
    mk 2 a b 0 = mk 2 b a 0 ∧ mk 4 a b 0 = mk 4 b a 0 ∧ mk 6 a b 0 = mk 6 b a 0 ∧ mk 7 a b 0 = mk 7 b a 0 ∧ mk 8 a b 0 = mk 8 b a 0 ∧ mk 12 a b 0 = mk 12 b a 0 := by
  obtain ⟨x, rfl⟩ := bv_of ha
  obtain ⟨y, rfl⟩ := bv_of hb
  simp only [mk2, mk4, mk6, mk7, mk8, mk12, wrap_add_bv, wrap_mul_bv, bits_and_bv, bits_or_bv, bits_xor_bv]
  refine ⟨by rw [BitVec.add_comm], by rw [BitVec.mul_comm], by rw [BitVec.and_comm], by rw [BitVec.or_comm], by rw [BitVec.xor_comm], ?_⟩
  by_cases h : x.toInt = y.toInt
  · rw [if_pos h, if_pos h.symm]
  · rw [if_neg h, if_neg (fun h' => h h'.symm)]

theorem bits_plain (a b : Int) (ha : Fits a) (hb : Fits b) :
    mk 8 (mk 6 a b 0) (-1) 0 = mk 7 (mk 8 a (-1) 0) (mk 8 b (-1) 0) 0 ∧ mk 6 a (-1) 0 = a ∧ mk 7 a 0 0 = a ∧ mk 3 0 a 0 = mk 2 (mk 8 a (-1) 0) 1 0 ∧ mk 6 a (mk 8 a (-1) 0) 0 = 0 := by
  obtain ⟨x, rfl⟩ := bv_of ha
  obtain ⟨y, rfl⟩ := bv_of hb
  have e1 : (-1 : Int) = (BitVec.allOnes 64).toInt := by decide
  have e0 : (0 : Int) = (0#64).toInt := by decide
  have e2 : (1 : Int) = (1#64).toInt := by decide
  refine ⟨?_, ?_, ?_, ?_, ?_⟩
  · rw [e1, mk6, mk7, mk8, mk8, mk8, bits_and_bv, bits_xor_bv, bits_xor_bv, bits_xor_bv, bits_or_bv, BitVec.xor_allOnes, BitVec.xor_allOnes, BitVec.xor_allOnes, BitVec.not_and]
  · rw [e1, mk6, bits_and_bv, BitVec.and_allOnes]
  · have h : mk 7 x.toInt 0 0 = bits .or .i64 x.toInt (0#64).toInt := rfl
    rw [h, bits_or_bv, BitVec.or_zero]
  · have h1 : mk 3 0 x.toInt 0 = wrap64 ((0#64).toInt - x.toInt) := rfl
    have h2 : mk 2 (mk 8 x.toInt (-1) 0) 1 0 = wrap64 (bits .xor .i64 x.toInt (BitVec.allOnes 64).toInt + (1#64).toInt) := rfl
    rw [h1, h2, wrap_sub_bv, bits_xor_bv, wrap_add_bv, BitVec.xor_allOnes, ← BitVec.neg_eq_not_add, BitVec.zero_sub]
  · have h2 : mk 6 x.toInt (mk 8 x.toInt (-1) 0) 0 = bits .and .i64 x.toInt (bits .xor .i64 x.toInt (BitVec.allOnes 64).toInt) := rfl
    rw [h2, bits_xor_bv, bits_and_bv, BitVec.xor_allOnes]
    have : x &&& ~~~x = 0#64 := by ext i hi; simp
    rw [this]; decide

theorem div_lt_zero (a : Int) (k : Nat) : a / 2 ^ k < 0 ↔ a < 0 := by
  have h : (0 : Int) < 2 ^ k := Int.pow_pos (by decide)
  constructor
  · intro hd
    apply Int.not_le.1
    intro h0
    have := Int.ediv_nonneg h0 (Int.le_of_lt h)
    omega
  · intro ha
    exact Int.ediv_lt_of_lt_mul h (by simpa using ha)
theorem shifts_plain (a k : Int) (ha : Fits a) :
    mk 9 a 1 0 = mk 2 a a 0 ∧ mk 9 a k 0 = mk 9 a (k + 64) 0 ∧ mk 10 a k 0 = mk 10 a (k - 64) 0 ∧ mk 10 a 63 0 = (if a < 0 then -1 else 0) ∧ (mk 10 a k 0 < 0 ↔ a < 0) := by
  obtain ⟨l, u⟩ := ha
  refine ⟨?_, ?_, ?_, ?_, ?_⟩
  · rw [mk9, mk2]
    have : a * 2 ^ ((1 : Int) % 64).toNat = a + a := by simp; omega
    rw [this]
  · rw [mk9, mk9]
    have : (k + 64) % 64 = k % 64 := by omega
    rw [this]
  · rw [mk10, mk10]
    have : (k - 64) % 64 = k % 64 := by omega
    rw [this]
  · rw [mk10]
    have : (2 : Int) ^ ((63 : Int) % 64).toNat = 9223372036854775808 := by decide
    rw [this]
    split <;> omega
  · rw [mk10]; exact div_lt_zero _ _

theorem orders_plain (a b : Int) : mk 11 a b 0 + mk 11 b a 0 + mk 12 a b 0 = 1 := by
  rw [mk11, mk11, mk12]
  by_cases h1 : a < b
  · rw [if_pos h1, if_neg (by omega), if_neg (by omega)]; rfl
  · by_cases h2 : b < a
    · rw [if_neg h1, if_pos h2, if_neg (by omega)]; rfl
    · rw [if_neg h1, if_neg h2, if_pos (by omega)]; rfl

theorem less_plain (x y z : Int) (hx : 0 ≤ x ∧ x < 1099511627776) (hy : 0 ≤ y ∧ y < 1099511627776) (hz : 0 ≤ z ∧ z < 1099511627776) :
    mk 11 x y 0 = mk 11 (mk 2 x z 0) (mk 2 y z 0) 0 ∧ mk 11 x y 0 = mk 11 (mk 3 x y 0) 0 0 ∧ mk 10 (mk 4 x 2 0) 1 0 = x := by
  have e1 : mk 2 x z 0 = x + z := by rw [mk2]; unfold wrap64; omega
  have e2 : mk 2 y z 0 = y + z := by rw [mk2]; unfold wrap64; omega
  have e3 : mk 3 x y 0 = x - y := by rw [mk3]; unfold wrap64; omega
  have e4 : mk 4 x 2 0 = x * 2 := by rw [mk4]; unfold wrap64; omega
  rw [e1, e2, e3, e4]
  refine ⟨?_, ?_, ?_⟩
  · rw [mk11, mk11]
    by_cases h : x < y
    · rw [if_pos h, if_pos (by omega)]
    · rw [if_neg h, if_neg (by omega)]
  · rw [mk11, mk11]
    by_cases h : x < y
    · rw [if_pos h, if_pos (by omega)]
    · rw [if_neg h, if_neg (by omega)]
  · rw [mk10]
    have : (2 : Int) ^ ((1 : Int) % 64).toNat = 2 := by decide
    rw [this]; omega

/-- A rest: what is left of a number behind a division. -/
theorem divides_plain (a b : Int) (ha : Fits a) (hb : Fits b) (h0 : ¬ b = 0) :
    mk 3 a (mk 4 (mk 5 a b 0) b 0) 0 = a.tmod b := by
  obtain ⟨l, u⟩ := ha
  obtain ⟨l2, u2⟩ := hb
  have e5 : mk 5 a b 0 = wrap64 (a.tdiv b) := by simp [mk, h0]
  rw [mk3, mk4, e5, wrap64_bv, wrap64_bv, wrap64_bv]
  have k1 : BitVec.ofInt 64 (a - (BitVec.ofInt 64 ((BitVec.ofInt 64 (a.tdiv b)).toInt * b)).toInt) = BitVec.ofInt 64 (a - a.tdiv b * b) := by
    rw [Int.sub_eq_add_neg, Int.sub_eq_add_neg, BitVec.ofInt_add, BitVec.ofInt_add, BitVec.ofInt_neg, BitVec.ofInt_neg, BitVec.ofInt_toInt, BitVec.ofInt_mul, BitVec.ofInt_mul, BitVec.ofInt_toInt]
  rw [k1]
  have k2 : a - a.tdiv b * b = a.tmod b := by
    have := Int.mul_tdiv_add_tmod a b
    rw [Int.mul_comm] at this
    omega
  rw [k2]
  have k3 := Int.natAbs_tmod a b
  have k4 : (a.natAbs % b.natAbs) ≤ a.natAbs := Nat.mod_le _ _
  have k5 : 0 < b.natAbs := by omega
  have k6 := Nat.mod_lt a.natAbs k5
  exact to_bv _ (by omega) (by omega)
theorem rest_small (a b : Int) (h0 : ¬ b = 0) : (a.tmod b).natAbs < b.natAbs ∧ (a.tmod b = 0 ∨ (a.tmod b < 0 ↔ a < 0)) := by
  have k3 := Int.natAbs_tmod a b
  have k5 : 0 < b.natAbs := by omega
  have k6 := Nat.mod_lt a.natAbs k5
  refine ⟨by omega, ?_⟩
  by_cases ha : 0 ≤ a
  · have := Int.tmod_nonneg b ha
    right; omega
  · by_cases hz : a.tmod b = 0
    · exact .inl hz
    · right
      have h1 : (-a).tmod b = - a.tmod b := Int.neg_tmod a b
      have h2 := Int.tmod_nonneg b (show 0 ≤ -a by omega)
      omega
end Go.Proofs.YtapjfiihfgndeaaDoor
