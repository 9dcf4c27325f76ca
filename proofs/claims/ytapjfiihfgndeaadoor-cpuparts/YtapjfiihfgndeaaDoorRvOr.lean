/- Bits of words, as sums: or of parts that lie apart is their sum, and of a word with a mask is what the mask shows. No program is named. -/
import Derived.Test.YtapjfiihfgndeaaDoorRvMath
namespace Go.Proofs.YtapjfiihfgndeaaDoor
open Go Go.RowKit

theorem nat_or_split (k a b x y : Nat) (ha : a < 2 ^ k) (hb : b < 2 ^ k) : (a + 2 ^ k * x) ||| (b + 2 ^ k * y) = (a ||| b) + 2 ^ k * (x ||| y) := by
  have e : ∀ c z : Nat, c < 2 ^ k → c + 2 ^ k * z = 2 ^ k * z ||| c := fun c z h => by rw [Nat.add_comm]; exact Nat.two_pow_add_eq_or_of_lt h z
  have hab : a ||| b < 2 ^ k := Nat.or_lt_two_pow ha hb
  have hd : 2 ^ k * x ||| 2 ^ k * y = 2 ^ k * (x ||| y) := by
    have := Nat.shiftLeft_or_distrib (a := x) (b := y) (i := k)
    simp only [Nat.shiftLeft_eq] at this
    rw [Nat.mul_comm (2 ^ k) x, Nat.mul_comm (2 ^ k) y, Nat.mul_comm (2 ^ k) (x ||| y)]
    exact this.symm
  rw [e a x ha, e b y hb, e _ _ hab, ← hd]
  apply Nat.eq_of_testBit_eq
  intro i
  simp only [Nat.testBit_or]
  cases (2 ^ k * x).testBit i <;> cases a.testBit i <;> cases (2 ^ k * y).testBit i <;> cases b.testBit i <;> rfl
theorem nat_and_split (k a b x y : Nat) (ha : a < 2 ^ k) (hb : b < 2 ^ k) : (a + 2 ^ k * x) &&& (b + 2 ^ k * y) = (a &&& b) + 2 ^ k * (x &&& y) := by
  have hab : a &&& b < 2 ^ k := Nat.lt_of_le_of_lt Nat.and_le_left ha
  have bit : ∀ c z i : Nat, c < 2 ^ k → (c + 2 ^ k * z).testBit i = if i < k then c.testBit i else z.testBit (i - k) := fun c z i h => by
    rw [Nat.add_comm, Nat.testBit_two_pow_mul_add z h]
  apply Nat.eq_of_testBit_eq
  intro i
  rw [Nat.testBit_and, bit a x i ha, bit b y i hb, bit _ _ i hab]
  by_cases h : i < k
  · simp [h, Nat.testBit_and]
  · simp [h, Nat.testBit_and]

theorem wrap_natR (n : Nat) (h : n < 9223372036854775808) : IntKind.i64.wrap (n : Int) = n := by
  have e : (BitVec.ofNat 64 n).toNat = n := by simp; omega
  have := wrap_bv (BitVec.ofNat 64 n)
  rw [e] at this
  rw [this, BitVec.toInt_eq_toNat_cond, e, if_pos (by omega)]
theorem ofInt_nat (n : Nat) (h : n < 9223372036854775808) : (BitVec.ofInt 64 (n : Int)).toNat = n := by
  rw [BitVec.toNat_ofInt]; omega
theorem or_natI (m n : Nat) (hm : m < 4611686018427387904) (hn : n < 4611686018427387904) : bits .or .i64 (m : Int) (n : Int) = ((m ||| n : Nat) : Int) := by
  show IntKind.i64.wrap ((BitVec.ofInt 64 (m : Int) ||| BitVec.ofInt 64 (n : Int)).toNat : Int) = _
  rw [BitVec.toNat_or, ofInt_nat m (by omega), ofInt_nat n (by omega)]
  have := Nat.or_lt_two_pow (n := 62) hm hn
  exact wrap_natR _ (by omega)
theorem and_natI (m n : Nat) (hm : m < 4611686018427387904) (hn : n < 4611686018427387904) : bits .and .i64 (m : Int) (n : Int) = ((m &&& n : Nat) : Int) := by
  show IntKind.i64.wrap ((BitVec.ofInt 64 (m : Int) &&& BitVec.ofInt 64 (n : Int)).toNat : Int) = _
  rw [BitVec.toNat_and, ofInt_nat m (by omega), ofInt_nat n (by omega)]
  have : m &&& n < 4611686018427387904 := Nat.lt_of_le_of_lt Nat.and_le_left hm
  exact wrap_natR _ (by omega)

theorem or_splitI (k : Nat) (hk : k ≤ 30) (K : Int) (hK : K = ((2 ^ k : Nat) : Int)) (a b x y : Int) (a0 : 0 ≤ a) (a1 : a < K) (b0 : 0 ≤ b) (b1 : b < K) (x0 : 0 ≤ x) (x1 : x < 2147483648) (y0 : 0 ≤ y) (y1 : y < 2147483648) :
    bits .or .i64 (a + K * x) (b + K * y) = bits .or .i64 a b + K * bits .or .i64 x y := by
  subst hK
  obtain ⟨a, rfl⟩ := Int.eq_ofNat_of_zero_le a0
  obtain ⟨b, rfl⟩ := Int.eq_ofNat_of_zero_le b0
  obtain ⟨x, rfl⟩ := Int.eq_ofNat_of_zero_le x0
  obtain ⟨y, rfl⟩ := Int.eq_ofNat_of_zero_le y0
  have hp : 2 ^ k ≤ 1073741824 := Nat.le_trans (Nat.pow_le_pow_right (by decide) hk) (by decide)
  have ha : a < 2 ^ k := by omega
  have hb : b < 2 ^ k := by omega
  have hx : 2 ^ k * x < 1073741824 * 2147483648 := Nat.lt_of_le_of_lt (Nat.mul_le_mul_right x hp) (by omega)
  have hy : 2 ^ k * y < 1073741824 * 2147483648 := Nat.lt_of_le_of_lt (Nat.mul_le_mul_right y hp) (by omega)
  have hab : a ||| b < 2 ^ k := Nat.or_lt_two_pow ha hb
  rw [show (a : Int) + ((2 ^ k : Nat) : Int) * (x : Int) = ((a + 2 ^ k * x : Nat) : Int) by push_cast; rfl, show (b : Int) + ((2 ^ k : Nat) : Int) * (y : Int) = ((b + 2 ^ k * y : Nat) : Int) by push_cast; rfl]
  rw [or_natI _ _ (by omega) (by omega), or_natI a b (by omega) (by omega), or_natI x y (by omega) (by omega), nat_or_split k a b x y ha hb]
  push_cast; rfl
theorem and_splitI (k : Nat) (hk : k ≤ 30) (K : Int) (hK : K = ((2 ^ k : Nat) : Int)) (a b x y : Int) (a0 : 0 ≤ a) (a1 : a < K) (b0 : 0 ≤ b) (b1 : b < K) (x0 : 0 ≤ x) (x1 : x < 2147483648) (y0 : 0 ≤ y) (y1 : y < 2147483648) :
    bits .and .i64 (a + K * x) (b + K * y) = bits .and .i64 a b + K * bits .and .i64 x y := by
  subst hK
  obtain ⟨a, rfl⟩ := Int.eq_ofNat_of_zero_le a0
  obtain ⟨b, rfl⟩ := Int.eq_ofNat_of_zero_le b0
  obtain ⟨x, rfl⟩ := Int.eq_ofNat_of_zero_le x0
  obtain ⟨y, rfl⟩ := Int.eq_ofNat_of_zero_le y0
  have hp : 2 ^ k ≤ 1073741824 := Nat.le_trans (Nat.pow_le_pow_right (by decide) hk) (by decide)
  have ha : a < 2 ^ k := by omega
  have hb : b < 2 ^ k := by omega
  have hx : 2 ^ k * x < 1073741824 * 2147483648 := Nat.lt_of_le_of_lt (Nat.mul_le_mul_right x hp) (by omega)
  have hy : 2 ^ k * y < 1073741824 * 2147483648 := Nat.lt_of_le_of_lt (Nat.mul_le_mul_right y hp) (by omega)
  rw [show (a : Int) + ((2 ^ k : Nat) : Int) * (x : Int) = ((a + 2 ^ k * x : Nat) : Int) by push_cast; rfl, show (b : Int) + ((2 ^ k : Nat) : Int) * (y : Int) = ((b + 2 ^ k * y : Nat) : Int) by push_cast; rfl]
  rw [and_natI _ _ (by omega) (by omega), and_natI a b (by omega) (by omega), and_natI x y (by omega) (by omega), nat_and_split k a b x y ha hb]
  push_cast; rfl
theorem or_r (x : Int) (h0 : 0 ≤ x) (h1 : x < 4294967296) : bits .or .i64 x 0 = x := by
  obtain ⟨n, rfl⟩ := Int.eq_ofNat_of_zero_le h0
  exact (or_natI n 0 (by omega) (by omega)).trans (by simp)
theorem or_l (x : Int) (h0 : 0 ≤ x) (h1 : x < 4294967296) : bits .or .i64 0 x = x := by
  obtain ⟨n, rfl⟩ := Int.eq_ofNat_of_zero_le h0
  exact (or_natI 0 n (by omega) (by omega)).trans (by simp)
theorem and_r (x : Int) (h0 : 0 ≤ x) (h1 : x < 4294967296) : bits .and .i64 x 0 = 0 := by
  obtain ⟨n, rfl⟩ := Int.eq_ofNat_of_zero_le h0
  exact (and_natI n 0 (by omega) (by omega)).trans (by simp)
theorem and_full (k : Nat) (hk : k ≤ 30) (x M : Int) (hM : M = ((2 ^ k - 1 : Nat) : Int)) (h0 : 0 ≤ x) (h1 : x < 4294967296) : bits .and .i64 x M = x % ((2 ^ k : Nat) : Int) := by
  subst hM
  obtain ⟨n, rfl⟩ := Int.eq_ofNat_of_zero_le h0
  have hp : 2 ^ k ≤ 1073741824 := Nat.le_trans (Nat.pow_le_pow_right (by decide) hk) (by decide)
  refine (and_natI n (2 ^ k - 1) (by omega) (by omega)).trans ?_
  rw [Nat.and_two_pow_sub_one_eq_mod]
  push_cast; rfl

/-- Or of two words whose parts lie apart is their sum. -/
theorem or_num (p q : Pts) (hp : p.Ok) (hq : q.Ok) (ha : bits .or .i64 p.a q.a = p.a + q.a) (hl : bits .or .i64 p.l q.l = p.l + q.l) (hb : bits .or .i64 p.b q.b = p.b + q.b) (hm : bits .or .i64 p.m q.m = p.m + q.m) (hn : bits .or .i64 p.n q.n = p.n + q.n) (hc : bits .or .i64 p.c q.c = p.c + q.c) :
    bits .or .i64 p.num q.num = p.num + q.num := by
  obtain ⟨a0, a1, l0, l1, b0, b1, m0, m1, n0, n1, c0, c1⟩ := hp
  obtain ⟨a0', a1', l0', l1', b0', b1', m0', m1', n0', n1', c0', c1'⟩ := hq
  have e : ∀ r : Pts, r.num = r.a + 128 * (r.l + 32 * (r.b + 8 * (r.m + 32 * (r.n + 32 * r.c)))) := fun r => by unfold Pts.num; omega
  rw [e p, e q]
  rw [or_splitI 7 (by decide) 128 rfl _ _ _ _ (by omega) (by omega) (by omega) (by omega) (by omega) (by omega) (by omega) (by omega)]
  rw [or_splitI 5 (by decide) 32 rfl _ _ _ _ (by omega) (by omega) (by omega) (by omega) (by omega) (by omega) (by omega) (by omega)]
  rw [or_splitI 3 (by decide) 8 rfl _ _ _ _ (by omega) (by omega) (by omega) (by omega) (by omega) (by omega) (by omega) (by omega)]
  rw [or_splitI 5 (by decide) 32 rfl _ _ _ _ (by omega) (by omega) (by omega) (by omega) (by omega) (by omega) (by omega) (by omega)]
  rw [or_splitI 5 (by decide) 32 rfl _ _ _ _ (by omega) (by omega) (by omega) (by omega) (by omega) (by omega) (by omega) (by omega)]
  rw [ha, hl, hb, hm, hn, hc]
  omega
/-- And of two words, part by part. -/
theorem and_num (p q : Pts) (hp : p.Ok) (hq : q.Ok) :
    bits .and .i64 p.num q.num = (⟨bits .and .i64 p.a q.a, bits .and .i64 p.l q.l, bits .and .i64 p.b q.b, bits .and .i64 p.m q.m, bits .and .i64 p.n q.n, bits .and .i64 p.c q.c⟩ : Pts).num := by
  obtain ⟨a0, a1, l0, l1, b0, b1, m0, m1, n0, n1, c0, c1⟩ := hp
  obtain ⟨a0', a1', l0', l1', b0', b1', m0', m1', n0', n1', c0', c1'⟩ := hq
  have e : ∀ r : Pts, r.num = r.a + 128 * (r.l + 32 * (r.b + 8 * (r.m + 32 * (r.n + 32 * r.c)))) := fun r => by unfold Pts.num; omega
  rw [e p, e q, e]
  rw [and_splitI 7 (by decide) 128 rfl _ _ _ _ (by omega) (by omega) (by omega) (by omega) (by omega) (by omega) (by omega) (by omega)]
  rw [and_splitI 5 (by decide) 32 rfl _ _ _ _ (by omega) (by omega) (by omega) (by omega) (by omega) (by omega) (by omega) (by omega)]
  rw [and_splitI 3 (by decide) 8 rfl _ _ _ _ (by omega) (by omega) (by omega) (by omega) (by omega) (by omega) (by omega) (by omega)]
  rw [and_splitI 5 (by decide) 32 rfl _ _ _ _ (by omega) (by omega) (by omega) (by omega) (by omega) (by omega) (by omega) (by omega)]
  rw [and_splitI 5 (by decide) 32 rfl _ _ _ _ (by omega) (by omega) (by omega) (by omega) (by omega) (by omega) (by omega) (by omega)]

end Go.Proofs.YtapjfiihfgndeaaDoor
