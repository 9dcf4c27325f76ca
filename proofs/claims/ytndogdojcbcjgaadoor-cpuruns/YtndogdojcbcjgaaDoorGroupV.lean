/- Texts put together: RvOr, RvFits, RvCut, RvWord, RvEqs, RvCode, RvDec. -/
import Derived.Test.YtndogdojcbcjgaaDoorGroupX
import Derived.Test.YtndogdojcbcjgaaDoorProg
import Derived.WalkKit
import Derived.WalkSpells
import Derived.WalkLawsBesides
import Derived.Deep.QuietTactic
import Derived.BigQuiet
import Derived.Deep.MidRow
import Derived.Test.YtndogdojcbcjgaaDoorGroupA
import Derived.Deep.RegionHeld3
import Derived.Deep.WholeRow
/- Bits of words, as sums: or of parts that lie apart is their sum, and of a word with a mask is what the mask shows. No program is named. -/
namespace Go.Proofs.YtndogdojcbcjgaaDoor
open Go Go.RowKit

theorem nat_or_split (k a b x y : Nat) (ha : a < 2 ^ k) (hb : b < 2 ^ k) : (a + 2 ^ k * x) ||| (b + 2 ^ k * y) = (a ||| b) + 2 ^ k * (x ||| y) := by
  have e : ∀ c z : Nat, c < 2 ^ k → c + 2 ^ k * z = 2 ^ k * z ||| c := fun c z h => by rw [Nat.add_comm]; exact Nat.two_pow_add_eq_or_of_lt h z
  have hab : a ||| b < 2 ^ k := Nat.or_lt_two_pow ha hb
  have hd : 2 ^ k * x ||| 2 ^ k * y = 2 ^ k * (x ||| y) := by
    have := Nat.shiftLeft_or_distrib (a := x) (b := y) (i := k)
    simp only [Nat.shiftLeft_eq] at this
    rw [Nat.mul_comm (2 ^ k) x, Nat.mul_comm (2 ^ k) y, Nat.mul_comm (2 ^ k) (x ||| y)]
    exact this.symm
  rw [e a x ha, e b y hb, e _ _ hab, ← hd]
  apply Nat.eq_of_testBit_eq
  intro i
  simp only [Nat.testBit_or]
  cases (2 ^ k * x).testBit i <;> cases a.testBit i <;> cases (2 ^ k * y).testBit i <;> cases b.testBit i <;> rfl
theorem nat_and_split (k a b x y : Nat) (ha : a < 2 ^ k) (hb : b < 2 ^ k) : (a + 2 ^ k * x) &&& (b + 2 ^ k * y) = (a &&& b) + 2 ^ k * (x &&& y) := by
  have hab : a &&& b < 2 ^ k := Nat.lt_of_le_of_lt Nat.and_le_left ha
  have bit : ∀ c z i : Nat, c < 2 ^ k → (c + 2 ^ k * z).testBit i = if i < k then c.testBit i else z.testBit (i - k) := fun c z i h => by
    rw [Nat.add_comm, Nat.testBit_two_pow_mul_add z h]
  apply Nat.eq_of_testBit_eq
  intro i
  rw [Nat.testBit_and, bit a x i ha, bit b y i hb, bit _ _ i hab]
  by_cases h : i < k
  · simp [h, Nat.testBit_and]
  · simp [h, Nat.testBit_and]

theorem wrap_natR (n : Nat) (h : n < 9223372036854775808) : IntKind.i64.wrap (n : Int) = n := by
  have e : (BitVec.ofNat 64 n).toNat = n := by simp; omega
  have := wrap_bv (BitVec.ofNat 64 n)
  rw [e] at this
  rw [this, BitVec.toInt_eq_toNat_cond, e, if_pos (by omega)]
theorem ofInt_nat (n : Nat) (h : n < 9223372036854775808) : (BitVec.ofInt 64 (n : Int)).toNat = n := by
  rw [BitVec.toNat_ofInt]; omega
theorem or_natI (m n : Nat) (hm : m < 4611686018427387904) (hn : n < 4611686018427387904) : bits .or .i64 (m : Int) (n : Int) = ((m ||| n : Nat) : Int) := by
  show IntKind.i64.wrap ((BitVec.ofInt 64 (m : Int) ||| BitVec.ofInt 64 (n : Int)).toNat : Int) = _
  rw [BitVec.toNat_or, ofInt_nat m (by omega), ofInt_nat n (by omega)]
  have := Nat.or_lt_two_pow (n := 62) hm hn
  exact wrap_natR _ (by omega)
theorem and_natI (m n : Nat) (hm : m < 4611686018427387904) (hn : n < 4611686018427387904) : bits .and .i64 (m : Int) (n : Int) = ((m &&& n : Nat) : Int) := by
  show IntKind.i64.wrap ((BitVec.ofInt 64 (m : Int) &&& BitVec.ofInt 64 (n : Int)).toNat : Int) = _
  rw [BitVec.toNat_and, ofInt_nat m (by omega), ofInt_nat n (by omega)]
  have : m &&& n < 4611686018427387904 := Nat.lt_of_le_of_lt Nat.and_le_left hm
  exact wrap_natR _ (by omega)

theorem or_splitI (k : Nat) (hk : k ≤ 30) (K : Int) (hK : K = ((2 ^ k : Nat) : Int)) (a b x y : Int) (a0 : 0 ≤ a) (a1 : a < K) (b0 : 0 ≤ b) (b1 : b < K) (x0 : 0 ≤ x) (x1 : x < 2147483648) (y0 : 0 ≤ y) (y1 : y < 2147483648) :
    bits .or .i64 (a + K * x) (b + K * y) = bits .or .i64 a b + K * bits .or .i64 x y := by
  subst hK
  obtain ⟨a, rfl⟩ := Int.eq_ofNat_of_zero_le a0
  obtain ⟨b, rfl⟩ := Int.eq_ofNat_of_zero_le b0
  obtain ⟨x, rfl⟩ := Int.eq_ofNat_of_zero_le x0
  obtain ⟨y, rfl⟩ := Int.eq_ofNat_of_zero_le y0
  have hp : 2 ^ k ≤ 1073741824 := Nat.le_trans (Nat.pow_le_pow_right (by decide) hk) (by decide)
  have ha : a < 2 ^ k := by omega
  have hb : b < 2 ^ k := by omega
  have hx : 2 ^ k * x < 1073741824 * 2147483648 := Nat.lt_of_le_of_lt (Nat.mul_le_mul_right x hp) (by omega)
  have hy : 2 ^ k * y < 1073741824 * 2147483648 := Nat.lt_of_le_of_lt (Nat.mul_le_mul_right y hp) (by omega)
  have hab : a ||| b < 2 ^ k := Nat.or_lt_two_pow ha hb
  rw [show (a : Int) + ((2 ^ k : Nat) : Int) * (x : Int) = ((a + 2 ^ k * x : Nat) : Int) by push_cast; rfl, show (b : Int) + ((2 ^ k : Nat) : Int) * (y : Int) = ((b + 2 ^ k * y : Nat) : Int) by push_cast; rfl]
  rw [or_natI _ _ (by omega) (by omega), or_natI a b (by omega) (by omega), or_natI x y (by omega) (by omega), nat_or_split k a b x y ha hb]
  push_cast; rfl
theorem and_splitI (k : Nat) (hk : k ≤ 30) (K : Int) (hK : K = ((2 ^ k : Nat) : Int)) (a b x y : Int) (a0 : 0 ≤ a) (a1 : a < K) (b0 : 0 ≤ b) (b1 : b < K) (x0 : 0 ≤ x) (x1 : x < 2147483648) (y0 : 0 ≤ y) (y1 : y < 2147483648) :
    bits .and .i64 (a + K * x) (b + K * y) = bits .and .i64 a b + K * bits .and .i64 x y := by
  subst hK
  obtain ⟨a, rfl⟩ := Int.eq_ofNat_of_zero_le a0
  obtain ⟨b, rfl⟩ := Int.eq_ofNat_of_zero_le b0
  obtain ⟨x, rfl⟩ := Int.eq_ofNat_of_zero_le x0
  obtain ⟨y, rfl⟩ := Int.eq_ofNat_of_zero_le y0
  have hp : 2 ^ k ≤ 1073741824 := Nat.le_trans (Nat.pow_le_pow_right (by decide) hk) (by decide)
  have ha : a < 2 ^ k := by omega
  have hb : b < 2 ^ k := by omega
  have hx : 2 ^ k * x < 1073741824 * 2147483648 := Nat.lt_of_le_of_lt (Nat.mul_le_mul_right x hp) (by omega)
  have hy : 2 ^ k * y < 1073741824 * 2147483648 := Nat.lt_of_le_of_lt (Nat.mul_le_mul_right y hp) (by omega)
  rw [show (a : Int) + ((2 ^ k : Nat) : Int) * (x : Int) = ((a + 2 ^ k * x : Nat) : Int) by push_cast; rfl, show (b : Int) + ((2 ^ k : Nat) : Int) * (y : Int) = ((b + 2 ^ k * y : Nat) : Int) by push_cast; rfl]
  rw [and_natI _ _ (by omega) (by omega), and_natI a b (by omega) (by omega), and_natI x y (by omega) (by omega), nat_and_split k a b x y ha hb]
  push_cast; rfl
theorem or_r (x : Int) (h0 : 0 ≤ x) (h1 : x < 4294967296) : bits .or .i64 x 0 = x := by
  obtain ⟨n, rfl⟩ := Int.eq_ofNat_of_zero_le h0
  exact (or_natI n 0 (by omega) (by omega)).trans (by simp)
theorem or_l (x : Int) (h0 : 0 ≤ x) (h1 : x < 4294967296) : bits .or .i64 0 x = x := by
  obtain ⟨n, rfl⟩ := Int.eq_ofNat_of_zero_le h0
  exact (or_natI 0 n (by omega) (by omega)).trans (by simp)
theorem and_r (x : Int) (h0 : 0 ≤ x) (h1 : x < 4294967296) : bits .and .i64 x 0 = 0 := by
  obtain ⟨n, rfl⟩ := Int.eq_ofNat_of_zero_le h0
  exact (and_natI n 0 (by omega) (by omega)).trans (by simp)
theorem and_full (k : Nat) (hk : k ≤ 30) (x M : Int) (hM : M = ((2 ^ k - 1 : Nat) : Int)) (h0 : 0 ≤ x) (h1 : x < 4294967296) : bits .and .i64 x M = x % ((2 ^ k : Nat) : Int) := by
  subst hM
  obtain ⟨n, rfl⟩ := Int.eq_ofNat_of_zero_le h0
  have hp : 2 ^ k ≤ 1073741824 := Nat.le_trans (Nat.pow_le_pow_right (by decide) hk) (by decide)
  refine (and_natI n (2 ^ k - 1) (by omega) (by omega)).trans ?_
  rw [Nat.and_two_pow_sub_one_eq_mod]
  push_cast; rfl

/-- Or of two words whose parts lie apart is their sum. -/
theorem or_num (p q : Pts) (hp : p.Ok) (hq : q.Ok) (ha : bits .or .i64 p.a q.a = p.a + q.a) (hl : bits .or .i64 p.l q.l = p.l + q.l) (hb : bits .or .i64 p.b q.b = p.b + q.b) (hm : bits .or .i64 p.m q.m = p.m + q.m) (hn : bits .or .i64 p.n q.n = p.n + q.n) (hc : bits .or .i64 p.c q.c = p.c + q.c) :
    bits .or .i64 p.num q.num = p.num + q.num := by
  obtain ⟨a0, a1, l0, l1, b0, b1, m0, m1, n0, n1, c0, c1⟩ := hp
  obtain ⟨a0', a1', l0', l1', b0', b1', m0', m1', n0', n1', c0', c1'⟩ := hq
  have e : ∀ r : Pts, r.num = r.a + 128 * (r.l + 32 * (r.b + 8 * (r.m + 32 * (r.n + 32 * r.c)))) := fun r => by unfold Pts.num; omega
  rw [e p, e q]
  rw [or_splitI 7 (by decide) 128 rfl _ _ _ _ (by omega) (by omega) (by omega) (by omega) (by omega) (by omega) (by omega) (by omega)]
  rw [or_splitI 5 (by decide) 32 rfl _ _ _ _ (by omega) (by omega) (by omega) (by omega) (by omega) (by omega) (by omega) (by omega)]
  rw [or_splitI 3 (by decide) 8 rfl _ _ _ _ (by omega) (by omega) (by omega) (by omega) (by omega) (by omega) (by omega) (by omega)]
  rw [or_splitI 5 (by decide) 32 rfl _ _ _ _ (by omega) (by omega) (by omega) (by omega) (by omega) (by omega) (by omega) (by omega)]
  rw [or_splitI 5 (by decide) 32 rfl _ _ _ _ (by omega) (by omega) (by omega) (by omega) (by omega) (by omega) (by omega) (by omega)]
  rw [ha, hl, hb, hm, hn, hc]
  omega
/-- And of two words, part by part. -/
theorem and_num (p q : Pts) (hp : p.Ok) (hq : q.Ok) :
    bits .and .i64 p.num q.num = (⟨bits .and .i64 p.a q.a, bits .and .i64 p.l q.l, bits .and .i64 p.b q.b, bits .and .i64 p.m q.m, bits .and .i64 p.n q.n, bits .and .i64 p.c q.c⟩ : Pts).num := by
  obtain ⟨a0, a1, l0, l1, b0, b1, m0, m1, n0, n1, c0, c1⟩ := hp
  obtain ⟨a0', a1', l0', l1', b0', b1', m0', m1', n0', n1', c0', c1'⟩ := hq
  have e : ∀ r : Pts, r.num = r.a + 128 * (r.l + 32 * (r.b + 8 * (r.m + 32 * (r.n + 32 * r.c)))) := fun r => by unfold Pts.num; omega
  rw [e p, e q, e]
  rw [and_splitI 7 (by decide) 128 rfl _ _ _ _ (by omega) (by omega) (by omega) (by omega) (by omega) (by omega) (by omega) (by omega)]
  rw [and_splitI 5 (by decide) 32 rfl _ _ _ _ (by omega) (by omega) (by omega) (by omega) (by omega) (by omega) (by omega) (by omega)]
  rw [and_splitI 3 (by decide) 8 rfl _ _ _ _ (by omega) (by omega) (by omega) (by omega) (by omega) (by omega) (by omega) (by omega)]
  rw [and_splitI 5 (by decide) 32 rfl _ _ _ _ (by omega) (by omega) (by omega) (by omega) (by omega) (by omega) (by omega) (by omega)]
  rw [and_splitI 5 (by decide) 32 rfl _ _ _ _ (by omega) (by omega) (by omega) (by omega) (by omega) (by omega) (by omega) (by omega)]

end Go.Proofs.YtndogdojcbcjgaaDoor

/- Contracts of rv.within, rv.fits, rv.Check: which instructions may be. No condition but that the two tables lie in memory as they were laid. -/
namespace Go.Proofs.YtndogdojcbcjgaaDoor
open Go Go.RowKit

set_option maxRecDepth 100000 in
theorem within_any (n least most : Int) (w : World) :
    Calls Tryd.prog 184 #[.int .i64 n, .int .i64 least, .int .i64 most] w fun e w' => e = .returned (.bool (decide (least ≤ n ∧ n ≤ most))) ∧ w' = w := by
  by_cases h0 : least ≤ n
  · by_cases h1 : n ≤ most
    · have e : decide (least ≤ n ∧ n ≤ most) = true := by simp [h0, h1]
      rw [e]; clear e
      go_enter Tryd.func184, Tryd.ntmps184
      go_wp2
      go_ret
      exact ⟨rfl, rfl⟩
    · have e : decide (least ≤ n ∧ n ≤ most) = false := by simp [h1]
      rw [e]; clear e
      go_enter Tryd.func184, Tryd.ntmps184
      go_wp2
      go_ret
      exact ⟨rfl, rfl⟩
  · have e : decide (least ≤ n ∧ n ≤ most) = false := by simp [h0]
    rw [e]; clear e
    go_enter Tryd.func184, Tryd.ntmps184
    go_wp2
    go_ret
    exact ⟨rfl, rfl⟩

theorem within_t (n least most : Int) (h : least ≤ n ∧ n ≤ most) (w : World) : Calls Tryd.prog 184 #[.int .i64 n, .int .i64 least, .int .i64 most] w fun e w' => e = .returned (.bool true) ∧ w' = w := by
  have := within_any n least most w
  rwa [decide_eq_true h] at this
theorem within_f (n least most : Int) (h : ¬ (least ≤ n ∧ n ≤ most)) (w : World) : Calls Tryd.prog 184 #[.int .i64 n, .int .i64 least, .int .i64 most] w fun e w' => e = .returned (.bool false) ∧ w' = w := by
  have := within_any n least most w
  rwa [decide_eq_false h] at this

set_option maxRecDepth 100000 in
set_option maxHeartbeats 1000000 in
theorem fits_any (x : Mi) (r0 r1 r2 r3 r4 r5 r6 r7 r8 r9 r10 r11 r12 r13 r14 r15 r16 r17 r18 : Int) (hf : r5 = 1 ∨ r5 = 4) (w : World) :
    Calls Tryd.prog 156 #[x.val, .agg #[.int .i64 r0, .int .i64 r1, .int .i64 r2, .int .i64 r3, .int .i64 r4, .int .i64 r5, .int .i64 r6, .int .i64 r7, .int .i64 r8, .int .i64 r9, .int .i64 r10, .int .i64 r11, .int .i64 r12, .int .i64 r13, .int .i64 r14, .int .i64 r15, .int .i64 r16, .int .i64 r17, .int .i64 r18]] w
      fun e w' => e = .returned (.bool (decide (0 ≤ x.rd ∧ x.rd ≤ r0 ∧ 0 ≤ x.rs1 ∧ x.rs1 ≤ r1 ∧ 0 ≤ x.rs2 ∧ x.rs2 ≤ r2 ∧ r3 ≤ x.imm ∧ x.imm ≤ r4 ∧ x.imm.tmod r5 = 0))) ∧ Below w.heap.size w w' := by
  obtain ⟨op, rd, rs1, rs2, imm⟩ := x
  unfold Mi.val
  dsimp only
  by_cases h0 : (0 ≤ rd ∧ rd ≤ r0)
  case neg =>
    have e : decide (0 ≤ rd ∧ rd ≤ r0 ∧ 0 ≤ rs1 ∧ rs1 ≤ r1 ∧ 0 ≤ rs2 ∧ rs2 ≤ r2 ∧ r3 ≤ imm ∧ imm ≤ r4 ∧ imm.tmod r5 = 0) = false := decide_eq_false (by omega)
    rw [e]; clear e
    have g0 := within_f rd 0 r0 h0
    clear hf h0
    go_enter Tryd.func156, Tryd.ntmps156
    go_wp2_with (go_at_call 184; first | (with_reducible refine (g0 _).mono ?_; rintro e w' ⟨rfl, rfl⟩))
    go_ret
    exact ⟨rfl, ((Below.refl _ _).alloc (Nat.le_refl _) _).alloc (by simp) _⟩
  have g0 := within_t rd 0 r0 h0
  by_cases h1 : (0 ≤ rs1 ∧ rs1 ≤ r1)
  case neg =>
    have e : decide (0 ≤ rd ∧ rd ≤ r0 ∧ 0 ≤ rs1 ∧ rs1 ≤ r1 ∧ 0 ≤ rs2 ∧ rs2 ≤ r2 ∧ r3 ≤ imm ∧ imm ≤ r4 ∧ imm.tmod r5 = 0) = false := decide_eq_false (by omega)
    rw [e]; clear e
    have g1 := within_f rs1 0 r1 h1
    clear hf h0 h1
    go_enter Tryd.func156, Tryd.ntmps156
    go_wp2_with (go_at_call 184; first | (with_reducible refine (g0 _).mono ?_; rintro e w' ⟨rfl, rfl⟩) | (with_reducible refine (g1 _).mono ?_; rintro e w' ⟨rfl, rfl⟩))
    go_ret
    exact ⟨rfl, ((Below.refl _ _).alloc (Nat.le_refl _) _).alloc (by simp) _⟩
  have g1 := within_t rs1 0 r1 h1
  by_cases h2 : (0 ≤ rs2 ∧ rs2 ≤ r2)
  case neg =>
    have e : decide (0 ≤ rd ∧ rd ≤ r0 ∧ 0 ≤ rs1 ∧ rs1 ≤ r1 ∧ 0 ≤ rs2 ∧ rs2 ≤ r2 ∧ r3 ≤ imm ∧ imm ≤ r4 ∧ imm.tmod r5 = 0) = false := decide_eq_false (by omega)
    rw [e]; clear e
    have g2 := within_f rs2 0 r2 h2
    clear hf h0 h1 h2
    go_enter Tryd.func156, Tryd.ntmps156
    go_wp2_with (go_at_call 184; first | (with_reducible refine (g0 _).mono ?_; rintro e w' ⟨rfl, rfl⟩) | (with_reducible refine (g1 _).mono ?_; rintro e w' ⟨rfl, rfl⟩) | (with_reducible refine (g2 _).mono ?_; rintro e w' ⟨rfl, rfl⟩))
    go_ret
    exact ⟨rfl, ((Below.refl _ _).alloc (Nat.le_refl _) _).alloc (by simp) _⟩
  have g2 := within_t rs2 0 r2 h2
  by_cases h3 : (r3 ≤ imm ∧ imm ≤ r4)
  case neg =>
    have e : decide (0 ≤ rd ∧ rd ≤ r0 ∧ 0 ≤ rs1 ∧ rs1 ≤ r1 ∧ 0 ≤ rs2 ∧ rs2 ≤ r2 ∧ r3 ≤ imm ∧ imm ≤ r4 ∧ imm.tmod r5 = 0) = false := decide_eq_false (by omega)
    rw [e]; clear e
    have g3 := within_f imm r3 r4 h3
    clear hf h0 h1 h2 h3
    go_enter Tryd.func156, Tryd.ntmps156
    go_wp2_with (go_at_call 184; first | (with_reducible refine (g0 _).mono ?_; rintro e w' ⟨rfl, rfl⟩) | (with_reducible refine (g1 _).mono ?_; rintro e w' ⟨rfl, rfl⟩) | (with_reducible refine (g2 _).mono ?_; rintro e w' ⟨rfl, rfl⟩) | (with_reducible refine (g3 _).mono ?_; rintro e w' ⟨rfl, rfl⟩))
    go_ret
    exact ⟨rfl, ((Below.refl _ _).alloc (Nat.le_refl _) _).alloc (by simp) _⟩
  have g3 := within_t imm r3 r4 h3
  rcases hf with rfl | rfl
  · have h4 : imm.tmod 1 = 0 := Int.tmod_one _
    · have e : decide (0 ≤ rd ∧ rd ≤ r0 ∧ 0 ≤ rs1 ∧ rs1 ≤ r1 ∧ 0 ≤ rs2 ∧ rs2 ≤ r2 ∧ r3 ≤ imm ∧ imm ≤ r4 ∧ imm.tmod 1 = 0) = true := decide_eq_true (by omega)
      rw [e]; clear e
      have h5 : (imm.tmod 1 == 0) = true := beq_iff_eq.2 h4
      clear h0 h1 h2 h3 h4
      go_enter Tryd.func156, Tryd.ntmps156
      go_wp2_with (go_at_call 184; first | (with_reducible refine (g0 _).mono ?_; rintro e w' ⟨rfl, rfl⟩) | (with_reducible refine (g1 _).mono ?_; rintro e w' ⟨rfl, rfl⟩) | (with_reducible refine (g2 _).mono ?_; rintro e w' ⟨rfl, rfl⟩) | (with_reducible refine (g3 _).mono ?_; rintro e w' ⟨rfl, rfl⟩))
      go_ret
      exact ⟨rfl, ((Below.refl _ _).alloc (Nat.le_refl _) _).alloc (by simp) _⟩
  · by_cases h4 : imm.tmod 4 = 0
    · have e : decide (0 ≤ rd ∧ rd ≤ r0 ∧ 0 ≤ rs1 ∧ rs1 ≤ r1 ∧ 0 ≤ rs2 ∧ rs2 ≤ r2 ∧ r3 ≤ imm ∧ imm ≤ r4 ∧ imm.tmod 4 = 0) = true := decide_eq_true (by omega)
      rw [e]; clear e
      have h5 : (imm.tmod 4 == 0) = true := beq_iff_eq.2 h4
      clear h0 h1 h2 h3 h4
      go_enter Tryd.func156, Tryd.ntmps156
      go_wp2_with (go_at_call 184; first | (with_reducible refine (g0 _).mono ?_; rintro e w' ⟨rfl, rfl⟩) | (with_reducible refine (g1 _).mono ?_; rintro e w' ⟨rfl, rfl⟩) | (with_reducible refine (g2 _).mono ?_; rintro e w' ⟨rfl, rfl⟩) | (with_reducible refine (g3 _).mono ?_; rintro e w' ⟨rfl, rfl⟩))
      go_ret
      exact ⟨rfl, ((Below.refl _ _).alloc (Nat.le_refl _) _).alloc (by simp) _⟩
    · have e : decide (0 ≤ rd ∧ rd ≤ r0 ∧ 0 ≤ rs1 ∧ rs1 ≤ r1 ∧ 0 ≤ rs2 ∧ rs2 ≤ r2 ∧ r3 ≤ imm ∧ imm ≤ r4 ∧ imm.tmod 4 = 0) = false := decide_eq_false (fun h => h4 h.2.2.2.2.2.2.2.2)
      rw [e]; clear e
      have h5 : (imm.tmod 4 == 0) = false := beq_eq_false_iff_ne.2 h4
      clear h0 h1 h2 h3 h4
      go_enter Tryd.func156, Tryd.ntmps156
      go_wp2_with (go_at_call 184; first | (with_reducible refine (g0 _).mono ?_; rintro e w' ⟨rfl, rfl⟩) | (with_reducible refine (g1 _).mono ?_; rintro e w' ⟨rfl, rfl⟩) | (with_reducible refine (g2 _).mono ?_; rintro e w' ⟨rfl, rfl⟩) | (with_reducible refine (g3 _).mono ?_; rintro e w' ⟨rfl, rfl⟩))
      go_ret
      exact ⟨rfl, ((Below.refl _ _).alloc (Nat.le_refl _) _).alloc (by simp) _⟩

/-- The table of shapes, and the table of ops, lie in memory. -/
structure RvTab (w : World) : Prop where
  sh : ∀ s j : Nat, s < 8 → j < 19 → w.cell? ⟨1, s * 19 + j, none⟩ = some (.int .i64 (shF s j))
  pt : ∀ i : Nat, i < 30 → w.cell? ⟨0, i * 2, none⟩ = some (.int .i64 (shOf i)) ∧ w.cell? ⟨0, i * 2 + 1, none⟩ = some (.int .i64 (setOf i))
theorem RvTab.lts {w : World} (h : RvTab w) : 1 < w.heap.size := World.block_lt_of_cell? _ _ (h.sh 0 0 (by omega) (by omega))
theorem RvTab.ltp {w : World} (h : RvTab w) : 0 < w.heap.size := World.block_lt_of_cell? _ _ (h.pt 0 (by omega)).1
theorem RvTab.below {w w' : World} (h : RvTab w) (hb : Below w.heap.size w w') : RvTab w' :=
  ⟨fun s j hs hj => (hb.cell (p := ⟨1, s * 19 + j, none⟩) h.lts).trans (h.sh s j hs hj),
   fun i hi => ⟨(hb.cell (p := ⟨0, i * 2, none⟩) h.ltp).trans (h.pt i hi).1, (hb.cell (p := ⟨0, i * 2 + 1, none⟩) h.ltp).trans (h.pt i hi).2⟩⟩

/-- A shape as a value. -/
def shC (s : Nat) : List Value := (List.range 19).map fun j => .int .i64 (shF s j)
theorem shC_eq (s : Nat) : shC s = [.int .i64 (shF s 0), .int .i64 (shF s 1), .int .i64 (shF s 2), .int .i64 (shF s 3), .int .i64 (shF s 4), .int .i64 (shF s 5), .int .i64 (shF s 6), .int .i64 (shF s 7), .int .i64 (shF s 8), .int .i64 (shF s 9), .int .i64 (shF s 10), .int .i64 (shF s 11), .int .i64 (shF s 12), .int .i64 (shF s 13), .int .i64 (shF s 14), .int .i64 (shF s 15), .int .i64 (shF s 16), .int .i64 (shF s 17), .int .i64 (shF s 18)] := rfl
theorem RvTab.range {w : World} (h : RvTab w) (s : Nat) (hs : s < 8) : w.rangeAt 1 (s * 19) (shC s) := by
  intro j u hu
  have hj : j < 19 := by have := (List.getElem?_eq_some_iff.1 hu).1; simpa [shC] using this
  have e : u = .int .i64 (shF s j) := by simpa [shC, hj] using hu.symm
  rw [e]
  exact h.sh s j hs hj
theorem shF5 (s : Nat) (h : s < 8) : shF s 5 = 1 ∨ shF s 5 = 4 := by
  rcases eight s h with rfl | rfl | rfl | rfl | rfl | rfl | rfl | rfl <;> decide
theorem fits_shape (x : Mi) (s : Nat) (hs : s < 8) (w : World) : Calls Tryd.prog 156 #[x.val, .agg (shC s).toArray] w fun e w' => e = .returned (.bool (fitsB s x)) ∧ Below w.heap.size w w' :=
  fits_any x _ _ _ _ _ _ _ _ _ _ _ _ _ _ _ _ _ _ _ (shF5 s hs) w
end Go.Proofs.YtndogdojcbcjgaaDoor

/- Contracts of rv.cut, rv.fields, rv.imm: the fields of a word, put together and taken apart. No condition but on the shape's numbers. -/
namespace Go.Proofs.YtndogdojcbcjgaaDoor
open Go Go.RowKit

theorem below_drewN {B : Nat} {w w' : World} (h : Below B w w') (n : Nat) : Below B w (w'.drewN n) := ⟨h.1, h.2, h.3, h.4, h.5⟩
theorem pow_lt63 (b : Nat) (h : b < 63) : (2 : Nat) ^ b < 9223372036854775808 := Nat.lt_of_lt_of_le (Nat.pow_lt_pow_right (by decide) h) (by decide)
theorem wrap64_pow (b : Nat) (h : b < 63) : wrap64 (2 ^ b) = ((2 ^ b : Nat) : Int) := by
  have := pow_lt63 b h
  have e : (2 : Int) ^ b = ((2 ^ b : Nat) : Int) := by simp
  rw [e]
  generalize 2 ^ b = m at this
  exact wrap64_small _ (by omega) (by omega)
theorem wrap_nat (n : Nat) (h : n < 9223372036854775808) : IntKind.i64.wrap (n : Int) = n := by
  have e : (BitVec.ofNat 64 n).toNat = n := by simp; omega
  have := wrap_bv (BitVec.ofNat 64 n)
  rw [e] at this
  rw [this, BitVec.toInt_eq_toNat_cond, e, if_pos (by omega)]
theorem and_mask (n : Int) (b : Nat) (h : b < 63) : bits .and .i64 n (wrap64 (wrap64 (2 ^ b) - 1)) = n % 2 ^ b := by
  have hp := pow_lt63 b h
  have hq : 0 < 2 ^ b := Nat.pow_pos (by decide)
  rw [wrap64_pow b h, wrap64_small _ (by omega) (by omega)]
  show IntKind.i64.wrap ((BitVec.ofInt 64 n &&& BitVec.ofInt 64 (((2 ^ b : Nat) : Int) - 1)).toNat : Int) = _
  have e : (BitVec.ofInt 64 n &&& BitVec.ofInt 64 (((2 ^ b : Nat) : Int) - 1)).toNat = (n % 2 ^ b).toNat := by
    rw [BitVec.toNat_and, BitVec.toNat_ofInt, BitVec.toNat_ofInt]
    have e2 : ((((2 ^ b : Nat) : Int) - 1) % ((2 ^ 64 : Nat) : Int)).toNat = 2 ^ b - 1 := by
      rw [Int.emod_eq_of_lt (by omega) (by omega)]; omega
    rw [e2, Nat.and_two_pow_sub_one_eq_mod]
    have hd : ((2 ^ b : Nat) : Int) ∣ ((2 ^ 64 : Nat) : Int) := Int.natCast_dvd_natCast.2 (Nat.pow_dvd_pow 2 (by omega))
    have e3 : n % ((2 ^ 64 : Nat) : Int) % ((2 ^ b : Nat) : Int) = n % ((2 ^ b : Nat) : Int) := Int.emod_emod_of_dvd n hd
    have e4 : (2 : Int) ^ b = ((2 ^ b : Nat) : Int) := by simp
    rw [e4, ← e3]
    have h0 : 0 ≤ n % ((2 ^ 64 : Nat) : Int) := Int.emod_nonneg _ (by decide)
    generalize n % ((2 ^ 64 : Nat) : Int) = z at h0
    obtain ⟨k, rfl⟩ := Int.eq_ofNat_of_zero_le h0
    simp only [Int.toNat_natCast]
    rw [← Int.natCast_emod, Int.toNat_natCast]
  rw [e]
  have e4 : (2 : Int) ^ b = ((2 ^ b : Nat) : Int) := by simp
  have h1 : 0 ≤ n % 2 ^ b := by rw [e4]; exact Int.emod_nonneg _ (by omega)
  have h2 : n % 2 ^ b < ((2 ^ b : Nat) : Int) := by rw [e4]; exact Int.emod_lt_of_pos _ (by omega)
  rw [wrap_nat _ (by omega)]
  omega

set_option maxRecDepth 100000 in
theorem cut_any (n : Int) (b : Nat) (hb : b < 63) (w : World) :
    Calls Tryd.prog 183 #[.int .i64 n, .int .i64 b] w fun e w' => e = .returned (.int .i64 (n % 2 ^ b)) ∧ w' = w := by
  have hm := and_mask n b hb
  go_enter Tryd.func183, Tryd.ntmps183
  go_wp2
  go_ret
  exact ⟨rfl, rfl⟩

def partF (r p0 p1 p2 p3 : Int) : Nat → Int
  | 0 => r
  | 1 => bits .or .i64 r p0
  | 2 => bits .or .i64 (bits .or .i64 r p0) p1
  | 3 => bits .or .i64 (bits .or .i64 (bits .or .i64 r p0) p1) p2
  | _ => bits .or .i64 (bits .or .i64 (bits .or .i64 (bits .or .i64 r p0) p1) p2) p3
theorem index_piece0 (b0 f0 a0 b1 f1 a1 b2 f2 a2 b3 f3 a3 : Nat) (w : World) : (Instr.index 179 (Value.agg #[.int .i64 b0, .int .i64 f0, .int .i64 a0, .int .i64 b1, .int .i64 f1, .int .i64 a1, .int .i64 b2, .int .i64 f2, .int .i64 a2, .int .i64 b3, .int .i64 f3, .int .i64 a3]) (Value.int .i64 0)).run Tryd.prog w = .ok (.agg #[.int .i64 b0, .int .i64 f0, .int .i64 a0]) w := by kernel_rfl
theorem index_piece1 (b0 f0 a0 b1 f1 a1 b2 f2 a2 b3 f3 a3 : Nat) (w : World) : (Instr.index 179 (Value.agg #[.int .i64 b0, .int .i64 f0, .int .i64 a0, .int .i64 b1, .int .i64 f1, .int .i64 a1, .int .i64 b2, .int .i64 f2, .int .i64 a2, .int .i64 b3, .int .i64 f3, .int .i64 a3]) (Value.int .i64 1)).run Tryd.prog w = .ok (.agg #[.int .i64 b1, .int .i64 f1, .int .i64 a1]) w := by kernel_rfl
theorem index_piece2 (b0 f0 a0 b1 f1 a1 b2 f2 a2 b3 f3 a3 : Nat) (w : World) : (Instr.index 179 (Value.agg #[.int .i64 b0, .int .i64 f0, .int .i64 a0, .int .i64 b1, .int .i64 f1, .int .i64 a1, .int .i64 b2, .int .i64 f2, .int .i64 a2, .int .i64 b3, .int .i64 f3, .int .i64 a3]) (Value.int .i64 2)).run Tryd.prog w = .ok (.agg #[.int .i64 b2, .int .i64 f2, .int .i64 a2]) w := by kernel_rfl
theorem index_piece3 (b0 f0 a0 b1 f1 a1 b2 f2 a2 b3 f3 a3 : Nat) (w : World) : (Instr.index 179 (Value.agg #[.int .i64 b0, .int .i64 f0, .int .i64 a0, .int .i64 b1, .int .i64 f1, .int .i64 a1, .int .i64 b2, .int .i64 f2, .int .i64 a2, .int .i64 b3, .int .i64 f3, .int .i64 a3]) (Value.int .i64 3)).run Tryd.prog w = .ok (.agg #[.int .i64 b3, .int .i64 f3, .int .i64 a3]) w := by kernel_rfl
/-- A piece of a number, as it stands in a word; and the other way round. -/
def pieceI (imm : Int) (b f a : Nat) : Int := wrap64 (imm / 2 ^ f % 2 ^ b * 2 ^ a)
def immG (least most n : Int) : Int := if most < n then wrap64 (n + wrap64 (2 * least)) else n
def orI (a b : Int) : Int := bits .or .i64 a b
def regsI (rd rs1 rs2 : Int) : Int := orI (orI (wrap64 (rd * 2 ^ 7)) (wrap64 (rs1 * 2 ^ 15))) (wrap64 (rs2 * 2 ^ 20))

set_option maxRecDepth 100000 in
set_option maxHeartbeats 2000000 in
theorem imm_any (wd : Int) (r0 r1 r2 r3 r4 r5 r18 : Int) (b0 f0 a0 b1 f1 a1 b2 f2 a2 b3 f3 a3 : Nat) (hb0 : b0 < 63) (hf0 : f0 < 63) (ha0 : a0 < 63) (hb1 : b1 < 63) (hf1 : f1 < 63) (ha1 : a1 < 63) (hb2 : b2 < 63) (hf2 : f2 < 63) (ha2 : a2 < 63) (hb3 : b3 < 63) (hf3 : f3 < 63) (ha3 : a3 < 63) (w : World) :
    Calls Tryd.prog 155 #[.int .i64 wd, .agg #[.int .i64 r0, .int .i64 r1, .int .i64 r2, .int .i64 r3, .int .i64 r4, .int .i64 r5, .int .i64 (b0 : Nat), .int .i64 (f0 : Nat), .int .i64 (a0 : Nat), .int .i64 (b1 : Nat), .int .i64 (f1 : Nat), .int .i64 (a1 : Nat), .int .i64 (b2 : Nat), .int .i64 (f2 : Nat), .int .i64 (a2 : Nat), .int .i64 (b3 : Nat), .int .i64 (f3 : Nat), .int .i64 (a3 : Nat), .int .i64 r18]] w
      fun e w' => e = .returned (.int .i64 (immG r3 r4 (partF 0 (pieceI wd b0 a0 f0) (pieceI wd b1 a1 f1) (pieceI wd b2 a2 f2) (pieceI wd b3 a3 f3) 4))) ∧ Below w.heap.size w w' := by
  have c0 := fun n w => cut_any n b0 hb0 w
  have c1 := fun n w => cut_any n b1 hb1 w
  have c2 := fun n w => cut_any n b2 hb2 w
  have c3 := fun n w => cut_any n b3 hb3 w
  go_enter Tryd.func155, Tryd.ntmps155
  go_wp2
  go_loopw [5, 10] (fun v i wr => ∃ k : Nat, k ≤ 4 ∧ i = .int .i64 k ∧ v = .int .i64 (partF 0 (pieceI wd b0 a0 f0) (pieceI wd b1 a1 f1) (pieceI wd b2 a2 f2) (pieceI wd b3 a3 f3) k) ∧ wr.cell? ⟨w.heap.size, 3, none⟩ = some (.int .i64 r3) ∧ wr.cell? ⟨w.heap.size, 4, none⟩ = some (.int .i64 r4) ∧ Below w.heap.size w wr ∧ w.heap.size + 1 ≤ wr.heap.size) (fun _ i _ => 4 - (intOf i).toNat)
  case atStart => exact ⟨0, by omega, rfl, rfl, by simp, by simp, (Below.refl _ _).alloc (Nat.le_refl _) _, by simp⟩
  case round =>
    obtain ⟨k, hk, rfl, rfl, hc3, hc, hbr, hsz⟩ := hrel
    have hzz : w.heap.size < wr.heap.size := by omega
    have HB : Hid (Below w.heap.size w wr) := hbr
    have HZ : Hid (w.heap.size + 1 ≤ wr.heap.size) := hsz
    clear hbr hsz
    rcases (show k = 0 ∨ k = 1 ∨ k = 2 ∨ k = 3 ∨ k = 4 by omega) with rfl | rfl | rfl | rfl | rfl
    · have HQ : Hid (bits .or .i64 (partF 0 (pieceI wd b0 a0 f0) (pieceI wd b1 a1 f1) (pieceI wd b2 a2 f2) (pieceI wd b3 a3 f3) 0) (wrap64 (wd / 2 ^ a0 % 2 ^ b0 * 2 ^ f0)) = partF 0 (pieceI wd b0 a0 f0) (pieceI wd b1 a1 f1) (pieceI wd b2 a2 f2) (pieceI wd b3 a3 f3) (0 + 1)) := rfl
      generalize partF 0 (pieceI wd b0 a0 f0) (pieceI wd b1 a1 f1) (pieceI wd b2 a2 f2) (pieceI wd b3 a3 f3) 0 = Q at HQ
      have hix := fun w => index_piece0 b0 f0 a0 b1 f1 a1 b2 f2 a2 b3 f3 a3 w
      go_wp2
      go_quiet (first | (go_at_call 183; exact Calls.quiet_of_same (c0 _ _)))
      go_wp2
      go_roundw
      case rel => exact ⟨0 + 1, by omega, rfl, by rw [← HQ.out], cell_alloc hc3 _, cell_alloc hc _, below_drewN (HB.out.alloc (Nat.le_of_lt hzz) _) _, by have := HZ.out; simp; omega⟩
      case measure => simp [intOf]
    · have HQ : Hid (bits .or .i64 (partF 0 (pieceI wd b0 a0 f0) (pieceI wd b1 a1 f1) (pieceI wd b2 a2 f2) (pieceI wd b3 a3 f3) 1) (wrap64 (wd / 2 ^ a1 % 2 ^ b1 * 2 ^ f1)) = partF 0 (pieceI wd b0 a0 f0) (pieceI wd b1 a1 f1) (pieceI wd b2 a2 f2) (pieceI wd b3 a3 f3) (1 + 1)) := rfl
      generalize partF 0 (pieceI wd b0 a0 f0) (pieceI wd b1 a1 f1) (pieceI wd b2 a2 f2) (pieceI wd b3 a3 f3) 1 = Q at HQ
      have hix := fun w => index_piece1 b0 f0 a0 b1 f1 a1 b2 f2 a2 b3 f3 a3 w
      go_wp2
      go_quiet (first | (go_at_call 183; exact Calls.quiet_of_same (c1 _ _)))
      go_wp2
      go_roundw
      case rel => exact ⟨1 + 1, by omega, rfl, by rw [← HQ.out], cell_alloc hc3 _, cell_alloc hc _, below_drewN (HB.out.alloc (Nat.le_of_lt hzz) _) _, by have := HZ.out; simp; omega⟩
      case measure => simp [intOf]
    · have HQ : Hid (bits .or .i64 (partF 0 (pieceI wd b0 a0 f0) (pieceI wd b1 a1 f1) (pieceI wd b2 a2 f2) (pieceI wd b3 a3 f3) 2) (wrap64 (wd / 2 ^ a2 % 2 ^ b2 * 2 ^ f2)) = partF 0 (pieceI wd b0 a0 f0) (pieceI wd b1 a1 f1) (pieceI wd b2 a2 f2) (pieceI wd b3 a3 f3) (2 + 1)) := rfl
      generalize partF 0 (pieceI wd b0 a0 f0) (pieceI wd b1 a1 f1) (pieceI wd b2 a2 f2) (pieceI wd b3 a3 f3) 2 = Q at HQ
      have hix := fun w => index_piece2 b0 f0 a0 b1 f1 a1 b2 f2 a2 b3 f3 a3 w
      go_wp2
      go_quiet (first | (go_at_call 183; exact Calls.quiet_of_same (c2 _ _)))
      go_wp2
      go_roundw
      case rel => exact ⟨2 + 1, by omega, rfl, by rw [← HQ.out], cell_alloc hc3 _, cell_alloc hc _, below_drewN (HB.out.alloc (Nat.le_of_lt hzz) _) _, by have := HZ.out; simp; omega⟩
      case measure => simp [intOf]
    · have HQ : Hid (bits .or .i64 (partF 0 (pieceI wd b0 a0 f0) (pieceI wd b1 a1 f1) (pieceI wd b2 a2 f2) (pieceI wd b3 a3 f3) 3) (wrap64 (wd / 2 ^ a3 % 2 ^ b3 * 2 ^ f3)) = partF 0 (pieceI wd b0 a0 f0) (pieceI wd b1 a1 f1) (pieceI wd b2 a2 f2) (pieceI wd b3 a3 f3) (3 + 1)) := rfl
      generalize partF 0 (pieceI wd b0 a0 f0) (pieceI wd b1 a1 f1) (pieceI wd b2 a2 f2) (pieceI wd b3 a3 f3) 3 = Q at HQ
      have hix := fun w => index_piece3 b0 f0 a0 b1 f1 a1 b2 f2 a2 b3 f3 a3 w
      go_wp2
      go_quiet (first | (go_at_call 183; exact Calls.quiet_of_same (c3 _ _)))
      go_wp2
      go_roundw
      case rel => exact ⟨3 + 1, by omega, rfl, by rw [← HQ.out], cell_alloc hc3 _, cell_alloc hc _, below_drewN (HB.out.alloc (Nat.le_of_lt hzz) _) _, by have := HZ.out; simp; omega⟩
      case measure => simp [intOf]
    · obtain ⟨Q, hQ⟩ : ∃ Q, Q = partF 0 (pieceI wd b0 a0 f0) (pieceI wd b1 a1 f1) (pieceI wd b2 a2 f2) (pieceI wd b3 a3 f3) 4 := ⟨_, rfl⟩
      have HQ : Hid (partF 0 (pieceI wd b0 a0 f0) (pieceI wd b1 a1 f1) (pieceI wd b2 a2 f2) (pieceI wd b3 a3 f3) 4 = Q) := hQ.symm
      rw [← hQ]
      clear hQ
      by_cases hlt : r4 < Q
      · go_wp2
        go_ret
        exact ⟨by rw [HQ.out, immG, if_pos hlt]; rfl, HB.out⟩
      · go_wp2
        go_ret
        exact ⟨by rw [HQ.out, immG, if_neg (by omega)]; rfl, HB.out⟩
end Go.Proofs.YtndogdojcbcjgaaDoor

/- What the code's bits come to: a word is the sum of its parts; what a mask shows, and what pieces of a word are, as numbers. -/
namespace Go.Proofs.YtndogdojcbcjgaaDoor
open Go Go.RowKit

def shN (s j : Nat) : Nat := (shF s j).toNat
def fieldsG (s : Nat) (x : Mi) : Int := orI (orI (orI (orI (regsI x.rd x.rs1 x.rs2) (pieceI x.imm (shN s 6) (shN s 7) (shN s 8))) (pieceI x.imm (shN s 9) (shN s 10) (shN s 11))) (pieceI x.imm (shN s 12) (shN s 13) (shN s 14))) (pieceI x.imm (shN s 15) (shN s 16) (shN s 17))
def immRaw (s : Nat) (w : Int) : Int := immG (shF s 3) (shF s 4) (partF 0 (pieceI w (shN s 6) (shN s 8) (shN s 7)) (pieceI w (shN s 9) (shN s 11) (shN s 10)) (pieceI w (shN s 12) (shN s 14) (shN s 13)) (pieceI w (shN s 15) (shN s 17) (shN s 16)) 4)

theorem imm_shape (wd : Int) (s : Nat) (hs : s < 8) (w : World) : Calls Tryd.prog 155 #[.int .i64 wd, .agg (shC s).toArray] w fun e w' => e = .returned (.int .i64 (immRaw s wd)) ∧ Below w.heap.size w w' := by
  rcases eight s hs with rfl | rfl | rfl | rfl | rfl | rfl | rfl | rfl <;> exact imm_any wd _ _ _ _ _ _ _ _ _ _ _ _ _ _ _ _ _ _ _ (by decide) (by decide) (by decide) (by decide) (by decide) (by decide) (by decide) (by decide) (by decide) (by decide) (by decide) (by decide) w

theorem or_c (x y : Int) (x0 : 0 ≤ x) (x1 : x < 4294967296) (y0 : 0 ≤ y) (y1 : y < 4294967296) (h : x = 0 ∨ y = 0) : bits .or .i64 x y = x + y := by
  rcases h with rfl | rfl
  · rw [or_l y y0 y1]; omega
  · rw [or_r x x0 x1]; omega
theorem or_lo (k : Nat) (hk : k ≤ 30) (K : Int) (hK : K = ((2 ^ k : Nat) : Int)) (x z : Int) (x0 : 0 ≤ x) (x1 : x < K) (z0 : 0 ≤ z) (z1 : z < 2147483648) : bits .or .i64 x (K * z) = x + K * z := by
  have hp : 2 ^ k ≤ 1073741824 := Nat.le_trans (Nat.pow_le_pow_right (by decide) hk) (by decide)
  have := or_splitI k hk K hK x 0 0 z x0 x1 (by omega) (by omega) (by omega) (by omega) z0 z1
  rw [or_r x x0 (by omega), or_l z z0 (by omega)] at this
  simpa using this
theorem or_hi (k : Nat) (hk : k ≤ 30) (K : Int) (hK : K = ((2 ^ k : Nat) : Int)) (x z : Int) (x0 : 0 ≤ x) (x1 : x < K) (z0 : 0 ≤ z) (z1 : z < 2147483648) : bits .or .i64 (K * z) x = K * z + x := by
  have hp : 2 ^ k ≤ 1073741824 := Nat.le_trans (Nat.pow_le_pow_right (by decide) hk) (by decide)
  have := or_splitI k hk K hK 0 x z 0 (by omega) (by omega) x0 x1 z0 z1 (by omega) (by omega)
  rw [or_l x x0 (by omega), or_r z z0 (by omega)] at this
  rw [← Int.zero_add (K * z), Int.add_comm _ x]
  simpa [Int.add_comm] using this
theorem piece_none (i : Int) : pieceI i 0 0 0 = 0 := by unfold pieceI; simp; exact wrap64_small 0 (by decide) (by decide)
theorem piece_eq (i : Int) (b f a : Nat) (B F A : Int) (hB : B = 2 ^ b) (hF : F = 2 ^ f) (hA : A = 2 ^ a) (h0 : 0 < B) (h1 : B ≤ 4294967296) (h2 : 0 < A) (h3 : B * A ≤ 4294967296) : pieceI i b f a = i / F % B * A := by
  unfold pieceI
  rw [← hB, ← hF, ← hA]
  have e0 := Int.emod_nonneg (i / F) (show B ≠ 0 by omega)
  have e1 := Int.emod_lt_of_pos (i / F) h0
  generalize i / F % B = z at *
  have g0 : 0 ≤ z * A := Int.mul_nonneg e0 (by omega)
  have g1 : z * A ≤ B * A := Int.mul_le_mul_of_nonneg_right (by omega) (by omega)
  exact wrap64_small _ (by omega) (by omega)

theorem or_pt (a l b m n c a' l' b' m' n' c' : Int) (hp : Pts.Ok ⟨a, l, b, m, n, c⟩) (hq : Pts.Ok ⟨a', l', b', m', n', c'⟩) (ha : bits .or .i64 a a' = a + a') (hl : bits .or .i64 l l' = l + l') (hb : bits .or .i64 b b' = b + b') (hm : bits .or .i64 m m' = m + m') (hn : bits .or .i64 n n' = n + n') (hc : bits .or .i64 c c' = c + c') :
    bits .or .i64 (⟨a, l, b, m, n, c⟩ : Pts).num (⟨a', l', b', m', n', c'⟩ : Pts).num = (⟨a + a', l + l', b + b', m + m', n + n', c + c'⟩ : Pts).num :=
  (or_num _ _ hp hq ha hl hb hm hn hc).trans (by simp only [Pts.num]; omega)
theorem or_even (x y : Int) (x0 : 0 ≤ x) (x1 : x < 128) (y0 : 0 ≤ y) (y1 : y < 2) (h : x % 2 = 0) : bits .or .i64 x y = x + y := by
  have e : x = 2 * (x / 2) := by omega
  rw [e]
  exact or_hi 1 (by decide) 2 rfl y (x / 2) y0 y1 (by omega) (by omega)
theorem num_r (p : Pts) (h : p.Ok) : bits .or .i64 p.num 0 = p.num := or_r _ h.num.1 h.num.2

/-- Registers in a word. -/
theorem regs_num (rd rs1 rs2 : Int) (d0 : 0 ≤ rd) (d1 : rd < 32) (a0 : 0 ≤ rs1) (a1 : rs1 < 32) (b0 : 0 ≤ rs2) (b1 : rs2 < 32) : regsI rd rs1 rs2 = (⟨0, rd, 0, rs1, rs2, 0⟩ : Pts).num := by
  unfold regsI orI
  have e1 : wrap64 (rd * 2 ^ 7) = (⟨0, rd, 0, 0, 0, 0⟩ : Pts).num := by rw [wrap64_small _ (by omega) (by omega)]; simp only [Pts.num]; omega
  have e2 : wrap64 (rs1 * 2 ^ 15) = (⟨0, 0, 0, rs1, 0, 0⟩ : Pts).num := by rw [wrap64_small _ (by omega) (by omega)]; simp only [Pts.num]; omega
  have e3 : wrap64 (rs2 * 2 ^ 20) = (⟨0, 0, 0, 0, rs2, 0⟩ : Pts).num := by rw [wrap64_small _ (by omega) (by omega)]; simp only [Pts.num]; omega
  have f1 : bits .or .i64 (⟨0, rd, 0, 0, 0, 0⟩ : Pts).num (⟨0, 0, 0, rs1, 0, 0⟩ : Pts).num = (⟨0, rd, 0, rs1, 0, 0⟩ : Pts).num := by
    refine (or_pt _ _ _ _ _ _ _ _ _ _ _ _ (by constructor <;> dsimp only <;> omega) (by constructor <;> dsimp only <;> omega) (or_c _ _ (by omega) (by omega) (by omega) (by omega) (by omega)) (or_c _ _ (by omega) (by omega) (by omega) (by omega) (by omega)) (or_c _ _ (by omega) (by omega) (by omega) (by omega) (by omega)) (or_c _ _ (by omega) (by omega) (by omega) (by omega) (by omega)) (or_c _ _ (by omega) (by omega) (by omega) (by omega) (by omega)) (or_c _ _ (by omega) (by omega) (by omega) (by omega) (by omega))).trans ?_
    simp only [Pts.num]; omega
  have f2 : bits .or .i64 (⟨0, rd, 0, rs1, 0, 0⟩ : Pts).num (⟨0, 0, 0, 0, rs2, 0⟩ : Pts).num = (⟨0, rd, 0, rs1, rs2, 0⟩ : Pts).num := by
    refine (or_pt _ _ _ _ _ _ _ _ _ _ _ _ (by constructor <;> dsimp only <;> omega) (by constructor <;> dsimp only <;> omega) (or_c _ _ (by omega) (by omega) (by omega) (by omega) (by omega)) (or_c _ _ (by omega) (by omega) (by omega) (by omega) (by omega)) (or_c _ _ (by omega) (by omega) (by omega) (by omega) (by omega)) (or_c _ _ (by omega) (by omega) (by omega) (by omega) (by omega)) (or_c _ _ (by omega) (by omega) (by omega) (by omega) (by omega)) (or_c _ _ (by omega) (by omega) (by omega) (by omega) (by omega))).trans ?_
    simp only [Pts.num]; omega
  rw [e1, e2, e3, f1, f2]

set_option maxHeartbeats 1000000 in
theorem enc_sum0 (A B C : Int) (a0 : 0 ≤ A) (a1 : A < 128) (b0 : 0 ≤ B) (b1 : B < 8) (c0 : 0 ≤ C) (c1 : C < 128) (rd rs1 rs2 : Int) (hrd0 : 0 ≤ rd) (hrd1 : rd < 32) (hrs10 : 0 ≤ rs1) (hrs11 : rs1 < 32) (hrs20 : 0 ≤ rs2) (hrs21 : rs2 < 32) (imm : Int) : orI (⟨A, 0, B, 0, 0, C⟩ : Pts).num (orI (orI (orI (orI (regsI rd rs1 rs2) (pieceI imm 0 0 0)) (pieceI imm 0 0 0)) (pieceI imm 0 0 0)) (pieceI imm 0 0 0)) = (⟨A, rd, B, rs1, rs2, C⟩ : Pts).num := by
  have z : bits .or .i64 (⟨A, 0, B, 0, 0, C⟩ : Pts).num (⟨0, rd, 0, rs1, rs2, 0⟩ : Pts).num = (⟨A, rd, B, rs1, rs2, C⟩ : Pts).num := by
    refine (or_pt _ _ _ _ _ _ _ _ _ _ _ _ (by constructor <;> dsimp only <;> omega) (by constructor <;> dsimp only <;> omega) (or_c _ _ (by omega) (by omega) (by omega) (by omega) (by omega)) (or_c _ _ (by omega) (by omega) (by omega) (by omega) (by omega)) (or_c _ _ (by omega) (by omega) (by omega) (by omega) (by omega)) (or_c _ _ (by omega) (by omega) (by omega) (by omega) (by omega)) (or_c _ _ (by omega) (by omega) (by omega) (by omega) (by omega)) (or_c _ _ (by omega) (by omega) (by omega) (by omega) (by omega))).trans ?_
    simp only [Pts.num]; omega
  unfold orI
  rw [regs_num rd rs1 rs2 (by omega) (by omega) (by omega) (by omega) (by omega) (by omega)]
  rw [piece_none, num_r _ (by constructor <;> dsimp only <;> omega)]
  rw [num_r _ (by constructor <;> dsimp only <;> omega)]
  rw [num_r _ (by constructor <;> dsimp only <;> omega)]
  rw [num_r _ (by constructor <;> dsimp only <;> omega)]
  exact z
set_option maxHeartbeats 1000000 in
theorem enc_sum1 (A B : Int) (a0 : 0 ≤ A) (a1 : A < 128) (b0 : 0 ≤ B) (b1 : B < 8) (rd rs1 : Int) (hrd0 : 0 ≤ rd) (hrd1 : rd < 32) (hrs10 : 0 ≤ rs1) (hrs11 : rs1 < 32) (imm : Int) : orI (⟨A, 0, B, 0, 0, 0⟩ : Pts).num (orI (orI (orI (orI (regsI rd rs1 0) (pieceI imm 12 0 20)) (pieceI imm 0 0 0)) (pieceI imm 0 0 0)) (pieceI imm 0 0 0)) = (⟨A, rd, B, rs1, imm % 32, imm / 32 % 128⟩ : Pts).num := by
  have p0 : pieceI imm 12 0 20 = (⟨0, 0, 0, 0, imm % 32, imm / 32 % 128⟩ : Pts).num := by
    rw [piece_eq imm 12 0 20 4096 1 1048576 (by decide) (by decide) (by decide) (by decide) (by decide) (by decide) (by decide)]
    simp only [Pts.num]; omega
  have q0 : bits .or .i64 (⟨0, rd, 0, rs1, 0, 0⟩ : Pts).num (⟨0, 0, 0, 0, imm % 32, imm / 32 % 128⟩ : Pts).num = (⟨0, rd, 0, rs1, imm % 32, imm / 32 % 128⟩ : Pts).num := by
    refine (or_pt _ _ _ _ _ _ _ _ _ _ _ _ (by constructor <;> dsimp only <;> omega) (by constructor <;> dsimp only <;> omega) (or_c _ _ (by omega) (by omega) (by omega) (by omega) (by omega)) (or_c _ _ (by omega) (by omega) (by omega) (by omega) (by omega)) (or_c _ _ (by omega) (by omega) (by omega) (by omega) (by omega)) (or_c _ _ (by omega) (by omega) (by omega) (by omega) (by omega)) (or_c _ _ (by omega) (by omega) (by omega) (by omega) (by omega)) (or_c _ _ (by omega) (by omega) (by omega) (by omega) (by omega))).trans ?_
    simp only [Pts.num]; omega
  have z : bits .or .i64 (⟨A, 0, B, 0, 0, 0⟩ : Pts).num (⟨0, rd, 0, rs1, imm % 32, imm / 32 % 128⟩ : Pts).num = (⟨A, rd, B, rs1, imm % 32, imm / 32 % 128⟩ : Pts).num := by
    refine (or_pt _ _ _ _ _ _ _ _ _ _ _ _ (by constructor <;> dsimp only <;> omega) (by constructor <;> dsimp only <;> omega) (or_c _ _ (by omega) (by omega) (by omega) (by omega) (by omega)) (or_c _ _ (by omega) (by omega) (by omega) (by omega) (by omega)) (or_c _ _ (by omega) (by omega) (by omega) (by omega) (by omega)) (or_c _ _ (by omega) (by omega) (by omega) (by omega) (by omega)) (or_c _ _ (by omega) (by omega) (by omega) (by omega) (by omega)) (or_c _ _ (by omega) (by omega) (by omega) (by omega) (by omega))).trans ?_
    simp only [Pts.num]; omega
  unfold orI
  rw [regs_num rd rs1 0 (by omega) (by omega) (by omega) (by omega) (by omega) (by omega)]
  rw [p0, q0]
  rw [piece_none, num_r _ (by constructor <;> dsimp only <;> omega)]
  rw [num_r _ (by constructor <;> dsimp only <;> omega)]
  rw [num_r _ (by constructor <;> dsimp only <;> omega)]
  exact z
set_option maxHeartbeats 1000000 in
theorem enc_sum2 (A B C : Int) (a0 : 0 ≤ A) (a1 : A < 128) (b0 : 0 ≤ B) (b1 : B < 8) (c0 : 0 ≤ C) (c1 : C < 128) (rd rs1 : Int) (hrd0 : 0 ≤ rd) (hrd1 : rd < 32) (hrs10 : 0 ≤ rs1) (hrs11 : rs1 < 32) (imm : Int) (hc2 : C % 2 = 0) (_hc3 : C < 127) : orI (⟨A, 0, B, 0, 0, C⟩ : Pts).num (orI (orI (orI (orI (regsI rd rs1 0) (pieceI imm 6 0 20)) (pieceI imm 0 0 0)) (pieceI imm 0 0 0)) (pieceI imm 0 0 0)) = (⟨A, rd, B, rs1, imm % 32, C + imm / 32 % 2⟩ : Pts).num := by
  have p0 : pieceI imm 6 0 20 = (⟨0, 0, 0, 0, imm % 32, imm / 32 % 2⟩ : Pts).num := by
    rw [piece_eq imm 6 0 20 64 1 1048576 (by decide) (by decide) (by decide) (by decide) (by decide) (by decide) (by decide)]
    simp only [Pts.num]; omega
  have q0 : bits .or .i64 (⟨0, rd, 0, rs1, 0, 0⟩ : Pts).num (⟨0, 0, 0, 0, imm % 32, imm / 32 % 2⟩ : Pts).num = (⟨0, rd, 0, rs1, imm % 32, imm / 32 % 2⟩ : Pts).num := by
    refine (or_pt _ _ _ _ _ _ _ _ _ _ _ _ (by constructor <;> dsimp only <;> omega) (by constructor <;> dsimp only <;> omega) (or_c _ _ (by omega) (by omega) (by omega) (by omega) (by omega)) (or_c _ _ (by omega) (by omega) (by omega) (by omega) (by omega)) (or_c _ _ (by omega) (by omega) (by omega) (by omega) (by omega)) (or_c _ _ (by omega) (by omega) (by omega) (by omega) (by omega)) (or_c _ _ (by omega) (by omega) (by omega) (by omega) (by omega)) (or_c _ _ (by omega) (by omega) (by omega) (by omega) (by omega))).trans ?_
    simp only [Pts.num]; omega
  have z : bits .or .i64 (⟨A, 0, B, 0, 0, C⟩ : Pts).num (⟨0, rd, 0, rs1, imm % 32, imm / 32 % 2⟩ : Pts).num = (⟨A, rd, B, rs1, imm % 32, C + imm / 32 % 2⟩ : Pts).num := by
    refine (or_pt _ _ _ _ _ _ _ _ _ _ _ _ (by constructor <;> dsimp only <;> omega) (by constructor <;> dsimp only <;> omega) (or_c _ _ (by omega) (by omega) (by omega) (by omega) (by omega)) (or_c _ _ (by omega) (by omega) (by omega) (by omega) (by omega)) (or_c _ _ (by omega) (by omega) (by omega) (by omega) (by omega)) (or_c _ _ (by omega) (by omega) (by omega) (by omega) (by omega)) (or_c _ _ (by omega) (by omega) (by omega) (by omega) (by omega)) (or_even _ _ (by omega) (by omega) (by omega) (by omega) (by omega))).trans ?_
    simp only [Pts.num]; omega
  unfold orI
  rw [regs_num rd rs1 0 (by omega) (by omega) (by omega) (by omega) (by omega) (by omega)]
  rw [p0, q0]
  rw [piece_none, num_r _ (by constructor <;> dsimp only <;> omega)]
  rw [num_r _ (by constructor <;> dsimp only <;> omega)]
  rw [num_r _ (by constructor <;> dsimp only <;> omega)]
  exact z
set_option maxHeartbeats 1000000 in
theorem enc_sum3 (A B : Int) (a0 : 0 ≤ A) (a1 : A < 128) (b0 : 0 ≤ B) (b1 : B < 8) (rs1 rs2 : Int) (hrs10 : 0 ≤ rs1) (hrs11 : rs1 < 32) (hrs20 : 0 ≤ rs2) (hrs21 : rs2 < 32) (imm : Int) : orI (⟨A, 0, B, 0, 0, 0⟩ : Pts).num (orI (orI (orI (orI (regsI 0 rs1 rs2) (pieceI imm 5 0 7)) (pieceI imm 7 5 25)) (pieceI imm 0 0 0)) (pieceI imm 0 0 0)) = (⟨A, imm % 32, B, rs1, rs2, imm / 32 % 128⟩ : Pts).num := by
  have p0 : pieceI imm 5 0 7 = (⟨0, imm % 32, 0, 0, 0, 0⟩ : Pts).num := by
    rw [piece_eq imm 5 0 7 32 1 128 (by decide) (by decide) (by decide) (by decide) (by decide) (by decide) (by decide)]
    simp only [Pts.num]; omega
  have q0 : bits .or .i64 (⟨0, 0, 0, rs1, rs2, 0⟩ : Pts).num (⟨0, imm % 32, 0, 0, 0, 0⟩ : Pts).num = (⟨0, imm % 32, 0, rs1, rs2, 0⟩ : Pts).num := by
    refine (or_pt _ _ _ _ _ _ _ _ _ _ _ _ (by constructor <;> dsimp only <;> omega) (by constructor <;> dsimp only <;> omega) (or_c _ _ (by omega) (by omega) (by omega) (by omega) (by omega)) (or_c _ _ (by omega) (by omega) (by omega) (by omega) (by omega)) (or_c _ _ (by omega) (by omega) (by omega) (by omega) (by omega)) (or_c _ _ (by omega) (by omega) (by omega) (by omega) (by omega)) (or_c _ _ (by omega) (by omega) (by omega) (by omega) (by omega)) (or_c _ _ (by omega) (by omega) (by omega) (by omega) (by omega))).trans ?_
    simp only [Pts.num]; omega
  have p1 : pieceI imm 7 5 25 = (⟨0, 0, 0, 0, 0, imm / 32 % 128⟩ : Pts).num := by
    rw [piece_eq imm 7 5 25 128 32 33554432 (by decide) (by decide) (by decide) (by decide) (by decide) (by decide) (by decide)]
    simp only [Pts.num]; omega
  have q1 : bits .or .i64 (⟨0, imm % 32, 0, rs1, rs2, 0⟩ : Pts).num (⟨0, 0, 0, 0, 0, imm / 32 % 128⟩ : Pts).num = (⟨0, imm % 32, 0, rs1, rs2, imm / 32 % 128⟩ : Pts).num := by
    refine (or_pt _ _ _ _ _ _ _ _ _ _ _ _ (by constructor <;> dsimp only <;> omega) (by constructor <;> dsimp only <;> omega) (or_c _ _ (by omega) (by omega) (by omega) (by omega) (by omega)) (or_c _ _ (by omega) (by omega) (by omega) (by omega) (by omega)) (or_c _ _ (by omega) (by omega) (by omega) (by omega) (by omega)) (or_c _ _ (by omega) (by omega) (by omega) (by omega) (by omega)) (or_c _ _ (by omega) (by omega) (by omega) (by omega) (by omega)) (or_c _ _ (by omega) (by omega) (by omega) (by omega) (by omega))).trans ?_
    simp only [Pts.num]; omega
  have z : bits .or .i64 (⟨A, 0, B, 0, 0, 0⟩ : Pts).num (⟨0, imm % 32, 0, rs1, rs2, imm / 32 % 128⟩ : Pts).num = (⟨A, imm % 32, B, rs1, rs2, imm / 32 % 128⟩ : Pts).num := by
    refine (or_pt _ _ _ _ _ _ _ _ _ _ _ _ (by constructor <;> dsimp only <;> omega) (by constructor <;> dsimp only <;> omega) (or_c _ _ (by omega) (by omega) (by omega) (by omega) (by omega)) (or_c _ _ (by omega) (by omega) (by omega) (by omega) (by omega)) (or_c _ _ (by omega) (by omega) (by omega) (by omega) (by omega)) (or_c _ _ (by omega) (by omega) (by omega) (by omega) (by omega)) (or_c _ _ (by omega) (by omega) (by omega) (by omega) (by omega)) (or_c _ _ (by omega) (by omega) (by omega) (by omega) (by omega))).trans ?_
    simp only [Pts.num]; omega
  unfold orI
  rw [regs_num 0 rs1 rs2 (by omega) (by omega) (by omega) (by omega) (by omega) (by omega)]
  rw [p0, q0, p1, q1]
  rw [piece_none, num_r _ (by constructor <;> dsimp only <;> omega)]
  rw [num_r _ (by constructor <;> dsimp only <;> omega)]
  exact z
set_option maxHeartbeats 1000000 in
theorem enc_sum4 (A B : Int) (a0 : 0 ≤ A) (a1 : A < 128) (b0 : 0 ≤ B) (b1 : B < 8) (rs1 rs2 : Int) (hrs10 : 0 ≤ rs1) (hrs11 : rs1 < 32) (hrs20 : 0 ≤ rs2) (hrs21 : rs2 < 32) (imm : Int) : orI (⟨A, 0, B, 0, 0, 0⟩ : Pts).num (orI (orI (orI (orI (regsI 0 rs1 rs2) (pieceI imm 1 11 7)) (pieceI imm 4 1 8)) (pieceI imm 6 5 25)) (pieceI imm 1 12 31)) = (⟨A, imm / 2048 % 2 + 2 * (imm / 2 % 16), B, rs1, rs2, imm / 32 % 64 + 64 * (imm / 4096 % 2)⟩ : Pts).num := by
  have p0 : pieceI imm 1 11 7 = (⟨0, imm / 2048 % 2, 0, 0, 0, 0⟩ : Pts).num := by
    rw [piece_eq imm 1 11 7 2 2048 128 (by decide) (by decide) (by decide) (by decide) (by decide) (by decide) (by decide)]
    simp only [Pts.num]; omega
  have q0 : bits .or .i64 (⟨0, 0, 0, rs1, rs2, 0⟩ : Pts).num (⟨0, imm / 2048 % 2, 0, 0, 0, 0⟩ : Pts).num = (⟨0, imm / 2048 % 2, 0, rs1, rs2, 0⟩ : Pts).num := by
    refine (or_pt _ _ _ _ _ _ _ _ _ _ _ _ (by constructor <;> dsimp only <;> omega) (by constructor <;> dsimp only <;> omega) (or_c _ _ (by omega) (by omega) (by omega) (by omega) (by omega)) (or_c _ _ (by omega) (by omega) (by omega) (by omega) (by omega)) (or_c _ _ (by omega) (by omega) (by omega) (by omega) (by omega)) (or_c _ _ (by omega) (by omega) (by omega) (by omega) (by omega)) (or_c _ _ (by omega) (by omega) (by omega) (by omega) (by omega)) (or_c _ _ (by omega) (by omega) (by omega) (by omega) (by omega))).trans ?_
    simp only [Pts.num]; omega
  have p1 : pieceI imm 4 1 8 = (⟨0, 2 * (imm / 2 % 16), 0, 0, 0, 0⟩ : Pts).num := by
    rw [piece_eq imm 4 1 8 16 2 256 (by decide) (by decide) (by decide) (by decide) (by decide) (by decide) (by decide)]
    simp only [Pts.num]; omega
  have q1 : bits .or .i64 (⟨0, imm / 2048 % 2, 0, rs1, rs2, 0⟩ : Pts).num (⟨0, 2 * (imm / 2 % 16), 0, 0, 0, 0⟩ : Pts).num = (⟨0, imm / 2048 % 2 + 2 * (imm / 2 % 16), 0, rs1, rs2, 0⟩ : Pts).num := by
    refine (or_pt _ _ _ _ _ _ _ _ _ _ _ _ (by constructor <;> dsimp only <;> omega) (by constructor <;> dsimp only <;> omega) (or_c _ _ (by omega) (by omega) (by omega) (by omega) (by omega)) (or_lo 1 (by decide) 2 rfl _ _ (by omega) (by omega) (by omega) (by omega)) (or_c _ _ (by omega) (by omega) (by omega) (by omega) (by omega)) (or_c _ _ (by omega) (by omega) (by omega) (by omega) (by omega)) (or_c _ _ (by omega) (by omega) (by omega) (by omega) (by omega)) (or_c _ _ (by omega) (by omega) (by omega) (by omega) (by omega))).trans ?_
    simp only [Pts.num]; omega
  have p2 : pieceI imm 6 5 25 = (⟨0, 0, 0, 0, 0, imm / 32 % 64⟩ : Pts).num := by
    rw [piece_eq imm 6 5 25 64 32 33554432 (by decide) (by decide) (by decide) (by decide) (by decide) (by decide) (by decide)]
    simp only [Pts.num]; omega
  have q2 : bits .or .i64 (⟨0, imm / 2048 % 2 + 2 * (imm / 2 % 16), 0, rs1, rs2, 0⟩ : Pts).num (⟨0, 0, 0, 0, 0, imm / 32 % 64⟩ : Pts).num = (⟨0, imm / 2048 % 2 + 2 * (imm / 2 % 16), 0, rs1, rs2, imm / 32 % 64⟩ : Pts).num := by
    refine (or_pt _ _ _ _ _ _ _ _ _ _ _ _ (by constructor <;> dsimp only <;> omega) (by constructor <;> dsimp only <;> omega) (or_c _ _ (by omega) (by omega) (by omega) (by omega) (by omega)) (or_c _ _ (by omega) (by omega) (by omega) (by omega) (by omega)) (or_c _ _ (by omega) (by omega) (by omega) (by omega) (by omega)) (or_c _ _ (by omega) (by omega) (by omega) (by omega) (by omega)) (or_c _ _ (by omega) (by omega) (by omega) (by omega) (by omega)) (or_c _ _ (by omega) (by omega) (by omega) (by omega) (by omega))).trans ?_
    simp only [Pts.num]; omega
  have p3 : pieceI imm 1 12 31 = (⟨0, 0, 0, 0, 0, 64 * (imm / 4096 % 2)⟩ : Pts).num := by
    rw [piece_eq imm 1 12 31 2 4096 2147483648 (by decide) (by decide) (by decide) (by decide) (by decide) (by decide) (by decide)]
    simp only [Pts.num]; omega
  have q3 : bits .or .i64 (⟨0, imm / 2048 % 2 + 2 * (imm / 2 % 16), 0, rs1, rs2, imm / 32 % 64⟩ : Pts).num (⟨0, 0, 0, 0, 0, 64 * (imm / 4096 % 2)⟩ : Pts).num = (⟨0, imm / 2048 % 2 + 2 * (imm / 2 % 16), 0, rs1, rs2, imm / 32 % 64 + 64 * (imm / 4096 % 2)⟩ : Pts).num := by
    refine (or_pt _ _ _ _ _ _ _ _ _ _ _ _ (by constructor <;> dsimp only <;> omega) (by constructor <;> dsimp only <;> omega) (or_c _ _ (by omega) (by omega) (by omega) (by omega) (by omega)) (or_c _ _ (by omega) (by omega) (by omega) (by omega) (by omega)) (or_c _ _ (by omega) (by omega) (by omega) (by omega) (by omega)) (or_c _ _ (by omega) (by omega) (by omega) (by omega) (by omega)) (or_c _ _ (by omega) (by omega) (by omega) (by omega) (by omega)) (or_lo 6 (by decide) 64 rfl _ _ (by omega) (by omega) (by omega) (by omega))).trans ?_
    simp only [Pts.num]; omega
  have z : bits .or .i64 (⟨A, 0, B, 0, 0, 0⟩ : Pts).num (⟨0, imm / 2048 % 2 + 2 * (imm / 2 % 16), 0, rs1, rs2, imm / 32 % 64 + 64 * (imm / 4096 % 2)⟩ : Pts).num = (⟨A, imm / 2048 % 2 + 2 * (imm / 2 % 16), B, rs1, rs2, imm / 32 % 64 + 64 * (imm / 4096 % 2)⟩ : Pts).num := by
    refine (or_pt _ _ _ _ _ _ _ _ _ _ _ _ (by constructor <;> dsimp only <;> omega) (by constructor <;> dsimp only <;> omega) (or_c _ _ (by omega) (by omega) (by omega) (by omega) (by omega)) (or_c _ _ (by omega) (by omega) (by omega) (by omega) (by omega)) (or_c _ _ (by omega) (by omega) (by omega) (by omega) (by omega)) (or_c _ _ (by omega) (by omega) (by omega) (by omega) (by omega)) (or_c _ _ (by omega) (by omega) (by omega) (by omega) (by omega)) (or_c _ _ (by omega) (by omega) (by omega) (by omega) (by omega))).trans ?_
    simp only [Pts.num]; omega
  unfold orI
  rw [regs_num 0 rs1 rs2 (by omega) (by omega) (by omega) (by omega) (by omega) (by omega)]
  rw [p0, q0, p1, q1, p2, q2, p3, q3]
  exact z
set_option maxHeartbeats 1000000 in
theorem enc_sum5 (A : Int) (a0 : 0 ≤ A) (a1 : A < 128) (rd : Int) (hrd0 : 0 ≤ rd) (hrd1 : rd < 32) (imm : Int) : orI (⟨A, 0, 0, 0, 0, 0⟩ : Pts).num (orI (orI (orI (orI (regsI rd 0 0) (pieceI imm 8 12 12)) (pieceI imm 1 11 20)) (pieceI imm 10 1 21)) (pieceI imm 1 20 31)) = (⟨A, rd, imm / 4096 % 8, imm / 32768 % 32, imm / 2048 % 2 + 2 * (imm / 2 % 16), imm / 32 % 64 + 64 * (imm / 1048576 % 2)⟩ : Pts).num := by
  have p0 : pieceI imm 8 12 12 = (⟨0, 0, imm / 4096 % 8, imm / 32768 % 32, 0, 0⟩ : Pts).num := by
    rw [piece_eq imm 8 12 12 256 4096 4096 (by decide) (by decide) (by decide) (by decide) (by decide) (by decide) (by decide)]
    simp only [Pts.num]; omega
  have q0 : bits .or .i64 (⟨0, rd, 0, 0, 0, 0⟩ : Pts).num (⟨0, 0, imm / 4096 % 8, imm / 32768 % 32, 0, 0⟩ : Pts).num = (⟨0, rd, imm / 4096 % 8, imm / 32768 % 32, 0, 0⟩ : Pts).num := by
    refine (or_pt _ _ _ _ _ _ _ _ _ _ _ _ (by constructor <;> dsimp only <;> omega) (by constructor <;> dsimp only <;> omega) (or_c _ _ (by omega) (by omega) (by omega) (by omega) (by omega)) (or_c _ _ (by omega) (by omega) (by omega) (by omega) (by omega)) (or_c _ _ (by omega) (by omega) (by omega) (by omega) (by omega)) (or_c _ _ (by omega) (by omega) (by omega) (by omega) (by omega)) (or_c _ _ (by omega) (by omega) (by omega) (by omega) (by omega)) (or_c _ _ (by omega) (by omega) (by omega) (by omega) (by omega))).trans ?_
    simp only [Pts.num]; omega
  have p1 : pieceI imm 1 11 20 = (⟨0, 0, 0, 0, imm / 2048 % 2, 0⟩ : Pts).num := by
    rw [piece_eq imm 1 11 20 2 2048 1048576 (by decide) (by decide) (by decide) (by decide) (by decide) (by decide) (by decide)]
    simp only [Pts.num]; omega
  have q1 : bits .or .i64 (⟨0, rd, imm / 4096 % 8, imm / 32768 % 32, 0, 0⟩ : Pts).num (⟨0, 0, 0, 0, imm / 2048 % 2, 0⟩ : Pts).num = (⟨0, rd, imm / 4096 % 8, imm / 32768 % 32, imm / 2048 % 2, 0⟩ : Pts).num := by
    refine (or_pt _ _ _ _ _ _ _ _ _ _ _ _ (by constructor <;> dsimp only <;> omega) (by constructor <;> dsimp only <;> omega) (or_c _ _ (by omega) (by omega) (by omega) (by omega) (by omega)) (or_c _ _ (by omega) (by omega) (by omega) (by omega) (by omega)) (or_c _ _ (by omega) (by omega) (by omega) (by omega) (by omega)) (or_c _ _ (by omega) (by omega) (by omega) (by omega) (by omega)) (or_c _ _ (by omega) (by omega) (by omega) (by omega) (by omega)) (or_c _ _ (by omega) (by omega) (by omega) (by omega) (by omega))).trans ?_
    simp only [Pts.num]; omega
  have p2 : pieceI imm 10 1 21 = (⟨0, 0, 0, 0, 2 * (imm / 2 % 16), imm / 32 % 64⟩ : Pts).num := by
    rw [piece_eq imm 10 1 21 1024 2 2097152 (by decide) (by decide) (by decide) (by decide) (by decide) (by decide) (by decide)]
    simp only [Pts.num]; omega
  have q2 : bits .or .i64 (⟨0, rd, imm / 4096 % 8, imm / 32768 % 32, imm / 2048 % 2, 0⟩ : Pts).num (⟨0, 0, 0, 0, 2 * (imm / 2 % 16), imm / 32 % 64⟩ : Pts).num = (⟨0, rd, imm / 4096 % 8, imm / 32768 % 32, imm / 2048 % 2 + 2 * (imm / 2 % 16), imm / 32 % 64⟩ : Pts).num := by
    refine (or_pt _ _ _ _ _ _ _ _ _ _ _ _ (by constructor <;> dsimp only <;> omega) (by constructor <;> dsimp only <;> omega) (or_c _ _ (by omega) (by omega) (by omega) (by omega) (by omega)) (or_c _ _ (by omega) (by omega) (by omega) (by omega) (by omega)) (or_c _ _ (by omega) (by omega) (by omega) (by omega) (by omega)) (or_c _ _ (by omega) (by omega) (by omega) (by omega) (by omega)) (or_lo 1 (by decide) 2 rfl _ _ (by omega) (by omega) (by omega) (by omega)) (or_c _ _ (by omega) (by omega) (by omega) (by omega) (by omega))).trans ?_
    simp only [Pts.num]; omega
  have p3 : pieceI imm 1 20 31 = (⟨0, 0, 0, 0, 0, 64 * (imm / 1048576 % 2)⟩ : Pts).num := by
    rw [piece_eq imm 1 20 31 2 1048576 2147483648 (by decide) (by decide) (by decide) (by decide) (by decide) (by decide) (by decide)]
    simp only [Pts.num]; omega
  have q3 : bits .or .i64 (⟨0, rd, imm / 4096 % 8, imm / 32768 % 32, imm / 2048 % 2 + 2 * (imm / 2 % 16), imm / 32 % 64⟩ : Pts).num (⟨0, 0, 0, 0, 0, 64 * (imm / 1048576 % 2)⟩ : Pts).num = (⟨0, rd, imm / 4096 % 8, imm / 32768 % 32, imm / 2048 % 2 + 2 * (imm / 2 % 16), imm / 32 % 64 + 64 * (imm / 1048576 % 2)⟩ : Pts).num := by
    refine (or_pt _ _ _ _ _ _ _ _ _ _ _ _ (by constructor <;> dsimp only <;> omega) (by constructor <;> dsimp only <;> omega) (or_c _ _ (by omega) (by omega) (by omega) (by omega) (by omega)) (or_c _ _ (by omega) (by omega) (by omega) (by omega) (by omega)) (or_c _ _ (by omega) (by omega) (by omega) (by omega) (by omega)) (or_c _ _ (by omega) (by omega) (by omega) (by omega) (by omega)) (or_c _ _ (by omega) (by omega) (by omega) (by omega) (by omega)) (or_lo 6 (by decide) 64 rfl _ _ (by omega) (by omega) (by omega) (by omega))).trans ?_
    simp only [Pts.num]; omega
  have z : bits .or .i64 (⟨A, 0, 0, 0, 0, 0⟩ : Pts).num (⟨0, rd, imm / 4096 % 8, imm / 32768 % 32, imm / 2048 % 2 + 2 * (imm / 2 % 16), imm / 32 % 64 + 64 * (imm / 1048576 % 2)⟩ : Pts).num = (⟨A, rd, imm / 4096 % 8, imm / 32768 % 32, imm / 2048 % 2 + 2 * (imm / 2 % 16), imm / 32 % 64 + 64 * (imm / 1048576 % 2)⟩ : Pts).num := by
    refine (or_pt _ _ _ _ _ _ _ _ _ _ _ _ (by constructor <;> dsimp only <;> omega) (by constructor <;> dsimp only <;> omega) (or_c _ _ (by omega) (by omega) (by omega) (by omega) (by omega)) (or_c _ _ (by omega) (by omega) (by omega) (by omega) (by omega)) (or_c _ _ (by omega) (by omega) (by omega) (by omega) (by omega)) (or_c _ _ (by omega) (by omega) (by omega) (by omega) (by omega)) (or_c _ _ (by omega) (by omega) (by omega) (by omega) (by omega)) (or_c _ _ (by omega) (by omega) (by omega) (by omega) (by omega))).trans ?_
    simp only [Pts.num]; omega
  unfold orI
  rw [regs_num rd 0 0 (by omega) (by omega) (by omega) (by omega) (by omega) (by omega)]
  rw [p0, q0, p1, q1, p2, q2, p3, q3]
  exact z
set_option maxHeartbeats 1000000 in
theorem enc_sum6 (A : Int) (a0 : 0 ≤ A) (a1 : A < 128) (rd : Int) (hrd0 : 0 ≤ rd) (hrd1 : rd < 32) (imm : Int) : orI (⟨A, 0, 0, 0, 0, 0⟩ : Pts).num (orI (orI (orI (orI (regsI rd 0 0) (pieceI imm 20 0 12)) (pieceI imm 0 0 0)) (pieceI imm 0 0 0)) (pieceI imm 0 0 0)) = (⟨A, rd, imm % 8, imm / 8 % 32, imm / 256 % 32, imm / 8192 % 128⟩ : Pts).num := by
  have p0 : pieceI imm 20 0 12 = (⟨0, 0, imm % 8, imm / 8 % 32, imm / 256 % 32, imm / 8192 % 128⟩ : Pts).num := by
    rw [piece_eq imm 20 0 12 1048576 1 4096 (by decide) (by decide) (by decide) (by decide) (by decide) (by decide) (by decide)]
    simp only [Pts.num]; omega
  have q0 : bits .or .i64 (⟨0, rd, 0, 0, 0, 0⟩ : Pts).num (⟨0, 0, imm % 8, imm / 8 % 32, imm / 256 % 32, imm / 8192 % 128⟩ : Pts).num = (⟨0, rd, imm % 8, imm / 8 % 32, imm / 256 % 32, imm / 8192 % 128⟩ : Pts).num := by
    refine (or_pt _ _ _ _ _ _ _ _ _ _ _ _ (by constructor <;> dsimp only <;> omega) (by constructor <;> dsimp only <;> omega) (or_c _ _ (by omega) (by omega) (by omega) (by omega) (by omega)) (or_c _ _ (by omega) (by omega) (by omega) (by omega) (by omega)) (or_c _ _ (by omega) (by omega) (by omega) (by omega) (by omega)) (or_c _ _ (by omega) (by omega) (by omega) (by omega) (by omega)) (or_c _ _ (by omega) (by omega) (by omega) (by omega) (by omega)) (or_c _ _ (by omega) (by omega) (by omega) (by omega) (by omega))).trans ?_
    simp only [Pts.num]; omega
  have z : bits .or .i64 (⟨A, 0, 0, 0, 0, 0⟩ : Pts).num (⟨0, rd, imm % 8, imm / 8 % 32, imm / 256 % 32, imm / 8192 % 128⟩ : Pts).num = (⟨A, rd, imm % 8, imm / 8 % 32, imm / 256 % 32, imm / 8192 % 128⟩ : Pts).num := by
    refine (or_pt _ _ _ _ _ _ _ _ _ _ _ _ (by constructor <;> dsimp only <;> omega) (by constructor <;> dsimp only <;> omega) (or_c _ _ (by omega) (by omega) (by omega) (by omega) (by omega)) (or_c _ _ (by omega) (by omega) (by omega) (by omega) (by omega)) (or_c _ _ (by omega) (by omega) (by omega) (by omega) (by omega)) (or_c _ _ (by omega) (by omega) (by omega) (by omega) (by omega)) (or_c _ _ (by omega) (by omega) (by omega) (by omega) (by omega)) (or_c _ _ (by omega) (by omega) (by omega) (by omega) (by omega))).trans ?_
    simp only [Pts.num]; omega
  unfold orI
  rw [regs_num rd 0 0 (by omega) (by omega) (by omega) (by omega) (by omega) (by omega)]
  rw [p0, q0]
  rw [piece_none, num_r _ (by constructor <;> dsimp only <;> omega)]
  rw [num_r _ (by constructor <;> dsimp only <;> omega)]
  rw [num_r _ (by constructor <;> dsimp only <;> omega)]
  exact z
set_option maxHeartbeats 1000000 in
theorem enc_sum7 (A : Int) (a0 : 0 ≤ A) (a1 : A < 128) (imm : Int) : orI (⟨A, 0, 0, 0, 0, 0⟩ : Pts).num (orI (orI (orI (orI (regsI 0 0 0) (pieceI imm 0 0 0)) (pieceI imm 0 0 0)) (pieceI imm 0 0 0)) (pieceI imm 0 0 0)) = (⟨A, 0, 0, 0, 0, 0⟩ : Pts).num := by
  have z : bits .or .i64 (⟨A, 0, 0, 0, 0, 0⟩ : Pts).num (⟨0, 0, 0, 0, 0, 0⟩ : Pts).num = (⟨A, 0, 0, 0, 0, 0⟩ : Pts).num := by
    refine (or_pt _ _ _ _ _ _ _ _ _ _ _ _ (by constructor <;> dsimp only <;> omega) (by constructor <;> dsimp only <;> omega) (or_c _ _ (by omega) (by omega) (by omega) (by omega) (by omega)) (or_c _ _ (by omega) (by omega) (by omega) (by omega) (by omega)) (or_c _ _ (by omega) (by omega) (by omega) (by omega) (by omega)) (or_c _ _ (by omega) (by omega) (by omega) (by omega) (by omega)) (or_c _ _ (by omega) (by omega) (by omega) (by omega) (by omega)) (or_c _ _ (by omega) (by omega) (by omega) (by omega) (by omega))).trans ?_
    simp only [Pts.num]; omega
  unfold orI
  rw [regs_num 0 0 0 (by omega) (by omega) (by omega) (by omega) (by omega) (by omega)]
  rw [piece_none, num_r _ (by constructor <;> dsimp only <;> omega)]
  rw [num_r _ (by constructor <;> dsimp only <;> omega)]
  rw [num_r _ (by constructor <;> dsimp only <;> omega)]
  rw [num_r _ (by constructor <;> dsimp only <;> omega)]
  exact z
end Go.Proofs.YtndogdojcbcjgaaDoor

/- What the code's bits come to, for each op: a word is its parts' sum; a mask tells whether a word has what an op settles; pieces of a word are the number that stands in it. -/
namespace Go.Proofs.YtndogdojcbcjgaaDoor
open Go Go.RowKit

theorem enc_eqQ (s : Nat) (hs : s < 8) (A B C : Int) (hS : Sett s A B C) (S : Int) (hSS : S = A + 4096 * B + 33554432 * C) (x : Mi) (hf : fitsB s x = true) : orI S (fieldsG s x) = (wordQ s A B C x).num := by
  obtain ⟨op, rd, rs1, rs2, imm⟩ := x
  obtain ⟨p1, p2, p3, p4, p5, p6, p7, p8, p9, p10, p11⟩ := hS
  rw [fits_iff] at hf
  rcases eight s hs with rfl | rfl | rfl | rfl | rfl | rfl | rfl | rfl <;> simp [shF, shL] at hf p8 p9 p10 p11
  · rw [show S = (⟨A, 0, B, 0, 0, C⟩ : Pts).num by simp only [Pts.num]; omega]
    exact enc_sum0 A B C p1 p2 p3 p4 p5 p6 rd rs1 rs2 (by omega) (by omega) (by omega) (by omega) (by omega) (by omega) imm
  · rw [show S = (⟨A, 0, B, 0, 0, 0⟩ : Pts).num by simp only [Pts.num]; omega]
    obtain rfl : rs2 = 0 := by omega
    exact enc_sum1 A B p1 p2 p3 p4 rd rs1 (by omega) (by omega) (by omega) (by omega) imm
  · rw [show S = (⟨A, 0, B, 0, 0, C⟩ : Pts).num by simp only [Pts.num]; omega]
    obtain rfl : rs2 = 0 := by omega
    refine (enc_sum2 A B C p1 p2 p3 p4 p5 p6 rd rs1 (by omega) (by omega) (by omega) (by omega) imm (by omega) (by omega)).trans ?_
    simp only [wordQ, Pts.num]; omega
  · rw [show S = (⟨A, 0, B, 0, 0, 0⟩ : Pts).num by simp only [Pts.num]; omega]
    obtain rfl : rd = 0 := by omega
    exact enc_sum3 A B p1 p2 p3 p4 rs1 rs2 (by omega) (by omega) (by omega) (by omega) imm
  · rw [show S = (⟨A, 0, B, 0, 0, 0⟩ : Pts).num by simp only [Pts.num]; omega]
    obtain rfl : rd = 0 := by omega
    exact enc_sum4 A B p1 p2 p3 p4 rs1 rs2 (by omega) (by omega) (by omega) (by omega) imm
  · rw [show S = (⟨A, 0, 0, 0, 0, 0⟩ : Pts).num by simp only [Pts.num]; omega]
    obtain rfl : rs1 = 0 := by omega
    obtain rfl : rs2 = 0 := by omega
    exact enc_sum5 A p1 p2 rd (by omega) (by omega) imm
  · rw [show S = (⟨A, 0, 0, 0, 0, 0⟩ : Pts).num by simp only [Pts.num]; omega]
    obtain rfl : rs1 = 0 := by omega
    obtain rfl : rs2 = 0 := by omega
    exact enc_sum6 A p1 p2 rd (by omega) (by omega) imm
  · rw [show S = (⟨A, 0, 0, 0, 0, 0⟩ : Pts).num by simp only [Pts.num]; omega]
    obtain rfl : rd = 0 := by omega
    obtain rfl : rs1 = 0 := by omega
    obtain rfl : rs2 = 0 := by omega
    exact enc_sum7 A p1 p2 imm
theorem enc_eq (x : Mi) (h : MiOk x) : orI (setOf x.op.toNat : Int) (fieldsG (shOf x.op.toNat) x) = wordI x :=
  enc_eqQ _ (shOf_lt _ (by have := h.op1; omega) (by have := h.op2; omega)) _ _ _ (sett_of _ (by have := h.op1; omega) (by have := h.op2; omega)) _ (settled_parts _ (by have := h.op1; omega) (by have := h.op2; omega)).1 x h.fits

theorem and126 (c : Int) (h0 : 0 ≤ c) (h1 : c < 128) : bits .and .i64 c 126 = 2 * (c / 2) := by
  have e := and_splitI 1 (by decide) 2 rfl (c % 2) 0 (c / 2) 63 (by omega) (by omega) (by omega) (by omega) (by omega) (by omega) (by omega) (by omega)
  rw [and_r _ (by omega) (by omega), and_full 6 (by decide) (c / 2) 63 rfl (by omega) (by omega)] at e
  rw [show c % 2 + 2 * (c / 2) = c by omega, show (0 : Int) + 2 * 63 = 126 by decide] at e
  rw [e]
  simp
  omega
theorem mask_eqQ (s : Nat) (hs : s < 8) (A B C : Int) (hS : Sett s A B C) (S : Int) (hSS : S = A + 4096 * B + 33554432 * C) (w : Int) (w0 : 0 ≤ w) (w1 : w < 4294967296) : (bits .and .i64 w (shF s 18) = S) ↔ hitQ s A B C (partsOf w) = true := by
  obtain ⟨p1, p2, p3, p4, p5, p6, p7, p8, p9, p10, p11⟩ := hS
  have ho := partsOf_ok w w0 w1
  have hw := num_partsOf w
  generalize partsOf w = p at *
  subst hw
  obtain ⟨a, l, b, m, n, c⟩ := p
  have ho' := ho
  obtain ⟨a0, a1, l0, l1, b0, b1, m0, m1, n0, n1, c0, c1⟩ := ho'
  dsimp only at *
  have fa := and_full 7 (by decide) a 127 rfl a0 (by omega)
  have fl := and_full 5 (by decide) l 31 rfl l0 (by omega)
  have fb := and_full 3 (by decide) b 7 rfl b0 (by omega)
  have fm := and_full 5 (by decide) m 31 rfl m0 (by omega)
  have fn := and_full 5 (by decide) n 31 rfl n0 (by omega)
  have fc := and_full 7 (by decide) c 127 rfl c0 (by omega)
  rw [show a % ((2 ^ 7 : Nat) : Int) = a by simp; omega] at fa
  rw [show l % ((2 ^ 5 : Nat) : Int) = l by simp; omega] at fl
  rw [show b % ((2 ^ 3 : Nat) : Int) = b by simp; omega] at fb
  rw [show m % ((2 ^ 5 : Nat) : Int) = m by simp; omega] at fm
  rw [show n % ((2 ^ 5 : Nat) : Int) = n by simp; omega] at fn
  rw [show c % ((2 ^ 7 : Nat) : Int) = c by simp; omega] at fc
  have gl := and_r l l0 (by omega)
  have gb := and_r b b0 (by omega)
  have gm := and_r m m0 (by omega)
  have gn := and_r n n0 (by omega)
  have gc := and_r c c0 (by omega)
  have hc := and126 c c0 c1
  rcases eight s hs with rfl | rfl | rfl | rfl | rfl | rfl | rfl | rfl <;> simp at p8 p9 p10 p11
  · rw [show shF 0 18 = (⟨127, 0, 7, 0, 0, 127⟩ : Pts).num by decide, and_num _ _ ho (by constructor <;> decide)]
    simp only [fa, gl, fb, gm, gn, fc, hitQ, Pts.num]; simp; omega
  · rw [show shF 1 18 = (⟨127, 0, 7, 0, 0, 0⟩ : Pts).num by decide, and_num _ _ ho (by constructor <;> decide)]
    simp only [fa, gl, fb, gm, gn, gc, hitQ, Pts.num]; simp; omega
  · rw [show shF 2 18 = (⟨127, 0, 7, 0, 0, 126⟩ : Pts).num by decide, and_num _ _ ho (by constructor <;> decide)]
    simp only [fa, gl, fb, gm, gn, hc, hitQ, Pts.num]; simp; omega
  · rw [show shF 3 18 = (⟨127, 0, 7, 0, 0, 0⟩ : Pts).num by decide, and_num _ _ ho (by constructor <;> decide)]
    simp only [fa, gl, fb, gm, gn, gc, hitQ, Pts.num]; simp; omega
  · rw [show shF 4 18 = (⟨127, 0, 7, 0, 0, 0⟩ : Pts).num by decide, and_num _ _ ho (by constructor <;> decide)]
    simp only [fa, gl, fb, gm, gn, gc, hitQ, Pts.num]; simp; omega
  · rw [show shF 5 18 = (⟨127, 0, 0, 0, 0, 0⟩ : Pts).num by decide, and_num _ _ ho (by constructor <;> decide)]
    simp only [fa, gl, gb, gm, gn, gc, hitQ, Pts.num]; simp; omega
  · rw [show shF 6 18 = (⟨127, 0, 0, 0, 0, 0⟩ : Pts).num by decide, and_num _ _ ho (by constructor <;> decide)]
    simp only [fa, gl, gb, gm, gn, gc, hitQ, Pts.num]; simp; omega
  · rw [show shF 7 18 = (⟨127, 31, 7, 31, 31, 127⟩ : Pts).num by decide, and_num _ _ ho (by constructor <;> decide)]
    simp only [fa, fl, fb, fm, fn, fc, hitQ, Pts.num]; simp; omega
theorem mask_eq (op : Nat) (h0 : 1 ≤ op) (h1 : op ≤ 29) (w : Int) (w0 : 0 ≤ w) (w1 : w < 4294967296) : (bits .and .i64 w (shF (shOf op) 18) == (setOf op : Int)) = hitB (partsOf w) op := by
  have := mask_eqQ _ (shOf_lt op h0 h1) _ _ _ (sett_of op h0 h1) _ (settled_parts op h0 h1).1 w w0 w1
  unfold hitB
  rw [Bool.eq_iff_iff]
  simpa using this

/-- The number that stands in a word's pieces. -/
theorem raw_sum (s : Nat) (hs : s < 8) (w : Int) (w0 : 0 ≤ w) (w1 : w < 4294967296) : partF 0 (pieceI w (shN s 6) (shN s 8) (shN s 7)) (pieceI w (shN s 9) (shN s 11) (shN s 10)) (pieceI w (shN s 12) (shN s 14) (shN s 13)) (pieceI w (shN s 15) (shN s 17) (shN s 16)) 4 = immR s (partsOf w) ∧ 0 ≤ immR s (partsOf w) ∧ immR s (partsOf w) < 2097152 := by
  have z := piece_none w
  unfold partF
  rcases eight s hs with rfl | rfl | rfl | rfl | rfl | rfl | rfl | rfl
  · refine ⟨?_, by simp [immR], by simp [immR]⟩
    show bits .or .i64 (bits .or .i64 (bits .or .i64 (bits .or .i64 0 (pieceI w 0 0 0)) (pieceI w 0 0 0)) (pieceI w 0 0 0)) (pieceI w 0 0 0) = 0
    rw [z]; simp only [or_r 0 (by omega) (by omega)]
  · have e : immR 1 (partsOf w) = w / 1048576 % 4096 * 1 := by simp only [immR, partsOf]; omega
    rw [e]
    refine ⟨?_, by omega, by omega⟩
    show bits .or .i64 (bits .or .i64 (bits .or .i64 (bits .or .i64 0 (pieceI w 12 20 0)) (pieceI w 0 0 0)) (pieceI w 0 0 0)) (pieceI w 0 0 0) = _
    rw [z, piece_eq w 12 20 0 4096 1048576 1 (by decide) (by decide) (by decide) (by decide) (by decide) (by decide) (by decide), or_l _ (by omega) (by omega)]
    simp only [or_r (w / 1048576 % 4096 * 1) (by omega) (by omega)]
  · have e : immR 2 (partsOf w) = w / 1048576 % 64 * 1 := by simp only [immR, partsOf]; omega
    rw [e]
    refine ⟨?_, by omega, by omega⟩
    show bits .or .i64 (bits .or .i64 (bits .or .i64 (bits .or .i64 0 (pieceI w 6 20 0)) (pieceI w 0 0 0)) (pieceI w 0 0 0)) (pieceI w 0 0 0) = _
    rw [z, piece_eq w 6 20 0 64 1048576 1 (by decide) (by decide) (by decide) (by decide) (by decide) (by decide) (by decide), or_l _ (by omega) (by omega)]
    simp only [or_r (w / 1048576 % 64 * 1) (by omega) (by omega)]
  · have e : immR 3 (partsOf w) = w / 128 % 32 * 1 + 32 * (w / 33554432 % 128) := by simp only [immR, partsOf]; omega
    rw [e]
    refine ⟨?_, by omega, by omega⟩
    show bits .or .i64 (bits .or .i64 (bits .or .i64 (bits .or .i64 0 (pieceI w 5 7 0)) (pieceI w 7 25 5)) (pieceI w 0 0 0)) (pieceI w 0 0 0) = _
    rw [z, piece_eq w 5 7 0 32 128 1 (by decide) (by decide) (by decide) (by decide) (by decide) (by decide) (by decide), or_l _ (by omega) (by omega)]
    rw [piece_eq w 7 25 5 128 33554432 32 (by decide) (by decide) (by decide) (by decide) (by decide) (by decide) (by decide), Int.mul_comm _ 32]
    rw [or_lo 5 (by decide) 32 rfl _ _ (by omega) (by omega) (by omega) (by omega)]
    have zr := or_r (w / 128 % 32 * 1 + 32 * (w / 33554432 % 128)) (by omega) (by omega)
    rw [zr, zr]
  · have e : immR 4 (partsOf w) = 2 * (w / 256 % 16) + 32 * (w / 33554432 % 64) + 2048 * (w / 128 % 2) + 4096 * (w / 2147483648 % 2) := by simp only [immR, partsOf]; omega
    rw [e]
    refine ⟨?_, by omega, by omega⟩
    show bits .or .i64 (bits .or .i64 (bits .or .i64 (bits .or .i64 0 (pieceI w 1 7 11)) (pieceI w 4 8 1)) (pieceI w 6 25 5)) (pieceI w 1 31 12) = _
    rw [piece_eq w 1 7 11 2 128 2048 (by decide) (by decide) (by decide) (by decide) (by decide) (by decide) (by decide), or_l _ (by omega) (by omega)]
    rw [piece_eq w 4 8 1 16 256 2 (by decide) (by decide) (by decide) (by decide) (by decide) (by decide) (by decide)]
    rw [piece_eq w 6 25 5 64 33554432 32 (by decide) (by decide) (by decide) (by decide) (by decide) (by decide) (by decide)]
    rw [piece_eq w 1 31 12 2 2147483648 4096 (by decide) (by decide) (by decide) (by decide) (by decide) (by decide) (by decide)]
    rw [Int.mul_comm _ 2048, Int.mul_comm _ 2, Int.mul_comm _ 32, Int.mul_comm _ 4096]
    rw [or_hi 11 (by decide) 2048 rfl _ _ (by omega) (by omega) (by omega) (by omega)]
    have e2 := or_splitI 11 (by decide) 2048 rfl (2 * (w / 256 % 16)) (32 * (w / 33554432 % 64)) (w / 128 % 2) 0 (by omega) (by omega) (by omega) (by omega) (by omega) (by omega) (by omega) (by omega)
    rw [or_lo 5 (by decide) 32 rfl _ _ (by omega) (by omega) (by omega) (by omega), or_r (w / 128 % 2) (by omega) (by omega), Int.mul_zero, Int.add_zero] at e2
    rw [Int.add_comm (2048 * (w / 128 % 2)), e2]
    rw [or_lo 12 (by decide) 4096 rfl _ _ (by omega) (by omega) (by omega) (by omega)]
  · have e : immR 5 (partsOf w) = 2 * (w / 2097152 % 1024) + 2048 * (w / 1048576 % 2) + 4096 * (w / 4096 % 256) + 1048576 * (w / 2147483648 % 2) := by simp only [immR, partsOf]; omega
    rw [e]
    refine ⟨?_, by omega, by omega⟩
    show bits .or .i64 (bits .or .i64 (bits .or .i64 (bits .or .i64 0 (pieceI w 8 12 12)) (pieceI w 1 20 11)) (pieceI w 10 21 1)) (pieceI w 1 31 20) = _
    rw [piece_eq w 8 12 12 256 4096 4096 (by decide) (by decide) (by decide) (by decide) (by decide) (by decide) (by decide), or_l _ (by omega) (by omega)]
    rw [piece_eq w 1 20 11 2 1048576 2048 (by decide) (by decide) (by decide) (by decide) (by decide) (by decide) (by decide)]
    rw [piece_eq w 10 21 1 1024 2097152 2 (by decide) (by decide) (by decide) (by decide) (by decide) (by decide) (by decide)]
    rw [piece_eq w 1 31 20 2 2147483648 1048576 (by decide) (by decide) (by decide) (by decide) (by decide) (by decide) (by decide)]
    rw [Int.mul_comm _ 4096, Int.mul_comm _ 2048, Int.mul_comm _ 2, Int.mul_comm _ 1048576]
    rw [or_hi 12 (by decide) 4096 rfl _ _ (by omega) (by omega) (by omega) (by omega)]
    have e2 := or_splitI 12 (by decide) 4096 rfl (2048 * (w / 1048576 % 2)) (2 * (w / 2097152 % 1024)) (w / 4096 % 256) 0 (by omega) (by omega) (by omega) (by omega) (by omega) (by omega) (by omega) (by omega)
    rw [or_hi 11 (by decide) 2048 rfl _ _ (by omega) (by omega) (by omega) (by omega), or_r (w / 4096 % 256) (by omega) (by omega), Int.mul_zero, Int.add_zero] at e2
    rw [Int.add_comm (4096 * (w / 4096 % 256)), e2]
    rw [or_lo 20 (by decide) 1048576 rfl _ _ (by omega) (by omega) (by omega) (by omega)]
    omega
  · have e : immR 6 (partsOf w) = w / 4096 % 1048576 * 1 := by simp only [immR, partsOf]; omega
    rw [e]
    refine ⟨?_, by omega, by omega⟩
    show bits .or .i64 (bits .or .i64 (bits .or .i64 (bits .or .i64 0 (pieceI w 20 12 0)) (pieceI w 0 0 0)) (pieceI w 0 0 0)) (pieceI w 0 0 0) = _
    rw [z, piece_eq w 20 12 0 1048576 4096 1 (by decide) (by decide) (by decide) (by decide) (by decide) (by decide) (by decide), or_l _ (by omega) (by omega)]
    simp only [or_r (w / 4096 % 1048576 * 1) (by omega) (by omega)]
  · refine ⟨?_, by simp [immR], by simp [immR]⟩
    show bits .or .i64 (bits .or .i64 (bits .or .i64 (bits .or .i64 0 (pieceI w 0 0 0)) (pieceI w 0 0 0)) (pieceI w 0 0 0)) (pieceI w 0 0 0) = 0
    rw [z]; simp only [or_r 0 (by omega) (by omega)]
theorem imm_eq (s : Nat) (hs : s < 8) (w : Int) (w0 : 0 ≤ w) (w1 : w < 4294967296) : immRaw s w = immS s (partsOf w) := by
  obtain ⟨e, h0, h1⟩ := raw_sum s hs w w0 w1
  unfold immRaw immS immG
  rw [e]
  generalize immR s (partsOf w) = n at *
  by_cases h : shF s 4 < n
  · rw [if_pos h, if_pos h]
    have b : -1048576 ≤ shF s 3 ∧ shF s 3 ≤ 0 := by rcases eight s hs with rfl | rfl | rfl | rfl | rfl | rfl | rfl | rfl <;> decide
    rw [wrap64_small (2 * shF s 3) (by omega) (by omega), wrap64_small _ (by omega) (by omega)]
  · rw [if_neg h, if_neg h]
theorem reg_eq (M n : Int) (hM : M = 31 ∨ M = 0) (h0 : 0 ≤ n) (h1 : n < 4294967296) : bits .and .i64 n M = if M = 31 then n % 32 else 0 := by
  rcases hM with rfl | rfl
  · rw [and_full 5 (by decide) n 31 rfl h0 h1]; simp
  · rw [and_r n h0 h1]; rfl
theorem regs_eq (s : Nat) (hs : s < 8) : (shF s 0 = 31 ∨ shF s 0 = 0) ∧ (shF s 1 = 31 ∨ shF s 1 = 0) ∧ (shF s 2 = 31 ∨ shF s 2 = 0) := by
  rcases eight s hs with rfl | rfl | rfl | rfl | rfl | rfl | rfl | rfl <;> decide

end Go.Proofs.YtndogdojcbcjgaaDoor

/- Contracts of rv.Check, Encode, instruction, Decode (written by gen/mkrvc.py): what each answers, in plain numbers. No condition but that the two tables lie in memory as they were laid. -/
namespace Go.Proofs.YtndogdojcbcjgaaDoor
open Go Go.RowKit

theorem infoRv : (Tryd.prog.info? 151).map (·.size) = some 5 := by kernel_rfl
theorem infoSh : (Tryd.prog.info? 181).map (·.size) = some 19 := by kernel_rfl
theorem infoPt : (Tryd.prog.info? 175).map (·.size) = some 2 := by kernel_rfl
theorem shC_len (s : Nat) : (shC s).length = 19 := by simp [shC]
theorem infoShC (s : Nat) : (Tryd.prog.info? 181).map (·.size) = some (shC s).length := by rw [shC_len]; exact infoSh
def miC (x : Mi) : List Value := [.int .i64 x.op, .int .i64 x.rd, .int .i64 x.rs1, .int .i64 x.rs2, .int .i64 x.imm]
theorem miC_val (x : Mi) : Value.agg (miC x).toArray = x.val := rfl
theorem box_range {w : World} {cs : List Value} {t : TypeId} : (w.alloc (.cells cs.toArray t)).rangeAt w.heap.size 0 cs := by
  intro j u hu
  rw [Nat.zero_add, cell_of_row (w.alloc (.cells cs.toArray t)) w.heap.size j cs.toArray t (0, 0) (heap_alloc_new w _)]
  simpa using hu
theorem range_below {B : Nat} {w w' : World} {b o : Nat} {cs : List Value} (h : w.rangeAt b o cs) (hb : Below B w w') (hB : b < B) : w'.rangeAt b o cs :=
  fun j u hu => (hb.cell (p := ⟨b, o + j, none⟩) hB).trans (h j u hu)

def encI (x : Mi) : Int := if rvE x = 0 then wordI x else 0
theorem miC_one (x : Mi) : (miC x).toArray.all (·.oneCell') = true := by simp [miC, Value.oneCell']
theorem World.heap_lt {w : World} {g : Nat} {o : Obj} (h : w.heap[g]? = some o) : g < w.heap.size := (Array.getElem?_eq_some_iff.1 h).1
theorem below_setRowR {B g : Nat} {w w' : World} (h : Below B w w') (hB : B ≤ g) (cs : Array Value) : Below B w (w'.setRow g cs) :=
  h.trans ⟨rfl, rfl, rfl, by simp, fun k hk => by simp only [World.setRow, Array.getElem?_modify]; rw [if_neg (by omega)]⟩
theorem built_rv : Tryd.prog.built 151 [] = some (miC zeroMi).toArray := by kernel_rfl
theorem results_row_tmpR {P : Program} {fn : Func} {p u : Tmp} {ty : TypeId} (h : fn.results = #[.cell p ty, .tmp u]) (tmps : Array Value) (w : World) (g : Nat) (t : TypeId) (cs : Array Value) (fr : Nat × Nat) (d : TypeDesc)
    (hp : tmps.getD p undef = .pointer (some ⟨g, 0, none⟩)) (hg : w.heap[g]? = some (.cells cs t fr))
    (hu : P.underlying ty = some d) (hd : (match d with | .struct _ | .array _ _ => true | _ => false) = true) (hi : (P.info? ty).map (·.size) = some cs.size) :
    (results fn tmps).run P w = .ok (.tuple #[.agg cs, tmps.getD u undef]) w := by
  rw [results_cell_tmp h, hp]
  simp only [asAddr, Sem.run_pure, Result.andThen_ok, run_loadVar_row w g t ty cs fr d hg hu hd hi]
theorem wpList_build_storeR {P : Program} {ops : Array Oper} {rest : List Oper} {o1 o2 : Oper} {a : Act} {w : World} {Q : Exit → Act → World → Prop} (hg1 : o1.guard = none) (t : TypeId) (parts : Array (Nat × Operand)) (ho1 : o1.op = .build t parts)
    (cs : Array Value) (hf : P.built t (parts.map fun (i, x) => (i, a.eval x)).toList = some cs) (hg2 : o2.guard = none) (x y : Operand) (ho2 : o2.op = .store t x y) (g : Nat)
    (hx : (a.put o1.dst (.agg cs)).eval x = .pointer (some ⟨g, 0, none⟩)) (hy : (a.put o1.dst (.agg cs)).eval y = .agg cs) (ty : TypeId) (old : Array Value) (hg : w.heap[g]? = some (.cells old ty (0, 0))) (hi : (P.info? t).map (·.size) = some cs.size)
    (hold : old.size = cs.size) (h1 : cs.all (·.oneCell') = true) (h : wpList P ops Q rest ((a.put o1.dst (.agg cs)).put o2.dst undef) (w.setRow g cs)) : wpList P ops Q (o1 :: o2 :: rest) a w := by
  refine wpList_build hg1 t parts ho1 (by rw [hf]; rfl) ?_
  rw [hf]
  exact wpList_store_row hg2 t x y ho2 g cs hx hy ty old hg hi hold h1 h

set_option maxRecDepth 100000 in
set_option maxHeartbeats 4000000 in
theorem instruction_any (op : Nat) (wd : Int) (s : Nat) (hs : s < 8) (w0 : 0 ≤ wd) (w1 : wd < 4294967296) (w : World) :
    Calls Tryd.prog 133 #[.int .i64 op, .int .i64 wd, .agg (shC s).toArray] w fun e w' => e = .returned (.tuple #[(if fitsB s (instQ s op (partsOf wd)) = true then instQ s op (partsOf wd) else zeroMi).val, .int .i64 (if fitsB s (instQ s op (partsOf wd)) = true then 0 else 3)]) ∧ Below w.heap.size w w' := by
  obtain ⟨g0, g1, g2⟩ := regs_eq s hs
  have hX : instQ s op (partsOf wd) = ⟨op, bits .and .i64 (wd / 128) (shF s 0), bits .and .i64 (wd / 32768) (shF s 1), bits .and .i64 (wd / 1048576) (shF s 2), immRaw s wd⟩ := by
    rw [reg_eq _ _ g0 (by omega) (by omega), reg_eq _ _ g1 (by omega) (by omega), reg_eq _ _ g2 (by omega) (by omega), imm_eq s hs wd w0 w1]
    rfl
  have HI : Hid (∀ W, Calls Tryd.prog 155 #[.int .i64 wd, .agg (shC s).toArray] W fun e w' => e = .returned (.int .i64 (immRaw s wd)) ∧ Below W.heap.size W w') := fun W => imm_shape wd s hs W
  generalize instQ s op (partsOf wd) = X at *
  have HXX : Hid (Value.agg (miC X).toArray = X.val) := rfl
  have HX : Hid (X = ⟨op, bits .and .i64 (wd / 128) (shF s 0), bits .and .i64 (wd / 32768) (shF s 1), bits .and .i64 (wd / 1048576) (shF s 2), immRaw s wd⟩) := hX
  have HF : Hid (∀ W, Calls Tryd.prog 156 #[.agg (miC X).toArray, .agg (shC s).toArray] W fun e w' => e = .returned (.bool (fitsB s X)) ∧ Below W.heap.size W w') := fun W => fits_shape X s hs W
  generalize fitsB s X = F at *
  generalize immRaw s wd = IM at *
  clear hX g0 g1 g2
  have HR : Hid (((w.alloc (.cells (shC s).toArray 181)).alloc (.cells #[.int .i64 0, .int .i64 0, .int .i64 0, .int .i64 0, .int .i64 0] 151)).rangeAt w.heap.size 0 (shC s)) := range_below box_range ((Below.refl _ _).alloc (Nat.le_refl _) _) (by simp)
  have d0 := HR.out 0 (.int .i64 (shF s 0)) rfl
  have d1 := HR.out 1 (.int .i64 (shF s 1)) rfl
  have d2 := HR.out 2 (.int .i64 (shF s 2)) rfl
  have H6 : Hid (((w.alloc (.cells (shC s).toArray 181)).alloc (.cells #[.int .i64 0, .int .i64 0, .int .i64 0, .int .i64 0, .int .i64 0] 151)).heap[w.heap.size + 1]? = some (.cells #[.int .i64 0, .int .i64 0, .int .i64 0, .int .i64 0, .int .i64 0] 151 (0, 0))) := heap_alloc2_new _ _ _
  have HB : Hid (Below w.heap.size w ((w.alloc (.cells (shC s).toArray 181)).alloc (.cells #[.int .i64 0, .int .i64 0, .int .i64 0, .int .i64 0, .int .i64 0] 151))) := ((Below.refl _ _).alloc (Nat.le_refl _) _).alloc (by simp) _
  have HZ : Hid (w.heap.size < ((w.alloc (.cells (shC s).toArray 181)).alloc (.cells #[.int .i64 0, .int .i64 0, .int .i64 0, .int .i64 0, .int .i64 0] 151)).heap.size) := by show _ < _; simp; omega
  have HZ6 : Hid (w.heap.size + 1 < ((w.alloc (.cells (shC s).toArray 181)).alloc (.cells #[.int .i64 0, .int .i64 0, .int .i64 0, .int .i64 0, .int .i64 0] 151)).heap.size) := by show _ < _; simp
  cases F
  · simp only [Bool.false_eq_true, if_false]
    go_enter Tryd.func133, Tryd.ntmps133
    go_wp2
    generalize (w.alloc (.cells (shC s).toArray 181)).alloc (.cells #[.int .i64 0, .int .i64 0, .int .i64 0, .int .i64 0, .int .i64 0] 151) = w1 at *
    refine wp_region_held_drew (S := fun W => Below w1.heap.size w1 W) (by kernel_rfl) ((Below.refl _ _).drew) (fun hHeld => ?_)
    show wpAnyH _ _ _ _ _ 22 _ _ _
    refine wpAnyH_take (i := 0) (v := ?_) rfl (by kernel_rfl) (by kernel_rfl) (by kernel_rfl) (fun _ _ _ h => h) (Or.inl ⟨by rfl, ?_⟩) (by assumption) ?_
    rotate_left
    · (intro W hSW; go_simp; try (with_reducible rfl))
    (try simp only [List.getElem_toArray, List.getElem_cons_zero])
    (try simp only [Act.put, List.setIfInBounds_toArray, List.set_cons_zero, List.set_cons_succ])
    refine wpAnyH_take (i := 1) (v := ?_) rfl (by kernel_rfl) (by kernel_rfl) (by kernel_rfl) (fun _ _ _ h => h) (Or.inl ⟨by rfl, ?_⟩) (by assumption) ?_
    rotate_left
    · (intro W hSW; go_simp; try (with_reducible rfl))
    (try simp only [List.getElem_toArray, List.getElem_cons_succ, List.getElem_cons_zero])
    (try simp only [Act.put, List.setIfInBounds_toArray, List.set_cons_zero, List.set_cons_succ])
    refine wpAnyH_take (i := 2) (v := ?_) rfl (by kernel_rfl) (by kernel_rfl) (by kernel_rfl) (fun _ _ _ h => h) (Or.inl ⟨by rfl, ?_⟩) (by assumption) ?_
    rotate_left
    · (intro W hSW; go_simp; try (with_reducible rfl))
    (try simp only [List.getElem_toArray, List.getElem_cons_succ, List.getElem_cons_zero])
    (try simp only [Act.put, List.setIfInBounds_toArray, List.set_cons_zero, List.set_cons_succ])
    refine wpAnyH_take (i := 3) (v := ?_) rfl (by kernel_rfl) (by kernel_rfl) (by kernel_rfl) (fun _ _ _ h => h) (Or.inl ⟨by rfl, ?_⟩) (by assumption) ?_
    rotate_left
    · (intro W hSW; go_simp; try (with_reducible rfl))
    (try simp only [List.getElem_toArray, List.getElem_cons_succ, List.getElem_cons_zero])
    (try simp only [Act.put, List.setIfInBounds_toArray, List.set_cons_zero, List.set_cons_succ])
    refine wpAnyH_take (i := 4) (v := ?_) rfl (by kernel_rfl) (by kernel_rfl) (by kernel_rfl) (fun _ _ _ h => h) (Or.inl ⟨by rfl, ?_⟩) (by assumption) ?_
    rotate_left
    · (intro W hSW; have z0 := keeps_below hSW _ _ d0; go_simp; try (with_reducible rfl))
    (try simp only [List.getElem_toArray, List.getElem_cons_succ, List.getElem_cons_zero])
    (try simp only [Act.put, List.setIfInBounds_toArray, List.set_cons_zero, List.set_cons_succ])
    refine wpAnyH_take (i := 5) (v := ?_) rfl (by kernel_rfl) (by kernel_rfl) (by kernel_rfl) (fun _ _ _ h => h) (Or.inl ⟨by rfl, ?_⟩) (by assumption) ?_
    rotate_left
    · (intro W hSW; go_simp; try (with_reducible rfl))
    (try simp only [List.getElem_toArray, List.getElem_cons_succ, List.getElem_cons_zero])
    (try simp only [Act.put, List.setIfInBounds_toArray, List.set_cons_zero, List.set_cons_succ])
    refine wpAnyH_take (i := 6) (v := ?_) rfl (by kernel_rfl) (by kernel_rfl) (by kernel_rfl) (fun _ _ _ h => h) (Or.inl ⟨by rfl, ?_⟩) (by assumption) ?_
    rotate_left
    · (intro W hSW; go_simp; try (with_reducible rfl))
    (try simp only [List.getElem_toArray, List.getElem_cons_succ, List.getElem_cons_zero])
    (try simp only [Act.put, List.setIfInBounds_toArray, List.set_cons_zero, List.set_cons_succ])
    refine wpAnyH_take (i := 7) (v := ?_) rfl (by kernel_rfl) (by kernel_rfl) (by kernel_rfl) (fun _ _ _ h => h) (Or.inl ⟨by rfl, ?_⟩) (by assumption) ?_
    rotate_left
    · (intro W hSW; go_simp; try (with_reducible rfl))
    (try simp only [List.getElem_toArray, List.getElem_cons_succ, List.getElem_cons_zero])
    (try simp only [Act.put, List.setIfInBounds_toArray, List.set_cons_zero, List.set_cons_succ])
    refine wpAnyH_take (i := 8) (v := ?_) rfl (by kernel_rfl) (by kernel_rfl) (by kernel_rfl) (fun _ _ _ h => h) (Or.inl ⟨by rfl, ?_⟩) (by assumption) ?_
    rotate_left
    · (intro W hSW; go_simp; try (with_reducible rfl))
    (try simp only [List.getElem_toArray, List.getElem_cons_succ, List.getElem_cons_zero])
    (try simp only [Act.put, List.setIfInBounds_toArray, List.set_cons_zero, List.set_cons_succ])
    refine wpAnyH_take (i := 9) (v := ?_) rfl (by kernel_rfl) (by kernel_rfl) (by kernel_rfl) (fun _ _ _ h => h) (Or.inl ⟨by rfl, ?_⟩) (by assumption) ?_
    rotate_left
    · (intro W hSW; have z0 := keeps_below hSW _ _ d1; go_simp; try (with_reducible rfl))
    (try simp only [List.getElem_toArray, List.getElem_cons_succ, List.getElem_cons_zero])
    (try simp only [Act.put, List.setIfInBounds_toArray, List.set_cons_zero, List.set_cons_succ])
    refine wpAnyH_take (i := 10) (v := ?_) rfl (by kernel_rfl) (by kernel_rfl) (by kernel_rfl) (fun _ _ _ h => h) (Or.inl ⟨by rfl, ?_⟩) (by assumption) ?_
    rotate_left
    · (intro W hSW; go_simp; try (with_reducible rfl))
    (try simp only [List.getElem_toArray, List.getElem_cons_succ, List.getElem_cons_zero])
    (try simp only [Act.put, List.setIfInBounds_toArray, List.set_cons_zero, List.set_cons_succ])
    refine wpAnyH_take (i := 11) (v := ?_) rfl (by kernel_rfl) (by kernel_rfl) (by kernel_rfl) (fun _ _ _ h => h) (Or.inl ⟨by rfl, ?_⟩) (by assumption) ?_
    rotate_left
    · (intro W hSW; go_simp; try (with_reducible rfl))
    (try simp only [List.getElem_toArray, List.getElem_cons_succ, List.getElem_cons_zero])
    (try simp only [Act.put, List.setIfInBounds_toArray, List.set_cons_zero, List.set_cons_succ])
    refine wpAnyH_take (i := 12) (v := ?_) rfl (by kernel_rfl) (by kernel_rfl) (by kernel_rfl) (fun _ _ _ h => h) (Or.inl ⟨by rfl, ?_⟩) (by assumption) ?_
    rotate_left
    · (intro W hSW; go_simp; try (with_reducible rfl))
    (try simp only [List.getElem_toArray, List.getElem_cons_succ, List.getElem_cons_zero])
    (try simp only [Act.put, List.setIfInBounds_toArray, List.set_cons_zero, List.set_cons_succ])
    refine wpAnyH_take (i := 13) (v := ?_) rfl (by kernel_rfl) (by kernel_rfl) (by kernel_rfl) (fun _ _ _ h => h) (Or.inl ⟨by rfl, ?_⟩) (by assumption) ?_
    rotate_left
    · (intro W hSW; go_simp; try (with_reducible rfl))
    (try simp only [List.getElem_toArray, List.getElem_cons_succ, List.getElem_cons_zero])
    (try simp only [Act.put, List.setIfInBounds_toArray, List.set_cons_zero, List.set_cons_succ])
    refine wpAnyH_take (i := 14) (v := ?_) rfl (by kernel_rfl) (by kernel_rfl) (by kernel_rfl) (fun _ _ _ h => h) (Or.inl ⟨by rfl, ?_⟩) (by assumption) ?_
    rotate_left
    · (intro W hSW; have z0 := keeps_below hSW _ _ d2; go_simp; try (with_reducible rfl))
    (try simp only [List.getElem_toArray, List.getElem_cons_succ, List.getElem_cons_zero])
    (try simp only [Act.put, List.setIfInBounds_toArray, List.set_cons_zero, List.set_cons_succ])
    refine wpAnyH_take (i := 15) (v := ?_) rfl (by kernel_rfl) (by kernel_rfl) (by kernel_rfl) (fun _ _ _ h => h) (Or.inl ⟨by rfl, ?_⟩) (by assumption) ?_
    rotate_left
    · (intro W hSW; go_simp; try (with_reducible rfl))
    (try simp only [List.getElem_toArray, List.getElem_cons_succ, List.getElem_cons_zero])
    (try simp only [Act.put, List.setIfInBounds_toArray, List.set_cons_zero, List.set_cons_succ])
    refine wpAnyH_take (i := 16) (v := ?_) rfl (by kernel_rfl) (by kernel_rfl) (by kernel_rfl) (fun _ _ _ h => h) (Or.inl ⟨by rfl, ?_⟩) (by assumption) ?_
    rotate_left
    · (intro W hSW; go_simp; try (with_reducible rfl))
    (try simp only [List.getElem_toArray, List.getElem_cons_succ, List.getElem_cons_zero])
    (try simp only [Act.put, List.setIfInBounds_toArray, List.set_cons_zero, List.set_cons_succ])
    refine wpAnyH_take (i := 17) (v := .agg (shC s : List Value).toArray) rfl (by kernel_rfl) (by kernel_rfl) (by kernel_rfl) (fun _ _ _ h => h) (yieldsIf_load_mid (by rfl) 181 (.tmp 5) rfl (w.heap.size) (0) rfl (shC s) _ (fun W hW => range_below HR.out hW HZ.out) Tryd.underlying181 rfl (infoShC s)) (by assumption) ?_
    simp only [List.getElem_toArray, List.getElem_cons_succ, List.getElem_cons_zero]
    (try simp only [Act.put, List.setIfInBounds_toArray, List.set_cons_zero, List.set_cons_succ])
    refine wpAnyH_ready (rs := [18, 20]) (by kernel_rfl) (by simp) ?_
    refine AllReadyH.cons rfl (fun K hK => ?_) (AllReadyH.cons rfl (fun K hK => ?_) AllReadyH.nil)
    · -- the call, then the box
      go_simp
      go_at_call 155
      refine (HI.out _).mono ?_
      rintro e w3 ⟨rfl, hb3⟩
      have HB3 : Hid (Below w1.heap.size w1 w3) := hHeld.trans (hb3.mono hHeld.size)
      dsimp only
      refine hK.out _ _ HB3.out (fun _ => ?_)
      clear hK K hHeld hb3
      (try simp only [Act.put, List.setIfInBounds_toArray, List.set_cons_zero, List.set_cons_succ])
      have hHeld := HB3.out
      refine wpAnyH_take (i := 19) (v := ?_) rfl (by kernel_rfl) (by kernel_rfl) (by kernel_rfl) (fun _ _ _ h => h) (Or.inl ⟨by rfl, ?_⟩) (by assumption) ?_
      rotate_left
      · (intro W hSW; go_simp; try (with_reducible rfl))
      (try simp only [List.getElem_toArray, List.getElem_cons_succ, List.getElem_cons_zero])
      (try simp only [Act.put, List.setIfInBounds_toArray, List.set_cons_zero, List.set_cons_succ])
      refine wpAnyH_ready (rs := [20]) (by kernel_rfl) (by simp) ?_
      refine AllReadyH.cons rfl (fun K hK => ?_) AllReadyH.nil
      go_simp
      refine hK.out _ _ (HB3.out.alloc HB3.out.size _) (fun hHeld2 => ?_)
      clear hK K
      (try simp only [Act.put, List.setIfInBounds_toArray, List.set_cons_zero, List.set_cons_succ])
      refine wpAnyH_ready (rs := [21]) (by kernel_rfl) (by simp) ?_
      refine AllReadyH.cons rfl (fun K hK => ?_) AllReadyH.nil
      refine wp_store_row 151 _ _ rfl (w3.heap.size) (miC X).toArray rfl (by rw [HX.out]; rfl) 151 #[.int .i64 0, .int .i64 0, .int .i64 0, .int .i64 0, .int .i64 0] (heap_alloc_last w3 _) infoRv rfl (miC_one X) ?_
      have HBN : Hid (Below w1.heap.size w1 (World.setRow (w3.alloc (.cells #[.int .i64 0, .int .i64 0, .int .i64 0, .int .i64 0, .int .i64 0] 151)) w3.heap.size (miC X).toArray)) := below_setRowR (HB3.out.alloc HB3.out.size _) HB3.out.size _
      have HGN : Hid ((World.setRow (w3.alloc (.cells #[.int .i64 0, .int .i64 0, .int .i64 0, .int .i64 0, .int .i64 0] 151)) w3.heap.size (miC X).toArray).heap[w3.heap.size]? = some (.cells (miC X).toArray 151 (0, 0))) := setRow_heap _ _ _ _ _ _ (heap_alloc_last w3 _)
      have HGB : Hid (w1.heap.size ≤ w3.heap.size) := HB3.out.size
      refine hK.out _ _ HBN.out (fun _ => ?_)
      clear hK K hHeld hHeld2
      (try simp only [Act.put, List.setIfInBounds_toArray])
      refine wpAnyH_done (by kernel_rfl) ?_ _
      generalize World.setRow (w3.alloc (.cells #[.int .i64 0, .int .i64 0, .int .i64 0, .int .i64 0, .int .i64 0] 151)) w3.heap.size (miC X).toArray = w4 at HBN HGN ⊢
      generalize w3.heap.size = b4 at HGN HGB ⊢
      have HR4 : Hid (w4.rangeAt w.heap.size 0 (shC s)) := range_below HR.out HBN.out HZ.out
      have h64 : w4.heap[w.heap.size + 1]? = some (.cells #[.int .i64 0, .int .i64 0, .int .i64 0, .int .i64 0, .int .i64 0] 151 (0, 0)) := (HBN.out.block _ HZ6.out).trans H6.out
      have HBW : Hid (Below w.heap.size w w4) := HB.out.trans (HBN.out.mono (by have := HZ.out; omega))
      have hgn := HGN.out
      clear d0 d1 d2
      go_wp2_with (first
      | (refine wpList_load_row rfl 151 (.tmp 8) rfl _ rfl _ _ _ _ hgn Tryd.underlying151 rfl infoRv ?_)
      | (refine wpList_load_mid rfl 181 _ rfl w.heap.size 0 rfl (shC s) _ HR4.out Tryd.underlying181 rfl (infoShC s) ?_)
      | (go_at_call 156; refine (HF.out _).mono ?_; rintro e w5 ⟨rfl, hb5⟩; have h65 : w5.heap[w.heap.size + 1]? = some (.cells #[.int .i64 0, .int .i64 0, .int .i64 0, .int .i64 0, .int .i64 0] 151 (0, 0)) := (hb5.block _ (World.heap_lt h64)).trans h64; have hgn5 : w5.heap[b4]? = some (.cells (miC X).toArray 151 (0, 0)) := (hb5.block _ (World.heap_lt hgn)).trans hgn; have HB5 : Hid (Below w.heap.size w w5) := HBW.out.trans (hb5.mono HBW.out.size); clear hb5)
      | (refine wpList_build_storeR rfl _ _ rfl (miC zeroMi).toArray built_rv rfl _ _ rfl _ rfl rfl _ _ h65 infoRv rfl (miC_one _) ?_)
      | (refine wpList_store_row rfl _ _ _ rfl _ (miC zeroMi).toArray rfl rfl _ _ h65 infoRv rfl (miC_one _) ?_))
      try simp only [Exit.inBlock, Exit.then]
      exact bodyPost_ret (results_row_tmpR rfl _ _ (w.heap.size + 1) 151 _ (0, 0) _ rfl (setRow_heap _ _ _ _ _ _ h65) Tryd.underlying151 rfl infoRv) rfl ⟨by first | rfl | (rw [HXX.out]; rfl), below_setRowR HB5.out (by omega) _⟩
    · -- the box, then the call
      go_simp
      refine hK.out _ _ (hHeld.alloc (Nat.le_refl _) _) (fun hHeld2 => ?_)
      clear hK K
      (try simp only [Act.put, List.setIfInBounds_toArray, List.set_cons_zero, List.set_cons_succ])
      refine wpAnyH_ready (rs := [18]) (by kernel_rfl) (by simp) ?_
      refine AllReadyH.cons rfl (fun K hK => ?_) AllReadyH.nil
      go_simp
      go_at_call 155
      refine (HI.out _).mono ?_
      rintro e w3 ⟨rfl, hb3⟩
      have HB3 : Hid (Below w1.heap.size w1 w3) := hHeld2.trans (hb3.mono hHeld2.size)
      have hg3 : w3.heap[w1.heap.size]? = some (.cells #[.int .i64 0, .int .i64 0, .int .i64 0, .int .i64 0, .int .i64 0] 151 (0, 0)) := (hb3.block _ (by simp)).trans (heap_alloc_last w1 _)
      dsimp only
      refine hK.out _ _ HB3.out (fun _ => ?_)
      clear hK K hHeld hHeld2 hb3
      (try simp only [Act.put, List.setIfInBounds_toArray, List.set_cons_zero, List.set_cons_succ])
      have hHeld := HB3.out
      refine wpAnyH_take (i := 19) (v := ?_) rfl (by kernel_rfl) (by kernel_rfl) (by kernel_rfl) (fun _ _ _ h => h) (Or.inl ⟨by rfl, ?_⟩) (by assumption) ?_
      rotate_left
      · (intro W hSW; go_simp; try (with_reducible rfl))
      (try simp only [List.getElem_toArray, List.getElem_cons_succ, List.getElem_cons_zero])
      (try simp only [Act.put, List.setIfInBounds_toArray, List.set_cons_zero, List.set_cons_succ])
      refine wpAnyH_ready (rs := [21]) (by kernel_rfl) (by simp) ?_
      refine AllReadyH.cons rfl (fun K hK => ?_) AllReadyH.nil
      refine wp_store_row 151 _ _ rfl (w1.heap.size) (miC X).toArray rfl (by rw [HX.out]; rfl) 151 #[.int .i64 0, .int .i64 0, .int .i64 0, .int .i64 0, .int .i64 0] (hg3) infoRv rfl (miC_one X) ?_
      have HBN : Hid (Below w1.heap.size w1 (World.setRow w3 w1.heap.size (miC X).toArray)) := below_setRowR HB3.out (Nat.le_refl _) _
      have HGN : Hid ((World.setRow w3 w1.heap.size (miC X).toArray).heap[w1.heap.size]? = some (.cells (miC X).toArray 151 (0, 0))) := setRow_heap _ _ _ _ _ _ hg3
      have HGB : Hid (w1.heap.size ≤ w1.heap.size) := Nat.le_refl _
      refine hK.out _ _ HBN.out (fun _ => ?_)
      clear hK K hHeld hg3
      (try simp only [Act.put, List.setIfInBounds_toArray])
      refine wpAnyH_done (by kernel_rfl) ?_ _
      generalize World.setRow w3 w1.heap.size (miC X).toArray = w4 at HBN HGN ⊢
      generalize HBE : w1.heap.size = b4 at HGN ⊢
      have HGB : Hid (w1.heap.size ≤ b4) := Nat.le_of_eq HBE
      clear HBE
      have HR4 : Hid (w4.rangeAt w.heap.size 0 (shC s)) := range_below HR.out HBN.out HZ.out
      have h64 : w4.heap[w.heap.size + 1]? = some (.cells #[.int .i64 0, .int .i64 0, .int .i64 0, .int .i64 0, .int .i64 0] 151 (0, 0)) := (HBN.out.block _ HZ6.out).trans H6.out
      have HBW : Hid (Below w.heap.size w w4) := HB.out.trans (HBN.out.mono (by have := HZ.out; omega))
      have hgn := HGN.out
      clear d0 d1 d2
      go_wp2_with (first
      | (refine wpList_load_row rfl 151 (.tmp 8) rfl _ rfl _ _ _ _ hgn Tryd.underlying151 rfl infoRv ?_)
      | (refine wpList_load_mid rfl 181 _ rfl w.heap.size 0 rfl (shC s) _ HR4.out Tryd.underlying181 rfl (infoShC s) ?_)
      | (go_at_call 156; refine (HF.out _).mono ?_; rintro e w5 ⟨rfl, hb5⟩; have h65 : w5.heap[w.heap.size + 1]? = some (.cells #[.int .i64 0, .int .i64 0, .int .i64 0, .int .i64 0, .int .i64 0] 151 (0, 0)) := (hb5.block _ (World.heap_lt h64)).trans h64; have hgn5 : w5.heap[b4]? = some (.cells (miC X).toArray 151 (0, 0)) := (hb5.block _ (World.heap_lt hgn)).trans hgn; have HB5 : Hid (Below w.heap.size w w5) := HBW.out.trans (hb5.mono HBW.out.size); clear hb5)
      | (refine wpList_build_storeR rfl _ _ rfl (miC zeroMi).toArray built_rv rfl _ _ rfl _ rfl rfl _ _ h65 infoRv rfl (miC_one _) ?_)
      | (refine wpList_store_row rfl _ _ _ rfl _ (miC zeroMi).toArray rfl rfl _ _ h65 infoRv rfl (miC_one _) ?_))
      try simp only [Exit.inBlock, Exit.then]
      exact bodyPost_ret (results_row_tmpR rfl _ _ (w.heap.size + 1) 151 _ (0, 0) _ rfl (setRow_heap _ _ _ _ _ _ h65) Tryd.underlying151 rfl infoRv) rfl ⟨by first | rfl | (rw [HXX.out]; rfl), below_setRowR HB5.out (by omega) _⟩
  · simp only [if_true]
    go_enter Tryd.func133, Tryd.ntmps133
    go_wp2
    generalize (w.alloc (.cells (shC s).toArray 181)).alloc (.cells #[.int .i64 0, .int .i64 0, .int .i64 0, .int .i64 0, .int .i64 0] 151) = w1 at *
    refine wp_region_held_drew (S := fun W => Below w1.heap.size w1 W) (by kernel_rfl) ((Below.refl _ _).drew) (fun hHeld => ?_)
    show wpAnyH _ _ _ _ _ 22 _ _ _
    refine wpAnyH_take (i := 0) (v := ?_) rfl (by kernel_rfl) (by kernel_rfl) (by kernel_rfl) (fun _ _ _ h => h) (Or.inl ⟨by rfl, ?_⟩) (by assumption) ?_
    rotate_left
    · (intro W hSW; go_simp; try (with_reducible rfl))
    (try simp only [List.getElem_toArray, List.getElem_cons_zero])
    (try simp only [Act.put, List.setIfInBounds_toArray, List.set_cons_zero, List.set_cons_succ])
    refine wpAnyH_take (i := 1) (v := ?_) rfl (by kernel_rfl) (by kernel_rfl) (by kernel_rfl) (fun _ _ _ h => h) (Or.inl ⟨by rfl, ?_⟩) (by assumption) ?_
    rotate_left
    · (intro W hSW; go_simp; try (with_reducible rfl))
    (try simp only [List.getElem_toArray, List.getElem_cons_succ, List.getElem_cons_zero])
    (try simp only [Act.put, List.setIfInBounds_toArray, List.set_cons_zero, List.set_cons_succ])
    refine wpAnyH_take (i := 2) (v := ?_) rfl (by kernel_rfl) (by kernel_rfl) (by kernel_rfl) (fun _ _ _ h => h) (Or.inl ⟨by rfl, ?_⟩) (by assumption) ?_
    rotate_left
    · (intro W hSW; go_simp; try (with_reducible rfl))
    (try simp only [List.getElem_toArray, List.getElem_cons_succ, List.getElem_cons_zero])
    (try simp only [Act.put, List.setIfInBounds_toArray, List.set_cons_zero, List.set_cons_succ])
    refine wpAnyH_take (i := 3) (v := ?_) rfl (by kernel_rfl) (by kernel_rfl) (by kernel_rfl) (fun _ _ _ h => h) (Or.inl ⟨by rfl, ?_⟩) (by assumption) ?_
    rotate_left
    · (intro W hSW; go_simp; try (with_reducible rfl))
    (try simp only [List.getElem_toArray, List.getElem_cons_succ, List.getElem_cons_zero])
    (try simp only [Act.put, List.setIfInBounds_toArray, List.set_cons_zero, List.set_cons_succ])
    refine wpAnyH_take (i := 4) (v := ?_) rfl (by kernel_rfl) (by kernel_rfl) (by kernel_rfl) (fun _ _ _ h => h) (Or.inl ⟨by rfl, ?_⟩) (by assumption) ?_
    rotate_left
    · (intro W hSW; have z0 := keeps_below hSW _ _ d0; go_simp; try (with_reducible rfl))
    (try simp only [List.getElem_toArray, List.getElem_cons_succ, List.getElem_cons_zero])
    (try simp only [Act.put, List.setIfInBounds_toArray, List.set_cons_zero, List.set_cons_succ])
    refine wpAnyH_take (i := 5) (v := ?_) rfl (by kernel_rfl) (by kernel_rfl) (by kernel_rfl) (fun _ _ _ h => h) (Or.inl ⟨by rfl, ?_⟩) (by assumption) ?_
    rotate_left
    · (intro W hSW; go_simp; try (with_reducible rfl))
    (try simp only [List.getElem_toArray, List.getElem_cons_succ, List.getElem_cons_zero])
    (try simp only [Act.put, List.setIfInBounds_toArray, List.set_cons_zero, List.set_cons_succ])
    refine wpAnyH_take (i := 6) (v := ?_) rfl (by kernel_rfl) (by kernel_rfl) (by kernel_rfl) (fun _ _ _ h => h) (Or.inl ⟨by rfl, ?_⟩) (by assumption) ?_
    rotate_left
    · (intro W hSW; go_simp; try (with_reducible rfl))
    (try simp only [List.getElem_toArray, List.getElem_cons_succ, List.getElem_cons_zero])
    (try simp only [Act.put, List.setIfInBounds_toArray, List.set_cons_zero, List.set_cons_succ])
    refine wpAnyH_take (i := 7) (v := ?_) rfl (by kernel_rfl) (by kernel_rfl) (by kernel_rfl) (fun _ _ _ h => h) (Or.inl ⟨by rfl, ?_⟩) (by assumption) ?_
    rotate_left
    · (intro W hSW; go_simp; try (with_reducible rfl))
    (try simp only [List.getElem_toArray, List.getElem_cons_succ, List.getElem_cons_zero])
    (try simp only [Act.put, List.setIfInBounds_toArray, List.set_cons_zero, List.set_cons_succ])
    refine wpAnyH_take (i := 8) (v := ?_) rfl (by kernel_rfl) (by kernel_rfl) (by kernel_rfl) (fun _ _ _ h => h) (Or.inl ⟨by rfl, ?_⟩) (by assumption) ?_
    rotate_left
    · (intro W hSW; go_simp; try (with_reducible rfl))
    (try simp only [List.getElem_toArray, List.getElem_cons_succ, List.getElem_cons_zero])
    (try simp only [Act.put, List.setIfInBounds_toArray, List.set_cons_zero, List.set_cons_succ])
    refine wpAnyH_take (i := 9) (v := ?_) rfl (by kernel_rfl) (by kernel_rfl) (by kernel_rfl) (fun _ _ _ h => h) (Or.inl ⟨by rfl, ?_⟩) (by assumption) ?_
    rotate_left
    · (intro W hSW; have z0 := keeps_below hSW _ _ d1; go_simp; try (with_reducible rfl))
    (try simp only [List.getElem_toArray, List.getElem_cons_succ, List.getElem_cons_zero])
    (try simp only [Act.put, List.setIfInBounds_toArray, List.set_cons_zero, List.set_cons_succ])
    refine wpAnyH_take (i := 10) (v := ?_) rfl (by kernel_rfl) (by kernel_rfl) (by kernel_rfl) (fun _ _ _ h => h) (Or.inl ⟨by rfl, ?_⟩) (by assumption) ?_
    rotate_left
    · (intro W hSW; go_simp; try (with_reducible rfl))
    (try simp only [List.getElem_toArray, List.getElem_cons_succ, List.getElem_cons_zero])
    (try simp only [Act.put, List.setIfInBounds_toArray, List.set_cons_zero, List.set_cons_succ])
    refine wpAnyH_take (i := 11) (v := ?_) rfl (by kernel_rfl) (by kernel_rfl) (by kernel_rfl) (fun _ _ _ h => h) (Or.inl ⟨by rfl, ?_⟩) (by assumption) ?_
    rotate_left
    · (intro W hSW; go_simp; try (with_reducible rfl))
    (try simp only [List.getElem_toArray, List.getElem_cons_succ, List.getElem_cons_zero])
    (try simp only [Act.put, List.setIfInBounds_toArray, List.set_cons_zero, List.set_cons_succ])
    refine wpAnyH_take (i := 12) (v := ?_) rfl (by kernel_rfl) (by kernel_rfl) (by kernel_rfl) (fun _ _ _ h => h) (Or.inl ⟨by rfl, ?_⟩) (by assumption) ?_
    rotate_left
    · (intro W hSW; go_simp; try (with_reducible rfl))
    (try simp only [List.getElem_toArray, List.getElem_cons_succ, List.getElem_cons_zero])
    (try simp only [Act.put, List.setIfInBounds_toArray, List.set_cons_zero, List.set_cons_succ])
    refine wpAnyH_take (i := 13) (v := ?_) rfl (by kernel_rfl) (by kernel_rfl) (by kernel_rfl) (fun _ _ _ h => h) (Or.inl ⟨by rfl, ?_⟩) (by assumption) ?_
    rotate_left
    · (intro W hSW; go_simp; try (with_reducible rfl))
    (try simp only [List.getElem_toArray, List.getElem_cons_succ, List.getElem_cons_zero])
    (try simp only [Act.put, List.setIfInBounds_toArray, List.set_cons_zero, List.set_cons_succ])
    refine wpAnyH_take (i := 14) (v := ?_) rfl (by kernel_rfl) (by kernel_rfl) (by kernel_rfl) (fun _ _ _ h => h) (Or.inl ⟨by rfl, ?_⟩) (by assumption) ?_
    rotate_left
    · (intro W hSW; have z0 := keeps_below hSW _ _ d2; go_simp; try (with_reducible rfl))
    (try simp only [List.getElem_toArray, List.getElem_cons_succ, List.getElem_cons_zero])
    (try simp only [Act.put, List.setIfInBounds_toArray, List.set_cons_zero, List.set_cons_succ])
    refine wpAnyH_take (i := 15) (v := ?_) rfl (by kernel_rfl) (by kernel_rfl) (by kernel_rfl) (fun _ _ _ h => h) (Or.inl ⟨by rfl, ?_⟩) (by assumption) ?_
    rotate_left
    · (intro W hSW; go_simp; try (with_reducible rfl))
    (try simp only [List.getElem_toArray, List.getElem_cons_succ, List.getElem_cons_zero])
    (try simp only [Act.put, List.setIfInBounds_toArray, List.set_cons_zero, List.set_cons_succ])
    refine wpAnyH_take (i := 16) (v := ?_) rfl (by kernel_rfl) (by kernel_rfl) (by kernel_rfl) (fun _ _ _ h => h) (Or.inl ⟨by rfl, ?_⟩) (by assumption) ?_
    rotate_left
    · (intro W hSW; go_simp; try (with_reducible rfl))
    (try simp only [List.getElem_toArray, List.getElem_cons_succ, List.getElem_cons_zero])
    (try simp only [Act.put, List.setIfInBounds_toArray, List.set_cons_zero, List.set_cons_succ])
    refine wpAnyH_take (i := 17) (v := .agg (shC s : List Value).toArray) rfl (by kernel_rfl) (by kernel_rfl) (by kernel_rfl) (fun _ _ _ h => h) (yieldsIf_load_mid (by rfl) 181 (.tmp 5) rfl (w.heap.size) (0) rfl (shC s) _ (fun W hW => range_below HR.out hW HZ.out) Tryd.underlying181 rfl (infoShC s)) (by assumption) ?_
    simp only [List.getElem_toArray, List.getElem_cons_succ, List.getElem_cons_zero]
    (try simp only [Act.put, List.setIfInBounds_toArray, List.set_cons_zero, List.set_cons_succ])
    refine wpAnyH_ready (rs := [18, 20]) (by kernel_rfl) (by simp) ?_
    refine AllReadyH.cons rfl (fun K hK => ?_) (AllReadyH.cons rfl (fun K hK => ?_) AllReadyH.nil)
    · -- the call, then the box
      go_simp
      go_at_call 155
      refine (HI.out _).mono ?_
      rintro e w3 ⟨rfl, hb3⟩
      have HB3 : Hid (Below w1.heap.size w1 w3) := hHeld.trans (hb3.mono hHeld.size)
      dsimp only
      refine hK.out _ _ HB3.out (fun _ => ?_)
      clear hK K hHeld hb3
      (try simp only [Act.put, List.setIfInBounds_toArray, List.set_cons_zero, List.set_cons_succ])
      have hHeld := HB3.out
      refine wpAnyH_take (i := 19) (v := ?_) rfl (by kernel_rfl) (by kernel_rfl) (by kernel_rfl) (fun _ _ _ h => h) (Or.inl ⟨by rfl, ?_⟩) (by assumption) ?_
      rotate_left
      · (intro W hSW; go_simp; try (with_reducible rfl))
      (try simp only [List.getElem_toArray, List.getElem_cons_succ, List.getElem_cons_zero])
      (try simp only [Act.put, List.setIfInBounds_toArray, List.set_cons_zero, List.set_cons_succ])
      refine wpAnyH_ready (rs := [20]) (by kernel_rfl) (by simp) ?_
      refine AllReadyH.cons rfl (fun K hK => ?_) AllReadyH.nil
      go_simp
      refine hK.out _ _ (HB3.out.alloc HB3.out.size _) (fun hHeld2 => ?_)
      clear hK K
      (try simp only [Act.put, List.setIfInBounds_toArray, List.set_cons_zero, List.set_cons_succ])
      refine wpAnyH_ready (rs := [21]) (by kernel_rfl) (by simp) ?_
      refine AllReadyH.cons rfl (fun K hK => ?_) AllReadyH.nil
      refine wp_store_row 151 _ _ rfl (w3.heap.size) (miC X).toArray rfl (by rw [HX.out]; rfl) 151 #[.int .i64 0, .int .i64 0, .int .i64 0, .int .i64 0, .int .i64 0] (heap_alloc_last w3 _) infoRv rfl (miC_one X) ?_
      have HBN : Hid (Below w1.heap.size w1 (World.setRow (w3.alloc (.cells #[.int .i64 0, .int .i64 0, .int .i64 0, .int .i64 0, .int .i64 0] 151)) w3.heap.size (miC X).toArray)) := below_setRowR (HB3.out.alloc HB3.out.size _) HB3.out.size _
      have HGN : Hid ((World.setRow (w3.alloc (.cells #[.int .i64 0, .int .i64 0, .int .i64 0, .int .i64 0, .int .i64 0] 151)) w3.heap.size (miC X).toArray).heap[w3.heap.size]? = some (.cells (miC X).toArray 151 (0, 0))) := setRow_heap _ _ _ _ _ _ (heap_alloc_last w3 _)
      have HGB : Hid (w1.heap.size ≤ w3.heap.size) := HB3.out.size
      refine hK.out _ _ HBN.out (fun _ => ?_)
      clear hK K hHeld hHeld2
      (try simp only [Act.put, List.setIfInBounds_toArray])
      refine wpAnyH_done (by kernel_rfl) ?_ _
      generalize World.setRow (w3.alloc (.cells #[.int .i64 0, .int .i64 0, .int .i64 0, .int .i64 0, .int .i64 0] 151)) w3.heap.size (miC X).toArray = w4 at HBN HGN ⊢
      generalize w3.heap.size = b4 at HGN HGB ⊢
      have HR4 : Hid (w4.rangeAt w.heap.size 0 (shC s)) := range_below HR.out HBN.out HZ.out
      have h64 : w4.heap[w.heap.size + 1]? = some (.cells #[.int .i64 0, .int .i64 0, .int .i64 0, .int .i64 0, .int .i64 0] 151 (0, 0)) := (HBN.out.block _ HZ6.out).trans H6.out
      have HBW : Hid (Below w.heap.size w w4) := HB.out.trans (HBN.out.mono (by have := HZ.out; omega))
      have hgn := HGN.out
      clear d0 d1 d2
      go_wp2_with (first
      | (refine wpList_load_row rfl 151 (.tmp 8) rfl _ rfl _ _ _ _ hgn Tryd.underlying151 rfl infoRv ?_)
      | (refine wpList_load_mid rfl 181 _ rfl w.heap.size 0 rfl (shC s) _ HR4.out Tryd.underlying181 rfl (infoShC s) ?_)
      | (go_at_call 156; refine (HF.out _).mono ?_; rintro e w5 ⟨rfl, hb5⟩; have h65 : w5.heap[w.heap.size + 1]? = some (.cells #[.int .i64 0, .int .i64 0, .int .i64 0, .int .i64 0, .int .i64 0] 151 (0, 0)) := (hb5.block _ (World.heap_lt h64)).trans h64; have hgn5 : w5.heap[b4]? = some (.cells (miC X).toArray 151 (0, 0)) := (hb5.block _ (World.heap_lt hgn)).trans hgn; have HB5 : Hid (Below w.heap.size w w5) := HBW.out.trans (hb5.mono HBW.out.size); clear hb5)
      | (refine wpList_load_row rfl 151 (.tmp 8) rfl _ rfl _ _ _ _ hgn5 Tryd.underlying151 rfl infoRv ?_)
      | (refine wpList_store_row rfl _ _ _ rfl _ (miC X).toArray rfl rfl _ _ h65 infoRv rfl (miC_one X) ?_))
      try simp only [Exit.inBlock, Exit.then]
      exact bodyPost_ret (results_row_tmpR rfl _ _ (w.heap.size + 1) 151 _ (0, 0) _ rfl (setRow_heap _ _ _ _ _ _ h65) Tryd.underlying151 rfl infoRv) rfl ⟨by first | rfl | (rw [HXX.out]; rfl), below_setRowR HB5.out (by omega) _⟩
    · -- the box, then the call
      go_simp
      refine hK.out _ _ (hHeld.alloc (Nat.le_refl _) _) (fun hHeld2 => ?_)
      clear hK K
      (try simp only [Act.put, List.setIfInBounds_toArray, List.set_cons_zero, List.set_cons_succ])
      refine wpAnyH_ready (rs := [18]) (by kernel_rfl) (by simp) ?_
      refine AllReadyH.cons rfl (fun K hK => ?_) AllReadyH.nil
      go_simp
      go_at_call 155
      refine (HI.out _).mono ?_
      rintro e w3 ⟨rfl, hb3⟩
      have HB3 : Hid (Below w1.heap.size w1 w3) := hHeld2.trans (hb3.mono hHeld2.size)
      have hg3 : w3.heap[w1.heap.size]? = some (.cells #[.int .i64 0, .int .i64 0, .int .i64 0, .int .i64 0, .int .i64 0] 151 (0, 0)) := (hb3.block _ (by simp)).trans (heap_alloc_last w1 _)
      dsimp only
      refine hK.out _ _ HB3.out (fun _ => ?_)
      clear hK K hHeld hHeld2 hb3
      (try simp only [Act.put, List.setIfInBounds_toArray, List.set_cons_zero, List.set_cons_succ])
      have hHeld := HB3.out
      refine wpAnyH_take (i := 19) (v := ?_) rfl (by kernel_rfl) (by kernel_rfl) (by kernel_rfl) (fun _ _ _ h => h) (Or.inl ⟨by rfl, ?_⟩) (by assumption) ?_
      rotate_left
      · (intro W hSW; go_simp; try (with_reducible rfl))
      (try simp only [List.getElem_toArray, List.getElem_cons_succ, List.getElem_cons_zero])
      (try simp only [Act.put, List.setIfInBounds_toArray, List.set_cons_zero, List.set_cons_succ])
      refine wpAnyH_ready (rs := [21]) (by kernel_rfl) (by simp) ?_
      refine AllReadyH.cons rfl (fun K hK => ?_) AllReadyH.nil
      refine wp_store_row 151 _ _ rfl (w1.heap.size) (miC X).toArray rfl (by rw [HX.out]; rfl) 151 #[.int .i64 0, .int .i64 0, .int .i64 0, .int .i64 0, .int .i64 0] (hg3) infoRv rfl (miC_one X) ?_
      have HBN : Hid (Below w1.heap.size w1 (World.setRow w3 w1.heap.size (miC X).toArray)) := below_setRowR HB3.out (Nat.le_refl _) _
      have HGN : Hid ((World.setRow w3 w1.heap.size (miC X).toArray).heap[w1.heap.size]? = some (.cells (miC X).toArray 151 (0, 0))) := setRow_heap _ _ _ _ _ _ hg3
      have HGB : Hid (w1.heap.size ≤ w1.heap.size) := Nat.le_refl _
      refine hK.out _ _ HBN.out (fun _ => ?_)
      clear hK K hHeld hg3
      (try simp only [Act.put, List.setIfInBounds_toArray])
      refine wpAnyH_done (by kernel_rfl) ?_ _
      generalize World.setRow w3 w1.heap.size (miC X).toArray = w4 at HBN HGN ⊢
      generalize HBE : w1.heap.size = b4 at HGN ⊢
      have HGB : Hid (w1.heap.size ≤ b4) := Nat.le_of_eq HBE
      clear HBE
      have HR4 : Hid (w4.rangeAt w.heap.size 0 (shC s)) := range_below HR.out HBN.out HZ.out
      have h64 : w4.heap[w.heap.size + 1]? = some (.cells #[.int .i64 0, .int .i64 0, .int .i64 0, .int .i64 0, .int .i64 0] 151 (0, 0)) := (HBN.out.block _ HZ6.out).trans H6.out
      have HBW : Hid (Below w.heap.size w w4) := HB.out.trans (HBN.out.mono (by have := HZ.out; omega))
      have hgn := HGN.out
      clear d0 d1 d2
      go_wp2_with (first
      | (refine wpList_load_row rfl 151 (.tmp 8) rfl _ rfl _ _ _ _ hgn Tryd.underlying151 rfl infoRv ?_)
      | (refine wpList_load_mid rfl 181 _ rfl w.heap.size 0 rfl (shC s) _ HR4.out Tryd.underlying181 rfl (infoShC s) ?_)
      | (go_at_call 156; refine (HF.out _).mono ?_; rintro e w5 ⟨rfl, hb5⟩; have h65 : w5.heap[w.heap.size + 1]? = some (.cells #[.int .i64 0, .int .i64 0, .int .i64 0, .int .i64 0, .int .i64 0] 151 (0, 0)) := (hb5.block _ (World.heap_lt h64)).trans h64; have hgn5 : w5.heap[b4]? = some (.cells (miC X).toArray 151 (0, 0)) := (hb5.block _ (World.heap_lt hgn)).trans hgn; have HB5 : Hid (Below w.heap.size w w5) := HBW.out.trans (hb5.mono HBW.out.size); clear hb5)
      | (refine wpList_load_row rfl 151 (.tmp 8) rfl _ rfl _ _ _ _ hgn5 Tryd.underlying151 rfl infoRv ?_)
      | (refine wpList_store_row rfl _ _ _ rfl _ (miC X).toArray rfl rfl _ _ h65 infoRv rfl (miC_one X) ?_))
      try simp only [Exit.inBlock, Exit.then]
      exact bodyPost_ret (results_row_tmpR rfl _ _ (w.heap.size + 1) 151 _ (0, 0) _ rfl (setRow_heap _ _ _ _ _ _ h65) Tryd.underlying151 rfl infoRv) rfl ⟨by first | rfl | (rw [HXX.out]; rfl), below_setRowR HB5.out (by omega) _⟩
end Go.Proofs.YtndogdojcbcjgaaDoor

/- Contract of rv.Decode (written by gen/mkrvc.py): what it answers, in plain numbers. No condition but that the two tables lie in memory as they were laid. -/
namespace Go.Proofs.YtndogdojcbcjgaaDoor
open Go Go.RowKit

theorem find_none (p : Pts) (h : ∀ j, 1 ≤ j → j < 30 → hitB p j = false) : findOp p 1 = none := by
  unfold findOp
  rw [List.find?_eq_none]
  intro j hj
  simp at hj
  rw [h j (by omega) (by omega)]
  simp
theorem RvTab.pat {w : World} (h : RvTab w) (k : Nat) (hk : k < 30) : w.rangeAt 0 (k * 2) [.int .i64 (shOf k), .int .i64 (setOf k)] := by
  intro j u hu
  obtain ⟨e0, e1⟩ := h.pt k hk
  match j, hu with
  | 0, hu => rw [← Option.some.inj (show some (Value.int .i64 (shOf k : Int)) = some u from hu)]; exact e0
  | 1, hu => rw [← Option.some.inj (show some (Value.int .i64 (setOf k : Int)) = some u from hu)]; exact e1
  | j + 2, hu => simp at hu

set_option maxRecDepth 100000 in
set_option maxHeartbeats 1000000 in
theorem rdecode_any (wd : Int) (w : World) (ht : RvTab w) :
    Calls Tryd.prog 105 #[.int .i64 wd] w fun e w' => e = .returned (.tuple #[(decX wd).val, .int .i64 (decE wd)]) ∧ Below w.heap.size w w' := by
  have HT1 : Hid (∀ o, RvTab (w.alloc o)) := fun o => ht.below ((Below.refl _ _).alloc (Nat.le_refl _) _)
  have h60 : (w.alloc (.cells #[.int .i64 0, .int .i64 0, .int .i64 0, .int .i64 0, .int .i64 0] 151)).heap[w.heap.size]? = some (.cells #[.int .i64 0, .int .i64 0, .int .i64 0, .int .i64 0, .int .i64 0] 151 (0, 0)) := heap_alloc_last w _
  have HB0 : Hid (∀ o, Below w.heap.size w (w.alloc o)) := fun o => (Below.refl _ _).alloc (Nat.le_refl _) _
  clear ht
  by_cases h1 : wd < 0 ∨ 4294967295 < wd
  · have e1 : decX wd = zeroMi := if_pos h1
    have e2 : decE wd = 2 := if_pos h1
    rw [e1, e2]
    clear e1 e2
    rcases h1 with h1 | h1
    all_goals
      go_enter Tryd.func105, Tryd.ntmps105
      go_wp2_with (first | (refine wpList_build_storeR rfl _ _ rfl (miC zeroMi).toArray built_rv rfl _ _ rfl _ rfl rfl _ _ h60 infoRv rfl (miC_one _) ?_))
      try simp only [Exit.inBlock, Exit.then]
      exact bodyPost_ret (results_row_tmpR rfl _ _ w.heap.size 151 _ (0, 0) _ rfl h60 Tryd.underlying151 rfl infoRv) rfl ⟨rfl, HB0.out _⟩
  have w0 : 0 ≤ wd := by omega
  have w1 : wd < 4294967296 := by omega
  have w2 : wd ≤ 4294967295 := by omega
  have HD : Hid (∀ r, findOp (partsOf wd) 1 = r → decX wd = (match r with | none => zeroMi | some op => if fitsB (shOf op) (instQ (shOf op) op (partsOf wd)) = true then instQ (shOf op) op (partsOf wd) else zeroMi) ∧ decE wd = (match r with | none => 3 | some op => if fitsB (shOf op) (instQ (shOf op) op (partsOf wd)) = true then 0 else 3)) := fun r hr => by
    subst hr
    unfold decX decE
    rw [if_neg h1, if_neg h1]
    exact ⟨rfl, rfl⟩
  have HM : Hid (∀ k, 1 ≤ k → k ≤ 29 → (bits .and .i64 wd (shF (shOf k) 18) == (setOf k : Int)) = hitB (partsOf wd) k) := fun k a b => mask_eq k a b wd w0 w1
  have HI : Hid (∀ (k : Nat) W, 1 ≤ k → k ≤ 29 → Calls Tryd.prog 133 #[.int .i64 k, .int .i64 wd, .agg (shC (shOf k)).toArray] W fun e w' => e = .returned (.tuple #[(if fitsB (shOf k) (instQ (shOf k) k (partsOf wd)) = true then instQ (shOf k) k (partsOf wd) else zeroMi).val, .int .i64 (if fitsB (shOf k) (instQ (shOf k) k (partsOf wd)) = true then 0 else 3)]) ∧ Below W.heap.size W w') := fun k W a b => instruction_any k wd _ (shOf_lt k a b) w0 w1 W
  clear h1
  go_enter Tryd.func105, Tryd.ntmps105
  go_wp2
  go_loopw [4] (fun v wr => ∃ k : Nat, 1 ≤ k ∧ k ≤ 30 ∧ v = .int .i64 k ∧ (∀ j, 1 ≤ j → j < k → hitB (partsOf wd) j = false) ∧ Below (w.heap.size + 1) (w.alloc (.cells #[.int .i64 0, .int .i64 0, .int .i64 0, .int .i64 0, .int .i64 0] 151)) wr) (fun v _ => 30 - (intOf v).toNat)
  case atStart => exact ⟨1, by omega, by omega, rfl, fun j a b => by omega, Below.refl _ _⟩
  case round =>
    obtain ⟨k, hk1, hk2, rfl, hall, hbr⟩ := hrel
    have h6r : wr.heap[w.heap.size]? = some (.cells #[.int .i64 0, .int .i64 0, .int .i64 0, .int .i64 0, .int .i64 0] 151 (0, 0)) := (hbr.block _ (by omega)).trans h60
    have HBR : Hid (Below (w.heap.size + 1) (w.alloc (.cells #[.int .i64 0, .int .i64 0, .int .i64 0, .int .i64 0, .int .i64 0] 151)) wr) := hbr
    have HBW : Hid (Below w.heap.size w wr) := (HB0.out _).trans (hbr.mono (by omega))
    have HTR : Hid (RvTab wr) := (HT1.out _).below (hbr.mono (by simp))
    have HZ : Hid (w.heap.size < wr.heap.size) := World.heap_lt h6r
    have HALL : Hid (∀ j, 1 ≤ j → j < k → hitB (partsOf wd) j = false) := hall
    clear hall hbr
    by_cases hlt : k ≤ 29
    case neg =>
      obtain rfl : k = 30 := by omega
      obtain ⟨e1, e2⟩ := HD.out _ (find_none _ HALL.out)
      have HE1 : Hid (decX wd = zeroMi) := e1
      have HE2 : Hid (decE wd = 3) := e2
      clear e1 e2
      go_wp2_with (first | (refine wpList_build_storeR rfl _ _ rfl (miC zeroMi).toArray built_rv rfl _ _ rfl _ rfl rfl _ _ h6r infoRv rfl (miC_one _) ?_) | (refine wpList_store_row rfl _ _ _ rfl _ (miC zeroMi).toArray rfl rfl _ _ h6r infoRv rfl (miC_one _) ?_))
      try simp only [Exit.inBlock, Exit.then]
      exact bodyPost_ret (results_row_tmpR rfl _ _ w.heap.size 151 (miC zeroMi).toArray (0, 0) _ rfl (setRow_heap _ _ _ _ _ _ h6r) Tryd.underlying151 rfl infoRv) rfl ⟨by rw [HE1.out, HE2.out]; rfl, below_setRowR HBW.out (Nat.le_refl _) _⟩
    have hs := shOf_lt k hk1 hlt
    have hkI : (k : Int) < 30 := by omega
    have hm := HM.out k hk1 hlt
    have HII : Hid (∀ W, Calls Tryd.prog 133 #[.int .i64 k, .int .i64 wd, .agg (shC (shOf k)).toArray] W fun e w' => e = .returned (.tuple #[(if fitsB (shOf k) (instQ (shOf k) k (partsOf wd)) = true then instQ (shOf k) k (partsOf wd) else zeroMi).val, .int .i64 (if fitsB (shOf k) (instQ (shOf k) k (partsOf wd)) = true then 0 else 3)]) ∧ Below W.heap.size W w') := fun W => HI.out k W hk1 hlt
    have HH : Hid (∀ b, hitB (partsOf wd) k = b → b = true → findOp (partsOf wd) 1 = some k) := fun b e hb => find_hit _ k hk1 hlt (e.trans hb)
    have HN : Hid (hitB (partsOf wd) k = false → ∀ j, 1 ≤ j → j < k + 1 → hitB (partsOf wd) j = false) := fun h j a b => by
      rcases Nat.lt_succ_iff_lt_or_eq.1 b with hl | rfl
      · exact HALL.out j a hl
      · exact h
    have HPR : Hid (wr.rangeAt 0 (k * 2) [.int .i64 (shOf k : Int), .int .i64 (setOf k : Int)]) := HTR.out.pat k (by omega)
    have cm0 : wr.cell? ⟨1, shOf k * 19 + 18, none⟩ = some (.int .i64 (shF (shOf k) 18)) := HTR.out.sh _ 18 hs (by omega)
    have HS : Hid (shOf k < 8) := hs
    have hsI : (shOf k : Int) < 8 := by omega
    have HDK : Hid (findOp (partsOf wd) 1 = some k → decX wd = (if fitsB (shOf k) (instQ (shOf k) k (partsOf wd)) = true then instQ (shOf k) k (partsOf wd) else zeroMi) ∧ decE wd = (if fitsB (shOf k) (instQ (shOf k) k (partsOf wd)) = true then 0 else 3)) := HD.out (some k)
    generalize (if fitsB (shOf k) (instQ (shOf k) k (partsOf wd)) = true then instQ (shOf k) k (partsOf wd) else zeroMi) = XX at HII HDK
    generalize (if fitsB (shOf k) (instQ (shOf k) k (partsOf wd)) = true then (0 : Int) else 3) = EE at HII HDK
    generalize shF (shOf k) 18 = mk at *
    generalize shOf k = s at *
    generalize setOf k = S at *
    generalize hitB (partsOf wd) k = H at *
    have c0 : (wr.alloc (.cells #[.int .i64 (s : Int), .int .i64 (S : Int)] 175)).cell? ⟨wr.heap.size, 0, none⟩ = some (.int .i64 (s : Int)) := by simp
    have c1 : (wr.alloc (.cells #[.int .i64 (s : Int), .int .i64 (S : Int)] 175)).cell? ⟨wr.heap.size, 1, none⟩ = some (.int .i64 (S : Int)) := by simp
    have cm := cell_alloc cm0 (.cells #[.int .i64 (s : Int), .int .i64 (S : Int)] 175)
    have hal : ∀ o, Below wr.heap.size wr (wr.alloc o) := fun o => (Below.refl _ _).alloc (Nat.le_refl _) _
    have h62 := ((hal (.cells #[.int .i64 (s : Int), .int .i64 (S : Int)] 175)).block _ HZ.out).trans h6r
    have HB2 : Hid (Below (w.heap.size + 1) (w.alloc (.cells #[.int .i64 0, .int .i64 0, .int .i64 0, .int .i64 0, .int .i64 0] 151)) (wr.alloc (.cells #[.int .i64 (s : Int), .int .i64 (S : Int)] 175))) := HBR.out.trans ((hal _).mono HZ.out)
    have HBW2 : Hid (Below w.heap.size w (wr.alloc (.cells #[.int .i64 (s : Int), .int .i64 (S : Int)] 175))) := HBW.out.trans ((hal _).mono (Nat.le_of_lt HZ.out))
    have HT2 : Hid (RvTab (wr.alloc (.cells #[.int .i64 (s : Int), .int .i64 (S : Int)] 175))) := HTR.out.below (hal _)
    have HZ2 : Hid (w.heap.size + 1 ≤ (wr.alloc (.cells #[.int .i64 (s : Int), .int .i64 (S : Int)] 175)).heap.size) := by have := HZ.out; show _ ≤ _; simp; omega
    have HPB : Hid (wr.heap.size < (wr.alloc (.cells #[.int .i64 (s : Int), .int .i64 (S : Int)] 175)).heap.size) := by show _ < _; simp
    clear hal cm0 h60 h6r
    go_wp2_with (first | (refine wpList_load_mid rfl _ _ rfl 0 (k * 2) rfl [.int .i64 (s : Int), .int .i64 (S : Int)] _ HPR.out Tryd.underlying175 rfl infoPt ?_))
    generalize wr.alloc (.cells #[.int .i64 (s : Int), .int .i64 (S : Int)] 175) = w2 at *
    generalize wr.heap.size = b2 at *
    refine wp_region_held_drew (S := fun W => Below w2.heap.size w2 W) (by kernel_rfl) ((Below.refl _ _).drew) (fun hHeld => ?_)
    show wpAnyH _ _ _ _ _ 10 _ _ _
    refine wpAnyH_take (i := 0) (v := ?_) rfl (by kernel_rfl) (by kernel_rfl) (by kernel_rfl) (fun _ _ _ h => h) (Or.inl ⟨by rfl, ?_⟩) (by assumption) ?_
    rotate_left
    · (intro W hSW; go_simp; try (with_reducible rfl))
    (try simp only [List.getElem_toArray, List.getElem_cons_zero])
    (try simp only [Act.put, List.setIfInBounds_toArray, List.set_cons_zero, List.set_cons_succ])
    refine wpAnyH_take (i := 1) (v := ?_) rfl (by kernel_rfl) (by kernel_rfl) (by kernel_rfl) (fun _ _ _ h => h) (Or.inl ⟨by rfl, ?_⟩) (by assumption) ?_
    rotate_left
    · (intro W hSW; go_simp; try (with_reducible rfl))
    (try simp only [List.getElem_toArray, List.getElem_cons_succ, List.getElem_cons_zero])
    (try simp only [Act.put, List.setIfInBounds_toArray, List.set_cons_zero, List.set_cons_succ])
    refine wpAnyH_take (i := 2) (v := ?_) rfl (by kernel_rfl) (by kernel_rfl) (by kernel_rfl) (fun _ _ _ h => h) (Or.inl ⟨by rfl, ?_⟩) (by assumption) ?_
    rotate_left
    · (intro W hSW; have z0 := keeps_below hSW _ _ c0; go_simp; try (with_reducible rfl))
    (try simp only [List.getElem_toArray, List.getElem_cons_succ, List.getElem_cons_zero])
    (try simp only [Act.put, List.setIfInBounds_toArray, List.set_cons_zero, List.set_cons_succ])
    refine wpAnyH_take (i := 3) (v := ?_) rfl (by kernel_rfl) (by kernel_rfl) (by kernel_rfl) (fun _ _ _ h => h) (Or.inl ⟨by rfl, ?_⟩) (by assumption) ?_
    rotate_left
    · (intro W hSW; go_simp; try (with_reducible rfl))
    (try simp only [List.getElem_toArray, List.getElem_cons_succ, List.getElem_cons_zero])
    (try simp only [Act.put, List.setIfInBounds_toArray, List.set_cons_zero, List.set_cons_succ])
    refine wpAnyH_take (i := 4) (v := ?_) rfl (by kernel_rfl) (by kernel_rfl) (by kernel_rfl) (fun _ _ _ h => h) (Or.inl ⟨by rfl, ?_⟩) (by assumption) ?_
    rotate_left
    · (intro W hSW; go_simp; try (with_reducible rfl))
    (try simp only [List.getElem_toArray, List.getElem_cons_succ, List.getElem_cons_zero])
    (try simp only [Act.put, List.setIfInBounds_toArray, List.set_cons_zero, List.set_cons_succ])
    refine wpAnyH_take (i := 5) (v := ?_) rfl (by kernel_rfl) (by kernel_rfl) (by kernel_rfl) (fun _ _ _ h => h) (Or.inl ⟨by rfl, ?_⟩) (by assumption) ?_
    rotate_left
    · (intro W hSW; have z0 := keeps_below hSW _ _ cm; go_simp; try (with_reducible rfl))
    (try simp only [List.getElem_toArray, List.getElem_cons_succ, List.getElem_cons_zero])
    (try simp only [Act.put, List.setIfInBounds_toArray, List.set_cons_zero, List.set_cons_succ])
    refine wpAnyH_take (i := 6) (v := ?_) rfl (by kernel_rfl) (by kernel_rfl) (by kernel_rfl) (fun _ _ _ h => h) (Or.inl ⟨by rfl, ?_⟩) (by assumption) ?_
    rotate_left
    · (intro W hSW; go_simp; try (with_reducible rfl))
    (try simp only [List.getElem_toArray, List.getElem_cons_succ, List.getElem_cons_zero])
    (try simp only [Act.put, List.setIfInBounds_toArray, List.set_cons_zero, List.set_cons_succ])
    refine wpAnyH_take (i := 7) (v := ?_) rfl (by kernel_rfl) (by kernel_rfl) (by kernel_rfl) (fun _ _ _ h => h) (Or.inl ⟨by rfl, ?_⟩) (by assumption) ?_
    rotate_left
    · (intro W hSW; go_simp; try (with_reducible rfl))
    (try simp only [List.getElem_toArray, List.getElem_cons_succ, List.getElem_cons_zero])
    (try simp only [Act.put, List.setIfInBounds_toArray, List.set_cons_zero, List.set_cons_succ])
    refine wpAnyH_take (i := 8) (v := ?_) rfl (by kernel_rfl) (by kernel_rfl) (by kernel_rfl) (fun _ _ _ h => h) (Or.inl ⟨by rfl, ?_⟩) (by assumption) ?_
    rotate_left
    · (intro W hSW; have z0 := keeps_below hSW _ _ c1; go_simp; try (with_reducible rfl))
    (try simp only [List.getElem_toArray, List.getElem_cons_succ, List.getElem_cons_zero])
    (try simp only [Act.put, List.setIfInBounds_toArray, List.set_cons_zero, List.set_cons_succ])
    refine wpAnyH_take (i := 9) (v := ?_) rfl (by kernel_rfl) (by kernel_rfl) (by kernel_rfl) (fun _ _ _ h => h) (Or.inl ⟨by rfl, ?_⟩) (by assumption) ?_
    rotate_left
    · (intro W hSW; go_simp; try (with_reducible rfl))
    (try simp only [List.getElem_toArray, List.getElem_cons_succ, List.getElem_cons_zero])
    (try simp only [Act.put, List.setIfInBounds_toArray, List.set_cons_zero, List.set_cons_succ])
    refine wpAnyH_done (by kernel_rfl) ?_ _
    generalize World.drew w2 = w3 at *
    have h63 : w3.heap[w.heap.size]? = some (.cells #[.int .i64 0, .int .i64 0, .int .i64 0, .int .i64 0, .int .i64 0] 151 (0, 0)) := (hHeld.block _ (World.heap_lt h62)).trans h62
    have HB3 : Hid (Below (w.heap.size + 1) (w.alloc (.cells #[.int .i64 0, .int .i64 0, .int .i64 0, .int .i64 0, .int .i64 0] 151)) w3) := HB2.out.trans (hHeld.mono HZ2.out)
    have HBW3 : Hid (Below w.heap.size w w3) := HBW2.out.trans (hHeld.mono (Nat.le_of_succ_le HZ2.out))
    have d0 := keeps_below hHeld _ _ c0
    have HR3 : Hid (w3.rangeAt 1 (s * 19) (shC s)) := (HT2.out.below hHeld).range s HS.out
    clear c0 c1 cm h62 hHeld
    cases H
    · have HNX : Hid _ := HN.out rfl
      go_wp2
      go_roundw
      case rel => exact ⟨k + 1, by omega, by omega, by go_num, HNX.out, HB3.out⟩
      case measure => simp [intOf]; omega
    · obtain ⟨e1, e2⟩ := HDK.out (HH.out _ rfl rfl)
      have HE1 : Hid _ := e1
      have HE2 : Hid _ := e2
      clear e1 e2
      go_wp2_with (first
        | (refine wpList_load_mid rfl 181 _ rfl 1 (s * 19) rfl (shC s) _ HR3.out Tryd.underlying181 rfl (infoShC s) ?_)
        | (go_at_call 133; refine (HII.out _).mono ?_; rintro e w5 ⟨rfl, hb5⟩; have h65 : w5.heap[w.heap.size]? = some (.cells #[.int .i64 0, .int .i64 0, .int .i64 0, .int .i64 0, .int .i64 0] 151 (0, 0)) := (hb5.block _ (World.heap_lt h63)).trans h63; have HB5 : Hid (Below w.heap.size w w5) := HBW3.out.trans (hb5.mono HBW3.out.size); clear hb5)
        | (refine wpList_store_row rfl _ _ _ rfl _ _ rfl rfl _ _ h65 infoRv rfl (miC_one _) ?_))
      try simp only [Exit.inBlock, Exit.then]
      exact bodyPost_ret (results_row_tmpR rfl _ _ w.heap.size 151 _ (0, 0) _ rfl (setRow_heap _ _ _ _ _ _ h65) Tryd.underlying151 rfl infoRv) rfl ⟨by rw [HE1.out, HE2.out]; rfl, below_setRowR HB5.out (Nat.le_refl _) _⟩
end Go.Proofs.YtndogdojcbcjgaaDoor
