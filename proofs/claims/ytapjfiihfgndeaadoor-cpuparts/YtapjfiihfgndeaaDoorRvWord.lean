/- What the code's bits come to: a word is the sum of its parts; what a mask shows, and what pieces of a word are, as numbers. -/
import Derived.Test.YtapjfiihfgndeaaDoorRvCut
import Derived.Test.YtapjfiihfgndeaaDoorRvFits
import Derived.Test.YtapjfiihfgndeaaDoorRvOr
namespace Go.Proofs.YtapjfiihfgndeaaDoor
open Go Go.RowKit

def shN (s j : Nat) : Nat := (shF s j).toNat
def fieldsG (s : Nat) (x : Mi) : Int := orI (orI (orI (orI (regsI x.rd x.rs1 x.rs2) (pieceI x.imm (shN s 6) (shN s 7) (shN s 8))) (pieceI x.imm (shN s 9) (shN s 10) (shN s 11))) (pieceI x.imm (shN s 12) (shN s 13) (shN s 14))) (pieceI x.imm (shN s 15) (shN s 16) (shN s 17))
def immRaw (s : Nat) (w : Int) : Int := immG (shF s 3) (shF s 4) (partF 0 (pieceI w (shN s 6) (shN s 8) (shN s 7)) (pieceI w (shN s 9) (shN s 11) (shN s 10)) (pieceI w (shN s 12) (shN s 14) (shN s 13)) (pieceI w (shN s 15) (shN s 17) (shN s 16)) 4)

theorem fields_shape (x : Mi) (s : Nat) (hs : s < 8) (w : World) : Calls Tryd.prog 34 #[x.val, .agg (shC s).toArray] w fun e w' => e = .returned (.int .i64 (fieldsG s x)) ∧ Below w.heap.size w w' := by
  rcases eight s hs with rfl | rfl | rfl | rfl | rfl | rfl | rfl | rfl <;> exact fields_any x _ _ _ _ _ _ _ _ _ _ _ _ _ _ _ _ _ _ _ (by decide) (by decide) (by decide) (by decide) (by decide) (by decide) (by decide) (by decide) (by decide) (by decide) (by decide) (by decide) w
theorem imm_shape (wd : Int) (s : Nat) (hs : s < 8) (w : World) : Calls Tryd.prog 55 #[.int .i64 wd, .agg (shC s).toArray] w fun e w' => e = .returned (.int .i64 (immRaw s wd)) ∧ Below w.heap.size w w' := by
  rcases eight s hs with rfl | rfl | rfl | rfl | rfl | rfl | rfl | rfl <;> exact imm_any wd _ _ _ _ _ _ _ _ _ _ _ _ _ _ _ _ _ _ _ (by decide) (by decide) (by decide) (by decide) (by decide) (by decide) (by decide) (by decide) (by decide) (by decide) (by decide) (by decide) w

theorem or_c (x y : Int) (x0 : 0 ≤ x) (x1 : x < 4294967296) (y0 : 0 ≤ y) (y1 : y < 4294967296) (h : x = 0 ∨ y = 0) : bits .or .i64 x y = x + y := by
  rcases h with rfl | rfl
  · rw [or_l y y0 y1]; omega
  · rw [or_r x x0 x1]; omega
theorem or_lo (k : Nat) (hk : k ≤ 30) (K : Int) (hK : K = ((2 ^ k : Nat) : Int)) (x z : Int) (x0 : 0 ≤ x) (x1 : x < K) (z0 : 0 ≤ z) (z1 : z < 2147483648) : bits .or .i64 x (K * z) = x + K * z := by
  have hp : 2 ^ k ≤ 1073741824 := Nat.le_trans (Nat.pow_le_pow_right (by decide) hk) (by decide)
  have := or_splitI k hk K hK x 0 0 z x0 x1 (by omega) (by omega) (by omega) (by omega) z0 z1
  rw [or_r x x0 (by omega), or_l z z0 (by omega)] at this
  simpa using this
theorem or_hi (k : Nat) (hk : k ≤ 30) (K : Int) (hK : K = ((2 ^ k : Nat) : Int)) (x z : Int) (x0 : 0 ≤ x) (x1 : x < K) (z0 : 0 ≤ z) (z1 : z < 2147483648) : bits .or .i64 (K * z) x = K * z + x := by
  have hp : 2 ^ k ≤ 1073741824 := Nat.le_trans (Nat.pow_le_pow_right (by decide) hk) (by decide)
  have := or_splitI k hk K hK 0 x z 0 (by omega) (by omega) x0 x1 z0 z1 (by omega) (by omega)
  rw [or_l x x0 (by omega), or_r z z0 (by omega)] at this
  rw [← Int.zero_add (K * z), Int.add_comm _ x]
  simpa [Int.add_comm] using this
theorem piece_none (i : Int) : pieceI i 0 0 0 = 0 := by unfold pieceI; simp; exact wrap64_small 0 (by decide) (by decide)
theorem piece_eq (i : Int) (b f a : Nat) (B F A : Int) (hB : B = 2 ^ b) (hF : F = 2 ^ f) (hA : A = 2 ^ a) (h0 : 0 < B) (h1 : B ≤ 4294967296) (h2 : 0 < A) (h3 : B * A ≤ 4294967296) : pieceI i b f a = i / F % B * A := by
  unfold pieceI
  rw [← hB, ← hF, ← hA]
  have e0 := Int.emod_nonneg (i / F) (show B ≠ 0 by omega)
  have e1 := Int.emod_lt_of_pos (i / F) h0
  generalize i / F % B = z at *
  have g0 : 0 ≤ z * A := Int.mul_nonneg e0 (by omega)
  have g1 : z * A ≤ B * A := Int.mul_le_mul_of_nonneg_right (by omega) (by omega)
  exact wrap64_small _ (by omega) (by omega)

theorem or_pt (a l b m n c a' l' b' m' n' c' : Int) (hp : Pts.Ok ⟨a, l, b, m, n, c⟩) (hq : Pts.Ok ⟨a', l', b', m', n', c'⟩) (ha : bits .or .i64 a a' = a + a') (hl : bits .or .i64 l l' = l + l') (hb : bits .or .i64 b b' = b + b') (hm : bits .or .i64 m m' = m + m') (hn : bits .or .i64 n n' = n + n') (hc : bits .or .i64 c c' = c + c') :
    bits .or .i64 (⟨a, l, b, m, n, c⟩ : Pts).num (⟨a', l', b', m', n', c'⟩ : Pts).num = (⟨a + a', l + l', b + b', m + m', n + n', c + c'⟩ : Pts).num :=
  (or_num _ _ hp hq ha hl hb hm hn hc).trans (by simp only [Pts.num]; omega)
theorem or_even (x y : Int) (x0 : 0 ≤ x) (x1 : x < 128) (y0 : 0 ≤ y) (y1 : y < 2) (h : x % 2 = 0) : bits .or .i64 x y = x + y := by
  have e : x = 2 * (x / 2) := by omega
  rw [e]
  exact or_hi 1 (by decide) 2 rfl y (x / 2) y0 y1 (by omega) (by omega)
theorem num_r (p : Pts) (h : p.Ok) : bits .or .i64 p.num 0 = p.num := or_r _ h.num.1 h.num.2

/-- Registers in a word. -/
theorem regs_num (rd rs1 rs2 : Int) (d0 : 0 ≤ rd) (d1 : rd < 32) (a0 : 0 ≤ rs1) (a1 : rs1 < 32) (b0 : 0 ≤ rs2) (b1 : rs2 < 32) : regsI rd rs1 rs2 = (⟨0, rd, 0, rs1, rs2, 0⟩ : Pts).num := by
  unfold regsI orI
  have e1 : wrap64 (rd * 2 ^ 7) = (⟨0, rd, 0, 0, 0, 0⟩ : Pts).num := by rw [wrap64_small _ (by omega) (by omega)]; simp only [Pts.num]; omega
  have e2 : wrap64 (rs1 * 2 ^ 15) = (⟨0, 0, 0, rs1, 0, 0⟩ : Pts).num := by rw [wrap64_small _ (by omega) (by omega)]; simp only [Pts.num]; omega
  have e3 : wrap64 (rs2 * 2 ^ 20) = (⟨0, 0, 0, 0, rs2, 0⟩ : Pts).num := by rw [wrap64_small _ (by omega) (by omega)]; simp only [Pts.num]; omega
  have f1 : bits .or .i64 (⟨0, rd, 0, 0, 0, 0⟩ : Pts).num (⟨0, 0, 0, rs1, 0, 0⟩ : Pts).num = (⟨0, rd, 0, rs1, 0, 0⟩ : Pts).num := by
    refine (or_pt _ _ _ _ _ _ _ _ _ _ _ _ (by constructor <;> dsimp only <;> omega) (by constructor <;> dsimp only <;> omega) (or_c _ _ (by omega) (by omega) (by omega) (by omega) (by omega)) (or_c _ _ (by omega) (by omega) (by omega) (by omega) (by omega)) (or_c _ _ (by omega) (by omega) (by omega) (by omega) (by omega)) (or_c _ _ (by omega) (by omega) (by omega) (by omega) (by omega)) (or_c _ _ (by omega) (by omega) (by omega) (by omega) (by omega)) (or_c _ _ (by omega) (by omega) (by omega) (by omega) (by omega))).trans ?_
    simp only [Pts.num]; omega
  have f2 : bits .or .i64 (⟨0, rd, 0, rs1, 0, 0⟩ : Pts).num (⟨0, 0, 0, 0, rs2, 0⟩ : Pts).num = (⟨0, rd, 0, rs1, rs2, 0⟩ : Pts).num := by
    refine (or_pt _ _ _ _ _ _ _ _ _ _ _ _ (by constructor <;> dsimp only <;> omega) (by constructor <;> dsimp only <;> omega) (or_c _ _ (by omega) (by omega) (by omega) (by omega) (by omega)) (or_c _ _ (by omega) (by omega) (by omega) (by omega) (by omega)) (or_c _ _ (by omega) (by omega) (by omega) (by omega) (by omega)) (or_c _ _ (by omega) (by omega) (by omega) (by omega) (by omega)) (or_c _ _ (by omega) (by omega) (by omega) (by omega) (by omega)) (or_c _ _ (by omega) (by omega) (by omega) (by omega) (by omega))).trans ?_
    simp only [Pts.num]; omega
  rw [e1, e2, e3, f1, f2]

set_option maxHeartbeats 1000000 in
theorem enc_sum0 (A B C : Int) (a0 : 0 ≤ A) (a1 : A < 128) (b0 : 0 ≤ B) (b1 : B < 8) (c0 : 0 ≤ C) (c1 : C < 128) (rd rs1 rs2 : Int) (hrd0 : 0 ≤ rd) (hrd1 : rd < 32) (hrs10 : 0 ≤ rs1) (hrs11 : rs1 < 32) (hrs20 : 0 ≤ rs2) (hrs21 : rs2 < 32) (imm : Int) : orI (⟨A, 0, B, 0, 0, C⟩ : Pts).num (orI (orI (orI (orI (regsI rd rs1 rs2) (pieceI imm 0 0 0)) (pieceI imm 0 0 0)) (pieceI imm 0 0 0)) (pieceI imm 0 0 0)) = (⟨A, rd, B, rs1, rs2, C⟩ : Pts).num := by
  have z : bits .or .i64 (⟨A, 0, B, 0, 0, C⟩ : Pts).num (⟨0, rd, 0, rs1, rs2, 0⟩ : Pts).num = (⟨A, rd, B, rs1, rs2, C⟩ : Pts).num := by
    refine (or_pt _ _ _ _ _ _ _ _ _ _ _ _ (by constructor <;> dsimp only <;> omega) (by constructor <;> dsimp only <;> omega) (or_c _ _ (by omega) (by omega) (by omega) (by omega) (by omega)) (or_c _ _ (by omega) (by omega) (by omega) (by omega) (by omega)) (or_c _ _ (by omega) (by omega) (by omega) (by omega) (by omega)) (or_c _ _ (by omega) (by omega) (by omega) (by omega) (by omega)) (or_c _ _ (by omega) (by omega) (by omega) (by omega) (by omega)) (or_c _ _ (by omega) (by omega) (by omega) (by omega) (by omega))).trans ?_
    simp only [Pts.num]; omega
  unfold orI
  rw [regs_num rd rs1 rs2 (by omega) (by omega) (by omega) (by omega) (by omega) (by omega)]
  rw [piece_none, num_r _ (by constructor <;> dsimp only <;> omega)]
  rw [num_r _ (by constructor <;> dsimp only <;> omega)]
  rw [num_r _ (by constructor <;> dsimp only <;> omega)]
  rw [num_r _ (by constructor <;> dsimp only <;> omega)]
  exact z
set_option maxHeartbeats 1000000 in
theorem enc_sum1 (A B : Int) (a0 : 0 ≤ A) (a1 : A < 128) (b0 : 0 ≤ B) (b1 : B < 8) (rd rs1 : Int) (hrd0 : 0 ≤ rd) (hrd1 : rd < 32) (hrs10 : 0 ≤ rs1) (hrs11 : rs1 < 32) (imm : Int) : orI (⟨A, 0, B, 0, 0, 0⟩ : Pts).num (orI (orI (orI (orI (regsI rd rs1 0) (pieceI imm 12 0 20)) (pieceI imm 0 0 0)) (pieceI imm 0 0 0)) (pieceI imm 0 0 0)) = (⟨A, rd, B, rs1, imm % 32, imm / 32 % 128⟩ : Pts).num := by
  have p0 : pieceI imm 12 0 20 = (⟨0, 0, 0, 0, imm % 32, imm / 32 % 128⟩ : Pts).num := by
    rw [piece_eq imm 12 0 20 4096 1 1048576 (by decide) (by decide) (by decide) (by decide) (by decide) (by decide) (by decide)]
    simp only [Pts.num]; omega
  have q0 : bits .or .i64 (⟨0, rd, 0, rs1, 0, 0⟩ : Pts).num (⟨0, 0, 0, 0, imm % 32, imm / 32 % 128⟩ : Pts).num = (⟨0, rd, 0, rs1, imm % 32, imm / 32 % 128⟩ : Pts).num := by
    refine (or_pt _ _ _ _ _ _ _ _ _ _ _ _ (by constructor <;> dsimp only <;> omega) (by constructor <;> dsimp only <;> omega) (or_c _ _ (by omega) (by omega) (by omega) (by omega) (by omega)) (or_c _ _ (by omega) (by omega) (by omega) (by omega) (by omega)) (or_c _ _ (by omega) (by omega) (by omega) (by omega) (by omega)) (or_c _ _ (by omega) (by omega) (by omega) (by omega) (by omega)) (or_c _ _ (by omega) (by omega) (by omega) (by omega) (by omega)) (or_c _ _ (by omega) (by omega) (by omega) (by omega) (by omega))).trans ?_
    simp only [Pts.num]; omega
  have z : bits .or .i64 (⟨A, 0, B, 0, 0, 0⟩ : Pts).num (⟨0, rd, 0, rs1, imm % 32, imm / 32 % 128⟩ : Pts).num = (⟨A, rd, B, rs1, imm % 32, imm / 32 % 128⟩ : Pts).num := by
    refine (or_pt _ _ _ _ _ _ _ _ _ _ _ _ (by constructor <;> dsimp only <;> omega) (by constructor <;> dsimp only <;> omega) (or_c _ _ (by omega) (by omega) (by omega) (by omega) (by omega)) (or_c _ _ (by omega) (by omega) (by omega) (by omega) (by omega)) (or_c _ _ (by omega) (by omega) (by omega) (by omega) (by omega)) (or_c _ _ (by omega) (by omega) (by omega) (by omega) (by omega)) (or_c _ _ (by omega) (by omega) (by omega) (by omega) (by omega)) (or_c _ _ (by omega) (by omega) (by omega) (by omega) (by omega))).trans ?_
    simp only [Pts.num]; omega
  unfold orI
  rw [regs_num rd rs1 0 (by omega) (by omega) (by omega) (by omega) (by omega) (by omega)]
  rw [p0, q0]
  rw [piece_none, num_r _ (by constructor <;> dsimp only <;> omega)]
  rw [num_r _ (by constructor <;> dsimp only <;> omega)]
  rw [num_r _ (by constructor <;> dsimp only <;> omega)]
  exact z
set_option maxHeartbeats 1000000 in
theorem enc_sum2 (A B C : Int) (a0 : 0 ≤ A) (a1 : A < 128) (b0 : 0 ≤ B) (b1 : B < 8) (c0 : 0 ≤ C) (c1 : C < 128) (rd rs1 : Int) (hrd0 : 0 ≤ rd) (hrd1 : rd < 32) (hrs10 : 0 ≤ rs1) (hrs11 : rs1 < 32) (imm : Int) (hc2 : C % 2 = 0) (_hc3 : C < 127) : orI (⟨A, 0, B, 0, 0, C⟩ : Pts).num (orI (orI (orI (orI (regsI rd rs1 0) (pieceI imm 6 0 20)) (pieceI imm 0 0 0)) (pieceI imm 0 0 0)) (pieceI imm 0 0 0)) = (⟨A, rd, B, rs1, imm % 32, C + imm / 32 % 2⟩ : Pts).num := by
  have p0 : pieceI imm 6 0 20 = (⟨0, 0, 0, 0, imm % 32, imm / 32 % 2⟩ : Pts).num := by
    rw [piece_eq imm 6 0 20 64 1 1048576 (by decide) (by decide) (by decide) (by decide) (by decide) (by decide) (by decide)]
    simp only [Pts.num]; omega
  have q0 : bits .or .i64 (⟨0, rd, 0, rs1, 0, 0⟩ : Pts).num (⟨0, 0, 0, 0, imm % 32, imm / 32 % 2⟩ : Pts).num = (⟨0, rd, 0, rs1, imm % 32, imm / 32 % 2⟩ : Pts).num := by
    refine (or_pt _ _ _ _ _ _ _ _ _ _ _ _ (by constructor <;> dsimp only <;> omega) (by constructor <;> dsimp only <;> omega) (or_c _ _ (by omega) (by omega) (by omega) (by omega) (by omega)) (or_c _ _ (by omega) (by omega) (by omega) (by omega) (by omega)) (or_c _ _ (by omega) (by omega) (by omega) (by omega) (by omega)) (or_c _ _ (by omega) (by omega) (by omega) (by omega) (by omega)) (or_c _ _ (by omega) (by omega) (by omega) (by omega) (by omega)) (or_c _ _ (by omega) (by omega) (by omega) (by omega) (by omega))).trans ?_
    simp only [Pts.num]; omega
  have z : bits .or .i64 (⟨A, 0, B, 0, 0, C⟩ : Pts).num (⟨0, rd, 0, rs1, imm % 32, imm / 32 % 2⟩ : Pts).num = (⟨A, rd, B, rs1, imm % 32, C + imm / 32 % 2⟩ : Pts).num := by
    refine (or_pt _ _ _ _ _ _ _ _ _ _ _ _ (by constructor <;> dsimp only <;> omega) (by constructor <;> dsimp only <;> omega) (or_c _ _ (by omega) (by omega) (by omega) (by omega) (by omega)) (or_c _ _ (by omega) (by omega) (by omega) (by omega) (by omega)) (or_c _ _ (by omega) (by omega) (by omega) (by omega) (by omega)) (or_c _ _ (by omega) (by omega) (by omega) (by omega) (by omega)) (or_c _ _ (by omega) (by omega) (by omega) (by omega) (by omega)) (or_even _ _ (by omega) (by omega) (by omega) (by omega) (by omega))).trans ?_
    simp only [Pts.num]; omega
  unfold orI
  rw [regs_num rd rs1 0 (by omega) (by omega) (by omega) (by omega) (by omega) (by omega)]
  rw [p0, q0]
  rw [piece_none, num_r _ (by constructor <;> dsimp only <;> omega)]
  rw [num_r _ (by constructor <;> dsimp only <;> omega)]
  rw [num_r _ (by constructor <;> dsimp only <;> omega)]
  exact z
set_option maxHeartbeats 1000000 in
theorem enc_sum3 (A B : Int) (a0 : 0 ≤ A) (a1 : A < 128) (b0 : 0 ≤ B) (b1 : B < 8) (rs1 rs2 : Int) (hrs10 : 0 ≤ rs1) (hrs11 : rs1 < 32) (hrs20 : 0 ≤ rs2) (hrs21 : rs2 < 32) (imm : Int) : orI (⟨A, 0, B, 0, 0, 0⟩ : Pts).num (orI (orI (orI (orI (regsI 0 rs1 rs2) (pieceI imm 5 0 7)) (pieceI imm 7 5 25)) (pieceI imm 0 0 0)) (pieceI imm 0 0 0)) = (⟨A, imm % 32, B, rs1, rs2, imm / 32 % 128⟩ : Pts).num := by
  have p0 : pieceI imm 5 0 7 = (⟨0, imm % 32, 0, 0, 0, 0⟩ : Pts).num := by
    rw [piece_eq imm 5 0 7 32 1 128 (by decide) (by decide) (by decide) (by decide) (by decide) (by decide) (by decide)]
    simp only [Pts.num]; omega
  have q0 : bits .or .i64 (⟨0, 0, 0, rs1, rs2, 0⟩ : Pts).num (⟨0, imm % 32, 0, 0, 0, 0⟩ : Pts).num = (⟨0, imm % 32, 0, rs1, rs2, 0⟩ : Pts).num := by
    refine (or_pt _ _ _ _ _ _ _ _ _ _ _ _ (by constructor <;> dsimp only <;> omega) (by constructor <;> dsimp only <;> omega) (or_c _ _ (by omega) (by omega) (by omega) (by omega) (by omega)) (or_c _ _ (by omega) (by omega) (by omega) (by omega) (by omega)) (or_c _ _ (by omega) (by omega) (by omega) (by omega) (by omega)) (or_c _ _ (by omega) (by omega) (by omega) (by omega) (by omega)) (or_c _ _ (by omega) (by omega) (by omega) (by omega) (by omega)) (or_c _ _ (by omega) (by omega) (by omega) (by omega) (by omega))).trans ?_
    simp only [Pts.num]; omega
  have p1 : pieceI imm 7 5 25 = (⟨0, 0, 0, 0, 0, imm / 32 % 128⟩ : Pts).num := by
    rw [piece_eq imm 7 5 25 128 32 33554432 (by decide) (by decide) (by decide) (by decide) (by decide) (by decide) (by decide)]
    simp only [Pts.num]; omega
  have q1 : bits .or .i64 (⟨0, imm % 32, 0, rs1, rs2, 0⟩ : Pts).num (⟨0, 0, 0, 0, 0, imm / 32 % 128⟩ : Pts).num = (⟨0, imm % 32, 0, rs1, rs2, imm / 32 % 128⟩ : Pts).num := by
    refine (or_pt _ _ _ _ _ _ _ _ _ _ _ _ (by constructor <;> dsimp only <;> omega) (by constructor <;> dsimp only <;> omega) (or_c _ _ (by omega) (by omega) (by omega) (by omega) (by omega)) (or_c _ _ (by omega) (by omega) (by omega) (by omega) (by omega)) (or_c _ _ (by omega) (by omega) (by omega) (by omega) (by omega)) (or_c _ _ (by omega) (by omega) (by omega) (by omega) (by omega)) (or_c _ _ (by omega) (by omega) (by omega) (by omega) (by omega)) (or_c _ _ (by omega) (by omega) (by omega) (by omega) (by omega))).trans ?_
    simp only [Pts.num]; omega
  have z : bits .or .i64 (⟨A, 0, B, 0, 0, 0⟩ : Pts).num (⟨0, imm % 32, 0, rs1, rs2, imm / 32 % 128⟩ : Pts).num = (⟨A, imm % 32, B, rs1, rs2, imm / 32 % 128⟩ : Pts).num := by
    refine (or_pt _ _ _ _ _ _ _ _ _ _ _ _ (by constructor <;> dsimp only <;> omega) (by constructor <;> dsimp only <;> omega) (or_c _ _ (by omega) (by omega) (by omega) (by omega) (by omega)) (or_c _ _ (by omega) (by omega) (by omega) (by omega) (by omega)) (or_c _ _ (by omega) (by omega) (by omega) (by omega) (by omega)) (or_c _ _ (by omega) (by omega) (by omega) (by omega) (by omega)) (or_c _ _ (by omega) (by omega) (by omega) (by omega) (by omega)) (or_c _ _ (by omega) (by omega) (by omega) (by omega) (by omega))).trans ?_
    simp only [Pts.num]; omega
  unfold orI
  rw [regs_num 0 rs1 rs2 (by omega) (by omega) (by omega) (by omega) (by omega) (by omega)]
  rw [p0, q0, p1, q1]
  rw [piece_none, num_r _ (by constructor <;> dsimp only <;> omega)]
  rw [num_r _ (by constructor <;> dsimp only <;> omega)]
  exact z
set_option maxHeartbeats 1000000 in
theorem enc_sum4 (A B : Int) (a0 : 0 ≤ A) (a1 : A < 128) (b0 : 0 ≤ B) (b1 : B < 8) (rs1 rs2 : Int) (hrs10 : 0 ≤ rs1) (hrs11 : rs1 < 32) (hrs20 : 0 ≤ rs2) (hrs21 : rs2 < 32) (imm : Int) : orI (⟨A, 0, B, 0, 0, 0⟩ : Pts).num (orI (orI (orI (orI (regsI 0 rs1 rs2) (pieceI imm 1 11 7)) (pieceI imm 4 1 8)) (pieceI imm 6 5 25)) (pieceI imm 1 12 31)) = (⟨A, imm / 2048 % 2 + 2 * (imm / 2 % 16), B, rs1, rs2, imm / 32 % 64 + 64 * (imm / 4096 % 2)⟩ : Pts).num := by
  have p0 : pieceI imm 1 11 7 = (⟨0, imm / 2048 % 2, 0, 0, 0, 0⟩ : Pts).num := by
    rw [piece_eq imm 1 11 7 2 2048 128 (by decide) (by decide) (by decide) (by decide) (by decide) (by decide) (by decide)]
    simp only [Pts.num]; omega
  have q0 : bits .or .i64 (⟨0, 0, 0, rs1, rs2, 0⟩ : Pts).num (⟨0, imm / 2048 % 2, 0, 0, 0, 0⟩ : Pts).num = (⟨0, imm / 2048 % 2, 0, rs1, rs2, 0⟩ : Pts).num := by
    refine (or_pt _ _ _ _ _ _ _ _ _ _ _ _ (by constructor <;> dsimp only <;> omega) (by constructor <;> dsimp only <;> omega) (or_c _ _ (by omega) (by omega) (by omega) (by omega) (by omega)) (or_c _ _ (by omega) (by omega) (by omega) (by omega) (by omega)) (or_c _ _ (by omega) (by omega) (by omega) (by omega) (by omega)) (or_c _ _ (by omega) (by omega) (by omega) (by omega) (by omega)) (or_c _ _ (by omega) (by omega) (by omega) (by omega) (by omega)) (or_c _ _ (by omega) (by omega) (by omega) (by omega) (by omega))).trans ?_
    simp only [Pts.num]; omega
  have p1 : pieceI imm 4 1 8 = (⟨0, 2 * (imm / 2 % 16), 0, 0, 0, 0⟩ : Pts).num := by
    rw [piece_eq imm 4 1 8 16 2 256 (by decide) (by decide) (by decide) (by decide) (by decide) (by decide) (by decide)]
    simp only [Pts.num]; omega
  have q1 : bits .or .i64 (⟨0, imm / 2048 % 2, 0, rs1, rs2, 0⟩ : Pts).num (⟨0, 2 * (imm / 2 % 16), 0, 0, 0, 0⟩ : Pts).num = (⟨0, imm / 2048 % 2 + 2 * (imm / 2 % 16), 0, rs1, rs2, 0⟩ : Pts).num := by
    refine (or_pt _ _ _ _ _ _ _ _ _ _ _ _ (by constructor <;> dsimp only <;> omega) (by constructor <;> dsimp only <;> omega) (or_c _ _ (by omega) (by omega) (by omega) (by omega) (by omega)) (or_lo 1 (by decide) 2 rfl _ _ (by omega) (by omega) (by omega) (by omega)) (or_c _ _ (by omega) (by omega) (by omega) (by omega) (by omega)) (or_c _ _ (by omega) (by omega) (by omega) (by omega) (by omega)) (or_c _ _ (by omega) (by omega) (by omega) (by omega) (by omega)) (or_c _ _ (by omega) (by omega) (by omega) (by omega) (by omega))).trans ?_
    simp only [Pts.num]; omega
  have p2 : pieceI imm 6 5 25 = (⟨0, 0, 0, 0, 0, imm / 32 % 64⟩ : Pts).num := by
    rw [piece_eq imm 6 5 25 64 32 33554432 (by decide) (by decide) (by decide) (by decide) (by decide) (by decide) (by decide)]
    simp only [Pts.num]; omega
  have q2 : bits .or .i64 (⟨0, imm / 2048 % 2 + 2 * (imm / 2 % 16), 0, rs1, rs2, 0⟩ : Pts).num (⟨0, 0, 0, 0, 0, imm / 32 % 64⟩ : Pts).num = (⟨0, imm / 2048 % 2 + 2 * (imm / 2 % 16), 0, rs1, rs2, imm / 32 % 64⟩ : Pts).num := by
    refine (or_pt _ _ _ _ _ _ _ _ _ _ _ _ (by constructor <;> dsimp only <;> omega) (by constructor <;> dsimp only <;> omega) (or_c _ _ (by omega) (by omega) (by omega) (by omega) (by omega)) (or_c _ _ (by omega) (by omega) (by omega) (by omega) (by omega)) (or_c _ _ (by omega) (by omega) (by omega) (by omega) (by omega)) (or_c _ _ (by omega) (by omega) (by omega) (by omega) (by omega)) (or_c _ _ (by omega) (by omega) (by omega) (by omega) (by omega)) (or_c _ _ (by omega) (by omega) (by omega) (by omega) (by omega))).trans ?_
    simp only [Pts.num]; omega
  have p3 : pieceI imm 1 12 31 = (⟨0, 0, 0, 0, 0, 64 * (imm / 4096 % 2)⟩ : Pts).num := by
    rw [piece_eq imm 1 12 31 2 4096 2147483648 (by decide) (by decide) (by decide) (by decide) (by decide) (by decide) (by decide)]
    simp only [Pts.num]; omega
  have q3 : bits .or .i64 (⟨0, imm / 2048 % 2 + 2 * (imm / 2 % 16), 0, rs1, rs2, imm / 32 % 64⟩ : Pts).num (⟨0, 0, 0, 0, 0, 64 * (imm / 4096 % 2)⟩ : Pts).num = (⟨0, imm / 2048 % 2 + 2 * (imm / 2 % 16), 0, rs1, rs2, imm / 32 % 64 + 64 * (imm / 4096 % 2)⟩ : Pts).num := by
    refine (or_pt _ _ _ _ _ _ _ _ _ _ _ _ (by constructor <;> dsimp only <;> omega) (by constructor <;> dsimp only <;> omega) (or_c _ _ (by omega) (by omega) (by omega) (by omega) (by omega)) (or_c _ _ (by omega) (by omega) (by omega) (by omega) (by omega)) (or_c _ _ (by omega) (by omega) (by omega) (by omega) (by omega)) (or_c _ _ (by omega) (by omega) (by omega) (by omega) (by omega)) (or_c _ _ (by omega) (by omega) (by omega) (by omega) (by omega)) (or_lo 6 (by decide) 64 rfl _ _ (by omega) (by omega) (by omega) (by omega))).trans ?_
    simp only [Pts.num]; omega
  have z : bits .or .i64 (⟨A, 0, B, 0, 0, 0⟩ : Pts).num (⟨0, imm / 2048 % 2 + 2 * (imm / 2 % 16), 0, rs1, rs2, imm / 32 % 64 + 64 * (imm / 4096 % 2)⟩ : Pts).num = (⟨A, imm / 2048 % 2 + 2 * (imm / 2 % 16), B, rs1, rs2, imm / 32 % 64 + 64 * (imm / 4096 % 2)⟩ : Pts).num := by
    refine (or_pt _ _ _ _ _ _ _ _ _ _ _ _ (by constructor <;> dsimp only <;> omega) (by constructor <;> dsimp only <;> omega) (or_c _ _ (by omega) (by omega) (by omega) (by omega) (by omega)) (or_c _ _ (by omega) (by omega) (by omega) (by omega) (by omega)) (or_c _ _ (by omega) (by omega) (by omega) (by omega) (by omega)) (or_c _ _ (by omega) (by omega) (by omega) (by omega) (by omega)) (or_c _ _ (by omega) (by omega) (by omega) (by omega) (by omega)) (or_c _ _ (by omega) (by omega) (by omega) (by omega) (by omega))).trans ?_
    simp only [Pts.num]; omega
  unfold orI
  rw [regs_num 0 rs1 rs2 (by omega) (by omega) (by omega) (by omega) (by omega) (by omega)]
  rw [p0, q0, p1, q1, p2, q2, p3, q3]
  exact z
set_option maxHeartbeats 1000000 in
theorem enc_sum5 (A : Int) (a0 : 0 ≤ A) (a1 : A < 128) (rd : Int) (hrd0 : 0 ≤ rd) (hrd1 : rd < 32) (imm : Int) : orI (⟨A, 0, 0, 0, 0, 0⟩ : Pts).num (orI (orI (orI (orI (regsI rd 0 0) (pieceI imm 8 12 12)) (pieceI imm 1 11 20)) (pieceI imm 10 1 21)) (pieceI imm 1 20 31)) = (⟨A, rd, imm / 4096 % 8, imm / 32768 % 32, imm / 2048 % 2 + 2 * (imm / 2 % 16), imm / 32 % 64 + 64 * (imm / 1048576 % 2)⟩ : Pts).num := by
  have p0 : pieceI imm 8 12 12 = (⟨0, 0, imm / 4096 % 8, imm / 32768 % 32, 0, 0⟩ : Pts).num := by
    rw [piece_eq imm 8 12 12 256 4096 4096 (by decide) (by decide) (by decide) (by decide) (by decide) (by decide) (by decide)]
    simp only [Pts.num]; omega
  have q0 : bits .or .i64 (⟨0, rd, 0, 0, 0, 0⟩ : Pts).num (⟨0, 0, imm / 4096 % 8, imm / 32768 % 32, 0, 0⟩ : Pts).num = (⟨0, rd, imm / 4096 % 8, imm / 32768 % 32, 0, 0⟩ : Pts).num := by
    refine (or_pt _ _ _ _ _ _ _ _ _ _ _ _ (by constructor <;> dsimp only <;> omega) (by constructor <;> dsimp only <;> omega) (or_c _ _ (by omega) (by omega) (by omega) (by omega) (by omega)) (or_c _ _ (by omega) (by omega) (by omega) (by omega) (by omega)) (or_c _ _ (by omega) (by omega) (by omega) (by omega) (by omega)) (or_c _ _ (by omega) (by omega) (by omega) (by omega) (by omega)) (or_c _ _ (by omega) (by omega) (by omega) (by omega) (by omega)) (or_c _ _ (by omega) (by omega) (by omega) (by omega) (by omega))).trans ?_
    simp only [Pts.num]; omega
  have p1 : pieceI imm 1 11 20 = (⟨0, 0, 0, 0, imm / 2048 % 2, 0⟩ : Pts).num := by
    rw [piece_eq imm 1 11 20 2 2048 1048576 (by decide) (by decide) (by decide) (by decide) (by decide) (by decide) (by decide)]
    simp only [Pts.num]; omega
  have q1 : bits .or .i64 (⟨0, rd, imm / 4096 % 8, imm / 32768 % 32, 0, 0⟩ : Pts).num (⟨0, 0, 0, 0, imm / 2048 % 2, 0⟩ : Pts).num = (⟨0, rd, imm / 4096 % 8, imm / 32768 % 32, imm / 2048 % 2, 0⟩ : Pts).num := by
    refine (or_pt _ _ _ _ _ _ _ _ _ _ _ _ (by constructor <;> dsimp only <;> omega) (by constructor <;> dsimp only <;> omega) (or_c _ _ (by omega) (by omega) (by omega) (by omega) (by omega)) (or_c _ _ (by omega) (by omega) (by omega) (by omega) (by omega)) (or_c _ _ (by omega) (by omega) (by omega) (by omega) (by omega)) (or_c _ _ (by omega) (by omega) (by omega) (by omega) (by omega)) (or_c _ _ (by omega) (by omega) (by omega) (by omega) (by omega)) (or_c _ _ (by omega) (by omega) (by omega) (by omega) (by omega))).trans ?_
    simp only [Pts.num]; omega
  have p2 : pieceI imm 10 1 21 = (⟨0, 0, 0, 0, 2 * (imm / 2 % 16), imm / 32 % 64⟩ : Pts).num := by
    rw [piece_eq imm 10 1 21 1024 2 2097152 (by decide) (by decide) (by decide) (by decide) (by decide) (by decide) (by decide)]
    simp only [Pts.num]; omega
  have q2 : bits .or .i64 (⟨0, rd, imm / 4096 % 8, imm / 32768 % 32, imm / 2048 % 2, 0⟩ : Pts).num (⟨0, 0, 0, 0, 2 * (imm / 2 % 16), imm / 32 % 64⟩ : Pts).num = (⟨0, rd, imm / 4096 % 8, imm / 32768 % 32, imm / 2048 % 2 + 2 * (imm / 2 % 16), imm / 32 % 64⟩ : Pts).num := by
    refine (or_pt _ _ _ _ _ _ _ _ _ _ _ _ (by constructor <;> dsimp only <;> omega) (by constructor <;> dsimp only <;> omega) (or_c _ _ (by omega) (by omega) (by omega) (by omega) (by omega)) (or_c _ _ (by omega) (by omega) (by omega) (by omega) (by omega)) (or_c _ _ (by omega) (by omega) (by omega) (by omega) (by omega)) (or_c _ _ (by omega) (by omega) (by omega) (by omega) (by omega)) (or_lo 1 (by decide) 2 rfl _ _ (by omega) (by omega) (by omega) (by omega)) (or_c _ _ (by omega) (by omega) (by omega) (by omega) (by omega))).trans ?_
    simp only [Pts.num]; omega
  have p3 : pieceI imm 1 20 31 = (⟨0, 0, 0, 0, 0, 64 * (imm / 1048576 % 2)⟩ : Pts).num := by
    rw [piece_eq imm 1 20 31 2 1048576 2147483648 (by decide) (by decide) (by decide) (by decide) (by decide) (by decide) (by decide)]
    simp only [Pts.num]; omega
  have q3 : bits .or .i64 (⟨0, rd, imm / 4096 % 8, imm / 32768 % 32, imm / 2048 % 2 + 2 * (imm / 2 % 16), imm / 32 % 64⟩ : Pts).num (⟨0, 0, 0, 0, 0, 64 * (imm / 1048576 % 2)⟩ : Pts).num = (⟨0, rd, imm / 4096 % 8, imm / 32768 % 32, imm / 2048 % 2 + 2 * (imm / 2 % 16), imm / 32 % 64 + 64 * (imm / 1048576 % 2)⟩ : Pts).num := by
    refine (or_pt _ _ _ _ _ _ _ _ _ _ _ _ (by constructor <;> dsimp only <;> omega) (by constructor <;> dsimp only <;> omega) (or_c _ _ (by omega) (by omega) (by omega) (by omega) (by omega)) (or_c _ _ (by omega) (by omega) (by omega) (by omega) (by omega)) (or_c _ _ (by omega) (by omega) (by omega) (by omega) (by omega)) (or_c _ _ (by omega) (by omega) (by omega) (by omega) (by omega)) (or_c _ _ (by omega) (by omega) (by omega) (by omega) (by omega)) (or_lo 6 (by decide) 64 rfl _ _ (by omega) (by omega) (by omega) (by omega))).trans ?_
    simp only [Pts.num]; omega
  have z : bits .or .i64 (⟨A, 0, 0, 0, 0, 0⟩ : Pts).num (⟨0, rd, imm / 4096 % 8, imm / 32768 % 32, imm / 2048 % 2 + 2 * (imm / 2 % 16), imm / 32 % 64 + 64 * (imm / 1048576 % 2)⟩ : Pts).num = (⟨A, rd, imm / 4096 % 8, imm / 32768 % 32, imm / 2048 % 2 + 2 * (imm / 2 % 16), imm / 32 % 64 + 64 * (imm / 1048576 % 2)⟩ : Pts).num := by
    refine (or_pt _ _ _ _ _ _ _ _ _ _ _ _ (by constructor <;> dsimp only <;> omega) (by constructor <;> dsimp only <;> omega) (or_c _ _ (by omega) (by omega) (by omega) (by omega) (by omega)) (or_c _ _ (by omega) (by omega) (by omega) (by omega) (by omega)) (or_c _ _ (by omega) (by omega) (by omega) (by omega) (by omega)) (or_c _ _ (by omega) (by omega) (by omega) (by omega) (by omega)) (or_c _ _ (by omega) (by omega) (by omega) (by omega) (by omega)) (or_c _ _ (by omega) (by omega) (by omega) (by omega) (by omega))).trans ?_
    simp only [Pts.num]; omega
  unfold orI
  rw [regs_num rd 0 0 (by omega) (by omega) (by omega) (by omega) (by omega) (by omega)]
  rw [p0, q0, p1, q1, p2, q2, p3, q3]
  exact z
set_option maxHeartbeats 1000000 in
theorem enc_sum6 (A : Int) (a0 : 0 ≤ A) (a1 : A < 128) (rd : Int) (hrd0 : 0 ≤ rd) (hrd1 : rd < 32) (imm : Int) : orI (⟨A, 0, 0, 0, 0, 0⟩ : Pts).num (orI (orI (orI (orI (regsI rd 0 0) (pieceI imm 20 0 12)) (pieceI imm 0 0 0)) (pieceI imm 0 0 0)) (pieceI imm 0 0 0)) = (⟨A, rd, imm % 8, imm / 8 % 32, imm / 256 % 32, imm / 8192 % 128⟩ : Pts).num := by
  have p0 : pieceI imm 20 0 12 = (⟨0, 0, imm % 8, imm / 8 % 32, imm / 256 % 32, imm / 8192 % 128⟩ : Pts).num := by
    rw [piece_eq imm 20 0 12 1048576 1 4096 (by decide) (by decide) (by decide) (by decide) (by decide) (by decide) (by decide)]
    simp only [Pts.num]; omega
  have q0 : bits .or .i64 (⟨0, rd, 0, 0, 0, 0⟩ : Pts).num (⟨0, 0, imm % 8, imm / 8 % 32, imm / 256 % 32, imm / 8192 % 128⟩ : Pts).num = (⟨0, rd, imm % 8, imm / 8 % 32, imm / 256 % 32, imm / 8192 % 128⟩ : Pts).num := by
    refine (or_pt _ _ _ _ _ _ _ _ _ _ _ _ (by constructor <;> dsimp only <;> omega) (by constructor <;> dsimp only <;> omega) (or_c _ _ (by omega) (by omega) (by omega) (by omega) (by omega)) (or_c _ _ (by omega) (by omega) (by omega) (by omega) (by omega)) (or_c _ _ (by omega) (by omega) (by omega) (by omega) (by omega)) (or_c _ _ (by omega) (by omega) (by omega) (by omega) (by omega)) (or_c _ _ (by omega) (by omega) (by omega) (by omega) (by omega)) (or_c _ _ (by omega) (by omega) (by omega) (by omega) (by omega))).trans ?_
    simp only [Pts.num]; omega
  have z : bits .or .i64 (⟨A, 0, 0, 0, 0, 0⟩ : Pts).num (⟨0, rd, imm % 8, imm / 8 % 32, imm / 256 % 32, imm / 8192 % 128⟩ : Pts).num = (⟨A, rd, imm % 8, imm / 8 % 32, imm / 256 % 32, imm / 8192 % 128⟩ : Pts).num := by
    refine (or_pt _ _ _ _ _ _ _ _ _ _ _ _ (by constructor <;> dsimp only <;> omega) (by constructor <;> dsimp only <;> omega) (or_c _ _ (by omega) (by omega) (by omega) (by omega) (by omega)) (or_c _ _ (by omega) (by omega) (by omega) (by omega) (by omega)) (or_c _ _ (by omega) (by omega) (by omega) (by omega) (by omega)) (or_c _ _ (by omega) (by omega) (by omega) (by omega) (by omega)) (or_c _ _ (by omega) (by omega) (by omega) (by omega) (by omega)) (or_c _ _ (by omega) (by omega) (by omega) (by omega) (by omega))).trans ?_
    simp only [Pts.num]; omega
  unfold orI
  rw [regs_num rd 0 0 (by omega) (by omega) (by omega) (by omega) (by omega) (by omega)]
  rw [p0, q0]
  rw [piece_none, num_r _ (by constructor <;> dsimp only <;> omega)]
  rw [num_r _ (by constructor <;> dsimp only <;> omega)]
  rw [num_r _ (by constructor <;> dsimp only <;> omega)]
  exact z
set_option maxHeartbeats 1000000 in
theorem enc_sum7 (A : Int) (a0 : 0 ≤ A) (a1 : A < 128) (imm : Int) : orI (⟨A, 0, 0, 0, 0, 0⟩ : Pts).num (orI (orI (orI (orI (regsI 0 0 0) (pieceI imm 0 0 0)) (pieceI imm 0 0 0)) (pieceI imm 0 0 0)) (pieceI imm 0 0 0)) = (⟨A, 0, 0, 0, 0, 0⟩ : Pts).num := by
  have z : bits .or .i64 (⟨A, 0, 0, 0, 0, 0⟩ : Pts).num (⟨0, 0, 0, 0, 0, 0⟩ : Pts).num = (⟨A, 0, 0, 0, 0, 0⟩ : Pts).num := by
    refine (or_pt _ _ _ _ _ _ _ _ _ _ _ _ (by constructor <;> dsimp only <;> omega) (by constructor <;> dsimp only <;> omega) (or_c _ _ (by omega) (by omega) (by omega) (by omega) (by omega)) (or_c _ _ (by omega) (by omega) (by omega) (by omega) (by omega)) (or_c _ _ (by omega) (by omega) (by omega) (by omega) (by omega)) (or_c _ _ (by omega) (by omega) (by omega) (by omega) (by omega)) (or_c _ _ (by omega) (by omega) (by omega) (by omega) (by omega)) (or_c _ _ (by omega) (by omega) (by omega) (by omega) (by omega))).trans ?_
    simp only [Pts.num]; omega
  unfold orI
  rw [regs_num 0 0 0 (by omega) (by omega) (by omega) (by omega) (by omega) (by omega)]
  rw [piece_none, num_r _ (by constructor <;> dsimp only <;> omega)]
  rw [num_r _ (by constructor <;> dsimp only <;> omega)]
  rw [num_r _ (by constructor <;> dsimp only <;> omega)]
  rw [num_r _ (by constructor <;> dsimp only <;> omega)]
  exact z
end Go.Proofs.YtapjfiihfgndeaaDoor
