/- What the document's RvOf gathers out of a word, bit by bit (mathematics). No program is walked. -/
import Derived.Test.YtndogdojcbcjgaaDoorXRvHw
namespace Go.Proofs.YtndogdojcbcjgaaDoor
open Go Go.RowKit

structure Acc where
  rd : Int
  rs1 : Int
  rs2 : Int
  imm : Int
  top : Int
/-- One bit more. -/
def accStep (c b : Int) (a : Acc) : Acc :=
  if c < 100 then ⟨a.rd, a.rs1, a.rs2, a.imm + b * 2 ^ c.toNat, if a.top < c then c else a.top⟩
  else if c < 110 then ⟨a.rd + b * 2 ^ (c - 100).toNat, a.rs1, a.rs2, a.imm, a.top⟩
  else if c < 120 then ⟨a.rd, a.rs1 + b * 2 ^ (c - 110).toNat, a.rs2, a.imm, a.top⟩
  else if c < 130 then ⟨a.rd, a.rs1, a.rs2 + b * 2 ^ (c - 120).toNat, a.imm, a.top⟩ else a
def acc (s : Nat) (w : Int) : Nat → Acc
  | 0 => ⟨0, 0, 0, 0, -1⟩
  | i + 1 => accStep (layT s i) (bitI w i) (acc s w i)
structure AccOk (a : Acc) (i : Nat) : Prop where
  d0 : 0 ≤ a.rd
  d1 : a.rd ≤ i * 1048576
  a0 : 0 ≤ a.rs1
  a1 : a.rs1 ≤ i * 1048576
  b0 : 0 ≤ a.rs2
  b1 : a.rs2 ≤ i * 1048576
  i0 : 0 ≤ a.imm
  i1 : a.imm ≤ i * 1048576
  t0 : -1 ≤ a.top
  t1 : a.top ≤ 20
theorem bitmul (b : Int) (n : Nat) (h0 : 0 ≤ b) (h1 : b ≤ 1) (hn : n ≤ 20) : 0 ≤ b * 2 ^ n ∧ b * 2 ^ n ≤ 1048576 := by
  have e : (2 : Int) ^ n = ((2 ^ n : Nat) : Int) := by simp
  have hp : 2 ^ n ≤ 2 ^ 20 := Nat.pow_le_pow_right (by decide) hn
  rw [e]
  generalize 2 ^ n = q at *
  have hq : q ≤ 1048576 := hp
  rcases (show b = 0 ∨ b = 1 by omega) with rfl | rfl <;> omega
theorem lay_cl (s j : Nat) (hs : s < 8) (hj : j < 32) : (0 ≤ layT s j ∧ layT s j ≤ 20) ∨ (100 ≤ layT s j ∧ layT s j < 105) ∨ (110 ≤ layT s j ∧ layT s j < 115) ∨ (120 ≤ layT s j ∧ layT s j < 125) ∨ (130 ≤ layT s j ∧ layT s j < 157) := by
  have key : ∀ (s : Fin 8) (j : Fin 32), (0 ≤ layT s j ∧ layT s j ≤ 20) ∨ (100 ≤ layT s j ∧ layT s j < 105) ∨ (110 ≤ layT s j ∧ layT s j < 115) ∨ (120 ≤ layT s j ∧ layT s j < 125) ∨ (130 ≤ layT s j ∧ layT s j < 157) := by decide +kernel
  exact key ⟨s, hs⟩ ⟨j, hj⟩
theorem acc_ok (s : Nat) (hs : s < 8) (w : Int) : ∀ i, i ≤ 32 → AccOk (acc s w i) i := by
  intro i
  induction i with
  | zero => intro _; exact ⟨by simp [acc], by simp [acc], by simp [acc], by simp [acc], by simp [acc], by simp [acc], by simp [acc], by simp [acc], by simp [acc], by simp [acc]⟩
  | succ i ih =>
    intro hi
    obtain ⟨d0, d1, a0, a1, b0, b1, i0, i1, t0, t1⟩ := ih (by omega)
    have hc := lay_cl s i hs (by omega)
    have hb := bitI_bounds w i
    unfold acc accStep
    generalize layT s i = c at *
    generalize bitI w i = b at *
    by_cases h1 : c < 100
    · rw [if_pos h1]
      have := bitmul b c.toNat hb.1 hb.2 (by omega)
      refine ⟨?_, ?_, ?_, ?_, ?_, ?_, ?_, ?_, ?_, ?_⟩ <;> dsimp only <;> first | omega | (split <;> omega)
    rw [if_neg h1]
    by_cases h2 : c < 110
    · rw [if_pos h2]
      have := bitmul b (c - 100).toNat hb.1 hb.2 (by omega)
      refine ⟨?_, ?_, ?_, ?_, ?_, ?_, ?_, ?_, ?_, ?_⟩ <;> dsimp only <;> omega
    rw [if_neg h2]
    by_cases h3 : c < 120
    · rw [if_pos h3]
      have := bitmul b (c - 110).toNat hb.1 hb.2 (by omega)
      refine ⟨?_, ?_, ?_, ?_, ?_, ?_, ?_, ?_, ?_, ?_⟩ <;> dsimp only <;> omega
    rw [if_neg h3]
    by_cases h4 : c < 130
    · rw [if_pos h4]
      have := bitmul b (c - 120).toNat hb.1 hb.2 (by omega)
      refine ⟨?_, ?_, ?_, ?_, ?_, ?_, ?_, ?_, ?_, ?_⟩ <;> dsimp only <;> omega
    rw [if_neg h4]
    refine ⟨?_, ?_, ?_, ?_, ?_, ?_, ?_, ?_, ?_, ?_⟩ <;> omega
/-- The instruction that is gathered for an op. -/
def refX (s k : Nat) (w : Int) : Mi :=
  if s = 7 then ⟨k, 0, 0, 0, 0⟩
  else ⟨k, (acc s w 32).rd, (acc s w 32).rs1, (acc s w 32).rs2, if s ≠ 2 ∧ 0 ≤ (acc s w 32).top ∧ 2 ^ (acc s w 32).top.toNat ≤ (acc s w 32).imm then (acc s w 32).imm - 2 * 2 ^ (acc s w 32).top.toNat else (acc s w 32).imm⟩
theorem acc0 (w : Int) : acc 0 w 32 = ⟨(((((0 + bitI w 7 * 2 ^ 0) + bitI w 8 * 2 ^ 1) + bitI w 9 * 2 ^ 2) + bitI w 10 * 2 ^ 3) + bitI w 11 * 2 ^ 4), (((((0 + bitI w 15 * 2 ^ 0) + bitI w 16 * 2 ^ 1) + bitI w 17 * 2 ^ 2) + bitI w 18 * 2 ^ 3) + bitI w 19 * 2 ^ 4), (((((0 + bitI w 20 * 2 ^ 0) + bitI w 21 * 2 ^ 1) + bitI w 22 * 2 ^ 2) + bitI w 23 * 2 ^ 3) + bitI w 24 * 2 ^ 4), 0, -1⟩ := by kernel_rfl
theorem acc1 (w : Int) : acc 1 w 32 = ⟨(((((0 + bitI w 7 * 2 ^ 0) + bitI w 8 * 2 ^ 1) + bitI w 9 * 2 ^ 2) + bitI w 10 * 2 ^ 3) + bitI w 11 * 2 ^ 4), (((((0 + bitI w 15 * 2 ^ 0) + bitI w 16 * 2 ^ 1) + bitI w 17 * 2 ^ 2) + bitI w 18 * 2 ^ 3) + bitI w 19 * 2 ^ 4), 0, ((((((((((((0 + bitI w 20 * 2 ^ 0) + bitI w 21 * 2 ^ 1) + bitI w 22 * 2 ^ 2) + bitI w 23 * 2 ^ 3) + bitI w 24 * 2 ^ 4) + bitI w 25 * 2 ^ 5) + bitI w 26 * 2 ^ 6) + bitI w 27 * 2 ^ 7) + bitI w 28 * 2 ^ 8) + bitI w 29 * 2 ^ 9) + bitI w 30 * 2 ^ 10) + bitI w 31 * 2 ^ 11), 11⟩ := by kernel_rfl
theorem acc2 (w : Int) : acc 2 w 32 = ⟨(((((0 + bitI w 7 * 2 ^ 0) + bitI w 8 * 2 ^ 1) + bitI w 9 * 2 ^ 2) + bitI w 10 * 2 ^ 3) + bitI w 11 * 2 ^ 4), (((((0 + bitI w 15 * 2 ^ 0) + bitI w 16 * 2 ^ 1) + bitI w 17 * 2 ^ 2) + bitI w 18 * 2 ^ 3) + bitI w 19 * 2 ^ 4), 0, ((((((0 + bitI w 20 * 2 ^ 0) + bitI w 21 * 2 ^ 1) + bitI w 22 * 2 ^ 2) + bitI w 23 * 2 ^ 3) + bitI w 24 * 2 ^ 4) + bitI w 25 * 2 ^ 5), 5⟩ := by kernel_rfl
theorem acc3 (w : Int) : acc 3 w 32 = ⟨0, (((((0 + bitI w 15 * 2 ^ 0) + bitI w 16 * 2 ^ 1) + bitI w 17 * 2 ^ 2) + bitI w 18 * 2 ^ 3) + bitI w 19 * 2 ^ 4), (((((0 + bitI w 20 * 2 ^ 0) + bitI w 21 * 2 ^ 1) + bitI w 22 * 2 ^ 2) + bitI w 23 * 2 ^ 3) + bitI w 24 * 2 ^ 4), ((((((((((((0 + bitI w 7 * 2 ^ 0) + bitI w 8 * 2 ^ 1) + bitI w 9 * 2 ^ 2) + bitI w 10 * 2 ^ 3) + bitI w 11 * 2 ^ 4) + bitI w 25 * 2 ^ 5) + bitI w 26 * 2 ^ 6) + bitI w 27 * 2 ^ 7) + bitI w 28 * 2 ^ 8) + bitI w 29 * 2 ^ 9) + bitI w 30 * 2 ^ 10) + bitI w 31 * 2 ^ 11), 11⟩ := by kernel_rfl
theorem acc4 (w : Int) : acc 4 w 32 = ⟨0, (((((0 + bitI w 15 * 2 ^ 0) + bitI w 16 * 2 ^ 1) + bitI w 17 * 2 ^ 2) + bitI w 18 * 2 ^ 3) + bitI w 19 * 2 ^ 4), (((((0 + bitI w 20 * 2 ^ 0) + bitI w 21 * 2 ^ 1) + bitI w 22 * 2 ^ 2) + bitI w 23 * 2 ^ 3) + bitI w 24 * 2 ^ 4), ((((((((((((0 + bitI w 7 * 2 ^ 11) + bitI w 8 * 2 ^ 1) + bitI w 9 * 2 ^ 2) + bitI w 10 * 2 ^ 3) + bitI w 11 * 2 ^ 4) + bitI w 25 * 2 ^ 5) + bitI w 26 * 2 ^ 6) + bitI w 27 * 2 ^ 7) + bitI w 28 * 2 ^ 8) + bitI w 29 * 2 ^ 9) + bitI w 30 * 2 ^ 10) + bitI w 31 * 2 ^ 12), 12⟩ := by kernel_rfl
theorem acc5 (w : Int) : acc 5 w 32 = ⟨(((((0 + bitI w 7 * 2 ^ 0) + bitI w 8 * 2 ^ 1) + bitI w 9 * 2 ^ 2) + bitI w 10 * 2 ^ 3) + bitI w 11 * 2 ^ 4), 0, 0, ((((((((((((((((((((0 + bitI w 12 * 2 ^ 12) + bitI w 13 * 2 ^ 13) + bitI w 14 * 2 ^ 14) + bitI w 15 * 2 ^ 15) + bitI w 16 * 2 ^ 16) + bitI w 17 * 2 ^ 17) + bitI w 18 * 2 ^ 18) + bitI w 19 * 2 ^ 19) + bitI w 20 * 2 ^ 11) + bitI w 21 * 2 ^ 1) + bitI w 22 * 2 ^ 2) + bitI w 23 * 2 ^ 3) + bitI w 24 * 2 ^ 4) + bitI w 25 * 2 ^ 5) + bitI w 26 * 2 ^ 6) + bitI w 27 * 2 ^ 7) + bitI w 28 * 2 ^ 8) + bitI w 29 * 2 ^ 9) + bitI w 30 * 2 ^ 10) + bitI w 31 * 2 ^ 20), 20⟩ := by kernel_rfl
theorem acc6 (w : Int) : acc 6 w 32 = ⟨(((((0 + bitI w 7 * 2 ^ 0) + bitI w 8 * 2 ^ 1) + bitI w 9 * 2 ^ 2) + bitI w 10 * 2 ^ 3) + bitI w 11 * 2 ^ 4), 0, 0, ((((((((((((((((((((0 + bitI w 12 * 2 ^ 0) + bitI w 13 * 2 ^ 1) + bitI w 14 * 2 ^ 2) + bitI w 15 * 2 ^ 3) + bitI w 16 * 2 ^ 4) + bitI w 17 * 2 ^ 5) + bitI w 18 * 2 ^ 6) + bitI w 19 * 2 ^ 7) + bitI w 20 * 2 ^ 8) + bitI w 21 * 2 ^ 9) + bitI w 22 * 2 ^ 10) + bitI w 23 * 2 ^ 11) + bitI w 24 * 2 ^ 12) + bitI w 25 * 2 ^ 13) + bitI w 26 * 2 ^ 14) + bitI w 27 * 2 ^ 15) + bitI w 28 * 2 ^ 16) + bitI w 29 * 2 ^ 17) + bitI w 30 * 2 ^ 18) + bitI w 31 * 2 ^ 19), 19⟩ := by kernel_rfl

/-- A bit of a word's part. -/
theorem part_bits (w : Int) : w / 128 % 32 = bitI w 7 + 2 * bitI w 8 + 4 * bitI w 9 + 8 * bitI w 10 + 16 * bitI w 11 ∧ w / 4096 % 8 = bitI w 12 + 2 * bitI w 13 + 4 * bitI w 14 ∧ w / 32768 % 32 = bitI w 15 + 2 * bitI w 16 + 4 * bitI w 17 + 8 * bitI w 18 + 16 * bitI w 19 ∧ w / 1048576 % 32 = bitI w 20 + 2 * bitI w 21 + 4 * bitI w 22 + 8 * bitI w 23 + 16 * bitI w 24 ∧ w / 33554432 % 128 = bitI w 25 + 2 * bitI w 26 + 4 * bitI w 27 + 8 * bitI w 28 + 16 * bitI w 29 + 32 * bitI w 30 + 64 * bitI w 31 :=
  ⟨(low5 (w / 128)).trans (by rw [show bitI w 7 = bitI (w / 128) 0 from bit_shift w 7 0, show bitI w 8 = bitI (w / 128) 1 from bit_shift w 7 1, show bitI w 9 = bitI (w / 128) 2 from bit_shift w 7 2, show bitI w 10 = bitI (w / 128) 3 from bit_shift w 7 3, show bitI w 11 = bitI (w / 128) 4 from bit_shift w 7 4]),
   (low3 (w / 4096)).trans (by rw [show bitI w 12 = bitI (w / 4096) 0 from bit_shift w 12 0, show bitI w 13 = bitI (w / 4096) 1 from bit_shift w 12 1, show bitI w 14 = bitI (w / 4096) 2 from bit_shift w 12 2]),
   (low5 (w / 32768)).trans (by rw [show bitI w 15 = bitI (w / 32768) 0 from bit_shift w 15 0, show bitI w 16 = bitI (w / 32768) 1 from bit_shift w 15 1, show bitI w 17 = bitI (w / 32768) 2 from bit_shift w 15 2, show bitI w 18 = bitI (w / 32768) 3 from bit_shift w 15 3, show bitI w 19 = bitI (w / 32768) 4 from bit_shift w 15 4]),
   (low5 (w / 1048576)).trans (by rw [show bitI w 20 = bitI (w / 1048576) 0 from bit_shift w 20 0, show bitI w 21 = bitI (w / 1048576) 1 from bit_shift w 20 1, show bitI w 22 = bitI (w / 1048576) 2 from bit_shift w 20 2, show bitI w 23 = bitI (w / 1048576) 3 from bit_shift w 20 3, show bitI w 24 = bitI (w / 1048576) 4 from bit_shift w 20 4]),
   (low7 (w / 33554432)).trans (by rw [show bitI w 25 = bitI (w / 33554432) 0 from bit_shift w 25 0, show bitI w 26 = bitI (w / 33554432) 1 from bit_shift w 25 1, show bitI w 27 = bitI (w / 33554432) 2 from bit_shift w 25 2, show bitI w 28 = bitI (w / 33554432) 3 from bit_shift w 25 3, show bitI w 29 = bitI (w / 33554432) 4 from bit_shift w 25 4, show bitI w 30 = bitI (w / 33554432) 5 from bit_shift w 25 5, show bitI w 31 = bitI (w / 33554432) 6 from bit_shift w 25 6])⟩

set_option maxHeartbeats 4000000 in
theorem ref_inst (s k : Nat) (hs : s < 8) (w : Int) (w0 : 0 ≤ w) (w1 : w < 4294967296) (hf : fitsB s (instQ s k (partsOf w)) = true) : refX s k w = instQ s k (partsOf w) := by
  obtain ⟨q1, q2, q3, q4, q5⟩ := part_bits w
  have h25 : w / 33554432 % 2 = bitI w 25 := rfl
  have h7 : w / 128 % 2 = bitI w 7 := rfl
  have h20 : w / 1048576 % 2 = bitI w 20 := rfl
  have h31 : w / 2147483648 % 2 = bitI w 31 := rfl
  have h8 : w / 256 % 16 = bitI w 8 + 2 * bitI w 9 + 4 * bitI w 10 + 8 * bitI w 11 := (low4 (w / 256)).trans (by rw [show bitI w 8 = bitI (w / 256) 0 from bit_shift w 8 0, show bitI w 9 = bitI (w / 256) 1 from bit_shift w 8 1, show bitI w 10 = bitI (w / 256) 2 from bit_shift w 8 2, show bitI w 11 = bitI (w / 256) 3 from bit_shift w 8 3])
  have h21 : w / 2097152 % 16 = bitI w 21 + 2 * bitI w 22 + 4 * bitI w 23 + 8 * bitI w 24 := (low4 (w / 2097152)).trans (by rw [show bitI w 21 = bitI (w / 2097152) 0 from bit_shift w 21 0, show bitI w 22 = bitI (w / 2097152) 1 from bit_shift w 21 1, show bitI w 23 = bitI (w / 2097152) 2 from bit_shift w 21 2, show bitI w 24 = bitI (w / 2097152) 3 from bit_shift w 21 3])
  have h26 : w / 33554432 % 64 = bitI w 25 + 2 * bitI w 26 + 4 * bitI w 27 + 8 * bitI w 28 + 16 * bitI w 29 + 32 * bitI w 30 := (low6h (w / 33554432)).trans (by rw [show bitI w 25 = bitI (w / 33554432) 0 from bit_shift w 25 0, show bitI w 26 = bitI (w / 33554432) 1 from bit_shift w 25 1, show bitI w 27 = bitI (w / 33554432) 2 from bit_shift w 25 2, show bitI w 28 = bitI (w / 33554432) 3 from bit_shift w 25 3, show bitI w 29 = bitI (w / 33554432) 4 from bit_shift w 25 4, show bitI w 30 = bitI (w / 33554432) 5 from bit_shift w 25 5])
  rw [fits_iff] at hf
  rcases eight s hs with rfl | rfl | rfl | rfl | rfl | rfl | rfl | rfl
  · unfold refX; rw [acc0]; simp [instQ, shF, shL, immS, immR, partsOf]; omega
  · have hN : ((((((((((((0 + bitI w 20 * 2 ^ 0) + bitI w 21 * 2 ^ 1) + bitI w 22 * 2 ^ 2) + bitI w 23 * 2 ^ 3) + bitI w 24 * 2 ^ 4) + bitI w 25 * 2 ^ 5) + bitI w 26 * 2 ^ 6) + bitI w 27 * 2 ^ 7) + bitI w 28 * 2 ^ 8) + bitI w 29 * 2 ^ 9) + bitI w 30 * 2 ^ 10) + bitI w 31 * 2 ^ 11) = immR 1 (partsOf w) := by simp only [immR, partsOf]; omega
    unfold refX
    rw [if_neg (by decide), acc1]
    dsimp only
    rw [hN]
    clear hN
    have h7 : -2048 ≤ immS 1 (partsOf w) := hf.2.2.2.2.2.2.1
    have hi : immS 1 (partsOf w) = if 2048 ≤ immR 1 (partsOf w) then immR 1 (partsOf w) - 2 * 2048 else immR 1 (partsOf w) := by
      unfold immS at h7 ⊢
      rw [show shF 1 4 = 2047 from rfl, show shF 1 3 = -2048 from rfl] at h7 ⊢
      generalize immR 1 (partsOf w) = n at *
      by_cases hc : (2047 : Int) < n
      · rw [if_pos hc] at h7 ⊢
        rw [if_pos (by omega)]; omega
      · rw [if_neg hc, if_neg (by omega)]
    refine Mi.ext' rfl ?_ ?_ ?_ ?_
    · show (((((0 + bitI w 7 * 2 ^ 0) + bitI w 8 * 2 ^ 1) + bitI w 9 * 2 ^ 2) + bitI w 10 * 2 ^ 3) + bitI w 11 * 2 ^ 4) = w / 128 % 32
      omega
    · show (((((0 + bitI w 15 * 2 ^ 0) + bitI w 16 * 2 ^ 1) + bitI w 17 * 2 ^ 2) + bitI w 18 * 2 ^ 3) + bitI w 19 * 2 ^ 4) = w / 32768 % 32
      omega
    · show 0 = 0
      omega
    · show (if (1 : Nat) ≠ 2 ∧ (0 : Int) ≤ 11 ∧ 2 ^ (11 : Int).toNat ≤ immR 1 (partsOf w) then immR 1 (partsOf w) - 2 * 2 ^ (11 : Int).toNat else immR 1 (partsOf w)) = immS 1 (partsOf w)
      rw [hi]
      have e : (2 : Int) ^ (11 : Int).toNat = 2048 := by decide
      rw [e]
      by_cases hc : (2048 : Int) ≤ immR 1 (partsOf w)
      · rw [if_pos ⟨by decide, by decide, hc⟩, if_pos hc]
      · rw [if_neg (fun h => hc h.2.2), if_neg hc]
  · have hN : ((((((0 + bitI w 20 * 2 ^ 0) + bitI w 21 * 2 ^ 1) + bitI w 22 * 2 ^ 2) + bitI w 23 * 2 ^ 3) + bitI w 24 * 2 ^ 4) + bitI w 25 * 2 ^ 5) = immR 2 (partsOf w) := by simp only [immR, partsOf]; omega
    unfold refX
    rw [if_neg (by decide), acc2]
    dsimp only
    rw [hN]
    clear hN
    rw [if_neg (fun h => h.1 rfl)]
    have hi : immS 2 (partsOf w) = immR 2 (partsOf w) := by unfold immS; rw [if_neg]; simp only [shF, shL, immR, partsOf]; simp; omega
    refine Mi.ext' rfl ?_ ?_ ?_ hi.symm
    · show (((((0 + bitI w 7 * 2 ^ 0) + bitI w 8 * 2 ^ 1) + bitI w 9 * 2 ^ 2) + bitI w 10 * 2 ^ 3) + bitI w 11 * 2 ^ 4) = w / 128 % 32
      omega
    · show (((((0 + bitI w 15 * 2 ^ 0) + bitI w 16 * 2 ^ 1) + bitI w 17 * 2 ^ 2) + bitI w 18 * 2 ^ 3) + bitI w 19 * 2 ^ 4) = w / 32768 % 32
      omega
    · show 0 = 0
      omega
  · have hN : ((((((((((((0 + bitI w 7 * 2 ^ 0) + bitI w 8 * 2 ^ 1) + bitI w 9 * 2 ^ 2) + bitI w 10 * 2 ^ 3) + bitI w 11 * 2 ^ 4) + bitI w 25 * 2 ^ 5) + bitI w 26 * 2 ^ 6) + bitI w 27 * 2 ^ 7) + bitI w 28 * 2 ^ 8) + bitI w 29 * 2 ^ 9) + bitI w 30 * 2 ^ 10) + bitI w 31 * 2 ^ 11) = immR 3 (partsOf w) := by simp only [immR, partsOf]; omega
    unfold refX
    rw [if_neg (by decide), acc3]
    dsimp only
    rw [hN]
    clear hN
    have h7 : -2048 ≤ immS 3 (partsOf w) := hf.2.2.2.2.2.2.1
    have hi : immS 3 (partsOf w) = if 2048 ≤ immR 3 (partsOf w) then immR 3 (partsOf w) - 2 * 2048 else immR 3 (partsOf w) := by
      unfold immS at h7 ⊢
      rw [show shF 3 4 = 2047 from rfl, show shF 3 3 = -2048 from rfl] at h7 ⊢
      generalize immR 3 (partsOf w) = n at *
      by_cases hc : (2047 : Int) < n
      · rw [if_pos hc] at h7 ⊢
        rw [if_pos (by omega)]; omega
      · rw [if_neg hc, if_neg (by omega)]
    refine Mi.ext' rfl ?_ ?_ ?_ ?_
    · show 0 = 0
      omega
    · show (((((0 + bitI w 15 * 2 ^ 0) + bitI w 16 * 2 ^ 1) + bitI w 17 * 2 ^ 2) + bitI w 18 * 2 ^ 3) + bitI w 19 * 2 ^ 4) = w / 32768 % 32
      omega
    · show (((((0 + bitI w 20 * 2 ^ 0) + bitI w 21 * 2 ^ 1) + bitI w 22 * 2 ^ 2) + bitI w 23 * 2 ^ 3) + bitI w 24 * 2 ^ 4) = w / 1048576 % 32
      omega
    · show (if (3 : Nat) ≠ 2 ∧ (0 : Int) ≤ 11 ∧ 2 ^ (11 : Int).toNat ≤ immR 3 (partsOf w) then immR 3 (partsOf w) - 2 * 2 ^ (11 : Int).toNat else immR 3 (partsOf w)) = immS 3 (partsOf w)
      rw [hi]
      have e : (2 : Int) ^ (11 : Int).toNat = 2048 := by decide
      rw [e]
      by_cases hc : (2048 : Int) ≤ immR 3 (partsOf w)
      · rw [if_pos ⟨by decide, by decide, hc⟩, if_pos hc]
      · rw [if_neg (fun h => hc h.2.2), if_neg hc]
  · have hN : ((((((((((((0 + bitI w 7 * 2 ^ 11) + bitI w 8 * 2 ^ 1) + bitI w 9 * 2 ^ 2) + bitI w 10 * 2 ^ 3) + bitI w 11 * 2 ^ 4) + bitI w 25 * 2 ^ 5) + bitI w 26 * 2 ^ 6) + bitI w 27 * 2 ^ 7) + bitI w 28 * 2 ^ 8) + bitI w 29 * 2 ^ 9) + bitI w 30 * 2 ^ 10) + bitI w 31 * 2 ^ 12) = immR 4 (partsOf w) := by simp only [immR, partsOf]; omega
    unfold refX
    rw [if_neg (by decide), acc4]
    dsimp only
    rw [hN]
    clear hN
    have h7 : -4096 ≤ immS 4 (partsOf w) := hf.2.2.2.2.2.2.1
    have hi : immS 4 (partsOf w) = if 4096 ≤ immR 4 (partsOf w) then immR 4 (partsOf w) - 2 * 4096 else immR 4 (partsOf w) := by
      unfold immS at h7 ⊢
      rw [show shF 4 4 = 4092 from rfl, show shF 4 3 = -4096 from rfl] at h7 ⊢
      generalize immR 4 (partsOf w) = n at *
      by_cases hc : (4092 : Int) < n
      · rw [if_pos hc] at h7 ⊢
        rw [if_pos (by omega)]; omega
      · rw [if_neg hc, if_neg (by omega)]
    refine Mi.ext' rfl ?_ ?_ ?_ ?_
    · show 0 = 0
      omega
    · show (((((0 + bitI w 15 * 2 ^ 0) + bitI w 16 * 2 ^ 1) + bitI w 17 * 2 ^ 2) + bitI w 18 * 2 ^ 3) + bitI w 19 * 2 ^ 4) = w / 32768 % 32
      omega
    · show (((((0 + bitI w 20 * 2 ^ 0) + bitI w 21 * 2 ^ 1) + bitI w 22 * 2 ^ 2) + bitI w 23 * 2 ^ 3) + bitI w 24 * 2 ^ 4) = w / 1048576 % 32
      omega
    · show (if (4 : Nat) ≠ 2 ∧ (0 : Int) ≤ 12 ∧ 2 ^ (12 : Int).toNat ≤ immR 4 (partsOf w) then immR 4 (partsOf w) - 2 * 2 ^ (12 : Int).toNat else immR 4 (partsOf w)) = immS 4 (partsOf w)
      rw [hi]
      have e : (2 : Int) ^ (12 : Int).toNat = 4096 := by decide
      rw [e]
      by_cases hc : (4096 : Int) ≤ immR 4 (partsOf w)
      · rw [if_pos ⟨by decide, by decide, hc⟩, if_pos hc]
      · rw [if_neg (fun h => hc h.2.2), if_neg hc]
  · have hN : ((((((((((((((((((((0 + bitI w 12 * 2 ^ 12) + bitI w 13 * 2 ^ 13) + bitI w 14 * 2 ^ 14) + bitI w 15 * 2 ^ 15) + bitI w 16 * 2 ^ 16) + bitI w 17 * 2 ^ 17) + bitI w 18 * 2 ^ 18) + bitI w 19 * 2 ^ 19) + bitI w 20 * 2 ^ 11) + bitI w 21 * 2 ^ 1) + bitI w 22 * 2 ^ 2) + bitI w 23 * 2 ^ 3) + bitI w 24 * 2 ^ 4) + bitI w 25 * 2 ^ 5) + bitI w 26 * 2 ^ 6) + bitI w 27 * 2 ^ 7) + bitI w 28 * 2 ^ 8) + bitI w 29 * 2 ^ 9) + bitI w 30 * 2 ^ 10) + bitI w 31 * 2 ^ 20) = immR 5 (partsOf w) := by simp only [immR, partsOf]; omega
    unfold refX
    rw [if_neg (by decide), acc5]
    dsimp only
    rw [hN]
    clear hN
    have h7 : -1048576 ≤ immS 5 (partsOf w) := hf.2.2.2.2.2.2.1
    have hi : immS 5 (partsOf w) = if 1048576 ≤ immR 5 (partsOf w) then immR 5 (partsOf w) - 2 * 1048576 else immR 5 (partsOf w) := by
      unfold immS at h7 ⊢
      rw [show shF 5 4 = 1048572 from rfl, show shF 5 3 = -1048576 from rfl] at h7 ⊢
      generalize immR 5 (partsOf w) = n at *
      by_cases hc : (1048572 : Int) < n
      · rw [if_pos hc] at h7 ⊢
        rw [if_pos (by omega)]; omega
      · rw [if_neg hc, if_neg (by omega)]
    refine Mi.ext' rfl ?_ ?_ ?_ ?_
    · show (((((0 + bitI w 7 * 2 ^ 0) + bitI w 8 * 2 ^ 1) + bitI w 9 * 2 ^ 2) + bitI w 10 * 2 ^ 3) + bitI w 11 * 2 ^ 4) = w / 128 % 32
      omega
    · show 0 = 0
      omega
    · show 0 = 0
      omega
    · show (if (5 : Nat) ≠ 2 ∧ (0 : Int) ≤ 20 ∧ 2 ^ (20 : Int).toNat ≤ immR 5 (partsOf w) then immR 5 (partsOf w) - 2 * 2 ^ (20 : Int).toNat else immR 5 (partsOf w)) = immS 5 (partsOf w)
      rw [hi]
      have e : (2 : Int) ^ (20 : Int).toNat = 1048576 := by decide
      rw [e]
      by_cases hc : (1048576 : Int) ≤ immR 5 (partsOf w)
      · rw [if_pos ⟨by decide, by decide, hc⟩, if_pos hc]
      · rw [if_neg (fun h => hc h.2.2), if_neg hc]
  · have hN : ((((((((((((((((((((0 + bitI w 12 * 2 ^ 0) + bitI w 13 * 2 ^ 1) + bitI w 14 * 2 ^ 2) + bitI w 15 * 2 ^ 3) + bitI w 16 * 2 ^ 4) + bitI w 17 * 2 ^ 5) + bitI w 18 * 2 ^ 6) + bitI w 19 * 2 ^ 7) + bitI w 20 * 2 ^ 8) + bitI w 21 * 2 ^ 9) + bitI w 22 * 2 ^ 10) + bitI w 23 * 2 ^ 11) + bitI w 24 * 2 ^ 12) + bitI w 25 * 2 ^ 13) + bitI w 26 * 2 ^ 14) + bitI w 27 * 2 ^ 15) + bitI w 28 * 2 ^ 16) + bitI w 29 * 2 ^ 17) + bitI w 30 * 2 ^ 18) + bitI w 31 * 2 ^ 19) = immR 6 (partsOf w) := by simp only [immR, partsOf]; omega
    unfold refX
    rw [if_neg (by decide), acc6]
    dsimp only
    rw [hN]
    clear hN
    have h7 : -524288 ≤ immS 6 (partsOf w) := hf.2.2.2.2.2.2.1
    have hi : immS 6 (partsOf w) = if 524288 ≤ immR 6 (partsOf w) then immR 6 (partsOf w) - 2 * 524288 else immR 6 (partsOf w) := by
      unfold immS at h7 ⊢
      rw [show shF 6 4 = 524287 from rfl, show shF 6 3 = -524288 from rfl] at h7 ⊢
      generalize immR 6 (partsOf w) = n at *
      by_cases hc : (524287 : Int) < n
      · rw [if_pos hc] at h7 ⊢
        rw [if_pos (by omega)]; omega
      · rw [if_neg hc, if_neg (by omega)]
    refine Mi.ext' rfl ?_ ?_ ?_ ?_
    · show (((((0 + bitI w 7 * 2 ^ 0) + bitI w 8 * 2 ^ 1) + bitI w 9 * 2 ^ 2) + bitI w 10 * 2 ^ 3) + bitI w 11 * 2 ^ 4) = w / 128 % 32
      omega
    · show 0 = 0
      omega
    · show 0 = 0
      omega
    · show (if (6 : Nat) ≠ 2 ∧ (0 : Int) ≤ 19 ∧ 2 ^ (19 : Int).toNat ≤ immR 6 (partsOf w) then immR 6 (partsOf w) - 2 * 2 ^ (19 : Int).toNat else immR 6 (partsOf w)) = immS 6 (partsOf w)
      rw [hi]
      have e : (2 : Int) ^ (19 : Int).toNat = 524288 := by decide
      rw [e]
      by_cases hc : (524288 : Int) ≤ immR 6 (partsOf w)
      · rw [if_pos ⟨by decide, by decide, hc⟩, if_pos hc]
      · rw [if_neg (fun h => hc h.2.2), if_neg hc]
  · rfl
/-- What the document's loop asks of an op. -/
def Good (w : Int) (k : Nat) : Prop := rvE (refX (shOf k) k w) = 0 ∧ encI (refX (shOf k) k w) = w
theorem refX_op (s k : Nat) (w : Int) : (refX s k w).op = (k : Int) := by unfold refX; split <;> rfl
theorem good_dec (w : Int) (k : Nat) (h : Good w k) : decX w = refX (shOf k) k w ∧ decE w = 0 := by
  obtain ⟨h0, h1⟩ := h
  have hok := rvE_ok h0
  have e : encI (refX (shOf k) k w) = wordI (refX (shOf k) k w) := if_pos h0
  rw [e] at h1
  have := dec_word _ hok
  rw [h1] at this
  exact ⟨this.1, this.2.1⟩
theorem not_good (w : Int) (w0 : 0 ≤ w) (w1 : w < 4294967296) (h : ∀ k, 1 ≤ k → k ≤ 29 → ¬ Good w k) : decX w = zeroMi ∧ decE w = 3 := by
  by_cases hd : decE w = 0
  · exfalso
    obtain ⟨hok, hw⟩ := word_dec w hd
    have k0 : 1 ≤ (decX w).op.toNat := by have := hok.op1; omega
    have k1 : (decX w).op.toNat ≤ 29 := by have := hok.op2; omega
    obtain ⟨ok, hit, inst⟩ := word_parts (decX w) hok
    have hp : partsOf w = wordP (decX w) := by
      have := partsOf_num _ ok
      rw [show (wordP (decX w)).num = wordI (decX w) from rfl, hw] at this
      exact this
    have hi : instQ (shOf (decX w).op.toNat) (decX w).op.toNat (partsOf w) = decX w := by rw [hp]; exact inst
    have hr := ref_inst _ (decX w).op.toNat (shOf_lt _ k0 k1) w w0 w1 (by rw [hi]; exact hok.fits)
    rw [hi] at hr
    exact h _ k0 k1 ⟨by rw [hr]; exact hok.e, by rw [hr]; exact (if_pos hok.e).trans hw⟩
  · obtain ⟨e1, e2⟩ := dec_bad w hd
    refine ⟨e1, ?_⟩
    have h2 : decE w ≠ 2 := fun h => by have := e2.1 h; omega
    unfold decE at h2 hd ⊢
    rw [if_neg (by omega)] at h2 hd ⊢
    cases hf : findOp (partsOf w) 1 with
    | none => rfl
    | some k =>
      rw [hf] at hd h2
      dsimp only at hd h2 ⊢
      by_cases hfit : fitsB (shOf k) (instR k (partsOf w)) = true
      · rw [if_pos hfit] at hd; exact absurd rfl hd
      · rw [if_neg hfit]
end Go.Proofs.YtndogdojcbcjgaaDoor
