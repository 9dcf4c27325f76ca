/- A word bit by bit is the word (mathematics of the document's WordOf). No program is walked. -/
import Derived.Test.YtndogdojcbcjgaaDoorXRvLay
import Derived.Test.YtndogdojcbcjgaaDoorXRvTabs
import Derived.Test.YtndogdojcbcjgaaDoorXRvBitOf
namespace Go.Proofs.YtndogdojcbcjgaaDoor
open Go Go.RowKit

/-- The bit that a number of the layout names. -/
def bitAt (x : Mi) (k : Nat) (c : Int) : Int :=
  if c < 100 then bitI x.imm c.toNat else if c < 110 then bitI x.rd (c - 100).toNat else if c < 120 then bitI x.rs1 (c - 110).toNat else if c < 130 then bitI x.rs2 (c - 120).toNat
  else if c < 140 then bitI (sA k) (c - 130).toNat else if c < 150 then bitI (sB k) (c - 140).toNat else bitI (tT k) (c - 150).toNat
/-- The bits from above, so many of them. -/
def hw (b : Nat → Int) : Nat → Int
  | 0 => 0
  | m + 1 => hw b m * 2 + b (31 - m)
theorem bitI_bounds (n : Int) (i : Nat) : 0 ≤ bitI n i ∧ bitI n i ≤ 1 := by unfold bitI; omega
theorem bitAt_bounds (x : Mi) (k : Nat) (c : Int) : 0 ≤ bitAt x k c ∧ bitAt x k c ≤ 1 := by
  unfold bitAt
  repeat (first | exact bitI_bounds _ _ | split)
theorem hw_bounds (b : Nat → Int) (hb : ∀ j, 0 ≤ b j ∧ b j ≤ 1) : ∀ m, m ≤ 32 → 0 ≤ hw b m ∧ hw b m < ((2 ^ m : Nat) : Int) := by
  intro m
  induction m with
  | zero => intro _; simp [hw]
  | succ m ih =>
    intro hm
    have := ih (by omega)
    have hj := hb (31 - m)
    unfold hw
    have e : (2 ^ (m + 1) : Nat) = 2 * 2 ^ m := by rw [Nat.pow_succ, Nat.mul_comm]
    rw [e]
    generalize 2 ^ m = q at *
    omega
theorem hw_small (b : Nat → Int) (hb : ∀ j, 0 ≤ b j ∧ b j ≤ 1) (m : Nat) (hm : m ≤ 32) : 0 ≤ hw b m ∧ hw b m < 4294967296 := by
  have h := hw_bounds b hb m hm
  have : 2 ^ m ≤ 2 ^ 32 := Nat.pow_le_pow_right (by decide) hm
  omega
theorem hw_sum (b : Nat → Int) : hw b 32 = (b 0 + 2 * b 1 + 4 * b 2 + 8 * b 3 + 16 * b 4 + 32 * b 5 + 64 * b 6) + 128 * (b 7 + 2 * b 8 + 4 * b 9 + 8 * b 10 + 16 * b 11) + 4096 * (b 12 + 2 * b 13 + 4 * b 14) + 32768 * (b 15 + 2 * b 16 + 4 * b 17 + 8 * b 18 + 16 * b 19) + 1048576 * (b 20 + 2 * b 21 + 4 * b 22 + 8 * b 23 + 16 * b 24) + 33554432 * (b 25 + 2 * b 26 + 4 * b 27 + 8 * b 28 + 16 * b 29 + 32 * b 30 + 64 * b 31) := by
  simp only [hw, Nat.reduceSub, Nat.sub_zero]
  omega

theorem bit_shift (i : Int) (a n : Nat) : bitI i (a + n) = bitI (i / 2 ^ a) n := by
  unfold bitI
  rw [Int.pow_add, Int.ediv_ediv_of_nonneg (Int.pow_nonneg (by decide))]
theorem low1 (u : Int) : u % 2 = bitI u 0 := by unfold bitI; omega
theorem low3 (u : Int) : u % 8 = bitI u 0 + 2 * bitI u 1 + 4 * bitI u 2 := by unfold bitI; omega
theorem low4 (u : Int) : u % 16 = bitI u 0 + 2 * bitI u 1 + 4 * bitI u 2 + 8 * bitI u 3 := by unfold bitI; omega
theorem low5 (u : Int) : u % 32 = bitI u 0 + 2 * bitI u 1 + 4 * bitI u 2 + 8 * bitI u 3 + 16 * bitI u 4 := by unfold bitI; omega
theorem low6h (u : Int) : u % 64 = bitI u 0 + 2 * bitI u 1 + 4 * bitI u 2 + 8 * bitI u 3 + 16 * bitI u 4 + 32 * bitI u 5 := by unfold bitI; omega
theorem low7 (u : Int) : u % 128 = bitI u 0 + 2 * bitI u 1 + 4 * bitI u 2 + 8 * bitI u 3 + 16 * bitI u 4 + 32 * bitI u 5 + 64 * bitI u 6 := by unfold bitI; omega

theorem tT_eq (k : Nat) (h0 : 1 ≤ k) (h1 : k ≤ 29) : (shOf k = 0 → tT k = sC k) ∧ (shOf k = 2 → 2 * tT k = sC k ∧ 0 ≤ tT k ∧ tT k < 64) ∧ (shOf k = 7 → tT k = 0 ∧ sB k = 0) :=
  ops29 (Q := fun k => (shOf k = 0 → tT k = sC k) ∧ (shOf k = 2 → 2 * tT k = sC k ∧ 0 ≤ tT k ∧ tT k < 64) ∧ (shOf k = 7 → tT k = 0 ∧ sB k = 0)) (by decide +kernel) k h0 h1

set_option maxHeartbeats 4000000 in
theorem hw_word (x : Mi) (h : MiOk x) : hw (fun j => bitAt x x.op.toNat (layT (shOf x.op.toNat) j)) 32 = wordI x := by
  have k0 : 1 ≤ x.op.toNat := by have := h.op1; omega
  have k1 : x.op.toNat ≤ 29 := by have := h.op2; omega
  have hS := sett_of _ k0 k1
  have hs := shOf_lt _ k0 k1
  have hT := tT_eq _ k0 k1
  have hf := h.fits
  obtain ⟨op, rd, rs1, rs2, imm⟩ := x
  unfold wordI wordP
  dsimp only at *
  generalize op.toNat = k at *
  rw [hw_sum]
  rw [fits_iff] at hf
  dsimp only at hf
  obtain ⟨p1, p2, p3, p4, p5, p6, p7, p8, p9, p10, p11⟩ := hS
  have A7 := low7 (sA k)
  have B3 := low3 (sB k)
  have C7 := low7 (tT k)
  have C6 := low6h (tT k)
  have D5 := low5 rd
  have R5 := low5 rs1
  have Q5 := low5 rs2
  rcases eight _ hs with e | e | e | e | e | e | e | e <;> rw [e] at hf p8 p9 p10 p11 hT ⊢ <;> simp [shF, shL] at hf p8 p9 p10 p11 hT
  · show (bitI (sA k) 0 + 2 * bitI (sA k) 1 + 4 * bitI (sA k) 2 + 8 * bitI (sA k) 3 + 16 * bitI (sA k) 4 + 32 * bitI (sA k) 5 + 64 * bitI (sA k) 6) + 128 * (bitI rd 0 + 2 * bitI rd 1 + 4 * bitI rd 2 + 8 * bitI rd 3 + 16 * bitI rd 4) + 4096 * (bitI (sB k) 0 + 2 * bitI (sB k) 1 + 4 * bitI (sB k) 2) + 32768 * (bitI rs1 0 + 2 * bitI rs1 1 + 4 * bitI rs1 2 + 8 * bitI rs1 3 + 16 * bitI rs1 4) + 1048576 * (bitI rs2 0 + 2 * bitI rs2 1 + 4 * bitI rs2 2 + 8 * bitI rs2 3 + 16 * bitI rs2 4) + 33554432 * (bitI (tT k) 0 + 2 * bitI (tT k) 1 + 4 * bitI (tT k) 2 + 8 * bitI (tT k) 3 + 16 * bitI (tT k) 4 + 32 * bitI (tT k) 5 + 64 * bitI (tT k) 6) = _
    simp only [wordQ, Pts.num]
    omega
  · show (bitI (sA k) 0 + 2 * bitI (sA k) 1 + 4 * bitI (sA k) 2 + 8 * bitI (sA k) 3 + 16 * bitI (sA k) 4 + 32 * bitI (sA k) 5 + 64 * bitI (sA k) 6) + 128 * (bitI rd 0 + 2 * bitI rd 1 + 4 * bitI rd 2 + 8 * bitI rd 3 + 16 * bitI rd 4) + 4096 * (bitI (sB k) 0 + 2 * bitI (sB k) 1 + 4 * bitI (sB k) 2) + 32768 * (bitI rs1 0 + 2 * bitI rs1 1 + 4 * bitI rs1 2 + 8 * bitI rs1 3 + 16 * bitI rs1 4) + 1048576 * (bitI imm 0 + 2 * bitI imm 1 + 4 * bitI imm 2 + 8 * bitI imm 3 + 16 * bitI imm 4) + 33554432 * (bitI imm 5 + 2 * bitI imm 6 + 4 * bitI imm 7 + 8 * bitI imm 8 + 16 * bitI imm 9 + 32 * bitI imm 10 + 64 * bitI imm 11) = _
    have L0 := low5 imm
    have S5_0 : bitI imm 5 = bitI (imm / 32) 0 := bit_shift imm 5 0
    have S5_1 : bitI imm 6 = bitI (imm / 32) 1 := bit_shift imm 5 1
    have S5_2 : bitI imm 7 = bitI (imm / 32) 2 := bit_shift imm 5 2
    have S5_3 : bitI imm 8 = bitI (imm / 32) 3 := bit_shift imm 5 3
    have S5_4 : bitI imm 9 = bitI (imm / 32) 4 := bit_shift imm 5 4
    have S5_5 : bitI imm 10 = bitI (imm / 32) 5 := bit_shift imm 5 5
    have S5_6 : bitI imm 11 = bitI (imm / 32) 6 := bit_shift imm 5 6
    have L5 := low7 (imm / 32)
    simp only [wordQ, Pts.num]
    omega
  · show (bitI (sA k) 0 + 2 * bitI (sA k) 1 + 4 * bitI (sA k) 2 + 8 * bitI (sA k) 3 + 16 * bitI (sA k) 4 + 32 * bitI (sA k) 5 + 64 * bitI (sA k) 6) + 128 * (bitI rd 0 + 2 * bitI rd 1 + 4 * bitI rd 2 + 8 * bitI rd 3 + 16 * bitI rd 4) + 4096 * (bitI (sB k) 0 + 2 * bitI (sB k) 1 + 4 * bitI (sB k) 2) + 32768 * (bitI rs1 0 + 2 * bitI rs1 1 + 4 * bitI rs1 2 + 8 * bitI rs1 3 + 16 * bitI rs1 4) + 1048576 * (bitI imm 0 + 2 * bitI imm 1 + 4 * bitI imm 2 + 8 * bitI imm 3 + 16 * bitI imm 4) + 33554432 * (bitI imm 5 + 2 * bitI (tT k) 0 + 4 * bitI (tT k) 1 + 8 * bitI (tT k) 2 + 16 * bitI (tT k) 3 + 32 * bitI (tT k) 4 + 64 * bitI (tT k) 5) = _
    have L0 := low5 imm
    have S5_0 : bitI imm 5 = bitI (imm / 32) 0 := bit_shift imm 5 0
    have L5 := low1 (imm / 32)
    simp only [wordQ, Pts.num]
    omega
  · show (bitI (sA k) 0 + 2 * bitI (sA k) 1 + 4 * bitI (sA k) 2 + 8 * bitI (sA k) 3 + 16 * bitI (sA k) 4 + 32 * bitI (sA k) 5 + 64 * bitI (sA k) 6) + 128 * (bitI imm 0 + 2 * bitI imm 1 + 4 * bitI imm 2 + 8 * bitI imm 3 + 16 * bitI imm 4) + 4096 * (bitI (sB k) 0 + 2 * bitI (sB k) 1 + 4 * bitI (sB k) 2) + 32768 * (bitI rs1 0 + 2 * bitI rs1 1 + 4 * bitI rs1 2 + 8 * bitI rs1 3 + 16 * bitI rs1 4) + 1048576 * (bitI rs2 0 + 2 * bitI rs2 1 + 4 * bitI rs2 2 + 8 * bitI rs2 3 + 16 * bitI rs2 4) + 33554432 * (bitI imm 5 + 2 * bitI imm 6 + 4 * bitI imm 7 + 8 * bitI imm 8 + 16 * bitI imm 9 + 32 * bitI imm 10 + 64 * bitI imm 11) = _
    have L0 := low5 imm
    have S5_0 : bitI imm 5 = bitI (imm / 32) 0 := bit_shift imm 5 0
    have S5_1 : bitI imm 6 = bitI (imm / 32) 1 := bit_shift imm 5 1
    have S5_2 : bitI imm 7 = bitI (imm / 32) 2 := bit_shift imm 5 2
    have S5_3 : bitI imm 8 = bitI (imm / 32) 3 := bit_shift imm 5 3
    have S5_4 : bitI imm 9 = bitI (imm / 32) 4 := bit_shift imm 5 4
    have S5_5 : bitI imm 10 = bitI (imm / 32) 5 := bit_shift imm 5 5
    have S5_6 : bitI imm 11 = bitI (imm / 32) 6 := bit_shift imm 5 6
    have L5 := low7 (imm / 32)
    simp only [wordQ, Pts.num]
    omega
  · show (bitI (sA k) 0 + 2 * bitI (sA k) 1 + 4 * bitI (sA k) 2 + 8 * bitI (sA k) 3 + 16 * bitI (sA k) 4 + 32 * bitI (sA k) 5 + 64 * bitI (sA k) 6) + 128 * (bitI imm 11 + 2 * bitI imm 1 + 4 * bitI imm 2 + 8 * bitI imm 3 + 16 * bitI imm 4) + 4096 * (bitI (sB k) 0 + 2 * bitI (sB k) 1 + 4 * bitI (sB k) 2) + 32768 * (bitI rs1 0 + 2 * bitI rs1 1 + 4 * bitI rs1 2 + 8 * bitI rs1 3 + 16 * bitI rs1 4) + 1048576 * (bitI rs2 0 + 2 * bitI rs2 1 + 4 * bitI rs2 2 + 8 * bitI rs2 3 + 16 * bitI rs2 4) + 33554432 * (bitI imm 5 + 2 * bitI imm 6 + 4 * bitI imm 7 + 8 * bitI imm 8 + 16 * bitI imm 9 + 32 * bitI imm 10 + 64 * bitI imm 12) = _
    have S11_0 : bitI imm 11 = bitI (imm / 2048) 0 := bit_shift imm 11 0
    have L11 := low1 (imm / 2048)
    have S1_0 : bitI imm 1 = bitI (imm / 2) 0 := bit_shift imm 1 0
    have S1_1 : bitI imm 2 = bitI (imm / 2) 1 := bit_shift imm 1 1
    have S1_2 : bitI imm 3 = bitI (imm / 2) 2 := bit_shift imm 1 2
    have S1_3 : bitI imm 4 = bitI (imm / 2) 3 := bit_shift imm 1 3
    have L1 := low4 (imm / 2)
    have S5_0 : bitI imm 5 = bitI (imm / 32) 0 := bit_shift imm 5 0
    have S5_1 : bitI imm 6 = bitI (imm / 32) 1 := bit_shift imm 5 1
    have S5_2 : bitI imm 7 = bitI (imm / 32) 2 := bit_shift imm 5 2
    have S5_3 : bitI imm 8 = bitI (imm / 32) 3 := bit_shift imm 5 3
    have S5_4 : bitI imm 9 = bitI (imm / 32) 4 := bit_shift imm 5 4
    have S5_5 : bitI imm 10 = bitI (imm / 32) 5 := bit_shift imm 5 5
    have L5 := low6h (imm / 32)
    have S12_0 : bitI imm 12 = bitI (imm / 4096) 0 := bit_shift imm 12 0
    have L12 := low1 (imm / 4096)
    simp only [wordQ, Pts.num]
    omega
  · show (bitI (sA k) 0 + 2 * bitI (sA k) 1 + 4 * bitI (sA k) 2 + 8 * bitI (sA k) 3 + 16 * bitI (sA k) 4 + 32 * bitI (sA k) 5 + 64 * bitI (sA k) 6) + 128 * (bitI rd 0 + 2 * bitI rd 1 + 4 * bitI rd 2 + 8 * bitI rd 3 + 16 * bitI rd 4) + 4096 * (bitI imm 12 + 2 * bitI imm 13 + 4 * bitI imm 14) + 32768 * (bitI imm 15 + 2 * bitI imm 16 + 4 * bitI imm 17 + 8 * bitI imm 18 + 16 * bitI imm 19) + 1048576 * (bitI imm 11 + 2 * bitI imm 1 + 4 * bitI imm 2 + 8 * bitI imm 3 + 16 * bitI imm 4) + 33554432 * (bitI imm 5 + 2 * bitI imm 6 + 4 * bitI imm 7 + 8 * bitI imm 8 + 16 * bitI imm 9 + 32 * bitI imm 10 + 64 * bitI imm 20) = _
    have S12_0 : bitI imm 12 = bitI (imm / 4096) 0 := bit_shift imm 12 0
    have S12_1 : bitI imm 13 = bitI (imm / 4096) 1 := bit_shift imm 12 1
    have S12_2 : bitI imm 14 = bitI (imm / 4096) 2 := bit_shift imm 12 2
    have L12 := low3 (imm / 4096)
    have S15_0 : bitI imm 15 = bitI (imm / 32768) 0 := bit_shift imm 15 0
    have S15_1 : bitI imm 16 = bitI (imm / 32768) 1 := bit_shift imm 15 1
    have S15_2 : bitI imm 17 = bitI (imm / 32768) 2 := bit_shift imm 15 2
    have S15_3 : bitI imm 18 = bitI (imm / 32768) 3 := bit_shift imm 15 3
    have S15_4 : bitI imm 19 = bitI (imm / 32768) 4 := bit_shift imm 15 4
    have L15 := low5 (imm / 32768)
    have S11_0 : bitI imm 11 = bitI (imm / 2048) 0 := bit_shift imm 11 0
    have L11 := low1 (imm / 2048)
    have S1_0 : bitI imm 1 = bitI (imm / 2) 0 := bit_shift imm 1 0
    have S1_1 : bitI imm 2 = bitI (imm / 2) 1 := bit_shift imm 1 1
    have S1_2 : bitI imm 3 = bitI (imm / 2) 2 := bit_shift imm 1 2
    have S1_3 : bitI imm 4 = bitI (imm / 2) 3 := bit_shift imm 1 3
    have L1 := low4 (imm / 2)
    have S5_0 : bitI imm 5 = bitI (imm / 32) 0 := bit_shift imm 5 0
    have S5_1 : bitI imm 6 = bitI (imm / 32) 1 := bit_shift imm 5 1
    have S5_2 : bitI imm 7 = bitI (imm / 32) 2 := bit_shift imm 5 2
    have S5_3 : bitI imm 8 = bitI (imm / 32) 3 := bit_shift imm 5 3
    have S5_4 : bitI imm 9 = bitI (imm / 32) 4 := bit_shift imm 5 4
    have S5_5 : bitI imm 10 = bitI (imm / 32) 5 := bit_shift imm 5 5
    have L5 := low6h (imm / 32)
    have S20_0 : bitI imm 20 = bitI (imm / 1048576) 0 := bit_shift imm 20 0
    have L20 := low1 (imm / 1048576)
    simp only [wordQ, Pts.num]
    omega
  · show (bitI (sA k) 0 + 2 * bitI (sA k) 1 + 4 * bitI (sA k) 2 + 8 * bitI (sA k) 3 + 16 * bitI (sA k) 4 + 32 * bitI (sA k) 5 + 64 * bitI (sA k) 6) + 128 * (bitI rd 0 + 2 * bitI rd 1 + 4 * bitI rd 2 + 8 * bitI rd 3 + 16 * bitI rd 4) + 4096 * (bitI imm 0 + 2 * bitI imm 1 + 4 * bitI imm 2) + 32768 * (bitI imm 3 + 2 * bitI imm 4 + 4 * bitI imm 5 + 8 * bitI imm 6 + 16 * bitI imm 7) + 1048576 * (bitI imm 8 + 2 * bitI imm 9 + 4 * bitI imm 10 + 8 * bitI imm 11 + 16 * bitI imm 12) + 33554432 * (bitI imm 13 + 2 * bitI imm 14 + 4 * bitI imm 15 + 8 * bitI imm 16 + 16 * bitI imm 17 + 32 * bitI imm 18 + 64 * bitI imm 19) = _
    have L0 := low3 imm
    have S3_0 : bitI imm 3 = bitI (imm / 8) 0 := bit_shift imm 3 0
    have S3_1 : bitI imm 4 = bitI (imm / 8) 1 := bit_shift imm 3 1
    have S3_2 : bitI imm 5 = bitI (imm / 8) 2 := bit_shift imm 3 2
    have S3_3 : bitI imm 6 = bitI (imm / 8) 3 := bit_shift imm 3 3
    have S3_4 : bitI imm 7 = bitI (imm / 8) 4 := bit_shift imm 3 4
    have L3 := low5 (imm / 8)
    have S8_0 : bitI imm 8 = bitI (imm / 256) 0 := bit_shift imm 8 0
    have S8_1 : bitI imm 9 = bitI (imm / 256) 1 := bit_shift imm 8 1
    have S8_2 : bitI imm 10 = bitI (imm / 256) 2 := bit_shift imm 8 2
    have S8_3 : bitI imm 11 = bitI (imm / 256) 3 := bit_shift imm 8 3
    have S8_4 : bitI imm 12 = bitI (imm / 256) 4 := bit_shift imm 8 4
    have L8 := low5 (imm / 256)
    have S13_0 : bitI imm 13 = bitI (imm / 8192) 0 := bit_shift imm 13 0
    have S13_1 : bitI imm 14 = bitI (imm / 8192) 1 := bit_shift imm 13 1
    have S13_2 : bitI imm 15 = bitI (imm / 8192) 2 := bit_shift imm 13 2
    have S13_3 : bitI imm 16 = bitI (imm / 8192) 3 := bit_shift imm 13 3
    have S13_4 : bitI imm 17 = bitI (imm / 8192) 4 := bit_shift imm 13 4
    have S13_5 : bitI imm 18 = bitI (imm / 8192) 5 := bit_shift imm 13 5
    have S13_6 : bitI imm 19 = bitI (imm / 8192) 6 := bit_shift imm 13 6
    have L13 := low7 (imm / 8192)
    simp only [wordQ, Pts.num]
    omega
  · show (bitI (sA k) 0 + 2 * bitI (sA k) 1 + 4 * bitI (sA k) 2 + 8 * bitI (sA k) 3 + 16 * bitI (sA k) 4 + 32 * bitI (sA k) 5 + 64 * bitI (sA k) 6) + 128 * (bitI rd 0 + 2 * bitI rd 1 + 4 * bitI rd 2 + 8 * bitI rd 3 + 16 * bitI rd 4) + 4096 * (bitI (sB k) 0 + 2 * bitI (sB k) 1 + 4 * bitI (sB k) 2) + 32768 * (bitI rs1 0 + 2 * bitI rs1 1 + 4 * bitI rs1 2 + 8 * bitI rs1 3 + 16 * bitI rs1 4) + 1048576 * (bitI rs2 0 + 2 * bitI rs2 1 + 4 * bitI rs2 2 + 8 * bitI rs2 3 + 16 * bitI rs2 4) + 33554432 * (bitI (tT k) 0 + 2 * bitI (tT k) 1 + 4 * bitI (tT k) 2 + 8 * bitI (tT k) 3 + 16 * bitI (tT k) 4 + 32 * bitI (tT k) 5 + 64 * bitI (tT k) 6) = _
    simp only [wordQ, Pts.num]
    omega
end Go.Proofs.YtndogdojcbcjgaaDoor
