/- What the code's bits come to, for each op: a word is its parts' sum; a mask tells whether a word has what an op settles; pieces of a word are the number that stands in it. -/
import Derived.Test.YtapjfiihfgndeaaDoorRvWord
namespace Go.Proofs.YtapjfiihfgndeaaDoor
open Go Go.RowKit

theorem enc_eqQ (s : Nat) (hs : s < 8) (A B C : Int) (hS : Sett s A B C) (S : Int) (hSS : S = A + 4096 * B + 33554432 * C) (x : Mi) (hf : fitsB s x = true) : orI S (fieldsG s x) = (wordQ s A B C x).num := by
  obtain ⟨op, rd, rs1, rs2, imm⟩ := x
  obtain ⟨p1, p2, p3, p4, p5, p6, p7, p8, p9, p10, p11⟩ := hS
  rw [fits_iff] at hf
  rcases eight s hs with rfl | rfl | rfl | rfl | rfl | rfl | rfl | rfl <;> simp [shF, shL] at hf p8 p9 p10 p11
  · rw [show S = (⟨A, 0, B, 0, 0, C⟩ : Pts).num by simp only [Pts.num]; omega]
    exact enc_sum0 A B C p1 p2 p3 p4 p5 p6 rd rs1 rs2 (by omega) (by omega) (by omega) (by omega) (by omega) (by omega) imm
  · rw [show S = (⟨A, 0, B, 0, 0, 0⟩ : Pts).num by simp only [Pts.num]; omega]
    obtain rfl : rs2 = 0 := by omega
    exact enc_sum1 A B p1 p2 p3 p4 rd rs1 (by omega) (by omega) (by omega) (by omega) imm
  · rw [show S = (⟨A, 0, B, 0, 0, C⟩ : Pts).num by simp only [Pts.num]; omega]
    obtain rfl : rs2 = 0 := by omega
    refine (enc_sum2 A B C p1 p2 p3 p4 p5 p6 rd rs1 (by omega) (by omega) (by omega) (by omega) imm (by omega) (by omega)).trans ?_
    simp only [wordQ, Pts.num]; omega
  · rw [show S = (⟨A, 0, B, 0, 0, 0⟩ : Pts).num by simp only [Pts.num]; omega]
    obtain rfl : rd = 0 := by omega
    exact enc_sum3 A B p1 p2 p3 p4 rs1 rs2 (by omega) (by omega) (by omega) (by omega) imm
  · rw [show S = (⟨A, 0, B, 0, 0, 0⟩ : Pts).num by simp only [Pts.num]; omega]
    obtain rfl : rd = 0 := by omega
    exact enc_sum4 A B p1 p2 p3 p4 rs1 rs2 (by omega) (by omega) (by omega) (by omega) imm
  · rw [show S = (⟨A, 0, 0, 0, 0, 0⟩ : Pts).num by simp only [Pts.num]; omega]
    obtain rfl : rs1 = 0 := by omega
    obtain rfl : rs2 = 0 := by omega
    exact enc_sum5 A p1 p2 rd (by omega) (by omega) imm
  · rw [show S = (⟨A, 0, 0, 0, 0, 0⟩ : Pts).num by simp only [Pts.num]; omega]
    obtain rfl : rs1 = 0 := by omega
    obtain rfl : rs2 = 0 := by omega
    exact enc_sum6 A p1 p2 rd (by omega) (by omega) imm
  · rw [show S = (⟨A, 0, 0, 0, 0, 0⟩ : Pts).num by simp only [Pts.num]; omega]
    obtain rfl : rd = 0 := by omega
    obtain rfl : rs1 = 0 := by omega
    obtain rfl : rs2 = 0 := by omega
    exact enc_sum7 A p1 p2 imm
theorem enc_eq (x : Mi) (h : MiOk x) : orI (setOf x.op.toNat : Int) (fieldsG (shOf x.op.toNat) x) = wordI x :=
  enc_eqQ _ (shOf_lt _ (by have := h.op1; omega) (by have := h.op2; omega)) _ _ _ (sett_of _ (by have := h.op1; omega) (by have := h.op2; omega)) _ (settled_parts _ (by have := h.op1; omega) (by have := h.op2; omega)).1 x h.fits

theorem and126 (c : Int) (h0 : 0 ≤ c) (h1 : c < 128) : bits .and .i64 c 126 = 2 * (c / 2) := by
  have e := and_splitI 1 (by decide) 2 rfl (c % 2) 0 (c / 2) 63 (by omega) (by omega) (by omega) (by omega) (by omega) (by omega) (by omega) (by omega)
  rw [and_r _ (by omega) (by omega), and_full 6 (by decide) (c / 2) 63 rfl (by omega) (by omega)] at e
  rw [show c % 2 + 2 * (c / 2) = c by omega, show (0 : Int) + 2 * 63 = 126 by decide] at e
  rw [e]
  simp
  omega
theorem mask_eqQ (s : Nat) (hs : s < 8) (A B C : Int) (hS : Sett s A B C) (S : Int) (hSS : S = A + 4096 * B + 33554432 * C) (w : Int) (w0 : 0 ≤ w) (w1 : w < 4294967296) : (bits .and .i64 w (shF s 18) = S) ↔ hitQ s A B C (partsOf w) = true := by
  obtain ⟨p1, p2, p3, p4, p5, p6, p7, p8, p9, p10, p11⟩ := hS
  have ho := partsOf_ok w w0 w1
  have hw := num_partsOf w
  generalize partsOf w = p at *
  subst hw
  obtain ⟨a, l, b, m, n, c⟩ := p
  have ho' := ho
  obtain ⟨a0, a1, l0, l1, b0, b1, m0, m1, n0, n1, c0, c1⟩ := ho'
  dsimp only at *
  have fa := and_full 7 (by decide) a 127 rfl a0 (by omega)
  have fl := and_full 5 (by decide) l 31 rfl l0 (by omega)
  have fb := and_full 3 (by decide) b 7 rfl b0 (by omega)
  have fm := and_full 5 (by decide) m 31 rfl m0 (by omega)
  have fn := and_full 5 (by decide) n 31 rfl n0 (by omega)
  have fc := and_full 7 (by decide) c 127 rfl c0 (by omega)
  rw [show a % ((2 ^ 7 : Nat) : Int) = a by simp; omega] at fa
  rw [show l % ((2 ^ 5 : Nat) : Int) = l by simp; omega] at fl
  rw [show b % ((2 ^ 3 : Nat) : Int) = b by simp; omega] at fb
  rw [show m % ((2 ^ 5 : Nat) : Int) = m by simp; omega] at fm
  rw [show n % ((2 ^ 5 : Nat) : Int) = n by simp; omega] at fn
  rw [show c % ((2 ^ 7 : Nat) : Int) = c by simp; omega] at fc
  have gl := and_r l l0 (by omega)
  have gb := and_r b b0 (by omega)
  have gm := and_r m m0 (by omega)
  have gn := and_r n n0 (by omega)
  have gc := and_r c c0 (by omega)
  have hc := and126 c c0 c1
  rcases eight s hs with rfl | rfl | rfl | rfl | rfl | rfl | rfl | rfl <;> simp at p8 p9 p10 p11
  · rw [show shF 0 18 = (⟨127, 0, 7, 0, 0, 127⟩ : Pts).num by decide, and_num _ _ ho (by constructor <;> decide)]
    simp only [fa, gl, fb, gm, gn, fc, hitQ, Pts.num]; simp; omega
  · rw [show shF 1 18 = (⟨127, 0, 7, 0, 0, 0⟩ : Pts).num by decide, and_num _ _ ho (by constructor <;> decide)]
    simp only [fa, gl, fb, gm, gn, gc, hitQ, Pts.num]; simp; omega
  · rw [show shF 2 18 = (⟨127, 0, 7, 0, 0, 126⟩ : Pts).num by decide, and_num _ _ ho (by constructor <;> decide)]
    simp only [fa, gl, fb, gm, gn, hc, hitQ, Pts.num]; simp; omega
  · rw [show shF 3 18 = (⟨127, 0, 7, 0, 0, 0⟩ : Pts).num by decide, and_num _ _ ho (by constructor <;> decide)]
    simp only [fa, gl, fb, gm, gn, gc, hitQ, Pts.num]; simp; omega
  · rw [show shF 4 18 = (⟨127, 0, 7, 0, 0, 0⟩ : Pts).num by decide, and_num _ _ ho (by constructor <;> decide)]
    simp only [fa, gl, fb, gm, gn, gc, hitQ, Pts.num]; simp; omega
  · rw [show shF 5 18 = (⟨127, 0, 0, 0, 0, 0⟩ : Pts).num by decide, and_num _ _ ho (by constructor <;> decide)]
    simp only [fa, gl, gb, gm, gn, gc, hitQ, Pts.num]; simp; omega
  · rw [show shF 6 18 = (⟨127, 0, 0, 0, 0, 0⟩ : Pts).num by decide, and_num _ _ ho (by constructor <;> decide)]
    simp only [fa, gl, gb, gm, gn, gc, hitQ, Pts.num]; simp; omega
  · rw [show shF 7 18 = (⟨127, 31, 7, 31, 31, 127⟩ : Pts).num by decide, and_num _ _ ho (by constructor <;> decide)]
    simp only [fa, fl, fb, fm, fn, fc, hitQ, Pts.num]; simp; omega
theorem mask_eq (op : Nat) (h0 : 1 ≤ op) (h1 : op ≤ 29) (w : Int) (w0 : 0 ≤ w) (w1 : w < 4294967296) : (bits .and .i64 w (shF (shOf op) 18) == (setOf op : Int)) = hitB (partsOf w) op := by
  have := mask_eqQ _ (shOf_lt op h0 h1) _ _ _ (sett_of op h0 h1) _ (settled_parts op h0 h1).1 w w0 w1
  unfold hitB
  rw [Bool.eq_iff_iff]
  simpa using this

/-- The number that stands in a word's pieces. -/
theorem raw_sum (s : Nat) (hs : s < 8) (w : Int) (w0 : 0 ≤ w) (w1 : w < 4294967296) : partF 0 (pieceI w (shN s 6) (shN s 8) (shN s 7)) (pieceI w (shN s 9) (shN s 11) (shN s 10)) (pieceI w (shN s 12) (shN s 14) (shN s 13)) (pieceI w (shN s 15) (shN s 17) (shN s 16)) 4 = immR s (partsOf w) ∧ 0 ≤ immR s (partsOf w) ∧ immR s (partsOf w) < 2097152 := by
  have z := piece_none w
  unfold partF
  rcases eight s hs with rfl | rfl | rfl | rfl | rfl | rfl | rfl | rfl
  · refine ⟨?_, by simp [immR], by simp [immR]⟩
    show bits .or .i64 (bits .or .i64 (bits .or .i64 (bits .or .i64 0 (pieceI w 0 0 0)) (pieceI w 0 0 0)) (pieceI w 0 0 0)) (pieceI w 0 0 0) = 0
    rw [z]; simp only [or_r 0 (by omega) (by omega)]
  · have e : immR 1 (partsOf w) = w / 1048576 % 4096 * 1 := by simp only [immR, partsOf]; omega
    rw [e]
    refine ⟨?_, by omega, by omega⟩
    show bits .or .i64 (bits .or .i64 (bits .or .i64 (bits .or .i64 0 (pieceI w 12 20 0)) (pieceI w 0 0 0)) (pieceI w 0 0 0)) (pieceI w 0 0 0) = _
    rw [z, piece_eq w 12 20 0 4096 1048576 1 (by decide) (by decide) (by decide) (by decide) (by decide) (by decide) (by decide), or_l _ (by omega) (by omega)]
    simp only [or_r (w / 1048576 % 4096 * 1) (by omega) (by omega)]
  · have e : immR 2 (partsOf w) = w / 1048576 % 64 * 1 := by simp only [immR, partsOf]; omega
    rw [e]
    refine ⟨?_, by omega, by omega⟩
    show bits .or .i64 (bits .or .i64 (bits .or .i64 (bits .or .i64 0 (pieceI w 6 20 0)) (pieceI w 0 0 0)) (pieceI w 0 0 0)) (pieceI w 0 0 0) = _
    rw [z, piece_eq w 6 20 0 64 1048576 1 (by decide) (by decide) (by decide) (by decide) (by decide) (by decide) (by decide), or_l _ (by omega) (by omega)]
    simp only [or_r (w / 1048576 % 64 * 1) (by omega) (by omega)]
  · have e : immR 3 (partsOf w) = w / 128 % 32 * 1 + 32 * (w / 33554432 % 128) := by simp only [immR, partsOf]; omega
    rw [e]
    refine ⟨?_, by omega, by omega⟩
    show bits .or .i64 (bits .or .i64 (bits .or .i64 (bits .or .i64 0 (pieceI w 5 7 0)) (pieceI w 7 25 5)) (pieceI w 0 0 0)) (pieceI w 0 0 0) = _
    rw [z, piece_eq w 5 7 0 32 128 1 (by decide) (by decide) (by decide) (by decide) (by decide) (by decide) (by decide), or_l _ (by omega) (by omega)]
    rw [piece_eq w 7 25 5 128 33554432 32 (by decide) (by decide) (by decide) (by decide) (by decide) (by decide) (by decide), Int.mul_comm _ 32]
    rw [or_lo 5 (by decide) 32 rfl _ _ (by omega) (by omega) (by omega) (by omega)]
    have zr := or_r (w / 128 % 32 * 1 + 32 * (w / 33554432 % 128)) (by omega) (by omega)
    rw [zr, zr]
  · have e : immR 4 (partsOf w) = 2 * (w / 256 % 16) + 32 * (w / 33554432 % 64) + 2048 * (w / 128 % 2) + 4096 * (w / 2147483648 % 2) := by simp only [immR, partsOf]; omega
    rw [e]
    refine ⟨?_, by omega, by omega⟩
    show bits .or .i64 (bits .or .i64 (bits .or .i64 (bits .or .i64 0 (pieceI w 1 7 11)) (pieceI w 4 8 1)) (pieceI w 6 25 5)) (pieceI w 1 31 12) = _
    rw [piece_eq w 1 7 11 2 128 2048 (by decide) (by decide) (by decide) (by decide) (by decide) (by decide) (by decide), or_l _ (by omega) (by omega)]
    rw [piece_eq w 4 8 1 16 256 2 (by decide) (by decide) (by decide) (by decide) (by decide) (by decide) (by decide)]
    rw [piece_eq w 6 25 5 64 33554432 32 (by decide) (by decide) (by decide) (by decide) (by decide) (by decide) (by decide)]
    rw [piece_eq w 1 31 12 2 2147483648 4096 (by decide) (by decide) (by decide) (by decide) (by decide) (by decide) (by decide)]
    rw [Int.mul_comm _ 2048, Int.mul_comm _ 2, Int.mul_comm _ 32, Int.mul_comm _ 4096]
    rw [or_hi 11 (by decide) 2048 rfl _ _ (by omega) (by omega) (by omega) (by omega)]
    have e2 := or_splitI 11 (by decide) 2048 rfl (2 * (w / 256 % 16)) (32 * (w / 33554432 % 64)) (w / 128 % 2) 0 (by omega) (by omega) (by omega) (by omega) (by omega) (by omega) (by omega) (by omega)
    rw [or_lo 5 (by decide) 32 rfl _ _ (by omega) (by omega) (by omega) (by omega), or_r (w / 128 % 2) (by omega) (by omega), Int.mul_zero, Int.add_zero] at e2
    rw [Int.add_comm (2048 * (w / 128 % 2)), e2]
    rw [or_lo 12 (by decide) 4096 rfl _ _ (by omega) (by omega) (by omega) (by omega)]
  · have e : immR 5 (partsOf w) = 2 * (w / 2097152 % 1024) + 2048 * (w / 1048576 % 2) + 4096 * (w / 4096 % 256) + 1048576 * (w / 2147483648 % 2) := by simp only [immR, partsOf]; omega
    rw [e]
    refine ⟨?_, by omega, by omega⟩
    show bits .or .i64 (bits .or .i64 (bits .or .i64 (bits .or .i64 0 (pieceI w 8 12 12)) (pieceI w 1 20 11)) (pieceI w 10 21 1)) (pieceI w 1 31 20) = _
    rw [piece_eq w 8 12 12 256 4096 4096 (by decide) (by decide) (by decide) (by decide) (by decide) (by decide) (by decide), or_l _ (by omega) (by omega)]
    rw [piece_eq w 1 20 11 2 1048576 2048 (by decide) (by decide) (by decide) (by decide) (by decide) (by decide) (by decide)]
    rw [piece_eq w 10 21 1 1024 2097152 2 (by decide) (by decide) (by decide) (by decide) (by decide) (by decide) (by decide)]
    rw [piece_eq w 1 31 20 2 2147483648 1048576 (by decide) (by decide) (by decide) (by decide) (by decide) (by decide) (by decide)]
    rw [Int.mul_comm _ 4096, Int.mul_comm _ 2048, Int.mul_comm _ 2, Int.mul_comm _ 1048576]
    rw [or_hi 12 (by decide) 4096 rfl _ _ (by omega) (by omega) (by omega) (by omega)]
    have e2 := or_splitI 12 (by decide) 4096 rfl (2048 * (w / 1048576 % 2)) (2 * (w / 2097152 % 1024)) (w / 4096 % 256) 0 (by omega) (by omega) (by omega) (by omega) (by omega) (by omega) (by omega) (by omega)
    rw [or_hi 11 (by decide) 2048 rfl _ _ (by omega) (by omega) (by omega) (by omega), or_r (w / 4096 % 256) (by omega) (by omega), Int.mul_zero, Int.add_zero] at e2
    rw [Int.add_comm (4096 * (w / 4096 % 256)), e2]
    rw [or_lo 20 (by decide) 1048576 rfl _ _ (by omega) (by omega) (by omega) (by omega)]
    omega
  · have e : immR 6 (partsOf w) = w / 4096 % 1048576 * 1 := by simp only [immR, partsOf]; omega
    rw [e]
    refine ⟨?_, by omega, by omega⟩
    show bits .or .i64 (bits .or .i64 (bits .or .i64 (bits .or .i64 0 (pieceI w 20 12 0)) (pieceI w 0 0 0)) (pieceI w 0 0 0)) (pieceI w 0 0 0) = _
    rw [z, piece_eq w 20 12 0 1048576 4096 1 (by decide) (by decide) (by decide) (by decide) (by decide) (by decide) (by decide), or_l _ (by omega) (by omega)]
    simp only [or_r (w / 4096 % 1048576 * 1) (by omega) (by omega)]
  · refine ⟨?_, by simp [immR], by simp [immR]⟩
    show bits .or .i64 (bits .or .i64 (bits .or .i64 (bits .or .i64 0 (pieceI w 0 0 0)) (pieceI w 0 0 0)) (pieceI w 0 0 0)) (pieceI w 0 0 0) = 0
    rw [z]; simp only [or_r 0 (by omega) (by omega)]
theorem imm_eq (s : Nat) (hs : s < 8) (w : Int) (w0 : 0 ≤ w) (w1 : w < 4294967296) : immRaw s w = immS s (partsOf w) := by
  obtain ⟨e, h0, h1⟩ := raw_sum s hs w w0 w1
  unfold immRaw immS immG
  rw [e]
  generalize immR s (partsOf w) = n at *
  by_cases h : shF s 4 < n
  · rw [if_pos h, if_pos h]
    have b : -1048576 ≤ shF s 3 ∧ shF s 3 ≤ 0 := by rcases eight s hs with rfl | rfl | rfl | rfl | rfl | rfl | rfl | rfl <;> decide
    rw [wrap64_small (2 * shF s 3) (by omega) (by omega), wrap64_small _ (by omega) (by omega)]
  · rw [if_neg h, if_neg h]
theorem reg_eq (M n : Int) (hM : M = 31 ∨ M = 0) (h0 : 0 ≤ n) (h1 : n < 4294967296) : bits .and .i64 n M = if M = 31 then n % 32 else 0 := by
  rcases hM with rfl | rfl
  · rw [and_full 5 (by decide) n 31 rfl h0 h1]; simp
  · rw [and_r n h0 h1]; rfl
theorem regs_eq (s : Nat) (hs : s < 8) : (shF s 0 = 31 ∨ shF s 0 = 0) ∧ (shF s 1 = 31 ∨ shF s 1 = 0) ∧ (shF s 2 = 31 ∨ shF s 2 = 0) := by
  rcases eight s hs with rfl | rfl | rfl | rfl | rfl | rfl | rfl | rfl <;> decide

end Go.Proofs.YtapjfiihfgndeaaDoor
