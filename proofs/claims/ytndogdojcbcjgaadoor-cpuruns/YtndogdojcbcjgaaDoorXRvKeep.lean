/- tierlinekeep.Rv: raw numbers made an instruction that may be; what Decode answers to an instruction's word (written by gen/mkrvk.py). -/
import Derived.Test.YtndogdojcbcjgaaDoorGroupV
import Derived.Test.YtndogdojcbcjgaaDoorGroupB
namespace Go.Proofs.YtndogdojcbcjgaaDoor
open Go Go.RowKit

/-- Which ops have which shape. -/
theorem shape_cases (k : Nat) (h0 : 1 ≤ k) (h1 : k ≤ 29) : (k ≤ 11 ∧ shOf k = 0) ∨ (k = 18 ∧ shOf k = 2) ∨ (k = 19 ∧ shOf k = 2) ∨ (12 ≤ k ∧ k ≤ 17 ∧ shOf k = 1) ∨ (k = 20 ∧ shOf k = 1) ∨ (k = 27 ∧ shOf k = 1) ∨ (k = 21 ∧ shOf k = 3) ∨ (22 ≤ k ∧ k ≤ 25 ∧ shOf k = 4) ∨ (k = 26 ∧ shOf k = 5) ∨ (k = 28 ∧ shOf k = 6) ∨ (k = 29 ∧ shOf k = 7) :=
  ops29 (Q := fun k => (k ≤ 11 ∧ shOf k = 0) ∨ (k = 18 ∧ shOf k = 2) ∨ (k = 19 ∧ shOf k = 2) ∨ (12 ≤ k ∧ k ≤ 17 ∧ shOf k = 1) ∨ (k = 20 ∧ shOf k = 1) ∨ (k = 27 ∧ shOf k = 1) ∨ (k = 21 ∧ shOf k = 3) ∨ (22 ≤ k ∧ k ≤ 25 ∧ shOf k = 4) ∨ (k = 26 ∧ shOf k = 5) ∨ (k = 28 ∧ shOf k = 6) ∨ (k = 29 ∧ shOf k = 7)) (by decide) k h0 h1
/-- The instruction that is made of raw numbers. -/
def mkQ (s : Nat) (op d a b i : Int) : Mi :=
  match s with
  | 0 => ⟨op, d, a, b, 0⟩
  | 1 => ⟨op, d, a, 0, pickB i 4096 - 2048⟩
  | 2 => ⟨op, d, a, 0, pickB i 64⟩
  | 3 => ⟨op, 0, a, b, pickB i 4096 - 2048⟩
  | 4 => ⟨op, 0, a, b, 4 * pickB i 2048 - 4096⟩
  | 5 => ⟨op, d, 0, 0, 4 * pickB i 524288 - 1048576⟩
  | 6 => ⟨op, d, 0, 0, pickB i 1048576 - 524288⟩
  | _ => ⟨op, 0, 0, 0, 0⟩
def opK (x : Mi) : Nat := 1 + (pickB x.op 29).toNat
def mkRv (x : Mi) : Mi := mkQ (shOf (opK x)) (opK x) (pickB x.rd 32) (pickB x.rs1 32) (pickB x.rs2 32) x.imm
theorem opK_bounds (x : Mi) : 1 ≤ opK x ∧ opK x ≤ 29 := by
  have := pickB_bounds x.op 29 (by decide)
  unfold opK; omega
theorem mkRv_op (x : Mi) : (mkRv x).op = opK x := by
  unfold mkRv
  have hs := shOf_lt _ (opK_bounds x).1 (opK_bounds x).2
  rcases eight _ hs with h | h | h | h | h | h | h | h <;> rw [h] <;> rfl
theorem mkRv_ok (x : Mi) : MiOk (mkRv x) := by
  have hop := mkRv_op x
  obtain ⟨b0, b1⟩ := opK_bounds x
  refine ⟨by omega, by omega, ?_⟩
  rw [hop, Int.toNat_natCast]
  have d := pickB_bounds x.rd 32 (by decide)
  have a := pickB_bounds x.rs1 32 (by decide)
  have b := pickB_bounds x.rs2 32 (by decide)
  have i1 := pickB_bounds x.imm 4096 (by decide)
  have i2 := pickB_bounds x.imm 64 (by decide)
  have i4 := pickB_bounds x.imm 2048 (by decide)
  have i5 := pickB_bounds x.imm 524288 (by decide)
  have i6 := pickB_bounds x.imm 1048576 (by decide)
  have hs := shOf_lt _ b0 b1
  unfold mkRv
  rw [fits_iff]
  generalize pickB x.rd 32 = d at *
  generalize pickB x.rs1 32 = a at *
  generalize pickB x.rs2 32 = b at *
  rcases eight _ hs with h | h | h | h | h | h | h | h <;> rw [h] <;> simp only [mkQ, shF, shL] <;> simp
  all_goals first | omega | (refine ⟨by omega, by omega, by omega, by omega, by omega, by omega, ?_⟩; exact tmod4' _ (by omega)) | (refine ⟨by omega, by omega, by omega, by omega, ?_⟩; exact tmod4' _ (by omega))

/-- What Decode answers to an instruction's word. -/
theorem dec_word (x : Mi) (h : MiOk x) : decX (wordI x) = x ∧ decE (wordI x) = 0 ∧ 0 < wordI x ∧ wordI x < 4294967296 ∧ partsOf (wordI x) = wordP x ∧ wordI x % 4 = 3 := by
  obtain ⟨ok, hit, inst⟩ := word_parts x h
  have hp : partsOf (wordI x) = wordP x := partsOf_num _ ok
  have hb := ok.num
  have hf := find_hit (wordP x) x.op.toNat (by have := h.op1; omega) (by have := h.op2; omega) hit
  have hn : ¬ (wordI x < 0 ∨ 4294967295 < wordI x) := by unfold wordI; omega
  have ha : (wordP x).a % 4 = 3 := by
    have hS := sett_of x.op.toNat (by have := h.op1; omega) (by have := h.op2; omega)
    have hs := shOf_lt x.op.toNat (by have := h.op1; omega) (by have := h.op2; omega)
    have h3 := hS.a3
    unfold wordP
    rcases eight _ hs with e | e | e | e | e | e | e | e <;> rw [e] <;> exact h3
  have h3 : wordI x % 4 = 3 := by unfold wordI Pts.num; omega
  refine ⟨?_, ?_, ?_, by unfold wordI; omega, hp, h3⟩
  · unfold decX
    rw [if_neg hn, hp, hf]
    dsimp only
    rw [inst, if_pos h.fits]
  · unfold decE
    rw [if_neg hn, hp, hf]
    dsimp only
    rw [inst, if_pos h.fits]
  · have : 0 ≤ wordI x := by unfold wordI; omega
    omega
/-- An instruction that Decode has told has the word that it was told of. -/
theorem word_dec (w : Int) (h : decE w = 0) : MiOk (decX w) ∧ wordI (decX w) = w := by
  unfold decE at h
  by_cases h1 : w < 0 ∨ 4294967295 < w
  · rw [if_pos h1] at h; omega
  rw [if_neg h1] at h
  unfold decX
  rw [if_neg h1]
  cases hf : findOp (partsOf w) 1 with
  | none => rw [hf] at h; simp at h
  | some k =>
    rw [hf] at h
    dsimp only at h ⊢
    obtain ⟨k0, k1, hk⟩ := find_some _ _ hf
    by_cases hfit : fitsB (shOf k) (instR k (partsOf w)) = true
    · rw [if_pos hfit]
      have hop : (instR k (partsOf w)).op = (k : Int) := rfl
      refine ⟨⟨by rw [hop]; omega, by rw [hop]; omega, by rw [hop]; simpa using hfit⟩, ?_⟩
      unfold wordI wordP
      rw [hop, Int.toNat_natCast]
      have := parts_wordQ (shOf k) (shOf_lt k k0 k1) (sA k) (sB k) (sC k) (sett_of k k0 k1) k (partsOf w) (partsOf_ok w (by omega) (by omega)) hk hfit
      unfold instR
      rw [this]
      exact num_partsOf w
    · rw [if_neg hfit] at h; omega
theorem dec_bad (w : Int) (h : decE w ≠ 0) : decX w = zeroMi ∧ (decE w = 2 ↔ (w < 0 ∨ 4294967295 < w)) := by
  unfold decE at h ⊢
  unfold decX
  by_cases h1 : w < 0 ∨ 4294967295 < w
  · rw [if_pos h1, if_pos h1]; simp [h1]
  rw [if_neg h1] at h ⊢
  rw [if_neg h1]
  cases hf : findOp (partsOf w) 1 with
  | none => exact ⟨rfl, by simp [h1]⟩
  | some k =>
    rw [hf] at h
    dsimp only at h ⊢
    by_cases hfit : fitsB (shOf k) (instR k (partsOf w)) = true
    · rw [if_pos hfit] at h; exact absurd rfl h
    · rw [if_neg hfit, if_neg hfit]; exact ⟨rfl, by simp [h1]⟩

end Go.Proofs.YtndogdojcbcjgaaDoor
