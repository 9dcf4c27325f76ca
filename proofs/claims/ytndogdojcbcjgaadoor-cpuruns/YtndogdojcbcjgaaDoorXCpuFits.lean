/- Numbers of the machine stay numbers of 64 bits (mathematics; no program is walked). -/
import Derived.Test.YtndogdojcbcjgaaDoorGroupX
import Derived.Test.YtndogdojcbcjgaaDoorGroupA
import Derived.Test.YtndogdojcbcjgaaDoorXRvKeep
import Derived.Test.YtndogdojcbcjgaaDoorGroupU
namespace Go.Proofs.YtndogdojcbcjgaaDoor
open Go Go.RowKit

/-- All numbers of a machine fit. -/
structure FitCp (c : Cp) : Prop where
  regs : ∀ z ∈ c.regs, Fits z
  data : ∀ z ∈ c.data, Fits z
theorem fitC_zero : Fits 0 := by unfold Fits; omega
theorem fitC_small (z : Int) (h0 : -1099511627776 ≤ z) (h1 : z ≤ 1099511627776) : Fits z := by unfold Fits; omega
theorem fitC_bits (o : BinOp) (a b : Int) (h : ∃ x : BitVec 64, bits o .i64 a b = x.toInt) : Fits (bits o .i64 a b) := by
  obtain ⟨x, h⟩ := h
  rw [h]
  have h1 := BitVec.toInt_lt (x := x)
  have h2 := BitVec.le_toInt (x := x)
  unfold Fits
  simp at h1 h2
  omega
theorem fitC_sar (a : Int) (n : Nat) (ha : Fits a) : Fits (a / 2 ^ n) := by
  have hp : (0 : Int) < 2 ^ n := Int.pow_pos (by decide)
  unfold Fits at ha ⊢
  generalize (2 : Int) ^ n = q at hp
  have h1 : a / q ≤ 9223372036854775807 := by
    rcases Int.lt_or_le a 0 with h | h
    · have := Int.ediv_neg_of_neg_of_pos h hp; omega
    · exact Int.le_trans (Int.ediv_le_self q h) (by omega)
  have h2 : -9223372036854775808 ≤ a / q := by
    have h4 : -9223372036854775808 * q ≤ -9223372036854775808 * 1 := Int.mul_le_mul_of_nonpos_left (by omega) (by omega)
    exact Int.le_ediv_of_mul_le hp (by omega)
  omega
theorem fitC_bool (p : Prop) [Decidable p] : Fits (if p then 1 else 0) := by
  by_cases h : p
  · rw [if_pos h]; unfold Fits; omega
  · rw [if_neg h]; exact fitC_zero
theorem fits_md (op a b : Int) (ha : Fits a) (hb : Fits b) : Fits (mdC op a b) := by
  have ea := to_bv a (by unfold Fits at ha; omega) (by unfold Fits at ha; omega)
  have eb := to_bv b (by unfold Fits at hb; omega) (by unfold Fits at hb; omega)
  unfold mdC
  by_cases h1 : op = 1 ∨ op = 12
  · rw [if_pos h1]; exact fits_wrap _
  rw [if_neg h1]
  by_cases h2 : op = 2
  · rw [if_pos h2]; exact fits_wrap _
  rw [if_neg h2]
  by_cases h3 : op = 3
  · rw [if_pos h3]; exact fits_wrap _
  rw [if_neg h3]
  by_cases h4 : op = 4
  · rw [if_pos h4]
    by_cases hz : b = 0
    · rw [if_pos hz]; exact fitC_small _ (by omega) (by omega)
    · rw [if_neg hz]; exact fits_wrap _
  rw [if_neg h4]
  by_cases h5 : op = 5 ∨ op = 13
  · rw [if_pos h5]
    exact fitC_bits _ _ _ ⟨BitVec.ofInt 64 a &&& BitVec.ofInt 64 b, by rw [← bits_and_bv, ea, eb]⟩
  rw [if_neg h5]
  by_cases h6 : op = 6 ∨ op = 14
  · rw [if_pos h6]
    exact fitC_bits _ _ _ ⟨BitVec.ofInt 64 a ||| BitVec.ofInt 64 b, by rw [← bits_or_bv, ea, eb]⟩
  rw [if_neg h6]
  by_cases h7 : op = 7 ∨ op = 15
  · rw [if_pos h7]
    exact fitC_bits _ _ _ ⟨BitVec.ofInt 64 a ^^^ BitVec.ofInt 64 b, by rw [← bits_xor_bv, ea, eb]⟩
  rw [if_neg h7]
  by_cases h8 : op = 8 ∨ op = 18
  · rw [if_pos h8]; exact fits_wrap _
  rw [if_neg h8]
  by_cases h9 : op = 9 ∨ op = 19
  · rw [if_pos h9]; exact fitC_sar a _ ha
  rw [if_neg h9]
  by_cases h10 : op = 10 ∨ op = 16
  · rw [if_pos h10]; exact fitC_bool _
  rw [if_neg h10]
  exact fitC_bool _
theorem fitC_get {l : List Int} (h : ∀ z ∈ l, Fits z) (i : Nat) : Fits (l.getD i 0) := by
  by_cases hi : i < l.length
  · have e : l.getD i 0 = l[i] := by simp [List.getD, hi]
    rw [e]; exact h _ (List.getElem_mem hi)
  · have e : l.getD i 0 = 0 := by simp [List.getD, List.getElem?_eq_none (show l.length ≤ i by omega)]
    rw [e]; exact fitC_zero
theorem fitC_set {l : List Int} (h : ∀ z ∈ l, Fits z) (i : Nat) {v : Int} (hv : Fits v) : ∀ z ∈ l.set i v, Fits z := fun z hz => by
  rcases List.mem_or_eq_of_mem_set hz with h1 | rfl
  · exact h z h1
  · exact hv
theorem FitCp.put {c : Cp} (h : FitCp c) (r : Int) {v : Int} (hv : Fits v) : FitCp (c.put r v) := by
  refine ⟨?_, h.data⟩
  unfold Cp.put
  dsimp only
  split
  · exact h.regs
  · exact fitC_set h.regs _ hv
theorem FitCp.go {c : Cp} (h : FitCp c) (p : Int) : FitCp (c.go p) := ⟨h.regs, h.data⟩
theorem FitCp.stop {c : Cp} (h : FitCp c) : FitCp c.stop := ⟨h.regs, h.data⟩
theorem FitCp.keep {c : Cp} (h : FitCp c) (t : Int) {v : Int} (hv : Fits v) : FitCp (c.keep t v) := ⟨h.regs, fitC_set h.data _ hv⟩
theorem FitCp.reg {c : Cp} (h : FitCp c) (r : Int) : Fits (c.reg r) := fitC_get h.regs _
theorem FitCp.word {c : Cp} (h : FitCp c) (t : Int) : Fits (c.word t) := fitC_get h.data _
theorem FitCp.begun {c : Cp} (h : FitCp c) : FitCp c.begun := ⟨fitC_set h.regs _ fitC_zero, h.data⟩
theorem FitCp.doC {c : Cp} (h : FitCp c) (x : Mi) (hx : MiOk x) {a b : Int} (ha : Fits a) (hb : Fits b) (p0 : 0 ≤ c.pc) (p1 : c.pc < 100000) : FitCp (doC x a b c) := by
  obtain ⟨-, -, -, -, -, -, i0, i1⟩ := mi_bounds x hx
  unfold Go.Proofs.YtndogdojcbcjgaaDoor.doC
  by_cases h20 : x.op = 20
  · rw [if_pos h20]
    split
    · exact (h.put _ (h.word _)).go _
    · exact h
  rw [if_neg h20]
  by_cases h21 : x.op = 21
  · rw [if_pos h21]
    split
    · exact (h.keep _ hb).go _
    · exact h
  rw [if_neg h21]
  by_cases h26 : x.op = 26
  · rw [if_pos h26]; exact (h.put _ (fitC_small _ (by omega) (by omega))).go _
  rw [if_neg h26]
  by_cases h27 : x.op = 27
  · rw [if_pos h27]
    split
    · exact (h.put _ (fitC_small _ (by omega) (by omega))).go _
    · exact h
  rw [if_neg h27]
  by_cases h28 : x.op = 28
  · rw [if_pos h28]; exact (h.put _ (fitC_small _ (by omega) (by omega))).go _
  rw [if_neg h28]
  by_cases h29 : x.op = 29
  · rw [if_pos h29]; exact h.stop
  rw [if_neg h29]
  by_cases hb2 : 22 ≤ x.op ∧ x.op ≤ 25
  · rw [if_pos hb2]; exact h.go _
  rw [if_neg hb2]
  refine (h.put _ (fits_md _ _ _ ha ?_)).go _
  unfold snd
  split
  · exact fitC_small _ (by omega) (by omega)
  · exact hb
/-- A step that is done leaves numbers that fit. -/
theorem FitCp.step {ws : List Int} {c : Cp} (h : FitCp c) (hl : ws.length ≤ 32768) (hE : stepE ws c = 0) : FitCp (stepC ws c) := by
  unfold stepE at hE
  by_cases h0 : c.pc < 0 ∨ (ws.length : Int) ≤ c.pc
  · rw [if_pos h0] at hE; omega
  rw [if_neg h0] at hE
  by_cases hd : decE (ws.getD c.pc.toNat 0) = 0
  · exact h.doC _ (word_dec _ hd).1 (h.reg _) (h.reg _) (by omega) (by omega)
  · rw [if_neg hd] at hE; omega
end Go.Proofs.YtndogdojcbcjgaaDoor
