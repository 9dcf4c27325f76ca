/- Numbers of a run stay numbers of 64 bits (mathematics; no program is walked). -/
import Derived.Test.YtndogdojcbcjgaaDoorGroupE
import Derived.Test.YtndogdojcbcjgaaDoorGroupB
namespace Go.Proofs.YtndogdojcbcjgaaDoor
open Go Go.RowKit

/-- All numbers of a state fit. -/
structure FitSt (S : St) : Prop where
  regs : ∀ f ∈ S.frames, ∀ z ∈ f.regs, Fits z
  mem : ∀ z ∈ S.mem, Fits z
  ans : ∀ z ∈ S.answers, Fits z
/-- All numbers of a program fit. -/
def FitP (P : List Fn) : Prop := ∀ f ∈ P, ∀ x ∈ f.code, Fits x.imm
theorem fits_zero : Fits 0 := by unfold Fits; omega
theorem fits_wrap (z : Int) : Fits (wrap64 z) := by unfold Fits wrap64; omega
theorem fits_bits (o : BinOp) (a b : Int) (h : ∃ x : BitVec 64, bits o .i64 a b = x.toInt) : Fits (bits o .i64 a b) := by
  obtain ⟨x, h⟩ := h
  rw [h]
  have h1 := BitVec.toInt_lt (x := x)
  have h2 := BitVec.le_toInt (x := x)
  unfold Fits
  simp at h1 h2
  omega
theorem fits_get {l : List Int} (h : ∀ z ∈ l, Fits z) (i : Nat) : Fits (l.getD i 0) := by
  by_cases hi : i < l.length
  · have e : l.getD i 0 = l[i] := by simp [List.getD, hi]
    rw [e]; exact h _ (List.getElem_mem hi)
  · have e : l.getD i 0 = 0 := by simp [List.getD, List.getElem?_eq_none (show l.length ≤ i by omega)]
    rw [e]; exact fits_zero
theorem fits_set {l : List Int} (h : ∀ z ∈ l, Fits z) (i : Nat) {v : Int} (hv : Fits v) : ∀ z ∈ l.set i v, Fits z := fun z hz => by
  rcases List.mem_or_eq_of_mem_set hz with h1 | rfl
  · exact h z h1
  · exact hv
theorem fits_sar (a : Int) (n : Nat) (ha : Fits a) : Fits (a / 2 ^ n) := by
  have hp : (0 : Int) < 2 ^ n := Int.pow_pos (by decide)
  unfold Fits at ha ⊢
  generalize (2 : Int) ^ n = q at hp
  have h1 : a / q ≤ 9223372036854775807 := by
    rcases Int.lt_or_le a 0 with h | h
    · have := Int.ediv_neg_of_neg_of_pos h hp; omega
    · exact Int.le_trans (Int.ediv_le_self q h) (by omega)
  have h2 : -9223372036854775808 ≤ a / q := by
    have h4 : -9223372036854775808 * q ≤ -9223372036854775808 * 1 := Int.mul_le_mul_of_nonpos_left (by omega) (by omega)
    exact Int.le_ediv_of_mul_le hp (by omega)
  omega
theorem fits_bool (p : Prop) [Decidable p] : Fits (if p then 1 else 0) := by
  by_cases h : p
  · rw [if_pos h]; unfold Fits; omega
  · rw [if_neg h]; exact fits_zero
theorem fits_mk (op a b imm : Int) (ha : Fits a) (hb : Fits b) (hi : Fits imm) : Fits (mk op a b imm) := by
  have ea := to_bv a (by unfold Fits at ha; omega) (by unfold Fits at ha; omega)
  have eb := to_bv b (by unfold Fits at hb; omega) (by unfold Fits at hb; omega)
  unfold mk
  by_cases h1 : op = 1
  · rw [if_pos h1]
    exact hi
  rw [if_neg h1]
  by_cases h2 : op = 2
  · rw [if_pos h2]
    exact fits_wrap _
  rw [if_neg h2]
  by_cases h3 : op = 3
  · rw [if_pos h3]
    exact fits_wrap _
  rw [if_neg h3]
  by_cases h4 : op = 4
  · rw [if_pos h4]
    exact fits_wrap _
  rw [if_neg h4]
  by_cases h5 : op = 5
  · rw [if_pos h5]
    by_cases hz : b = 0
    · rw [if_pos hz]; exact fits_zero
    · rw [if_neg hz]; exact fits_wrap _
  rw [if_neg h5]
  by_cases h6 : op = 6
  · rw [if_pos h6]
    exact fits_bits _ _ _ ⟨BitVec.ofInt 64 a &&& BitVec.ofInt 64 b, by rw [← bits_and_bv, ea, eb]⟩
  rw [if_neg h6]
  by_cases h7 : op = 7
  · rw [if_pos h7]
    exact fits_bits _ _ _ ⟨BitVec.ofInt 64 a ||| BitVec.ofInt 64 b, by rw [← bits_or_bv, ea, eb]⟩
  rw [if_neg h7]
  by_cases h8 : op = 8
  · rw [if_pos h8]
    exact fits_bits _ _ _ ⟨BitVec.ofInt 64 a ^^^ BitVec.ofInt 64 b, by rw [← bits_xor_bv, ea, eb]⟩
  rw [if_neg h8]
  by_cases h9 : op = 9
  · rw [if_pos h9]
    exact fits_wrap _
  rw [if_neg h9]
  by_cases h10 : op = 10
  · rw [if_pos h10]
    exact fits_sar a _ ha
  rw [if_neg h10]
  by_cases h11 : op = 11
  · rw [if_pos h11]
    exact fits_bool _
  rw [if_neg h11]
  by_cases h12 : op = 12
  · rw [if_pos h12]
    exact fits_bool _
  rw [if_neg h12]
  exact fits_zero
theorem fits_put {f : Fr} (h : ∀ z ∈ f.regs, Fits z) (r : Int) {v : Int} (hv : Fits v) : ∀ z ∈ (putF f r v).regs, Fits z := fits_set h _ hv
theorem fits_imm {P : List Fn} (hP : FitP P) (f : Fr) : Fits (insOfFr P f).imm := by
  unfold insOfFr insD fnD
  by_cases h1 : f.fn.toNat < P.length
  · have e : P.getD f.fn.toNat ⟨0, 0, []⟩ = P[f.fn.toNat] := by simp [List.getD, h1]
    rw [e]
    by_cases h2 : f.pc.toNat < P[f.fn.toNat].code.length
    · simp only [List.getD, List.getElem?_eq_getElem h2, Option.getD_some]
      exact hP _ (List.getElem_mem h1) _ (List.getElem_mem h2)
    · simp only [List.getD, List.getElem?_eq_none (show P[f.fn.toNat].code.length ≤ f.pc.toNat by omega), Option.getD_none]
      exact fits_zero
  · have e : P.getD f.fn.toNat ⟨0, 0, []⟩ = ⟨0, 0, []⟩ := by simp [List.getD, List.getElem?_eq_none (show P.length ≤ f.fn.toNat by omega)]
    rw [e]
    exact fits_zero
theorem fits_snoc {fs : List Fr} {f : Fr} (h1 : ∀ g ∈ fs, ∀ z ∈ g.regs, Fits z) (h2 : ∀ z ∈ f.regs, Fits z) : ∀ g ∈ fs ++ [f], ∀ z ∈ g.regs, Fits z := fun g hg => by
  rcases List.mem_append.1 hg with h | h
  · exact h1 g h
  · obtain rfl : g = f := by simpa using h
    exact h2
theorem stepS_fits {P : List Fn} (hP : FitP P) {S : St} (h : FitSt S) : FitSt (stepS P S) := by
  obtain ⟨hr, hm, ha⟩ := h
  unfold stepS
  split
  · exact ⟨hr, hm, ha⟩
  split
  · exact ⟨hr, hm, ha⟩
  rename_i f hf
  have hff : ∀ z ∈ f.regs, Fits z := hr f (List.mem_of_getLast? hf)
  have hdl : ∀ g ∈ S.frames.dropLast, ∀ z ∈ g.regs, Fits z := fun g hg => hr g ((List.dropLast_sublist _).subset hg)
  have hg : ∀ r, Fits (regD f r) := fun r => fits_get hff _
  have hi := fits_imm hP f
  split
  · unfold doS
    dsimp only
    split
    · exact ⟨fits_snoc hdl (fits_put hff _ (fits_get hm _)), hm, ha⟩
    split
    · exact ⟨fits_snoc hdl hff, fits_set hm _ (hg _), ha⟩
    split
    · exact ⟨fits_snoc hdl hff, hm, ha⟩
    split
    · exact ⟨fits_snoc hdl hff, hm, ha⟩
    split
    · split
      · exact ⟨hr, hm, ha⟩
      · refine ⟨fun g hgm => ?_, hm, ha⟩
        rcases List.mem_append.1 hgm with h | h
        · exact hdl g h
        · simp at h
          rcases h with rfl | rfl
          · exact hff
          · intro z hz
            simp only [begunFr, regsOf] at hz
            rcases List.mem_append.1 hz with h | h
            · have := List.mem_of_mem_take h
              simp at this
              rcases this with rfl | rfl
              · exact hg _
              · exact hg _
            · have := List.eq_of_mem_replicate h
              rw [this]; exact fits_zero
    split
    · refine ⟨fits_snoc hdl (fits_put hff _ ?_), hm, fun z hz => ha z (List.mem_of_mem_tail hz)⟩
      cases hS : S.answers with
      | nil => exact fits_zero
      | cons a l => exact ha a (by rw [hS]; simp)
    split
    · unfold retS
      split
      · exact ⟨fun g hgm => (by cases hgm), hm, ha⟩
      · rename_i g hgl
        refine ⟨fits_snoc (fun x hx => hdl x ((List.dropLast_sublist _).subset hx)) (fits_put (hdl g (List.mem_of_getLast? hgl)) _ (hg _)), hm, ha⟩
    · exact ⟨fits_snoc hdl (fits_put hff _ (fits_mk _ _ _ _ (hg _) (hg _) hi)), hm, ha⟩
  · exact ⟨hr, hm, ha⟩
theorem walkS_fits {P : List Fn} (hP : FitP P) : ∀ (n : Nat) {S : St}, FitSt S → FitSt (walkS P n S)
  | 0, _, h => h
  | n + 1, S, h => by
    unfold walkS
    split
    · exact walkS_fits hP n (stepS_fits hP h)
    · exact h
end Go.Proofs.YtndogdojcbcjgaaDoor
