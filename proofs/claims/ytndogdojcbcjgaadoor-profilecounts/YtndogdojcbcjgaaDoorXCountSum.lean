/- Sums of counts, and how counts are read: plain mathematics. -/
import Derived.Test.YtndogdojcbcjgaaDoorXProfCounts
namespace Go.Proofs.YtndogdojcbcjgaaDoor
open Go Go.RowKit

/-- All counts ahead of a place. -/
def psC (C : List (List Int)) (i k : Nat) : Int := sumLL (C.take i) + sumL ((C.getD i []).take k)
theorem sumLL_append (a b : List (List Int)) : sumLL (a ++ b) = sumLL a + sumLL b := by
  induction a with
  | nil => simp [sumLL]
  | cons x a ih => simp only [List.cons_append, sumLL, ih]; omega
theorem psC_zero (C : List (List Int)) : psC C 0 0 = 0 := by simp [psC, sumLL, sumL]
theorem psC_next {C : List (List Int)} {i k : Nat} (hk : k < (C.getD i []).length) : psC C i (k + 1) = psC C i k + cellC C i k := by
  unfold psC cellC
  rw [List.take_add_one, List.getElem?_eq_getElem hk, sumL_append]
  have : (C.getD i []).getD k 0 = (C.getD i [])[k] := by rw [List.getD_eq_getElem?_getD, List.getElem?_eq_getElem hk]; rfl
  rw [this]
  simp [sumL]
  omega
theorem psC_row {C : List (List Int)} {i : Nat} (hi : i < C.length) : psC C i (C.getD i []).length = psC C (i + 1) 0 := by
  unfold psC
  rw [List.take_add_one, List.getElem?_eq_getElem hi, sumLL_append, List.take_of_length_le (Nat.le_refl _)]
  have : C.getD i [] = C[i] := by simp [List.getD, hi]
  rw [this]
  simp [sumLL, sumL]
theorem psC_end {C : List (List Int)} : psC C C.length 0 = sumLL C := by
  unfold psC
  rw [List.take_of_length_le (Nat.le_refl _)]
  simp [sumL]
theorem sumL_take_le {l : List Int} (h : ∀ b, 0 ≤ l.getD b 0) (k : Nat) : 0 ≤ sumL (l.take k) ∧ sumL (l.take k) ≤ sumL l := by
  induction l generalizing k with
  | nil => simp [sumL]
  | cons a l ih =>
    have h0 : 0 ≤ a := by simpa using h 0
    have hl : ∀ b, 0 ≤ l.getD b 0 := fun b => by simpa using h (b + 1)
    have h1 := (sumL_get hl 0).2
    cases k with
    | zero => simp [sumL]; omega
    | succ k => have := ih hl k; simp [sumL]; omega
theorem psC_le {C : List (List Int)} (h : ∀ a b, 0 ≤ cellC C a b) (i k : Nat) : 0 ≤ psC C i k ∧ psC C i k ≤ sumLL C := by
  induction C generalizing i with
  | nil => simp [psC, sumLL, sumL]
  | cons r C ih =>
    have hr : ∀ b, 0 ≤ r.getD b 0 := fun b => by simpa [cellC] using h 0 b
    have h1 : 0 ≤ sumL r := (sumL_get hr 0).2
    have hC : ∀ a b, 0 ≤ cellC C a b := fun a b => by simpa [cellC] using h (a + 1) b
    have h2 := (sumLL_get hC 0).2
    cases i with
    | zero => have := sumL_take_le hr k; simp [psC, sumLL] at this ⊢; omega
    | succ i => have := ih hC i; simp [psC, sumLL] at this ⊢; omega
/-- How counts are read. -/
theorem CntAt.read {w : World} {g : Nat} {VV : Nat → Value} {P : List Fn} {C : List (List Int)} (hs : CShape P C) (h : CntAt w g P.length VV C) {k : Nat} (hk : k < P.length) (h1 : 1 ≤ P[k].code.length) :
    ∃ r c, w.cell? ⟨g, k, none⟩ = some (.slice (some ⟨r, 0, none⟩) P[k].code.length c) ∧ P[k].code.length ≤ c ∧ ∀ j, j < P[k].code.length → w.cell? ⟨r, j, none⟩ = some (.int .i64 (cellC C k j)) := by
  have hl := hs.2 k hk
  have ho := h.slots.own k hk
  obtain ⟨r, c, e, -, -, -, h4⟩ := own_at ho (by omega)
  unfold OwnI at ho
  rw [e] at ho
  rw [hl] at ho e h4
  exact ⟨r, c, by rw [← e]; exact out_cell h.out k hk, h4, fun j hj => row_cell ho j hj⟩
end Go.Proofs.YtndogdojcbcjgaaDoor
