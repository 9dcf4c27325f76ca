/- Is a place a target? Plain mathematics. -/
import Derived.Test.YtpkgibdbmmhgdaaDoorXCountFlow
namespace Go.Proofs.YtpkgibdbmmhgdaaDoor
open Go Go.RowKit

/-- Does one of the first places lead to a place? -/
def anyT (f : Fn) (pc : Nat) : Nat → Bool
  | 0 => false
  | k + 1 => anyT f pc k || (((insD f k).op == 15 || (insD f k).op == 16) && (insD f k).imm == (pc : Int))
theorem anyT_none {f : Fn} {pc : Nat} : ∀ k, anyT f pc k = false → ∀ q, q < k → ((insD f q).op = 15 ∨ (insD f q).op = 16) → (insD f q).imm ≠ (pc : Int)
  | 0, _, q, h, _ => by omega
  | k + 1, h, q, hq, ho => by
    rw [anyT, Bool.or_eq_false_iff] at h
    by_cases e : q = k
    · subst e
      intro hi
      have h2 := h.2
      rw [hi] at h2
      rcases ho with h3 | h3 <;> simp [h3] at h2
    · exact anyT_none k h.1 q (by omega) ho
theorem anyT_more {f : Fn} {pc k : Nat} (h : anyT f pc k = true) : anyT f pc (k + 1) = true := by rw [anyT, h]; rfl
theorem anyT_yes {f : Fn} {pc k : Nat} (h : (insD f k).op = 15 ∨ (insD f k).op = 16) (hi : (insD f k).imm = (pc : Int)) : anyT f pc (k + 1) = true := by
  rw [anyT, hi]
  rcases h with h | h <;> simp [h]
theorem anyT_op {f : Fn} {pc k : Nat} (h : anyT f pc k = false) (h1 : (insD f k).op ≠ 15) (h2 : (insD f k).op ≠ 16) : anyT f pc (k + 1) = false := by
  rw [anyT, h]; simp [h1, h2]
theorem anyT_imm {f : Fn} {pc k : Nat} (h : anyT f pc k = false) (hi : (insD f k).imm ≠ (pc : Int)) : anyT f pc (k + 1) = false := by
  rw [anyT, h]; simp [hi]
theorem eligible_of {P : List Fn} {i pc : Nat} (hi : i < P.length) (h1 : 1 ≤ pc) (ht : anyT P[i] pc P[i].code.length = false) (ho : ¬ 15 ≤ (insD P[i] (pc - 1)).op) : Eligible P i pc := by
  have hD : P.getD i ⟨0, 0, []⟩ = P[i] := by simp [List.getD, hi]
  unfold Eligible
  rw [hD]
  exact ⟨h1, by omega, fun q hq h => anyT_none _ ht q hq h⟩
/-- How short counts fall, so far. -/
def ShortOk (T : St) (i pc : Nat) (x : Int) : Prop := x = 0 ∨ (x = 1 ∧ ∃ a b, AtTop T a b ∧ (a < i ∨ (a = i ∧ b < pc)))
theorem ShortOk.start (T : St) : ShortOk T 0 0 0 := Or.inl rfl
theorem ShortOk.on {T : St} {i pc pc' : Nat} {x : Int} (h : ShortOk T i pc x) (hp : pc ≤ pc') : ShortOk T i pc' x := by
  rcases h with h | ⟨h, a, b, h1, h2⟩
  · exact Or.inl h
  · exact Or.inr ⟨h, a, b, h1, by omega⟩
theorem ShortOk.row {T : St} {i pc : Nat} {x : Int} (h : ShortOk T i pc x) : ShortOk T (i + 1) 0 x := by
  rcases h with h | ⟨h, a, b, h1, h2⟩
  · exact Or.inl h
  · exact Or.inr ⟨h, a, b, h1, by omega⟩
theorem ShortOk.top {T : St} {i pc : Nat} {x : Int} (h : ShortOk T i pc x) (ht : AtTop T i pc) : x = 0 ∧ ShortOk T i (pc + 1) 1 := by
  refine ⟨?_, Or.inr ⟨rfl, i, pc, ht, Or.inr ⟨rfl, by omega⟩⟩⟩
  rcases h with h | ⟨_, a, b, h1, h2⟩
  · exact h
  · have := h1.one ht; omega
theorem ShortOk.le {T : St} {i pc : Nat} {x : Int} (h : ShortOk T i pc x) : 0 ≤ x ∧ x ≤ 1 := by
  rcases h with h | ⟨h, _⟩ <;> omega
end Go.Proofs.YtpkgibdbmmhgdaaDoor
