/- What follows where the check of a program answers 0; rows that a call owns. -/
import Derived.Test.YtapjfiihfgndeaaDoorCheck
import Derived.Test.YtapjfiihfgndeaaDoorOwn
namespace Go.Proofs.YtapjfiihfgndeaaDoor
open Go Go.RowKit

theorem firstErr_zero {α : Type} {g : α → Int} {l : List α} (h : firstErr g l = 0) : ∀ x ∈ l, g x = 0 := by
  induction l with
  | nil => simp
  | cons y r ih =>
    unfold firstErr at h
    by_cases hy : g y = 0
    · rw [if_pos hy] at h
      intro x hx
      rcases List.mem_cons.1 hx with rfl | hx
      · exact hy
      · exact ih h x hx
    · rw [if_neg hy] at h
      exact absurd h hy
/-- What a well shaped program is. -/
theorem codeProg_zero {p : List Fn} (h : codeProg p = 0) : 1 ≤ p.length ∧ p.length ≤ 4 ∧ ∀ f ∈ p, codeFunc f p.length = 0 := by
  unfold codeProg at h
  by_cases h1 : p.length < 1
  · rw [if_pos h1] at h; cases h
  rw [if_neg h1] at h
  by_cases h2 : 4 < p.length
  · rw [if_pos h2] at h; cases h
  rw [if_neg h2] at h
  exact ⟨by omega, by omega, firstErr_zero h⟩
theorem codeFunc_zero {f : Fn} {funcs : Int} (h : codeFunc f funcs = 0) : 1 ≤ f.regs ∧ f.regs ≤ 12 ∧ 0 ≤ f.params ∧ f.params ≤ 2 ∧ f.params ≤ f.regs ∧ 1 ≤ f.code.length ∧ f.code.length ≤ 40 ∧ ∀ x ∈ f.code, codeInstr x f.regs f.code.length funcs = 0 := by
  unfold codeFunc at h
  by_cases h1 : f.regs < 1
  · rw [if_pos h1] at h; cases h
  rw [if_neg h1] at h
  by_cases h2 : 12 < f.regs
  · rw [if_pos h2] at h; cases h
  rw [if_neg h2] at h
  by_cases h3 : f.params < 0
  · rw [if_pos h3] at h; cases h
  rw [if_neg h3] at h
  by_cases h4 : 2 < f.params
  · rw [if_pos h4] at h; cases h
  rw [if_neg h4] at h
  by_cases h5 : f.regs < f.params
  · rw [if_pos h5] at h; cases h
  rw [if_neg h5] at h
  by_cases h6 : f.code.length < 1
  · rw [if_pos h6] at h; cases h
  rw [if_neg h6] at h
  by_cases h7 : 40 < f.code.length
  · rw [if_pos h7] at h; cases h
  rw [if_neg h7] at h
  exact ⟨by omega, by omega, by omega, by omega, by omega, by omega, by omega, firstErr_zero h⟩

/-- A row that was written out. -/
theorem own_built (w : World) (base t : Nat) (cs : List Value) (hb : base ≤ w.heap.size) (hm : cs.length ≤ maxLen) : (w.alloc (.cells cs.toArray t)).ownsRow base t 1 (.slice (some ⟨w.heap.size, 0, none⟩) cs.length cs.length) cs.length cs :=
  ⟨by simp, .inr ⟨w.heap.size, cs.length, cs.toArray, rfl, hb, heap_alloc_new w _, Nat.le_refl _, hm, by simp, by simp⟩⟩
theorem own_base {w : World} {base base' t size n : Nat} {v : Value} {xs : List Value} (h : w.ownsRow base t size v n xs) (hb : base' ≤ base) : w.ownsRow base' t size v n xs := by
  refine ⟨h.1, ?_⟩
  rcases h.2 with h2 | ⟨g, cap, cur, hv, hg, r⟩
  · exact Or.inl h2
  · exact Or.inr ⟨g, cap, cur, hv, by omega, r⟩

end Go.Proofs.YtapjfiihfgndeaaDoor
