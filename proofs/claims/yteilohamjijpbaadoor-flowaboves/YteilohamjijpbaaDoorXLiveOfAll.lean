/- Contract of the document's LiveOf: what is live ahead of each instruction, register by register. -/
import Derived.Test.YteilohamjijpbaaDoorXLiveOf
namespace Go.Proofs.YteilohamjijpbaaDoor
open Go Go.RowKit

theorem fault_zeroL (P : List Fn) (v : Value) (k : Nat) (hk : k < P.length) (h : ProofAns P 0) (w : World) (hv : ProgVal w v P) :
    Calls Tryd.prog 37 #[.agg #[v], .int .i64 k] w fun e w' => e = .returned (.int .i64 0) ∧ Below w.heap.size w w' :=
  (fault_any P v k w hv).mono fun _ _ ⟨E, he, hE, hb⟩ => ⟨by
    rcases hE with ⟨h1, h2⟩ | ⟨_, h2, _⟩ | ⟨_, _, rfl⟩
    · rw [proofAns_unique h2 h] at h1; cases h1
    · exact absurd (by omega) h2
    · exact he, hb⟩
theorem fault_badL (P : List Fn) (v : Value) (fn : Int) (h : ¬ (ProofAns P 0 ∧ 0 ≤ fn ∧ fn < P.length)) (w : World) (hv : ProgVal w v P) :
    Calls Tryd.prog 37 #[.agg #[v], .int .i64 fn] w fun e w' => ∃ E, e = .returned (.int .i64 E) ∧ (E != 0) = true ∧ LiveAns P fn E [] ∧ Below w.heap.size w w' :=
  (fault_any P v fn w hv).mono fun _ _ ⟨E, he, hE, hb⟩ => ⟨E, he, by
    rcases hE with ⟨h1, h2⟩ | ⟨_, h2, rfl⟩ | ⟨h1, h2, rfl⟩
    · have : E ≠ 0 := by simpa using h1
      simpa using this
    · rfl
    · exact absurd ⟨h1, h2⟩ h, by
    rcases hE with ⟨h1, h2⟩ | ⟨h1, h2, rfl⟩ | ⟨h1, h2, rfl⟩
    · exact Or.inl ⟨by simpa using h1, h2, rfl⟩
    · exact Or.inr (Or.inl ⟨h1, h2, rfl, rfl⟩)
    · exact absurd ⟨h1, h2⟩ h, hb⟩
theorem any_take {α : Type} (l : List α) (p : α → Bool) (e : Nat) (t : α) (h : l[e]? = some t) : (l.take (e + 1)).any p = ((l.take e).any p || p t) := by
  rw [List.take_add_one, h, List.any_append]; simp

end Go.Proofs.YteilohamjijpbaaDoor
