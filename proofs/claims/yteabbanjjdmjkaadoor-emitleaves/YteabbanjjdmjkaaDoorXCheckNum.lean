/- What Check answers is one number. -/
import Derived.Test.YteabbanjjdmjkaaDoorXStFault
import Derived.Test.YteabbanjjdmjkaaDoorGroupD
namespace Go.Proofs.YteabbanjjdmjkaaDoor
open Go Go.RowKit

theorem check_num (P : List Fn) (s : St) : ∃ c, (∀ E, ProofAns P E → checkE E P s = c) ∧ (c = 0 → ProofAns P 0 ∧ mayB s = true ∧ FOk P s.frames) := by
  by_cases h : ∃ E, ProofAns P E
  · obtain ⟨E, hE⟩ := h
    refine ⟨checkE E P s, fun E' hE' => by rw [proofAns_unique hE' hE], fun h0 => ?_⟩
    unfold checkE at h0
    by_cases e : E = 0
    · subst e
      rw [if_neg (by simp)] at h0
      by_cases hm : (mayB s && framesB P s.frames) = true
      · have := Bool.and_eq_true_iff.1 hm
        exact ⟨hE, this.1, (framesB_iff P s.frames).1 this.2⟩
      · rw [if_neg hm] at h0; omega
    · rw [if_pos e] at h0; exact absurd h0 e
  · exact ⟨1, fun E hE => absurd ⟨E, hE⟩ h, fun h0 => by omega⟩
end Go.Proofs.YteabbanjjdmjkaaDoor
