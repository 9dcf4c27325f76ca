/- Contracts of the document's answer to P5.1: functionFault and WhereOf of package tierlineref. -/
import Derived.Test.YtiaammieldfkcaaDoorXWhereAll
import Derived.Test.YtiaammieldfkcaaDoorXProven
namespace Go.Proofs.YtiaammieldfkcaaDoor
open Go Go.RowKit

theorem proven_zero (P : List Fn) (h : ProofAns P 0) (v : Value) (w : World) (hv : ProgVal w v P) :
    Calls Tryd.prog 35 #[.agg #[v]] w fun e w' => e = .returned (.int .i64 0) ∧ Below w.heap.size w w' :=
  (proven_any P v w hv).mono fun _ _ ⟨_, he, hE, hb⟩ => ⟨by rw [he, proofAns_unique hE h], hb⟩
theorem proven_bad (P : List Fn) (h : ¬ ProofAns P 0) (v : Value) (w : World) (hv : ProgVal w v P) :
    Calls Tryd.prog 35 #[.agg #[v]] w fun e w' => ∃ E, e = .returned (.int .i64 E) ∧ (E == 0) = false ∧ ProofAns P E ∧ Below w.heap.size w w' :=
  (proven_any P v w hv).mono fun _ _ ⟨E, he, hE, hb⟩ => ⟨E, he, by simp only [beq_eq_false_iff_ne, ne_eq]; intro h0; exact h (h0 ▸ hE), hE, hb⟩

/-- The document's fault of a program and a function of it. -/
def FaultAns (P : List Fn) (fn E : Int) : Prop := ((E == 0) = false ∧ ProofAns P E) ∨ (ProofAns P 0 ∧ ¬ (0 ≤ fn ∧ fn < P.length) ∧ E = 2) ∨ (ProofAns P 0 ∧ (0 ≤ fn ∧ fn < P.length) ∧ E = 0)

end Go.Proofs.YtiaammieldfkcaaDoor
