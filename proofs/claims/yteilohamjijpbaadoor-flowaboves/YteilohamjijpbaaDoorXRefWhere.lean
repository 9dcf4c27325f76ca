/- Contracts of the document's answer to P5.1: functionFault and WhereOf of package tierlineref. -/
import Derived.Test.YteilohamjijpbaaDoorXWhereAll
import Derived.Test.YteilohamjijpbaaDoorXProven
namespace Go.Proofs.YteilohamjijpbaaDoor
open Go Go.RowKit

theorem proven_zero (P : List Fn) (h : ProofAns P 0) (v : Value) (w : World) (hv : ProgVal w v P) :
    Calls Tryd.prog 53 #[.agg #[v]] w fun e w' => e = .returned (.int .i64 0) ∧ Below w.heap.size w w' :=
  (proven_any P v w hv).mono fun _ _ ⟨_, he, hE, hb⟩ => ⟨by rw [he, proofAns_unique hE h], hb⟩
theorem proven_bad (P : List Fn) (h : ¬ ProofAns P 0) (v : Value) (w : World) (hv : ProgVal w v P) :
    Calls Tryd.prog 53 #[.agg #[v]] w fun e w' => ∃ E, e = .returned (.int .i64 E) ∧ (E == 0) = false ∧ ProofAns P E ∧ Below w.heap.size w w' :=
  (proven_any P v w hv).mono fun _ _ ⟨E, he, hE, hb⟩ => ⟨E, he, by simp only [beq_eq_false_iff_ne, ne_eq]; intro h0; exact h (h0 ▸ hE), hE, hb⟩

/-- The document's fault of a program and a function of it. -/
def FaultAns (P : List Fn) (fn E : Int) : Prop := ((E == 0) = false ∧ ProofAns P E) ∨ (ProofAns P 0 ∧ ¬ (0 ≤ fn ∧ fn < P.length) ∧ E = 2) ∨ (ProofAns P 0 ∧ (0 ≤ fn ∧ fn < P.length) ∧ E = 0)

set_option maxRecDepth 100000 in
set_option maxHeartbeats 1000000 in
theorem fault_any (P : List Fn) (v : Value) (fn : Int) (w : World) (hv : ProgVal w v P) :
    Calls Tryd.prog 37 #[.agg #[v], .int .i64 fn] w fun e w' => ∃ E, e = .returned (.int .i64 E) ∧ FaultAns P fn E ∧ Below w.heap.size w w' := by
  have hbx : ∀ o, Below w.heap.size w (w.alloc o) := fun o => (Below.refl _ _).alloc (Nat.le_refl _) _
  by_cases h0 : ProofAns P 0
  · have hC := fun o => proven_zero P h0 v (w.alloc o) (hv.keeps (keeps_below (hbx o)))
    have hP := proof_code h0
    have hp1 := (codeProg_zero hP).1
    have hp4 := (codeProg_zero hP).2.1
    by_cases hr : 0 ≤ fn ∧ fn < P.length
    · have HAN : Hid (FaultAns P fn 0) := Or.inr (Or.inr ⟨h0, hr, rfl⟩)
      obtain ⟨ao, b, off, n, cap, rfl, ⟨hlen, _, _⟩, hcap, hmax⟩ := hv
      unfold maxLen at hmax
      have hi : inB fn 0 ((n : Int) - 1) = true := by simp only [inB, decide_eq_true_eq]; omega
      clear h0 hP hbx hr
      go_enter Tryd.func37, Tryd.ntmps37
      go_wp2_with (first
        | (go_at_call 53; refine (hC _).mono ?_; rintro e w1 ⟨rfl, hb1⟩; have k0 := keeps_below hb1 ⟨w.heap.size, 0, none⟩ (.slice ao n cap) (by simp))
        | (go_at_call 54; refine (in_any _ _ _ _).mono ?_; rintro e w' ⟨rfl, hw'⟩; replace hw' := hw'.symm; subst hw'))
      go_ret
      exact ⟨_, rfl, HAN.out, ((Below.refl _ _).alloc (Nat.le_refl _) _).trans (hb1.mono (by simp))⟩
    · have HAN : Hid (FaultAns P fn 2) := Or.inr (Or.inl ⟨h0, hr, rfl⟩)
      obtain ⟨ao, b, off, n, cap, rfl, ⟨hlen, _, _⟩, hcap, hmax⟩ := hv
      unfold maxLen at hmax
      have hi : inB fn 0 ((n : Int) - 1) = false := by simp only [inB, decide_eq_false_iff_not]; omega
      clear h0 hP hbx hr
      go_enter Tryd.func37, Tryd.ntmps37
      go_wp2_with (first
        | (go_at_call 53; refine (hC _).mono ?_; rintro e w1 ⟨rfl, hb1⟩; have k0 := keeps_below hb1 ⟨w.heap.size, 0, none⟩ (.slice ao n cap) (by simp))
        | (go_at_call 54; refine (in_any _ _ _ _).mono ?_; rintro e w' ⟨rfl, hw'⟩; replace hw' := hw'.symm; subst hw'))
      go_ret
      exact ⟨_, rfl, HAN.out, ((Below.refl _ _).alloc (Nat.le_refl _) _).trans (hb1.mono (by simp))⟩
  · have hC := fun o => proven_bad P h0 v (w.alloc o) (hv.keeps (keeps_below (hbx o)))
    have HAN : Hid (∀ E : Int, (E == 0) = false → ProofAns P E → FaultAns P fn E) := fun E a b => Or.inl ⟨a, b⟩
    obtain ⟨ao, b, off, n, cap, rfl, _⟩ := hv
    clear h0 hbx
    go_enter Tryd.func37, Tryd.ntmps37
    go_wp2_with (go_at_call 53; refine (hC _).mono ?_; rintro e w1 ⟨E, rfl, hne, hE, hb1⟩; have HE : Hid (ProofAns P E) := hE; clear hE)
    go_ret
    exact ⟨E, rfl, HAN.out E hne HE.out, ((Below.refl _ _).alloc (Nat.le_refl _) _).trans (hb1.mono (by simp))⟩

end Go.Proofs.YteilohamjijpbaaDoor
