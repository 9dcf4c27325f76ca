/- Runs and their fuel: plain mathematics. -/
import Derived.Test.YtiaammieldfkcaaDoorXEngWalk
namespace Go.Proofs.YtiaammieldfkcaaDoor
open Go Go.RowKit

theorem retS_status (P : List Fn) (S : St) (fs : List Fr) (a : Int) : (retS P S fs a).status = S.status ∨ (retS P S fs a).status = 1 := by
  unfold retS; split
  · exact Or.inr rfl
  · exact Or.inl rfl
theorem doS_status (P : List Fn) (S : St) (fs : List Fr) (f : Fr) (x : Ins) (h : S.status = 0) : (doS P S fs f x).status = 0 ∨ (doS P S fs f x).status = 1 ∨ (doS P S fs f x).status = 5 := by
  unfold doS
  repeat' split
  all_goals first
    | exact Or.inl h
    | exact Or.inr (Or.inr rfl)
    | (rcases retS_status P S fs (regD f x.a) with e | e
       · exact Or.inl (e.trans h)
       · exact Or.inr (Or.inl e))
theorem barredI_cases (x : Ins) (a b : Int) : barredI x a b = 0 ∨ barredI x a b = 3 ∨ barredI x a b = 4 := by
  unfold barredI
  repeat' split
  all_goals simp
/-- What a step leads to: one from the fuel, or an end that has kept it. -/
theorem stepS_cases (P : List Fn) (S : St) (hf : S.frames ≠ []) :
    (S.fuel ≠ 0 ∧ (stepS P S).fuel = S.fuel - 1 ∧ ((stepS P S).status = 0 ∨ (stepS P S).status = 1 ∨ (stepS P S).status = 5)) ∨
    (S.fuel = 0 ∧ stepS P S = { S with status := 2 }) ∨ (S.fuel ≠ 0 ∧ (stepS P S).fuel = S.fuel ∧ ((stepS P S).status = 3 ∨ (stepS P S).status = 4)) := by
  unfold stepS
  by_cases h0 : S.fuel = 0
  · rw [if_pos h0]; exact Or.inr (Or.inl ⟨h0, rfl⟩)
  rw [if_neg h0]
  cases hl : S.frames.getLast? with
  | none => exact absurd (List.getLast?_eq_none_iff.1 hl) hf
  | some f =>
    dsimp only
    by_cases hb : barredI (insOfFr P f) (regD f (insOfFr P f).a) (regD f (insOfFr P f).b) = 0
    · rw [if_pos hb]; exact Or.inl ⟨h0, doS_fuel _ _ _ _ _, doS_status _ _ _ _ _ rfl⟩
    · rw [if_neg hb]
      refine Or.inr (Or.inr ⟨h0, rfl, ?_⟩)
      rcases barredI_cases (insOfFr P f) (regD f (insOfFr P f).a) (regD f (insOfFr P f).b) with e | e
      · exact absurd e hb
      · exact e
/-- The same, in numbers alone. -/
theorem stepS_cases2 (P : List Fn) (S : St) (hf : S.frames ≠ []) :
    (S.fuel ≠ 0 ∧ (stepS P S).fuel = S.fuel - 1 ∧ ((stepS P S).status = 0 ∨ (stepS P S).status = 1 ∨ (stepS P S).status = 5)) ∨
    (S.fuel = 0 ∧ (stepS P S).fuel = 0 ∧ (stepS P S).status = 2) ∨ (S.fuel ≠ 0 ∧ (stepS P S).fuel = S.fuel ∧ ((stepS P S).status = 3 ∨ (stepS P S).status = 4)) := by
  rcases stepS_cases P S hf with h | ⟨h, e⟩ | h
  · exact Or.inl h
  · exact Or.inr (Or.inl ⟨h, by rw [e]; exact h, by rw [e]⟩)
  · exact Or.inr (Or.inr h)
theorem run_frames {P : List Fn} {S : St} (h : RunInv P S) (h0 : S.status = 0) : S.frames ≠ [] := by
  intro e
  have := ((mayB_iff _).1 h.may).2.2.2.2.2.2.1.2 (by rw [e]; rfl)
  omega
/-- A state that runs has taken one from the fuel for each step. -/
theorem run_fuel {P : List Fn} (hR : ProofAns P 0) {S : St} (h : RunInv P S) : ∀ k : Nat, (walkS P k S).status = 0 → (walkS P k S).fuel = S.fuel - k := by
  intro k
  induction k with
  | zero => intro _; show S.fuel = S.fuel - 0; omega
  | succ k ih =>
    intro hs
    by_cases h0 : (walkS P k S).status = 0
    · rw [walkS_succ P k S h0] at hs ⊢
      rcases stepS_cases P (walkS P k S) (run_frames (runInv_walk hR k h) h0) with ⟨_, e, _⟩ | ⟨_, e⟩ | ⟨_, _, e⟩
      · rw [e, ih h0]; omega
      · rw [e] at hs; cases hs
      · omega
    · rw [walkS_ended P k (k + 1) S (by omega) h0] at hs; exact absurd hs h0
/-- Each run ends. -/
theorem run_ended {P : List Fn} (hR : ProofAns P 0) {S : St} (h : RunInv P S) (k : Nat) (hk : S.fuel < k) : (walkS P k S).status ≠ 0 := by
  intro hs
  have e := run_fuel hR h k hs
  have := ((mayB_iff _).1 (runInv_walk hR k h).may).2.2.1
  omega
def addF (d : Int) (S : St) : St := { S with fuel := S.fuel + d }
theorem retS_addF (P : List Fn) (S : St) (fs : List Fr) (a n : Int) : retS P { S with fuel := n } fs a = { retS P S fs a with fuel := n } := by
  unfold retS; split <;> rfl
theorem doS_addF (P : List Fn) (S : St) (fs : List Fr) (f : Fr) (x : Ins) (n : Int) : doS P { S with fuel := n } fs f x = { doS P S fs f x with fuel := n } := by
  unfold doS
  repeat' split
  all_goals first | rfl | exact retS_addF _ _ _ _ _
theorem stepS_addF (P : List Fn) (S : St) (d : Int) (h0 : S.fuel ≠ 0) (h1 : S.fuel + d ≠ 0) : stepS P (addF d S) = addF d (stepS P S) := by
  unfold stepS addF
  rw [if_neg h0, if_neg h1]
  dsimp only
  cases S.frames.getLast? with
  | none => rfl
  | some f =>
    dsimp only
    split
    · have e : ∀ n, doS P { S with fuel := n, status := 0 } S.frames.dropLast f (insOfFr P f) = { doS P { S with status := 0 } S.frames.dropLast f (insOfFr P f) with fuel := n } := fun n => doS_addF P { S with status := 0 } _ _ _ n
      have e1 := e (S.fuel + d - 1)
      have e2 := e (S.fuel - 1)
      show doS P { S with fuel := S.fuel + d - 1, status := 0 } _ _ _ = _
      rw [e1, e2]
      show _ = { doS P { S with status := 0 } S.frames.dropLast f (insOfFr P f) with fuel := S.fuel - 1 + d }
      rw [show S.fuel + d - 1 = S.fuel - 1 + d by omega]
    · rfl
/-- With more fuel a run goes the same way, as far as it does not end for want of it. -/
theorem walk_addF {P : List Fn} (hR : ProofAns P 0) {S : St} (h : RunInv P S) (d : Int) (hd : 0 ≤ d) : ∀ k : Nat, (walkS P k S).status ≠ 2 → walkS P k (addF d S) = addF d (walkS P k S) := by
  intro k
  induction k with
  | zero => intro _; rfl
  | succ k ih =>
    intro hs
    by_cases h0 : (walkS P k S).status = 0
    · have e := ih (by omega)
      have h0' : (walkS P k (addF d S)).status = 0 := by rw [e]; exact h0
      rw [walkS_succ P k S h0] at hs ⊢
      rw [walkS_succ P k (addF d S) h0', e]
      have hf := ((mayB_iff _).1 (runInv_walk hR k h).may).2.2.1
      rcases stepS_cases P (walkS P k S) (run_frames (runInv_walk hR k h) h0) with ⟨n, _⟩ | ⟨_, e2⟩ | ⟨n, _⟩
      · exact stepS_addF P _ d n (by omega)
      · rw [e2] at hs; exact absurd rfl hs
      · exact stepS_addF P _ d n (by omega)
    · have e2 := walkS_ended P k (k + 1) S (by omega) h0
      rw [e2] at hs ⊢
      have e := ih hs
      have h0' : (walkS P k (addF d S)).status ≠ 0 := by rw [e]; exact h0
      rw [walkS_ended P k (k + 1) (addF d S) (by omega) h0', e]
/-- A run that ends for want of fuel has used it all. -/
theorem run_empty {P : List Fn} (hR : ProofAns P 0) {S : St} (h : RunInv P S) (h00 : S.status = 0) (f : Nat) (hf : S.fuel = f) : ∀ k : Nat, (walkS P k S).status = 2 → (walkS P f S).status = 0 ∧ (walkS P f S).fuel = 0 ∧ walkS P k S = { walkS P f S with status := 2 } := by
  intro k
  induction k with
  | zero => intro hs; rw [show walkS P 0 S = S from rfl] at hs; omega
  | succ k ih =>
    intro hs
    by_cases h0 : (walkS P k S).status = 0
    · have e := run_fuel hR h k h0
      rw [walkS_succ P k S h0] at hs ⊢
      rcases stepS_cases P (walkS P k S) (run_frames (runInv_walk hR k h) h0) with ⟨_, _, n⟩ | ⟨n, e2⟩ | ⟨_, _, n⟩
      · omega
      · have : k = f := by omega
        subst this
        exact ⟨h0, n, e2⟩
      · omega
    · have e2 := walkS_ended P k (k + 1) S (by omega) h0
      rw [e2] at hs ⊢
      exact ih hs
end Go.Proofs.YtiaammieldfkcaaDoor
