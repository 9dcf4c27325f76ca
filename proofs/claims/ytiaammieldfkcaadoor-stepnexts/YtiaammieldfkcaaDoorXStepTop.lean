/- What a step does to the frames, where the run goes on: plain mathematics. -/
import Derived.Test.YtiaammieldfkcaaDoorXMoreMath
namespace Go.Proofs.YtiaammieldfkcaaDoor
open Go Go.RowKit

/-- The step of a state that runs, and has a last frame. -/
theorem stepS_snoc {P : List Fn} {S : St} {fs : List Fr} {f : Fr} (hS : S.frames = fs ++ [f]) : stepS P S = if S.fuel = 0 then { S with status := 2 } else
    if barredI (insOfFr P f) (regD f (insOfFr P f).a) (regD f (insOfFr P f).b) = 0 then doS P { S with fuel := S.fuel - 1, status := 0 } fs f (insOfFr P f)
    else { S with status := barredI (insOfFr P f) (regD f (insOfFr P f).a) (regD f (insOfFr P f).b) } := by
  have hl : S.frames.getLast? = some f := by rw [hS]; simp
  have hd : S.frames.dropLast = fs := by rw [hS]; simp
  unfold stepS
  rw [hl, hd]
/-- What only reckons changes one register, and the place. -/
theorem step_pure {P : List Fn} {S : St} {fs : List Fr} {f : Fr} (hS : S.frames = fs ++ [f]) (h0 : (stepS P S).status = 0) (h1 : 1 ≤ (insOfFr P f).op) (h2 : (insOfFr P f).op ≤ 12) :
    (stepS P S).frames = fs ++ [putF f (insOfFr P f).dst (mk (insOfFr P f).op (regD f (insOfFr P f).a) (regD f (insOfFr P f).b) (insOfFr P f).imm)] ∧ (stepS P S).mem = S.mem ∧ (stepS P S).events = S.events ∧ mkE (insOfFr P f).op (regD f (insOfFr P f).b) = 0 := by
  rw [stepS_snoc hS] at h0 ⊢
  by_cases hf : S.fuel = 0
  · rw [if_pos hf] at h0; exact absurd h0 (by show ¬ (2 : Int) = 0; decide)
  rw [if_neg hf] at h0 ⊢
  by_cases hb : barredI (insOfFr P f) (regD f (insOfFr P f).a) (regD f (insOfFr P f).b) = 0
  · rw [if_pos hb]
    unfold doS
    rw [if_neg (by omega), if_neg (by omega), if_neg (by omega), if_neg (by omega), if_neg (by omega), if_neg (by omega), if_neg (by omega)]
    refine ⟨rfl, rfl, rfl, ?_⟩
    unfold mkE
    rw [if_neg (by omega)]
    unfold barredI at hb
    by_cases h5 : (insOfFr P f).op = 5
    · rw [if_pos h5] at hb
      by_cases hz : regD f (insOfFr P f).b = 0
      · rw [if_pos hz] at hb; cases hb
      · rw [if_neg (fun h => hz h.2)]
    · rw [if_neg (fun h => h5 h.1)]
  · rw [if_neg hb] at h0; exact absurd h0 hb
/-- The frames behind a step that goes on, or that is the last one. -/
theorem step_frames {P : List Fn} {S : St} {fs : List Fr} {f : Fr} (hS : S.frames = fs ++ [f]) (h0 : (stepS P S).status = 0 ∨ (stepS P S).status = 1) :
    ((insOfFr P f).op = 17 ∧ (stepS P S).frames = fs ++ [f, begunFr (insOfFr P f).imm ([regD f (insOfFr P f).a, regD f (insOfFr P f).b].take (fnD P (insOfFr P f).imm).params.toNat)]) ∨
    ((insOfFr P f).op = 19 ∧ fs = [] ∧ (stepS P S).frames = [] ∧ (stepS P S).value = regD f (insOfFr P f).a) ∨
    ((insOfFr P f).op = 19 ∧ ∃ gs h, fs = gs ++ [h] ∧ (stepS P S).frames = gs ++ [putF h (insOfFr P h).dst (regD f (insOfFr P f).a)]) ∨
    ((insOfFr P f).op ≠ 17 ∧ (insOfFr P f).op ≠ 19 ∧ (stepS P S).frames.length = fs.length + 1) := by
  rw [stepS_snoc hS] at h0 ⊢
  by_cases hf : S.fuel = 0
  · rw [if_pos hf] at h0; exact absurd h0 (by show ¬ ((2 : Int) = 0 ∨ (2 : Int) = 1); decide)
  rw [if_neg hf] at h0 ⊢
  by_cases hb : barredI (insOfFr P f) (regD f (insOfFr P f).a) (regD f (insOfFr P f).b) = 0
  · rw [if_pos hb] at h0 ⊢
    generalize insOfFr P f = x at h0 hb ⊢
    by_cases h17 : x.op = 17
    · left
      refine ⟨h17, ?_⟩
      unfold doS at h0 ⊢
      rw [if_neg (by omega), if_neg (by omega), if_neg (by omega), if_neg (by omega), if_pos h17] at h0 ⊢
      split at h0
      · exact absurd h0 (by show ¬ ((5 : Int) = 0 ∨ (5 : Int) = 1); decide)
      · rename_i h8; rw [if_neg h8]
    by_cases h19 : x.op = 19
    · right
      have e : doS P { S with fuel := S.fuel - 1, status := 0 } fs f x = retS P { S with fuel := S.fuel - 1, status := 0 } fs (regD f x.a) := by
        unfold doS
        rw [if_neg (by omega), if_neg (by omega), if_neg (by omega), if_neg (by omega), if_neg (by omega), if_neg (by omega), if_pos h19]
      rw [e]
      unfold retS
      rcases List.eq_nil_or_concat fs with rfl | ⟨gs, h, rfl⟩
      · exact Or.inl ⟨h19, rfl, rfl, rfl⟩
      · rw [List.concat_eq_append]
        refine Or.inr (Or.inl ⟨h19, gs, h, rfl, ?_⟩)
        simp
    · right; right; right
      refine ⟨h17, h19, ?_⟩
      unfold doS
      rw [if_neg h17, if_neg h19]
      repeat' split
      all_goals simp
  · rw [if_neg hb] at h0
    rcases barredI_cases (insOfFr P f) (regD f (insOfFr P f).a) (regD f (insOfFr P f).b) with e | e | e
    · exact absurd e hb
    all_goals (rw [e] at h0; dsimp only at h0; omega)
/-- A step that ends the run otherwise has kept the frames. -/
theorem step_ends {P : List Fn} {S : St} {fs : List Fr} {f : Fr} (hS : S.frames = fs ++ [f]) (h0 : (stepS P S).status ≠ 0) (h1 : (stepS P S).status ≠ 1) : (stepS P S).frames.length = S.frames.length := by
  rw [stepS_snoc hS] at h0 h1 ⊢
  by_cases hf : S.fuel = 0
  · rw [if_pos hf]
  rw [if_neg hf] at h0 h1 ⊢
  by_cases hb : barredI (insOfFr P f) (regD f (insOfFr P f).a) (regD f (insOfFr P f).b) = 0
  · rw [if_pos hb] at h0 h1 ⊢
    generalize insOfFr P f = x at h0 h1 hb ⊢
    unfold doS at h0 h1 ⊢
    by_cases h19 : x.op = 19
    · rw [if_neg (by omega), if_neg (by omega), if_neg (by omega), if_neg (by omega), if_neg (by omega), if_neg (by omega), if_pos h19] at h0 h1
      rcases retS_status P { S with fuel := S.fuel - 1, status := 0 } fs (regD f x.a) with e | e
      · exact absurd e h0
      · exact absurd e h1
    rw [if_neg h19] at h0 h1 ⊢
    repeat' split
    all_goals first
      | rfl
      | (exfalso; simp_all)
      | (rw [hS]; simp)
  · rw [if_neg hb]
end Go.Proofs.YtiaammieldfkcaaDoor
