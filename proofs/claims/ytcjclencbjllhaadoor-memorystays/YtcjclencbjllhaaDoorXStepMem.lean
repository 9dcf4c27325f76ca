/- What a step does to the memory: plain mathematics. -/
import Derived.Test.YtcjclencbjllhaaDoorXMoreMath
namespace Go.Proofs.YtcjclencbjllhaaDoor
open Go Go.RowKit

theorem retS_mem (P : List Fn) (S : St) (fs : List Fr) (a : Int) : (retS P S fs a).mem = S.mem := by
  unfold retS; split <;> rfl
/-- The memory changes by a Store alone, at one word. -/
theorem stepS_mem (P : List Fn) (S : St) (fs : List Fr) (f : Fr) (hS : S.frames = fs ++ [f]) :
    (stepS P S).mem = S.mem ∨ ((insOfFr P f).op = 14 ∧ 0 ≤ regD f (insOfFr P f).a ∧ regD f (insOfFr P f).a < 16 ∧ (stepS P S).mem = S.mem.set (regD f (insOfFr P f).a).toNat (regD f (insOfFr P f).b)) := by
  have hl : S.frames.getLast? = some f := by rw [hS]; simp
  unfold stepS
  split
  · exact Or.inl rfl
  rw [hl]
  dsimp only
  split
  · rename_i hb
    unfold doS
    by_cases h13 : (insOfFr P f).op = 13
    · rw [if_pos h13]; exact Or.inl rfl
    rw [if_neg h13]
    by_cases h14 : (insOfFr P f).op = 14
    · rw [if_pos h14]
      unfold barredI at hb
      rw [if_neg (by omega), if_pos (Or.inr h14)] at hb
      refine Or.inr ⟨h14, ?_, ?_, rfl⟩
      · by_cases hc : regD f (insOfFr P f).a < 0 ∨ 16 ≤ regD f (insOfFr P f).a
        · rw [if_pos hc] at hb; cases hb
        · omega
      · by_cases hc : regD f (insOfFr P f).a < 0 ∨ 16 ≤ regD f (insOfFr P f).a
        · rw [if_pos hc] at hb; cases hb
        · omega
    rw [if_neg h14]
    left
    repeat' split
    all_goals first | rfl | exact retS_mem _ _ _ _
  · exact Or.inl rfl
/-- Word by word: as it was, or by that Store. -/
theorem walk_mem {P : List Fn} (hR : ProofAns P 0) {S : St} (h : RunInv P S) (k : Nat) (fs : List Fr) (f : Fr) (hS : (walkS P k S).frames = fs ++ [f]) (i : Nat) (hi : i < 16) :
    (walkS P (k + 1) S).mem.getD i 0 = (walkS P k S).mem.getD i 0 ∨ ((insOfFr P f).op = 14 ∧ regD f (insOfFr P f).a = i ∧ (walkS P (k + 1) S).mem.getD i 0 = regD f (insOfFr P f).b) := by
  by_cases h0 : (walkS P k S).status = 0
  · rw [walkS_succ P k S h0]
    have hm := (runInv_walk hR k h).mem
    rcases stepS_mem P (walkS P k S) fs f hS with e | ⟨e1, e2, e3, e4⟩
    · rw [e]; exact Or.inl rfl
    · by_cases hx : regD f (insOfFr P f).a = i
      · refine Or.inr ⟨e1, hx, ?_⟩
        rw [e4, hx]
        simp [List.getD, hm, hi]
      · left
        rw [e4]
        simp only [List.getD_eq_getElem?_getD]
        rw [List.getElem?_set_ne (by omega)]
  · rw [walkS_ended P k (k + 1) S (by omega) h0]; exact Or.inl rfl
end Go.Proofs.YtcjclencbjllhaaDoor
