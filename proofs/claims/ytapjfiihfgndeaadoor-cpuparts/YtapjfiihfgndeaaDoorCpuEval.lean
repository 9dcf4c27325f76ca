/- Runs of words that are known, step by step. No program is walked. -/
import Derived.Test.YtapjfiihfgndeaaDoorCpuMath
import Derived.Test.YtapjfiihfgndeaaDoorRvKeep
namespace Go.Proofs.YtapjfiihfgndeaaDoor
open Go Go.RowKit

theorem step_at {ws : List Int} {c : Cp} {x : Mi} (k : Nat) (hc : c.pc = k) (hk : ws[k]? = some (wordI x)) (hx : MiOk x) : stepE ws c = doE x (c.reg x.rs1) ∧ stepC ws c = doC x (c.reg x.rs1) (c.reg x.rs2) c := by
  obtain ⟨d1, d2, _⟩ := dec_word x hx
  have hl : k < ws.length := by
    by_cases h : k < ws.length
    · exact h
    · rw [List.getElem?_eq_none (by omega)] at hk; cases hk
  have hw : ws.getD c.pc.toNat 0 = wordI x := by rw [hc]; simp [List.getD, hk]
  unfold stepE stepC
  rw [hw, d1, d2, if_neg (by omega)]
  exact ⟨rfl, rfl⟩
theorem run_step {ws : List Int} {c : Cp} {x : Mi} (n k j : Nat) (hh : c.halted = false) (hc : c.pc = k) (hk : ws[k]? = some (wordI x)) (hx : MiOk x) (he : doE x (c.reg x.rs1) = 0) : runA ws (n + 1) j c = runA ws n (j + 1) (doC x (c.reg x.rs1) (c.reg x.rs2) c) := by
  obtain ⟨h1, h2⟩ := step_at k hc hk hx
  rw [runA, if_neg (by rw [hh]; decide), h1, if_pos he, h2]
theorem run_stop {ws : List Int} {c : Cp} (n j : Nat) (hh : c.halted = true) : runA ws n j c = (c, (j : Int), 0) := by
  cases n <;> rw [runA, if_pos hh]

end Go.Proofs.YtapjfiihfgndeaaDoor
