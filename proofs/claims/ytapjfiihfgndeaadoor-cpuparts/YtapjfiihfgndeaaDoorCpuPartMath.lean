/- What a run of single steps keeps: the register 0 is 0; a machine whose first registers are told. No program is walked. -/
import Derived.Test.YtapjfiihfgndeaaDoorCpuIs
import Derived.Test.YtapjfiihfgndeaaDoorCpuEq
namespace Go.Proofs.YtapjfiihfgndeaaDoor
open Go Go.RowKit

/-- The register 0 is 0. -/
def Cp.Z (c : Cp) : Prop := c.regs[0]? = some 0
theorem Cp.Z.begun {c : Cp} (h : c.Z) : c.begun = c := by
  obtain ⟨regs, pc, data, halted⟩ := c
  unfold Cp.begun
  dsimp only
  congr 1
  unfold Cp.Z at h
  cases regs with
  | nil => rfl
  | cons r rs => simp at h; subst h; rfl
theorem begun_z {c : Cp} (h : c.Ok) : c.begun.Z := by
  unfold Cp.Z Cp.begun
  simp [h.r]
theorem Cp.Z.put {c : Cp} (h : c.Z) {r : Int} (v : Int) (r0 : 0 ≤ r) : (c.put r v).Z := by
  unfold Cp.Z Cp.put
  dsimp only
  by_cases e : r = 0
  · rw [if_pos e]; exact h
  · rw [if_neg e, List.getElem?_set_ne (by omega)]; exact h
theorem Cp.Z.doC {c : Cp} (h : c.Z) (x : Mi) (a b : Int) (r0 : 0 ≤ x.rd) : (doC x a b c).Z := by
  have hp := fun v => h.put (r := x.rd) v r0
  unfold Go.Proofs.YtapjfiihfgndeaaDoor.doC
  repeat' split
  all_goals first | exact h | exact hp _
theorem step_z {ws : List Int} {c : Cp} (h : c.Z) (he : stepE ws c = 0) : (stepC ws c).Z := by
  unfold stepE at he
  by_cases h1 : c.pc < 0 ∨ (ws.length : Int) ≤ c.pc
  · rw [if_pos h1] at he; cases he
  rw [if_neg h1] at he
  by_cases h2 : decE (ws.getD c.pc.toNat 0) = 0
  · exact h.doC _ _ _ (mi_bounds _ (word_dec _ h2).1).1
  · rw [if_neg h2] at he; cases he
theorem stepAns_on {ws : List Int} {c : Cp} (h : c.Z) (hl : ws.length ≤ 12) (hh : c.halted = false) : stepAns ws c = if stepE ws c = 0 then (stepC ws c, 0) else (zeroCp, stepE ws c) := by
  unfold stepAns
  rw [if_neg (by omega), if_neg (by rw [hh]; decide), h.begun]
theorem stepC_ok {ws : List Int} {c : Cp} (h : c.Ok) : (stepC ws c).Ok := h.doC _ _ _
/-- A machine whose first registers are the numbers of a list. -/
def regsQ (l : List Int) (q : Nat) : List Int := l.take q ++ List.replicate (32 - q) 0
def CQ (l : List Int) (q : Nat) : Cp := ⟨regsQ l q, 0, noData, false⟩
theorem cq_ok (l : List Int) (q : Nat) (h1 : q ≤ l.length) (h2 : q ≤ 32) : (CQ l q).Ok := ⟨by simp [CQ, regsQ]; omega, rfl⟩
theorem cq_zero (l : List Int) : CQ l 0 = zeroCp := by simp [CQ, regsQ, zeroCp, noRegs]
theorem cq_set (l : List Int) (q : Nat) (h1 : q < l.length) (h2 : q < 32) : (CQ l q).set (q : Int) l[q] = CQ l (q + 1) := by
  unfold CQ Cp.set
  dsimp only
  congr 1
  unfold regsQ
  rw [Int.toNat_natCast, List.set_append_right _ _ (by simp; omega)]
  have e1 : q - (l.take q).length = 0 := by simp; omega
  rw [e1, show 32 - q = (32 - (q + 1)) + 1 by omega, List.replicate_succ, List.set_cons_zero, List.take_succ_eq_append_getElem h1, List.append_assoc]
  rfl
end Go.Proofs.YtapjfiihfgndeaaDoor
