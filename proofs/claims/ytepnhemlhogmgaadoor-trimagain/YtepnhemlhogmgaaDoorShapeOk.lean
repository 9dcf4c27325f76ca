/- Programs of raw numbers are well shaped. -/
import Derived.Test.YtepnhemlhogmgaaDoorShaped
import Derived.Test.YtepnhemlhogmgaaDoorRefProg
namespace Go.Proofs.YtepnhemlhogmgaaDoor
open Go Go.RowKit

theorem mkIns_ok (x : Ins) (regs places funcs : Int) (h1 : 1 ≤ regs) (h3 : 1 ≤ places) (h5 : 1 ≤ funcs) : codeInstr (mkIns x regs places funcs) regs places funcs = 0 := by
  rw [instr_same]
  have bO := pickI_bounds x.op 19 (by decide)
  have bD := pickI_bounds x.dst regs (by omega)
  have bA := pickI_bounds x.a regs (by omega)
  have bB := pickI_bounds x.b regs (by omega)
  have bP := pickI_bounds x.imm places (by omega)
  have bF := pickI_bounds x.imm funcs (by omega)
  unfold mkIns
  generalize pickI x.op 19 = O at *
  generalize pickI x.dst regs = D at *
  generalize pickI x.a regs = A at *
  generalize pickI x.b regs = B at *
  generalize pickI x.imm places = P at *
  generalize pickI x.imm funcs = F at *
  obtain ⟨m, rfl⟩ : ∃ m : Nat, O = m := ⟨O.toNat, by omega⟩
  have hm : m = 0 ∨ m = 1 ∨ m = 2 ∨ m = 3 ∨ m = 4 ∨ m = 5 ∨ m = 6 ∨ m = 7 ∨ m = 8 ∨ m = 9 ∨ m = 10 ∨ m = 11 ∨ m = 12 ∨ m = 13 ∨ m = 14 ∨ m = 15 ∨ m = 16 ∨ m = 17 ∨ m = 18 := by omega
  rcases hm with rfl | rfl | rfl | rfl | rfl | rfl | rfl | rfl | rfl | rfl | rfl | rfl | rfl | rfl | rfl | rfl | rfl | rfl | rfl
  all_goals
    simp [refInstr, refOk1, refOk2, regMayB, setsB, readsAB, readsBB, inB]
    try omega

theorem mkFn_ok (b : Fn) (funcs : Int) (h5 : 1 ≤ funcs) : codeFunc (mkFn b funcs) funcs = 0 := by
  have bP := pickI_bounds b.params 3 (by decide)
  have bR := pickI_bounds b.regs 11 (by decide)
  have hlen : (mkFn b funcs).code.length = min b.code.length 22 + 2 := by simp [mkFn]
  unfold codeFunc
  rw [hlen]
  have e1 : (mkFn b funcs).regs = max (pickI b.params 3) 1 + pickI b.regs 11 := rfl
  have e2 : (mkFn b funcs).params = pickI b.params 3 := rfl
  have e3 : (mkFn b funcs).code = (b.code.take (min b.code.length 22)).map (fun x => mkIns x (max (pickI b.params 3) 1 + pickI b.regs 11) (min b.code.length 22 + 2 : Nat) funcs) ++ [⟨1, 0, 0, 0, 7⟩, ⟨19, 0, 0, 0, 0⟩] := rfl
  rw [e1, e2]
  rw [if_neg (by omega), if_neg (by omega), if_neg (by omega), if_neg (by omega), if_neg (by omega), if_neg (by omega), if_neg (by omega)]
  have all : ∀ y ∈ (mkFn b funcs).code, codeInstr y (max (pickI b.params 3) 1 + pickI b.regs 11) (min b.code.length 22 + 2 : Nat) funcs = 0 := by
    rw [e3]
    intro y hy
    rcases List.mem_append.1 hy with hy | hy
    · obtain ⟨x, _, rfl⟩ := List.mem_map.1 hy
      exact mkIns_ok x _ _ _ (by omega) (by omega) h5
    · rw [instr_same]
      simp at hy
      rcases hy with rfl | rfl
      · simp [refInstr, refOk1, refOk2, regMayB, setsB, readsAB, readsBB, inB]; omega
      · simp [refInstr, refOk1, refOk2, regMayB, setsB, readsAB, readsBB, inB]; omega
  generalize (mkFn b funcs).code = c at all
  induction c with
  | nil => rfl
  | cons y r ih =>
    unfold firstErr
    rw [if_pos (all y (by simp))]
    exact ih (fun z hz => all z (by simp [hz]))

theorem shaped_ok (l : List Fn) : codeProg (shapedP l) = 0 := by
  have hl : (shapedP l).length = shapedN l := by simp [shapedP, shapedPart]
  have h1 : 1 ≤ shapedN l := by unfold shapedN; omega
  have h4 : shapedN l ≤ 4 := by unfold shapedN; omega
  unfold codeProg
  rw [hl, if_neg (by omega), if_neg (by omega)]
  have all : ∀ f ∈ shapedP l, codeFunc f (shapedN l) = 0 := by
    intro f hf
    obtain ⟨i, _, rfl⟩ := List.mem_map.1 hf
    exact mkFn_ok _ _ (by omega)
  generalize shapedP l = c at all
  clear hl
  induction c with
  | nil => rfl
  | cons y r ih =>
    unfold firstErr
    rw [if_pos (all y (by simp))]
    exact ih (fun z hz => all z (by simp [hz]))

end Go.Proofs.YtepnhemlhogmgaaDoor
