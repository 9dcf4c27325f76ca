/- The numbers of a program of raw numbers have 64 bits; what Encode writes of it is read as it was. -/
import Derived.Test.YtjckpdeogbamjaaDoorShapeOk
import Derived.Test.YtjckpdeogbamjaaDoorDecMath
namespace Go.Proofs.YtjckpdeogbamjaaDoor
open Go Go.RowKit

theorem mkIns_imm (x : Ins) (regs places funcs : Int) (hx : I64 x.imm) (hp : 1 ≤ places) (hp2 : places ≤ 1000) (hf : 1 ≤ funcs) (hf2 : funcs ≤ 1000) : I64 (mkIns x regs places funcs).imm := by
  have b1 := pickI_bounds x.imm places (by omega)
  have b2 := pickI_bounds x.imm funcs (by omega)
  unfold I64 at *
  unfold mkIns
  repeat' split
  all_goals (dsimp only; omega)

theorem shaped_imm (l : List Fn) (hwf : ∀ f ∈ l, f.wf) : ∀ f ∈ shapedP l, ∀ x ∈ f.code, I64 x.imm := by
  intro f hf x hx
  obtain ⟨i, _, rfl⟩ := List.mem_map.1 hf
  have hN : 1 ≤ shapedN l ∧ shapedN l ≤ 4 := by unfold shapedN; omega
  have hb : (bodyAt l i).wf := by
    unfold bodyAt
    rw [List.getD_eq_getElem?_getD]
    rcases Nat.lt_or_ge i l.length with h | h
    · rw [List.getElem?_eq_getElem h]; exact hwf _ (List.getElem_mem h)
    · rw [List.getElem?_eq_none h]; exact ⟨by simp [I64], by simp [I64], by simp⟩
  rcases List.mem_append.1 hx with hx | hx
  · obtain ⟨y, hy, rfl⟩ := List.mem_map.1 hx
    exact mkIns_imm y _ _ _ (hb.2.2 y (List.mem_of_mem_take hy)).2.2.2.2 (by omega) (by omega) (by omega) (by omega)
  · simp at hx
    rcases hx with rfl | rfl <;> simp [I64]

/-- Decode of what Encode wrote of a program of raw numbers. -/
theorem shaped_back (l : List Fn) (hwf : ∀ f ∈ l, f.wf) :
    decErr (progBytes (shapedP l)) = 0 ∧ decProg (progBytes (shapedP l)) = shapedP l ∧ (∀ i, 0 ≤ (progBytes (shapedP l)).getD i 0 ∧ (progBytes (shapedP l)).getD i 0 ≤ 255) ∧
      endOf (progBytes (shapedP l)) = (progBytes (shapedP l)).length ∧ (progBytes (shapedP l)).length ≤ 3999 ∧ 1 ≤ (progBytes (shapedP l)).length := by
  have hok := shaped_ok l
  obtain ⟨h1, h2, h3⟩ := prog_small hok (shaped_imm l hwf)
  obtain ⟨g1, g2⟩ := progOf_progBytes (shapedP l) h2
  have g3 := progBytes_bytes h1 h2 h3
  have g4 := progPart_length' (shapedP l) (shapedP l).length h3 (shapedP l).length (Nat.le_refl _)
  have g5 : (progBytes (shapedP l)).length ≤ 3999 := by rw [progBytes]; omega
  have e : decErr (progBytes (shapedP l)) = 0 := by
    unfold decErr
    rw [if_neg (by omega), if_neg (by omega), if_neg (by omega), g1]
    exact hok
  exact ⟨e, by simp [decProg, e, g1], g3.2, g2, g5, by simp [progBytes, progPart]⟩

end Go.Proofs.YtjckpdeogbamjaaDoor
