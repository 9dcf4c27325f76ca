/- What the cells of a state hold. -/
import Derived.Test.YtgdmdlkhnokieaaDoorGroupE
import Derived.Test.YtgdmdlkhnokieaaDoorGroupD
namespace Go.Proofs.YtgdmdlkhnokieaaDoor
open Go Go.RowKit

theorem StVal.at {w : World} {cs : Array Value} {S : St} (h : StVal w (.agg cs) S) : cs[0]? = some (.int .i64 S.status) ∧ cs[1]? = some (.int .i64 S.value) ∧ cs[19]? = some (.int .i64 S.fuel) ∧ ∃ fr fc er ec ar ac, cs[2]? = some (.slice fr S.frames.length fc) ∧ cs[20]? = some (.slice er S.events.length ec) ∧ cs[21]? = some (.slice ar S.answers.length ac) := by
  obtain ⟨fv, ev, av, e, hm, hf, he, ha⟩ := h
  obtain ⟨fr, fc, rfl⟩ := hf.shape
  obtain ⟨er, ec, rfl⟩ := he.shape
  obtain ⟨ar, ac, rfl⟩ := ha.shape
  obtain rfl : cs = _ := by simpa using e
  have e19 : (stCells S (.slice fr S.frames.length fc) (.slice er S.events.length ec) (.slice ar S.answers.length ac)).toArray[19]? = some (.int .i64 S.fuel) := by
    rw [List.getElem?_toArray]; unfold stCells; rw [List.getElem?_append_right (by simp [i64s, hm])]; simp [i64s, hm]
  obtain ⟨g2, g20, g21⟩ := stCells_get S (.slice fr S.frames.length fc) (.slice er S.events.length ec) (.slice ar S.answers.length ac) hm
  exact ⟨rfl, rfl, e19, fr, fc, er, ec, ar, ac, g2, g20, g21⟩
end Go.Proofs.YtgdmdlkhnokieaaDoor
