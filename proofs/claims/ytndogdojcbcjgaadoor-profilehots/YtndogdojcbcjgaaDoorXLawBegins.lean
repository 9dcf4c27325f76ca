/- The walk of tierlinelaw.StepBegins: at every program, arguments, answers and fuel it says true, and nothing that was there has turned. -/
import Derived.Test.YtndogdojcbcjgaaDoorGroupW
namespace Go.Proofs.YtndogdojcbcjgaaDoor
open Go Go.RowKit

theorem wpList_load_wanted {P : Program} {ops : Array Oper} {rest : List Oper} {o : Oper} {a : Act} {w : World} {Q : Exit → Act → World → Prop} (hw : Region.wanted o (yielded ops a.tmps) = true) (ty : TypeId) (x : Operand) (ho : o.op = .load ty x)
    (g : Nat) (hx : a.eval x = .pointer (some ⟨g, 0, none⟩)) (t : TypeId) (cs : Array Value) (fr : Nat × Nat) (d : TypeDesc) (hg : w.heap[g]? = some (.cells cs t fr))
    (hu : P.underlying ty = some d) (hd : (match d with | .struct _ | .array _ _ => true | _ => false) = true) (hi : (P.info? ty).map (·.size) = some cs.size)
    (h : wpList P ops Q rest (a.put o.dst (.agg cs)) w) : wpList P ops Q (o :: rest) a w := by
  simp only [wpList, hw, if_true]
  exact Or.inl (wp_load_row ty x ho g hx t cs fr d hg hu hd hi h)
theorem stVal_row {w : World} {v : Value} {s : St} (h : StVal w v s) : ∃ cs : Array Value, v = .agg cs ∧ (Tryd.prog.info? 29).map (·.size) = some cs.size ∧ cs.size = 22 ∧ cs.all (·.oneCell') = true := by
  obtain ⟨fv, ev, av, rfl, hm, hf, he, ha⟩ := h
  obtain ⟨fa, fc, rfl⟩ := hf.shape
  obtain ⟨ea, ec, rfl⟩ := he.shape
  obtain ⟨aa, ac, rfl⟩ := ha.shape
  have hl := stCells_length s (.slice fa s.frames.length fc) (.slice ea s.events.length ec) (.slice aa s.answers.length ac) hm
  exact ⟨_, rfl, by rw [List.size_toArray, hl]; exact infoSt, by rw [List.size_toArray, hl], stCells_one _ _ _ _ rfl rfl rfl⟩

end Go.Proofs.YtndogdojcbcjgaaDoor
