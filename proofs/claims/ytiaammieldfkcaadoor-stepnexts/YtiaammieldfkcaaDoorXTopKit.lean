/- Small facts for laws that look at the last frame. -/
import Derived.Test.YtiaammieldfkcaaDoorXKRun
import Derived.Test.YtiaammieldfkcaaDoorXStepTop
namespace Go.Proofs.YtiaammieldfkcaaDoor
open Go Go.RowKit

theorem setRow_alloc2m (w : World) (o : Obj) (old cs : Array Value) (t : TypeId) : ((w.alloc o).alloc (.cells old t)).setRow (w.heap.size + 1) cs = (w.alloc o).alloc (.cells cs t) := by
  have := World.setRow_alloc_new (w.alloc o) old cs t
  rw [World.size_alloc] at this
  exact this
theorem StVal.memAt {w : World} {cs : Array Value} {S : St} (h : StVal w (.agg cs) S) (i : Nat) (hi : i < 16) : cs[3 + i]? = some (.int .i64 (S.mem.getD i 0)) := by
  obtain ⟨fv, ev, av, e, hm, -⟩ := h
  obtain rfl := Value.agg.inj e
  rw [List.getElem?_toArray]
  unfold stCells
  rw [List.append_assoc, List.getElem?_append_right (by simp), List.getElem?_append_left (by simp [i64s, hm]; exact hi)]
  simp [i64s, hm, hi, List.getD]
theorem StVal.framesAt {w : World} {cs : Array Value} {S : St} (h : StVal w (.agg cs) S) {fs : List Fr} {f : Fr} (hS : S.frames = fs ++ [f]) : ∃ b off cap, cs[2]? = some (.slice (some ⟨b, off, none⟩) (fs.length + 1) cap) ∧ w.rangeAt b (off + fs.length * 14) (frCells f) ∧ f.regs.length = 12 ∧ fs.length + 1 ≤ cap ∧ cap ≤ 9223372036854775807 := by
  obtain ⟨fv, ev, av, e, hm, hf, -⟩ := h
  obtain rfl := Value.agg.inj e
  obtain ⟨hw, ao, b, off, n, cap, rfl, hl, ha, hc, hcp, hx⟩ := hf
  have hn : n = fs.length + 1 := by rw [← hl, hS]; simp
  subst hn
  obtain rfl := ha (by omega)
  unfold maxLen at hx
  refine ⟨b, off, cap, rfl, ?_, hw f (by rw [hS]; simp), hcp.1, by omega⟩
  have h1 := hc fs.length (by omega)
  have e1 : S.frames[fs.length]'(by omega) = f := by simp [hS]
  rw [e1] at h1
  exact h1

theorem frCells_reg12 (f : Fr) (h : f.regs.length = 12) (r : Nat) (hr : r < 12) : (frCells f).toArray[2 + r]? = some (.int .i64 (f.regs.getD r 0)) := by
  rw [List.getElem?_toArray, show 2 + r = r + 1 + 1 by omega]
  simp [frCells, i64s, List.getD, h, hr]
end Go.Proofs.YtiaammieldfkcaaDoor
