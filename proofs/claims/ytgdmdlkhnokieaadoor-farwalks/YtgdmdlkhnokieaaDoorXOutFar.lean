/- A whole frame, the memory and the fuel are stored into a state in a box; a state's memory as it is read. -/
import Derived.Test.YtgdmdlkhnokieaaDoorXLeftKit
import Derived.Test.YtgdmdlkhnokieaaDoorXEmitData
namespace Go.Proofs.YtgdmdlkhnokieaaDoor
open Go Go.RowKit

theorem OutAt.frAll {w : World} {base g fb n cap : Nat} {ev av : Value} {S : St} (h : OutAt w base g S (.slice (some ⟨fb, 0, none⟩) n cap) ev av) (i : Nat) {f : Fr} (hf : S.frames[i]? = some f) (f' : Fr) (h12 : f'.regs.length = 12) :
    OutAt (w.setCells fb (i * 14) (frCells f')) base g { S with frames := S.frames.set i f' } (.slice (some ⟨fb, 0, none⟩) n cap) ev av ∧ Below base w (w.setCells fb (i * 14) (frCells f')) := by
  obtain ⟨fn, pc, regs⟩ := f'
  have hi := (List.getElem?_eq_some_iff.1 hf).1
  have hr := h.wf f (List.mem_of_getElem? hf)
  obtain ⟨h1, b1⟩ := h.frSet i hf 0 (by omega) (.int .i64 fn) (f' := ⟨fn, f.pc, f.regs⟩) rfl hr
  obtain ⟨h2, b2⟩ := h1.frPc i (f := ⟨fn, f.pc, f.regs⟩) (by simp [hi]) pc
  obtain ⟨h3, b3⟩ := OutAt.frRegs regs 0 _ _ h2 i ⟨fn, pc, f.regs⟩ (by simp [hi]) (by have h12 : regs.length = 12 := h12; omega)
  simp only [List.set_set, setRg_all (show regs.length = f.regs.length by rw [hr]; exact h12)] at h3
  exact ⟨h3, b1.trans (b2.trans b3)⟩
theorem OutAt.mems {base g : Nat} {fv ev av : Value} : ∀ (vs : List Int) (o : Nat) (w : World) (S : St) (_h : OutAt w base g S fv ev av) (_hl : o + vs.length ≤ 16),
    OutAt (w.setCells g (3 + o) (i64s vs)) base g { S with mem := setRg S.mem o vs } fv ev av ∧ Below base w (w.setCells g (3 + o) (i64s vs))
  | [], _, _, _, h, _ => ⟨h, Below.refl _ _⟩
  | v :: r, o, w, S, h, hl => by
    simp only [List.length_cons] at hl
    obtain ⟨h1, b1⟩ := h.put (3 + o) (.int .i64 v) { S with mem := S.mem.set o v } (stC_mem fv ev av o (by rw [h.mem]; omega) v) (by simpa using h.mem) rfl rfl rfl
    obtain ⟨h2, b2⟩ := OutAt.mems r (o + 1) _ _ h1 (by omega)
    exact ⟨h2, b1.trans b2⟩
theorem OutAt.memAll {w : World} {base g : Nat} {fv ev av : Value} {S : St} (h : OutAt w base g S fv ev av) (vs : List Int) (hl : vs.length = 16) : OutAt (w.setCells g 3 (i64s vs)) base g { S with mem := vs } fv ev av ∧ Below base w (w.setCells g 3 (i64s vs)) := by
  have := OutAt.mems vs 0 w S h (by omega)
  rw [setRg_all (show vs.length = S.mem.length by rw [h.mem]; exact hl)] at this
  exact this
theorem OutAt.fuelTo {w : World} {base g : Nat} {fv ev av : Value} {S : St} (h : OutAt w base g S fv ev av) (n : Int) : OutAt (w.setCell ⟨g, 19, none⟩ (.int .i64 n)) base g { S with fuel := n } fv ev av ∧ Below base w (w.setCell ⟨g, 19, none⟩ (.int .i64 n)) :=
  h.put 19 (.int .i64 n) { S with fuel := n } (stC_fuel fv ev av h.mem n) h.mem rfl rfl rfl
theorem StVal.memE {w : World} {cs : Array Value} {s : St} (h : StVal w (.agg cs) s) : s.mem.length = 16 ∧ ∀ j u, (i64s s.mem)[j]? = some u → cs.toList[3 + j]? = some u := by
  obtain ⟨fv, ev, av, e, hm, -⟩ := h
  obtain rfl := Value.agg.inj e
  exact ⟨hm, fun j u hu => stE_mem s fv ev av j u hu⟩
theorem OutAt.thereG {w : World} {base g : Nat} {fv ev av : Value} {S : St} (h : OutAt w base g S fv ev av) (a b : Nat) (hab : a + b ≤ 22) : w.there g a b := by
  intro j hj
  have hl := stCells_length S fv ev av h.mem
  have hc := h.cells
  refine ⟨?_, by simp [World.frozen?, hc]⟩
  rw [cell_of_row _ _ _ _ _ _ hc]
  simp only [List.getElem?_toArray]
  rw [List.getElem?_eq_getElem (by omega)]; rfl
end Go.Proofs.YtgdmdlkhnokieaaDoor
