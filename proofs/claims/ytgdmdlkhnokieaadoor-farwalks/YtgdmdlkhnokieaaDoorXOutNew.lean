/- A state that is the call's own, put into a box that is made anew; a machine's place and halt in its cells. -/
import Derived.Test.YtgdmdlkhnokieaaDoorXLeftKit
import Derived.Test.YtgdmdlkhnokieaaDoorGroupX
namespace Go.Proofs.YtgdmdlkhnokieaaDoor
open Go Go.RowKit

theorem StP.outN {w : World} {base : Nat} {cs : Array Value} {s : St} (h : StP w base (.agg cs) s) (hb : base ≤ w.heap.size) : ∃ fv ev av, cs = (stCells s fv ev av).toArray ∧ OutAt (w.alloc (.cells cs 34)) base w.heap.size s fv ev av := by
  obtain ⟨fv, ev, av, e, hm, hw, h1, h2, h3, h4, h5⟩ := h
  obtain rfl := Value.agg.inj e
  have hba : Below w.heap.size w (w.alloc (.cells (stCells s fv ev av).toArray 34)) := (Below.refl _ _).alloc (Nat.le_refl _) _
  refine ⟨fv, ev, av, rfl, heap_alloc_last _ _, hb, hm, hw, ownsRow_below h1 hba, ownsRow_below h2 hba, h3.keeps (keeps_below hba), fun a n cp e hn => ⟨?_, h5 a n cp e hn⟩, fun a n cp e hn => h4 a n cp e hn⟩
  obtain ⟨ao, b, off, n', cap, e2, hl, ha, hc, -⟩ := h3
  rw [e] at e2
  simp only [Value.slice.injEq] at e2
  obtain ⟨e3, rfl, rfl⟩ := e2
  have e4 := ha hn
  rw [← e3] at e4
  obtain rfl : a = ⟨b, off, none⟩ := by simpa using e4
  have := World.block_lt_of_cell? _ _ (hc 0 (by omega))
  simp at this
  show b ≠ w.heap.size
  omega
theorem cp_pcAt {c : Cp} (h : c.Ok) : (cpuCells c)[32]? = some (.int .i64 c.pc) := by
  have h32 : (i64s c.regs).length = 32 := by simp [i64s, h.r]
  unfold cpuCells
  rw [List.getElem?_append_right (by omega), h32]; rfl
theorem cp_haltAt {c : Cp} (h : c.Ok) : (cpuCells c)[97]? = some (.bool c.halted) := by
  have h32 : (i64s c.regs).length = 32 := by simp [i64s, h.r]
  have h64 : (i64s c.data).length = 64 := by simp [i64s, h.d]
  unfold cpuCells
  rw [List.getElem?_append_right (by omega), h32, show 97 - 32 = 64 + 1 from rfl, List.getElem?_cons_succ, List.getElem?_append_right (by omega), h64]; rfl
end Go.Proofs.YtgdmdlkhnokieaaDoor
