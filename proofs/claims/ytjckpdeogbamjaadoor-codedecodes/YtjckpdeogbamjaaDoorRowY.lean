/- A slice of bytes as an argument: opened. -/
import Derived.Test.YtjckpdeogbamjaaDoorRow
import Derived.Test.YtjckpdeogbamjaaDoorSameBytes
import Derived.SizedLaws
namespace Go.Proofs.YtjckpdeogbamjaaDoor
open Go Go.ChangeShapes Go.WideShapes Go.ChangeAt Go.RowKit

theorem cellsU8 : Tryd.prog.cellsOf 5 = 1 := by kernel_rfl

theorem open_bytes {H : Type} {enc : TypeId × Value → H} {W : World} {base : Nat} {v : Value} {d : DataW H} {ps : List MemPlace}
    (hv : Value.okWide Tryd.prog W .any base 22 v) (h : DataW.Trod enc Tryd.prog W 0 (fun _ => true) true 22 v d ps) :
    ∃ l : List Int, BytesVal W v l ∧ (∀ i, 0 ≤ l.getD i 0 ∧ l.getD i 0 ≤ 255) ∧ l.length ≤ maxLen ∧ (l = [] ∨ ∃ (e s : List (DataW H)), d = .slice e s ∧ e.length = l.length) := by
  obtain ⟨a0, len, cap, rfl⟩ := okWide_slice Tryd.underlying22 hv
  obtain ⟨fuel, hf⟩ := h
  rcases open_ints Tryd.underlying22 Tryd.underlying5 cellsU8 hf with ⟨hcs, hx⟩ | ⟨a, len', cap', zs, hcs, _, hl, hm, hz, hx, hcell, hwz⟩
  · simp [Value.cells] at hcs
    obtain ⟨rfl, rfl, rfl⟩ := hcs
    exact ⟨[], bytes_nil W, fun i => by simp, Nat.zero_le _, Or.inl rfl⟩
  · simp [Value.cells] at hcs
    obtain ⟨rfl, rfl, rfl⟩ := hcs
    simp only [Prod.mk.injEq] at hx
    obtain ⟨rfl, rfl⟩ := hx
    simp only [if_true] at hz
    have hlen : (zs.take len).length = len := by simp; omega
    have hget : ∀ i, i < len → (zs.take len).getD i 0 = zs.getD i 0 := fun i hi => by simp [List.getD_eq_getElem?_getD, hi]
    refine ⟨zs.take len, ⟨some a, len, cap, rfl, hlen, fun h => by simp at h, fun hp => ?_⟩, fun i => ?_, by omega, Or.inr ⟨_, _, rfl, by simp [lits]⟩⟩
    · obtain ⟨b, off, rfl, hc⟩ := ints_at hcell (by omega)
      exact ⟨b, off, rfl, fun i hi => by rw [hget i hi]; exact hc i (by omega)⟩
    · rcases Nat.lt_or_ge i len with hi | hi
      · rw [hget i hi, List.getD_eq_getElem?_getD, List.getElem?_eq_getElem (by omega)]
        have := hwz zs[i] (List.getElem_mem (by omega))
        simp [Lit.wf, IntKind.min, IntKind.max, IntKind.signed, IntKind.bits] at this ⊢
        omega
      · rw [List.getD_eq_getElem?_getD, List.getElem?_eq_none (by omega)]
        simp

end Go.Proofs.YtjckpdeogbamjaaDoor
