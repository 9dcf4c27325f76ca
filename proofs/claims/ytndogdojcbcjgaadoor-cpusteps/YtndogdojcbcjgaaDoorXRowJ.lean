/- A slice of numbers as an argument: opened. -/
import Derived.Test.YtndogdojcbcjgaaDoorXRowV
import Derived.Test.YtndogdojcbcjgaaDoorGroupA
import Derived.SizedLaws
namespace Go.Proofs.YtndogdojcbcjgaaDoor
open Go Go.ChangeShapes Go.WideShapes Go.ChangeAt Go.RowKit

theorem bytesInt : Tryd.prog.bytesOf 3 = 8 := by kernel_rfl

set_option maxRecDepth 100000 in
theorem open_numbers {H : Type} {enc : TypeId × Value → H} {W : World} {base : Nat} {v : Value} {d : DataW H} {ps : List MemPlace}
    (hv : Value.okWide Tryd.prog W .any base 27 v) (h : DataW.Trod enc Tryd.prog W 0 (fun _ => true) true 27 v d ps) (hsz : ∀ n ∈ d.weights Tryd.prog 27, n ≤ reachBytes) :
    ∃ l : List Int, IntsVal W v l ∧ l.length * 8 ≤ 140737488351232 := by
  obtain ⟨a0, len, cap, rfl⟩ := okWide_slice Tryd.underlying27 hv
  obtain ⟨fuel, hf⟩ := h
  rcases open_ints Tryd.underlying27 Tryd.underlying3 cInt hf with ⟨hcs, hx⟩ | ⟨a, len', cap', zs, hcs, _, hl, hm, hz, hx, hcell, hwz⟩
  · simp [Value.cells] at hcs
    obtain ⟨rfl, rfl, rfl⟩ := hcs
    exact ⟨[], ints_nil W, by simp⟩
  · simp [Value.cells] at hcs
    obtain ⟨rfl, rfl, rfl⟩ := hcs
    simp only [Prod.mk.injEq] at hx
    obtain ⟨rfl, rfl⟩ := hx
    simp only [if_true] at hz
    have hlen : (zs.take len).length = len := by simp; omega
    refine ⟨zs.take len, ?_, ?_⟩
    · by_cases hp : 0 < zs.length
      · obtain ⟨b, off, rfl, hc⟩ := ints_at hcell hp
        refine ⟨_, b, off, len, cap, rfl, hlen, fun _ => rfl, fun k hk => ?_, ⟨hl, fun e => by cases e⟩, hm⟩
        have hkl : k < len := by omega
        rw [hc k (by omega)]
        simp [List.getD_eq_getElem?_getD, List.getElem?_eq_getElem (show k < zs.length by omega)]
      · have h0 : len = 0 := by omega
        refine ⟨some a, 0, 0, len, cap, rfl, hlen, fun h => by omega, fun k hk => by omega, ⟨hl, fun e => by cases e⟩, hm⟩
    · have := hsz ((((lits .i64 (zs.take len)) : List (DataW H)).length + ((lits .i64 (zs.drop len)) : List (DataW H)).length) * Tryd.prog.bytesOf 3) (by simp [DataW.weights, Tryd.underlying27])
      rw [bytesInt] at this
      simp [lits, reachBytes] at this
      rw [hlen]
      omega
end Go.Proofs.YtndogdojcbcjgaaDoor
