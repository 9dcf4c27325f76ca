/- Raw numbers as an argument: opened. -/
import Derived.Test.YtepnhemlhogmgaaDoorRow
namespace Go.Proofs.YtepnhemlhogmgaaDoor
open Go Go.ChangeShapes Go.WideShapes Go.ChangeAt Go.RowKit

theorem typesB : Types Tryd.prog 3 96 72 74 40 where
  int := Tryd.underlying3
  ins := ⟨_, Tryd.underlying96, by kernel_rfl, by kernel_rfl, rfl, fun i f h => by
    match i, h with
    | 0, h => simp at h; subst h; rfl
    | 1, h => simp at h; subst h; rfl
    | 2, h => simp at h; subst h; rfl
    | 3, h => simp at h; subst h; rfl
    | 4, h => simp at h; subst h; rfl
    | i + 5, h => simp at h⟩
  inss := Tryd.underlying72
  fn := ⟨_, _, _, Tryd.underlying74, by kernel_rfl, by kernel_rfl, rfl, rfl, rfl⟩
  fns := Tryd.underlying40
  bI := by kernel_rfl
  bF := by kernel_rfl

set_option maxRecDepth 100000 in
theorem open_bodies {H : Type} {enc : TypeId × Value → H} {W : World} {base : Nat} {v : Value} {d : DataW H} {ps : List MemPlace}
    (hv : Value.okWide Tryd.prog W .any base 40 v) (h : DataW.Trod enc Tryd.prog W 0 (fun _ => true) true 40 v d ps) :
    ∃ p : List Fn, ProgVal W v p ∧ ∀ f ∈ p, f.wf := by
  obtain ⟨a0, len, cap, rfl⟩ := okWide_slice Tryd.underlying40 hv
  obtain ⟨fuel, hf⟩ := h
  obtain ⟨p, hp, hwf, _⟩ := open_fns typesB (by simpa [Value.cells] using hf)
  exact ⟨p, hp, hwf⟩

end Go.Proofs.YtepnhemlhogmgaaDoor
