import Derived.LaidMore
import Derived.Lib.LaidTab
import Derived.OpenShut
import Derived.ProofKit
import Derived.Stop.Joined
import Derived.Test.YtldbmdgpdolaaaaGreatDoorRows
import Derived.Test.YtldbmdgpdolaaaaGreatDoorPXOpen
import Derived.Test.YtldbmdgpdolaaaaGreatDoorPGroupA
namespace Go.Proofs.YtldbmdgpdolaaaaGreatDoor
open Go Go.ChangeShapes Go.WideShapes Go.ChangeAt Go.RowKit

theorem own : ownKnob Tryz.prog.godebug = none := by kernel_rfl
theorem gParts : Tryz.prog.globalNamed "tierline/ops.parts" = some 3 := by kernel_rfl
theorem tParts : (Tryz.prog.globals[3]?).map (·.type) = some 200 := by kernel_rfl
theorem cells3 : Tryz.prog.cellsOf 3 = 1 := by kernel_rfl
theorem cellsParts : Tryz.prog.cellsOf 200 = 20 := by kernel_rfl
theorem laidOut : laidOutB Tryz.prog = true := by kernel_rfl
end Go.Proofs.YtldbmdgpdolaaaaGreatDoor
namespace Go.Proofs.YtldbmdgpdolaaaaGreatDoor
open Go Go.ChangeShapes Go.WideShapes Go.ChangeAt Go.RowKit

theorem typesB : Types Tryz.prog 3 113 80 82 22 where
  int := Tryz.underlying3
  ins := ⟨_, Tryz.underlying113, by kernel_rfl, by kernel_rfl, rfl, fun i f h => by
    match i, h with
    | 0, h => simp at h; subst h; rfl
    | 1, h => simp at h; subst h; rfl
    | 2, h => simp at h; subst h; rfl
    | 3, h => simp at h; subst h; rfl
    | 4, h => simp at h; subst h; rfl
    | i + 5, h => simp at h⟩
  inss := Tryz.underlying80
  fn := ⟨_, _, _, Tryz.underlying82, by kernel_rfl, by kernel_rfl, rfl, rfl, rfl⟩
  fns := Tryz.underlying22
  bI := by kernel_rfl
  bF := by kernel_rfl
set_option maxRecDepth 100000 in
theorem open_bodies {H : Type} {enc : TypeId × Value → H} {W : World} {base : Nat} {v : Value} {d : DataW H} {ps : List MemPlace}
    (hv : Value.okWide Tryz.prog W .any base 22 v) (h : DataW.Trod enc Tryz.prog W 0 (fun _ => true) true 22 v d ps) :
    ∃ p : List Fn, ProgVal W v p ∧ ∀ f ∈ p, f.wf := by
  obtain ⟨a0, len, cap, rfl⟩ := okWide_slice Tryz.underlying22 hv
  obtain ⟨fuel, hf⟩ := h
  obtain ⟨p, hp, hwf, _⟩ := open_fns typesB (by simpa [Value.cells] using hf)
  exact ⟨p, hp, hwf⟩
end Go.Proofs.YtldbmdgpdolaaaaGreatDoor
