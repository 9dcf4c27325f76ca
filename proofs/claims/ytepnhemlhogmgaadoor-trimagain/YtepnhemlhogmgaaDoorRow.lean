/- What every row of this seat needs: the table of ops lies in memory when the call begins; the types of a program; the world in which the initialisers have run. -/
import Derived.Test.YtepnhemlhogmgaaDoorRows
import Derived.Test.YtepnhemlhogmgaaDoorOps
import Derived.Test.YtepnhemlhogmgaaDoorOpen
import Derived.ProofKit
import Derived.LaidMore
import Derived.OpenShut
import Derived.Stop.Joined
import Derived.Lib.LaidTab
namespace Go.Proofs.YtepnhemlhogmgaaDoor
open Go Go.ChangeShapes Go.WideShapes Go.ChangeAt Go.RowKit

theorem own : ownKnob Tryd.prog.godebug = none := by kernel_rfl
theorem gParts : Tryd.prog.globalNamed "tierline/ops.parts" = some 0 := by kernel_rfl
theorem tParts : (Tryd.prog.globals[0]?).map (·.type) = some 111 := by kernel_rfl
theorem cells3 : Tryd.prog.cellsOf 3 = 1 := by kernel_rfl
theorem cellsParts : Tryd.prog.cellsOf 111 = 20 := by kernel_rfl
theorem laidOut : laidOutB Tryd.prog = true := by kernel_rfl

abbrev laidL : List (String × DataW Unit) := [("tierline/ops.parts", Rows.laid_tierline_ops_parts)]

/-- The door's own heap meets the condition. -/
theorem door_met (os : Os) (args : Array Value) : laidMetH Tryd.prog laidL ((World.doorLaid Tryd.prog 400 os).forCall (fun _ _ => 0) ⟨#[], args, []⟩).memory :=
  laidMetH_of_parts3 (fuel := 8) (laidMet_of_run' 8 (by kernel_rfl) (by kernel_rfl)) (by kernel_rfl) (by kernel_rfl)

theorem tab_of_laid {W : World} (h : laidMetH Tryd.prog laidL W) : TabOk W := by
  rw [MakeChecks.laidMetH_plain _ _ _ (by kernel_rfl)] at h
  have h' : laidMet Tryd.prog (("tierline/ops.parts", Lib.tabData .i64 hasL) :: []) W := h
  have ht := Lib.tabIs_of_head (P := Tryd.prog) gParts tParts Tryd.underlying111 Tryd.underlying3 cells3 cellsParts h'
  exact fun i hi => ht.cell gParts i hi

theorem typesP : Types Tryd.prog 3 70 42 44 22 where
  int := Tryd.underlying3
  ins := ⟨_, Tryd.underlying70, by kernel_rfl, by kernel_rfl, rfl, fun i f h => by
    match i, h with
    | 0, h => simp at h; subst h; rfl
    | 1, h => simp at h; subst h; rfl
    | 2, h => simp at h; subst h; rfl
    | 3, h => simp at h; subst h; rfl
    | 4, h => simp at h; subst h; rfl
    | i + 5, h => simp at h⟩
  inss := Tryd.underlying42
  fn := ⟨_, _, _, Tryd.underlying44, by kernel_rfl, by kernel_rfl, rfl, rfl, rfl⟩
  fns := Tryd.underlying22
  bI := by kernel_rfl
  bF := by kernel_rfl

set_option maxRecDepth 100000 in
/-- A program as an argument: opened. -/
theorem open_program {H : Type} {enc : TypeId × Value → H} {W : World} {base : Nat} {v : Value} {d : DataW H} {ps : List MemPlace}
    (hv : Value.okWide Tryd.prog W .any base 24 v) (h : DataW.Trod enc Tryd.prog W 0 (fun _ => true) true 24 v d ps)
    (hsz : ∀ n ∈ d.weights Tryd.prog 24, n ≤ reachBytes) :
    ∃ (c : Value) (p : List Fn), v = .agg #[c] ∧ ProgVal W c p ∧ (∀ f ∈ p, f.wf) ∧ p.length * 40 ≤ 140737488351232 ∧ ∀ f ∈ p, f.code.length * 40 ≤ 140737488351232 := by
  obtain ⟨cs, rfl, hs1⟩ := okWide_struct Tryd.underlying24 hv
  have hc1 : Tryd.prog.cellsOf 24 = 1 := by kernel_rfl
  have hc2 : Tryd.prog.cellsOf 22 = 1 := by kernel_rfl
  rw [hc1] at hs1
  obtain ⟨l⟩ := cs
  obtain ⟨c, rfl⟩ : ∃ c, l = [c] := by
    match l, hs1 with
    | [c], _ => exact ⟨c, rfl⟩
  obtain ⟨fuel, hf⟩ := h
  obtain ⟨xs, n, _, hx, hlen, hxl, hfs⟩ := DataW.trod_struct Tryd.underlying24 hf
  obtain ⟨y, rfl⟩ : ∃ y, xs = [y] := by
    match xs, hxl with
    | [y], _ => exact ⟨y, rfl⟩
  have g0 := hfs 0 _ rfl
  simp [Value.cells, hc2] at g0
  obtain ⟨p, hp, hwf, hw1, hw2⟩ := open_fns typesP g0
  have hd : d = .agg [y.1] := by simpa using congrArg Prod.fst hx
  subst hd
  have mem : ∀ n ∈ y.1.weights Tryd.prog 22, n ≤ reachBytes := fun n hn => hsz n (by
    simp only [DataW.weights, Tryd.underlying24]
    exact DataW.weights_mem_each (j := 0) (t := 22) (d := y.1) rfl rfl n hn)
  refine ⟨c, p, rfl, hp, hwf, ?_, fun f hf => ?_⟩
  · rcases hw1 with h0 | ⟨k, hk⟩
    · omega
    · have := mem _ hk
      simp only [reachBytes] at this
      omega
  · rcases hw2 f hf with h0 | ⟨k, hk⟩
    · omega
    · have := mem _ hk
      simp only [reachBytes] at this
      omega

end Go.Proofs.YtepnhemlhogmgaaDoor
