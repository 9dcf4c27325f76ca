/- Texts put together: Row, RowP, RowB, RowI, RowIn. -/
import Derived.Test.YtdpaohmaafngkaaDoorRows
import Derived.Test.YtdpaohmaafngkaaDoorGroupA
import Derived.Test.YtdpaohmaafngkaaDoorXOpen
import Derived.ProofKit
import Derived.LaidMore
import Derived.OpenShut
import Derived.Stop.Joined
import Derived.Lib.LaidTab
import Derived.Stop.LaidErr
import Derived.SizedLaws
/- What every row of this seat needs: the table of ops lies in memory when the call begins; the types of a program; the world in which the initialisers have run. -/
namespace Go.Proofs.YtdpaohmaafngkaaDoor
open Go Go.ChangeShapes Go.WideShapes Go.ChangeAt Go.RowKit

theorem own : ownKnob Tryd.prog.godebug = none := by kernel_rfl
theorem gParts : Tryd.prog.globalNamed "tierline/ops.parts" = some 1 := by kernel_rfl
theorem tParts : (Tryd.prog.globals[1]?).map (·.type) = some 131 := by kernel_rfl
theorem cells3 : Tryd.prog.cellsOf 3 = 1 := by kernel_rfl
theorem cellsParts : Tryd.prog.cellsOf 131 = 20 := by kernel_rfl
theorem laidOut : laidOutB Tryd.prog = true := by kernel_rfl

abbrev laidL : List (String × DataW Unit) := [("tierline/ops.parts", Rows.laid_tierline_ops_parts)]

/-- The door's own heap meets the condition. -/
theorem door_met (os : Os) (args : Array Value) : laidMetH Tryd.prog laidL ((World.doorLaid Tryd.prog 400 os).forCall (fun _ _ => 0) ⟨#[], args, []⟩).memory :=
  laidMetH_of_parts3 (fuel := 8) (laidMet_of_run' 8 (by kernel_rfl) (by kernel_rfl)) (by kernel_rfl) (by kernel_rfl)

theorem tab_of_laid {W : World} (h : laidMetH Tryd.prog laidL W) : TabOk W := by
  rw [MakeChecks.laidMetH_plain _ _ _ (by kernel_rfl)] at h
  have h' : laidMet Tryd.prog (("tierline/ops.parts", Lib.tabData .i64 hasL) :: []) W := h
  have ht := Lib.tabIs_of_head (P := Tryd.prog) gParts tParts Tryd.underlying131 Tryd.underlying3 cells3 cellsParts h'
  exact fun i hi => ht.cell gParts i hi

theorem typesP : Types Tryd.prog 3 31 27 29 23 where
  int := Tryd.underlying3
  ins := ⟨_, Tryd.underlying31, by kernel_rfl, by kernel_rfl, rfl, fun i f h => by
    match i, h with
    | 0, h => simp at h; subst h; rfl
    | 1, h => simp at h; subst h; rfl
    | 2, h => simp at h; subst h; rfl
    | 3, h => simp at h; subst h; rfl
    | 4, h => simp at h; subst h; rfl
    | i + 5, h => simp at h⟩
  inss := Tryd.underlying27
  fn := ⟨_, _, _, Tryd.underlying29, by kernel_rfl, by kernel_rfl, rfl, rfl, rfl⟩
  fns := Tryd.underlying23
  bI := by kernel_rfl
  bF := by kernel_rfl

set_option maxRecDepth 100000 in
/-- A program as an argument: opened. -/
theorem open_program {H : Type} {enc : TypeId × Value → H} {W : World} {base : Nat} {v : Value} {d : DataW H} {ps : List MemPlace}
    (hv : Value.okWide Tryd.prog W .any base 25 v) (h : DataW.Trod enc Tryd.prog W 0 (fun _ => true) true 25 v d ps)
    (hsz : ∀ n ∈ d.weights Tryd.prog 25, n ≤ reachBytes) :
    ∃ (c : Value) (p : List Fn), v = .agg #[c] ∧ ProgVal W c p ∧ (∀ f ∈ p, f.wf) ∧ p.length * 40 ≤ 140737488351232 ∧ ∀ f ∈ p, f.code.length * 40 ≤ 140737488351232 := by
  obtain ⟨cs, rfl, hs1⟩ := okWide_struct Tryd.underlying25 hv
  have hc1 : Tryd.prog.cellsOf 25 = 1 := by kernel_rfl
  have hc2 : Tryd.prog.cellsOf 23 = 1 := by kernel_rfl
  rw [hc1] at hs1
  obtain ⟨l⟩ := cs
  obtain ⟨c, rfl⟩ : ∃ c, l = [c] := by
    match l, hs1 with
    | [c], _ => exact ⟨c, rfl⟩
  obtain ⟨fuel, hf⟩ := h
  obtain ⟨xs, n, _, hx, hlen, hxl, hfs⟩ := DataW.trod_struct Tryd.underlying25 hf
  obtain ⟨y, rfl⟩ : ∃ y, xs = [y] := by
    match xs, hxl with
    | [y], _ => exact ⟨y, rfl⟩
  have g0 := hfs 0 _ rfl
  simp [Value.cells, hc2] at g0
  obtain ⟨p, hp, hwf, hw1, hw2⟩ := open_fns typesP g0
  have hd : d = .agg [y.1] := by simpa using congrArg Prod.fst hx
  subst hd
  have mem : ∀ n ∈ y.1.weights Tryd.prog 23, n ≤ reachBytes := fun n hn => hsz n (by
    simp only [DataW.weights, Tryd.underlying25]
    exact DataW.weights_mem_each (j := 0) (t := 23) (d := y.1) rfl rfl n hn)
  refine ⟨c, p, rfl, hp, hwf, ?_, fun f hf => ?_⟩
  · rcases hw1 with h0 | ⟨k, hk⟩
    · omega
    · have := mem _ hk
      simp only [reachBytes] at this
      omega
  · rcases hw2 f hf with h0 | ⟨k, hk⟩
    · omega
    · have := mem _ hk
      simp only [reachBytes] at this
      omega

end Go.Proofs.YtdpaohmaafngkaaDoor

/- Rows of this seat that name two variables: the table of ops, and the table of what a Call reads. -/
namespace Go.Proofs.YtdpaohmaafngkaaDoor
open Go Go.ChangeShapes Go.WideShapes Go.ChangeAt Go.RowKit

theorem gCalls : Tryd.prog.globalNamed "tierline/ops.callReads" = some 0 := by kernel_rfl
theorem tCalls : (Tryd.prog.globals[0]?).map (·.type) = some 126 := by kernel_rfl
theorem cellsCalls : Tryd.prog.cellsOf 126 = 3 := by kernel_rfl
abbrev laidL2 : List (String × DataW Unit) := [("tierline/ops.parts", Rows.laid_tierline_ops_parts), ("tierline/ops.callReads", Rows.laid_tierline_ops_callReads)]

theorem door_met2 (os : Os) (args : Array Value) : laidMetH Tryd.prog laidL2 ((World.doorLaid Tryd.prog 400 os).forCall (fun _ _ => 0) ⟨#[], args, []⟩).memory :=
  laidMetH_of_parts3 (fuel := 8) (laidMet_of_run' 8 (by kernel_rfl) (by kernel_rfl)) (by kernel_rfl) (by kernel_rfl)

theorem tabs_of_laid {W : World} (h : laidMetH Tryd.prog laidL2 W) : TabOk W ∧ CallOk W := by
  rw [MakeChecks.laidMetH_plain _ _ _ (by kernel_rfl)] at h
  have h' : laidMet Tryd.prog (("tierline/ops.parts", Lib.tabData .i64 hasL) :: ("tierline/ops.callReads", Lib.tabData .i64 [0, 2, 6]) :: []) W := h
  have ht := Lib.tabIs_of_head (P := Tryd.prog) gParts tParts Tryd.underlying131 Tryd.underlying3 cells3 cellsParts h'
  have hc := Lib.tabIs_of_head (P := Tryd.prog) gCalls tCalls Tryd.underlying126 Tryd.underlying3 cells3 cellsCalls h'.tail
  exact ⟨fun i hi => ht.cell gParts i hi, fun i hi => hc.cell gCalls i hi⟩

end Go.Proofs.YtdpaohmaafngkaaDoor

/- Raw numbers as an argument: opened. -/
namespace Go.Proofs.YtdpaohmaafngkaaDoor
open Go Go.ChangeShapes Go.WideShapes Go.ChangeAt Go.RowKit

theorem typesB : Types Tryd.prog 3 83 63 65 22 where
  int := Tryd.underlying3
  ins := ⟨_, Tryd.underlying83, by kernel_rfl, by kernel_rfl, rfl, fun i f h => by
    match i, h with
    | 0, h => simp at h; subst h; rfl
    | 1, h => simp at h; subst h; rfl
    | 2, h => simp at h; subst h; rfl
    | 3, h => simp at h; subst h; rfl
    | 4, h => simp at h; subst h; rfl
    | i + 5, h => simp at h⟩
  inss := Tryd.underlying63
  fn := ⟨_, _, _, Tryd.underlying65, by kernel_rfl, by kernel_rfl, rfl, rfl, rfl⟩
  fns := Tryd.underlying22
  bI := by kernel_rfl
  bF := by kernel_rfl

set_option maxRecDepth 100000 in
theorem open_bodies {H : Type} {enc : TypeId × Value → H} {W : World} {base : Nat} {v : Value} {d : DataW H} {ps : List MemPlace}
    (hv : Value.okWide Tryd.prog W .any base 22 v) (h : DataW.Trod enc Tryd.prog W 0 (fun _ => true) true 22 v d ps) :
    ∃ p : List Fn, ProgVal W v p ∧ ∀ f ∈ p, f.wf := by
  obtain ⟨a0, len, cap, rfl⟩ := okWide_slice Tryd.underlying22 hv
  obtain ⟨fuel, hf⟩ := h
  obtain ⟨p, hp, hwf, _⟩ := open_fns typesB (by simpa [Value.cells] using hf)
  exact ⟨p, hp, hwf⟩

end Go.Proofs.YtdpaohmaafngkaaDoor

/- A slice of numbers as an argument: opened. -/
namespace Go.Proofs.YtdpaohmaafngkaaDoor
open Go Go.ChangeShapes Go.WideShapes Go.ChangeAt Go.RowKit

theorem bytesInt : Tryd.prog.bytesOf 3 = 8 := by kernel_rfl

set_option maxRecDepth 100000 in
theorem open_numbers {H : Type} {enc : TypeId × Value → H} {W : World} {base : Nat} {v : Value} {d : DataW H} {ps : List MemPlace}
    (hv : Value.okWide Tryd.prog W .any base 49 v) (h : DataW.Trod enc Tryd.prog W 0 (fun _ => true) true 49 v d ps) (hsz : ∀ n ∈ d.weights Tryd.prog 49, n ≤ reachBytes) :
    ∃ l : List Int, IntsVal W v l ∧ l.length * 8 ≤ 140737488351232 := by
  obtain ⟨a0, len, cap, rfl⟩ := okWide_slice Tryd.underlying49 hv
  obtain ⟨fuel, hf⟩ := h
  rcases open_ints Tryd.underlying49 Tryd.underlying3 cells3 hf with ⟨hcs, hx⟩ | ⟨a, len', cap', zs, hcs, _, hl, hm, hz, hx, hcell, hwz⟩
  · simp [Value.cells] at hcs
    obtain ⟨rfl, rfl, rfl⟩ := hcs
    exact ⟨[], ints_nil W, by simp⟩
  · simp [Value.cells] at hcs
    obtain ⟨rfl, rfl, rfl⟩ := hcs
    simp only [Prod.mk.injEq] at hx
    obtain ⟨rfl, rfl⟩ := hx
    simp only [if_true] at hz
    have hlen : (zs.take len).length = len := by simp; omega
    refine ⟨zs.take len, ?_, ?_⟩
    · by_cases hp : 0 < zs.length
      · obtain ⟨b, off, rfl, hc⟩ := ints_at hcell hp
        refine ⟨_, b, off, len, cap, rfl, hlen, fun _ => rfl, fun k hk => ?_, ⟨hl, fun e => by cases e⟩, hm⟩
        have hkl : k < len := by omega
        rw [hc k (by omega)]
        simp [List.getD_eq_getElem?_getD, List.getElem?_eq_getElem (show k < zs.length by omega)]
      · have h0 : len = 0 := by omega
        refine ⟨some a, 0, 0, len, cap, rfl, hlen, fun h => by omega, fun k hk => by omega, ⟨hl, fun e => by cases e⟩, hm⟩
    · have := hsz ((((lits .i64 (zs.take len)) : List (DataW H)).length + ((lits .i64 (zs.drop len)) : List (DataW H)).length) * Tryd.prog.bytesOf 3) (by simp [DataW.weights, Tryd.underlying49])
      rw [bytesInt] at this
      simp [lits, reachBytes] at this
      rw [hlen]
      omega
end Go.Proofs.YtdpaohmaafngkaaDoor

/- An Input as an argument: opened. -/
namespace Go.Proofs.YtdpaohmaafngkaaDoor
open Go Go.ChangeShapes Go.WideShapes Go.ChangeAt Go.RowKit

/-- An input of a run as a value: two arguments, answers, fuel. -/
def inVal (a0 a1 : Int) (nv : Value) (fuel : Int) : Value := .agg #[.int .i64 a0, .int .i64 a1, nv, .int .i64 fuel]

theorem ints_of_trod {H : Type} {enc : TypeId × Value → H} {W : World} {fuel : Nat} {v : Value} {x : DataW H × List MemPlace}
    (hf : DataW.trod enc Tryd.prog W 0 (fun _ => true) true fuel 49 [v] = some x) : ∃ l : List Int, IntsVal W v l := by
  rcases open_ints Tryd.underlying49 Tryd.underlying3 cells3 hf with ⟨hcs, hx⟩ | ⟨a, len, cap, zs, hcs, _, hl, hm, hz, hx, hcell, hwz⟩
  · obtain rfl : v = .slice none 0 0 := by simpa using hcs
    exact ⟨[], ints_nil W⟩
  · obtain rfl : v = .slice (some a) len cap := by simpa using hcs
    simp only [if_true] at hz
    have hlen : (zs.take len).length = len := by simp; omega
    refine ⟨zs.take len, ?_⟩
    by_cases hp : 0 < zs.length
    · obtain ⟨b, off, rfl, hc⟩ := ints_at hcell hp
      refine ⟨_, b, off, len, cap, rfl, hlen, fun _ => rfl, fun k hk => ?_, ⟨hl, fun e => by cases e⟩, hm⟩
      have hkl : k < len := by omega
      rw [hc k (by omega)]
      simp [List.getD_eq_getElem?_getD, List.getElem?_eq_getElem (show k < zs.length by omega)]
    · have h0 : len = 0 := by omega
      exact ⟨some a, 0, 0, len, cap, rfl, hlen, fun h => by omega, fun k hk => by omega, ⟨hl, fun e => by cases e⟩, hm⟩

end Go.Proofs.YtdpaohmaafngkaaDoor
