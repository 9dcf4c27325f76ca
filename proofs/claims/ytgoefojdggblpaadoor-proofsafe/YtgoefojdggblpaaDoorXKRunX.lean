/- tierlinekeep.Begin again, with the state that it begins at; what ended at two places is the same. -/
import Derived.Test.YtgoefojdggblpaaDoorXKRun
import Derived.Test.YtgoefojdggblpaaDoorXStepRun
import Derived.Test.YtgoefojdggblpaaDoorXMoreMath
namespace Go.Proofs.YtgoefojdggblpaaDoor
open Go Go.RowKit

/-- Begin, with the cells laid open, and the state itself. -/
theorem kbeginX (P : List Fn) (pv : Value) (a0 a1 fuel : Int) (nv : Value) (l : List Int) (w : World) (ht : TabOk w) (hc : CallOk w) (hR : ProofAns P 0) (hv : ProgVal w pv P) (hn : IntsVal w nv l) (hfu : I64 fuel) :
    Calls Tryd.prog 15 #[.agg #[pv], inVal a0 a1 nv fuel] w fun e w' => ∃ cs S, e = .returned (.tuple #[.agg cs, .bool true]) ∧ (KRunAt P S ∧ S = beginSt ([a0, a1].take (par0 P).toNat) (l.take 10) (pickI fuel 300)) ∧ (S.fuel ≤ 299 ∧ S.answers.length ≤ 10 ∧ S.status = 0) ∧ (Tryd.prog.info? 34).map (·.size) = some cs.size ∧ zeroStCells.size = cs.size ∧ cs.all (·.oneCell') = true ∧ StAt w' w.heap.size (.agg cs) S ∧ Below w.heap.size w w' := by
  refine (kbegin_any P pv a0 a1 fuel nv l w ht hc hR hv hn hfu).mono ?_
  rintro e w' ⟨v', rfl, hst, hb⟩
  obtain ⟨cs, rfl, c1, c2, c3⟩ := hst.val.cells
  have hpb := pickI_bounds fuel 300 (by omega)
  refine ⟨cs, _, rfl, ⟨krun_begin hR a0 a1 fuel l, rfl⟩, ⟨?_, ?_, rfl⟩, c1, c2, c3, hst, hb⟩
  · show pickI fuel 300 ≤ 299; omega
  · show (l.take 10).length ≤ 10; rw [List.length_take]; omega
theorem ended_same (P : List Fn) (k m : Nat) (S : St) (h1 : (walkS P k S).status ≠ 0) (h2 : (walkS P m S).status ≠ 0) : walkS P k S = walkS P m S := by
  rcases Nat.le_total k m with h | h
  · exact (walkS_ended P k m S h h1).symm
  · exact walkS_ended P m k S h h2
/-- What the arguments of a run are, as they lie in an Input's box. -/
theorem args_vals {W : World} {g : Nat} {a0 a1 : Int} {v2 v3 : Value} {t : Nat} (hg : W.heap[g]? = some (.cells #[.int .i64 a0, .int .i64 a1, v2, v3] t (0, 0))) {p : Nat} (hp : p ≤ 2) : IntsVal W (.slice (some ⟨g, 0, none⟩) p 2) ([a0, a1].take p) := by
  refine ⟨_, g, 0, p, 2, rfl, by rw [List.length_take]; simp; omega, fun _ => rfl, fun k hk => ?_, ⟨hp, fun e => by cases e⟩, by simp [maxLen]⟩
  rw [cell_of_row _ _ _ _ _ _ hg]
  rcases (show p = 0 ∨ p = 1 ∨ p = 2 by omega) with rfl | rfl | rfl
  · exact absurd hk (by simp)
  · obtain rfl : k = 0 := by have : k < 1 := hk; omega
    rfl
  · rcases (show k = 0 ∨ k = 1 by have : k < 2 := hk; omega) with rfl | rfl <;> rfl
/-- The answers that a run takes: ten at most. -/
theorem take_ten (l : List Int) : l.take (min l.length 10) = l.take 10 := by
  rcases Nat.le_total l.length 10 with h | h
  · rw [Nat.min_eq_left h, List.take_of_length_le (Nat.le_refl _), List.take_of_length_le h]
  · rw [Nat.min_eq_right h]
theorem ints_cap {w : World} {a : Option Addr} {n c : Nat} {l : List Int} (h : IntsVal w (.slice a n c) l) : n ≤ c ∧ c ≤ 9223372036854775807 := by
  obtain ⟨ao, b', off', n', cap', e, hl, ha, hcc, hcp, hx⟩ := h
  simp only [Value.slice.injEq] at e
  unfold maxLen at hx
  omega
end Go.Proofs.YtgoefojdggblpaaDoor
