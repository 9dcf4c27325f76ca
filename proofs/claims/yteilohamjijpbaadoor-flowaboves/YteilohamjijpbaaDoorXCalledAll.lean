/- Contracts of trim.calls, trim.called and trim.Called. -/
import Derived.Test.YteilohamjijpbaaDoorXKeptMath
import Derived.Test.YteilohamjijpbaaDoorXWhereAll
namespace Go.Proofs.YteilohamjijpbaaDoor
open Go Go.RowKit

theorem ints_slice {w : World} {v : Value} {l : List Int} (h : IntsVal w v l) : ∃ ao cap, v = .slice ao l.length cap ∧ (ao = none → l.length = 0 ∧ cap = 0) ∧ ∀ ad, ao = some ad → ∀ j u, (i64s l)[j]? = some u → w.cell? (ad.add j) = some u := by
  obtain ⟨ao, b, off, n, cap, rfl, rfl, ha, hc, ⟨hle, hcn⟩, hm⟩ := h
  refine ⟨ao, cap, rfl, fun e => ⟨by have := hcn e; omega, hcn e⟩, fun ad e j u hu => ?_⟩
  have hj : j < l.length := by
    have := (List.getElem?_eq_some_iff.1 hu).1
    simpa [i64s] using this
  have e2 := ha (by omega)
  rw [e] at e2
  obtain rfl : ad = ⟨b, off, none⟩ := by simpa using e2
  have hadd : (⟨b, off, none⟩ : Addr).add j = ⟨b, off + j, none⟩ := by unfold Addr.add; split <;> simp_all
  rw [hadd, hc j hj]
  simp only [i64s, List.getElem?_map, List.getElem?_eq_getElem hj, Option.map_some, Option.some.injEq] at hu
  rw [hu]
theorem row_pop {w : World} {base g n cap : Nat} {l : List Int} {z : Int} (hl : l.length = n) (h : w.ownsRow base 3 1 (.slice (some ⟨g, 0, none⟩) (n + 1) cap) (n + 1) (i64s (l ++ [z]))) :
    w.ownsRow base 3 1 (.slice (some ⟨g, 0, none⟩) n cap) n (i64s l) := by
  refine ⟨by simp [i64s, hl], ?_⟩
  rcases h.2 with ⟨e, _⟩ | ⟨g', cap', cur, e, hb, hh, hn, hm, hs, ht⟩
  · cases e
  · obtain ⟨rfl, rfl⟩ : g = g' ∧ cap = cap' := by simpa using e
    refine Or.inr ⟨g, cap, cur, rfl, hb, hh, by omega, hm, hs, ?_⟩
    have e2 : (cur.toList.take ((n + 1) * 1)).take (n * 1) = (i64s (l ++ [z])).take (n * 1) := by rw [ht]
    rw [List.take_take, Nat.min_eq_left (by omega)] at e2
    rw [e2, i64s_append, List.take_append_of_le_length (by simp [i64s, hl])]
    exact List.take_of_length_le (by simp [i64s, hl])

/-- What a call that answers P5.2 leaves. -/
def CalledPost (P : List Fn) (w : World) (e : Ending) (w' : World) : Prop :=
  (∃ E, (E != 0) = true ∧ e = .returned (.tuple #[.slice none 0 0, .int .i64 E]) ∧ ProofAns P E ∧ Below w.heap.size w w') ∨
  (ProofAns P 0 ∧ ∃ g c, e = .returned (.tuple #[.slice (some ⟨g, 0, none⟩) P.length P.length, .int .i64 0]) ∧ CalledSpec P c ∧ BoolRow w' g P.length c ∧ w.heap.size ≤ g ∧ Below w.heap.size w w')

end Go.Proofs.YteilohamjijpbaaDoor
