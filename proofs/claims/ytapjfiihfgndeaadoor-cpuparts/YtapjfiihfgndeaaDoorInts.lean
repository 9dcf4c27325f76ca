/- Slices of numbers: how they lie in memory, and rows of them that a call has built. -/
import Derived.Test.YtapjfiihfgndeaaDoorProg
import Derived.Test.YtapjfiihfgndeaaDoorBytes
import Derived.Test.YtapjfiihfgndeaaDoorZero
namespace Go.Proofs.YtapjfiihfgndeaaDoor
open Go Go.RowKit

theorem info64 : (Tryd.prog.info? 3).map (fun i => (i.zero, i.size, i.bytes)) = some (some (.int .i64 0), 1, 8) := by kernel_rfl
def i64s (l : List Int) : List Value := l.map (Value.int .i64)
theorem i64s_length (l : List Int) : (i64s l).length = l.length := by simp [i64s]
theorem i64s_append (l m : List Int) : i64s (l ++ m) = i64s l ++ i64s m := by simp [i64s]
theorem i64s_one (l : List Int) : ∀ u ∈ i64s l, u.oneCell' = true := by
  intro u hu
  obtain ⟨x, _, rfl⟩ := List.mem_map.1 hu
  rfl

/-- A slice of numbers lies in memory. -/
def IntsVal (w : World) (v : Value) (l : List Int) : Prop :=
  ∃ ao b off n cap, v = .slice ao n cap ∧ l.length = n ∧ (0 < n → ao = some ⟨b, off, none⟩) ∧ (∀ k (h : k < l.length), w.cell? ⟨b, off + k, none⟩ = some (.int .i64 l[k])) ∧ (n ≤ cap ∧ (ao = none → cap = 0)) ∧ cap ≤ maxLen
theorem IntsVal.keeps {w w' : World} {v : Value} {l : List Int} (h : IntsVal w v l) (k : Keeps w w') : IntsVal w' v l := by
  obtain ⟨ao, b, off, n, cap, rfl, h1, h2, h3, h4⟩ := h
  exact ⟨ao, b, off, n, cap, rfl, h1, h2, fun i hi => k _ _ (h3 i hi), h4⟩
theorem IntsVal.shape {w : World} {v : Value} {l : List Int} (h : IntsVal w v l) : ∃ ao cap, v = .slice ao l.length cap := by
  obtain ⟨ao, b, off, n, cap, rfl, rfl, _⟩ := h
  exact ⟨ao, cap, rfl⟩
theorem ints_nil (w : World) : IntsVal w (.slice none 0 0) [] := ⟨none, 0, 0, 0, 0, rfl, rfl, fun h => by omega, fun k h => by simp at h, ⟨Nat.le_refl _, fun _ => rfl⟩, by simp [maxLen]⟩
theorem ints_of_own {w : World} {base t : Nat} {v : Value} {l : List Int} (h : w.ownsRow base t 1 v l.length (i64s l)) : IntsVal w v l := by
  have hc := @World.ownsRow.cells _ _ _ _ _ _ _ h
  rcases h.2 with ⟨rfl, h0⟩ | ⟨g, cap, cur, rfl, _, hg, hn, hm, _, _⟩
  · obtain rfl : l = [] := List.length_eq_zero_iff.1 h0
    exact ints_nil w
  · refine ⟨_, g, 0, _, cap, rfl, rfl, fun _ => rfl, fun i hi => ?_, ⟨hn, fun e => by cases e⟩, hm⟩
    have := hc (g := g) rfl i (.int .i64 l[i]) (by simp [i64s, hi])
    have hadd : (⟨g, 0, none⟩ : Addr).add i = ⟨g, 0 + i, none⟩ := by unfold Addr.add; split <;> simp_all
    rwa [hadd] at this

end Go.Proofs.YtapjfiihfgndeaaDoor
