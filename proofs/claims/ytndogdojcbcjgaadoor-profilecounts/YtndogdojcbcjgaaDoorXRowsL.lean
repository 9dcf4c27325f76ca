/- Lists of lists of numbers that a call has built. -/
import Derived.Test.YtndogdojcbcjgaaDoorXOwnInts
namespace Go.Proofs.YtndogdojcbcjgaaDoor
open Go Go.RowKit

theorem infoInts : (Tryd.prog.info? 27).map (fun i => (i.zero, i.size, i.bytes)) = some (some (.slice none 0 0), 1, 24) := by kernel_rfl
/-- Lists of numbers in a row that the call has built. -/
structure RowsAt (w : World) (base : Nat) (v : Value) (vs : List Value) (Ls : List (List Int)) : Prop where
  row : w.ownsRow base 27 1 v vs.length vs
  len : vs.length = Ls.length
  own : ∀ i (hi : i < vs.length), OwnI w base vs[i] (Ls.getD i [])
theorem RowsAt.nil (w : World) (base : Nat) : RowsAt w base (.slice none 0 0) [] [] := ⟨World.ownsRow_nil _ _ _ _, rfl, fun i hi => by cases hi⟩
theorem RowsAt.below {w w' : World} {base : Nat} {v : Value} {vs : List Value} {Ls : List (List Int)} (h : RowsAt w base v vs Ls) (hb : Below w.heap.size w w') : RowsAt w' base v vs Ls :=
  ⟨ownsRow_below h.row hb, h.len, fun i hi => ownsRow_below (h.own i hi) hb⟩
theorem RowsAt.add {w w' : World} {base : Nat} {v v' u : Value} {vs : List Value} {Ls : List (List Int)} {L : List Int} (h : RowsAt w base v vs Ls) (hu : OwnI w base u L) (hr : w'.ownsRow base 27 1 v' (vs ++ [u]).length (vs ++ [u])) (hg : w.grownBy w' v.ownBlock) : RowsAt w' base v' (vs ++ [u]) (Ls ++ [L]) := by
  refine ⟨hr, by simp [h.len], fun i hi => ?_⟩
  have hl := h.len
  by_cases hiv : i < vs.length
  · have e1 : (vs ++ [u])[i] = vs[i] := List.getElem_append_left hiv
    have e2 : (Ls ++ [L]).getD i [] = Ls.getD i [] := by simp [List.getD, List.getElem?_append_left (show i < Ls.length by omega)]
    rw [e1, e2]
    exact (h.own i hiv).kept hg (own_apart (h.own i hiv) h.row (by decide))
  · obtain rfl : i = vs.length := by simp at hi; omega
    have e1 : (vs ++ [u])[vs.length] = u := by simp
    have e2 : (Ls ++ [L]).getD vs.length [] = L := by rw [hl]; simp [List.getD]
    rw [e1, e2]
    exact hu.kept hg (own_apart hu h.row (by decide))
theorem OwnI.one {w : World} {base : Nat} {v : Value} {l : List Int} (h : OwnI w base v l) : v.oneCell' = true := by
  obtain ⟨ao, cap, rfl⟩ := own_shape h; rfl
end Go.Proofs.YtndogdojcbcjgaaDoor
