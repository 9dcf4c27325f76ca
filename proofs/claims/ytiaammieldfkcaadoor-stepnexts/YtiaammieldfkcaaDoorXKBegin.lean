/- Contract of tierlinekeep.Begin: a run of a right program begins (written by gen/mkkb.py). -/
import Derived.Test.YtiaammieldfkcaaDoorXStAt
import Derived.Test.YtiaammieldfkcaaDoorGroupR
import Derived.Test.YtiaammieldfkcaaDoorGroupB
import Derived.Test.YtiaammieldfkcaaDoorGroupD
import Derived.Test.YtiaammieldfkcaaDoorXEngWalk
import Derived.Test.YtiaammieldfkcaaDoorGroupF
namespace Go.Proofs.YtiaammieldfkcaaDoor
open Go Go.RowKit

theorem ints_cut {w : World} {a : Option Addr} {n c m : Nat} {l : List Int} (h : IntsVal w (.slice a n c) l) (hm : m ≤ n) : IntsVal w (.slice a m c) (l.take m) := by
  obtain ⟨ao, b, off, n', cap, e, hl, ha, hc, hcp, hx⟩ := h
  simp only [Value.slice.injEq] at e
  obtain ⟨rfl, rfl, rfl⟩ := e
  refine ⟨a, b, off, m, c, rfl, by rw [List.length_take]; omega, fun h0 => ha (by omega), fun k hk => ?_, ⟨by omega, hcp.2⟩, hx⟩
  have hk' : k < m ∧ k < l.length := by rw [List.length_take] at hk; omega
  rw [hc k hk'.2]
  simp

end Go.Proofs.YtiaammieldfkcaaDoor
