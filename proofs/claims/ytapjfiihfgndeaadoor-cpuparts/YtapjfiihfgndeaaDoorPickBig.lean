/- Contract of tierlinekeep.picked at any bound. -/
import Derived.Test.YtapjfiihfgndeaaDoorMakeMath
namespace Go.Proofs.YtapjfiihfgndeaaDoor
open Go Go.RowKit

def pickB (n many : Int) : Int := (if n < 0 then -(n + 1) else n) % many
theorem pickB_bounds (n many : Int) (h : 0 < many) : 0 ≤ pickB n many ∧ pickB n many < many := by
  unfold pickB
  exact ⟨Int.emod_nonneg _ (by omega), Int.emod_lt_of_pos _ h⟩
theorem picked_big (n many : Int) (w : World) (hn : Fits n) (h1 : 0 < many) :
    Calls Tryd.prog 19 #[.int .i64 n, .int .i64 many] w fun e w' => e = .returned (.int .i64 (pickB n many)) ∧ w' = w := by
  unfold Fits at hn
  have hm : ¬ many = 0 := by omega
  by_cases h : n < 0
  · have e : pickB n many = (-(n + 1)) % many := by unfold pickB; rw [if_pos h]
    have e2 : (-(n + 1)) % many = (-(n + 1)).tmod many := by rw [Int.tmod_eq_emod_of_nonneg (by omega)]
    rw [e, e2, Int.neg_tmod]
    clear e e2
    go_enter Tryd.func19, Tryd.ntmps19
    go_wp2
    go_ret
    exact ⟨rfl, rfl⟩
  · have e : pickB n many = n % many := by unfold pickB; rw [if_neg h]
    rw [e]
    clear e
    go_enter Tryd.func19, Tryd.ntmps19
    go_wp2
    go_ret
    exact ⟨rfl, rfl⟩
end Go.Proofs.YtapjfiihfgndeaaDoor
