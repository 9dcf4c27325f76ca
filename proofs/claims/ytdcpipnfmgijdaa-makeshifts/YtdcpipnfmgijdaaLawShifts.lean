/- The walk of tierlinekeep.MakeShifts. -/
import Derived.Test.YtdcpipnfmgijdaaMade
import Derived.Test.YtdcpipnfmgijdaaPickBig
namespace Go.Proofs.Ytdcpipnfmgijdaa
open Go Go.RowKit

theorem makeShifts_walk (a n : Int) (w : World) (ha : Fits a) (hn : Fits n) :
    Calls Try.prog 6 #[.int .i64 a, .int .i64 n] w fun e w' => e = .returned (.bool true) ∧ Grown w w' := by
  have hp := fun w => picked_big n 64 w hn (by decide)
  obtain ⟨k0, k1⟩ := pickB_bounds n 64 (by decide)
  generalize pickB n 64 = k at hp k0 k1
  obtain ⟨h1, h2, h3, h4, h5⟩ := shifts_plain a k ha
  by_cases hz : a < 0
  · have e11 : mk 11 a 0 0 = 1 := by rw [mk11, if_pos hz]
    rw [if_pos hz] at h4
    have h6 : mk 10 a k 0 < 0 := h5.2 hz
    rw [h3] at h6
    clear h5 ha hn
    go_enter Try.func6, Try.ntmps6
    go_wp2_with (first
      | (go_at_call 11; refine (made_any _ _ _ _ rfl).mono ?_; rintro e w' ⟨rfl, rfl⟩)
      | (go_at_call 12; refine (hp _).mono ?_; rintro e w' ⟨rfl, rfl⟩))
    go_ret
    exact ⟨rfl, Grown.refl _⟩
  · have e11 : mk 11 a 0 0 = 0 := by rw [mk11, if_neg hz]
    rw [if_neg hz] at h4
    have h6 : ¬ mk 10 a k 0 < 0 := fun h => hz (h5.1 h)
    rw [h3] at h6
    clear h5 ha hn
    go_enter Try.func6, Try.ntmps6
    go_wp2_with (first
      | (go_at_call 11; refine (made_any _ _ _ _ rfl).mono ?_; rintro e w' ⟨rfl, rfl⟩)
      | (go_at_call 12; refine (hp _).mono ?_; rintro e w' ⟨rfl, rfl⟩))
    go_ret
    refine ⟨?_, Grown.refl _⟩
    show Ending.returned (.bool (decide (mk 10 a (k - 64) 0 < 0) == decide (a < 0))) = _
    have e : decide (mk 10 a (k - 64) 0 < 0) = decide (a < 0) := decide_eq_decide.2 (by omega)
    rw [e]
    simp
end Go.Proofs.Ytdcpipnfmgijdaa
