/- The walk of tierlinekeep.MakeDivides. -/
import Derived.Test.YtdcpipnfmgijdaaMade
namespace Go.Proofs.Ytdcpipnfmgijdaa
open Go Go.RowKit

theorem makeDivides_walk (a b : Int) (w : World) (ha : Fits a) (hb : Fits b) :
    Calls Try.prog 5 #[.int .i64 a, .int .i64 b] w fun e w' => e = .returned (.bool true) ∧ Grown w w' := by
  by_cases h0 : b = 0
  · subst h0
    have e9 : mkE 5 0 = 9 := rfl
    have e0 : mk 5 a 0 0 = 0 := rfl
    clear ha hb
    go_enter Try.func5, Try.ntmps5
    go_wp2_with (go_at_call 9; refine (make_any _ _ _ _ _).mono ?_; rintro e w' ⟨rfl, rfl⟩)
    go_ret
    exact ⟨rfl, Grown.refl _⟩
  · have e9 : mkE 5 b = 0 := by simp [mkE, h0]
    have hd := divides_plain a b ha hb h0
    obtain ⟨hs, hsg⟩ := rest_small a b h0
    generalize a.tmod b = r at hd hs hsg
    unfold Fits at ha hb
    by_cases hr : r = 0
    · subst hr
      clear hs hsg ha hb
      go_enter Try.func5, Try.ntmps5
      go_wp2_with (first
        | (go_at_call 9; refine (make_any _ _ _ _ _).mono ?_; rintro e w' ⟨rfl, rfl⟩)
        | (go_at_call 11; refine (made_any _ _ _ _ rfl).mono ?_; rintro e w' ⟨rfl, rfl⟩))
      go_ret
      exact ⟨rfl, Grown.refl _⟩
    · have hsg' : (r < 0 ↔ a < 0) := hsg.resolve_left hr
      clear hsg
      by_cases hp : 0 < b
      · have f1 : r < b := by omega
        have f2 : r > -b := by omega
        by_cases hz : a < 0
        · have f3 : r < 0 := hsg'.2 hz
          clear hs hsg'
          go_enter Try.func5, Try.ntmps5
          go_wp2_with (first
            | (go_at_call 9; refine (make_any _ _ _ _ _).mono ?_; rintro e w' ⟨rfl, rfl⟩)
            | (go_at_call 11; refine (made_any _ _ _ _ rfl).mono ?_; rintro e w' ⟨rfl, rfl⟩))
          go_ret
          refine ⟨?_, Grown.refl _⟩
          first | rfl | (show Ending.returned (.bool (decide (r < 0) == decide (a < 0))) = _; have e : decide (r < 0) = decide (a < 0) := decide_eq_decide.2 (by omega); rw [e]; simp)
        · have f3 : ¬ r < 0 := fun h => hz (hsg'.1 h)
          clear hs hsg'
          go_enter Try.func5, Try.ntmps5
          go_wp2_with (first
            | (go_at_call 9; refine (make_any _ _ _ _ _).mono ?_; rintro e w' ⟨rfl, rfl⟩)
            | (go_at_call 11; refine (made_any _ _ _ _ rfl).mono ?_; rintro e w' ⟨rfl, rfl⟩))
          go_ret
          refine ⟨?_, Grown.refl _⟩
          first | rfl | (show Ending.returned (.bool (decide (r < 0) == decide (a < 0))) = _; have e : decide (r < 0) = decide (a < 0) := decide_eq_decide.2 (by omega); rw [e]; simp)
      · have f1 : ¬ r < b := by omega
        have f0 : b < 0 := by omega
        by_cases hm : b = -9223372036854775808
        · subst hm
          have ew : wrap64 9223372036854775808 = -9223372036854775808 := by unfold wrap64; omega
          by_cases hz : a < 0
          · have f3 : r < 0 := hsg'.2 hz
            clear hs hsg'
            go_enter Try.func5, Try.ntmps5
            go_wp2_with (first
              | (go_at_call 9; refine (make_any _ _ _ _ _).mono ?_; rintro e w' ⟨rfl, rfl⟩)
              | (go_at_call 11; refine (made_any _ _ _ _ rfl).mono ?_; rintro e w' ⟨rfl, rfl⟩))
            go_ret
            refine ⟨?_, Grown.refl _⟩
            first | rfl | (show Ending.returned (.bool (decide (r < 0) == decide (a < 0))) = _; have e : decide (r < 0) = decide (a < 0) := decide_eq_decide.2 (by omega); rw [e]; simp)
          · have f3 : ¬ r < 0 := fun h => hz (hsg'.1 h)
            clear hs hsg'
            go_enter Try.func5, Try.ntmps5
            go_wp2_with (first
              | (go_at_call 9; refine (make_any _ _ _ _ _).mono ?_; rintro e w' ⟨rfl, rfl⟩)
              | (go_at_call 11; refine (made_any _ _ _ _ rfl).mono ?_; rintro e w' ⟨rfl, rfl⟩))
            go_ret
            refine ⟨?_, Grown.refl _⟩
            first | rfl | (show Ending.returned (.bool (decide (r < 0) == decide (a < 0))) = _; have e : decide (r < 0) = decide (a < 0) := decide_eq_decide.2 (by omega); rw [e]; simp)
        · have f2 : r < -b := by omega
          have f4 : r > b := by omega
          by_cases hz : a < 0
          · have f3 : r < 0 := hsg'.2 hz
            clear hs hsg'
            go_enter Try.func5, Try.ntmps5
            go_wp2_with (first
              | (go_at_call 9; refine (make_any _ _ _ _ _).mono ?_; rintro e w' ⟨rfl, rfl⟩)
              | (go_at_call 11; refine (made_any _ _ _ _ rfl).mono ?_; rintro e w' ⟨rfl, rfl⟩))
            go_ret
            refine ⟨?_, Grown.refl _⟩
            first | rfl | (show Ending.returned (.bool (decide (r < 0) == decide (a < 0))) = _; have e : decide (r < 0) = decide (a < 0) := decide_eq_decide.2 (by omega); rw [e]; simp)
          · have f3 : ¬ r < 0 := fun h => hz (hsg'.1 h)
            clear hs hsg'
            go_enter Try.func5, Try.ntmps5
            go_wp2_with (first
              | (go_at_call 9; refine (make_any _ _ _ _ _).mono ?_; rintro e w' ⟨rfl, rfl⟩)
              | (go_at_call 11; refine (made_any _ _ _ _ rfl).mono ?_; rintro e w' ⟨rfl, rfl⟩))
            go_ret
            refine ⟨?_, Grown.refl _⟩
            first | rfl | (show Ending.returned (.bool (decide (r < 0) == decide (a < 0))) = _; have e : decide (r < 0) = decide (a < 0) := decide_eq_decide.2 (by omega); rw [e]; simp)
end Go.Proofs.Ytdcpipnfmgijdaa
