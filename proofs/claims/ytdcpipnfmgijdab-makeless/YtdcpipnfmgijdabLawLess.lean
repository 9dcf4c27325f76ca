/- The walk of tierlinekeep.MakeLess. -/
import Derived.Test.YtdcpipnfmgijdabMade
import Derived.Test.YtdcpipnfmgijdabPickBig
namespace Go.Proofs.Ytdcpipnfmgijdab
open Go Go.RowKit

theorem makeLess_walk (a b c : Int) (w : World) (ha : Fits a) (hb : Fits b) (hc : Fits c) :
    Calls Try.prog 3 #[.int .i64 a, .int .i64 b, .int .i64 c] w fun e w' => e = .returned (.bool true) ∧ Grown w w' := by
  obtain ⟨h1, h2, h3⟩ := less_plain _ _ _ (pickB_bounds a 1099511627776 (by decide)) (pickB_bounds b 1099511627776 (by decide)) (pickB_bounds c 1099511627776 (by decide))
  rw [h1] at h2
  go_enter Try.func3, Try.ntmps3
  go_wp2_with (first
    | (go_at_call 5; refine (made_any _ _ _ _ rfl).mono ?_; rintro e w' ⟨rfl, rfl⟩)
    | (go_at_call 4; refine (picked_big _ _ _ (by assumption) (by decide)).mono ?_; rintro e w' ⟨rfl, rfl⟩))
  go_ret
  exact ⟨rfl, Grown.refl _⟩
end Go.Proofs.Ytdcpipnfmgijdab
