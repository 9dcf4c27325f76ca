/- Contract of tierlinekeep.made: what an op makes, and whether it does. -/
import Derived.Test.YtdcpipnfmgijdaaMakeMath
namespace Go.Proofs.Ytdcpipnfmgijdaa
open Go Go.RowKit

theorem made_any (op a b : Int) (w : World) (h : mkE op b = 0) :
    Calls Try.prog 11 #[.int .i64 op, .int .i64 a, .int .i64 b] w fun e w' => e = .returned (.tuple #[.int .i64 (mk op a b 0), .bool true]) ∧ w' = w := by
  have hm := make_any op a b 0
  rw [h] at hm
  generalize mk op a b 0 = m at hm
  clear h
  go_enter Try.func11, Try.ntmps11
  go_wp2_with (go_at_call 9; refine (hm _).mono ?_; rintro e w' ⟨rfl, rfl⟩)
  go_ret2
  exact ⟨rfl, rfl⟩
end Go.Proofs.Ytdcpipnfmgijdaa
