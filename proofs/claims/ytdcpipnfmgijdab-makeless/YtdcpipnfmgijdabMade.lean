/- Contract of tierlinekeep.made: what an op makes, and whether it does. -/
import Derived.Test.YtdcpipnfmgijdabMakeMath
namespace Go.Proofs.Ytdcpipnfmgijdab
open Go Go.RowKit

theorem made_any (op a b : Int) (w : World) (h : mkE op b = 0) :
    Calls Try.prog 5 #[.int .i64 op, .int .i64 a, .int .i64 b] w fun e w' => e = .returned (.tuple #[.int .i64 (mk op a b 0), .bool true]) ∧ w' = w := by
  have hm := make_any op a b 0
  rw [h] at hm
  generalize mk op a b 0 = m at hm
  clear h
  go_enter Try.func5, Try.ntmps5
  go_wp2_with (go_at_call 6; refine (hm _).mono ?_; rintro e w' ⟨rfl, rfl⟩)
  go_ret2
  exact ⟨rfl, rfl⟩
end Go.Proofs.Ytdcpipnfmgijdab
