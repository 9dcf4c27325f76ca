/- The walk of tierlinekeep.MakeBits. -/
import Derived.Test.YtdcpipnfmgijdaaMade
namespace Go.Proofs.Ytdcpipnfmgijdaa
open Go Go.RowKit

theorem makeBits_walk (a b : Int) (w : World) (ha : Fits a) (hb : Fits b) :
    Calls Try.prog 8 #[.int .i64 a, .int .i64 b] w fun e w' => e = .returned (.bool true) ∧ Grown w w' := by
  obtain ⟨h1, h2, h3, h4, h5⟩ := bits_plain a b ha hb
  clear ha hb
  go_enter Try.func8, Try.ntmps8
  go_wp2_with (go_at_call 11; refine (made_any _ _ _ _ rfl).mono ?_; rintro e w' ⟨rfl, rfl⟩)
  go_ret
  exact ⟨rfl, Grown.refl _⟩
end Go.Proofs.Ytdcpipnfmgijdaa
