/- The walk of tierlinekeep.MakeOrders. -/
import Derived.Test.YtdcpipnfmgijdaaMade
namespace Go.Proofs.Ytdcpipnfmgijdaa
open Go Go.RowKit

theorem makeOrders_walk (a b : Int) (w : World) (_ha : Fits a) (_hb : Fits b) :
    Calls Try.prog 7 #[.int .i64 a, .int .i64 b] w fun e w' => e = .returned (.bool true) ∧ Grown w w' := by
  have h := orders_plain a b
  have hw : wrap64 (wrap64 (mk 11 a b 0 + mk 11 b a 0) + mk 12 a b 0) = 1 := by rw [mk11, mk11, mk12] at h ⊢; unfold wrap64; revert h; split <;> split <;> split <;> omega
  have h5 : mk 1 a b 5 = 5 := rfl
  have e5 : mkE 1 b = 0 := rfl
  have e13 : mkE 13 b = 3 := rfl
  clear h
  go_enter Try.func7, Try.ntmps7
  go_wp2_with (first
    | (go_at_call 11; refine (made_any _ _ _ _ rfl).mono ?_; rintro e w' ⟨rfl, rfl⟩)
    | (go_at_call 9; refine (make_any _ _ _ _ _).mono ?_; rintro e w' ⟨rfl, rfl⟩))
  go_ret
  exact ⟨rfl, Grown.refl _⟩
end Go.Proofs.Ytdcpipnfmgijdaa
