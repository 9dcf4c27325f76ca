/- Contract of the document's oneBit (package tierlineref): a power of two. -/
import Derived.Test.YtndogdojcbcjgaaDoorGroupV
namespace Go.Proofs.YtndogdojcbcjgaaDoor
open Go Go.RowKit

set_option maxRecDepth 100000 in
set_option maxHeartbeats 400000 in
theorem oneBitR_any (bit : Nat) (w : World) (hb : bit ≤ 20) :
    Calls Tryd.prog 142 #[.int .i64 bit] w fun e w' => e = .returned (.int .i64 (2 ^ bit)) ∧ w' = w := by
  go_enter Tryd.func142, Tryd.ntmps142
  go_wp2
  go_loop [3, 4] (fun m i => ∃ k : Nat, k ≤ bit ∧ i = .int .i64 k ∧ m = .int .i64 ((2 ^ k : Nat) : Int)) (fun _ i => bit - (intOf i).toNat)
  case atStart => exact ⟨0, Nat.zero_le _, rfl, by simp⟩
  case round =>
    obtain ⟨k, hk, rfl, rfl⟩ := hrel
    have hlt2 : 2 ^ k < 2097152 := Nat.lt_of_le_of_lt (Nat.pow_le_pow_right (by decide) (show k ≤ 20 by omega)) (by decide)
    have HN : Hid (((2 ^ k : Nat) : Int) * 2 = ((2 ^ (k + 1) : Nat) : Int)) := by
      show _ = _
      rw [Nat.pow_succ]; omega
    by_cases hlt : k < bit
    · generalize 2 ^ k = m at hlt2 HN
      go_wp2
      go_round
      case rel => exact ⟨k + 1, by omega, by go_num, by rw [← HN.out]⟩
      case measure => simp [intOf]; omega
    · obtain rfl : k = bit := by omega
      have HM : Hid (((2 ^ k : Nat) : Int) = (2 : Int) ^ k) := by show _ = _; simp
      generalize (2 ^ k : Nat) = m at hlt2 HN HM
      go_wp2
      go_ret
      exact ⟨by rw [← HM.out]; rfl, rfl⟩
end Go.Proofs.YtndogdojcbcjgaaDoor
