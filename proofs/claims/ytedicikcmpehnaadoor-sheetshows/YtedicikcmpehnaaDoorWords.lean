/- Contract of tierlineref.opWord: an op's word. -/
import Derived.Test.YtedicikcmpehnaaDoorDec
namespace Go.Proofs.YtedicikcmpehnaaDoor
open Go Go.RowKit

/-- The ops' words, as bytes. -/
def wordL : List (List UInt8) := [[], [115, 101, 116], [97, 100, 100], [115, 117, 98], [109, 117, 108], [100, 105, 118], [97, 110, 100], [111, 114], [120, 111, 114], [115, 104, 108], [115, 97, 114], [108, 116], [101, 113], [108, 111, 97, 100], [115, 116, 111, 114, 101], [106, 117, 109, 112], [105, 102], [99, 97, 108, 108], [104, 111, 115, 116], [114, 101, 116]]

set_option maxHeartbeats 4000000 in
theorem opWord_any (m : Nat) (w : World) (hm : m < 20) :
    Calls Tryd.prog 21 #[.int .i64 m] w fun e w' => e = .returned (strV (wordL.getD m [])) ∧ Below w.heap.size w w' := by
  have hc : m = 0 ∨ m = 1 ∨ m = 2 ∨ m = 3 ∨ m = 4 ∨ m = 5 ∨ m = 6 ∨ m = 7 ∨ m = 8 ∨ m = 9 ∨ m = 10 ∨ m = 11 ∨ m = 12 ∨ m = 13 ∨ m = 14 ∨ m = 15 ∨ m = 16 ∨ m = 17 ∨ m = 18 ∨ m = 19 := by omega
  rcases hc with rfl | rfl | rfl | rfl | rfl | rfl | rfl | rfl | rfl | rfl | rfl | rfl | rfl | rfl | rfl | rfl | rfl | rfl | rfl | rfl
  all_goals
    clear hm
    go_enter Tryd.func21, Tryd.ntmps21
    go_wp2_with fail
    go_ret
    exact ⟨rfl, (Below.refl _ w).alloc (Nat.le_refl _) _⟩

end Go.Proofs.YtedicikcmpehnaaDoor
