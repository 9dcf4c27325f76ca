/- The walk of tierlinelaw.RvChecks: at every instruction it says true, and nothing that was there has turned. -/
import Derived.Test.YthlljbifijodeaaDoorRvFault
namespace Go.Proofs.YthlljbifijodeaaDoor
open Go Go.RowKit

theorem cells5R {w : World} {g : Nat} {a b c d e : Int} {t : TypeId} {fr : Nat × Nat} (h : w.heap[g]? = some (.cells #[.int .i64 a, .int .i64 b, .int .i64 c, .int .i64 d, .int .i64 e] t fr)) :
    w.cell? ⟨g, 0, none⟩ = some (.int .i64 a) ∧ w.cell? ⟨g, 1, none⟩ = some (.int .i64 b) ∧ w.cell? ⟨g, 2, none⟩ = some (.int .i64 c) ∧ w.cell? ⟨g, 3, none⟩ = some (.int .i64 d) ∧ w.cell? ⟨g, 4, none⟩ = some (.int .i64 e) := by
  refine ⟨?_, ?_, ?_, ?_, ?_⟩ <;> rw [cell_of_row _ _ _ _ _ _ h] <;> rfl
set_option maxRecDepth 100000 in
theorem rvChecks_walk (x : Mi) (w : World) (ht : RvTab w) :
    Calls Tryd.prog 3 #[x.val] w fun e w' => e = .returned (.bool true) ∧ Below w.heap.size w w' := by
  have HC : Hid (∀ o, Calls Tryd.prog 12 #[x.val] (w.alloc o) fun e w' => e = .returned (.int .i64 (rvE x)) ∧ Below (w.alloc o).heap.size (w.alloc o) w') := fun o => rcheck_any x _ (ht.below ((Below.refl _ _).alloc (Nat.le_refl _) _))
  have HF : Hid (∀ W, Calls Tryd.prog 13 #[x.val] W fun e w' => e = .returned (.int .i64 (rvE x)) ∧ Below W.heap.size W w') := fun W => rvFault_any x W
  clear ht
  generalize rvE x = E at *
  obtain ⟨op, rd, rs1, rs2, imm⟩ := x
  unfold Mi.val at *
  dsimp only at *
  go_enter Tryd.func3, Tryd.ntmps3
  go_wp2_with (first
    | (go_at_call 12; refine (HC.out _).mono ?_; rintro e w1 ⟨rfl, hb1⟩; have HB1 : Hid (Below w.heap.size w w1) := ((Below.refl _ _).alloc (Nat.le_refl _) _).trans (hb1.mono (by simp)); have c := cells5R ((hb1.block w.heap.size (by simp)).trans (heap_alloc_last w _)); obtain ⟨c0, c1, c2, c3, c4⟩ := c; have hz1 : w.heap.size < w1.heap.size := Nat.lt_of_lt_of_le (by simp) hb1.size; clear hb1)
    | (go_at_call 13; refine (HF.out _).mono ?_; rintro e w2 ⟨rfl, hb2⟩; have HB2 : Hid (Below w.heap.size w w2) := HB1.out.trans (hb2.mono HB1.out.size); clear hb2))
  go_ret
  exact ⟨by simp, HB2.out⟩
end Go.Proofs.YthlljbifijodeaaDoor
