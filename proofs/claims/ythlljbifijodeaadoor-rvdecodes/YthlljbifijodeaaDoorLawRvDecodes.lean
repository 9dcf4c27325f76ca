/- The walk of tierlinelaw.RvDecodes: at every number it says true, and nothing that was there has turned. -/
import Derived.Test.YthlljbifijodeaaDoorRvOf
namespace Go.Proofs.YthlljbifijodeaaDoor
open Go Go.RowKit

set_option maxRecDepth 100000 in
set_option maxHeartbeats 1000000 in
theorem rvDecodes_walk (wd : Int) (h : Fits wd) (w : World) (ht : RvTab w) :
    Calls Tryd.prog 5 #[.int .i64 wd] w fun e w' => e = .returned (.bool true) ∧ Below w.heap.size w w' := by
  have hD := rdecode_any wd w ht
  have HF : Hid (∀ W, Calls Tryd.prog 17 #[.int .i64 wd] W fun e w' => e = .returned (.tuple #[(decX wd).val, .int .i64 (decE wd)]) ∧ Below W.heap.size W w') := fun W => rvOf_any wd h W
  clear ht h
  generalize decE wd = E at *
  generalize decX wd = X at *
  obtain ⟨op, rd, rs1, rs2, imm⟩ := X
  unfold Mi.val at *
  dsimp only at *
  go_enter Tryd.func5, Tryd.ntmps5
  go_wp2_with (first
    | (go_at_call 16; refine hD.mono ?_; rintro e w1 ⟨rfl, hb1⟩; have HB1 : Hid (Below w.heap.size w w1) := hb1; clear hb1; have HB1a := fun o => HB1.out.alloc HB1.out.size o)
    | (go_at_call 17; refine (HF.out _).mono ?_; rintro e w2 ⟨rfl, hb2⟩; have HB2 : Hid (Below w.heap.size w w2) := (HB1a _).trans (hb2.mono (by have := HB1.out.size; simp; omega)); have hz2 : w1.heap.size < w2.heap.size := Nat.lt_of_lt_of_le (by simp) hb2.size; have c := cells5W ((hb2.block w1.heap.size (by simp)).trans (heap_alloc_last w1 _)); have d0 := fun o => cell_alloc c.1 o; have d1 := fun o => cell_alloc c.2.1 o; have d2 := fun o => cell_alloc c.2.2.1 o; have d3 := fun o => cell_alloc c.2.2.2.1 o; have d4 := fun o => cell_alloc c.2.2.2.2 o; clear hb2 c))
  go_ret
  exact ⟨by simp, HB2.out.alloc HB2.out.size _⟩
end Go.Proofs.YthlljbifijodeaaDoor
