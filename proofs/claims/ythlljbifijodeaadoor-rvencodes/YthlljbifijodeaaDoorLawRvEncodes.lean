/- The walk of tierlinelaw.RvEncodes: at every instruction it says true, and nothing that was there has turned. -/
import Derived.Test.YthlljbifijodeaaDoorRvWordOf
namespace Go.Proofs.YthlljbifijodeaaDoor
open Go Go.RowKit

/-- An instruction whose numbers can be handed in. -/
structure MiFitsE (x : Mi) : Prop where
  op : Fits x.op
  rd : Fits x.rd
  rs1 : Fits x.rs1
  rs2 : Fits x.rs2
  imm : Fits x.imm

set_option maxRecDepth 100000 in
set_option maxHeartbeats 1000000 in
theorem rvEncodes_walk (x : Mi) (h : MiFitsE x) (w : World) (ht : RvTab w) :
    Calls Tryd.prog 4 #[x.val] w fun e w' => e = .returned (.bool true) ∧ Below w.heap.size w w' := by
  have HC : Hid (∀ o, Calls Tryd.prog 14 #[x.val] (w.alloc o) fun e w' => e = .returned (.tuple #[.int .i64 (encI x), .int .i64 (rvE x)]) ∧ Below (w.alloc o).heap.size (w.alloc o) w') := fun o => rencode_any x _ (ht.below ((Below.refl _ _).alloc (Nat.le_refl _) _))
  have HF : Hid (∀ W, Calls Tryd.prog 15 #[x.val] W fun e w' => e = .returned (.tuple #[.int .i64 (encI x), .int .i64 (rvE x)]) ∧ Below W.heap.size W w') := fun W => wordOf_any x h.rd h.rs1 h.rs2 h.imm W
  clear ht h
  generalize rvE x = E at *
  generalize encI x = V at *
  obtain ⟨op, rd, rs1, rs2, imm⟩ := x
  unfold Mi.val at *
  dsimp only at *
  go_enter Tryd.func4, Tryd.ntmps4
  go_wp2_with (first
    | (go_at_call 14; refine (HC.out _).mono ?_; rintro e w1 ⟨rfl, hb1⟩; have HB1 : Hid (Below w.heap.size w w1) := ((Below.refl _ _).alloc (Nat.le_refl _) _).trans (hb1.mono (by simp)); have c := cells5W ((hb1.block w.heap.size (by simp)).trans (heap_alloc_last w _)); obtain ⟨c0, c1, c2, c3, c4⟩ := c; have hz1 : w.heap.size < w1.heap.size := Nat.lt_of_lt_of_le (by simp) hb1.size; clear hb1)
    | (go_at_call 15; refine (HF.out _).mono ?_; rintro e w2 ⟨rfl, hb2⟩; have HB2 : Hid (Below w.heap.size w w2) := HB1.out.trans (hb2.mono HB1.out.size); clear hb2))
  go_ret
  exact ⟨by simp, HB2.out⟩
end Go.Proofs.YthlljbifijodeaaDoor
