/- Contracts of tierlinekeep.Picked and tierlinekeep.SameState. -/
import Derived.Test.YteabbanjjdmjkaaDoorGroupF
import Derived.Test.YteabbanjjdmjkaaDoorGroupK
import Derived.Test.YteabbanjjdmjkaaDoorGroupE
namespace Go.Proofs.YteabbanjjdmjkaaDoor
open Go Go.RowKit

theorem pickedK_any (n many : Int) (w : World) (hn : I64 n) (h1 : 0 < many) (h2 : many ≤ 1000000) :
    Calls Tryd.prog 27 #[.int .i64 n, .int .i64 many] w fun e w' => e = .returned (.int .i64 (pickI n many)) ∧ w' = w := by
  have HP : Hid (∀ W, Calls Tryd.prog 23 #[.int .i64 n, .int .i64 many] W fun e w' => e = .returned (.int .i64 (pickI n many)) ∧ w' = W) := fun W => picked_any n many W hn h1 h2
  clear hn h1 h2
  go_enter Tryd.func27, Tryd.ntmps27
  go_wp2_with (go_at_call 23; refine (HP.out _).mono ?_; rintro e wp ⟨rfl, hwp⟩; replace hwp := hwp.symm; subst hwp)
  go_ret
  exact ⟨rfl, rfl⟩
set_option maxRecDepth 100000 in
theorem sameStateK_any (s : St) (v1 v2 : Value) (w : World) (h1 : StVal w v1 s) (h2 : StVal w v2 s) :
    Calls Tryd.prog 28 #[v1, v2] w fun e w' => e = .returned (.bool true) ∧ Below w.heap.size w w' := by
  have hbx : ∀ o o', Below w.heap.size w ((w.alloc o).alloc o') := fun o o' => ((Below.refl _ _).alloc (Nat.le_refl _) _).alloc (by simp) _
  have HC : Hid (∀ o o', Calls Tryd.prog 19 #[v1, v2] ((w.alloc o).alloc o') fun e w' => e = .returned (.bool true) ∧ Below ((w.alloc o).alloc o').heap.size ((w.alloc o).alloc o') w') := fun o o' => sameState_keep s v1 v2 _ (h1.keeps (keeps_below (hbx o o'))) (h2.keeps (keeps_below (hbx o o')))
  have HBX : Hid _ := hbx
  obtain ⟨c1, rfl, a1, -, -⟩ := h1.cells
  obtain ⟨c2, rfl, a2, -, -⟩ := h2.cells
  clear h1 h2 hbx
  go_enter Tryd.func28, Tryd.ntmps28
  go_wp2_with (first
    | (refine wpList_load_row rfl _ (.tmp 2) rfl _ rfl _ _ _ _ (heap_alloc2_old _ _ _) Tryd.underlying29 rfl a1 ?_)
    | (refine wpList_load_row rfl _ (.tmp 3) rfl _ rfl _ _ _ _ (heap_alloc2_new _ _ _) Tryd.underlying29 rfl a2 ?_)
    | (go_at_call 19; refine (HC.out _ _).mono ?_; rintro e w1 ⟨rfl, hb1⟩; have HB1 : Hid (Below w.heap.size w w1) := (HBX.out _ _).trans (hb1.mono (by simp; omega)); clear hb1))
  go_ret
  exact ⟨rfl, HB1.out⟩
end Go.Proofs.YteabbanjjdmjkaaDoor
