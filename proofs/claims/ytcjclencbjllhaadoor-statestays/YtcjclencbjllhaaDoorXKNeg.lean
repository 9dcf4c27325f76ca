/- step.Walk by less than no steps. -/
import Derived.Test.YtcjclencbjllhaaDoorXKRun
namespace Go.Proofs.YtcjclencbjllhaaDoor
open Go Go.RowKit

set_option maxRecDepth 100000 in
set_option maxHeartbeats 4000000 in
theorem walk_neg (P : List Fn) (v sv : Value) (S : St) (n : Int) (w : World) (ht : TabOk w) (hc : CallOk w) (hR : ProofAns P 0) (hv : ProgVal w v P) (hs : StVal w sv S) (hm : mayB S = true) (hf : FOk P S.frames) (hn : n < 0) :
    Calls Tryd.prog 25 #[.agg #[v], sv, .int .i64 n] w fun e w' => e = .returned (.tuple #[.agg zeroStCells, .int .i64 2]) ∧ Below w.heap.size w w' := by
  have hbx : ∀ o o' o'', Below w.heap.size w (((w.alloc o).alloc o').alloc o'') := fun o o' o'' => (((Below.refl _ _).alloc (Nat.le_refl _) _).alloc (by simp) _).alloc (by simp; omega) _
  have hC : Hid (∀ o o' o'', Calls Tryd.prog 23 #[.agg #[v], sv] (((w.alloc o).alloc o').alloc o'') fun e w' => e = .returned (.int .i64 0) ∧ Below (((w.alloc o).alloc o').alloc o'').heap.size (((w.alloc o).alloc o').alloc o'') w') := fun o o' o'' => by
    refine (stepCheck_any P v sv S _ (ht.below (hbx o o' o'')) (hc.below (hbx o o' o'')) (hv.keeps (keeps_below (hbx o o' o''))) (hs.keeps (keeps_below (hbx o o' o'')))).mono ?_
    rintro e w' ⟨E, hE, rfl, hb⟩
    obtain rfl := proofAns_unique hE hR
    have e0 : checkE 0 P S = 0 := by
      unfold checkE
      rw [if_neg (by simp), if_pos]
      have g3 : framesB P S.frames = true := (framesB_iff _ _).2 hf
      rw [hm, g3]; rfl
    rw [e0]
    exact ⟨rfl, hb⟩
  obtain ⟨ao, n0, cap0, rfl⟩ := hv.shape
  obtain ⟨cs, rfl, hsz, -, -⟩ := hs.cells
  have HBX : Hid _ := hbx
  clear ht hc hv hs hbx hm hf
  go_enter Tryd.func25, Tryd.ntmps25
  go_wp2_with (first
    | (refine wpList_load_row rfl _ _ rfl _ rfl _ _ _ _ (heap_alloc_old _ _ (by simp) |>.trans (heap_alloc2_new _ _ _)) Tryd.underlying34 rfl hsz ?_)
    | (go_at_call 23; refine (hC.out _ _ _).mono ?_; rintro e w1 ⟨rfl, hb1⟩; have h6 : w1.heap[w.heap.size + 1 + 1]? = some (.cells zeroStCells 34 (0, 0)) := (hb1.block _ (by simp)).trans (heap_alloc3_new _ _ _ _); have HB1 : Hid (Below w.heap.size w w1) := (HBX.out _ _ _).trans (hb1.mono (by simp; omega)); clear hb1)
    | (refine wpList_build_store rfl _ _ rfl zeroStCells (by simpa using built_zero) rfl _ _ rfl _ rfl rfl _ _ h6 infoSt rfl zeroSt_one ?_)
    | (refine wpList_store_row rfl _ _ _ rfl _ zeroStCells rfl rfl _ _ h6 infoSt rfl zeroSt_one ?_))
  try simp only [Exit.inBlock, Exit.then]
  exact bodyPost_ret (results_row_tmp rfl _ _ (w.heap.size + 1 + 1) 34 zeroStCells (0, 0) _ rfl (setRow_heap _ _ _ _ _ _ h6) Tryd.underlying34 rfl infoSt) rfl ⟨rfl, below_setRow HB1.out (by omega) _⟩
end Go.Proofs.YtcjclencbjllhaaDoor
