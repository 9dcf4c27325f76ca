/- The walk of tierlinelaw.FlowLives: at every program and number it says true, and nothing that was there has turned. -/
import Derived.Test.YtgoefojdggblpaaDoorXLiveOfAll
import Derived.Test.YtgoefojdggblpaaDoorXLawSures
namespace Go.Proofs.YtgoefojdggblpaaDoor
open Go Go.RowKit

set_option maxRecDepth 100000 in
set_option maxHeartbeats 1000000 in
theorem flowLives_walk (p : List Fn) (v : Value) (fn : Int) (w : World) (ht : TabOk w) (hc : CallOk w) (hv : ProgVal w v p) (hs : p.length * 40 ≤ 140737488355328) (hs' : ∀ f ∈ p, f.code.length * 40 ≤ 140737488355328) :
    Calls Tryd.prog 5 #[.agg #[v], .int .i64 fn] w fun e w' => e = .returned (.bool true) ∧ Below w.heap.size w w' := by
  obtain ⟨ao, n, cap, rfl⟩ := hv.shape
  have hbx : Below w.heap.size w (w.alloc (.cells #[.slice ao n cap] 29)) := (Below.refl _ _).alloc (Nat.le_refl _) _
  have hva := hv.keeps (keeps_below hbx)
  have hT := ht.below hbx
  have hCO := hc.below hbx
  clear hv ht hc hbx
  go_enter Tryd.func5, Tryd.ntmps5
  go_wp2_with (first
    | (go_at_call 24; refine (programs_any p _ _ hva hs hs').mono ?_; rintro e w1 ⟨v1, rfl, hp1, hb1⟩; have hT1 := hT.below hb1; have hC1 := hCO.below hb1; have hV1 := hva.keeps (keeps_below hb1); have k1 := keeps_below hb1 ⟨w.heap.size, 0, none⟩ (.slice ao n cap) (by simp))
    | (go_at_call 22; refine (Live_any p _ fn _ hT1 hC1 hp1).mono ?_; rintro e w2 ⟨v2, E2, A, rfl, hA, hI2, hb2⟩; have k2 := keeps_below hb2 _ _ k1; have hV2 := hV1.keeps (keeps_below hb2); have HA : Hid (LiveAns p fn E2 A) := hA; clear hA)
    | (go_at_call 25; refine (liveOf_any p _ fn _ hV2).mono ?_; rintro e w3 ⟨v3, E3, A3, rfl, hA3, hI3, hb3⟩; obtain ⟨rfl, rfl⟩ := liveAns_unique HA.out hA3; have hI2' := hI2.keeps (keeps_below hb3); clear hA3 HA)
    | (go_at_call 26; refine (sameInts_true _ _ _ _ hI2' hI3).mono ?_; rintro e w4 ⟨rfl, hb4⟩))
  go_ret
  refine ⟨rfl, ?_⟩
  have z1 := hb1.size
  have z2 := hb2.size
  have z3 := hb3.size
  simp at z1
  exact (((((Below.refl _ w).alloc (Nat.le_refl _) _).trans (hb1.mono (by simp))).trans (hb2.mono (by omega))).trans (hb3.mono (by omega))).trans (hb4.mono (by omega))

end Go.Proofs.YtgoefojdggblpaaDoor
