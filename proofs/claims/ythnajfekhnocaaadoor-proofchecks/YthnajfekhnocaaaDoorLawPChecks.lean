/- The walk of tierlinelaw.ProofChecks: at every program it says true, and nothing that was there has turned. -/
import Derived.Test.YthnajfekhnocaaaDoorPCheck
import Derived.Test.YthnajfekhnocaaaDoorProven
import Derived.Test.YthnajfekhnocaaaDoorSame
import Derived.Test.YthnajfekhnocaaaDoorProgs
namespace Go.Proofs.YthnajfekhnocaaaDoor
open Go Go.RowKit

set_option maxHeartbeats 1000000 in
theorem proofChecks_walk (p : List Fn) (v : Value) (w : World) (ht : TabOk w) (hc : CallOk w) (hv : ProgVal w v p) (hs : p.length * 40 ≤ 140737488355328) (hs' : ∀ f ∈ p, f.code.length * 40 ≤ 140737488355328) :
    Calls Tryd.prog 4 #[.agg #[v]] w fun e w' => e = .returned (.bool true) ∧ Below w.heap.size w w' := by
  obtain ⟨ao, n, cap, rfl⟩ := hv.shape
  have hva : ∀ o, ProgVal (w.alloc o) (.slice ao n cap) p := fun o => hv.keeps (keeps_below ((Below.refl _ _).alloc (Nat.le_refl _) _))
  have hT : TabOk (w.alloc (.cells #[.slice ao n cap] 24)) := ht.below ((Below.refl _ _).alloc (Nat.le_refl _) _)
  have hC : CallOk (w.alloc (.cells #[.slice ao n cap] 24)) := hc.below ((Below.refl _ _).alloc (Nat.le_refl _) _)
  clear hv ht hc
  go_enter Tryd.func4, Tryd.ntmps4
  go_wp2_with (first
    | (go_at_call 10; refine (programs_any p _ _ (hva _) hs hs').mono ?_; rintro e w1 ⟨v1, rfl, hp1, hb1⟩; obtain ⟨ao1, n1, cap1, rfl⟩ := hp1.shape; have hz1 : w.heap.size < w1.heap.size := (by have := hb1.size; simp at this; omega); have hB1 : Below w1.heap.size w1 (w1.alloc (.cells #[.slice ao1 n1 cap1] 24)) := (Below.refl _ _).alloc (Nat.le_refl _) _; have hT1 := (hT.below hb1).below hB1; have hC1 := (hC.below hb1).below hB1; have hP1 := hp1.keeps (keeps_below hB1); have hV1 := ((hva _).keeps (keeps_below hb1)).keeps (keeps_below hB1); have k1 := keeps_below hB1 _ _ (keeps_below hb1 ⟨w.heap.size, 0, none⟩ (.slice ao n cap) (by simp)))
    | (go_at_call 13; refine (pcheck_any p _ _ hT1 hC1 hP1).mono ?_; rintro e w2 ⟨E, rfl, hE, hb2⟩; have HE : Hid (ProofAns p E) := hE; have k2 := keeps_below hb2 _ _ k1; have k3 := keeps_below hb2 ⟨w1.heap.size, 0, none⟩ (.slice ao1 n1 cap1) (by simp); have hP2 := hP1.keeps (keeps_below hb2); have hV2 := hV1.keeps (keeps_below hb2); clear hE)
    | (go_at_call 14; refine (proven_any p _ _ hV2).mono ?_; rintro e w3 ⟨E3, rfl, hE3, hb3⟩; obtain rfl := proofAns_unique HE.out hE3; have k4 := keeps_below hb3 _ _ k2; have k5 := keeps_below hb3 _ _ k3; have hP3 := hP2.keeps (keeps_below hb3); have hV3 := hV2.keeps (keeps_below hb3); clear hE3 HE)
    | (go_at_call 15; refine (same_true p _ _ _ hP3 hV3).mono ?_; rintro e w4 ⟨rfl, hb4⟩))
  go_ret
  refine ⟨rfl, ?_⟩
  have z1 := hb1.size
  have z2 := hb2.size
  have z3 := hb3.size
  simp at z1 z2
  exact ((((((Below.refl _ w).alloc (Nat.le_refl _) _).trans (hb1.mono (by simp))).alloc (by omega) _).trans (hb2.mono (by simp; omega))).trans (hb3.mono (by omega))).trans (hb4.mono (by omega))

end Go.Proofs.YthnajfekhnocaaaDoor
