/- The walk of tierlinelaw.TrimPrograms: at every program it says true, and nothing that was there has turned. -/
import Derived.Test.YtepnhemlhogmgaaDoorRefTrim
import Derived.Test.YtepnhemlhogmgaaDoorSame
import Derived.Test.YtepnhemlhogmgaaDoorProgs
namespace Go.Proofs.YtepnhemlhogmgaaDoor
open Go Go.RowKit

set_option maxRecDepth 100000 in
set_option maxHeartbeats 2000000 in
theorem trimPrograms_walk (p : List Fn) (v : Value) (w : World) (ht : TabOk w) (hc : CallOk w) (hv : ProgVal w v p) (hs : p.length * 40 ≤ 140737488355328) (hs' : ∀ f ∈ p, f.code.length * 40 ≤ 140737488355328) :
    Calls Tryd.prog 5 #[.agg #[v]] w fun e w' => e = .returned (.bool true) ∧ Below w.heap.size w w' := by
  obtain ⟨ao, n, cap, rfl⟩ := hv.shape
  have hva : ∀ o, ProgVal (w.alloc o) (.slice ao n cap) p := fun o => hv.keeps (keeps_below ((Below.refl _ _).alloc (Nat.le_refl _) _))
  have hT : TabOk (w.alloc (.cells #[.slice ao n cap] 24)) := ht.below ((Below.refl _ _).alloc (Nat.le_refl _) _)
  have hC : CallOk (w.alloc (.cells #[.slice ao n cap] 24)) := hc.below ((Below.refl _ _).alloc (Nat.le_refl _) _)
  clear hv ht hc
  go_enter Tryd.func5, Tryd.ntmps5
  go_wp2_with (first
    | (go_at_call 10; refine (programs_any p _ _ (hva _) hs hs').mono ?_; rintro e w1 ⟨v1, rfl, hp1, hb1⟩; obtain ⟨ao1, n1, cap1, rfl⟩ := hp1.shape; have hz1 : w.heap.size < w1.heap.size := (by have := hb1.size; simp at this; omega); have hB1 : Below w1.heap.size w1 (w1.alloc (.cells #[.slice ao1 n1 cap1] 24)) := (Below.refl _ _).alloc (Nat.le_refl _) _; have hT1 := (hT.below hb1).below hB1; have hC1 := (hC.below hb1).below hB1; have hP1 := hp1.keeps (keeps_below hB1); have hV1 := ((hva _).keeps (keeps_below hb1)).keeps (keeps_below hB1); have k1 := keeps_below hB1 _ _ (keeps_below hb1 ⟨w.heap.size, 0, none⟩ (.slice ao n cap) (by simp)))
    | (go_at_call 16; refine (Trim_any p _ _ hT1 hC1 hP1).mono ?_; rintro e w2 ⟨v2, E, Q, us2, rfl, hA, hbt2, hb2⟩; have HA : Hid (TrimAns p E Q) := hA; have hQ2 := hbt2.prog; obtain ⟨ao2, n2, cap2, rfl⟩ := hQ2.shape; have hB2 : Below w2.heap.size w2 (w2.alloc (.cells #[.slice ao2 n2 cap2] 24)) := (Below.refl _ _).alloc (Nat.le_refl _) _; have k2 := keeps_below hB2 _ _ (keeps_below hb2 _ _ k1); have k3 := keeps_below hB2 _ _ (keeps_below hb2 ⟨w1.heap.size, 0, none⟩ (.slice ao1 n1 cap1) (by simp)); have hP2 := (hP1.keeps (keeps_below hb2)).keeps (keeps_below hB2); have hV2 := (hV1.keeps (keeps_below hb2)).keeps (keeps_below hB2); have hQ2a := hQ2.keeps (keeps_below hB2); clear hA hbt2)
    | (go_at_call 17; refine (trimmed_any p _ _ hV2).mono ?_; rintro e w3 ⟨v3, E3, Q3, us3, rfl, hA3, hbt3, hb3⟩; obtain ⟨rfl, rfl⟩ := trimAns_unique HA.out hA3; have hQ3 := hbt3.prog; obtain ⟨ao3, n3, cap3, rfl⟩ := hQ3.shape; have hB3 : Below w3.heap.size w3 (w3.alloc (.cells #[.slice ao3 n3 cap3] 24)) := (Below.refl _ _).alloc (Nat.le_refl _) _; have k4 := keeps_below hB3 _ _ (keeps_below hb3 _ _ k2); have k5 := keeps_below hB3 _ _ (keeps_below hb3 _ _ k3); have k6 := keeps_below hB3 _ _ (keeps_below hb3 ⟨w2.heap.size, 0, none⟩ (.slice ao2 n2 cap2) (by simp)); have hP3 := (hP2.keeps (keeps_below hb3)).keeps (keeps_below hB3); have hV3 := (hV2.keeps (keeps_below hb3)).keeps (keeps_below hB3); have hQA := (hQ2a.keeps (keeps_below hb3)).keeps (keeps_below hB3); have hQB := hQ3.keeps (keeps_below hB3); clear hA3 HA hbt3)
    | (go_at_call 18; refine (same_true _ _ _ _ hQA hQB).mono ?_; rintro e w4 ⟨rfl, hb4⟩; have k7 := keeps_below hb4 _ _ k4; have k8 := keeps_below hb4 _ _ k5; have hP4 := hP3.keeps (keeps_below hb4); have hV4 := hV3.keeps (keeps_below hb4); clear hQA hQB)
    | (go_at_call 18; refine (same_true p _ _ _ hP4 hV4).mono ?_; rintro e w5 ⟨rfl, hb5⟩))
  go_ret
  refine ⟨rfl, ?_⟩
  have z1 := hb1.size
  have z2 := hb2.size
  have z3 := hb3.size
  have z4 := hb4.size
  simp at z1 z2 z3 z4
  exact ((((((((Below.refl _ w).alloc (Nat.le_refl _) _).trans (hb1.mono (by simp))).alloc (by omega) _).trans (hb2.mono (by simp; omega))).alloc (by omega) _).trans (hb3.mono (by simp; omega))).alloc (by omega) _).trans (hb4.mono (by simp; omega)) |>.trans (hb5.mono (by omega))

end Go.Proofs.YtepnhemlhogmgaaDoor
