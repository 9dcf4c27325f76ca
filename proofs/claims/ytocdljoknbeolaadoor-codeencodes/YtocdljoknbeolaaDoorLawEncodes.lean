/- The walk of tierlinelaw.CodeEncodes: at every program that lies in memory it says true, and nothing that was there has turned. -/
import Derived.Test.YtocdljoknbeolaaDoorRefEnc
import Derived.Test.YtocdljoknbeolaaDoorSameBytes
import Derived.Test.YtocdljoknbeolaaDoorProgs
namespace Go.Proofs.YtocdljoknbeolaaDoor
open Go Go.RowKit

set_option maxHeartbeats 1000000 in
theorem codeEncodes_walk (p : List Fn) (v : Value) (w : World) (ht : TabOk w) (hv : ProgVal w v p) (hwf : ∀ f ∈ p, f.wf) (hs : p.length * 40 ≤ 140737488355328) (hs' : ∀ f ∈ p, f.code.length * 40 ≤ 140737488355328) :
    Calls Tryd.prog 4 #[.agg #[v]] w fun e w' => e = .returned (.bool true) ∧ Below w.heap.size w w' := by
  obtain ⟨ao, n, cap, rfl⟩ := hv.shape
  have hva : ∀ o, ProgVal (w.alloc o) (.slice ao n cap) p := fun o => hv.keeps (keeps_below ((Below.refl _ _).alloc (Nat.le_refl _) _))
  have hT : TabOk (w.alloc (.cells #[.slice ao n cap] 24)) := ht.below ((Below.refl _ _).alloc (Nat.le_refl _) _)
  clear hv ht
  by_cases hc : codeProg p = 0
  · go_enter Tryd.func4, Tryd.ntmps4
    go_wp2_with (first
      | (go_at_call 9; refine (programs_any p _ _ (hva _) hs hs').mono ?_; rintro e w1 ⟨v1, rfl, hp1, hb1⟩; have hT1 := hT.below hb1; have hV1 := (hva _).keeps (keeps_below hb1); have k1 := keeps_below hb1 ⟨w.heap.size, 0, none⟩ (.slice ao n cap) (by simp))
      | (go_at_call 13; refine (encode_ok p _ _ hT1 hp1 hc).mono ?_; rintro e w2 ⟨v2, rfl, hown2, hb2⟩; have k2 := keeps_below hb2 _ _ k1; have hV2 := hV1.keeps (keeps_below hb2); have hB2 := bytes_of_own hown2)
      | (go_at_call 14; refine (pbytes_ok p _ _ hV2 hwf hc).mono ?_; rintro e w3 ⟨v3, rfl, hown3, hb3⟩; have hB3 := hB2.keeps (keeps_below hb3); have hC3 := bytes_of_own hown3)
      | (go_at_call 15; refine (sameBytes_true (progBytes p) _ _ _ hB3 hC3).mono ?_; rintro e w4 ⟨rfl, hw4⟩; subst hw4))
    go_ret
    refine ⟨rfl, ?_⟩
    have z1 := hb1.size
    have z2 := hb2.size
    simp at z1
    exact ((((Below.refl _ w).alloc (Nat.le_refl _) _).trans (hb1.mono (by simp))).trans (hb2.mono (by omega))).trans (hb3.mono (by omega))
  · have hr : refProg p ≠ 0 := by rw [← prog_same]; exact hc
    have hq : (codeProg p == refProg p) = true := by rw [prog_same p]; simp
    go_enter Tryd.func4, Tryd.ntmps4
    go_wp2_with (first
      | (go_at_call 9; refine (programs_any p _ _ (hva _) hs hs').mono ?_; rintro e w1 ⟨v1, rfl, hp1, hb1⟩; have hT1 := hT.below hb1; have hV1 := (hva _).keeps (keeps_below hb1); have k1 := keeps_below hb1 ⟨w.heap.size, 0, none⟩ (.slice ao n cap) (by simp))
      | (go_at_call 13; refine (encode_bad p _ _ hT1 hp1 hc).mono ?_; rintro e w2 ⟨rfl, hb2⟩; have k2 := keeps_below hb2 _ _ k1; have hV2 := hV1.keeps (keeps_below hb2))
      | (go_at_call 14; refine (pbytes_bad p _ _ hV2 hr).mono ?_; rintro e w3 ⟨rfl, hb3⟩)
      | (go_at_call 15; refine (sameBytes_true [] _ _ _ (bytes_nil _) (bytes_nil _)).mono ?_; rintro e w4 ⟨rfl, hw4⟩; subst hw4))
    go_ret
    refine ⟨rfl, ?_⟩
    have z1 := hb1.size
    have z2 := hb2.size
    simp at z1
    exact ((((Below.refl _ w).alloc (Nat.le_refl _) _).trans (hb1.mono (by simp))).trans (hb2.mono (by omega))).trans (hb3.mono (by omega))

end Go.Proofs.YtocdljoknbeolaaDoor
