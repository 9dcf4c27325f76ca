/- The walk of tierlinelaw.ProofSures: at every program and number it says true, and nothing that was there has turned. -/
import Derived.Test.YthnajfekhnocaaaDoorSureAll
import Derived.Test.YthnajfekhnocaaaDoorProgs
namespace Go.Proofs.YthnajfekhnocaaaDoor
open Go Go.RowKit

set_option maxHeartbeats 400000 in
theorem sameInts_true (l : List Int) (v1 v2 : Value) (w : World) (h1 : IntsVal w v1 l) (h2 : IntsVal w v2 l) :
    Calls Tryd.prog 12 #[v1, v2] w fun e w' => e = .returned (.bool true) ∧ Below w.heap.size w w' := by
  obtain ⟨ao1, b1, off1, n1, cap1, rfl, hl1, ha1, hc1, hcp1, hm1⟩ := h1
  obtain ⟨ao2, b2, off2, n2, cap2, rfl, hl2, ha2, hc2, hcp2, hm2⟩ := h2
  obtain rfl : n1 = n2 := by omega
  have HL : Hid (l.length = n1) := hl1
  have HC1 : Hid (∀ k (h : k < l.length), w.cell? ⟨b1, off1 + k, none⟩ = some (.int .i64 l[k])) := hc1
  have HC2 : Hid (∀ k (h : k < l.length), w.cell? ⟨b2, off2 + k, none⟩ = some (.int .i64 l[k])) := hc2
  have hcp := hcp1.1
  unfold maxLen at hm1
  clear hl1 hl2 hc1 hc2 hm2 hcp1 hcp2
  go_enter Tryd.func12, Tryd.ntmps12
  go_wp2
  go_loopw [5] (fun i wr => ∃ k : Nat, k ≤ n1 ∧ i = .int .i64 k ∧ Below w.heap.size w wr) (fun i _ => n1 - (intOf i).toNat)
  case atStart => exact ⟨0, Nat.zero_le _, rfl, Below.refl _ _⟩
  case round =>
    obtain ⟨k, hk, rfl, hb⟩ := hrel
    by_cases hlt : k < n1
    · obtain rfl := ha1 (by omega)
      obtain rfl := ha2 (by omega)
      have hkl : k < l.length := by rw [HL.out]; exact hlt
      have c1 := keeps_below hb _ _ (HC1.out k hkl)
      have c2 := keeps_below hb _ _ (HC2.out k hkl)
      have hkI : (k : Int) < n1 := by omega
      generalize l[k] = z at c1 c2
      clear ha1 ha2
      go_wp2
      go_quiet (fail)
      go_wp2
      go_roundw
      case rel => exact ⟨k + 1, by omega, by go_num, below_drewN hb _⟩
      case measure => simp [intOf]; omega
    · clear ha1 ha2
      go_wp2
      go_ret
      exact ⟨rfl, hb⟩

set_option maxHeartbeats 1000000 in
theorem proofSures_walk (p : List Fn) (v : Value) (fn : Int) (w : World) (ht : TabOk w) (hv : ProgVal w v p) (hs : p.length * 40 ≤ 140737488355328) (hs' : ∀ f ∈ p, f.code.length * 40 ≤ 140737488355328) :
    Calls Tryd.prog 3 #[.agg #[v], .int .i64 fn] w fun e w' => e = .returned (.bool true) ∧ Below w.heap.size w w' := by
  obtain ⟨ao, n, cap, rfl⟩ := hv.shape
  have hbx : Below w.heap.size w (w.alloc (.cells #[.slice ao n cap] 24)) := (Below.refl _ _).alloc (Nat.le_refl _) _
  have hva := hv.keeps (keeps_below hbx)
  have hT := ht.below hbx
  clear hv ht hbx
  go_enter Tryd.func3, Tryd.ntmps3
  go_wp2_with (first
    | (go_at_call 10; refine (programs_any p _ _ hva hs hs').mono ?_; rintro e w1 ⟨v1, rfl, hp1, hb1⟩; have hT1 := hT.below hb1; have hV1 := hva.keeps (keeps_below hb1); have k1 := keeps_below hb1 ⟨w.heap.size, 0, none⟩ (.slice ao n cap) (by simp))
    | (go_at_call 9; refine (sure_all p _ fn _ hT1 hp1).mono ?_; rintro e w2 ⟨v2, A, rfl, hA, hI2, hb2⟩; have k2 := keeps_below hb2 _ _ k1; have hV2 := hV1.keeps (keeps_below hb2); have HA : Hid (SureAns p fn A) := hA; clear hA)
    | (go_at_call 11; refine (sureOf_all p _ fn _ hV2).mono ?_; rintro e w3 ⟨v3, A3, rfl, hA3, hI3, hb3⟩; obtain rfl := sureAns_unique HA.out hA3; have hI2' := hI2.keeps (keeps_below hb3); clear hA3 HA)
    | (go_at_call 12; refine (sameInts_true _ _ _ _ hI2' hI3).mono ?_; rintro e w4 ⟨rfl, hb4⟩))
  go_ret
  refine ⟨rfl, ?_⟩
  have z1 := hb1.size
  have z2 := hb2.size
  have z3 := hb3.size
  simp at z1
  exact (((((Below.refl _ w).alloc (Nat.le_refl _) _).trans (hb1.mono (by simp))).trans (hb2.mono (by omega))).trans (hb3.mono (by omega))).trans (hb4.mono (by omega))

end Go.Proofs.YthnajfekhnocaaaDoor
