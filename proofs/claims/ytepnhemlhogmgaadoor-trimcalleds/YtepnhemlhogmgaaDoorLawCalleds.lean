/- The walk of tierlinelaw.TrimCalleds: at every program it says true, and nothing that was there has turned. -/
import Derived.Test.YtepnhemlhogmgaaDoorRefCalled
import Derived.Test.YtepnhemlhogmgaaDoorProgs
namespace Go.Proofs.YtepnhemlhogmgaaDoor
open Go Go.RowKit

set_option maxRecDepth 100000 in
set_option maxHeartbeats 400000 in
theorem sameTruths_true (n g1 g2 : Nat) (s : List Bool) (w : World) (hn : n ≤ 1000) (hl : s.length = n) (h1 : BoolRow w g1 n s) (h2 : BoolRow w g2 n s) :
    Calls Tryd.prog 15 #[.slice (some ⟨g1, 0, none⟩) n n, .slice (some ⟨g2, 0, none⟩) n n] w fun e w' => e = .returned (.bool true) ∧ Below w.heap.size w w' := by
  have HC1 : Hid (∀ k, k < n → w.cell? ⟨g1, k, none⟩ = some (.bool (s.getD k false))) := fun k hk => bool_cell h1 hl k hk
  have HC2 : Hid (∀ k, k < n → w.cell? ⟨g2, k, none⟩ = some (.bool (s.getD k false))) := fun k hk => bool_cell h2 hl k hk
  clear h1 h2
  go_enter Tryd.func15, Tryd.ntmps15
  go_wp2
  go_loopw [5] (fun i wr => ∃ k : Nat, k ≤ n ∧ i = .int .i64 k ∧ Below w.heap.size w wr) (fun i _ => n - (intOf i).toNat)
  case atStart => exact ⟨0, Nat.zero_le _, rfl, Below.refl _ _⟩
  case round =>
    obtain ⟨k, hk, rfl, hb⟩ := hrel
    by_cases hlt : k < n
    · have c1 := keeps_below hb _ _ (HC1.out k hlt)
      have c2 := keeps_below hb _ _ (HC2.out k hlt)
      have hkI : (k : Int) < n := by omega
      generalize s.getD k false = z at c1 c2
      cases z
      · go_wp2
        go_quiet (fail)
        go_wp2
        go_roundw
        case rel => exact ⟨k + 1, by omega, by go_num, below_drewN hb _⟩
        case measure => simp [intOf]; omega
      · go_wp2
        go_quiet (fail)
        go_wp2
        go_roundw
        case rel => exact ⟨k + 1, by omega, by go_num, below_drewN hb _⟩
        case measure => simp [intOf]; omega
    · go_wp2
      go_ret
      exact ⟨rfl, hb⟩
set_option maxRecDepth 100000 in
theorem sameTruths_nil (w : World) : Calls Tryd.prog 15 #[.slice none 0 0, .slice none 0 0] w fun e w' => e = .returned (.bool true) ∧ w' = w := by
  go_enter Tryd.func15, Tryd.ntmps15
  go_wp2
  go_loopw [5] (fun i wr => i = .int .i64 0 ∧ wr = w) (fun _ _ => 0)
  case atStart => exact ⟨rfl, rfl⟩
  case round =>
    obtain ⟨rfl, rfl⟩ := hrel
    go_wp2
    go_ret
    exact ⟨rfl, rfl⟩

set_option maxRecDepth 100000 in
set_option maxHeartbeats 1000000 in
theorem trimCalleds_walk (p : List Fn) (v : Value) (w : World) (ht : TabOk w) (hc : CallOk w) (hv : ProgVal w v p) (hs : p.length * 40 ≤ 140737488355328) (hs' : ∀ f ∈ p, f.code.length * 40 ≤ 140737488355328) :
    Calls Tryd.prog 4 #[.agg #[v]] w fun e w' => e = .returned (.bool true) ∧ Below w.heap.size w w' := by
  obtain ⟨ao, n, cap, rfl⟩ := hv.shape
  have hbx : Below w.heap.size w (w.alloc (.cells #[.slice ao n cap] 24)) := (Below.refl _ _).alloc (Nat.le_refl _) _
  have hva := hv.keeps (keeps_below hbx)
  have hT := ht.below hbx
  have hCO := hc.below hbx
  clear hv ht hc hbx
  by_cases h0 : ProofAns p 0
  · have hp4 := (codeProg_zero (proof_code h0)).2.1
    have hA : ∀ w e w', CalledPost p w e w' → ∃ g c, e = .returned (.tuple #[.slice (some ⟨g, 0, none⟩) p.length p.length, .int .i64 0]) ∧ CalledSpec p c ∧ BoolRow w' g p.length c ∧ Below w.heap.size w w' := fun w e w' h => by
      rcases h with ⟨E, hE, _, h1, _⟩ | ⟨_, g, c, he, hc, hr, _, hb⟩
      · rw [proofAns_unique h1 h0] at hE; cases hE
      · exact ⟨g, c, he, hc, hr, hb⟩
    have hCa := fun W u a b c => (Called_any p u W a b c).mono (fun e w' h => hA W e w' h)
    have hCo := fun W u c => (calledOf_any p u W c).mono (fun e w' h => hA W e w' h)
    have HA : Hid _ := hA
    clear hA h0
    go_enter Tryd.func4, Tryd.ntmps4
    go_wp2_with (first
      | (go_at_call 10; refine (programs_any p _ _ hva hs hs').mono ?_; rintro e w1 ⟨v1, rfl, hp1, hb1⟩; have hT1 := hT.below hb1; have hC1 := hCO.below hb1; have hV1 := hva.keeps (keeps_below hb1); have k1 := keeps_below hb1 ⟨w.heap.size, 0, none⟩ (.slice ao n cap) (by simp))
      | (go_at_call 13; refine (hCa _ _ hT1 hC1 hp1).mono ?_; rintro e w2 ⟨g2, c2, rfl, hA2, hI2, hb2⟩; have k2 := keeps_below hb2 _ _ k1; have hV2 := hV1.keeps (keeps_below hb2); have HA2 : Hid (CalledSpec p c2) := hA2; have HI2 : Hid (BoolRow w2 g2 p.length c2) := hI2; clear hA2 hI2)
      | (go_at_call 14; refine (hCo _ _ hV2).mono ?_; rintro e w3 ⟨g3, c3, rfl, hA3, hI3, hb3⟩; obtain rfl := calledSpec_unique HA2.out hA3; have hST := sameTruths_true p.length g2 g3 c2 w3 (by omega) hA3.1 (ownsRow_below HI2.out hb3) hI3; clear hA3 hI3)
      | (go_at_call 15; refine hST.mono ?_; rintro e w4 ⟨rfl, hb4⟩))
    go_ret
    refine ⟨rfl, ?_⟩
    have z1 := hb1.size
    have z2 := hb2.size
    have z3 := hb3.size
    simp at z1
    exact (((((Below.refl _ w).alloc (Nat.le_refl _) _).trans (hb1.mono (by simp))).trans (hb2.mono (by omega))).trans (hb3.mono (by omega))).trans (hb4.mono (by omega))
  · have hA : ∀ w e w', CalledPost p w e w' → ∃ E, e = .returned (.tuple #[.slice none 0 0, .int .i64 E]) ∧ ProofAns p E ∧ Below w.heap.size w w' := fun w e w' h => by
      rcases h with ⟨E, hE, he, h1, hb⟩ | ⟨h1, _⟩
      · exact ⟨E, he, h1, hb⟩
      · exact absurd h1 h0
    have hCa := fun W u a b c => (Called_any p u W a b c).mono (fun e w' h => hA W e w' h)
    have hCo := fun W u c => (calledOf_any p u W c).mono (fun e w' h => hA W e w' h)
    have HA : Hid _ := hA
    clear hA h0
    go_enter Tryd.func4, Tryd.ntmps4
    go_wp2_with (first
      | (go_at_call 10; refine (programs_any p _ _ hva hs hs').mono ?_; rintro e w1 ⟨v1, rfl, hp1, hb1⟩; have hT1 := hT.below hb1; have hC1 := hCO.below hb1; have hV1 := hva.keeps (keeps_below hb1); have k1 := keeps_below hb1 ⟨w.heap.size, 0, none⟩ (.slice ao n cap) (by simp))
      | (go_at_call 13; refine (hCa _ _ hT1 hC1 hp1).mono ?_; rintro e w2 ⟨E2, rfl, hA2, hb2⟩; have k2 := keeps_below hb2 _ _ k1; have hV2 := hV1.keeps (keeps_below hb2); have HA2 : Hid (ProofAns p E2) := hA2; clear hA2)
      | (go_at_call 14; refine (hCo _ _ hV2).mono ?_; rintro e w3 ⟨E3, rfl, hA3, hb3⟩; obtain rfl := proofAns_unique HA2.out hA3; clear hA3)
      | (go_at_call 15; refine (sameTruths_nil _).mono ?_; rintro e w4 ⟨rfl, hw4⟩; replace hw4 := hw4.symm; subst hw4))
    go_ret
    refine ⟨rfl, ?_⟩
    have z1 := hb1.size
    have z2 := hb2.size
    simp at z1
    exact ((((Below.refl _ w).alloc (Nat.le_refl _) _).trans (hb1.mono (by simp))).trans (hb2.mono (by omega))).trans (hb3.mono (by omega))

end Go.Proofs.YtepnhemlhogmgaaDoor
