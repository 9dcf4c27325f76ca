/- The walk of tierlinelaw.ProofSures: at every program and number it says true, and nothing that was there has turned. -/
import Derived.Test.YtiaammieldfkcaaDoorGroupC
import Derived.Test.YtiaammieldfkcaaDoorXProgs
namespace Go.Proofs.YtiaammieldfkcaaDoor
open Go Go.RowKit

set_option maxRecDepth 100000 in
set_option maxHeartbeats 400000 in
theorem sameInts_true (l : List Int) (v1 v2 : Value) (w : World) (h1 : IntsVal w v1 l) (h2 : IntsVal w v2 l) :
    Calls Tryd.prog 24 #[v1, v2] w fun e w' => e = .returned (.bool true) ∧ Below w.heap.size w w' := by
  obtain ⟨ao1, b1, off1, n1, cap1, rfl, hl1, ha1, hc1, hcp1, hm1⟩ := h1
  obtain ⟨ao2, b2, off2, n2, cap2, rfl, hl2, ha2, hc2, hcp2, hm2⟩ := h2
  obtain rfl : n1 = n2 := by omega
  have HL : Hid (l.length = n1) := hl1
  have HC1 : Hid (∀ k (h : k < l.length), w.cell? ⟨b1, off1 + k, none⟩ = some (.int .i64 l[k])) := hc1
  have HC2 : Hid (∀ k (h : k < l.length), w.cell? ⟨b2, off2 + k, none⟩ = some (.int .i64 l[k])) := hc2
  have hcp := hcp1.1
  unfold maxLen at hm1
  clear hl1 hl2 hc1 hc2 hm2 hcp1 hcp2
  go_enter Tryd.func24, Tryd.ntmps24
  go_wp2
  go_loopw [5] (fun i wr => ∃ k : Nat, k ≤ n1 ∧ i = .int .i64 k ∧ Below w.heap.size w wr) (fun i _ => n1 - (intOf i).toNat)
  case atStart => exact ⟨0, Nat.zero_le _, rfl, Below.refl _ _⟩
  case round =>
    obtain ⟨k, hk, rfl, hb⟩ := hrel
    by_cases hlt : k < n1
    · obtain rfl := ha1 (by omega)
      obtain rfl := ha2 (by omega)
      have hkl : k < l.length := by rw [HL.out]; exact hlt
      have c1 := keeps_below hb _ _ (HC1.out k hkl)
      have c2 := keeps_below hb _ _ (HC2.out k hkl)
      have hkI : (k : Int) < n1 := by omega
      generalize l[k] = z at c1 c2
      clear ha1 ha2
      go_wp2
      go_quiet (fail)
      go_wp2
      go_roundw
      case rel => exact ⟨k + 1, by omega, by go_num, below_drewN hb _⟩
      case measure => simp [intOf]; omega
    · clear ha1 ha2
      go_wp2
      go_ret
      exact ⟨rfl, hb⟩

end Go.Proofs.YtiaammieldfkcaaDoor
