/- Contract of flow.above. -/
import Derived.Test.YteilohamjijpbaaDoorXFlowNear
namespace Go.Proofs.YteilohamjijpbaaDoor
open Go Go.RowKit

set_option maxRecDepth 100000 in
set_option maxHeartbeats 1000000 in
theorem above_any (pv : Nat → List Nat) (K R : Nat) (w : World) (h : Stands pv K w R) (hc : ∀ b, b < K → Come pv b) (hk : K ≤ 1000) :
    Calls Tryd.prog 47 #[.int .i64 K, .func (.func 69) #[] #[.pointer (some ⟨R, 0, none⟩)]] w fun e w' => ∃ A : List Int, e = .returned (.slice (some ⟨w.heap.size, 0, none⟩) K K) ∧ A.length = K ∧ (∀ b, b < K → NearTo pv b K (A.getD b 0)) ∧ w'.ownsRow 0 3 1 (.slice (some ⟨w.heap.size, 0, none⟩) K K) K (i64s A) ∧ Below w.heap.size w w' := by
  obtain ⟨i64i, hi64, hz0, hz1', hz2⟩ := info_parts info64
  have hm0 := made_ints0 K
  have HS : Hid (∀ W, Below w.heap.size w W → Stands pv K W R) := fun W hb => h.keeps (keeps_below hb)
  have HC : Hid (∀ b, b < K → Come pv b) := hc
  clear h hc
  go_enter Tryd.func47, Tryd.ntmps47
  go_wp2_with (at_make; refine wpList_make_full _ rfl (.tmp 7) (.tmp 7) 37 rfl 0 3 i64i _ 1 Tryd.underlying37 hi64 hz0 hz1' .i64 .i64 _ _ K rfl rfl (by simp) (by simp) (by rw [hz2]; omega) (by unfold maxLen; omega) (Nat.zero_le _) ?_; intro w2 hown2 hg2; rw [hm0] at hown2; have hb2 := below_grown hg2)
  have HB2 : Hid (Below w.heap.size w w2) := hb2
  have HOWN : Hid (w2.ownsRow 0 3 1 (.slice (some ⟨w.heap.size, 0, none⟩) K K) K (i64s (List.replicate K 0))) := hown2
  have hz2 := hb2.size
  clear hown2 hg2 hb2
  go_loopw [11] (fun i wr => ∃ (q : Nat) (O : List Int), q ≤ K ∧ i = .int .i64 q ∧ (O.length = K ∧ ∀ j, j < q → NearTo pv j K (O.getD j 0)) ∧ wr.ownsRow 0 3 1 (.slice (some ⟨w.heap.size, 0, none⟩) K K) K (i64s O) ∧ w2.grownBy wr (some w.heap.size)) (fun i _ => K - (intOf i).toNat)
  case atStart => exact ⟨0, _, Nat.zero_le _, rfl, ⟨by simp, fun j h => by omega⟩, HOWN.out, gb_refl _ _⟩
  case round =>
    obtain ⟨q, O, hq, rfl, hO, hrow, hgr⟩ := hrel
    have HB3 : Hid (Below w.heap.size w wr) := below_gb HB2.out hgr (Nat.le_refl _) (by omega)
    by_cases hlt : q < K
    · have hN := nearest_any pv K R q wr (HS.out wr HB3.out) hlt (HC.out q hlt) hk
      have HST := fun z => int_store hrow q z
      have HX1 : Hid (∀ z, (wr.setCell ⟨w.heap.size, q, none⟩ (.int .i64 z)).ownsRow 0 3 1 (.slice (some ⟨w.heap.size, 0, none⟩) K K) K (i64s (O.set q z)) ∧ w2.grownBy (wr.setCell ⟨w.heap.size, q, none⟩ (.int .i64 z)) (some w.heap.size)) := fun z => ⟨(HST z).1, gb_trans hgr (HST z).2⟩
      have HO : Hid (∀ z, NearTo pv q K z → (O.set q z).length = K ∧ ∀ j, j < q + 1 → NearTo pv j K ((O.set q z).getD j 0)) := fun z hz => ⟨by simp [hO.1], fun j hj => by
        rw [igetD_set O q j _ (by omega)]
        by_cases h : j = q
        · rw [if_pos h, h]; exact hz
        · rw [if_neg h]; exact hO.2 j (by omega)⟩
      have c2 := int_cell hrow hO.1 q hlt
      have cf := hrow.frozenAt q
      have hqI : (q : Int) < K := by omega
      clear HST hgr hrow hO
      go_wp2_with (go_at_call 70; refine hN.mono ?_; rintro e w5 ⟨z, rfl, hz, hw5⟩; replace hw5 := hw5.symm; subst hw5)
      go_roundw
      case rel => exact ⟨q + 1, _, by omega, by go_num, HO.out z hz, (HX1.out z).1, (HX1.out z).2⟩
      case measure => simp [intOf]; omega
    · obtain rfl : q = K := by omega
      have HRW : Hid (wr.ownsRow 0 3 1 (.slice (some ⟨w.heap.size, 0, none⟩) q q) q (i64s O)) := hrow
      have HO : Hid (O.length = q ∧ ∀ j, j < q → NearTo pv j q (O.getD j 0)) := hO
      clear hrow hgr hO
      go_wp2
      go_ret
      exact ⟨O, rfl, HO.out.1, HO.out.2, HRW.out, HB3.out⟩
end Go.Proofs.YteilohamjijpbaaDoor
