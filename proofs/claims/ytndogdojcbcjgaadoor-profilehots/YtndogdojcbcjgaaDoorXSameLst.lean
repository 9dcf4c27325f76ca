/- Contract of sameLists (package tierlinelaw). -/
import Derived.Test.YtndogdojcbcjgaaDoorXRowsL
import Derived.Test.YtndogdojcbcjgaaDoorGroupW
namespace Go.Proofs.YtndogdojcbcjgaaDoor
open Go Go.RowKit

set_option maxRecDepth 100000 in
theorem sameLists_nil (w : World) : Calls Tryd.prog 33 #[.slice none 0 0, .slice none 0 0] w fun e w' => e = .returned (.bool true) ∧ Below w.heap.size w w' := by
  go_enter Tryd.func33, Tryd.ntmps33
  go_wp2
  go_loopw [5] (fun i wr => i = .int .i64 0 ∧ wr = w) (fun _ _ => 0)
  case atStart => exact ⟨rfl, rfl⟩
  case round =>
    obtain ⟨rfl, rfl⟩ := hrel
    go_wp2
    go_ret
    exact ⟨rfl, Below.refl _ _⟩
/-- How lists of lists are read. -/
def ListsVal (w : World) (v : Value) (Ls : List (List Int)) : Prop :=
  ∃ ao g cap, v = .slice ao Ls.length cap ∧ Ls.length ≤ cap ∧ cap ≤ 9223372036854775807 ∧ ∀ i, i < Ls.length → ao = some ⟨g, 0, none⟩ ∧ ∃ ao' cap', w.cell? ⟨g, i, none⟩ = some (.slice ao' (Ls.getD i []).length cap') ∧ IntsVal w (.slice ao' (Ls.getD i []).length cap') (Ls.getD i [])
theorem ListsVal.nil (w : World) : ListsVal w (.slice none 0 0) [] := ⟨none, 0, 0, rfl, Nat.le_refl _, by omega, fun i hi => by cases hi⟩
theorem ListsVal.below {w w' : World} {v : Value} {Ls : List (List Int)} (h : ListsVal w v Ls) (hb : Below w.heap.size w w') : ListsVal w' v Ls := by
  obtain ⟨ao, g, cap, e, h1, h2, h3⟩ := h
  refine ⟨ao, g, cap, e, h1, h2, fun i hi => ?_⟩
  obtain ⟨e1, ao', cap', e2, e3⟩ := h3 i hi
  exact ⟨e1, ao', cap', keeps_below hb _ _ e2, e3.keeps (keeps_below hb)⟩
theorem RowsAt.reads {w : World} {base : Nat} {v : Value} {vs : List Value} {Ls : List (List Int)} (h : RowsAt w base v vs Ls) : ListsVal w v Ls := by
  have hl := h.len
  have hr := h.row
  rcases hr.2 with ⟨e, hn⟩ | ⟨g, cap, cur, e, hbg, hh, hn, hm, hs, ht⟩
  · rw [hl] at hn
    subst e
    refine ⟨none, 0, 0, by rw [hn], by omega, by omega, fun i hi => by omega⟩
  · subst e
    refine ⟨_, g, cap, by rw [hl], by omega, by simpa [maxLen] using hm, fun i hi => ⟨rfl, ?_⟩⟩
    have hi2 : i < vs.length := by omega
    have ho := h.own i hi2
    obtain ⟨ao', cap', e'⟩ := own_shape ho
    refine ⟨ao', cap', ?_, ?_⟩
    · rw [World.ownsRow.cellAt hr i (by omega), List.getElem?_eq_getElem hi2, e']
    · have := ints_of_own ho
      rw [e'] at this
      exact this

set_option maxRecDepth 100000 in
set_option maxHeartbeats 4000000 in
theorem sameLists_val (Ls : List (List Int)) (va vb : Value) (w : World) (hA : ListsVal w va Ls) (hB : ListsVal w vb Ls) :
    Calls Tryd.prog 33 #[va, vb] w fun e w' => e = .returned (.bool true) ∧ Below w.heap.size w w' := by
  obtain ⟨ao, g, cap, rfl, hc1, hc2, HA⟩ := hA
  obtain ⟨ao', g', cap', rfl, hc3, hc4, HB⟩ := hB
  have HAB : Hid (∀ i, i < Ls.length → ao = some ⟨g, 0, none⟩ ∧ ao' = some ⟨g', 0, none⟩ ∧ ∃ a1 k1 a2 k2 m, ∀ W, Below w.heap.size w W → W.cell? ⟨g, i, none⟩ = some (.slice a1 m k1) ∧ W.cell? ⟨g', i, none⟩ = some (.slice a2 m k2) ∧ Calls Tryd.prog 50 #[.slice a1 m k1, .slice a2 m k2] W fun e w' => e = .returned (.bool true) ∧ Below W.heap.size W w') := fun i hi => by
    obtain ⟨e1, a1, k1, c1, i1⟩ := HA i hi
    obtain ⟨e2, a2, k2, c2, i2⟩ := HB i hi
    exact ⟨e1, e2, a1, k1, a2, k2, _, fun W hW => ⟨keeps_below hW _ _ c1, keeps_below hW _ _ c2, sameInts_true _ _ _ _ (i1.keeps (keeps_below hW)) (i2.keeps (keeps_below hW))⟩⟩
  clear HA HB
  generalize Ls.length = K at *
  go_enter Tryd.func33, Tryd.ntmps33
  go_wp2
  go_loopw [5] (fun i wr => ∃ q : Nat, q ≤ K ∧ i = .int .i64 q ∧ Below w.heap.size w wr) (fun i _ => K - (intOf i).toNat)
  case atStart => exact ⟨0, Nat.zero_le _, rfl, Below.refl _ _⟩
  case round =>
    obtain ⟨q, hq, rfl, hbr⟩ := hrel
    have HBR : Hid (Below w.heap.size w wr) := hbr
    by_cases hlt : q < K
    · have hqI : (q : Int) < K := by omega
      obtain ⟨rfl, rfl, a1, k1, a2, k2, m, hall⟩ := HAB.out q hlt
      obtain ⟨a0, b0, -⟩ := hall wr hbr
      have HSI : Hid (∀ W, Below wr.heap.size wr W → Calls Tryd.prog 50 #[.slice a1 m k1, .slice a2 m k2] W fun e w' => e = .returned (.bool true) ∧ Below W.heap.size W w') := fun W hW => (hall W (HBR.out.trans (hW.mono HBR.out.size))).2.2
      clear hall hbr HAB
      go_wp2_with fail
      refine wp_region_held_drew (S := fun W => Below wr.heap.size wr W) (by kernel_rfl) ((Below.refl _ _).drew) (fun hHeld => ?_)
      show wpAnyH _ _ _ _ _ 10 _ _ _
      refine wpAnyH_take (i := 0) (v := ?_) rfl (by kernel_rfl) (by kernel_rfl) (by kernel_rfl) (fun _ _ _ h => h) (Or.inl ⟨by rfl, ?_⟩) (by assumption) ?_
      rotate_left
      · (intro W hSW; go_simp; try (with_reducible rfl))
      (try simp only [Act.put, List.setIfInBounds_toArray])
      refine wpAnyH_take (i := 1) (v := ?_) rfl (by kernel_rfl) (by kernel_rfl) (by kernel_rfl) (fun _ _ _ h => h) (Or.inl ⟨by rfl, ?_⟩) (by assumption) ?_
      rotate_left
      · (intro W hSW; go_simp; try (with_reducible rfl))
      (try simp only [Act.put])
      refine wpAnyH_take (i := 2) (v := ?_) rfl (by kernel_rfl) (by kernel_rfl) (by kernel_rfl) (fun _ _ _ h => h) (Or.inl ⟨by rfl, ?_⟩) (by assumption) ?_
      rotate_left
      · (intro W hSW; go_simp; try (with_reducible rfl))
      (try simp only [Act.put])
      refine wpAnyH_take (i := 3) (v := ?_) rfl (by kernel_rfl) (by kernel_rfl) (by kernel_rfl) (fun _ _ _ h => h) (Or.inl ⟨by rfl, ?_⟩) (by assumption) ?_
      rotate_left
      · (intro W hSW; have z0 := keeps_below hSW _ _ a0; go_simp; try (with_reducible rfl))
      (try simp only [Act.put])
      refine wpAnyH_take (i := 4) (v := ?_) rfl (by kernel_rfl) (by kernel_rfl) (by kernel_rfl) (fun _ _ _ h => h) (Or.inl ⟨by rfl, ?_⟩) (by assumption) ?_
      rotate_left
      · (intro W hSW; go_simp; try (with_reducible rfl))
      (try simp only [Act.put])
      refine wpAnyH_take (i := 5) (v := ?_) rfl (by kernel_rfl) (by kernel_rfl) (by kernel_rfl) (fun _ _ _ h => h) (Or.inl ⟨by rfl, ?_⟩) (by assumption) ?_
      rotate_left
      · (intro W hSW; go_simp; try (with_reducible rfl))
      (try simp only [Act.put])
      refine wpAnyH_take (i := 6) (v := ?_) rfl (by kernel_rfl) (by kernel_rfl) (by kernel_rfl) (fun _ _ _ h => h) (Or.inl ⟨by rfl, ?_⟩) (by assumption) ?_
      rotate_left
      · (intro W hSW; go_simp; try (with_reducible rfl))
      (try simp only [Act.put])
      refine wpAnyH_take (i := 7) (v := ?_) rfl (by kernel_rfl) (by kernel_rfl) (by kernel_rfl) (fun _ _ _ h => h) (Or.inl ⟨by rfl, ?_⟩) (by assumption) ?_
      rotate_left
      · (intro W hSW; have z0 := keeps_below hSW _ _ b0; go_simp; try (with_reducible rfl))
      (try simp only [Act.put])
      refine wpAnyH_ready (rs := [8]) (by kernel_rfl) (by simp) ?_
      refine AllReadyH.cons rfl (fun K hK => ?_) AllReadyH.nil
      go_simp
      go_at_call 50
      refine (HSI.out _ hHeld).mono ?_
      rintro e w3 ⟨rfl, hb3⟩
      have hH3 : Below wr.heap.size wr w3 := hHeld.trans (hb3.mono hHeld.size)
      dsimp only
      refine hK.out _ _ (hHeld.trans (hb3.mono hHeld.size)) (fun _ => ?_)
      clear hK K
      (try simp only [Act.put, List.setIfInBounds_toArray, List.set_cons_zero, List.set_cons_succ])
      clear hHeld
      have hHeld : Below wr.heap.size wr w3 := hH3
      clear hH3
      refine wpAnyH_take (i := 9) (v := ?_) rfl (by kernel_rfl) (by kernel_rfl) (by kernel_rfl) (fun _ _ _ h => h) (Or.inl ⟨by rfl, ?_⟩) (by assumption) ?_
      rotate_left
      · (intro W hSW; go_simp; try (with_reducible rfl))
      (try simp only [Act.put, List.setIfInBounds_toArray])
      refine wpAnyH_done (by kernel_rfl) ?_ _
      have HF : Hid (Below w.heap.size w w3) := HBR.out.trans (hHeld.mono HBR.out.size)
      clear hHeld
      go_wp2
      go_roundw
      case rel => exact ⟨q + 1, by omega, by go_num, HF.out⟩
      case measure => simp [intOf]; omega
    · obtain rfl : q = K := by omega
      go_wp2
      go_ret
      exact ⟨rfl, HBR.out⟩
theorem sameLists_true (Ls : List (List Int)) (va vb : Value) (vs vs' : List Value) (base base' : Nat) (w : World) (hA : RowsAt w base va vs Ls) (hB : RowsAt w base' vb vs' Ls) :
    Calls Tryd.prog 33 #[va, vb] w fun e w' => e = .returned (.bool true) ∧ Below w.heap.size w w' := sameLists_val Ls va vb w hA.reads hB.reads
end Go.Proofs.YtndogdojcbcjgaaDoor
