/- The walk of tierlinelaw.FlowAboves: at every program and number it says true, and nothing that was there has turned. -/
import Derived.Test.YteilohamjijpbaaDoorXRefAbove
import Derived.Test.YteilohamjijpbaaDoorXLawSures
namespace Go.Proofs.YteilohamjijpbaaDoor
open Go Go.RowKit

set_option maxRecDepth 100000 in
theorem aboveOf_bad (P : List Fn) (fn : Int) (hok : ¬ (ProofAns P 0 ∧ 0 ≤ fn ∧ fn < P.length)) (v : Value) (w : World) (hv : ProgVal w v P) :
    Calls Tryd.prog 20 #[.agg #[v], .int .i64 fn] w fun e w' => BadBlks P fn w e w' := by
  have hbx : ∀ o, Below w.heap.size w (w.alloc o) := fun o => (Below.refl _ _).alloc (Nat.le_refl _) _
  have hF := fun o => blocksOf_bad P fn hok v (w.alloc o) (hv.keeps (keeps_below (hbx o)))
  have HNE : Hid (∀ E, LiveAns P fn E [] → (E != 0) = true) := fun E h => by
    rcases h with ⟨h1, _⟩ | ⟨_, _, rfl, _⟩ | ⟨h1, rfl, k, rfl, hk, _⟩
    · simpa using h1
    · rfl
    · exact absurd ⟨h1, by omega, by omega⟩ hok
  obtain ⟨ao, n, cap, rfl⟩ := hv.shape
  clear hok hbx
  go_enter Tryd.func20, Tryd.ntmps20
  go_wp2_with (go_at_call 13; refine (hF _).mono ?_; rintro e w1 ⟨E, rfl, hE, hb1⟩; have hne := HNE.out E hE; have HE : Hid (LiveAns P fn E []) := hE; clear hE)
  go_ret2
  exact ⟨_, rfl, HE.out, ((Below.refl _ _).alloc (Nat.le_refl _) _).trans (hb1.mono (by simp))⟩

set_option maxRecDepth 100000 in
theorem Above_bad (P : List Fn) (fn : Int) (hok : ¬ (ProofAns P 0 ∧ 0 ≤ fn ∧ fn < P.length)) (v : Value) (w : World) (ht : TabOk w) (hc : CallOk w) (hv : ProgVal w v P) :
    Calls Tryd.prog 19 #[.agg #[v], .int .i64 fn] w fun e w' => BadBlks P fn w e w' := by
  have hbx : ∀ o, Below w.heap.size w (w.alloc o) := fun o => (Below.refl _ _).alloc (Nat.le_refl _) _
  have hC := fun o => flowCheck_any P v fn (w.alloc o) (ht.below (hbx o)) (hc.below (hbx o)) (hv.keeps (keeps_below (hbx o)))
  have HE0 : Hid (∀ E, FlowErr P fn E → (E != 0) = true ∧ LiveAns P fn E []) := fun E h => by
    rcases h with ⟨hn, ha⟩ | ⟨ha, e⟩
    · exact ⟨by simpa using hn, Or.inl ⟨hn, ha, rfl⟩⟩
    · rw [if_neg (fun h => hok ⟨ha, h⟩)] at e
      exact ⟨by rw [e]; rfl, Or.inr (Or.inl ⟨ha, fun h => hok ⟨ha, h⟩, e, rfl⟩)⟩
  obtain ⟨ao, n, cap, rfl⟩ := hv.shape
  clear ht hc hbx hok
  go_enter Tryd.func19, Tryd.ntmps19
  go_wp2_with (go_at_call 35; refine (hC _).mono ?_; rintro e w1 ⟨E, rfl, hE, hb1⟩; obtain ⟨hne, hA⟩ := HE0.out E hE; have HA : Hid (LiveAns P fn E []) := hA; have HB1 : Hid (Below w.heap.size w w1) := ((Below.refl _ _).alloc (Nat.le_refl _) _).trans (hb1.mono (by simp)); clear hE hA)
  go_ret2
  exact ⟨E, rfl, HA.out, HB1.out⟩

set_option maxRecDepth 100000 in
set_option maxHeartbeats 2000000 in
theorem flowAboves_walk (p : List Fn) (v : Value) (fn : Int) (w : World) (ht : TabOk w) (hc : CallOk w) (hv : ProgVal w v p) (hs : p.length * 40 ≤ 140737488355328) (hs' : ∀ f ∈ p, f.code.length * 40 ≤ 140737488355328) :
    Calls Tryd.prog 5 #[.agg #[v], .int .i64 fn] w fun e w' => e = .returned (.bool true) ∧ Below w.heap.size w w' := by
  obtain ⟨ao, n, cap, rfl⟩ := hv.shape
  have hbx : Below w.heap.size w (w.alloc (.cells #[.slice ao n cap] 24)) := (Below.refl _ _).alloc (Nat.le_refl _) _
  have hva := hv.keeps (keeps_below hbx)
  have hT := ht.below hbx
  have hCO := hc.below hbx
  clear hv ht hc hbx
  by_cases hok : ProofAns p 0 ∧ 0 ≤ fn ∧ fn < p.length
  · obtain ⟨h0, f0, f1⟩ := hok
    obtain ⟨k, rfl⟩ := Int.eq_ofNat_of_zero_le f0
    have hk : k < p.length := by omega
    have HBL : Hid (∀ W v, TabOk W → CallOk W → ProgVal W v p → Calls Tryd.prog 19 #[.agg #[v], .int .i64 k] W _) := fun W v h1 h2 h3 => Above_right p h0 k hk v W h1 h2 h3
    have HBO : Hid (∀ W v, ProgVal W v p → Calls Tryd.prog 20 #[.agg #[v], .int .i64 k] W fun e w' => RefAbv p[k] W e w') := fun W v h3 => aboveOf_right p h0 k hk v W h3
    have OK : Hid (FlowOk p p[k]) := flowOk_of h0 (List.getElem_mem hk)
    generalize p[k] = f at HBL HBO OK
    clear h0 f0 f1
    go_enter Tryd.func5, Tryd.ntmps5
    go_wp2_with (first
      | (go_at_call 11; refine (programs_any p _ _ hva hs hs').mono ?_; rintro e w1 ⟨v1, rfl, hp1, hb1⟩; have hT1 := hT.below hb1; have hC1 := hCO.below hb1; have hV1 := hva.keeps (keeps_below hb1); have k1 := keeps_below hb1 ⟨w.heap.size, 0, none⟩ (.slice ao n cap) (by simp))
      | (go_at_call 19; refine (HBL.out _ _ hT1 hC1 hp1).mono ?_; rintro e w2 ⟨v2, A, rfl, hO, hra, hb2⟩; have k2 := keeps_below hb2 _ _ k1; have hV2 := hV1.keeps (keeps_below hb2); have HO : Hid (AboveOk f A) := hO; clear hO)
      | (go_at_call 20; refine (HBO.out _ _ hV2).mono ?_; rintro e w3 ⟨v3, A3, rfl, hO3, hra3, hb3⟩; obtain rfl : A = A3 := HO.out.unique OK.out hO3; have hSL := sameInts_true A v2 v3 w3 (hra.keeps (keeps_below hb3)) hra3; clear hO3 HO hra hra3)
      | (go_at_call 21; refine hSL.mono ?_; rintro e w4 ⟨rfl, hb4⟩))
    go_ret
    refine ⟨rfl, ?_⟩
    have z1 := hb1.size
    have z2 := hb2.size
    have z3 := hb3.size
    simp at z1
    exact (((((Below.refl _ w).alloc (Nat.le_refl _) _).trans (hb1.mono (by simp))).trans (hb2.mono (by omega))).trans (hb3.mono (by omega))).trans (hb4.mono (by omega))
  · have HBL : Hid (∀ W v, TabOk W → CallOk W → ProgVal W v p → Calls Tryd.prog 19 #[.agg #[v], .int .i64 fn] W fun e w' => BadBlks p fn W e w') := fun W v h1 h2 h3 => Above_bad p fn hok v W h1 h2 h3
    have HBO : Hid (∀ W v, ProgVal W v p → Calls Tryd.prog 20 #[.agg #[v], .int .i64 fn] W fun e w' => BadBlks p fn W e w') := fun W v h3 => aboveOf_bad p fn hok v W h3
    clear hok
    go_enter Tryd.func5, Tryd.ntmps5
    go_wp2_with (first
      | (go_at_call 11; refine (programs_any p _ _ hva hs hs').mono ?_; rintro e w1 ⟨v1, rfl, hp1, hb1⟩; have hT1 := hT.below hb1; have hC1 := hCO.below hb1; have hV1 := hva.keeps (keeps_below hb1); have k1 := keeps_below hb1 ⟨w.heap.size, 0, none⟩ (.slice ao n cap) (by simp))
      | (go_at_call 19; refine (HBL.out _ _ hT1 hC1 hp1).mono ?_; rintro e w2 ⟨E, rfl, hO, hb2⟩; have k2 := keeps_below hb2 _ _ k1; have hV2 := hV1.keeps (keeps_below hb2); have HO : Hid (LiveAns p fn E []) := hO; clear hO)
      | (go_at_call 20; refine (HBO.out _ _ hV2).mono ?_; rintro e w3 ⟨E3, rfl, hO3, hb3⟩; obtain ⟨rfl, -⟩ := liveAns_unique HO.out hO3; clear hO3 HO)
      | (go_at_call 21; refine (sameInts_true [] _ _ _ (ints_nil _) (ints_nil _)).mono ?_; rintro e w4 ⟨rfl, hb4⟩))
    go_ret
    refine ⟨rfl, ?_⟩
    have z1 := hb1.size
    have z2 := hb2.size
    have z3 := hb3.size
    simp at z1
    exact (((((Below.refl _ w).alloc (Nat.le_refl _) _).trans (hb1.mono (by simp))).trans (hb2.mono (by omega))).trans (hb3.mono (by omega))).trans (hb4.mono (by omega))

end Go.Proofs.YteilohamjijpbaaDoor
