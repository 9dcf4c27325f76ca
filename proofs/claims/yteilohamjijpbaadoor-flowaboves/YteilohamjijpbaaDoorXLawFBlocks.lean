/- The walk of tierlinelaw.FlowBlocks: at every program and number it says true, and nothing that was there has turned. -/
import Derived.Test.YteilohamjijpbaaDoorXBlocksOf
import Derived.Test.YteilohamjijpbaaDoorXSameBlk
import Derived.Test.YteilohamjijpbaaDoorXSame
import Derived.Test.YteilohamjijpbaaDoorXProgs
namespace Go.Proofs.YteilohamjijpbaaDoor
open Go Go.RowKit

/-- What both answer where there is nothing to answer. -/
def BadBlks (P : List Fn) (fn : Int) (w : World) (e : Ending) (w' : World) : Prop := ∃ E, e = .returned (.tuple #[.slice none 0 0, .int .i64 E]) ∧ LiveAns P fn E [] ∧ Below w.heap.size w w'
theorem BlkOk.same {f : Fn} {S S' : List Nat} {T T' : Nat → Nat} (h : BlkOk f S T) (h' : BlkOk f S' T') : S' = S ∧ ∀ i, i < S.length → T' i = T i := by
  have e := h'.starts.unique h.starts
  subst e
  exact ⟨rfl, fun i hi => (h'.ends i hi).unique (h.ends i hi)⟩

set_option maxRecDepth 100000 in
theorem blocksOf_bad (P : List Fn) (fn : Int) (hok : ¬ (ProofAns P 0 ∧ 0 ≤ fn ∧ fn < P.length)) (v : Value) (w : World) (hv : ProgVal w v P) :
    Calls Tryd.prog 13 #[.agg #[v], .int .i64 fn] w fun e w' => BadBlks P fn w e w' := by
  have hbx : ∀ o, Below w.heap.size w (w.alloc o) := fun o => (Below.refl _ _).alloc (Nat.le_refl _) _
  have hF := fun o => fault_badL P v fn hok (w.alloc o) (hv.keeps (keeps_below (hbx o)))
  obtain ⟨ao, n, cap, rfl⟩ := hv.shape
  clear hok hbx
  go_enter Tryd.func13, Tryd.ntmps13
  go_wp2_with (go_at_call 37; refine (hF _).mono ?_; rintro e w1 ⟨E, rfl, hne, hE, hb1⟩; have HE : Hid (LiveAns P fn E []) := hE; clear hE)
  go_ret2
  exact ⟨_, rfl, HE.out, ((Below.refl _ _).alloc (Nat.le_refl _) _).trans (hb1.mono (by simp))⟩
theorem Blocks_ref (P : List Fn) (hR : ProofAns P 0) (k : Nat) (hk : k < P.length) (v : Value) (w : World) (ht : TabOk w) (hc : CallOk w) (hv : ProgVal w v P) :
    Calls Tryd.prog 12 #[.agg #[v], .int .i64 k] w fun e w' => RefBlks P[k] w e w' := by
  refine (Blocks_right P hR k hk v w ht hc hv).mono ?_
  rintro e w' ⟨g, S, T, VV, LL, rfl, hB, hg, hb⟩
  exact ⟨_, S, T, rfl, hB.ok, ⟨g, S.length, VV, rfl, hB.blks (flowOk_of hR (List.getElem_mem hk))⟩, hb⟩

set_option maxRecDepth 100000 in
theorem Blocks_bad (P : List Fn) (fn : Int) (hok : ¬ (ProofAns P 0 ∧ 0 ≤ fn ∧ fn < P.length)) (v : Value) (w : World) (ht : TabOk w) (hc : CallOk w) (hv : ProgVal w v P) :
    Calls Tryd.prog 12 #[.agg #[v], .int .i64 fn] w fun e w' => BadBlks P fn w e w' := by
  have hbx : ∀ o, Below w.heap.size w (w.alloc o) := fun o => (Below.refl _ _).alloc (Nat.le_refl _) _
  have hC := fun o => flowCheck_any P v fn (w.alloc o) (ht.below (hbx o)) (hc.below (hbx o)) (hv.keeps (keeps_below (hbx o)))
  have HE0 : Hid (∀ E, FlowErr P fn E → (E != 0) = true ∧ LiveAns P fn E []) := fun E h => by
    rcases h with ⟨hn, ha⟩ | ⟨ha, e⟩
    · exact ⟨by simpa using hn, Or.inl ⟨hn, ha, rfl⟩⟩
    · rw [if_neg (fun h => hok ⟨ha, h⟩)] at e
      exact ⟨by rw [e]; rfl, Or.inr (Or.inl ⟨ha, fun h => hok ⟨ha, h⟩, e, rfl⟩)⟩
  obtain ⟨ao, n, cap, rfl⟩ := hv.shape
  clear ht hc hbx hok
  go_enter Tryd.func12, Tryd.ntmps12
  go_wp2_with (go_at_call 35; refine (hC _).mono ?_; rintro e w1 ⟨E, rfl, hE, hb1⟩; obtain ⟨hne, hA⟩ := HE0.out E hE; have HA : Hid (LiveAns P fn E []) := hA; have HB1 : Hid (Below w.heap.size w w1) := ((Below.refl _ _).alloc (Nat.le_refl _) _).trans (hb1.mono (by simp)); clear hE hA)
  go_ret2
  exact ⟨E, rfl, HA.out, HB1.out⟩

set_option maxRecDepth 100000 in
set_option maxHeartbeats 2000000 in
theorem flowBlocks_walk (p : List Fn) (v : Value) (fn : Int) (w : World) (ht : TabOk w) (hc : CallOk w) (hv : ProgVal w v p) (hs : p.length * 40 ≤ 140737488355328) (hs' : ∀ f ∈ p, f.code.length * 40 ≤ 140737488355328) :
    Calls Tryd.prog 3 #[.agg #[v], .int .i64 fn] w fun e w' => e = .returned (.bool true) ∧ Below w.heap.size w w' := by
  obtain ⟨ao, n, cap, rfl⟩ := hv.shape
  have hva : ∀ o, ProgVal (w.alloc o) (.slice ao n cap) p := fun o => hv.keeps (keeps_below ((Below.refl _ _).alloc (Nat.le_refl _) _))
  have hT : TabOk (w.alloc (.cells #[.slice ao n cap] 24)) := ht.below ((Below.refl _ _).alloc (Nat.le_refl _) _)
  have hC : CallOk (w.alloc (.cells #[.slice ao n cap] 24)) := hc.below ((Below.refl _ _).alloc (Nat.le_refl _) _)
  clear hv ht hc
  by_cases hok : ProofAns p 0 ∧ 0 ≤ fn ∧ fn < p.length
  · obtain ⟨h0, f0, f1⟩ := hok
    obtain ⟨k, rfl⟩ := Int.eq_ofNat_of_zero_le f0
    have hk : k < p.length := by omega
    have HBL : Hid (∀ W v, TabOk W → CallOk W → ProgVal W v p → Calls Tryd.prog 12 #[.agg #[v], .int .i64 k] W fun e w' => RefBlks p[k] W e w') := fun W v h1 h2 h3 => Blocks_ref p h0 k hk v W h1 h2 h3
    have HBO : Hid (∀ W v, ProgVal W v p → Calls Tryd.prog 13 #[.agg #[v], .int .i64 k] W fun e w' => RefBlks p[k] W e w') := fun W v h3 => blocksOf_right p h0 k hk v W h3
    generalize p[k] = f at HBL HBO
    clear h0 f0 f1
    go_enter Tryd.func3, Tryd.ntmps3
    go_wp2_with (first
      | (go_at_call 11; refine (programs_any p _ _ (hva _) hs hs').mono ?_; rintro e w1 ⟨v1, rfl, hp1, hb1⟩; obtain ⟨ao1, n1, cap1, rfl⟩ := hp1.shape; have hz1 : w.heap.size < w1.heap.size := (by have := hb1.size; simp at this; omega); have hB1 : Below w1.heap.size w1 (w1.alloc (.cells #[.slice ao1 n1 cap1] 24)) := (Below.refl _ _).alloc (Nat.le_refl _) _; have hT1 := (hT.below hb1).below hB1; have hC1 := (hC.below hb1).below hB1; have hP1 := hp1.keeps (keeps_below hB1); have hV1 := ((hva _).keeps (keeps_below hb1)).keeps (keeps_below hB1); have k1 := keeps_below hB1 _ _ (keeps_below hb1 ⟨w.heap.size, 0, none⟩ (.slice ao n cap) (by simp)))
      | (go_at_call 12; refine (HBL.out _ _ hT1 hC1 hP1).mono ?_; rintro e w2 ⟨v2, S, T, rfl, hO, hBV, hb2⟩; have k2 := keeps_below hb2 _ _ k1; have k3 := keeps_below hb2 ⟨w1.heap.size, 0, none⟩ (.slice ao1 n1 cap1) (by simp); have hP2 := hP1.keeps (keeps_below hb2); have hV2 := hV1.keeps (keeps_below hb2); have HO : Hid (BlkOk f S T) := hO; clear hO)
      | (go_at_call 13; refine (HBO.out _ _ hV2).mono ?_; rintro e w3 ⟨v3, S3, T3, rfl, hO3, hBV3, hb3⟩; obtain ⟨rfl, hTT⟩ := HO.out.same hO3; have k4 := keeps_below hb3 _ _ k2; have k5 := keeps_below hb3 _ _ k3; have hP3 := hP2.keeps (keeps_below hb3); have hV3 := hV2.keeps (keeps_below hb3); have hSB := sameBlocks_true f _ T T3 hTT v2 v3 w3 (hBV.below hb3) hBV3; have HTT : Hid _ := hTT; clear hO3 HO hTT hBV hBV3)
      | (go_at_call 14; refine hSB.mono ?_; rintro e w4 ⟨rfl, hb4⟩; have k7 := keeps_below hb4 _ _ k4; have k8 := keeps_below hb4 _ _ k5; have hP4 := hP3.keeps (keeps_below hb4); have hV4 := hV3.keeps (keeps_below hb4))
      | (go_at_call 15; refine (same_true p _ _ _ hP4 hV4).mono ?_; rintro e w5 ⟨rfl, hb5⟩))
    go_ret
    refine ⟨rfl, ?_⟩
    have z1 := hb1.size
    have z2 := hb2.size
    have z3 := hb3.size
    have z4 := hb4.size
    simp at z1 z2
    exact ((((((Below.refl _ w).alloc (Nat.le_refl _) _).trans (hb1.mono (by simp))).alloc (by omega) _).trans (hb2.mono (by simp; omega))).trans (hb3.mono (by omega))).trans (hb4.mono (by omega)) |>.trans (hb5.mono (by omega))
  · have HBL : Hid (∀ W v, TabOk W → CallOk W → ProgVal W v p → Calls Tryd.prog 12 #[.agg #[v], .int .i64 fn] W fun e w' => BadBlks p fn W e w') := fun W v h1 h2 h3 => Blocks_bad p fn hok v W h1 h2 h3
    have HBO : Hid (∀ W v, ProgVal W v p → Calls Tryd.prog 13 #[.agg #[v], .int .i64 fn] W fun e w' => BadBlks p fn W e w') := fun W v h3 => blocksOf_bad p fn hok v W h3
    clear hok
    go_enter Tryd.func3, Tryd.ntmps3
    go_wp2_with (first
      | (go_at_call 11; refine (programs_any p _ _ (hva _) hs hs').mono ?_; rintro e w1 ⟨v1, rfl, hp1, hb1⟩; obtain ⟨ao1, n1, cap1, rfl⟩ := hp1.shape; have hz1 : w.heap.size < w1.heap.size := (by have := hb1.size; simp at this; omega); have hB1 : Below w1.heap.size w1 (w1.alloc (.cells #[.slice ao1 n1 cap1] 24)) := (Below.refl _ _).alloc (Nat.le_refl _) _; have hT1 := (hT.below hb1).below hB1; have hC1 := (hC.below hb1).below hB1; have hP1 := hp1.keeps (keeps_below hB1); have hV1 := ((hva _).keeps (keeps_below hb1)).keeps (keeps_below hB1); have k1 := keeps_below hB1 _ _ (keeps_below hb1 ⟨w.heap.size, 0, none⟩ (.slice ao n cap) (by simp)))
      | (go_at_call 12; refine (HBL.out _ _ hT1 hC1 hP1).mono ?_; rintro e w2 ⟨E, rfl, hO, hb2⟩; have k2 := keeps_below hb2 _ _ k1; have k3 := keeps_below hb2 ⟨w1.heap.size, 0, none⟩ (.slice ao1 n1 cap1) (by simp); have hP2 := hP1.keeps (keeps_below hb2); have hV2 := hV1.keeps (keeps_below hb2); have HO : Hid (LiveAns p fn E []) := hO; clear hO)
      | (go_at_call 13; refine (HBO.out _ _ hV2).mono ?_; rintro e w3 ⟨E3, rfl, hO3, hb3⟩; obtain ⟨rfl, -⟩ := liveAns_unique HO.out hO3; have k4 := keeps_below hb3 _ _ k2; have k5 := keeps_below hb3 _ _ k3; have hP3 := hP2.keeps (keeps_below hb3); have hV3 := hV2.keeps (keeps_below hb3); clear hO3 HO)
      | (go_at_call 14; refine (sameBlocks_nil _).mono ?_; rintro e w4 ⟨rfl, hb4⟩; have k7 := keeps_below hb4 _ _ k4; have k8 := keeps_below hb4 _ _ k5; have hP4 := hP3.keeps (keeps_below hb4); have hV4 := hV3.keeps (keeps_below hb4))
      | (go_at_call 15; refine (same_true p _ _ _ hP4 hV4).mono ?_; rintro e w5 ⟨rfl, hb5⟩))
    go_ret
    refine ⟨rfl, ?_⟩
    have z1 := hb1.size
    have z2 := hb2.size
    have z3 := hb3.size
    have z4 := hb4.size
    simp at z1 z2
    exact ((((((Below.refl _ w).alloc (Nat.le_refl _) _).trans (hb1.mono (by simp))).alloc (by omega) _).trans (hb2.mono (by simp; omega))).trans (hb3.mono (by omega))).trans (hb4.mono (by omega)) |>.trans (hb5.mono (by omega))

end Go.Proofs.YteilohamjijpbaaDoor
