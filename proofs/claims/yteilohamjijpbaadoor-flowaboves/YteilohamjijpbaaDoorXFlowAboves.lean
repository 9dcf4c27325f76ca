/- Contract of flow.Above of right programs, and how far up a block lies. -/
import Derived.Test.YteilohamjijpbaaDoorXFlowStanding
namespace Go.Proofs.YteilohamjijpbaaDoor
open Go Go.RowKit

theorem pvN_congr (f : Fn) (S : List Nat) {T T' : Nat → Nat} (h : ∀ i, i < S.length → T i = T' i) (b : Nat) : pvN f S T b = pvN f S T' b := by
  unfold pvN
  apply List.filter_congr
  intro j hj
  rw [h j (List.mem_range.1 hj)]
/-- What flow.Above answers of a right program's function. -/
def AboveOk (f : Fn) (A : List Int) : Prop := ∃ S T, BlkOk f S T ∧ A.length = S.length ∧ ∀ b, b < S.length → NearTo (pvN f S T) b S.length (A.getD b 0)
theorem AboveOk.of {f : Fn} {A : List Int} (h : AboveOk f A) {S : List Nat} {T : Nat → Nat} (hB : BlkOk f S T) : A.length = S.length ∧ ∀ b, b < S.length → NearTo (pvN f S T) b S.length (A.getD b 0) := by
  obtain ⟨S', T', h1, h2, h3⟩ := h
  obtain rfl := h1.starts.unique hB.starts
  have hT : ∀ i, i < S'.length → T' i = T i := fun i hi => (h1.ends i hi).unique (hB.ends i hi)
  have e : pvN f S' T' = pvN f S' T := funext fun b => pvN_congr f S' hT b
  rw [e] at h3
  exact ⟨h2, h3⟩

set_option maxRecDepth 100000 in
set_option maxHeartbeats 4000000 in
theorem Above_right (P : List Fn) (hR : ProofAns P 0) (k : Nat) (hk : k < P.length) (v : Value) (w : World) (ht : TabOk w) (hc : CallOk w) (hv : ProgVal w v P) :
    Calls Tryd.prog 19 #[.agg #[v], .int .i64 k] w fun e w' => ∃ v' A, e = .returned (.tuple #[v', .int .i64 0]) ∧ AboveOk P[k] A ∧ IntsVal w' v' A ∧ Below w.heap.size w w' := by
  have hbx : ∀ o, Below w.heap.size w (w.alloc o) := fun o => (Below.refl _ _).alloc (Nat.le_refl _) _
  have hC := fun o => flowCheck_any P v k (w.alloc o) (ht.below (hbx o)) (hc.below (hbx o)) (hv.keeps (keeps_below (hbx o)))
  have HLV : Hid (∀ W, Below w.heap.size w W → Calls Tryd.prog 36 #[.agg #[v], .int .i64 k] W fun e w' => ∃ g S T VV LL, e = .returned (.slice (some ⟨g, 0, none⟩) S.length S.length) ∧ BlocksAt w' W.heap.size g P[k] S T VV LL ∧ W.heap.size ≤ g ∧ Below W.heap.size W w') := fun W hb => blocks_any P hR k hk v W (ht.below hb) (hc.below hb) (hv.keeps (keeps_below hb))
  have HE0 : Hid (∀ E, FlowErr P k E → E = 0) := fun E h => flowErr_right h hR (by omega) (by omega)
  have OK : Hid (FlowOk P P[k]) := flowOk_of hR (List.getElem_mem hk)
  obtain ⟨ao, n, cap, rfl⟩ := hv.shape
  clear ht hc hbx
  generalize P[k] = f at *
  go_enter Tryd.func19, Tryd.ntmps19
  go_wp2_with (first
    | (go_at_call 35; refine (hC _).mono ?_; rintro e w1 ⟨E, rfl, hE, hb1⟩; obtain rfl := HE0.out E hE; have k0 := keeps_below hb1 ⟨w.heap.size, 0, none⟩ (.slice ao n cap) (by simp); have HB1 : Hid (Below w.heap.size w w1) := ((Below.refl _ _).alloc (Nat.le_refl _) _).trans (hb1.mono (by simp)); clear hE)
    | (go_at_call 36; refine (HLV.out _ HB1.out).mono ?_; rintro e w2 ⟨g, S, T, VV, LL, rfl, hB, hgw, hb2⟩; have HBB : Hid (BlkOk f S T) := hB.ok; have hkn : S.length ≤ 40 := Nat.le_trans (starts_len OK.out hB.starts) OK.out.ok.len2; have hSt := standing_any P f OK.out _ g S T VV LL w2 hB; have HB2 : Hid (Below w.heap.size w w2) := HB1.out.trans (hb2.mono HB1.out.size); clear hB hb2)
    | (go_at_call 44; refine hSt.mono ?_; rintro e w3 ⟨R, rfl, hst, hb3⟩; have hAb := above_any (pvN f S T) S.length R w3 hst (fun b hb => HBB.out.come OK.out hb) (by omega); have HB3 : Hid (Below w.heap.size w w3) := HB2.out.trans (hb3.mono HB2.out.size); clear hst hb3)
    | (go_at_call 47; refine hAb.mono ?_; rintro e w4 ⟨A, rfl, hl, hA, hrow, hb4⟩))
  go_ret2
  exact ⟨_, A, rfl, ⟨S, T, HBB.out, hl, hA⟩, int_vals hrow hl (by unfold maxLen; omega), HB3.out.trans (hb4.mono HB3.out.size)⟩

open Classical in
/-- How many of the first blocks stand on each way to a block. -/
noncomputable def domCt (pv : Nat → List Nat) (b : Nat) : Nat → Nat
  | 0 => 0
  | k + 1 => domCt pv b k + (if Dom pv k b then 1 else 0)
theorem domCt_le (pv : Nat → List Nat) (b : Nat) : ∀ k, domCt pv b k ≤ k
  | 0 => Nat.le_refl _
  | k + 1 => by
    have := domCt_le pv b k
    rw [domCt]
    split <;> omega
theorem domCt_mono {pv : Nat → List Nat} {a b : Nat} (h : ∀ d, Dom pv d a → Dom pv d b) : ∀ k, domCt pv a k ≤ domCt pv b k
  | 0 => Nat.le_refl _
  | k + 1 => by
    have := domCt_mono h k
    rw [domCt, domCt]
    by_cases hd : Dom pv k a
    · rw [if_pos hd, if_pos (h k hd)]; omega
    · rw [if_neg hd]; omega
theorem domCt_lt {pv : Nat → List Nat} {a b e : Nat} (h : ∀ d, Dom pv d a → Dom pv d b) (h1 : Dom pv e b) (h2 : ¬ Dom pv e a) : ∀ k, e < k → domCt pv a k < domCt pv b k
  | 0, hk => by omega
  | k + 1, hk => by
    rw [domCt, domCt]
    by_cases he : e = k
    · subst he
      have := domCt_mono h e
      rw [if_neg h2, if_pos h1]; omega
    · have := domCt_lt h h1 h2 k (by omega)
      by_cases hd : Dom pv k a
      · rw [if_pos hd, if_pos (h k hd)]; omega
      · rw [if_neg hd]; omega
/-- One step up. -/
theorem near_up {pv : Nat → List Nat} {K i : Nat} {z : Int} (hc : ∀ b, b < K → Come pv b) (hp : ∀ b p, p ∈ pv b → p < K) (h : NearTo pv i K z) (hi : i < K) (h1 : 1 ≤ i) : ∃ a : Nat, z = (a : Int) ∧ a < K ∧ domCt pv a K < domCt pv i K ∧ ∀ p, pv i = [p] → a = p := by
  obtain ⟨a, e, ha, hne, hd, hall⟩ := h.above (by omega) (by omega)
  refine ⟨a, e, ha, domCt_lt (e := i) (fun d hda => hda.trans hd) (Dom.self pv i) (fun h => hne (Dom.anti (hc a ha) hd h)) K hi, fun p hpp => ?_⟩
  have hpK : p < K := hp i p (by rw [hpp]; exact List.mem_singleton.2 rfl)
  exact NearTo.only (hc i hi) hpp hpK (by omega) ⟨hne, hd, hall⟩ (hc p hpK)
end Go.Proofs.YteilohamjijpbaaDoor
