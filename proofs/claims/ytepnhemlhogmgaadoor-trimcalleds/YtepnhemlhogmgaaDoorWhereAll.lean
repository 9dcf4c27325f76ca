/- Contract of trim.Where. -/
import Derived.Test.YtepnhemlhogmgaaDoorWheres
namespace Go.Proofs.YtepnhemlhogmgaaDoor
open Go Go.RowKit

theorem pcheck_zero (P : List Fn) (h : ProofAns P 0) (v : Value) (w : World) (ht : TabOk w) (hc : CallOk w) (hv : ProgVal w v P) :
    Calls Tryd.prog 21 #[.agg #[v]] w fun e w' => e = .returned (.int .i64 0) ∧ Below w.heap.size w w' :=
  (pcheck_any P v w ht hc hv).mono fun _ _ ⟨_, he, hE, hb⟩ => ⟨by rw [he, proofAns_unique hE h], hb⟩
theorem pcheck_bad (P : List Fn) (h : ¬ ProofAns P 0) (v : Value) (w : World) (ht : TabOk w) (hc : CallOk w) (hv : ProgVal w v P) :
    Calls Tryd.prog 21 #[.agg #[v]] w fun e w' => ∃ E, e = .returned (.int .i64 E) ∧ (E != 0) = true ∧ ProofAns P E ∧ Below w.heap.size w w' :=
  (pcheck_any P v w ht hc hv).mono fun _ _ ⟨E, he, hE, hb⟩ => ⟨E, he, by simp only [bne_iff_ne, ne_eq]; intro h0; exact h (h0 ▸ hE), hE, hb⟩

/-- What a call that answers P5.1 leaves. -/
def WherePost (P : List Fn) (fn : Int) (w : World) (e : Ending) (w' : World) : Prop :=
  ∃ v' E A, e = .returned (.tuple #[v', .int .i64 E]) ∧ WhereAns P fn E A ∧ IntsVal w' v' A ∧ Below w.heap.size w w'

theorem own_row_ints {w : World} {g n : Nat} {l : List Int} (h : w.ownsRow 0 3 1 (.slice (some ⟨g, 0, none⟩) n n) n (i64s l)) (hl : l.length = n) : IntsVal w (.slice (some ⟨g, 0, none⟩) n n) l := by
  rw [← hl] at h ⊢
  exact ints_of_own h

set_option maxRecDepth 100000 in
set_option maxHeartbeats 1000000 in
theorem Where_any (P : List Fn) (v : Value) (fn : Int) (w : World) (ht : TabOk w) (hc : CallOk w) (hv : ProgVal w v P) :
    Calls Tryd.prog 9 #[.agg #[v], .int .i64 fn] w fun e w' => WherePost P fn w e w' := by
  have hbx : ∀ o, Below w.heap.size w (w.alloc o) := fun o => (Below.refl _ _).alloc (Nat.le_refl _) _
  by_cases h0 : ProofAns P 0
  · have hC := fun o => pcheck_zero P h0 v (w.alloc o) (ht.below (hbx o)) (hc.below (hbx o)) (hv.keeps (keeps_below (hbx o)))
    have hP := proof_code h0
    have hp1 := (codeProg_zero hP).1
    have hp4 := (codeProg_zero hP).2.1
    by_cases hr : 0 ≤ fn ∧ fn < P.length
    · obtain ⟨k, rfl⟩ := Int.eq_ofNat_of_zero_le hr.1
      have hk : k < P.length := by omega
      have hR := fun W (hb : Below w.heap.size w W) => reached_any P hP k hk v W (ht.below hb) (hv.keeps (keeps_below hb))
      have hok := (fnOk_of hP (List.getElem_mem hk)).1
      have hl1 := hok.len1
      have hl2 := hok.len2
      have HAN : Hid (∀ s, Reach P[k] s → s.length = P[k].code.length ∧ WhereAns P k 0 (whereL s)) := fun s hs => ⟨hs.1, Or.inr (Or.inr ⟨h0, rfl, k, rfl, hk, s, hs, rfl⟩)⟩
      obtain ⟨ao, b, off, n, cap, rfl, ⟨hlen, _, _⟩, hcap, hmax⟩ := hv
      unfold maxLen at hmax
      have hkI : (k : Int) < n := by omega
      have hgeB : decide ((n : Int) ≤ (k : Int)) = false := by simp only [decide_eq_false_iff_not]; omega
      clear h0 hP hr hok hbx ht hc
      generalize P[k] = f at hR HAN hl1 hl2
      generalize f.code.length = m at hR HAN hl1 hl2
      go_enter Tryd.func9, Tryd.ntmps9
      go_wp2_with (first
        | (go_at_call 21; refine (hC _).mono ?_; rintro e w1 ⟨rfl, hb1⟩; have k0 := keeps_below hb1 ⟨w.heap.size, 0, none⟩ (.slice ao n cap) (by simp); have HB1 : Hid (Below w.heap.size w w1) := ((Below.refl _ _).alloc (Nat.le_refl _) _).trans (hb1.mono (by simp)); have hz1 : w.heap.size ≤ w1.heap.size := HB1.out.size; clear hb1)
        | (go_at_call 28; refine (hR _ HB1.out).mono ?_; rintro e w2 ⟨g, s, rfl, hre, hrow, hg, hb2⟩; obtain ⟨hsl, HAS⟩ := HAN.out s hre; have hW := where_any m g s w2 (by omega) (by omega) hsl hrow; have HB2 : Hid (Below w.heap.size w w2) := below_call HB1.out hz1 hb2; clear hre hrow hb2)
        | (go_at_call 27; refine hW.mono ?_; rintro e w3 ⟨g3, rfl, hown3, hg3, hb3⟩))
      go_ret2
      have hz2 := HB2.out.size
      exact ⟨_, _, _, rfl, HAS, own_row_ints hown3 (by rw [whereL_length, hsl]), below_call HB2.out hz2 hb3⟩
    · have HAN : Hid (WhereAns P fn 2 []) := Or.inr (Or.inl ⟨h0, hr, rfl, rfl⟩)
      obtain ⟨ao, b, off, n, cap, rfl, ⟨hlen, _, _⟩, hcap, hmax⟩ := hv
      unfold maxLen at hmax
      rw [hlen] at hr hp1 hp4
      clear h0 hP hbx ht hc hlen
      by_cases hn : fn < 0
      · have hneg : decide (fn < 0) = true := by simpa using hn
        clear hr
        go_enter Tryd.func9, Tryd.ntmps9
        go_wp2_with (first
          | (go_at_call 21; refine (hC _).mono ?_; rintro e w1 ⟨rfl, hb1⟩; have k0 := keeps_below hb1 ⟨w.heap.size, 0, none⟩ (.slice ao n cap) (by simp)))
        go_ret2
        exact ⟨_, _, _, rfl, HAN.out, ints_nil _, ((Below.refl _ _).alloc (Nat.le_refl _) _).trans (hb1.mono (by simp))⟩
      · have hneg : decide (fn < 0) = false := by simpa using hn
        have hge : decide ((n : Int) ≤ fn) = true := by simp only [decide_eq_true_eq]; omega
        clear hr hn
        go_enter Tryd.func9, Tryd.ntmps9
        go_wp2_with (first
          | (go_at_call 21; refine (hC _).mono ?_; rintro e w1 ⟨rfl, hb1⟩; have k0 := keeps_below hb1 ⟨w.heap.size, 0, none⟩ (.slice ao n cap) (by simp)))
        go_ret2
        exact ⟨_, _, _, rfl, HAN.out, ints_nil _, ((Below.refl _ _).alloc (Nat.le_refl _) _).trans (hb1.mono (by simp))⟩
  · have hC := fun o => pcheck_bad P h0 v (w.alloc o) (ht.below (hbx o)) (hc.below (hbx o)) (hv.keeps (keeps_below (hbx o)))
    have HAN : Hid (∀ E : Int, (E != 0) = true → ProofAns P E → WhereAns P fn E []) := fun E a b => Or.inl ⟨by simpa using a, b, rfl⟩
    obtain ⟨ao, b, off, n, cap, rfl, _⟩ := hv
    clear h0 hbx ht hc
    go_enter Tryd.func9, Tryd.ntmps9
    go_wp2_with (go_at_call 21; refine (hC _).mono ?_; rintro e w1 ⟨E, rfl, hne, hE, hb1⟩; have HE : Hid (ProofAns P E) := hE; clear hE)
    go_ret2
    exact ⟨_, _, _, rfl, HAN.out E hne HE.out, ints_nil _, ((Below.refl _ _).alloc (Nat.le_refl _) _).trans (hb1.mono (by simp))⟩

end Go.Proofs.YtepnhemlhogmgaaDoor
