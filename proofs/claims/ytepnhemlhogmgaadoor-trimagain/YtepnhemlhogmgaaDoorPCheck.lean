/- Contract of proof.Check. -/
import Derived.Test.YtepnhemlhogmgaaDoorProve
namespace Go.Proofs.YtepnhemlhogmgaaDoor
open Go Go.RowKit

set_option maxRecDepth 100000 in
set_option maxHeartbeats 1000000 in
theorem pcheck_any (P : List Fn) (v : Value) (w : World) (ht : TabOk w) (hc : CallOk w) (hv : ProgVal w v P) :
    Calls Tryd.prog 21 #[.agg #[v]] w fun e w' => ∃ E, e = .returned (.int .i64 E) ∧ ProofAns P E ∧ Below w.heap.size w w' := by
  have hbx : ∀ o, Below w.heap.size w (w.alloc o) := fun o => (Below.refl _ _).alloc (Nat.le_refl _) _
  have hC := fun o => check_any P v (w.alloc o) (ht.below (hbx o)) (hv.keeps (keeps_below (hbx o)))
  by_cases h0 : codeProg P = 0
  · have HANS : Hid (∀ E, ChecksTo P P E → ProofAns P E) := fun E h => Or.inr ⟨h0, h⟩
    have hPr := fun f hf cv W a b c d => prove_any P h0 f hf v cv W a b c d
    have HPV : Hid (∀ W, Below w.heap.size w W → TabOk W ∧ CallOk W ∧ ProgVal W v P) := fun W hb => ⟨ht.below hb, hc.below hb, hv.keeps (keeps_below hb)⟩
    rw [h0] at hC
    have hp1 := (codeProg_zero h0).1
    have hp4 := (codeProg_zero h0).2.1
    obtain ⟨ao, b, off, N, cap, rfl, ⟨hlen, haddr, hat⟩, hcap, hmax⟩ := hv
    obtain rfl := haddr (by omega)
    have HN : Hid (P.length = N) := hlen
    rw [hlen] at hp1 hp4
    unfold maxLen at hmax
    have HAT : Hid (∀ k (h : k < P.length), ∃ u, FnAt w b (off + k * 3) P[k] u) := hat
    have HPR : Hid (∀ k (h : k < P.length) cv W, TabOk W → CallOk W → ProgVal W (.slice (some ⟨b, off, none⟩) N cap) P → CodeVal W cv P[k].code → Calls Tryd.prog 36 #[.agg #[.slice (some ⟨b, off, none⟩) N cap], .agg #[.int .i64 P[k].params, .int .i64 P[k].regs, cv]] W fun e w' => ∃ E, e = .returned (.int .i64 E) ∧ ProvesTo P P[k] E ∧ Below W.heap.size W w') := fun k h cv W a b c d => hPr P[k] (List.getElem_mem h) cv W a b c d
    have HSN : Hid (∀ k (h : k < P.length), SoFar P k → ProvesTo P P[k] 0 → SoFar P (k + 1)) := fun k h a b => soFar_next a h b
    have HSB : Hid (∀ k (h : k < P.length) e, SoFar P k → ProvesTo P P[k] e → e ≠ 0 → ChecksTo P P e) := fun k h e a b c => soFar_bad a h b c
    have HSE : Hid (∀ k, SoFar P k → N ≤ k → ChecksTo P P 0) := fun k a b => soFar_end a (by omega)
    clear hat haddr hPr ht hc h0 hlen
    go_enter Tryd.func21, Tryd.ntmps21
    go_wp2_with (go_at_call 35; refine (hC _).mono ?_; rintro e w1 ⟨rfl, hb1⟩; have k0 := keeps_below hb1 ⟨w.heap.size, 0, none⟩ (.slice (some ⟨b, off, none⟩) N cap) (by simp); have HB1 : Hid (Below w.heap.size w w1) := ((Below.refl _ _).alloc (Nat.le_refl _) _).trans (hb1.mono (by simp)); have hz1 : w.heap.size < w1.heap.size := (by have := hb1.size; simp at this; omega); clear hb1)
    go_loopw [15] (fun i wr => ∃ k : Nat, k ≤ N ∧ i = .int .i64 k ∧ SoFar P k ∧ Below w1.heap.size w1 wr) (fun i _ => N - (intOf i).toNat)
    case atStart => exact ⟨0, Nat.zero_le _, rfl, soFar_zero P, Below.refl _ _⟩
    case round =>
      obtain ⟨k, hk, rfl, hsf, hbr⟩ := hrel
      have j0 := keeps_below hbr _ _ k0
      have hzr : w1.heap.size ≤ wr.heap.size := hbr.size
      have hzz : w.heap.size < wr.heap.size := by omega
      have HSF : Hid (SoFar P k) := hsf
      have HBR : Hid (Below w1.heap.size w1 wr) := hbr
      have HBW : Hid (Below w.heap.size w wr) := HB1.out.trans (hbr.mono (by omega))
      clear hsf hbr
      by_cases hlt : k < N
      · have hkx : k < P.length := by rw [HN.out]; exact hlt
        obtain ⟨u, hfn⟩ := HAT.out k hkx
        obtain ⟨d0, d1, d2, hu⟩ := hfn.keeps (keeps_below HBW.out)
        have hpk := fun cv W => HPR.out k hkx cv W
        have hsn := HSN.out k hkx
        have hsb := HSB.out k hkx
        have hua := fun o => hu.keeps (keeps_below ((Below.refl _ wr).alloc (Nat.le_refl _) o))
        obtain ⟨ao1, b1, off1, n1, cap1, rfl, _⟩ := hu
        generalize P[k] = g at d0 d1 hpk hsn hsb hua hfn
        have hPW := fun o => HPV.out (wr.alloc o) (HBW.out.alloc (by omega) o)
        have hkI : (k : Int) < N := by omega
        have HSNN : Hid (SoFar P k → ProvesTo P g 0 → SoFar P (k + 1)) := hsn
        have HSBB : Hid (∀ e, SoFar P k → ProvesTo P g e → e ≠ 0 → ChecksTo P P e) := hsb
        clear hsn hsb hfn
        go_wp2_with (go_at_call 36; refine (hpk _ _ (hPW _).1 (hPW _).2.1 (hPW _).2.2 (hua _)).mono ?_; rintro e w2 ⟨E, rfl, hpe, hb2⟩; have HPE : Hid (ProvesTo P g E) := hpe; have HB2 : Hid (Below w1.heap.size w1 w2) := below_step HBR.out hzr hb2; clear hpe hb2)
        · have hne : (E != 0) = true := by assumption
          go_ret
          exact ⟨E, rfl, HANS.out E (HSBB.out E HSF.out HPE.out (by simpa using hne)), HB1.out.trans (HB2.out.mono (by omega))⟩
        · have hne : (E != 0) = false := by assumption
          have hE : E = 0 := by simpa using hne
          subst hE
          go_roundw
          case rel => exact ⟨k + 1, by omega, by go_num, HSNN.out HSF.out HPE.out, HB2.out⟩
          case measure => simp [intOf]; omega
      · go_wp2
        go_ret
        exact ⟨0, rfl, HANS.out 0 (HSE.out k HSF.out (by omega)), HBW.out⟩
  · have HANS : Hid (ProofAns P (codeProg P)) := Or.inl ⟨h0, rfl⟩
    have h' : (codeProg P != 0) = true := by simpa using h0
    obtain ⟨ao, b, off, n, cap, rfl, _⟩ := hv
    clear h0 ht hc hbx
    go_enter Tryd.func21, Tryd.ntmps21
    go_wp2_with (go_at_call 35; refine (hC _).mono ?_; rintro e w1 ⟨rfl, hb1⟩)
    go_ret
    exact ⟨_, rfl, HANS.out, ((Below.refl _ _).alloc (Nat.le_refl _) _).trans (hb1.mono (by simp))⟩

end Go.Proofs.YtepnhemlhogmgaaDoor
