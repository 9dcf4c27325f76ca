/- Contracts of flow.check and flow.Live. -/
import Derived.Test.YteilohamjijpbaaDoorXFlowLive
namespace Go.Proofs.YteilohamjijpbaaDoor
open Go Go.RowKit

/-- What all calls of flow refuse. -/
def FlowErr (P : List Fn) (fn E : Int) : Prop := (E ≠ 0 ∧ ProofAns P E) ∨ (ProofAns P 0 ∧ E = if 0 ≤ fn ∧ fn < P.length then 0 else 2)
theorem flowErr_right {P : List Fn} {fn E : Int} (h : FlowErr P fn E) (hR : ProofAns P 0) (h0 : 0 ≤ fn) (h1 : fn < P.length) : E = 0 := by
  rcases h with ⟨hn, ha⟩ | ⟨_, e⟩
  · exact absurd (proofAns_unique ha hR) hn
  · rw [e, if_pos ⟨h0, h1⟩]

set_option maxRecDepth 100000 in
theorem flowCheck_any (P : List Fn) (v : Value) (fn : Int) (w : World) (ht : TabOk w) (hc : CallOk w) (hv : ProgVal w v P) :
    Calls Tryd.prog 35 #[.agg #[v], .int .i64 fn] w fun e w' => ∃ E, e = .returned (.int .i64 E) ∧ FlowErr P fn E ∧ Below w.heap.size w w' := by
  have hbx : ∀ o, Below w.heap.size w (w.alloc o) := fun o => (Below.refl _ _).alloc (Nat.le_refl _) _
  have hC := fun o => pcheck_any P v (w.alloc o) (ht.below (hbx o)) (hc.below (hbx o)) (hv.keeps (keeps_below (hbx o)))
  obtain ⟨ao, b, off, n, cap, rfl, hin, hcap, hmax⟩ := hv
  obtain ⟨hlen, _, _⟩ := hin
  unfold maxLen at hmax
  have HLEN : Hid (P.length = n) := hlen
  clear ht hbx hlen hc
  go_enter Tryd.func35, Tryd.ntmps35
  go_upto_region 2 with (go_at_call 49; refine (hC _).mono ?_; rintro e w1 ⟨E, rfl, hE, hb1⟩; have k0 := keeps_below hb1 ⟨w.heap.size, 0, none⟩ (.slice ao n cap) (by simp))
  have HB : Hid (Below w.heap.size w w1) := ((Below.refl _ _).alloc (Nat.le_refl _) _).trans (hb1.mono (by simp))
  have HE : Hid (ProofAns P E) := hE
  clear hE hb1 hC
  by_cases h0 : E = 0
  · subst h0
    by_cases h1 : 0 ≤ fn
    · by_cases h2 : fn < n
      · go_wp2
        go_ret
        exact ⟨0, rfl, Or.inr ⟨HE.out, by rw [if_pos (by have := HLEN.out; omega)]⟩, HB.out⟩
      · have h2' : decide ((n : Int) ≤ fn) = true := by simp; omega
        go_wp2
        go_ret
        exact ⟨2, rfl, Or.inr ⟨HE.out, by rw [if_neg (by have := HLEN.out; omega)]⟩, HB.out⟩
    · have h1' : decide (fn < 0) = true := by simp; omega
      go_wp2
      go_ret
      exact ⟨2, rfl, Or.inr ⟨HE.out, by rw [if_neg (by omega)]⟩, HB.out⟩
  · have h0' : (E != 0) = true := by simpa using h0
    have H0 : Hid (E ≠ 0) := h0
    clear h0
    go_wp2
    go_ret
    exact ⟨E, rfl, Or.inl ⟨H0.out, HE.out⟩, HB.out⟩

end Go.Proofs.YteilohamjijpbaaDoor
