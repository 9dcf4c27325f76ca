/- What step.Next and the document's Nexted answer at every program and state. -/
import Derived.Test.YtndogdojcbcjgaaDoorXSNextRun
namespace Go.Proofs.YtndogdojcbcjgaaDoor
open Go Go.RowKit

/-- The state that is answered. -/
def nxtS (P : List Fn) (s : St) (c : Int) : St := if c = 0 then walkS P 1 s else zeroSt
theorem check_num (P : List Fn) (s : St) : ∃ c, (∀ E, ProofAns P E → checkE E P s = c) ∧ (c = 0 → ProofAns P 0 ∧ mayB s = true ∧ FOk P s.frames) := by
  by_cases h : ∃ E, ProofAns P E
  · obtain ⟨E, hE⟩ := h
    refine ⟨checkE E P s, fun E' hE' => by rw [proofAns_unique hE' hE], fun h0 => ?_⟩
    unfold checkE at h0
    by_cases e : E = 0
    · subst e
      rw [if_neg (by simp)] at h0
      by_cases hm : (mayB s && framesB P s.frames) = true
      · have := Bool.and_eq_true_iff.1 hm
        exact ⟨hE, this.1, (framesB_iff P s.frames).1 this.2⟩
      · rw [if_neg hm] at h0; omega
    · rw [if_pos e] at h0; exact absurd h0 e
  · exact ⟨1, fun E hE => absurd ⟨E, hE⟩ h, fun h0 => by omega⟩
theorem next_all (P : List Fn) (v sv : Value) (s : St) (c : Int) (w : World) (ht : TabOk w) (hc : CallOk w) (hv : ProgVal w v P) (hs : StVal w sv s) (hE : ∀ E, ProofAns P E → checkE E P s = c) (h0 : c = 0 → ProofAns P 0 ∧ mayB s = true ∧ FOk P s.frames) (he : s.events.length * 8 ≤ 140737488351232) :
    Calls Tryd.prog 68 #[.agg #[v], sv] w fun e w' => ∃ cs, e = .returned (.tuple #[.agg cs, .int .i64 c]) ∧ (Tryd.prog.info? 29).map (·.size) = some cs.size ∧ zeroStCells.size = cs.size ∧ cs.all (·.oneCell') = true ∧ StAt w' w.heap.size (.agg cs) (nxtS P s c) ∧ Below w.heap.size w w' := by
  by_cases hc0 : c = 0
  · obtain ⟨hR, hm, hf⟩ := h0 hc0
    subst hc0
    refine (next_any P v sv s w ht hc hR hv hs (fun i hi => by obtain rfl : i = 0 := by omega
                                                               exact ⟨hm, hf⟩) (by omega)).mono ?_
    rintro e w' ⟨v', rfl, hst, hb⟩
    obtain ⟨cs, rfl, c1, c2, c3⟩ := hst.val.cells
    exact ⟨cs, rfl, c1, c2, c3, hst, hb⟩
  · refine (next_bad P v sv s c w ht hc hv hs hE hc0).mono ?_
    rintro e w' ⟨rfl, hb⟩
    refine ⟨zeroStCells, rfl, infoSt, rfl, zeroSt_one, ?_, hb⟩
    rw [show nxtS P s c = zeroSt from if_neg hc0]
    exact zero_stAt w' _
end Go.Proofs.YtndogdojcbcjgaaDoor
