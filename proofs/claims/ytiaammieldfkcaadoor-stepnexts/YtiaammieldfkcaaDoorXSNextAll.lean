/- What step.Next and the document's Nexted answer at every program and state. -/
import Derived.Test.YtiaammieldfkcaaDoorXSNextRun
namespace Go.Proofs.YtiaammieldfkcaaDoor
open Go Go.RowKit

/-- The state that is answered. -/
def nxtS (P : List Fn) (s : St) (c : Int) : St := if c = 0 then walkS P 1 s else zeroSt
theorem check_num (P : List Fn) (s : St) : ∃ c, (∀ E, ProofAns P E → checkE E P s = c) ∧ (c = 0 → ProofAns P 0 ∧ mayB s = true ∧ FOk P s.frames) := by
  by_cases h : ∃ E, ProofAns P E
  · obtain ⟨E, hE⟩ := h
    refine ⟨checkE E P s, fun E' hE' => by rw [proofAns_unique hE' hE], fun h0 => ?_⟩
    unfold checkE at h0
    by_cases e : E = 0
    · subst e
      rw [if_neg (by simp)] at h0
      by_cases hm : (mayB s && framesB P s.frames) = true
      · have := Bool.and_eq_true_iff.1 hm
        exact ⟨hE, this.1, (framesB_iff P s.frames).1 this.2⟩
      · rw [if_neg hm] at h0; omega
    · rw [if_pos e] at h0; exact absurd h0 e
  · exact ⟨1, fun E hE => absurd ⟨E, hE⟩ h, fun h0 => by omega⟩
theorem next_all (P : List Fn) (v sv : Value) (s : St) (c : Int) (w : World) (ht : TabOk w) (hc : CallOk w) (hv : ProgVal w v P) (hs : StVal w sv s) (hE : ∀ E, ProofAns P E → checkE E P s = c) (h0 : c = 0 → ProofAns P 0 ∧ mayB s = true ∧ FOk P s.frames) (he : s.events.length * 8 ≤ 140737488351232) :
    Calls Tryd.prog 8 #[.agg #[v], sv] w fun e w' => ∃ cs, e = .returned (.tuple #[.agg cs, .int .i64 c]) ∧ (Tryd.prog.info? 29).map (·.size) = some cs.size ∧ zeroStCells.size = cs.size ∧ cs.all (·.oneCell') = true ∧ StAt w' w.heap.size (.agg cs) (nxtS P s c) ∧ Below w.heap.size w w' := by
  by_cases hc0 : c = 0
  · obtain ⟨hR, hm, hf⟩ := h0 hc0
    subst hc0
    refine (next_any P v sv s w ht hc hR hv hs (fun i hi => by obtain rfl : i = 0 := by omega
                                                               exact ⟨hm, hf⟩) (by omega)).mono ?_
    rintro e w' ⟨v', rfl, hst, hb⟩
    obtain ⟨cs, rfl, c1, c2, c3⟩ := hst.val.cells
    exact ⟨cs, rfl, c1, c2, c3, hst, hb⟩
  · refine (next_bad P v sv s c w ht hc hv hs hE hc0).mono ?_
    rintro e w' ⟨rfl, hb⟩
    refine ⟨zeroStCells, rfl, infoSt, rfl, zeroSt_one, ?_, hb⟩
    rw [show nxtS P s c = zeroSt from if_neg hc0]
    exact zero_stAt w' _
theorem nexted_all (P : List Fn) (v sv : Value) (s : St) (c : Int) (w : World) (hv : ProgVal w v P) (hs : StVal w sv s) (hE : ∀ E, ProofAns P E → checkE E P s = c) (h0 : c = 0 → ProofAns P 0 ∧ mayB s = true ∧ FOk P s.frames) (h1 : s.frames.length * 112 ≤ 140737488351232) (h2 : s.events.length * 8 ≤ 140737488351232) (h3 : s.answers.length * 8 ≤ 140737488351232) (hr : ∀ f ∈ s.frames, ∀ z ∈ f.regs, Fits z) :
    Calls Tryd.prog 10 #[.agg #[v], sv] w fun e w' => ∃ cs, e = .returned (.tuple #[.agg cs, .int .i64 c]) ∧ (Tryd.prog.info? 29).map (·.size) = some cs.size ∧ zeroStCells.size = cs.size ∧ cs.all (·.oneCell') = true ∧ StVal w' (.agg cs) (nxtS P s c) ∧ Below w.heap.size w w' := by
  by_cases hc0 : c = 0
  · obtain ⟨hR, hm, hf⟩ := h0 hc0
    subst hc0
    have hmm : 0 ≤ s.status ∧ s.status ≤ 5 ∧ 0 ≤ s.fuel ∧ s.fuel ≤ 10000 ∧ s.frames.length ≤ 8 ∧ s.answers.length ≤ 100 ∧ (s.status = 1 ↔ s.frames.length = 0) ∧ (s.status = 1 ∨ s.value = 0) := by simpa [mayB] using hm
    by_cases hst : s.status = 0
    · have hne : s.frames ≠ [] := fun h => by
        have h7 := hmm.2.2.2.2.2.2.1
        rw [h] at h7
        have := h7.2 rfl
        omega
      obtain ⟨fs, f, hfs⟩ : ∃ fs f, s.frames = fs ++ [f] := ⟨s.frames.dropLast, s.frames.getLast hne, (List.dropLast_concat_getLast hne).symm⟩
      have hok : StepOk P s fs f := ⟨hfs, hst, right_zero hR, hf.place f (by rw [hfs]; simp), fun c hc => hf.place c (by rw [hfs]; exact List.mem_append_left _ (List.mem_of_getLast? hc)), hmm.2.2.2.2.1, hmm.2.2.1, hmm.2.2.2.1, h2, hmm.2.2.2.2.2.1, fun r => by
        by_cases hr2 : r < f.regs.length
        · have e : f.regs.getD r 0 = f.regs[r] := by simp [List.getD, hr2]
          rw [e]; exact hr f (by rw [hfs]; simp) _ (List.getElem_mem hr2)
        · have e : f.regs.getD r 0 = 0 := by simp [List.getD, List.getElem?_eq_none (show f.regs.length ≤ r by omega)]
          rw [e]; unfold Fits; omega⟩
      refine (nexted_run P v sv s w hv hs hE fs f hok).mono ?_
      rintro e w' hP
      obtain ⟨v', rfl, hsv, hb⟩ := hP
      obtain ⟨cs, rfl, c1, c2, c3⟩ := hsv.cells
      refine ⟨cs, rfl, c1, c2, c3, ?_, hb⟩
      rw [show nxtS P s 0 = stepS P s by unfold nxtS; rw [if_pos rfl]; show (if s.status = 0 then walkS P 0 (stepS P s) else s) = _; rw [if_pos hst]; rfl]
      exact hsv
    · refine (nexted_stop P v sv s w hv hs hE hst h1 h2 h3).mono ?_
      rintro e w' hP
      obtain ⟨v', rfl, hsv, hb⟩ := hP
      obtain ⟨cs, rfl, c1, c2, c3⟩ := hsv.cells
      refine ⟨cs, rfl, c1, c2, c3, ?_, hb⟩
      rw [show nxtS P s 0 = s by unfold nxtS; rw [if_pos rfl]; exact walkS_stays P 1 s hst]
      exact hsv
  · refine (nexted_bad P v sv s c w hv hs hE hc0).mono ?_
    rintro e w' ⟨rfl, hb⟩
    refine ⟨zeroStCells, rfl, infoSt, rfl, zeroSt_one, ?_, hb⟩
    rw [show nxtS P s c = zeroSt from if_neg hc0]
    exact zero_stVal w'
end Go.Proofs.YtiaammieldfkcaaDoor
