/- tiers.Tidy and the document's Tidied answer the same at every program and state. -/
import Derived.Test.YteabbanjjdmjkaaDoorXTidyFace
import Derived.Test.YteabbanjjdmjkaaDoorXTidRef
namespace Go.Proofs.YteabbanjjdmjkaaDoor
open Go Go.RowKit

noncomputable def tidA (P : List Fn) (s : St) (c : Int) : St := if c = 0 then tidS P s else zeroSt
theorem tidyF_all (P : List Fn) (v sv : Value) (s : St) (c : Int) (w : World) (ht : TabOk w) (hc : CallOk w) (hv : ProgVal w v P) (hs : StVal w sv s) (hE : ∀ E, ProofAns P E → checkE E P s = c) (h0 : c = 0 → ProofAns P 0 ∧ mayB s = true ∧ FOk P s.frames) (he : s.events.length * 8 ≤ 140737488351232) :
    Calls Tryd.prog 24 #[.agg #[v], sv] w fun e w' => ∃ cs, e = .returned (.tuple #[.agg cs, .int .i64 c]) ∧ (Tryd.prog.info? 29).map (·.size) = some cs.size ∧ zeroStCells.size = cs.size ∧ cs.all (·.oneCell') = true ∧ StAt w' w.heap.size (.agg cs) (tidA P s c) ∧ Below w.heap.size w w' := by
  by_cases hc0 : c = 0
  · obtain ⟨hR, hm, hf⟩ := h0 hc0
    subst hc0
    refine (tidyF_ok P v sv s w ht hc hR hm hf hv hs he).mono ?_
    rintro e w' ⟨cs, rfl, hst, hb⟩
    obtain ⟨cs', hcs, c1, c2, c3⟩ := hst.at.val.cells
    obtain rfl := Value.agg.inj hcs
    exact ⟨cs, rfl, c1, c2, c3, by unfold tidA; rw [if_pos rfl]; exact hst.at, hb⟩
  · refine (tidyF_bad P v sv s c w ht hc hv hs hE hc0).mono ?_
    rintro e w' ⟨rfl, hb⟩
    exact ⟨zeroStCells, rfl, infoSt, rfl, zeroSt_one, by unfold tidA; rw [if_neg hc0]; exact zero_stAt _ _, hb⟩
theorem tidied_all (P : List Fn) (v sv : Value) (s : St) (c : Int) (w : World) (hv : ProgVal w v P) (hs : StVal w sv s) (hE : ∀ E, ProofAns P E → checkE E P s = c) (h0 : c = 0 → ProofAns P 0 ∧ mayB s = true ∧ FOk P s.frames) (h1 : s.frames.length * 112 ≤ 140737488351232) (h2 : s.events.length * 8 ≤ 140737488351232) (h3 : s.answers.length * 8 ≤ 140737488351232) :
    Calls Tryd.prog 25 #[.agg #[v], sv] w fun e w' => ∃ cs, e = .returned (.tuple #[.agg cs, .int .i64 c]) ∧ (Tryd.prog.info? 29).map (·.size) = some cs.size ∧ zeroStCells.size = cs.size ∧ cs.all (·.oneCell') = true ∧ StVal w' (.agg cs) (tidA P s c) ∧ Below w.heap.size w w' := by
  by_cases hc0 : c = 0
  · obtain ⟨hR, hm, hf⟩ := h0 hc0
    subst hc0
    refine (tidied_ok P v sv s w hR hf hE hv hs h1 (by omega) (by omega)).mono ?_
    rintro e w' ⟨cs, rfl, hst, hb⟩
    obtain ⟨cs', hcs, c1, c2, c3⟩ := hst.at.val.cells
    obtain rfl := Value.agg.inj hcs
    exact ⟨cs, rfl, c1, c2, c3, by unfold tidA; rw [if_pos rfl]; exact hst.at.val, hb⟩
  · refine (tidied_bad P v sv s c w hv hs hE hc0).mono ?_
    rintro e w' ⟨rfl, hb⟩
    exact ⟨zeroStCells, rfl, infoSt, rfl, zeroSt_one, by unfold tidA; rw [if_neg hc0]; exact zero_stVal _, hb⟩
end Go.Proofs.YteabbanjjdmjkaaDoor
