/- What holds of a loop's members: plain mathematics. -/
import Derived.Test.YtpkgibdbmmhgdaaDoorXFlowLps
namespace Go.Proofs.YtpkgibdbmmhgdaaDoor
open Go Go.RowKit

theorem range_filter_get (p : Nat → Bool) : ∀ (K j : Nat), j < ((List.range K).filter p).length → ∃ c, ((List.range K).filter p)[j]? = some c ∧ c < K ∧ p c = true ∧ (∀ j', j' < j → ∃ c', ((List.range K).filter p)[j']? = some c' ∧ c' < c) := by
  intro K j hj
  have hs : ((List.range K).filter p).Pairwise (· < ·) := List.Pairwise.filter _ List.pairwise_lt_range
  refine ⟨((List.range K).filter p)[j], List.getElem?_eq_getElem hj, ?_, ?_, fun j' hj' => ⟨((List.range K).filter p)[j'], List.getElem?_eq_getElem (by omega), ?_⟩⟩
  · exact List.mem_range.1 (List.mem_filter.1 (List.getElem_mem hj)).1
  · exact (List.mem_filter.1 (List.getElem_mem hj)).2
  · exact List.pairwise_iff_getElem.1 hs j' j (by omega) hj hj'
theorem memL_get {I : List Bool} {head K j : Nat} (hj : j < (memL I head K).length) (h1 : 1 ≤ j) : ∃ c : Nat, (memL I head K).getD j 0 = (c : Int) ∧ c < K ∧ I.getD c false = true ∧ c ≠ head ∧ (2 ≤ j → (memL I head K).getD (j - 1) 0 < (c : Int)) := by
  obtain ⟨j', rfl⟩ : ∃ j', j = j' + 1 := ⟨j - 1, by omega⟩
  unfold memL at hj ⊢
  rw [List.length_cons, List.length_map] at hj
  obtain ⟨c, h2, h3, h4, h5⟩ := range_filter_get (fun b => I.getD b false && b != head) K j' (by omega)
  simp only [Bool.and_eq_true, bne_iff_ne, ne_eq] at h4
  refine ⟨c, ?_, h3, h4.1, h4.2, fun h6 => ?_⟩
  · rw [List.getD_eq_getElem?_getD, List.getElem?_cons_succ, List.getElem?_map, h2]; rfl
  · obtain ⟨c', e, hlt⟩ := h5 (j' - 1) (by omega)
    have e2 : j' + 1 - 1 = (j' - 1) + 1 := by omega
    rw [e2]
    rw [List.getD_eq_getElem?_getD, List.getElem?_cons_succ, List.getElem?_map, e]
    show ((c' : Nat) : Int) < (c : Int)
    omega
theorem memL_mem {I : List Bool} {head K p : Nat} (hp : p < K) (h : I.getD p false = true) : ((p : Nat) : Int) ∈ memL I head K := by
  unfold memL
  by_cases e : p = head
  · rw [e]; exact List.mem_cons_self
  · exact List.mem_cons_of_mem _ (List.mem_map.2 ⟨p, List.mem_filter.2 ⟨List.mem_range.2 hp, by simp only [Bool.and_eq_true, bne_iff_ne, ne_eq]; exact ⟨h, e⟩⟩, rfl⟩)
/-- What LoopsHeads asks of one loop. -/
structure LoopFine (pv : Nat → List Nat) (K hd : Nat) (L : List Int) : Prop where
  head : hd < K
  first : L.getD 0 0 = (hd : Int)
  some : 0 < L.length
  few : L.length ≤ K + 1
  each : ∀ j, j < L.length → ∃ c : Nat, L.getD j 0 = (c : Int) ∧ c < K ∧ Dom pv hd c ∧ (2 ≤ j → L.getD (j - 1) 0 < (c : Int)) ∧ (1 ≤ j → 1 ≤ c ∧ ∀ p ∈ pv c, ((p : Nat) : Int) ∈ L)
theorem LoopIs.fine {pv : Nat → List Nat} {K hd b : Nat} {L : List Int} (hp : ∀ b p, p ∈ pv b → p < K) (hh : hd < K) (hd' : Dom pv hd b) (h : LoopIs pv K hd b L) : LoopFine pv K hd L := by
  obtain ⟨I, hI, rfl⟩ := h
  refine ⟨hh, rfl, by simp [memL], memL_len I hd K, fun j hj => ?_⟩
  rcases Nat.eq_zero_or_pos j with rfl | h1
  · exact ⟨hd, rfl, hh, Dom.self pv hd, fun h => by omega, fun h => by omega⟩
  · obtain ⟨c, e1, e2, e3, e4, e5⟩ := memL_get hj h1
    have hB : Back pv hd b c := (hI.done c).1 e3 |>.resolve_left e4
    refine ⟨c, e1, e2, hB.dom hd', e5, fun _ => ⟨?_, fun p hpc => ?_⟩⟩
    · rcases Nat.eq_zero_or_pos c with rfl | h0
      · exact absurd (hB.first hd').symm e4
      · exact h0
    · exact memL_mem (hp c p hpc) ((hI.shut c e3 e4 p hpc).resolve_right (by simp))
/-- One step up from below the head. -/
theorem near_head {pv : Nat → List Nat} {K i hd : Nat} {z : Int} (hc : ∀ b, b < K → Come pv b) (h : NearTo pv i K z) (hi : i < K) (h1 : 1 ≤ i) (hh : hd < K) (hne : i ≠ hd) (hd' : Dom pv hd i) : ∃ a : Nat, z = (a : Int) ∧ a < K ∧ domCt pv a K < domCt pv i K ∧ Dom pv hd a := by
  obtain ⟨a, e, ha, hne', hd2, hall⟩ := h.above (by omega) (by omega)
  refine ⟨a, e, ha, domCt_lt (e := i) (fun d hda => hda.trans hd2) (Dom.self pv i) (fun h => hne' (Dom.anti (hc a ha) hd2 h)) K hi, hall hd hh (fun e => hne e.symm) hd'⟩
theorem dom_first {pv : Nat → List Nat} {hd : Nat} (h : Dom pv hd 0) : hd = 0 := by
  by_cases h0 : 0 = hd
  · exact h0.symm
  · exact absurd (WayB.start h0) h
end Go.Proofs.YtpkgibdbmmhgdaaDoor
