/- Which blocks lead to a block. -/
import Derived.Test.YteilohamjijpbaaDoorXBlockFacts
namespace Go.Proofs.YteilohamjijpbaaDoor
open Go Go.RowKit

theorem pvI_mem (f : Fn) (S : List Nat) (T : Nat → Nat) (b i j : Nat) : ((j : Nat) : Int) ∈ pvI f S T b i ↔ j < b ∧ ((i : Nat) : Int) ∈ nxI f S (T j) := by
  unfold pvI
  rw [List.mem_append]
  constructor
  · rintro (h | h)
    · split at h
      · have := List.mem_singleton.1 h; omega
      · cases h
    · obtain ⟨x, hx, e⟩ := List.mem_map.1 h
      obtain rfl : x = j := by omega
      obtain ⟨h1, h2⟩ := List.mem_filter.1 hx
      exact ⟨List.mem_range.1 h1, by simpa using h2⟩
  · rintro ⟨h1, h2⟩
    exact Or.inr (List.mem_map.2 ⟨j, List.mem_filter.2 ⟨List.mem_range.2 h1, by simpa using h2⟩, rfl⟩)
theorem pvI_rises (f : Fn) (S : List Nat) (T : Nat → Nat) (b i : Nat) : (pvI f S T b i).Pairwise (· < ·) := by
  have h : (((List.range b).filter fun j => decide (((i : Nat) : Int) ∈ nxI f S (T j))).map fun j => ((j : Nat) : Int)).Pairwise (· < ·) := by
    rw [List.pairwise_map]
    exact (List.Pairwise.filter _ List.pairwise_lt_range).imp fun h => by omega
  unfold pvI
  by_cases h0 : i = 0
  · rw [if_pos h0]
    refine List.pairwise_cons.2 ⟨fun z hz => ?_, h⟩
    obtain ⟨x, -, e⟩ := List.mem_map.1 hz
    omega
  · rw [if_neg h0]
    exact h
theorem pvI_gap {f : Fn} {S : List Nat} {T : Nat → Nat} {b i q q' : Nat} (hq : q < (pvI f S T b i).length) (h : q' < q) : (pvI f S T b i).getD q' 0 < (pvI f S T b i).getD q 0 := by
  have := List.pairwise_iff_getElem.1 (pvI_rises f S T b i) q' q (by omega) hq h
  simpa [List.getD, hq, Nat.lt_trans h hq] using this
/-- Each block has one ahead of it, or the function's beginning. -/
theorem BlkOk.prev {P : List Fn} {f : Fn} (ok : FlowOk P f) {S : List Nat} {T : Nat → Nat} (h : BlkOk f S T) {i : Nat} (hi : i < S.length) : 0 < (pvI f S T S.length i).length := by
  by_cases h0 : i = 0
  · unfold pvI
    rw [if_pos h0, List.length_append]
    simp only [List.length_singleton]
    omega
  · have hpos := List.pairwise_iff_getElem.1 h.starts.rises 0 i (by omega) hi (by omega)
    rcases (h.starts.iff _).1 (List.getElem_mem hi) with e | ⟨pc, h1, h2, h3, h4⟩
    · omega
    · obtain ⟨j, hj⟩ := h.cover ok h2
      have hl : pc = T j - 1 := by
        by_cases he : pc = T j - 1
        · exact he
        · have := h.mid hj he; omega
      have hm : ((j : Nat) : Int) ∈ pvI f S T S.length i := (pvI_mem f S T S.length i j).2 ⟨hj.1, (nxI_mem f S (T j) _).2 ⟨S[i], by rw [← hl]; exact h4, by rw [rank_at h.starts.rises i hi]⟩⟩
      exact List.length_pos_of_mem hm
end Go.Proofs.YteilohamjijpbaaDoor
