/- What is torn is short, and what has a byte more is not in form. No walk. -/
import Derived.Test.YtjckpdeogbamjaaDoorShapeImm
namespace Go.Proofs.YtjckpdeogbamjaaDoor
open Go Go.RowKit

theorem getD_take (l : List Int) (k i : Nat) (h : i < k) : (l.take k).getD i 0 = l.getD i 0 := by
  simp [List.getD_eq_getElem?_getD, h]
theorem getD_app (l m : List Int) (i : Nat) (h : i < l.length) : (l ++ m).getD i 0 = l.getD i 0 := by
  rw [List.getD_eq_getElem?_getD, List.getD_eq_getElem?_getD, List.getElem?_append_left h]

/-- Bytes of which some at the end are torn off. -/
theorem torn_err (l : List Int) (he : endOf l = l.length) (hl : l.length ≤ 4000) (k : Nat) (hk : k < l.length) : decErr (l.take k) = 4 := by
  have hlen : (l.take k).length = k := by simp; omega
  have hs : k < endOf (l.take k) := by
    rcases Nat.lt_or_ge k (endOf (l.take k)) with h | h
    · exact h
    · have := endOf_agree (l.take k) l k (fun i hi => getD_take l k i hi) h
      omega
  unfold decErr
  rw [hlen, if_neg (by omega), if_pos hs]
theorem more_err (l : List Int) (t : Int) (he : endOf l = l.length) (hl : l.length ≤ 3999) : decErr (l ++ [t]) = 5 := by
  have h := endOf_agree l (l ++ [t]) l.length (fun i hi => (getD_app l [t] i hi).symm) (by omega)
  unfold decErr
  rw [h, List.length_append, List.length_singleton, if_neg (by omega), if_neg (by omega), if_pos (by omega)]

theorem bytes_take (l : List Int) (h : ∀ i, 0 ≤ l.getD i 0 ∧ l.getD i 0 ≤ 255) (k : Nat) : ∀ i, 0 ≤ (l.take k).getD i 0 ∧ (l.take k).getD i 0 ≤ 255 := by
  intro i
  rcases Nat.lt_or_ge i k with hi | hi
  · rw [getD_take l k i hi]; exact h i
  · rw [List.getD_eq_getElem?_getD, List.getElem?_eq_none (by simp; omega)]; simp
theorem bytes_more (l : List Int) (h : ∀ i, 0 ≤ l.getD i 0 ∧ l.getD i 0 ≤ 255) (t : Int) (ht : 0 ≤ t ∧ t ≤ 255) : ∀ i, 0 ≤ (l ++ [t]).getD i 0 ∧ (l ++ [t]).getD i 0 ≤ 255 := by
  intro i
  rcases Nat.lt_or_ge i l.length with hi | hi
  · rw [getD_app l [t] i hi]; exact h i
  · rcases Nat.eq_or_lt_of_le hi with e | e
    · subst e; simpa using ht
    · rw [List.getD_eq_getElem?_getD, List.getElem?_eq_none (by simp; omega)]; simp

/-- A slice of bytes, cut off behind so many. -/
theorem bytes_cut {w : World} {ao : Option Addr} {n cap : Nat} {l : List Int} (h : BytesVal w (.slice ao n cap) l) (k : Nat) (hk : k ≤ n) (hn : 0 < n) : BytesVal w (.slice ao k cap) (l.take k) := by
  obtain ⟨ao', n', cap', e, h1, h2, h3⟩ := h
  simp only [Value.slice.injEq] at e
  obtain ⟨rfl, rfl, rfl⟩ := e
  obtain ⟨b, off, rfl, hc⟩ := h3 hn
  exact ⟨_, k, cap, rfl, by simp; omega, fun h => by simp at h, fun _ => ⟨b, off, rfl, fun i hi => by rw [getD_take l k i hi]; exact hc i (by omega)⟩⟩

end Go.Proofs.YtjckpdeogbamjaaDoor
