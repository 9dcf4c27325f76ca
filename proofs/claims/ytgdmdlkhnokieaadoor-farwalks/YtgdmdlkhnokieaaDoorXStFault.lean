/- Contract of the document's StateFault (package tierlineref): which states may be. -/
import Derived.Test.YtgdmdlkhnokieaaDoorGroupD
import Derived.Test.YtgdmdlkhnokieaaDoorGroupW
import Derived.Test.YtgdmdlkhnokieaaDoorXStValAt
import Derived.Test.YtgdmdlkhnokieaaDoorGroupB
import Derived.BigQuiet
namespace Go.Proofs.YtgdmdlkhnokieaaDoor
open Go Go.RowKit

/-- What the document asks of one frame. -/
def frokI (P : List Fn) (fs : List Fr) (i : Nat) : Prop := placeB P (frOf fs i) = true ∧ (i = 0 ∨ ((insOfFr P (frOf fs (i - 1))).op = 17 ∧ (insOfFr P (frOf fs (i - 1))).imm = (frOf fs i).fn))
theorem frok_all {P : List Fn} {fs : List Fr} (h : ∀ i, i < fs.length → frokI P fs i) : framesB P fs = true := by
  rw [framesB_iff]
  refine ⟨fun f hf => ?_, fun k f g h1 h2 => ?_⟩
  · obtain ⟨i, hi, rfl⟩ := List.getElem_of_mem hf
    have := (h i hi).1
    rwa [frOf_get hi] at this
  · obtain ⟨hk1, rfl⟩ := List.getElem?_eq_some_iff.1 h2
    obtain ⟨hk0, rfl⟩ := List.getElem?_eq_some_iff.1 h1
    rcases (h (k + 1) hk1).2 with h0 | h0
    · omega
    · rw [show k + 1 - 1 = k by omega, frOf_get hk0, frOf_get hk1] at h0
      exact h0
theorem frok_none {P : List Fn} {fs : List Fr} {i : Nat} (hi : i < fs.length) (h : ¬ frokI P fs i) : framesB P fs = false := by
  cases hb : framesB P fs with
  | false => rfl
  | true =>
    rw [framesB_iff] at hb
    refine absurd ⟨?_, ?_⟩ h
    · rw [frOf_get hi]; exact hb.place _ (List.getElem_mem hi)
    · rcases Nat.eq_zero_or_pos i with h0 | h0
      · exact Or.inl h0
      · right
        have h1 : i - 1 < fs.length := by omega
        have := hb.calls (i - 1) fs[i - 1] fs[i] (List.getElem?_eq_getElem h1) (by rw [show i - 1 + 1 = i by omega]; exact List.getElem?_eq_getElem hi)
        rw [frOf_get h1, frOf_get hi]; exact this

end Go.Proofs.YtgdmdlkhnokieaaDoor
