/- The last frame of a state. -/
import Derived.Test.YtgdmdlkhnokieaaDoorGroupD
namespace Go.Proofs.YtgdmdlkhnokieaaDoor
open Go Go.RowKit

def topF (S : St) : Fr := S.frames.getLastD ⟨0, 0, []⟩
theorem topF_snoc {S : St} {fs : List Fr} {f : Fr} (h : S.frames = fs ++ [f]) : topF S = f := by unfold topF; rw [h]; simp
end Go.Proofs.YtgdmdlkhnokieaaDoor
