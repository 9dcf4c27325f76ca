import Derived.Test.YtfacdhkadnmnlaaDoorPXSheetMath
namespace Go.Proofs.YtfacdhkadnmnlaaDoor
open Go

/-! What is shown is read as it was. -/
theorem opIx_word (k : Nat) (h1 : 1 ≤ k) (h2 : k < 20) : opIx (wordL.getD k []) = k := by
 have hall : ∀ j, j < 20 → 1 ≤ j → opIx (wordL.getD j []) = j := by decide
 exact hall k h2 h1
end Go.Proofs.YtfacdhkadnmnlaaDoor
