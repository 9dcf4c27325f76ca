/- How far a run still has to go, read out of the box of its state (for the document's RunOf). -/
import Derived.Test.YtndogdojcbcjgaaDoorXRunFits
import Derived.Test.YtndogdojcbcjgaaDoorGroupK
namespace Go.Proofs.YtndogdojcbcjgaaDoor
open Go Go.RowKit

/-- Steps that a state may still do. -/
def measS (S : St) : Nat := if S.status = 0 then S.fuel.toNat + 1 else 0
/-- The same, read out of a box. -/
def measW (w : World) (b : Nat) : Nat :=
  match w.cell? ⟨b, 0, none⟩, w.cell? ⟨b, 19, none⟩ with
  | some (.int _ st), some (.int _ fu) => if st = 0 then fu.toNat + 1 else 0
  | _, _ => 0
theorem measW_eq {w : World} {b : Nat} {S : St} (h0 : w.cell? ⟨b, 0, none⟩ = some (.int .i64 S.status)) (h1 : w.cell? ⟨b, 19, none⟩ = some (.int .i64 S.fuel)) : measW w b = measS S := by
  unfold measW; rw [h0, h1]; rfl
theorem stepS_meas {P : List Fn} {S : St} (hs : S.status = 0) (hf : 0 ≤ S.fuel) (hne : S.frames ≠ []) : measS (stepS P S) < measS S := by
  unfold measS
  rw [if_pos hs]
  rcases stepS_fuel P S hne with ⟨h1, h2⟩ | ⟨_, h2⟩
  · by_cases h3 : (stepS P S).status = 0
    · rw [if_pos h3, h1]; omega
    · rw [if_neg h3]; omega
  · rw [if_neg h2]; omega
end Go.Proofs.YtndogdojcbcjgaaDoor
