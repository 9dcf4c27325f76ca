import Derived.BigQuiet
import Derived.Deep.QuietTactic
import Derived.Test.YtldbmdgpdolaaaaGreatDoorPGroupC
namespace Go.Proofs.YtldbmdgpdolaaaaGreatDoor
open Go Go.RowKit

def placeB (P : List Fn) (f : Fr) : Bool := decide (0 ≤ f.fn ∧ f.fn < P.length ∧ 0 ≤ f.pc ∧ f.pc < ((P.getD f.fn.toNat ⟨0, 0, []⟩).code.length : Int))
def mayB (s : St) : Bool := decide (0 ≤ s.status ∧ s.status ≤ 5 ∧ 0 ≤ s.fuel ∧ s.fuel ≤ 10000 ∧ s.frames.length ≤ 8 ∧ s.answers.length ≤ 100 ∧ (s.status = 1 ↔ s.frames.length = 0) ∧ (s.status = 1 ∨ s.value = 0))
end Go.Proofs.YtldbmdgpdolaaaaGreatDoor
