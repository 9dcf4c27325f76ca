/- Contracts of step.hasPlace and step.mayBe. -/
import Derived.Test.YtdpaohmaafngkaaDoorGroupC
import Derived.BigQuiet
import Derived.Deep.QuietTactic
namespace Go.Proofs.YtdpaohmaafngkaaDoor
open Go Go.RowKit

/-- Is a frame at a place of the program? -/
def placeB (P : List Fn) (f : Fr) : Bool := decide (0 ≤ f.fn ∧ f.fn < P.length ∧ 0 ≤ f.pc ∧ f.pc < ((P.getD f.fn.toNat ⟨0, 0, []⟩).code.length : Int))

theorem prog_code {w : World} {v : Value} {P : List Fn} (hv : ProgVal w v P) {k : Nat} (hk : k < P.length) :
    ∃ b off cap a1 cap1, v = .slice (some ⟨b, off, none⟩) P.length cap ∧ w.cell? ⟨b, off + k * 3 + 2, none⟩ = some (.slice a1 P[k].code.length cap1) ∧ P.length ≤ cap ∧ cap ≤ 9223372036854775807 := by
  obtain ⟨ao, b, off, n, cap, rfl, ⟨hlen, haddr, hat⟩, hcap, hmax⟩ := hv
  subst hlen
  obtain rfl := haddr (by omega)
  obtain ⟨u, d0, d1, d2, hcv⟩ := hat k hk
  obtain ⟨ao1, b1, off1, n1, cap1, rfl, ⟨hlen1, haddr1, hat1⟩, hc1, hmax1⟩ := hcv
  subst hlen1
  exact ⟨b, off, cap, ao1, cap1, rfl, d2, hcap.1, by simpa [maxLen] using hmax⟩

/-- What must hold of a state, whatever its program is. -/
def mayB (s : St) : Bool := decide (0 ≤ s.status ∧ s.status ≤ 5 ∧ 0 ≤ s.fuel ∧ s.fuel ≤ 10000 ∧ s.frames.length ≤ 8 ∧ s.answers.length ≤ 100 ∧ (s.status = 1 ↔ s.frames.length = 0) ∧ (s.status = 1 ∨ s.value = 0))
end Go.Proofs.YtdpaohmaafngkaaDoor
