/- A statement that draws its order, whose own operations only read and whose callees leave all old memory alone: one walk in the order of the text serves every order. No program is named. -/
import Derived.Test.YtapjfiihfgndeaaDoorMem
import Derived.Deep.QuietTactic
import Derived.BigQuiet
namespace Go.Proofs.YtapjfiihfgndeaaDoor
open Go Go.RowKit

theorem ProgVal.shape {w : World} {v : Value} {p : List Fn} (h : ProgVal w v p) : ∃ ao n cap, v = .slice ao n cap := by
  obtain ⟨ao, b, off, n, cap, rfl, _⟩ := h
  exact ⟨ao, n, cap, rfl⟩

/-- A world in which all that was there is as it was. -/
structure Later (w : World) where
  to : World
  below : Below w.heap.size w to
instance (w : World) : Inhabited (Later w) := ⟨⟨w, Below.refl _ _⟩⟩
theorem Later.cell {w : World} {a : Addr} {v : Value} (h : w.cell? a = some v) (d : Later w) : d.to.cell? a = some v := keeps_below d.below _ _ h
theorem Later.size {w : World} (d : Later w) : w.heap.size ≤ d.to.heap.size := d.below.size
def Later.next {w w' : World} (d : Later w) (h : Below d.to.heap.size d.to w') : Later w := ⟨w', d.below.trans (h.mono d.size)⟩

theorem wp_region_later {P : Program} {id : Nat} {Q : Exit → Act → World → Prop} {a : Act} {w : World} {l : List Oper} (hm : P.follows .mixedOrders = true) (hB : Region.lexB .any l.toArray = true)
    (h : wpQuiet P l.toArray (fun w' => ∃ d : Later w, w' = d.to) (fun a' => ∀ w', (∃ d : Later w, w' = d.to) → Q .normal a' w') l a) : (Code.region id l.toArray true).wp P Q a w :=
  wp_region_quiet (C := fun w' => ∃ d : Later w, w' = d.to) hm hB ⟨⟨_, (Below.refl _ _).drew⟩, rfl⟩ (by simpa using h)

theorem calls_later {P : Program} {f : FuncId} {args : Array Value} {w : World} {d : Later w} {v : Value}
    (h : Calls P f args d.to fun e w' => e = .returned v ∧ Below d.to.heap.size d.to w') : Calls P f args d.to fun e w'' => e = .returned v ∧ ∃ d' : Later w, w'' = d'.to :=
  h.mono fun _ _ ⟨he, hb⟩ => ⟨he, d.next hb, rfl⟩
theorem calls_later_same {P : Program} {f : FuncId} {args : Array Value} {w : World} {d : Later w} {v : Value}
    (h : Calls P f args d.to fun e w' => e = .returned v ∧ w' = d.to) : Calls P f args d.to fun e w'' => e = .returned v ∧ ∃ d' : Later w, w'' = d'.to :=
  h.mono fun _ _ ⟨he, hb⟩ => ⟨he, d, hb⟩

end Go.Proofs.YtapjfiihfgndeaaDoor
