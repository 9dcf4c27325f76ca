/- A region that draws its order, and whose two last operations wait for all others: the others come first, in whatever order, then these two. No program is named. -/
import Derived.Test.YtapjfiihfgndeaaDoorTail
namespace Go.Proofs.YtapjfiihfgndeaaDoor
open Go

theorem wp_region_last2 {P : Program} {ops : Array Oper} {Q : Exit → Act → World → Prop} {S : World → Prop} (id n : Nat) {o1 o2 : Oper} {a : Act} {w : World} (hm : P.follows .mixedOrders = true) (hb2 : lastB .any ops (n + 1) = true) (ho2 : ops[n + 1]? = some o2)
    (hb1 : lastB .any ops.pop n = true) (ho1 : ops.pop[n]? = some o1) (hS : S w.drew) (h : S w.drew → wpAnyH P .any ops.pop.pop (lastPost P o1 (lastPost P o2 Q)) S n (Array.replicate n false) a w.drew) : (Code.region id ops true).wp P Q a w := by
  have L2 := Last.of hb2 ho2
  have L1 := Last.of hb1 ho1
  refine wp_region_any hm ?_
  have h1 := wpAny_last L1 n (Array.replicate n false) a w.drew (by simp) (fun j oj hj _ hlj => by simp [hj] at hlj) (wpAny_of_held n _ a _ (h hS))
  rw [← Array.replicate_succ] at h1
  have h2 := wpAny_last L2 (n + 1) (Array.replicate (n + 1) false) a w.drew (by simp) (fun j oj hj _ hlj => by simp [hj] at hlj) h1
  rw [← Array.replicate_succ, ← L2.size] at h2
  exact h2
end Go.Proofs.YtapjfiihfgndeaaDoor
