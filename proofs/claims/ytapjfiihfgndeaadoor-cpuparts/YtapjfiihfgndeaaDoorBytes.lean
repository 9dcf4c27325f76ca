/- Rows of bytes that a call has built. No program is named. -/
import Derived.Test.YtapjfiihfgndeaaDoorOwn
namespace Go.Proofs.YtapjfiihfgndeaaDoor
open Go Go.RowKit

def u8s (l : List Int) : List Value := l.map (Value.int .u8)
theorem u8s_length (l : List Int) : (u8s l).length = l.length := by simp [u8s]
theorem u8s_append (l m : List Int) : u8s (l ++ m) = u8s l ++ u8s m := by simp [u8s]
theorem u8s_one (l : List Int) : ∀ u ∈ u8s l, u.oneCell' = true := by
  intro u hu
  obtain ⟨x, _, rfl⟩ := List.mem_map.1 hu
  rfl

/-- The cells of a new block. -/
theorem news_list (w : World) (cs : List Value) (t g : Nat) (hg : g = w.heap.size) : ∀ (j : Nat) (u : Value), cs[j]? = some u → (w.alloc (.cells cs.toArray t)).cell? ((⟨g, 0, none⟩ : Addr).add j) = some u := by
  subst hg
  intro j u hu
  have e : (⟨w.heap.size, 0, none⟩ : Addr).add j = ⟨w.heap.size, j, none⟩ := by unfold Addr.add; split <;> simp_all
  rw [e, cell_of_row (w.alloc (.cells cs.toArray t)) w.heap.size j cs.toArray t (0, 0) (heap_alloc_new w _)]
  simpa using hu

/-- A block of another element type is no row of bytes. -/
theorem own_ne {w : World} {base t t' size n k : Nat} {v : Value} {xs : List Value} {cs : Array Value} {fr : Nat × Nat} (h : w.ownsRow base t size v n xs) (hk : w.heap[k]? = some (.cells cs t' fr)) (ht : t ≠ t') : some k ≠ v.ownBlock := by
  rcases h.2 with ⟨rfl, _⟩ | ⟨g, cap, cur, rfl, _, hg, _⟩
  · simp [Value.ownBlock]
  · simp only [Value.ownBlock]
    intro e
    obtain rfl : k = g := by simpa using e
    rw [hk] at hg
    simp at hg
    exact ht hg.2.1.symm

/-- A row grows: below its base all is as it was. -/
theorem grown_base {w w' : World} {base t size n : Nat} {v : Value} {xs : List Value} (h : w.ownsRow base t size v n xs) (hB : base ≤ w.heap.size) (hg : w.grownBy w' v.ownBlock) : Below base w w' :=
  (Below.refl _ _).grown hg hB (fun k hk => (h.lt k hk).1)

/-- A box was made, then a block, and a row of another element type grew: the box is as it was. -/
theorem append_box {wr w2 : World} {base t tX size n : Nat} {v : Value} {xs : List Value} {cX : Array Value} {oN : Obj} (hr : wr.ownsRow base t size v n xs) (hB : base ≤ wr.heap.size) (ht : t ≠ tX)
    (hg : ((wr.alloc (.cells cX tX)).alloc oN).grownBy w2 v.ownBlock) : w2.heap[wr.heap.size]? = some (.cells cX tX) ∧ Below base wr w2 := by
  have h1 : ((wr.alloc (.cells cX tX)).alloc oN).heap[wr.heap.size]? = some (.cells cX tX) := (heap_alloc_old _ _ (by simp)).trans (heap_alloc_new wr _)
  have hr2 := (hr.alloc (.cells cX tX)).alloc oN
  exact ⟨(hg.block _ (by simp; omega) (own_ne hr2 h1 ht)).trans h1, (((Below.refl _ _).alloc hB _).alloc (by simp; omega) _).trans (grown_base hr2 (by simp; omega) hg)⟩

/-- .. and so is an elder block of another element type. -/
theorem append_old {wr w2 : World} {base t tX size n k : Nat} {v : Value} {xs : List Value} {cX : Array Value} {fr : Nat × Nat} {o1 o2 : Obj} (hr : wr.ownsRow base t size v n xs) (hk : k < wr.heap.size) (ht : t ≠ tX)
    (hx : wr.heap[k]? = some (.cells cX tX fr)) (hg : ((wr.alloc o1).alloc o2).grownBy w2 v.ownBlock) : w2.heap[k]? = some (.cells cX tX fr) := by
  have h1 : ((wr.alloc o1).alloc o2).heap[k]? = some (.cells cX tX fr) := (heap_alloc_old _ _ (by simp; omega)).trans ((heap_alloc_old _ _ hk).trans hx)
  exact (hg.block _ (by simp; omega) (own_ne ((hr.alloc o1).alloc o2) h1 ht)).trans h1

theorem own_some {w : World} {base t size n : Nat} {v : Value} {xs : List Value} (h : w.ownsRow base t size v n xs) (hn : 0 < n) :
    ∃ g cap, v = .slice (some ⟨g, 0, none⟩) n cap ∧ ∀ (j : Nat) (u : Value), xs[j]? = some u → w.cell? ((⟨g, 0, none⟩ : Addr).add j) = some u := by
  have hc := @World.ownsRow.cells _ _ _ _ _ _ _ h
  rcases h.2 with ⟨_, h0⟩ | ⟨g, cap, cur, rfl, _⟩
  · omega
  · exact ⟨g, cap, rfl, hc rfl⟩

end Go.Proofs.YtapjfiihfgndeaaDoor
