/- Contract of tierlinekeep.shaped: a program of raw numbers, in memory of its own. -/
import Derived.Test.YtepnhemlhogmgaaDoorFunc
namespace Go.Proofs.YtepnhemlhogmgaaDoor
open Go Go.RowKit

/-- One function more, laid beside the others; the variable that leads to them was set. -/
theorem built_more {wx w3 : World} {base tF tI tP O : Nat} {vo u v3 : Value} {P : List Fn} {us : List Value} {f : Fn} (ht : tI ≠ tF) (hO : O < base)
    (hbt : Built wx base tF tI vo P us) (ho : wx.heap[O]? = some (.cells #[vo] tP (0, 0))) (hu : wx.ownsRow base tI 5 u f.code.length (codeCells f.code)) (hB : base ≤ wx.heap.size)
    (hg : wx.grownBy w3 vo.ownBlock) (hown3 : w3.ownsRow base tF 3 v3 (P.length + 1) (fnsCells P us ++ fnCells f u)) :
    w3.heap[O]? = some (.cells #[vo] tP (0, 0)) ∧ Built (w3.setCell ⟨O, 0, none⟩ v3) base tF tI v3 (P ++ [f]) (us ++ [u]) ∧ (w3.setCell ⟨O, 0, none⟩ v3).heap[O]? = some (.cells #[v3] tP (0, 0)) ∧
      ∀ B' W0, B' ≤ O → Below B' W0 wx → Below B' W0 (w3.setCell ⟨O, 0, none⟩ v3) := by
  have hrow : ∀ k, vo.ownBlock = some k → base ≤ k := fun k hk => (hbt.row.lt k hk).1
  have ho3 : w3.heap[O]? = some (.cells #[vo] tP (0, 0)) := (hg.block O (lt_of_block ho) (fun e => by have := hrow O e.symm; omega)).trans ho
  refine ⟨ho3, (hbt.snoc ht hu hown3 hg).setCell hO _, one_setCell ho3, fun B' W0 hB' h => ?_⟩
  exact (h.grown hg (by omega) (fun k hk => by have := hrow k hk; omega)).setCell hB' _

theorem built_base {w : World} {base base' tF tI : Nat} {v : Value} {p : List Fn} {us : List Value} (h : Built w base tF tI v p us) (hb : base' ≤ base) : Built w base' tF tI v p us :=
  ⟨h.len, own_base h.row hb, fun i hi => own_base (h.codes i hi) hb⟩

/-- The codes of a built program lie in blocks of their own. -/
def CodesApart (us : List Value) : Prop := ∀ (i j : Nat) (u v : Value), us[i]? = some u → us[j]? = some v → i ≠ j → u.ownBlock = none ∨ u.ownBlock ≠ v.ownBlock
theorem codesApart_nil : CodesApart [] := fun i j u v hu _ _ => by simp at hu
theorem codesApart_snoc {us : List Value} {u : Value} (h : CodesApart us) (hu : ∀ v ∈ us, ∀ k, v.ownBlock = some k → u.ownBlock ≠ some k) : CodesApart (us ++ [u]) := by
  intro i j x y hx hy hij
  have get : ∀ (m : Nat) (z : Value), (us ++ [u])[m]? = some z → (m < us.length ∧ us[m]? = some z) ∨ (m = us.length ∧ z = u) := fun m z hz => by
    rcases Nat.lt_or_ge m us.length with h1 | h1
    · rw [List.getElem?_append_left h1] at hz; exact Or.inl ⟨h1, hz⟩
    · rw [List.getElem?_append_right h1] at hz
      rcases Nat.eq_zero_or_pos (m - us.length) with h2 | h2
      · rw [h2] at hz; simp at hz; exact Or.inr ⟨by omega, hz.symm⟩
      · rw [List.getElem?_eq_none (by simp; omega)] at hz; simp at hz
  rcases get i x hx with ⟨_, hx'⟩ | ⟨hi, hxu⟩ <;> rcases get j y hy with ⟨_, hy'⟩ | ⟨hj, hyu⟩
  · exact h i j x y hx' hy' hij
  · cases hb : x.ownBlock with
    | none => exact Or.inl rfl
    | some k => right; intro e; rw [hyu] at e; exact hu x (List.mem_of_getElem? hx') k hb e.symm
  · cases hb : x.ownBlock with
    | none => exact Or.inl rfl
    | some k => right; intro e; rw [hxu] at hb; exact hu y (List.mem_of_getElem? hy') k e.symm hb
  · omega
/-- A code that lies in new memory is none of the others'. -/
theorem codesApart_new {w w1 : World} {base base1 tF tI m : Nat} {vo u : Value} {P : List Fn} {us : List Value} {xs : List Value} (hbt : Built w base tF tI vo P us) (ha : CodesApart us) (hu : w1.ownsRow base1 tI 5 u m xs) (hb : w.heap.size ≤ base1) : CodesApart (us ++ [u]) :=
  codesApart_snoc ha fun v hv k hk e => by
    obtain ⟨i, hi⟩ := List.getElem?_of_mem hv
    have hil : i < us.length := (List.getElem?_eq_some_iff.1 hi).1
    have hip : i < P.length := by rw [← hbt.len]; exact hil
    have h1 := hbt.codes i hip
    have e1 : us[i] = v := by rw [List.getElem?_eq_getElem hil] at hi; exact Option.some.inj hi
    rw [e1] at h1
    have h2 := (h1.lt k hk).2
    have h3 := (hu.lt k e).1
    omega

/-- The body at a place; none: an empty one. -/
def bodyAt (l : List Fn) (i : Nat) : Fn := l.getD i ⟨0, 0, []⟩
def shapedN (l : List Fn) : Nat := min (max l.length 1) 4
def shapedPart (l : List Fn) (N k : Nat) : List Fn := (List.range k).map fun i => mkFn (bodyAt l i) N
theorem shapedPart_length (l : List Fn) (N k : Nat) : (shapedPart l N k).length = k := by simp [shapedPart]
theorem shapedPart_succ (l : List Fn) (N k : Nat) : shapedPart l N (k + 1) = shapedPart l N k ++ [mkFn (bodyAt l k) N] := by simp [shapedPart, List.range_succ]
def shapedP (l : List Fn) : List Fn := shapedPart l (shapedN l) (shapedN l)

end Go.Proofs.YtepnhemlhogmgaaDoor
