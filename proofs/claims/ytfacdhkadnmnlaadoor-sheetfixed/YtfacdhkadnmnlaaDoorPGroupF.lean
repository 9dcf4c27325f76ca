import Derived.BigRegion
import Derived.Deep.DeepCutAuto
import Derived.Deep.LoopGhost
import Derived.Deep.RegionHeld3
import Derived.Deep.RegionWith
import Derived.Test.YtfacdhkadnmnlaaDoorProg
import Derived.WalkLawsBesides
import Derived.Test.YtfacdhkadnmnlaaDoorPGroupA
import Derived.Test.YtfacdhkadnmnlaaDoorPXOpen
namespace Go.Proofs.YtfacdhkadnmnlaaDoor
open Go Go.RowKit

theorem built_more {wx w3 : World} {base tF tI tP O : Nat} {vo u v3 : Value} {P : List Fn} {us : List Value} {f : Fn} (ht : tI ≠ tF) (hO : O < base)
  (hbt : Built wx base tF tI vo P us) (ho : wx.heap[O]? = some (.cells #[vo] tP (0, 0))) (hu : wx.ownsRow base tI 5 u f.code.length (codeCells f.code)) (hB : base ≤ wx.heap.size)
  (hg : wx.grownBy w3 vo.ownBlock) (hown3 : w3.ownsRow base tF 3 v3 (P.length + 1) (fnsCells P us ++ fnCells f u)) :
  w3.heap[O]? = some (.cells #[vo] tP (0, 0)) ∧ Built (w3.setCell ⟨O, 0, none⟩ v3) base tF tI v3 (P ++ [f]) (us ++ [u]) ∧ (w3.setCell ⟨O, 0, none⟩ v3).heap[O]? = some (.cells #[v3] tP (0, 0)) ∧
   ∀ B' W0, B' ≤ O → Below B' W0 wx → Below B' W0 (w3.setCell ⟨O, 0, none⟩ v3) := by
 have hrow : ∀ k, vo.ownBlock = some k → base ≤ k := fun k hk => (hbt.row.lt k hk).1
 have ho3 : w3.heap[O]? = some (.cells #[vo] tP (0, 0)) := (hg.block O (lt_of_block ho) (fun e => by have := hrow O e.symm; omega)).trans ho
 refine ⟨ho3, (hbt.snoc ht hu hown3 hg).setCell hO _, one_setCell ho3, fun B' W0 hB' h => ?_⟩
 exact (h.grown hg (by omega) (fun k hk => by have := hrow k hk; omega)).setCell hB' _
theorem built_base {w : World} {base base' tF tI : Nat} {v : Value} {p : List Fn} {us : List Value} (h : Built w base tF tI v p us) (hb : base' ≤ base) : Built w base' tF tI v p us :=
 ⟨h.len, own_base h.row hb, fun i hi => own_base (h.codes i hi) hb⟩
def CodesApart (us : List Value) : Prop := ∀ (i j : Nat) (u v : Value), us[i]? = some u → us[j]? = some v → i ≠ j → u.ownBlock = none ∨ u.ownBlock ≠ v.ownBlock
theorem codesApart_nil : CodesApart [] := fun i j u v hu _ _ => by simp at hu
theorem codesApart_snoc {us : List Value} {u : Value} (h : CodesApart us) (hu : ∀ v ∈ us, ∀ k, v.ownBlock = some k → u.ownBlock ≠ some k) : CodesApart (us ++ [u]) := by
 intro i j x y hx hy hij
 have get : ∀ (m : Nat) (z : Value), (us ++ [u])[m]? = some z → (m < us.length ∧ us[m]? = some z) ∨ (m = us.length ∧ z = u) := fun m z hz => by
  rcases Nat.lt_or_ge m us.length with h1 | h1
  ·rw [List.getElem?_append_left h1] at hz; exact Or.inl ⟨h1, hz⟩
  ·rw [List.getElem?_append_right h1] at hz
   rcases Nat.eq_zero_or_pos (m - us.length) with h2 | h2
   ·rw [h2] at hz; simp at hz; exact Or.inr ⟨by omega, hz.symm⟩
   ·rw [List.getElem?_eq_none (by simp; omega)] at hz; simp at hz
 rcases get i x hx with ⟨_, hx'⟩ | ⟨hi, hxu⟩ <;> rcases get j y hy with ⟨_, hy'⟩ | ⟨hj, hyu⟩
 ·exact h i j x y hx' hy' hij
 ·cases hb : x.ownBlock with
  | none => exact Or.inl rfl
  | some k => right; intro e; rw [hyu] at e; exact hu x (List.mem_of_getElem? hx') k hb e.symm
 ·cases hb : x.ownBlock with
  | none => exact Or.inl rfl
  | some k => right; intro e; rw [hxu] at hb; exact hu y (List.mem_of_getElem? hy') k e.symm hb
 ·omega
end Go.Proofs.YtfacdhkadnmnlaaDoor
