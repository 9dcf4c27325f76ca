import Derived.RangeFuncOwn
import Derived.Test.YtfacdhkadnmnlaaDoorPXSRead2
import Derived.Test.YtfacdhkadnmnlaaDoorPGroupF
import Derived.Test.YtfacdhkadnmnlaaDoorPGroupB
namespace Go.Proofs.YtfacdhkadnmnlaaDoor
open Go Go.RowKit

structure Went (O : Nat) (w w' : World) : Prop where
 below : Below O w w'
 others : KeepsOthers w w'
theorem Went.refl (O : Nat) (w : World) : Went O w w := ⟨Below.refl _ _, KeepsOthers.refl _⟩
theorem Went.trans {O : Nat} {a b c : World} (h : Went O a b) (k : Went O b c) : Went O a c := ⟨h.below.trans k.below, h.others.trans k.others⟩
theorem others_below {w w' : World} (h : Below w.heap.size w w') : KeepsOthers w w' := ⟨h.size, fun k _ hk _ => (h.block k (Array.getElem?_eq_some_iff.1 hk).1).trans hk⟩
theorem Went.of_below {O : Nat} {w w' : World} (h : Below w.heap.size w w') (hO : O ≤ w.heap.size) : Went O w w' := ⟨h.mono hO, others_below h⟩
theorem Went.alloc {O : Nat} {w : World} (hO : O ≤ w.heap.size) (o : Obj) : Went O w (w.alloc o) := ⟨(Below.refl _ _).alloc hO o, KeepsOthers.alloc _ _⟩
theorem Went.drew {O : Nat} (w : World) : Went O w w.drew := ⟨(Below.refl _ _).drew, ⟨Nat.le_refl _, fun _ _ h _ => h⟩⟩
theorem Went.set {O : Nat} {w : World} {p : Addr} (hp : O ≤ p.block) (v : Value) : Went O w (w.setCell p v) := ⟨(Below.refl _ _).setCell hp v, KeepsOthers.setCell _ _ _⟩
theorem Went.grown {O : Nat} {w w' : World} {row : Option Nat} (hg : w.grownBy w' row) (hO : O ≤ w.heap.size) (hr : ∀ k, row = some k → O ≤ k ∧ ∃ cs t fr, w.heap[k]? = some (.cells cs t fr)) : Went O w w' :=
 ⟨(Below.refl _ _).grown hg hO fun k e => (hr k e).1, KeepsOthers.of_grownBy hg fun j o e ho => by
  obtain ⟨_, cs, t, fr, h⟩ := hr j e
  rw [h] at ho
  cases ho
  rfl⟩
theorem Went.reader {O : Nat} {w w' : World} {N R : Nat} {s : RS} (h : SR w N R s) (hg : w.grownBy w' (some R)) (hO : O ≤ R) : Went O w w' :=
 Went.grown hg (by have := h.lt; omega) fun k e => by
  cases e
  obtain ⟨ao, cap, S, off, h⟩ := h
  exact ⟨hO, _, _, _, h.blk⟩
theorem own_notAt {w : World} {base t size n : Nat} {v : Value} {xs : List Value} (h : w.ownsRow base t size v n xs) {R tR : Nat} {cs : Array Value} {fr : Nat × Nat} (hR : w.heap[R]? = some (.cells cs tR fr)) (ht : t ≠ tR) : v.ownBlock = none ∨ v.ownBlock ≠ some R := by
 rcases h.2 with ⟨rfl, _⟩ | ⟨g, cap, cur, rfl, _, hg, _⟩
 ·exact Or.inl rfl
 ·right
  intro e
  obtain rfl : g = R := by simpa [Value.ownBlock] using e
  rw [hR] at hg
  simp at hg
  exact ht hg.2.1.symm
theorem own_cellsAt {w : World} {base t size n : Nat} {v : Value} {xs : List Value} (h : w.ownsRow base t size v n xs) : ∀ k, v.ownBlock = some k → base ≤ k ∧ ∃ cs t fr, w.heap[k]? = some (.cells cs t fr) := by
 intro k hk
 rcases h.2 with ⟨rfl, _⟩ | ⟨g, cap, cur, rfl, hb, hg, _⟩
 ·cases hk
 ·obtain rfl : g = k := by simpa [Value.ownBlock] using hk
  exact ⟨hb, _, _, _, hg⟩
structure PBx (w : World) (O base : Nat) (P : List Fn) (vo : Value) (us : List Value) : Prop where
 box : w.heap[O]? = some (.cells #[vo] 24 (0, 0))
 blt : Built w base 37 51 vo P us
 apart : CodesApart us
 low : O < base
theorem PBx.keep {w w' : World} {O base : Nat} {P : List Fn} {vo : Value} {us : List Value} (h : PBx w O base P vo us) (hb : Below w.heap.size w w') : PBx w' O base P vo us :=
 ⟨(hb.block O (lt_of_block h.box)).trans h.box, h.blt.below hb, h.apart, h.low⟩
theorem Built.keepAt {w w' : World} {base tF tI : Nat} {v : Value} {P : List Fn} {us : List Value} (h : Built w base tF tI v P us) {R tR : Nat} {cs : Array Value} {fr : Nat × Nat} (hR : w.heap[R]? = some (.cells cs tR fr)) (hF : tF ≠ tR) (hI : tI ≠ tR) (hg : w.grownBy w' (some R)) : Built w' base tF tI v P us :=
 ⟨h.len, h.row.kept hg (own_notAt h.row hR hF), fun i hi => (h.codes i hi).kept hg (own_notAt (h.codes i hi) hR hI)⟩
theorem PBx.reader {w w' : World} {O base : Nat} {P : List Fn} {vo : Value} {us : List Value} {N R : Nat} {s : RS} (h : PBx w O base P vo us) (hr : SR w N R s) (hg : w.grownBy w' (some R)) : PBx w' O base P vo us := by
 obtain ⟨ao, cap, S, off, hr⟩ := hr
 refine ⟨(hg.block O (lt_of_block h.box) ?_).trans h.box, h.blt.keepAt hr.blk (by decide) (by decide) hg, h.apart, h.low⟩
 intro e
 obtain rfl : O = R := by simpa using e
 have := h.box.symm.trans hr.blk
 simp at this
theorem fnsCells_last (Q : List Fn) (us : List Value) (f g : Fn) (u v : Value) (hl : us.length = Q.length) (hp : g.params = f.params) (hr : g.regs = f.regs) : (fnsCells (Q ++ [f]) (us ++ [u])).set (Q.length * 3 + 2) v = fnsCells (Q ++ [g]) (us ++ [v]) := by
 rw [fnsCells_snoc Q us f u hl, fnsCells_snoc Q us g v hl]
 have h := fnsCells_length Q us hl
 rw [List.set_append_right _ _ (by omega), h, show Q.length * 3 + 2 - Q.length * 3 = 2 by omega]
 simp [fnCells, hp, hr]
theorem built_last {w w4 : World} {base tF tI g cap g4 cap4 : Nat} {Q : List Fn} {f : Fn} {u : Value} {us : List Value} {x : Ins} (ht : tI ≠ tF)
  (hbt : Built w base tF tI (.slice (some ⟨g, 0, none⟩) (Q.length + 1) cap) (Q ++ [f]) (us ++ [u])) (hca : CodesApart (us ++ [u])) (hg : w.grownBy w4 u.ownBlock)
  (hown4 : w4.ownsRow base tI 5 (.slice (some ⟨g4, 0, none⟩) (f.code.length + 1) cap4) (f.code.length + 1) (codeCells f.code ++ insCells x)) (hat : u.ownBlock = some g4 ∨ g4 = w.heap.size) :
  w4.heap[g]? = w.heap[g]? ∧ Built (w4.setCell ⟨g, Q.length * 3 + 2, none⟩ (.slice (some ⟨g4, 0, none⟩) (f.code.length + 1) cap4)) base tF tI (.slice (some ⟨g, 0, none⟩) (Q.length + 1) cap) (Q ++ [⟨f.params, f.regs, f.code ++ [x]⟩]) (us ++ [.slice (some ⟨g4, 0, none⟩) (f.code.length + 1) cap4]) ∧
   CodesApart (us ++ [.slice (some ⟨g4, 0, none⟩) (f.code.length + 1) cap4]) := by
 have hl : us.length = Q.length := by have := hbt.len; simpa using this
 have hrow : w.ownsRow base tF 3 (.slice (some ⟨g, 0, none⟩) (Q.length + 1) cap) (Q.length + 1) (fnsCells (Q ++ [f]) (us ++ [u])) := by have := hbt.row; simpa using this
 have hlast := hbt.codes Q.length (by simp)
 have eu : (us ++ [u])[Q.length]'(by simp [hl]) = u := by simp [← hl]
 have ef : (Q ++ [f])[Q.length]'(by simp) = f := by simp
 rw [eu, ef] at hlast
 have hgb : (Value.slice (some ⟨g, 0, none⟩) (Q.length + 1) cap).ownBlock = some g := rfl
 have hap := own_apart hrow hlast (Ne.symm ht)
 have hrow4 := hrow.kept hg hap
 have hne : some g ≠ u.ownBlock := by
  rcases hap with h | h
  ·rw [hgb] at h; cases h
  ·rwa [hgb] at h
 refine ⟨hg.block g (hrow.lt g hgb).2 hne, ⟨by simp [hl], ?_, fun i hi => ?_⟩, ?_⟩
 ·have := (hrow4.stored (Q.length * 3 + 2) (.slice (some ⟨g4, 0, none⟩) (f.code.length + 1) cap4)).1
  rw [fnsCells_last Q us f ⟨f.params, f.regs, f.code ++ [x]⟩ u _ hl rfl rfl] at this
  simpa using this
 ·have hnb : ∀ v n xs, w4.ownsRow base tI 5 v n xs → v.ownBlock ≠ some g := fun v n xs h e => by
   rcases own_apart h hrow4 ht with h1 | h1
   ·rw [h1] at e; cases e
   ·rw [hgb] at h1; exact h1 e
  by_cases hiQ : i < Q.length
  ·have e1 : (Q ++ [⟨f.params, f.regs, f.code ++ [x]⟩])[i] = Q[i] := List.getElem_append_left hiQ
   have e2 : (us ++ [.slice (some ⟨g4, 0, none⟩) (f.code.length + 1) cap4])[i]'(by simp [hl]; omega) = us[i]'(by omega) := List.getElem_append_left (by omega)
   have hc := hbt.codes i (by simp; omega)
   have e3 : (Q ++ [f])[i]'(by simp; omega) = Q[i] := List.getElem_append_left hiQ
   have e4 : (us ++ [u])[i]'(by simp [hl]; omega) = us[i]'(by omega) := List.getElem_append_left (by omega)
   rw [e3, e4] at hc
   rw [e1, e2]
   have hc4 := hc.kept hg (hca i Q.length us[i] u (by rw [List.getElem?_append_left (by omega)]; exact List.getElem?_eq_getElem (by omega)) (by rw [← hl]; simp) (by omega))
   exact ownsRow_setCell_other hc4 (hnb _ _ _ hc4) _
  ·have hi' : i = Q.length := by simp at hi; omega
   subst hi'
   have e1 : (Q ++ [⟨f.params, f.regs, f.code ++ [x]⟩])[Q.length]'(by simp) = ⟨f.params, f.regs, f.code ++ [x]⟩ := by simp
   have e2 : (us ++ [.slice (some ⟨g4, 0, none⟩) (f.code.length + 1) cap4])[Q.length]'(by simp [hl]) = .slice (some ⟨g4, 0, none⟩) (f.code.length + 1) cap4 := by simp [← hl]
   rw [e1, e2]
   have := ownsRow_setCell_other hown4 (hnb _ _ _ hown4) (a := ⟨g, Q.length * 3 + 2, none⟩) (.slice (some ⟨g4, 0, none⟩) (f.code.length + 1) cap4)
   simpa [codeCells_append, codeCells] using this
 ·refine codesApart_snoc ?_ ?_
  ·intro i j a b ha hb hij
   have l1 : i < us.length := (List.getElem?_eq_some_iff.1 ha).1
   have l2 : j < us.length := (List.getElem?_eq_some_iff.1 hb).1
   exact hca i j a b (by rw [List.getElem?_append_left l1]; exact ha) (by rw [List.getElem?_append_left l2]; exact hb) hij
  ·intro v hv k hk e
   obtain ⟨i, hi⟩ := List.getElem?_of_mem hv
   have l1 : i < us.length := (List.getElem?_eq_some_iff.1 hi).1
   have ek : g4 = k := by simpa [Value.ownBlock] using e
   subst ek
   rcases hat with h1 | h1
   ·rcases hca i Q.length v u (by rw [List.getElem?_append_left l1]; exact hi) (by rw [← hl]; simp) (by omega) with h2 | h2
    ·rw [hk] at h2; cases h2
    ·exact h2 (hk.trans h1.symm)
   ·have hc := hbt.codes i (by simp; omega)
    have e4 : (us ++ [u])[i]'(by simp [hl]; omega) = v := by
     rw [List.getElem_append_left l1]
     rw [List.getElem?_eq_getElem l1] at hi
     exact Option.some.inj hi
    rw [e4] at hc
    have := (hc.lt _ hk).2
    omega
end Go.Proofs.YtfacdhkadnmnlaaDoor
