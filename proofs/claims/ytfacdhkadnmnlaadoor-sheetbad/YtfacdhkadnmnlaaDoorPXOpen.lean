import Derived.Deep.Fields
import Derived.Deep.Slices
import Derived.OpenShut
import Derived.ProofKit
import Derived.SizedLaws
import Derived.Test.YtfacdhkadnmnlaaDoorPGroupA
import Derived.LaidMore
import Derived.Lib.LaidTab
import Derived.Stop.Joined
import Derived.Test.YtfacdhkadnmnlaaDoorRows
namespace Go.Proofs.YtfacdhkadnmnlaaDoor
open Go Go.RowKit Go.Deep Go.ChangeShapes Go.WideShapes

def I64 (n : Int) : Prop := -9223372036854775808 ≤ n ∧ n ≤ 9223372036854775807
def Ins.wf (x : Ins) : Prop := I64 x.op ∧ I64 x.dst ∧ I64 x.a ∧ I64 x.b ∧ I64 x.imm
def Fn.wf (f : Fn) : Prop := I64 f.params ∧ I64 f.regs ∧ ∀ x ∈ f.code, x.wf
section
variable {H : Type} {enc : TypeId × Value → H} {P : Program} {w : World} {base : Nat} {spare : Nat → Bool} {held : Bool}

structure Types (P : Program) (tint tI tIs tF tFs : TypeId) : Prop where
 int : P.underlying tint = some (.int .i64)
 ins : ∃ fs, P.underlying tI = some (.struct fs) ∧ oneCellFields P fs = true ∧ P.cellsOf tI = 5 ∧ fs.size = 5 ∧ ∀ (i : Nat) (f : Field), fs[i]? = some f → f.type = tint
 inss : P.underlying tIs = some (.slice tI)
 fn : ∃ f0 f1 f2, P.underlying tF = some (.struct #[f0, f1, f2]) ∧ oneCellFields P #[f0, f1, f2] = true ∧ P.cellsOf tF = 3 ∧ f0.type = tint ∧ f1.type = tint ∧ f2.type = tIs
 fns : P.underlying tFs = some (.slice tF)
 bI : P.bytesOf tI = 40
 bF : P.bytesOf tF = 40
variable {tint tI tIs tF tFs : TypeId}

theorem open_ins (T : Types P tint tI tIs tF tFs) {fuel : Nat} {cs : List Value} {x : DataW H × List MemPlace} (h : DataW.trod enc P w base spare held fuel tI cs = some x) : ∃ y : Ins, y.wf ∧ cs = insCells y := by
 obtain ⟨fs, hs, hone, hC, hsz, hty⟩ := T.ins
 obtain ⟨xs, n, _, _, hlen, hxl, hf⟩ := DataW.trod_struct hs h
 rw [hC] at hlen
 have each : ∀ i (hi : i < 5), ∃ m, I64 m ∧ cs[i]? = some (.int .i64 m) := by
  intro i hi
  obtain ⟨f, hfi⟩ : ∃ f, fs[i]? = some f := ⟨fs[i]'(by omega), Array.getElem?_eq_getElem (by omega)⟩
  obtain ⟨ho, hc⟩ := hone_of hone i f hfi
  have := hf i f hfi
  rw [hty i f hfi, ho, List.getElem?_eq_getElem (show i < xs.length by omega)] at this
  rw [hty i f hfi] at hc
  rw [hc] at this
  obtain ⟨m, e1, _, hwf⟩ := DataW.trod_int T.int this
  refine ⟨m, by simpa [I64] using bounds_i64 hwf, ?_⟩
  have e2 : (cs.drop i).take 1 = [cs[i]'(by omega)] := by
   rw [List.drop_eq_getElem_cons (by omega)]; rfl
  rw [e2] at e1
  rw [List.getElem?_eq_getElem (by omega)]
  simpa using e1
 obtain ⟨m0, w0, h0⟩ := each 0 (by omega)
 obtain ⟨m1, w1, h1⟩ := each 1 (by omega)
 obtain ⟨m2, w2, h2⟩ := each 2 (by omega)
 obtain ⟨m3, w3, h3⟩ := each 3 (by omega)
 obtain ⟨m4, w4, h4⟩ := each 4 (by omega)
 refine ⟨⟨m0, m1, m2, m3, m4⟩, ⟨w0, w1, w2, w3, w4⟩, ?_⟩
 match cs, hlen, h0, h1, h2, h3, h4 with
 | [c0, c1, c2, c3, c4], _, h0, h1, h2, h3, h4 =>
  have e0 : c0 = _ := Option.some.inj h0
  have e1 : c1 = _ := Option.some.inj h1
  have e2 : c2 = _ := Option.some.inj h2
  have e3 : c3 = _ := Option.some.inj h3
  have e4 : c4 = _ := Option.some.inj h4
  rw [e0, e1, e2, e3, e4]; rfl
theorem plain_of_cell {a : Addr} {v : Value} (h : w.cell? a = some v) : a = ⟨a.block, a.off, none⟩ := by
 obtain ⟨b, off, spot⟩ := a
 have hspot : spot = none := by simpa using World.cell?_spot h
 subst hspot
 rfl
theorem open_code (T : Types P tint tI tIs tF tFs) {fuel : Nat} {v : Value} {x : DataW H × List MemPlace} (h : DataW.trod enc P w base spare held fuel tIs [v] = some x) :
  ∃ xs : List Ins, CodeVal w v xs ∧ (∀ y ∈ xs, y.wf) ∧ (xs.length = 0 ∨ ∃ k, (xs.length + k) * 40 ∈ x.1.weights P tIs) := by
 rcases open_slice T.inss h with ⟨hcs, rfl⟩ | ⟨a, len, cap, m, n, D, Pl, hcs, _, hl, hmx, hm, rfl, hx⟩
 ·obtain rfl : v = .slice none 0 0 := by simpa using hcs
  exact ⟨[], ⟨none, 0, 0, 0, 0, rfl, ⟨rfl, fun h => by omega, fun k h => by simp at h⟩, ⟨Nat.le_refl _, fun _ => rfl⟩, by simp [maxLen]⟩, by simp, Or.inl rfl⟩
 obtain rfl : v = .slice (some a) len cap := by simpa using hcs
 have hlm : len ≤ m := by rw [hm]; split <;> omega
 obtain ⟨_, _, _, hC, _⟩ := T.ins
 have each : ∀ i, i < len → ∃ y : Ins, y.wf ∧ ∀ j, j < 5 → w.cell? (a.add (i * 5 + j)) = (insCells y)[j]? := by
  intro i hi
  obtain ⟨cs', h1, h2⟩ := hx i (by omega)
  obtain ⟨y, hy, rfl⟩ := open_ins T h2
  rw [hC] at h1
  obtain ⟨_, _, hcell⟩ := World.cells?_some h1
  exact ⟨y, hy, fun j hj => by rw [← add_add]; exact hcell j hj⟩
 haveI : Inhabited Ins := ⟨⟨0, 0, 0, 0, 0⟩⟩
 obtain ⟨Y, hY⟩ := choose_lt each
 have hlen : ((List.range len).map Y).length = len := by simp
 refine ⟨(List.range len).map Y, ⟨some a, a.block, a.off, len, cap, rfl, ⟨hlen, fun hp => ?_, fun k hk => ?_⟩, ⟨hl, fun e => by cases e⟩, hmx⟩, ?_, Or.inr ⟨((List.range (m - len)).map fun j => D (len + j)).length, ?_⟩⟩
 ·have := (hY 0 hp).2 0 (by omega)
  exact congrArg some (plain_of_cell (v := .int .i64 (Y 0).op) (by simpa [insCells, Addr.add] using this))
 ·have hk' : k < len := by simpa using hk
  have hp0 := (hY 0 (by omega)).2 0 (by omega)
  have ha := plain_of_cell (w := w) (a := a) (v := .int .i64 (Y 0).op) (by simpa [insCells, Addr.add] using hp0)
  have e : ((List.range len).map Y)[k] = Y k := by simp
  rw [e]
  have cell : ∀ j, j < 5 → w.cell? ⟨a.block, a.off + k * 5 + j, none⟩ = (insCells (Y k))[j]? := fun j hj => by
   have := (hY k hk').2 j hj
   rw [ha, add_plain] at this
   rw [Nat.add_assoc]
   exact this
  exact ⟨by simpa [insCells] using cell 0 (by omega), by simpa [insCells] using cell 1 (by omega), by simpa [insCells] using cell 2 (by omega), by simpa [insCells] using cell 3 (by omega), by simpa [insCells] using cell 4 (by omega)⟩
 ·intro y hy
  obtain ⟨i, hi, rfl⟩ := List.mem_map.1 hy
  exact (hY i (by simpa using hi)).1
 ·simp [DataW.weights, T.inss, T.bI]
theorem open_fn (T : Types P tint tI tIs tF tFs) {fuel : Nat} {cs : List Value} {x : DataW H × List MemPlace} (h : DataW.trod enc P w base spare held fuel tF cs = some x) :
  ∃ (f : Fn) (v : Value), f.wf ∧ cs = fnCells f v ∧ CodeVal w v f.code ∧ (f.code.length = 0 ∨ ∃ k, (f.code.length + k) * 40 ∈ x.1.weights P tF) := by
 obtain ⟨f0, f1, f2, hs, hone, hC, t0, t1, t2⟩ := T.fn
 obtain ⟨xs, n, _, rfl, hlen, hxl, hf⟩ := DataW.trod_struct hs h
 rw [hC] at hlen
 match xs, hxl, cs, hlen with
 | [y0, y1, y2], _, [c0, c1, c2], _ =>
  obtain ⟨o0, k0⟩ := hone_of hone 0 f0 rfl
  obtain ⟨o1, k1⟩ := hone_of hone 1 f1 rfl
  obtain ⟨o2, k2⟩ := hone_of hone 2 f2 rfl
  have g0 := hf 0 f0 rfl
  have g1 := hf 1 f1 rfl
  have g2 := hf 2 f2 rfl
  simp [o0, t0] at g0
  simp [o1, t1] at g1
  simp [o2, t2] at g2
  rw [t0] at k0
  rw [t1] at k1
  rw [t2] at k2
  simp [k0] at g0
  simp [k1] at g1
  simp [k2] at g2
  obtain ⟨m0, e0, _, w0⟩ := DataW.trod_int T.int g0
  obtain ⟨m1, e1, _, w1⟩ := DataW.trod_int T.int g1
  obtain ⟨code, hcode, hwf, hwt⟩ := open_code T g2
  refine ⟨⟨m0, m1, code⟩, c2, ⟨by simpa [I64] using bounds_i64 w0, by simpa [I64] using bounds_i64 w1, hwf⟩, ?_, hcode, ?_⟩
  ·simp at e0 e1
   simp [fnCells, e0, e1]
  ·rcases hwt with h0 | ⟨k, hk⟩
   ·exact Or.inl h0
   ·refine Or.inr ⟨k, ?_⟩
    simp only [DataW.weights, hs]
    exact DataW.weights_mem_each (j := 2) (t := tIs) (d := y2.1) (by simp [t2]) (by simp) _ hk
theorem weightsAll_mem {e : TypeId} : ∀ {ds : List (DataW H)} {d : DataW H}, d ∈ ds → ∀ n ∈ d.weights P e, n ∈ DataW.weightsAll P e ds
 | d0 :: ds, d, hd, n, hn => by
  simp only [DataW.weightsAll, List.mem_append]
  rcases List.mem_cons.1 hd with rfl | h
  ·exact Or.inl hn
  ·exact Or.inr (weightsAll_mem h n hn)
theorem open_fns (T : Types P tint tI tIs tF tFs) {fuel : Nat} {v : Value} {x : DataW H × List MemPlace} (h : DataW.trod enc P w base spare held fuel tFs [v] = some x) :
  ∃ p : List Fn, ProgVal w v p ∧ (∀ f ∈ p, f.wf) ∧ (p.length = 0 ∨ ∃ k, (p.length + k) * 40 ∈ x.1.weights P tFs) ∧ ∀ f ∈ p, f.code.length = 0 ∨ ∃ k, (f.code.length + k) * 40 ∈ x.1.weights P tFs := by
 rcases open_slice T.fns h with ⟨hcs, rfl⟩ | ⟨a, len, cap, m, n, D, Pl, hcs, _, hl, hmx, hm, rfl, hx⟩
 ·obtain rfl : v = .slice none 0 0 := by simpa using hcs
  exact ⟨[], ⟨none, 0, 0, 0, 0, rfl, ⟨rfl, fun h => by omega, fun k h => by simp at h⟩, ⟨Nat.le_refl _, fun _ => rfl⟩, by simp [maxLen]⟩, by simp, Or.inl rfl, by simp⟩
 obtain rfl : v = .slice (some a) len cap := by simpa using hcs
 have hlm : len ≤ m := by rw [hm]; split <;> omega
 obtain ⟨_, _, _, _, _, hC, _⟩ := T.fn
 have each : ∀ i, i < len → ∃ y : Fn × Value, y.1.wf ∧ (∀ j, j < 3 → w.cell? (a.add (i * 3 + j)) = (fnCells y.1 y.2)[j]?) ∧ CodeVal w y.2 y.1.code ∧ (y.1.code.length = 0 ∨ ∃ k, (y.1.code.length + k) * 40 ∈ (D i).weights P tF) := by
  intro i hi
  obtain ⟨cs', h1, h2⟩ := hx i (by omega)
  obtain ⟨f, u, hwf, rfl, hcode, hwt⟩ := open_fn T h2
  rw [hC] at h1
  obtain ⟨_, _, hcell⟩ := World.cells?_some h1
  exact ⟨(f, u), hwf, fun j hj => by rw [← add_add]; exact hcell j hj, hcode, hwt⟩
 haveI : Inhabited (Fn × Value) := ⟨(⟨0, 0, []⟩, .nilFunc)⟩
 obtain ⟨Y, hY⟩ := choose_lt each
 have hlen : ((List.range len).map fun i => (Y i).1).length = len := by simp
 refine ⟨(List.range len).map fun i => (Y i).1, ⟨some a, a.block, a.off, len, cap, rfl, ⟨hlen, fun hp => ?_, fun k hk => ?_⟩, ⟨hl, fun e => by cases e⟩, hmx⟩, ?_, Or.inr ⟨((List.range (m - len)).map fun j => D (len + j)).length, ?_⟩, ?_⟩
 ·have := (hY 0 hp).2.1 0 (by omega)
  exact congrArg some (plain_of_cell (v := .int .i64 (Y 0).1.params) (by simpa [fnCells, Addr.add] using this))
 ·have hk' : k < len := by simpa using hk
  have hp0 := (hY 0 (by omega)).2.1 0 (by omega)
  have ha := plain_of_cell (w := w) (a := a) (v := .int .i64 (Y 0).1.params) (by simpa [fnCells, Addr.add] using hp0)
  have e : ((List.range len).map fun i => (Y i).1)[k] = (Y k).1 := by simp
  rw [e]
  have cell : ∀ j, j < 3 → w.cell? ⟨a.block, a.off + k * 3 + j, none⟩ = (fnCells (Y k).1 (Y k).2)[j]? := fun j hj => by
   have := (hY k hk').2.1 j hj
   rw [ha, add_plain] at this
   rw [Nat.add_assoc]
   exact this
  exact ⟨(Y k).2, by simpa [fnCells] using cell 0 (by omega), by simpa [fnCells] using cell 1 (by omega), by simpa [fnCells] using cell 2 (by omega), (hY k hk').2.2.1⟩
 ·intro f hf
  obtain ⟨i, hi, rfl⟩ := List.mem_map.1 hf
  exact (hY i (by simpa using hi)).1
 ·simp [DataW.weights, T.fns, T.bF]
 ·intro f hf
  obtain ⟨i, hi, rfl⟩ := List.mem_map.1 hf
  have hi' : i < len := by simpa using hi
  rcases (hY i hi').2.2.2 with h0 | ⟨k, hk⟩
  ·exact Or.inl h0
  ·refine Or.inr ⟨k, ?_⟩
   simp only [DataW.weights, T.fns, List.mem_cons, List.mem_append]
   exact Or.inr (Or.inl (weightsAll_mem (List.mem_map.2 ⟨i, hi, rfl⟩) _ hk))
end

end Go.Proofs.YtfacdhkadnmnlaaDoor
namespace Go.Proofs.YtfacdhkadnmnlaaDoor
open Go Go.ChangeShapes Go.WideShapes Go.ChangeAt Go.RowKit

theorem own : ownKnob Tryd.prog.godebug = none := by kernel_rfl
theorem gParts : Tryd.prog.globalNamed "tierline/ops.parts" = some 1 := by kernel_rfl
theorem tParts : (Tryd.prog.globals[1]?).map (·.type) = some 92 := by kernel_rfl
theorem cells3 : Tryd.prog.cellsOf 3 = 1 := by kernel_rfl
theorem cellsParts : Tryd.prog.cellsOf 92 = 20 := by kernel_rfl
theorem laidOut : laidOutB Tryd.prog = true := by kernel_rfl
end Go.Proofs.YtfacdhkadnmnlaaDoor
namespace Go.Proofs.YtfacdhkadnmnlaaDoor
open Go Go.ChangeShapes Go.WideShapes Go.ChangeAt Go.RowKit

theorem typesB : Types Tryd.prog 3 80 54 56 30 where
 int := Tryd.underlying3
 ins := ⟨_, Tryd.underlying80, by kernel_rfl, by kernel_rfl, rfl, fun i f h => by
  match i, h with
  | 0, h => simp at h; subst h; rfl
  | 1, h => simp at h; subst h; rfl
  | 2, h => simp at h; subst h; rfl
  | 3, h => simp at h; subst h; rfl
  | 4, h => simp at h; subst h; rfl
  | i + 5, h => simp at h⟩
 inss := Tryd.underlying54
 fn := ⟨_, _, _, Tryd.underlying56, by kernel_rfl, by kernel_rfl, rfl, rfl, rfl⟩
 fns := Tryd.underlying30
 bI := by kernel_rfl
 bF := by kernel_rfl
set_option maxRecDepth 100000 in
theorem open_bodies {H : Type} {enc : TypeId × Value → H} {W : World} {base : Nat} {v : Value} {d : DataW H} {ps : List MemPlace}
  (hv : Value.okWide Tryd.prog W .any base 30 v) (h : DataW.Trod enc Tryd.prog W 0 (fun _ => true) true 30 v d ps) :
  ∃ p : List Fn, ProgVal W v p ∧ ∀ f ∈ p, f.wf := by
 obtain ⟨a0, len, cap, rfl⟩ := okWide_slice Tryd.underlying30 hv
 obtain ⟨fuel, hf⟩ := h
 obtain ⟨p, hp, hwf, _⟩ := open_fns typesB (by simpa [Value.cells] using hf)
 exact ⟨p, hp, hwf⟩
end Go.Proofs.YtfacdhkadnmnlaaDoor
