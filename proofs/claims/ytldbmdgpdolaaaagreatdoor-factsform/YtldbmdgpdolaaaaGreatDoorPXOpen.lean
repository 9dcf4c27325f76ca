import Derived.Deep.Fields
import Derived.Deep.Slices
import Derived.OpenShut
import Derived.ProofKit
import Derived.SizedLaws
import Derived.Test.YtldbmdgpdolaaaaGreatDoorPGroupA
import Derived.LaidMore
import Derived.Lib.LaidTab
import Derived.Stop.Joined
import Derived.Test.YtldbmdgpdolaaaaGreatDoorRows
namespace Go.Proofs.YtldbmdgpdolaaaaGreatDoor
open Go Go.RowKit Go.Deep Go.ChangeShapes Go.WideShapes

def I64 (n : Int) : Prop := -9223372036854775808 ≤ n ∧ n ≤ 9223372036854775807
def Ins.wf (x : Ins) : Prop := I64 x.op ∧ I64 x.dst ∧ I64 x.a ∧ I64 x.b ∧ I64 x.imm
def Fn.wf (f : Fn) : Prop := I64 f.params ∧ I64 f.regs ∧ ∀ x ∈ f.code, x.wf
section
variable {H : Type} {enc : TypeId × Value → H} {P : Program} {w : World} {base : Nat} {spare : Nat → Bool} {held : Bool}

structure Types (P : Program) (tint tI tIs tF tFs : TypeId) : Prop where
  int : P.underlying tint = some (.int .i64)
  ins : ∃ fs, P.underlying tI = some (.struct fs) ∧ oneCellFields P fs = true ∧ P.cellsOf tI = 5 ∧ fs.size = 5 ∧ ∀ (i : Nat) (f : Field), fs[i]? = some f → f.type = tint
  inss : P.underlying tIs = some (.slice tI)
  fn : ∃ f0 f1 f2, P.underlying tF = some (.struct #[f0, f1, f2]) ∧ oneCellFields P #[f0, f1, f2] = true ∧ P.cellsOf tF = 3 ∧ f0.type = tint ∧ f1.type = tint ∧ f2.type = tIs
  fns : P.underlying tFs = some (.slice tF)
  bI : P.bytesOf tI = 40
  bF : P.bytesOf tF = 40
variable {tint tI tIs tF tFs : TypeId}

theorem open_ins (T : Types P tint tI tIs tF tFs) {fuel : Nat} {cs : List Value} {x : DataW H × List MemPlace} (h : DataW.trod enc P w base spare held fuel tI cs = some x) : ∃ y : Ins, y.wf ∧ cs = insCells y := by
  obtain ⟨fs, hs, hone, hC, hsz, hty⟩ := T.ins
  obtain ⟨xs, n, _, _, hlen, hxl, hf⟩ := DataW.trod_struct hs h
  rw [hC] at hlen
  have each : ∀ i (hi : i < 5), ∃ m, I64 m ∧ cs[i]? = some (.int .i64 m) := by
    intro i hi
    obtain ⟨f, hfi⟩ : ∃ f, fs[i]? = some f := ⟨fs[i]'(by omega), Array.getElem?_eq_getElem (by omega)⟩
    obtain ⟨ho, hc⟩ := hone_of hone i f hfi
    have := hf i f hfi
    rw [hty i f hfi, ho, List.getElem?_eq_getElem (show i < xs.length by omega)] at this
    rw [hty i f hfi] at hc
    rw [hc] at this
    obtain ⟨m, e1, _, hwf⟩ := DataW.trod_int T.int this
    refine ⟨m, by simpa [I64] using bounds_i64 hwf, ?_⟩
    have e2 : (cs.drop i).take 1 = [cs[i]'(by omega)] := by
      rw [List.drop_eq_getElem_cons (by omega)]; rfl
    rw [e2] at e1
    rw [List.getElem?_eq_getElem (by omega)]
    simpa using e1
  obtain ⟨m0, w0, h0⟩ := each 0 (by omega)
  obtain ⟨m1, w1, h1⟩ := each 1 (by omega)
  obtain ⟨m2, w2, h2⟩ := each 2 (by omega)
  obtain ⟨m3, w3, h3⟩ := each 3 (by omega)
  obtain ⟨m4, w4, h4⟩ := each 4 (by omega)
  refine ⟨⟨m0, m1, m2, m3, m4⟩, ⟨w0, w1, w2, w3, w4⟩, ?_⟩
  match cs, hlen, h0, h1, h2, h3, h4 with
  | [c0, c1, c2, c3, c4], _, h0, h1, h2, h3, h4 =>
    have e0 : c0 = _ := Option.some.inj h0
    have e1 : c1 = _ := Option.some.inj h1
    have e2 : c2 = _ := Option.some.inj h2
    have e3 : c3 = _ := Option.some.inj h3
    have e4 : c4 = _ := Option.some.inj h4
    rw [e0, e1, e2, e3, e4]; rfl
theorem plain_of_cell {a : Addr} {v : Value} (h : w.cell? a = some v) : a = ⟨a.block, a.off, none⟩ := by
  obtain ⟨b, off, spot⟩ := a
  have hspot : spot = none := by simpa using World.cell?_spot h
  subst hspot
  rfl
theorem open_code (T : Types P tint tI tIs tF tFs) {fuel : Nat} {v : Value} {x : DataW H × List MemPlace} (h : DataW.trod enc P w base spare held fuel tIs [v] = some x) :
    ∃ xs : List Ins, CodeVal w v xs ∧ (∀ y ∈ xs, y.wf) ∧ (xs.length = 0 ∨ ∃ k, (xs.length + k) * 40 ∈ x.1.weights P tIs) := by
  rcases open_slice T.inss h with ⟨hcs, rfl⟩ | ⟨a, len, cap, m, n, D, Pl, hcs, _, hl, hmx, hm, rfl, hx⟩
  · obtain rfl : v = .slice none 0 0 := by simpa using hcs
    exact ⟨[], ⟨none, 0, 0, 0, 0, rfl, ⟨rfl, fun h => by omega, fun k h => by simp at h⟩, ⟨Nat.le_refl _, fun _ => rfl⟩, by simp [maxLen]⟩, by simp, Or.inl rfl⟩
  obtain rfl : v = .slice (some a) len cap := by simpa using hcs
  have hlm : len ≤ m := by rw [hm]; split <;> omega
  obtain ⟨_, _, _, hC, _⟩ := T.ins
  have each : ∀ i, i < len → ∃ y : Ins, y.wf ∧ ∀ j, j < 5 → w.cell? (a.add (i * 5 + j)) = (insCells y)[j]? := by
    intro i hi
    obtain ⟨cs', h1, h2⟩ := hx i (by omega)
    obtain ⟨y, hy, rfl⟩ := open_ins T h2
    rw [hC] at h1
    obtain ⟨_, _, hcell⟩ := World.cells?_some h1
    exact ⟨y, hy, fun j hj => by rw [← add_add]; exact hcell j hj⟩
  haveI : Inhabited Ins := ⟨⟨0, 0, 0, 0, 0⟩⟩
  obtain ⟨Y, hY⟩ := choose_lt each
  have hlen : ((List.range len).map Y).length = len := by simp
  refine ⟨(List.range len).map Y, ⟨some a, a.block, a.off, len, cap, rfl, ⟨hlen, fun hp => ?_, fun k hk => ?_⟩, ⟨hl, fun e => by cases e⟩, hmx⟩, ?_, Or.inr ⟨((List.range (m - len)).map fun j => D (len + j)).length, ?_⟩⟩
  · have := (hY 0 hp).2 0 (by omega)
    exact congrArg some (plain_of_cell (v := .int .i64 (Y 0).op) (by simpa [insCells, Addr.add] using this))
  · have hk' : k < len := by simpa using hk
    have hp0 := (hY 0 (by omega)).2 0 (by omega)
    have ha := plain_of_cell (w := w) (a := a) (v := .int .i64 (Y 0).op) (by simpa [insCells, Addr.add] using hp0)
    have e : ((List.range len).map Y)[k] = Y k := by simp
    rw [e]
    have cell : ∀ j, j < 5 → w.cell? ⟨a.block, a.off + k * 5 + j, none⟩ = (insCells (Y k))[j]? := fun j hj => by
      have := (hY k hk').2 j hj
      rw [ha, add_plain] at this
      rw [Nat.add_assoc]
      exact this
    exact ⟨by simpa [insCells] using cell 0 (by omega), by simpa [insCells] using cell 1 (by omega), by simpa [insCells] using cell 2 (by omega), by simpa [insCells] using cell 3 (by omega), by simpa [insCells] using cell 4 (by omega)⟩
  · intro y hy
    obtain ⟨i, hi, rfl⟩ := List.mem_map.1 hy
    exact (hY i (by simpa using hi)).1
  · simp [DataW.weights, T.inss, T.bI]
theorem open_fn (T : Types P tint tI tIs tF tFs) {fuel : Nat} {cs : List Value} {x : DataW H × List MemPlace} (h : DataW.trod enc P w base spare held fuel tF cs = some x) :
    ∃ (f : Fn) (v : Value), f.wf ∧ cs = fnCells f v ∧ CodeVal w v f.code ∧ (f.code.length = 0 ∨ ∃ k, (f.code.length + k) * 40 ∈ x.1.weights P tF) := by
  obtain ⟨f0, f1, f2, hs, hone, hC, t0, t1, t2⟩ := T.fn
  obtain ⟨xs, n, _, rfl, hlen, hxl, hf⟩ := DataW.trod_struct hs h
  rw [hC] at hlen
  match xs, hxl, cs, hlen with
  | [y0, y1, y2], _, [c0, c1, c2], _ =>
    obtain ⟨o0, k0⟩ := hone_of hone 0 f0 rfl
    obtain ⟨o1, k1⟩ := hone_of hone 1 f1 rfl
    obtain ⟨o2, k2⟩ := hone_of hone 2 f2 rfl
    have g0 := hf 0 f0 rfl
    have g1 := hf 1 f1 rfl
    have g2 := hf 2 f2 rfl
    simp [o0, t0] at g0
    simp [o1, t1] at g1
    simp [o2, t2] at g2
    rw [t0] at k0
    rw [t1] at k1
    rw [t2] at k2
    simp [k0] at g0
    simp [k1] at g1
    simp [k2] at g2
    obtain ⟨m0, e0, _, w0⟩ := DataW.trod_int T.int g0
    obtain ⟨m1, e1, _, w1⟩ := DataW.trod_int T.int g1
    obtain ⟨code, hcode, hwf, hwt⟩ := open_code T g2
    refine ⟨⟨m0, m1, code⟩, c2, ⟨by simpa [I64] using bounds_i64 w0, by simpa [I64] using bounds_i64 w1, hwf⟩, ?_, hcode, ?_⟩
    · simp at e0 e1
      simp [fnCells, e0, e1]
    · rcases hwt with h0 | ⟨k, hk⟩
      · exact Or.inl h0
      · refine Or.inr ⟨k, ?_⟩
        simp only [DataW.weights, hs]
        exact DataW.weights_mem_each (j := 2) (t := tIs) (d := y2.1) (by simp [t2]) (by simp) _ hk
theorem weightsAll_mem {e : TypeId} : ∀ {ds : List (DataW H)} {d : DataW H}, d ∈ ds → ∀ n ∈ d.weights P e, n ∈ DataW.weightsAll P e ds
  | d0 :: ds, d, hd, n, hn => by
    simp only [DataW.weightsAll, List.mem_append]
    rcases List.mem_cons.1 hd with rfl | h
    · exact Or.inl hn
    · exact Or.inr (weightsAll_mem h n hn)
theorem open_fns (T : Types P tint tI tIs tF tFs) {fuel : Nat} {v : Value} {x : DataW H × List MemPlace} (h : DataW.trod enc P w base spare held fuel tFs [v] = some x) :
    ∃ p : List Fn, ProgVal w v p ∧ (∀ f ∈ p, f.wf) ∧ (p.length = 0 ∨ ∃ k, (p.length + k) * 40 ∈ x.1.weights P tFs) ∧ ∀ f ∈ p, f.code.length = 0 ∨ ∃ k, (f.code.length + k) * 40 ∈ x.1.weights P tFs := by
  rcases open_slice T.fns h with ⟨hcs, rfl⟩ | ⟨a, len, cap, m, n, D, Pl, hcs, _, hl, hmx, hm, rfl, hx⟩
  · obtain rfl : v = .slice none 0 0 := by simpa using hcs
    exact ⟨[], ⟨none, 0, 0, 0, 0, rfl, ⟨rfl, fun h => by omega, fun k h => by simp at h⟩, ⟨Nat.le_refl _, fun _ => rfl⟩, by simp [maxLen]⟩, by simp, Or.inl rfl, by simp⟩
  obtain rfl : v = .slice (some a) len cap := by simpa using hcs
  have hlm : len ≤ m := by rw [hm]; split <;> omega
  obtain ⟨_, _, _, _, _, hC, _⟩ := T.fn
  have each : ∀ i, i < len → ∃ y : Fn × Value, y.1.wf ∧ (∀ j, j < 3 → w.cell? (a.add (i * 3 + j)) = (fnCells y.1 y.2)[j]?) ∧ CodeVal w y.2 y.1.code ∧ (y.1.code.length = 0 ∨ ∃ k, (y.1.code.length + k) * 40 ∈ (D i).weights P tF) := by
    intro i hi
    obtain ⟨cs', h1, h2⟩ := hx i (by omega)
    obtain ⟨f, u, hwf, rfl, hcode, hwt⟩ := open_fn T h2
    rw [hC] at h1
    obtain ⟨_, _, hcell⟩ := World.cells?_some h1
    exact ⟨(f, u), hwf, fun j hj => by rw [← add_add]; exact hcell j hj, hcode, hwt⟩
  haveI : Inhabited (Fn × Value) := ⟨(⟨0, 0, []⟩, .nilFunc)⟩
  obtain ⟨Y, hY⟩ := choose_lt each
  have hlen : ((List.range len).map fun i => (Y i).1).length = len := by simp
  refine ⟨(List.range len).map fun i => (Y i).1, ⟨some a, a.block, a.off, len, cap, rfl, ⟨hlen, fun hp => ?_, fun k hk => ?_⟩, ⟨hl, fun e => by cases e⟩, hmx⟩, ?_, Or.inr ⟨((List.range (m - len)).map fun j => D (len + j)).length, ?_⟩, ?_⟩
  · have := (hY 0 hp).2.1 0 (by omega)
    exact congrArg some (plain_of_cell (v := .int .i64 (Y 0).1.params) (by simpa [fnCells, Addr.add] using this))
  · have hk' : k < len := by simpa using hk
    have hp0 := (hY 0 (by omega)).2.1 0 (by omega)
    have ha := plain_of_cell (w := w) (a := a) (v := .int .i64 (Y 0).1.params) (by simpa [fnCells, Addr.add] using hp0)
    have e : ((List.range len).map fun i => (Y i).1)[k] = (Y k).1 := by simp
    rw [e]
    have cell : ∀ j, j < 3 → w.cell? ⟨a.block, a.off + k * 3 + j, none⟩ = (fnCells (Y k).1 (Y k).2)[j]? := fun j hj => by
      have := (hY k hk').2.1 j hj
      rw [ha, add_plain] at this
      rw [Nat.add_assoc]
      exact this
    exact ⟨(Y k).2, by simpa [fnCells] using cell 0 (by omega), by simpa [fnCells] using cell 1 (by omega), by simpa [fnCells] using cell 2 (by omega), (hY k hk').2.2.1⟩
  · intro f hf
    obtain ⟨i, hi, rfl⟩ := List.mem_map.1 hf
    exact (hY i (by simpa using hi)).1
  · simp [DataW.weights, T.fns, T.bF]
  · intro f hf
    obtain ⟨i, hi, rfl⟩ := List.mem_map.1 hf
    have hi' : i < len := by simpa using hi
    rcases (hY i hi').2.2.2 with h0 | ⟨k, hk⟩
    · exact Or.inl h0
    · refine Or.inr ⟨k, ?_⟩
      simp only [DataW.weights, T.fns, List.mem_cons, List.mem_append]
      exact Or.inr (Or.inl (weightsAll_mem (List.mem_map.2 ⟨i, hi, rfl⟩) _ hk))
end

end Go.Proofs.YtldbmdgpdolaaaaGreatDoor
namespace Go.Proofs.YtldbmdgpdolaaaaGreatDoor
open Go Go.ChangeShapes Go.WideShapes Go.ChangeAt Go.RowKit

theorem own : ownKnob Tryz.prog.godebug = none := by kernel_rfl
theorem gParts : Tryz.prog.globalNamed "tierline/ops.parts" = some 3 := by kernel_rfl
theorem tParts : (Tryz.prog.globals[3]?).map (·.type) = some 200 := by kernel_rfl
theorem cells3 : Tryz.prog.cellsOf 3 = 1 := by kernel_rfl
theorem cellsParts : Tryz.prog.cellsOf 200 = 20 := by kernel_rfl
theorem laidOut : laidOutB Tryz.prog = true := by kernel_rfl
end Go.Proofs.YtldbmdgpdolaaaaGreatDoor
namespace Go.Proofs.YtldbmdgpdolaaaaGreatDoor
open Go Go.ChangeShapes Go.WideShapes Go.ChangeAt Go.RowKit

theorem typesB : Types Tryz.prog 3 113 80 82 22 where
  int := Tryz.underlying3
  ins := ⟨_, Tryz.underlying113, by kernel_rfl, by kernel_rfl, rfl, fun i f h => by
    match i, h with
    | 0, h => simp at h; subst h; rfl
    | 1, h => simp at h; subst h; rfl
    | 2, h => simp at h; subst h; rfl
    | 3, h => simp at h; subst h; rfl
    | 4, h => simp at h; subst h; rfl
    | i + 5, h => simp at h⟩
  inss := Tryz.underlying80
  fn := ⟨_, _, _, Tryz.underlying82, by kernel_rfl, by kernel_rfl, rfl, rfl, rfl⟩
  fns := Tryz.underlying22
  bI := by kernel_rfl
  bF := by kernel_rfl
set_option maxRecDepth 100000 in
theorem open_bodies {H : Type} {enc : TypeId × Value → H} {W : World} {base : Nat} {v : Value} {d : DataW H} {ps : List MemPlace}
    (hv : Value.okWide Tryz.prog W .any base 22 v) (h : DataW.Trod enc Tryz.prog W 0 (fun _ => true) true 22 v d ps) :
    ∃ p : List Fn, ProgVal W v p ∧ ∀ f ∈ p, f.wf := by
  obtain ⟨a0, len, cap, rfl⟩ := okWide_slice Tryz.underlying22 hv
  obtain ⟨fuel, hf⟩ := h
  obtain ⟨p, hp, hwf, _⟩ := open_fns typesB (by simpa [Value.cells] using hf)
  exact ⟨p, hp, hwf⟩
end Go.Proofs.YtldbmdgpdolaaaaGreatDoor
namespace Go.Proofs.YtldbmdgpdolaaaaGreatDoor
open Go Go.RowKit

inductive FV
  | never
  | known (n : Int)
  | many
deriving DecidableEq
def FV.kind : FV → Int
  | .never => 0
  | .known _ => 1
  | .many => 2
def FV.num : FV → Int
  | .known n => n
  | _ => 0
def FV.le : FV → FV → Prop
  | .never, _ => True
  | .known a, .known b => a = b
  | _, .many => True
  | _, _ => False
theorem FV.ext {a b : FV} (h1 : a.kind = b.kind) (h2 : a.num = b.num) : a = b := by
  cases a <;> cases b <;> simp [FV.kind, FV.num] at h1 h2 ⊢
  exact h2
theorem FV.le_refl (a : FV) : a.le a := by cases a <;> simp [FV.le]
theorem FV.le_trans {a b c : FV} (h : a.le b) (k : b.le c) : a.le c := by
  cases a <;> cases b <;> cases c <;> simp [FV.le] at h k ⊢
  exact h.trans k
theorem FV.le_antisymm {a b : FV} (h : a.le b) (k : b.le a) : a = b := by
  cases a <;> cases b <;> simp [FV.le] at h k ⊢
  exact h
theorem FV.never_le (a : FV) : FV.never.le a := by cases a <;> trivial
theorem FV.le_many (a : FV) : a.le .many := by cases a <;> trivial
theorem FV.le_never {a : FV} (h : a.le .never) : a = .never := by cases a <;> simp [FV.le] at h ⊢
def eitherF (a b : FV) : FV := if a = .never ∨ a = b then b else if b = .never then a else .many
theorem eitherF_left (a b : FV) : a.le (eitherF a b) := by
  unfold eitherF
  split
  · rename_i h
    rcases h with rfl | rfl
    · exact FV.never_le _
    · exact FV.le_refl _
  · split
    · exact FV.le_refl _
    · exact FV.le_many _
theorem eitherF_right (a b : FV) : b.le (eitherF a b) := by
  unfold eitherF
  split
  · exact FV.le_refl _
  · split
    · rename_i h; rw [h]; exact FV.never_le _
    · exact FV.le_many _
theorem eitherF_least {a b c : FV} (h : a.le c) (k : b.le c) : (eitherF a b).le c := by
  unfold eitherF
  split
  · exact k
  · split
    · exact h
    · rename_i h1 h2
      cases a <;> cases b <;> cases c <;> simp_all [FV.le]
abbrev Facts := Nat → FV
abbrev Ways := List (Int × Int)
def leF (F F' : Facts) : Prop := ∀ v, (F v).le (F' v)
theorem leF.refl (F : Facts) : leF F F := fun _ => FV.le_refl _
theorem leF.trans {F F' F'' : Facts} (h : leF F F') (k : leF F' F'') : leF F F'' := fun v => FV.le_trans (h v) (k v)
def updF (F : Facts) (v : Nat) (a : FV) : Facts := fun u => if u = v then a else F u
theorem updF_same (F : Facts) (v : Nat) (a : FV) : updF F v a v = a := if_pos rfl
theorem updF_other (F : Facts) {u v : Nat} (a : FV) (h : u ≠ v) : updF F v a u = F u := if_neg h
theorem updF_self (F : Facts) (v : Nat) : updF F v (F v) = F := by
  funext u; unfold updF; split
  · rename_i h; rw [h]
  · rfl
theorem updF_le {F : Facts} {v : Nat} {a : FV} (h : (F v).le a) : leF F (updF F v a) := fun u => by
  by_cases e : u = v
  · rw [e, updF_same]; exact h
  · rw [updF_other _ _ e]; exact FV.le_refl _
structure Site where
  blk : Nat
  id : Nat
  tr : Facts → Ways → FV
structure Know where
  n : Nat
  par : Nat
  prev : Nat → List Int
  goes : Nat → Facts → List Int
  site : Site → Prop
def Know.met (C : Know) (G : Ways) (b : Nat) : Prop := ∃ z ∈ C.prev b, (z, (b : Int)) ∈ G
theorem Know.met_mono {C : Know} {G G' : Ways} (h : ∀ x ∈ G, x ∈ G') {b : Nat} (hm : C.met G b) : C.met G' b := by
  obtain ⟨z, hz, hg⟩ := hm; exact ⟨z, hz, h _ hg⟩
structure Know.Ok (C : Know) : Prop where
  blk : ∀ s, C.site s → s.blk < C.n ∧ C.par ≤ s.id
  mono : ∀ s, C.site s → ∀ F F' G G', leF F F' → (∀ x ∈ G, x ∈ G') → (s.tr F G).le (s.tr F' G')
  uniq : ∀ s s', C.site s → C.site s' → s.id = s'.id → s = s'
  goes : ∀ b, b < C.n → ∀ F F', leF F F' → ∀ z ∈ C.goes b F, z ∈ C.goes b F'
structure Know.Closed (C : Know) (F : Facts) (G : Ways) : Prop where
  par : ∀ v, v < C.par → F v = .many
  start : ((-1, 0) : Int × Int) ∈ G
  site : ∀ s, C.site s → C.met G s.blk → (s.tr F G).le (F s.id)
  go : ∀ b, b < C.n → C.met G b → ∀ z ∈ C.goes b F, ((b : Int), z) ∈ G
structure Know.Inv (C : Know) (F : Facts) (G : Ways) : Prop where
  par : ∀ v, v < C.par → F v = .many
  start : ((-1, 0) : Int × Int) ∈ G
  asc : ∀ s, C.site s → F s.id ≠ .never → C.met G s.blk ∧ (F s.id).le (s.tr F G)
  least : ∀ F' G', C.Closed F' G' → leF F F' ∧ ∀ x ∈ G, x ∈ G'
theorem Know.Inv.new {C : Know} (hC : C.Ok) : C.Inv (fun v => if v < C.par then .many else .never) [(-1, 0)] := by
  refine ⟨fun v hv => if_pos hv, by simp, fun s hs h => ?_, fun F' G' h => ⟨fun v => ?_, fun x hx => ?_⟩⟩
  · rw [if_neg (by have := (hC.blk s hs).2; omega)] at h; exact absurd rfl h
  · show FV.le (if v < C.par then .many else .never) _
    by_cases hv : v < C.par
    · rw [if_pos hv, h.par v hv]; exact FV.le_refl _
    · rw [if_neg hv]; exact FV.never_le _
  · have : x = (-1, 0) := by simpa using hx
    rw [this]; exact h.start
theorem Know.Inv.rises {C : Know} {F : Facts} {G : Ways} (h : C.Inv F G) {s : Site} (hs : C.site s) : (F s.id).le (s.tr F G) := by
  by_cases hn : F s.id = .never
  · rw [hn]; exact FV.never_le _
  · exact (h.asc s hs hn).2
theorem Know.Inv.rise {C : Know} (hC : C.Ok) {F : Facts} {G : Ways} (h : C.Inv F G) {s : Site} (hs : C.site s) (hm : C.met G s.blk) : C.Inv (updF F s.id (s.tr F G)) G := by
  have hle : leF F (updF F s.id (s.tr F G)) := updF_le (h.rises hs)
  refine ⟨fun v hv => ?_, h.start, fun s' hs' hn => ?_, fun F' G' hc => ⟨fun v => ?_, (h.least F' G' hc).2⟩⟩
  · rw [updF_other _ _ (by have := (hC.blk s hs).2; omega)]; exact h.par v hv
  · by_cases e : s'.id = s.id
    · have e := hC.uniq s' s hs' hs e
      subst e
      refine ⟨hm, ?_⟩
      rw [updF_same]
      exact hC.mono s' hs _ _ _ _ hle (fun _ h => h)
    · rw [updF_other _ _ e] at hn ⊢
      obtain ⟨h1, h2⟩ := h.asc s' hs' hn
      exact ⟨h1, FV.le_trans h2 (hC.mono s' hs' _ _ _ _ hle (fun _ h => h))⟩
  · obtain ⟨h1, h2⟩ := h.least F' G' hc
    by_cases e : v = s.id
    · rw [e, updF_same]
      exact FV.le_trans (hC.mono s hs _ _ _ _ h1 h2) (hc.site s hs (Know.met_mono h2 hm))
    · rw [updF_other _ _ e]; exact h1 v
theorem Know.Inv.go {C : Know} (hC : C.Ok) {F : Facts} {G : Ways} (h : C.Inv F G) {b : Nat} (hb : b < C.n) (hm : C.met G b) {z : Int} (hz : z ∈ C.goes b F) {G' : Ways} (hG : ∀ x, x ∈ G' ↔ x = ((b : Int), z) ∨ x ∈ G) : C.Inv F G' := by
  have hsub : ∀ x ∈ G, x ∈ G' := fun x hx => (hG x).2 (Or.inr hx)
  refine ⟨h.par, hsub _ h.start, fun s hs hn => ?_, fun F' G2 hc => ?_⟩
  · obtain ⟨h1, h2⟩ := h.asc s hs hn
    exact ⟨Know.met_mono hsub h1, FV.le_trans h2 (hC.mono s hs _ _ _ _ (leF.refl _) hsub)⟩
  · obtain ⟨h1, h2⟩ := h.least F' G2 hc
    refine ⟨h1, fun x hx => ?_⟩
    rcases (hG x).1 hx with rfl | hx
    · exact hc.go b hb (Know.met_mono h2 hm) z (hC.goes b hb _ _ h1 z hz)
    · exact h2 x hx
def rkF : FV → Nat
  | .never => 0
  | .known _ => 1
  | .many => 2
theorem rkF_le {a b : FV} (h : a.le b) : rkF a ≤ rkF b := by cases a <;> cases b <;> simp [FV.le, rkF] at h ⊢
theorem rkF_lt {a b : FV} (h : a.le b) (hn : a ≠ b) : rkF a < rkF b := by cases a <;> cases b <;> simp_all [FV.le, rkF]
theorem rkF_two (a : FV) : rkF a ≤ 2 := by cases a <;> simp [rkF]
def sumF (F : Facts) : Nat → Nat
  | 0 => 0
  | v + 1 => sumF F v + rkF (F v)
theorem sumF_le {F F' : Facts} (h : leF F F') : ∀ v, sumF F v ≤ sumF F' v
  | 0 => Nat.le_refl _
  | v + 1 => Nat.add_le_add (sumF_le h v) (rkF_le (h v))
theorem sumF_lt {F F' : Facts} (h : leF F F') {u : Nat} (hn : F u ≠ F' u) : ∀ v, u < v → sumF F v < sumF F' v
  | 0, hu => by omega
  | v + 1, hu => by
    rw [sumF, sumF]
    by_cases e : u = v
    · subst e; have := sumF_le h u; have := rkF_lt (h u) hn; omega
    · have := sumF_lt h hn v (by omega); have := rkF_le (h v); omega
theorem sumF_two (F : Facts) : ∀ v, sumF F v ≤ 2 * v
  | 0 => Nat.le_refl _
  | v + 1 => by rw [sumF]; have := sumF_two F v; have := rkF_two (F v); omega
structure Know.Mid (C : Know) (VN : Nat) (F0 : Facts) (G0 : Ways) (F : Facts) (G : Ways) (rose : Bool) (doneS : Site → Prop) (doneB : Nat → Prop) : Prop where
  inv : C.Inv F G
  le : leF F0 F
  sub : ∀ x ∈ G0, x ∈ G
  len : G0.length ≤ G.length
  same : rose = false → F = F0
  more : rose = true → ∃ v, v < VN ∧ F0 v ≠ F v
  grew : G.length = G0.length → G = G0
  site : rose = false → G = G0 → ∀ s, C.site s → doneS s → C.met G0 s.blk → (s.tr F0 G0).le (F0 s.id)
  go : rose = false → G = G0 → ∀ b, doneB b → C.met G0 b → ∀ z ∈ C.goes b F0, ((b : Int), z) ∈ G0
theorem Know.Mid.new {C : Know} {VN : Nat} {F : Facts} {G : Ways} (h : C.Inv F G) : C.Mid VN F G F G false (fun _ => False) (fun _ => False) :=
  ⟨h, leF.refl _, fun _ h => h, Nat.le_refl _, fun _ => rfl, (fun e => by cases e), fun _ => rfl, (fun _ _ _ _ h => h.elim), (fun _ _ _ h => h.elim)⟩
theorem Know.Mid.weak {C : Know} {VN : Nat} {F0 F : Facts} {G0 G : Ways} {rose : Bool} {dS dS' : Site → Prop} {dB dB' : Nat → Prop} (h : C.Mid VN F0 G0 F G rose dS dB) (h1 : ∀ s, C.site s → dS' s → C.met G0 s.blk → dS s) (h2 : ∀ b, dB' b → C.met G0 b → dB b) : C.Mid VN F0 G0 F G rose dS' dB' :=
  ⟨h.inv, h.le, h.sub, h.len, h.same, h.more, h.grew, fun a b s hs hd hm => h.site a b s hs (h1 s hs hd hm) hm, fun a b c hd hm => h.go a b c (h2 c hd hm) hm⟩
theorem Know.Mid.rise {C : Know} (hC : C.Ok) {VN : Nat} {F0 F : Facts} {G0 G : Ways} {rose : Bool} {dS : Site → Prop} {dB : Nat → Prop} (h : C.Mid VN F0 G0 F G rose dS dB) {s : Site} (hs : C.site s) (hv : s.id < VN) (hm : C.met G s.blk) : C.Mid VN F0 G0 (updF F s.id (s.tr F G)) G (rose || decide (F s.id ≠ s.tr F G)) (fun x => dS x ∨ x = s) dB := by
  have hi := h.inv.rise hC hs hm
  have hle : leF F (updF F s.id (s.tr F G)) := updF_le (h.inv.rises hs)
  have hF : F s.id = s.tr F G → updF F s.id (s.tr F G) = F := fun e => by
    rw [← e]; exact updF_self F s.id
  have hr : (rose || decide (F s.id ≠ s.tr F G)) = false → rose = false ∧ F s.id = s.tr F G := fun e => by
    rw [Bool.or_eq_false_iff] at e
    exact ⟨e.1, Classical.not_not.1 (of_decide_eq_false e.2)⟩
  refine ⟨hi, h.le.trans hle, h.sub, h.len, fun e => ?_, fun e => ?_, h.grew, fun e eG x hx hd hmx => ?_, fun e eG b hd hmb => ?_⟩
  · obtain ⟨e1, e2⟩ := hr e
    rw [hF e2]; exact h.same e1
  · rw [Bool.or_eq_true] at e
    by_cases e3 : F s.id = s.tr F G
    · rw [hF e3]
      rcases e with e | e
      · exact h.more e
      · exact absurd e3 (of_decide_eq_true e)
    · refine ⟨s.id, hv, fun e4 => ?_⟩
      rw [updF_same] at e4
      have h1 := h.le s.id
      have h2 := h.inv.rises hs
      rw [e4] at h1
      exact e3 (FV.le_antisymm h2 h1)
  · obtain ⟨e1, e2⟩ := hr e
    rcases hd with hd | rfl
    · exact h.site e1 eG x hx hd hmx
    · have e3 := h.same e1
      rw [← e3, ← eG, ← e2]
      exact FV.le_refl _
  · obtain ⟨e1, -⟩ := hr e
    exact h.go e1 eG b hd hmb
theorem Know.Mid.go1 {C : Know} (hC : C.Ok) {VN : Nat} {F0 F : Facts} {G0 G G' : Ways} {rose : Bool} {dS : Site → Prop} {dB : Nat → Prop} (h : C.Mid VN F0 G0 F G rose dS dB) {b : Nat} (hb : b < C.n) (hm : C.met G b) {z : Int} (hz : z ∈ C.goes b F) (hG : G' = if ((b : Int), z) ∈ G then G else G ++ [((b : Int), z)]) : C.Mid VN F0 G0 F G' rose dS dB := by
  have hx : ∀ x, x ∈ G' ↔ x = ((b : Int), z) ∨ x ∈ G := fun x => by
    rw [hG]; split
    · rename_i h1
      exact ⟨Or.inr, fun h2 => h2.elim (fun e => by rw [e]; exact h1) id⟩
    · rw [List.mem_append, List.mem_singleton]; exact Or.comm
  have hl : G.length ≤ G'.length := by rw [hG]; split <;> simp
  have hgr : G'.length = G0.length → G' = G ∧ G.length = G0.length := fun e => by
    have := h.len
    have e2 : G.length = G0.length := by omega
    refine ⟨?_, e2⟩
    rw [hG] at e ⊢
    split
    · rfl
    · rename_i h1; rw [if_neg h1, List.length_append] at e; simp at e; omega
  have hsame : G' = G0 → G' = G ∧ G = G0 := fun e => by
    obtain ⟨e1, e2⟩ := hgr (by rw [e])
    exact ⟨e1, h.grew e2⟩
  refine ⟨h.inv.go hC hb hm hz hx, h.le, fun x hx2 => (hx x).2 (Or.inr (h.sub x hx2)), Nat.le_trans h.len hl, h.same, h.more, fun e => ?_, fun e eG => ?_, fun e eG => ?_⟩
  · obtain ⟨e1, e2⟩ := hgr e; rw [e1]; exact h.grew e2
  · exact h.site e (hsame eG).2
  · exact h.go e (hsame eG).2
theorem Know.Mid.goAll {C : Know} {VN : Nat} {F0 F : Facts} {G0 G : Ways} {rose : Bool} {dS : Site → Prop} {dB : Nat → Prop} (h : C.Mid VN F0 G0 F G rose dS dB) {b : Nat} (hz : ∀ z ∈ C.goes b F, ((b : Int), z) ∈ G) : C.Mid VN F0 G0 F G rose dS (fun x => dB x ∨ x = b) := by
  refine ⟨h.inv, h.le, h.sub, h.len, h.same, h.more, h.grew, h.site, fun e eG x hd hm => ?_⟩
  rcases hd with hd | rfl
  · exact h.go e eG x hd hm
  · rw [← h.same e, ← eG]; exact hz
theorem Know.Mid.closed {C : Know} {VN : Nat} {F0 F : Facts} {G0 G : Ways} {rose : Bool} {dS : Site → Prop} {dB : Nat → Prop} (h : C.Mid VN F0 G0 F G rose dS dB) (hS : ∀ s, C.site s → C.met G0 s.blk → dS s) (hB : ∀ b, b < C.n → C.met G0 b → dB b) (hr : rose = false) (hg : ¬ G0.length < G.length) : F = F0 ∧ G = G0 ∧ C.Closed F0 G0 := by
  have eG := h.grew (by have := h.len; omega)
  have eF := h.same hr
  refine ⟨eF, eG, ?_⟩
  have hi := h.inv
  rw [eF, eG] at hi
  exact ⟨hi.par, hi.start, fun s hs hm => h.site hr eG s hs (hS s hs hm) hm, fun b hb hm => h.go hr eG b (hB b hb hm) hm⟩
theorem Know.Mid.less {C : Know} {VN : Nat} {F0 F : Facts} {G0 G : Ways} {rose : Bool} {dS : Site → Prop} {dB : Nat → Prop} (h : C.Mid VN F0 G0 F G rose dS dB) (hr : rose = true ∨ G0.length < G.length) : sumF F0 VN + G0.length < sumF F VN + G.length := by
  have h1 := sumF_le h.le VN
  have h2 := h.len
  rcases hr with hr | hr
  · obtain ⟨v, hv, hn⟩ := h.more hr
    have := sumF_lt h.le hn VN hv
    omega
  · omega
theorem Know.Inv.unique {C : Know} {F F' : Facts} {G G' : Ways} (h : C.Inv F G) (k : C.Closed F G) (h' : C.Inv F' G') (k' : C.Closed F' G') : F = F' ∧ ∀ x, x ∈ G ↔ x ∈ G' := by
  obtain ⟨a1, a2⟩ := h.least _ _ k'
  obtain ⟨b1, b2⟩ := h'.least _ _ k
  exact ⟨funext fun v => FV.le_antisymm (a1 v) (b1 v), fun x => ⟨a2 x, b2 x⟩⟩
end Go.Proofs.YtldbmdgpdolaaaaGreatDoor
