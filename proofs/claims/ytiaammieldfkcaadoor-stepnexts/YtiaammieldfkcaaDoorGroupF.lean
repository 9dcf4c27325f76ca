/- Texts put together: Picked, Func, FuncAll, Shaped, ShapeOk, FullMath, ProgRaw. -/
import Derived.Test.YtiaammieldfkcaaDoorGroupR
import Derived.Test.YtiaammieldfkcaaDoorProg
import Derived.WalkLawsBesides
import Derived.Test.YtiaammieldfkcaaDoorGroupA
import Derived.Deep.RegionWith
import Derived.Deep.RegionHeld3
import Derived.BigRegion
import Derived.Deep.DeepCutAuto
import Derived.Deep.LoopGhost
import Derived.Test.YtiaammieldfkcaaDoorGroupB
import Derived.Test.YtiaammieldfkcaaDoorGroupC
import Derived.Deep.AppendLies
/- Contracts of tierlinekeep.picked and tierlinekeep.instr: an instruction of raw numbers. -/
namespace Go.Proofs.YtiaammieldfkcaaDoor
open Go Go.RowKit

def pickI (n many : Int) : Int := (if n < 0 then -(n + 1) else n) % many
theorem pickI_bounds (n many : Int) (h : 0 < many) : 0 ≤ pickI n many ∧ pickI n many < many := by
  unfold pickI
  exact ⟨Int.emod_nonneg _ (by omega), Int.emod_lt_of_pos _ h⟩

/-- An instruction of raw numbers. -/
def mkIns (x : Ins) (regs places funcs : Int) : Ins :=
  if 1 + pickI x.op 19 = 1 then ⟨1 + pickI x.op 19, pickI x.dst regs, 0, 0, x.imm⟩
  else if 1 + pickI x.op 19 ≤ 12 then ⟨1 + pickI x.op 19, pickI x.dst regs, pickI x.a regs, pickI x.b regs, 0⟩
  else if 1 + pickI x.op 19 = 13 ∨ 1 + pickI x.op 19 = 18 then ⟨1 + pickI x.op 19, pickI x.dst regs, pickI x.a regs, 0, 0⟩
  else if 1 + pickI x.op 19 = 14 then ⟨1 + pickI x.op 19, 0, pickI x.a regs, pickI x.b regs, 0⟩
  else if 1 + pickI x.op 19 = 15 then ⟨1 + pickI x.op 19, 0, 0, 0, pickI x.imm places⟩
  else if 1 + pickI x.op 19 = 16 then ⟨1 + pickI x.op 19, 0, pickI x.a regs, 0, pickI x.imm places⟩
  else if 1 + pickI x.op 19 = 17 then ⟨1 + pickI x.op 19, pickI x.dst regs, pickI x.a regs, pickI x.b regs, pickI x.imm funcs⟩
  else ⟨1 + pickI x.op 19, 0, pickI x.a regs, 0, 0⟩

end Go.Proofs.YtiaammieldfkcaaDoor

/- Contract of tierlinekeep.function: a function of raw numbers. -/
namespace Go.Proofs.YtiaammieldfkcaaDoor
open Go Go.RowKit

theorem cell_third {w : World} {o1 o2 : Obj} {cs : Array Value} {t i : Nat} {v : Value} (h : cs[i]? = some v) : (((w.alloc o1).alloc o2).alloc (.cells cs t)).cell? ⟨w.heap.size + 1 + 1, i, none⟩ = some v := by
  have hb := heap_alloc_new ((w.alloc o1).alloc o2) (.cells cs t)
  simp only [World.size_alloc] at hb
  rw [cell_of_row _ _ i cs t (0, 0) hb, h]

/-- Five stores into a block of five. -/
theorem heap_set5 {w : World} {g t : Nat} {z0 z1 z2 z3 z4 : Value} (h : w.heap[g]? = some (.cells #[z0, z1, z2, z3, z4] t)) (a b c d e : Value) :
    (((((w.setCell ⟨g, 0, none⟩ a).setCell ⟨g, 1, none⟩ b).setCell ⟨g, 2, none⟩ c).setCell ⟨g, 3, none⟩ d).setCell ⟨g, 4, none⟩ e).heap[g]? = some (.cells #[a, b, c, d, e] t) := by
  have h0 := heap_setCell_same w g 0 _ t a h
  have h1 := heap_setCell_same _ g 1 _ t b h0
  have h2 := heap_setCell_same _ g 2 _ t c h1
  have h3 := heap_setCell_same _ g 3 _ t d h2
  have h4 := heap_setCell_same _ g 4 _ t e h3
  rw [h4]
  rfl

/-- One instruction more: the row grew, and the field that leads to it was set. -/
theorem fn_step {w wc w4 : World} {O tI tF n : Nat} {p r vc v4 : Value} {xs ys : List Value} {o : Obj} {oA oB : Obj} (hO2 : w.heap.size + 1 + 1 = O)
    (h0 : wc.heap[w.heap.size]? = some oA) (h1 : wc.heap[w.heap.size + 1]? = some oB) (h2 : wc.heap[O]? = some (.cells #[p, r, vc] tF)) (hown : wc.ownsRow (w.heap.size + 3) tI 5 vc n xs) (hb : Below w.heap.size w wc)
    (hg : (wc.alloc o).grownBy w4 vc.ownBlock) (hown4 : w4.ownsRow (w.heap.size + 3) tI 5 v4 (n + 1) (xs ++ ys)) :
    w4.heap[O]? = some (.cells #[p, r, vc] tF) ∧ (w4.setCell ⟨O, 2, none⟩ v4).heap[w.heap.size]? = some oA ∧ (w4.setCell ⟨O, 2, none⟩ v4).heap[w.heap.size + 1]? = some oB ∧ (w4.setCell ⟨O, 2, none⟩ v4).heap[O]? = some (.cells #[p, r, v4] tF) ∧
      (w4.setCell ⟨O, 2, none⟩ v4).ownsRow (w.heap.size + 3) tI 5 v4 (n + 1) (xs ++ ys) ∧ Below w.heap.size w (w4.setCell ⟨O, 2, none⟩ v4) := by
  subst hO2
  have hrow : ∀ k, vc.ownBlock = some k → w.heap.size + 3 ≤ k := fun k hk => (hown.lt k hk).1
  have hz := lt_of_block h2
  have keep : ∀ j ob, j < w.heap.size + 3 → wc.heap[j]? = some ob → w4.heap[j]? = some ob := fun j ob hj hob =>
    (hg.block j (by have := lt_of_block hob; simp; omega) (fun e => by have := hrow j e.symm; omega)).trans ((heap_alloc_old _ _ (lt_of_block hob)).trans hob)
  have e2 := keep _ _ (by omega) h2
  refine ⟨e2, ?_, ?_, ?_, ownsRow_setCell_below hown4 (by simp) _, ?_⟩
  · rw [Below.heap_setCell _ _ _ _ (by simp; omega)]; exact keep _ _ (by omega) h0
  · rw [Below.heap_setCell _ _ _ _ (by simp)]; exact keep _ _ (by omega) h1
  · rw [heap_setCell_same w4 _ 2 _ tF v4 e2]; rfl
  · exact (((hb.alloc (by have := hb.size; omega) _).grown hg (by have := hb.size; simp; omega) (fun k hk => by have := hrow k hk; omega))).setCell (by simp; omega) _

/-- A function of raw numbers. -/
def mkFn (b : Fn) (funcs : Int) : Fn :=
  let params := pickI b.params 3
  let regs := max params 1 + pickI b.regs 11
  let n := min b.code.length 22
  ⟨params, regs, (b.code.take n).map (fun x => mkIns x regs (n + 2 : Nat) funcs) ++ [⟨1, 0, 0, 0, 7⟩, ⟨19, 0, 0, 0, 0⟩]⟩

end Go.Proofs.YtiaammieldfkcaaDoor

/- Contract of tierlinekeep.function where all registers are set first: a function of raw numbers. -/
namespace Go.Proofs.YtiaammieldfkcaaDoor
open Go Go.RowKit

/-- Registers that are set first. -/
def preL (p : Int) (j : Nat) : List Ins := (List.range j).map fun (i : Nat) => ⟨1, p + i, 0, 0, p + i⟩
theorem preL_succ (p : Int) (j : Nat) : preL p (j + 1) = preL p j ++ [⟨1, p + j, 0, 0, p + j⟩] := by simp [preL, List.range_succ]
theorem preL_length (p : Int) (j : Nat) : (preL p j).length = j := by simp [preL]
theorem pre_step {p : Int} {j : Nat} : p + (j : Int) + 1 = p + ((j + 1 : Nat) : Int) := by omega

/-- A function of raw numbers, all registers set first. -/
def mkAll (b : Fn) (funcs : Int) : Fn :=
  let params := pickI b.params 3
  let regs := max params 1 + pickI b.regs 11
  let n := min b.code.length 22
  let k := (regs - params).toNat
  ⟨params, regs, (preL params k ++ (b.code.take n).map (fun x => mkIns x regs (k + n + 2 : Nat) funcs)) ++ [⟨1, 0, 0, 0, 7⟩] ++ [⟨19, 0, 0, 0, 0⟩]⟩

end Go.Proofs.YtiaammieldfkcaaDoor

/- Contract of tierlinekeep.shaped: a program of raw numbers, in memory of its own. -/
namespace Go.Proofs.YtiaammieldfkcaaDoor
open Go Go.RowKit

/-- One function more, laid beside the others; the variable that leads to them was set. -/
theorem built_more {wx w3 : World} {base tF tI tP O : Nat} {vo u v3 : Value} {P : List Fn} {us : List Value} {f : Fn} (ht : tI ≠ tF) (hO : O < base)
    (hbt : Built wx base tF tI vo P us) (ho : wx.heap[O]? = some (.cells #[vo] tP (0, 0))) (hu : wx.ownsRow base tI 5 u f.code.length (codeCells f.code)) (hB : base ≤ wx.heap.size)
    (hg : wx.grownBy w3 vo.ownBlock) (hown3 : w3.ownsRow base tF 3 v3 (P.length + 1) (fnsCells P us ++ fnCells f u)) :
    w3.heap[O]? = some (.cells #[vo] tP (0, 0)) ∧ Built (w3.setCell ⟨O, 0, none⟩ v3) base tF tI v3 (P ++ [f]) (us ++ [u]) ∧ (w3.setCell ⟨O, 0, none⟩ v3).heap[O]? = some (.cells #[v3] tP (0, 0)) ∧
      ∀ B' W0, B' ≤ O → Below B' W0 wx → Below B' W0 (w3.setCell ⟨O, 0, none⟩ v3) := by
  have hrow : ∀ k, vo.ownBlock = some k → base ≤ k := fun k hk => (hbt.row.lt k hk).1
  have ho3 : w3.heap[O]? = some (.cells #[vo] tP (0, 0)) := (hg.block O (lt_of_block ho) (fun e => by have := hrow O e.symm; omega)).trans ho
  refine ⟨ho3, (hbt.snoc ht hu hown3 hg).setCell hO _, one_setCell ho3, fun B' W0 hB' h => ?_⟩
  exact (h.grown hg (by omega) (fun k hk => by have := hrow k hk; omega)).setCell hB' _

theorem built_base {w : World} {base base' tF tI : Nat} {v : Value} {p : List Fn} {us : List Value} (h : Built w base tF tI v p us) (hb : base' ≤ base) : Built w base' tF tI v p us :=
  ⟨h.len, own_base h.row hb, fun i hi => own_base (h.codes i hi) hb⟩

/-- The codes of a built program lie in blocks of their own. -/
def CodesApart (us : List Value) : Prop := ∀ (i j : Nat) (u v : Value), us[i]? = some u → us[j]? = some v → i ≠ j → u.ownBlock = none ∨ u.ownBlock ≠ v.ownBlock
theorem codesApart_nil : CodesApart [] := fun i j u v hu _ _ => by simp at hu
theorem codesApart_snoc {us : List Value} {u : Value} (h : CodesApart us) (hu : ∀ v ∈ us, ∀ k, v.ownBlock = some k → u.ownBlock ≠ some k) : CodesApart (us ++ [u]) := by
  intro i j x y hx hy hij
  have get : ∀ (m : Nat) (z : Value), (us ++ [u])[m]? = some z → (m < us.length ∧ us[m]? = some z) ∨ (m = us.length ∧ z = u) := fun m z hz => by
    rcases Nat.lt_or_ge m us.length with h1 | h1
    · rw [List.getElem?_append_left h1] at hz; exact Or.inl ⟨h1, hz⟩
    · rw [List.getElem?_append_right h1] at hz
      rcases Nat.eq_zero_or_pos (m - us.length) with h2 | h2
      · rw [h2] at hz; simp at hz; exact Or.inr ⟨by omega, hz.symm⟩
      · rw [List.getElem?_eq_none (by simp; omega)] at hz; simp at hz
  rcases get i x hx with ⟨_, hx'⟩ | ⟨hi, hxu⟩ <;> rcases get j y hy with ⟨_, hy'⟩ | ⟨hj, hyu⟩
  · exact h i j x y hx' hy' hij
  · cases hb : x.ownBlock with
    | none => exact Or.inl rfl
    | some k => right; intro e; rw [hyu] at e; exact hu x (List.mem_of_getElem? hx') k hb e.symm
  · cases hb : x.ownBlock with
    | none => exact Or.inl rfl
    | some k => right; intro e; rw [hxu] at hb; exact hu y (List.mem_of_getElem? hy') k e.symm hb
  · omega
/-- A code that lies in new memory is none of the others'. -/
theorem codesApart_new {w w1 : World} {base base1 tF tI m : Nat} {vo u : Value} {P : List Fn} {us : List Value} {xs : List Value} (hbt : Built w base tF tI vo P us) (ha : CodesApart us) (hu : w1.ownsRow base1 tI 5 u m xs) (hb : w.heap.size ≤ base1) : CodesApart (us ++ [u]) :=
  codesApart_snoc ha fun v hv k hk e => by
    obtain ⟨i, hi⟩ := List.getElem?_of_mem hv
    have hil : i < us.length := (List.getElem?_eq_some_iff.1 hi).1
    have hip : i < P.length := by rw [← hbt.len]; exact hil
    have h1 := hbt.codes i hip
    have e1 : us[i] = v := by rw [List.getElem?_eq_getElem hil] at hi; exact Option.some.inj hi
    rw [e1] at h1
    have h2 := (h1.lt k hk).2
    have h3 := (hu.lt k e).1
    omega

/-- The body at a place; none: an empty one. -/
def bodyAt (l : List Fn) (i : Nat) : Fn := l.getD i ⟨0, 0, []⟩
def shapedN (l : List Fn) : Nat := min (max l.length 1) 4
def shapedPart (l : List Fn) (N k : Nat) : List Fn := (List.range k).map fun i => mkFn (bodyAt l i) N
theorem shapedPart_length (l : List Fn) (N k : Nat) : (shapedPart l N k).length = k := by simp [shapedPart]
theorem shapedPart_succ (l : List Fn) (N k : Nat) : shapedPart l N (k + 1) = shapedPart l N k ++ [mkFn (bodyAt l k) N] := by simp [shapedPart, List.range_succ]
def shapedP (l : List Fn) : List Fn := shapedPart l (shapedN l) (shapedN l)

end Go.Proofs.YtiaammieldfkcaaDoor

/- Programs of raw numbers are well shaped. -/
namespace Go.Proofs.YtiaammieldfkcaaDoor
open Go Go.RowKit

theorem mkIns_ok (x : Ins) (regs places funcs : Int) (h1 : 1 ≤ regs) (h3 : 1 ≤ places) (h5 : 1 ≤ funcs) : codeInstr (mkIns x regs places funcs) regs places funcs = 0 := by
  rw [instr_same]
  have bO := pickI_bounds x.op 19 (by decide)
  have bD := pickI_bounds x.dst regs (by omega)
  have bA := pickI_bounds x.a regs (by omega)
  have bB := pickI_bounds x.b regs (by omega)
  have bP := pickI_bounds x.imm places (by omega)
  have bF := pickI_bounds x.imm funcs (by omega)
  unfold mkIns
  generalize pickI x.op 19 = O at *
  generalize pickI x.dst regs = D at *
  generalize pickI x.a regs = A at *
  generalize pickI x.b regs = B at *
  generalize pickI x.imm places = P at *
  generalize pickI x.imm funcs = F at *
  obtain ⟨m, rfl⟩ : ∃ m : Nat, O = m := ⟨O.toNat, by omega⟩
  have hm : m = 0 ∨ m = 1 ∨ m = 2 ∨ m = 3 ∨ m = 4 ∨ m = 5 ∨ m = 6 ∨ m = 7 ∨ m = 8 ∨ m = 9 ∨ m = 10 ∨ m = 11 ∨ m = 12 ∨ m = 13 ∨ m = 14 ∨ m = 15 ∨ m = 16 ∨ m = 17 ∨ m = 18 := by omega
  rcases hm with rfl | rfl | rfl | rfl | rfl | rfl | rfl | rfl | rfl | rfl | rfl | rfl | rfl | rfl | rfl | rfl | rfl | rfl | rfl
  all_goals
    simp [refInstr, refOk1, refOk2, regMayB, setsB, readsAB, readsBB, inB]
    try omega

theorem mkFn_ok (b : Fn) (funcs : Int) (h5 : 1 ≤ funcs) : codeFunc (mkFn b funcs) funcs = 0 := by
  have bP := pickI_bounds b.params 3 (by decide)
  have bR := pickI_bounds b.regs 11 (by decide)
  have hlen : (mkFn b funcs).code.length = min b.code.length 22 + 2 := by simp [mkFn]
  unfold codeFunc
  rw [hlen]
  have e1 : (mkFn b funcs).regs = max (pickI b.params 3) 1 + pickI b.regs 11 := rfl
  have e2 : (mkFn b funcs).params = pickI b.params 3 := rfl
  have e3 : (mkFn b funcs).code = (b.code.take (min b.code.length 22)).map (fun x => mkIns x (max (pickI b.params 3) 1 + pickI b.regs 11) (min b.code.length 22 + 2 : Nat) funcs) ++ [⟨1, 0, 0, 0, 7⟩, ⟨19, 0, 0, 0, 0⟩] := rfl
  rw [e1, e2]
  rw [if_neg (by omega), if_neg (by omega), if_neg (by omega), if_neg (by omega), if_neg (by omega), if_neg (by omega), if_neg (by omega)]
  have all : ∀ y ∈ (mkFn b funcs).code, codeInstr y (max (pickI b.params 3) 1 + pickI b.regs 11) (min b.code.length 22 + 2 : Nat) funcs = 0 := by
    rw [e3]
    intro y hy
    rcases List.mem_append.1 hy with hy | hy
    · obtain ⟨x, _, rfl⟩ := List.mem_map.1 hy
      exact mkIns_ok x _ _ _ (by omega) (by omega) h5
    · rw [instr_same]
      simp at hy
      rcases hy with rfl | rfl
      · simp [refInstr, refOk1, refOk2, regMayB, setsB, readsAB, readsBB, inB]; omega
      · simp [refInstr, refOk1, refOk2, regMayB, setsB, readsAB, readsBB, inB]; omega
  generalize (mkFn b funcs).code = c at all
  induction c with
  | nil => rfl
  | cons y r ih =>
    unfold firstErr
    rw [if_pos (all y (by simp))]
    exact ih (fun z hz => all z (by simp [hz]))

theorem shaped_ok (l : List Fn) : codeProg (shapedP l) = 0 := by
  have hl : (shapedP l).length = shapedN l := by simp [shapedP, shapedPart]
  have h1 : 1 ≤ shapedN l := by unfold shapedN; omega
  have h4 : shapedN l ≤ 4 := by unfold shapedN; omega
  unfold codeProg
  rw [hl, if_neg (by omega), if_neg (by omega)]
  have all : ∀ f ∈ shapedP l, codeFunc f (shapedN l) = 0 := by
    intro f hf
    obtain ⟨i, _, rfl⟩ := List.mem_map.1 hf
    exact mkFn_ok _ _ (by omega)
  generalize shapedP l = c at all
  clear hl
  induction c with
  | nil => rfl
  | cons y r ih =>
    unfold firstErr
    rw [if_pos (all y (by simp))]
    exact ih (fun z hz => all z (by simp [hz]))

end Go.Proofs.YtiaammieldfkcaaDoor

/- Programs of raw numbers whose registers are all set first are right: plain mathematics. -/
namespace Go.Proofs.YtiaammieldfkcaaDoor
open Go Go.RowKit

theorem mkAll_code (b : Fn) (N : Int) : ∃ (K n : Nat) (R : Int) (xs : List Ins), (mkAll b N).params = pickI b.params 3 ∧ (mkAll b N).regs = R ∧ R = max (pickI b.params 3) 1 + pickI b.regs 11 ∧ (K : Int) = R - pickI b.params 3 ∧ n = min b.code.length 22 ∧ xs.length = n ∧
    (mkAll b N).code = preL (pickI b.params 3) K ++ xs.map (fun x => mkIns x R (K + n + 2 : Nat) N) ++ [⟨1, 0, 0, 0, 7⟩, ⟨19, 0, 0, 0, 0⟩] ∧ K ≤ 12 ∧ 1 ≤ R ∧ R ≤ 12 := by
  have bP := pickI_bounds b.params 3 (by decide)
  have bR := pickI_bounds b.regs 11 (by decide)
  refine ⟨(max (pickI b.params 3) 1 + pickI b.regs 11 - pickI b.params 3).toNat, min b.code.length 22, max (pickI b.params 3) 1 + pickI b.regs 11, b.code.take (min b.code.length 22), rfl, rfl, rfl, by omega, rfl, by simp, ?_, by omega, by omega, by omega⟩
  unfold mkAll
  dsimp only
  rw [List.append_assoc]
  rfl

theorem firstErr_all {α : Type} {g : α → Int} : ∀ {l : List α}, (∀ x ∈ l, g x = 0) → firstErr g l = 0
  | [], _ => rfl
  | y :: r, h => by
    unfold firstErr
    rw [if_pos (h y (by simp))]
    exact firstErr_all fun z hz => h z (by simp [hz])

theorem mkAll_ok (b : Fn) (funcs : Int) (h5 : 1 ≤ funcs) : codeFunc (mkAll b funcs) funcs = 0 := by
  have bP := pickI_bounds b.params 3 (by decide)
  have bR := pickI_bounds b.regs 11 (by decide)
  obtain ⟨K, n, R, xs, e1, e2, e3, e4, e5, e6, e7, _, r1, r2⟩ := mkAll_code b funcs
  have hlen : (mkAll b funcs).code.length = K + n + 2 := by rw [e7]; simp [preL_length, e6]; omega
  unfold codeFunc
  rw [hlen, e1, e2]
  rw [if_neg (by omega), if_neg (by omega), if_neg (by omega), if_neg (by omega), if_neg (by omega), if_neg (by omega), if_neg (by omega)]
  refine firstErr_all ?_
  rw [e7]
  intro y hy
  rw [instr_same]
  rcases List.mem_append.1 hy with hy | hy
  · rcases List.mem_append.1 hy with hy | hy
    · unfold preL at hy
      obtain ⟨i, hi, rfl⟩ := List.mem_map.1 hy
      have hi' : i < K := by simpa using hi
      simp [refInstr, refOk1, refOk2, regMayB, setsB, readsAB, readsBB, inB]
      omega
    · obtain ⟨x, _, rfl⟩ := List.mem_map.1 hy
      have := mkIns_ok x R ((K + n + 2 : Nat) : Int) funcs (by omega) (by omega) h5
      rw [instr_same] at this
      exact this
  · simp at hy
    rcases hy with rfl | rfl
    · simp [refInstr, refOk1, refOk2, regMayB, setsB, readsAB, readsBB, inB]; omega
    · simp [refInstr, refOk1, refOk2, regMayB, setsB, readsAB, readsBB, inB]; omega

def fullPart (l : List Fn) (N k : Nat) : List Fn := (List.range k).map fun i => mkAll (bodyAt l i) N
theorem fullPart_length (l : List Fn) (N k : Nat) : (fullPart l N k).length = k := by simp [fullPart]
theorem fullPart_succ (l : List Fn) (N k : Nat) : fullPart l N (k + 1) = fullPart l N k ++ [mkAll (bodyAt l k) N] := by simp [fullPart, List.range_succ]
def fullP (l : List Fn) : List Fn := fullPart l (shapedN l) (shapedN l)
theorem full_ok (l : List Fn) : codeProg (fullP l) = 0 := by
  have hl : (fullP l).length = shapedN l := by simp [fullP, fullPart]
  have h1 : 1 ≤ shapedN l := by unfold shapedN; omega
  have h4 : shapedN l ≤ 4 := by unfold shapedN; omega
  unfold codeProg
  rw [hl, if_neg (by omega), if_neg (by omega)]
  refine firstErr_all fun f hf => ?_
  obtain ⟨i, _, rfl⟩ := List.mem_map.1 hf
  exact mkAll_ok _ _ (by omega)

theorem setMask_set (p : Int) (i r : Nat) (_hp : 0 ≤ p) : (setMask ⟨1, p + i, 0, 0, p + i⟩).testBit r = decide ((p + i).toNat = r) := by
  simp [setMask, setsB, Nat.testBit_two_pow]

/-- On each way to a place behind the first ones all registers are set. -/
theorem way_full {f : Fn} {p R : Int} {K : Nat} {rest : List Ins} (hp0 : 0 ≤ p) (hp : f.params = p) (hK : (K : Int) = R - p) (hc : f.code = preL p K ++ rest) {r q : Nat} (hr : (r : Int) < R) (hw : Way f r q) : (q : Int) ≤ r - p := by
  induction hw with
  | start h => rw [hp] at h; simp; omega
  | @step pc t hpc hw hset ht ih =>
    have hpk : pc < K := by omega
    have hx : insD f pc = ⟨1, p + pc, 0, 0, p + pc⟩ := by
      rw [insD_eq hpc]
      simp [hc, preL, List.getElem_append_left, hpk]
    rw [hx] at hset ht
    rw [setMask_set p pc r hp0] at hset
    have hne : (p + pc).toNat ≠ r := by simpa using hset
    have : t = pc + 1 := by simpa [behind] using ht
    subst this
    omega

theorem way_end {f : Fn} (hf : FnOk f) (hlast : insD f (f.code.length - 1) = ⟨19, 0, 0, 0, 0⟩) (himm : ∀ pc, pc < f.code.length → (insD f pc).op = 15 ∨ (insD f pc).op = 16 → (insD f pc).imm.toNat < f.code.length) {r : Nat} : ¬ Way f r f.code.length := by
  intro hw
  have h1 := hf.len1
  generalize hq : f.code.length = q at hw
  cases hw with
  | start h => omega
  | @step pc _ hpc hw hset ht =>
    have hb : q = pc + 1 → False := fun e => by
      have : pc = f.code.length - 1 := by omega
      subst this
      rw [hlast] at ht
      simp [behind] at ht
    unfold behind at ht
    split at ht
    · rename_i h15
      have := himm pc hpc (Or.inl h15)
      simp at ht; omega
    · split at ht
      · rename_i h16
        have := himm pc hpc (Or.inr h16)
        simp at ht
        rcases ht with h | h
        · exact hb h
        · omega
      · split at ht
        · simp at ht
        · simp at ht; exact hb ht

theorem imm_lt {P : List Fn} (h : codeProg P = 0) {f : Fn} (hf : f ∈ P) (pc : Nat) (hpc : pc < f.code.length) (ho : (insD f pc).op = 15 ∨ (insD f pc).op = 16) : (insD f pc).imm.toNat < f.code.length := by
  obtain ⟨h1, h4, hall⟩ := codeProg_zero h
  obtain ⟨_, _, _, _, _, _, _, hi⟩ := codeFunc_zero (hall f hf)
  rw [insD_eq hpc] at ho ⊢
  have hz := hi _ (List.getElem_mem hpc)
  rw [instr_same] at hz
  unfold refInstr at hz
  by_cases k1 : inB f.code[pc].op 1 19 = false
  · rw [if_pos k1] at hz; cases hz
  rw [if_neg k1] at hz
  by_cases k2 : refOk1 f.code[pc] f.regs = false
  · rw [if_pos k2] at hz; cases hz
  rw [if_neg k2] at hz
  by_cases k3 : refOk2 f.code[pc] f.code.length P.length = false
  · rw [if_pos k3] at hz; cases hz
  have k3 : refOk2 f.code[pc] f.code.length P.length = true := by simpa using k3
  have : 0 ≤ f.code[pc].imm ∧ f.code[pc].imm ≤ (f.code.length : Int) - 1 := by simpa [refOk2, ho, inB] using k3
  omega

/-- Registers that are read are registers. -/
theorem reads_regs {P : List Fn} (h : codeProg P = 0) {f : Fn} (hf : f ∈ P) {x : Ins} (hx : x ∈ f.code) : ∀ r ∈ readsL P x, 0 ≤ r ∧ r < f.regs := by
  obtain ⟨h1, h4, hall⟩ := codeProg_zero h
  obtain ⟨_, _, _, _, _, _, _, hi⟩ := codeFunc_zero (hall f hf)
  have hz := hi x hx
  rw [instr_same] at hz
  unfold refInstr at hz
  by_cases k1 : inB x.op 1 19 = false
  · rw [if_pos k1] at hz; cases hz
  rw [if_neg k1] at hz
  by_cases k2 : refOk1 x f.regs = false
  · rw [if_pos k2] at hz; cases hz
  have k2 : refOk1 x f.regs = true := by simpa using k2
  simp only [refOk1, Bool.and_eq_true] at k2
  obtain ⟨⟨_, m2⟩, m3⟩ := k2
  have isA : rdA P x = true → readsAB x.op = true := fun h => by
    unfold rdA at h
    split at h
    · rename_i e; rw [e]; decide
    · exact h
  have isB : rdB P x = true → readsBB x.op = true := fun h => by
    unfold rdB at h
    split at h
    · rename_i e; rw [e]; decide
    · exact h
  intro r hr
  unfold readsL at hr
  rcases List.mem_append.1 hr with hr | hr
  · split at hr
    · rename_i ha
      simp at hr
      subst hr
      rw [isA ha] at m2
      have : 0 ≤ x.a ∧ x.a ≤ f.regs - 1 := by simpa [regMayB, inB] using m2
      omega
    · simp at hr
  · split at hr
    · rename_i ha
      simp at hr
      subst hr
      rw [isB ha] at m3
      have : 0 ≤ x.b ∧ x.b ≤ f.regs - 1 := by simpa [regMayB, inB] using m3
      omega
    · simp at hr

/-- A function is proved, if whatever is read on a way is set there, and its end is not come to. -/
theorem prove_zero {P : List Fn} (h : codeProg P = 0) {f : Fn} (hf : f ∈ P) {L : List Int} (hL : SureSpec f L) (hr : ∀ pc, pc < f.code.length → ∀ r ∈ readsL P (insD f pc), ¬ Way f r.toNat pc) (he : ¬ Way f 63 f.code.length) : proveE P f L = 0 := by
  have hfo := (fnOk_of h hf).1
  rw [prove_good, if_pos]
  · rcases hL.2 f.code.length (by omega) with ⟨_, e⟩ | ⟨hw, _⟩
    · exact e
    · exact absurd hw he
  · intro k hk
    rcases hL.2 k (by omega) with ⟨_, e⟩ | ⟨_, m, hm, e, hb⟩
    · rw [e]; rfl
    · rw [e]
      unfold badB
      have hd : decide (0 ≤ (m : Int)) = true := by simp
      rw [hd, Bool.true_and, List.any_eq_false]
      intro r hr2
      have hrr := reads_regs h hf (by rw [insD_eq hk] at hr2; exact List.getElem_mem hk) r (by rw [insD_eq hk] at hr2; exact hr2)
      have hregs : f.regs ≤ 12 := (codeFunc_zero ((codeProg_zero h).2.2 f hf)).2.1
      rw [hasB_bit]
      have := (hb r.toNat (by omega)).2 (hr k hk r hr2)
      simp [this]

theorem proves_full (l : List Fn) {f : Fn} (hf : f ∈ fullP l) {L : List Int} (hL : SureSpec f L) : proveE (fullP l) f L = 0 := by
  have hok := full_ok l
  have hfo := (fnOk_of hok hf).1
  refine prove_zero hok hf hL ?_ ?_
  · intro pc hpc r hr hw
    have hrr := reads_regs hok hf (by rw [insD_eq hpc] at hr; exact List.getElem_mem hpc) r (by rw [insD_eq hpc] at hr; exact hr)
    obtain ⟨i, _, rfl⟩ := List.mem_map.1 hf
    obtain ⟨K, n, R, xs, e1, e2, e3, e4, e5, e6, e7, _, r1, r2⟩ := mkAll_code (bodyAt l i) (shapedN l)
    have bP := pickI_bounds (bodyAt l i).params 3 (by decide)
    have e7' : (mkAll (bodyAt l i) (shapedN l)).code = preL (pickI (bodyAt l i).params 3) K ++ (xs.map (fun x => mkIns x R (K + n + 2 : Nat) (shapedN l)) ++ [⟨1, 0, 0, 0, 7⟩, ⟨19, 0, 0, 0, 0⟩]) := by rw [e7, List.append_assoc]
    rw [e2] at hrr
    have hq := way_full (R := R) bP.1 e1 e4 e7' (r := r.toNat) (by omega) hw
    have hpk : pc < K := by omega
    have hx : insD (mkAll (bodyAt l i) (shapedN l)) pc = ⟨1, pickI (bodyAt l i).params 3 + pc, 0, 0, pickI (bodyAt l i).params 3 + pc⟩ := by
      rw [insD_eq hpc]
      simp [e7', preL, List.getElem_append_left, hpk]
    rw [hx] at hr
    simp [readsL, rdA, rdB, readsAB, readsBB] at hr
  · refine way_end hfo ?_ (imm_lt hok hf)
    obtain ⟨i, _, rfl⟩ := List.mem_map.1 hf
    obtain ⟨K, n, R, xs, e1, e2, e3, e4, e5, e6, e7, _, r1, r2⟩ := mkAll_code (bodyAt l i) (shapedN l)
    have hl := hfo.len1
    rw [insD_eq (by omega)]
    simp [e7]

theorem checks_all {P : List Fn} : ∀ {fs : List Fn}, (∀ f ∈ fs, ProvesTo P f 0) → ChecksTo P fs 0
  | [], _ => rfl
  | f :: fs, h => ⟨0, h f (by simp), Or.inr ⟨rfl, checks_all fun g hg => h g (by simp [hg])⟩⟩

/-- The program that the raw numbers tell: one that is right. -/
def ProgIs (l : List Fn) (P : List Fn) : Prop := (ProofAns (shapedP l) 0 ∧ P = shapedP l) ∨ (¬ ProofAns (shapedP l) 0 ∧ P = fullP l)
theorem progIs_unique {l P P' : List Fn} (h : ProgIs l P) (h' : ProgIs l P') : P = P' := by
  rcases h with ⟨h1, rfl⟩ | ⟨h1, rfl⟩ <;> rcases h' with ⟨h2, rfl⟩ | ⟨h2, rfl⟩
  · rfl
  · exact absurd h1 h2
  · exact absurd h2 h1
  · rfl
theorem progIs_code {l P : List Fn} (h : ProgIs l P) : codeProg P = 0 := by
  rcases h with ⟨_, rfl⟩ | ⟨_, rfl⟩
  · exact shaped_ok l
  · exact full_ok l

end Go.Proofs.YtiaammieldfkcaaDoor

/- Contract of tierlinekeep.Program: a right program of raw numbers, in memory of its own. -/
namespace Go.Proofs.YtiaammieldfkcaaDoor
open Go Go.RowKit

def RowsApart (a b : Value) : Prop := a.ownBlock = none ∨ b.ownBlock = none ∨ a.ownBlock ≠ b.ownBlock
theorem built_pair {W w3 : World} {base tF tI tP Oa Ob g cap m : Nat} {va vb u u' : Value} {Pa Pb : List Fn} {ua ub : List Value} {f : Fn} {ys : List Value} {o : Obj} (ht : tI ≠ tF) (hab : RowsApart va vb) (hOO : Oa ≠ Ob) (hOa : Oa < base) (hOb : Ob < base)
    (hba : Built W base tF tI va Pa ua) (hbb : Built W base tF tI vb Pb ub) (ha : W.heap[Oa]? = some (.cells #[va] tP (0, 0))) (hb : W.heap[Ob]? = some (.cells #[vb] tP (0, 0)))
    (hu : W.ownsRow base tI 5 u f.code.length (codeCells f.code)) (hu' : W.ownsRow base tI 5 u' m ys) (hB : base ≤ W.heap.size)
    (hg : (W.alloc o).grownBy w3 va.ownBlock) (hown3 : w3.ownsRow base tF 3 (.slice (some ⟨g, 0, none⟩) (Pa.length + 1) cap) (Pa.length + 1) (fnsCells Pa ua ++ fnCells f u)) (hlie : va.ownBlock = some g ∨ g = (W.alloc o).heap.size) :
    w3.heap[Oa]? = some (.cells #[va] tP (0, 0)) ∧ (w3.setCell ⟨Oa, 0, none⟩ (.slice (some ⟨g, 0, none⟩) (Pa.length + 1) cap)).heap[Oa]? = some (.cells #[.slice (some ⟨g, 0, none⟩) (Pa.length + 1) cap] tP (0, 0)) ∧
      (w3.setCell ⟨Oa, 0, none⟩ (.slice (some ⟨g, 0, none⟩) (Pa.length + 1) cap)).heap[Ob]? = some (.cells #[vb] tP (0, 0)) ∧
      Built (w3.setCell ⟨Oa, 0, none⟩ (.slice (some ⟨g, 0, none⟩) (Pa.length + 1) cap)) base tF tI (.slice (some ⟨g, 0, none⟩) (Pa.length + 1) cap) (Pa ++ [f]) (ua ++ [u]) ∧
      Built (w3.setCell ⟨Oa, 0, none⟩ (.slice (some ⟨g, 0, none⟩) (Pa.length + 1) cap)) base tF tI vb Pb ub ∧ RowsApart (.slice (some ⟨g, 0, none⟩) (Pa.length + 1) cap) vb ∧
      (w3.setCell ⟨Oa, 0, none⟩ (.slice (some ⟨g, 0, none⟩) (Pa.length + 1) cap)).ownsRow base tI 5 u' m ys ∧
      ∀ B' W0, B' ≤ Oa → Below B' W0 W → Below B' W0 (w3.setCell ⟨Oa, 0, none⟩ (.slice (some ⟨g, 0, none⟩) (Pa.length + 1) cap)) := by
  have hrow : ∀ k, va.ownBlock = some k → base ≤ k := fun k hk => (hba.row.lt k hk).1
  have old : ∀ j, j < base → (W.alloc o).heap[j]? = W.heap[j]? := fun j hj => heap_alloc_old _ _ (by omega)
  have keep : ∀ j ob, j < base → W.heap[j]? = some ob → w3.heap[j]? = some ob := fun j ob hj h => (hg.block j (by simp; omega) (fun e => by have := hrow j e.symm; omega)).trans ((old j hj).trans h)
  have ha3 := keep _ _ hOa ha
  have hb3 := keep _ _ hOb hb
  have hbaA := hba.alloc o
  have hbbA := hbb.alloc o
  have huA : (W.alloc o).ownsRow base tI 5 u f.code.length (codeCells f.code) := hu.alloc o
  have huA' : (W.alloc o).ownsRow base tI 5 u' m ys := hu'.alloc o
  have hsym : vb.ownBlock = none ∨ vb.ownBlock ≠ va.ownBlock := by
    rcases hab with h | h | h
    · cases hv : vb.ownBlock with
      | none => exact Or.inl rfl
      | some k => right; rw [h]; simp
    · exact Or.inl h
    · exact Or.inr (Ne.symm h)
  have hbb3 : Built w3 base tF tI vb Pb ub := ⟨hbb.len, hbbA.row.kept hg hsym, fun i hi => (hbbA.codes i hi).kept hg (own_apart (hbbA.codes i hi) hbaA.row ht)⟩
  refine ⟨ha3, one_setCell ha3, ?_, (hbaA.snoc ht huA hown3 hg).setCell hOa _, hbb3.setCell hOa _, ?_, ownsRow_setCell_below (huA'.kept hg (own_apart huA' hbaA.row ht)) hOa _, fun B' W0 hB' h => ?_⟩
  · rw [Below.heap_setCell _ _ _ _ (by simpa using Ne.symm hOO)]; exact hb3
  · rcases hlie with h | h
    · rcases hsym with h2 | h2
      · exact Or.inr (Or.inl h2)
      · right; right
        simp only [Value.ownBlock]
        rw [← h]
        exact Ne.symm h2
    · right
      cases hv : vb.ownBlock with
      | none => exact Or.inl rfl
      | some k =>
        right
        have := (hbb.row.lt k hv).2
        simp only [Value.ownBlock]
        intro e
        have : g = k := by simpa using e
        simp at h
        omega
  · exact ((h.alloc (by omega) _).grown hg (by simp; omega) (fun k hk => by have := hrow k hk; omega)).setCell hB' _

theorem apart_symm {a b : Value} (h : RowsApart a b) : RowsApart b a := by
  rcases h with h | h | h
  · exact Or.inr (Or.inl h)
  · exact Or.inl h
  · exact Or.inr (Or.inr (Ne.symm h))
theorem own_len3 {w : World} {base t g cap k m : Nat} {P : List Fn} {xs : List Value} {F : Fn} {ao : Option Addr} {c : Nat} (hP : P.length = k) (hm : F.code.length = m) (h : w.ownsRow base t 3 (.slice (some ⟨g, 0, none⟩) (k + 1) cap) (k + 1) (xs ++ fnCells F (.slice ao m c))) :
    w.ownsRow base t 3 (.slice (some ⟨g, 0, none⟩) (P.length + 1) cap) (P.length + 1) (xs ++ fnCells F (.slice ao F.code.length c)) := by
  subst hP
  subst hm
  exact h
/-- A box that was made behind a row is as it was when the row has grown, and another box was set. -/
theorem y_kept {wr w2 w3 : World} {base tF tI : Nat} {va : Value} {P : List Fn} {us : List Value} {a b c : Value} {t : Nat} {o : Obj} (hbt : Built wr base tF tI va P us) (hz : wr.heap.size < w2.heap.size) (hg : ((w2.alloc (.cells #[a, b, c] t)).alloc o).grownBy w3 va.ownBlock) (O : Nat) (hO : O < w2.heap.size) (u : Value) :
    (w3.setCell ⟨O, 0, none⟩ u).cell? ⟨w2.heap.size, 0, none⟩ = some a ∧ (w3.setCell ⟨O, 0, none⟩ u).cell? ⟨w2.heap.size, 1, none⟩ = some b ∧ (w3.setCell ⟨O, 0, none⟩ u).cell? ⟨w2.heap.size, 2, none⟩ = some c := by
  have h1 : ((w2.alloc (.cells #[a, b, c] t)).alloc o).heap[w2.heap.size]? = some (.cells #[a, b, c] t) := (heap_alloc_old _ _ (by simp)).trans (heap_alloc_new w2 _)
  have h3 : w3.heap[w2.heap.size]? = some (.cells #[a, b, c] t) := (hg.block _ (by simp; omega) (fun e => by have := (hbt.row.lt _ e.symm).2; omega)).trans h1
  have h4 : (w3.setCell ⟨O, 0, none⟩ u).heap[w2.heap.size]? = some (.cells #[a, b, c] t) := by
    rw [Below.heap_setCell _ _ _ _ (by simp; omega)]; exact h3
  exact ⟨by simp [World.cell?, h4], by simp [World.cell?, h4], by simp [World.cell?, h4]⟩

end Go.Proofs.YtiaammieldfkcaaDoor
