import Derived.WalkKit
import Derived.WalkSmall
import Derived.WalkSpells
import Derived.BigQuiet
import Derived.Deep.QuietTactic
import Derived.Test.YtfacdhkadnmnlaaDoorProg
import Derived.WalkLawsBesides
import Derived.Laws.AppendOwnNone
import Derived.OneCell
import Derived.Deep.MidRow
import Derived.Deep.WholeRow
import Derived.Handy
import Derived.Laws.CopyOwn
import Derived.Laws.Cover3
namespace Go.Proofs.YtfacdhkadnmnlaaDoor
open Go Go.RowKit

structure Ins where
 op : Int
 dst : Int
 a : Int
 b : Int
 imm : Int
def Ins.val (x : Ins) : Value := .agg #[.int .i64 x.op, .int .i64 x.dst, .int .i64 x.a, .int .i64 x.b, .int .i64 x.imm]
structure Fn where
 params : Int
 regs : Int
 code : List Ins
def Keeps (w w' : World) : Prop := ∀ (a : Addr) (v : Value), w.cell? a = some v → w'.cell? a = some v
theorem Keeps.refl (w : World) : Keeps w w := fun _ _ h => h
theorem Keeps.trans {a b c : World} (h : Keeps a b) (k : Keeps b c) : Keeps a c := fun x v e => k x v (h x v e)
theorem keeps_below {w w' : World} (hb : Below w.heap.size w w') : Keeps w w' := fun _ _ h => (hb.cell (World.block_lt_of_cell? _ _ h)).trans h
theorem cell_alloc {w : World} {a : Addr} {v : Value} (h : w.cell? a = some v) (o : Obj) : (w.alloc o).cell? a = some v := keeps_below ((Below.refl _ _).alloc (Nat.le_refl _) o) _ _ h
def insAt (w : World) (b off : Nat) (x : Ins) : Prop :=
 w.cell? ⟨b, off, none⟩ = some (.int .i64 x.op) ∧ w.cell? ⟨b, off + 1, none⟩ = some (.int .i64 x.dst) ∧ w.cell? ⟨b, off + 2, none⟩ = some (.int .i64 x.a) ∧
 w.cell? ⟨b, off + 3, none⟩ = some (.int .i64 x.b) ∧ w.cell? ⟨b, off + 4, none⟩ = some (.int .i64 x.imm)
theorem insAt.keeps {w w' : World} {b off : Nat} {x : Ins} (h : insAt w b off x) (k : Keeps w w') : insAt w' b off x :=
 ⟨k _ _ h.1, k _ _ h.2.1, k _ _ h.2.2.1, k _ _ h.2.2.2.1, k _ _ h.2.2.2.2⟩
structure CodeIn (w : World) (ao : Option Addr) (b off n : Nat) (xs : List Ins) : Prop where
 len : xs.length = n
 addr : 0 < n → ao = some ⟨b, off, none⟩
 at_ : ∀ k (h : k < xs.length), insAt w b (off + k * 5) xs[k]
theorem CodeIn.keeps {w w' : World} {ao : Option Addr} {b off n : Nat} {xs : List Ins} (h : CodeIn w ao b off n xs) (k : Keeps w w') : CodeIn w' ao b off n xs :=
 ⟨h.len, h.addr, fun i hi => (h.at_ i hi).keeps k⟩
def CodeVal (w : World) (v : Value) (xs : List Ins) : Prop := ∃ ao b off n cap, v = .slice ao n cap ∧ CodeIn w ao b off n xs ∧ (n ≤ cap ∧ (ao = none → cap = 0)) ∧ cap ≤ maxLen
theorem CodeVal.keeps {w w' : World} {v : Value} {xs : List Ins} (h : CodeVal w v xs) (k : Keeps w w') : CodeVal w' v xs := by
 obtain ⟨ao, b, off, n, cap, rfl, h, h'⟩ := h
 exact ⟨ao, b, off, n, cap, rfl, h.keeps k, h'⟩
structure FnAt (w : World) (b off : Nat) (f : Fn) (v : Value) : Prop where
 params : w.cell? ⟨b, off, none⟩ = some (.int .i64 f.params)
 regs : w.cell? ⟨b, off + 1, none⟩ = some (.int .i64 f.regs)
 code : w.cell? ⟨b, off + 2, none⟩ = some v
 val : CodeVal w v f.code
theorem FnAt.keeps {w w' : World} {b off : Nat} {f : Fn} {v : Value} (h : FnAt w b off f v) (k : Keeps w w') : FnAt w' b off f v :=
 ⟨k _ _ h.params, k _ _ h.regs, k _ _ h.code, h.val.keeps k⟩
structure FnsIn (w : World) (ao : Option Addr) (b off n : Nat) (p : List Fn) : Prop where
 len : p.length = n
 addr : 0 < n → ao = some ⟨b, off, none⟩
 at_ : ∀ k (h : k < p.length), ∃ v, FnAt w b (off + k * 3) p[k] v
theorem FnsIn.keeps {w w' : World} {ao : Option Addr} {b off n : Nat} {p : List Fn} (h : FnsIn w ao b off n p) (k : Keeps w w') : FnsIn w' ao b off n p :=
 ⟨h.len, h.addr, fun i hi => by obtain ⟨v, hv⟩ := h.at_ i hi; exact ⟨v, hv.keeps k⟩⟩
def ProgVal (w : World) (v : Value) (p : List Fn) : Prop := ∃ ao b off n cap, v = .slice ao n cap ∧ FnsIn w ao b off n p ∧ (n ≤ cap ∧ (ao = none → cap = 0)) ∧ cap ≤ maxLen
theorem ProgVal.keeps {w w' : World} {v : Value} {p : List Fn} (h : ProgVal w v p) (k : Keeps w w') : ProgVal w' v p := by
 obtain ⟨ao, b, off, n, cap, rfl, h, h'⟩ := h
 exact ⟨ao, b, off, n, cap, rfl, h.keeps k, h'⟩
def firstErr {α : Type} (g : α → Int) : List α → Int
 | [] => 0
 | x :: r => if g x = 0 then firstErr g r else g x
theorem firstErr_drop {α : Type} (g : α → Int) (l : List α) (k : Nat) (h : k < l.length) : firstErr g (l.drop k) = if g l[k] = 0 then firstErr g (l.drop (k + 1)) else g l[k] := by
 rw [List.drop_eq_getElem_cons h]; rfl
theorem firstErr_end {α : Type} (g : α → Int) (l : List α) (k : Nat) (h : l.length ≤ k) : firstErr g (l.drop k) = 0 := by
 rw [List.drop_eq_nil_of_le h]; rfl
theorem below_step {B : Nat} {w wr w1 : World} {o : Obj} (h : Below B w wr) (hB : B ≤ wr.heap.size) (h1 : Below (wr.alloc o).heap.size (wr.alloc o) w1) : Below B w w1 :=
 (h.alloc hB o).trans (h1.mono (by simp; omega))
theorem ret_int {k : IntKind} {a b : Int} (h : a = b) : Ending.returned (.int k a) = .returned (.int k b) := by rw [h]
end Go.Proofs.YtfacdhkadnmnlaaDoor
namespace Go.Proofs.YtfacdhkadnmnlaaDoor
open Go Go.RowKit

def hasL : List Int := [0, 9, 7, 7, 7, 7, 7, 7, 7, 7, 7, 7, 7, 3, 6, 16, 18, 39, 3, 2]
def hasOf (op : Int) : Int := if 0 ≤ op ∧ op < 20 then hasL.getD op.toNat 0 else 0
def TabOk (w : World) : Prop := ∀ i : Nat, i < 20 → w.cell? ⟨1, i, none⟩ = some (.int .i64 (hasL.getD i 0))
set_option maxRecDepth 100000 in
theorem has_any (op : Int) (w : World) (ht : TabOk w) :
  Calls Tryd.prog 45 #[.int .i64 op] w fun e w' => e = .returned (.int .i64 (hasOf op)) ∧ w' = w := by
 by_cases h0 : 0 ≤ op
 ·by_cases h1 : op < 20
  ·have hc := ht op.toNat (by omega)
   have e : hasOf op = hasL.getD op.toNat 0 := by unfold hasOf; rw [if_pos ⟨h0, h1⟩]
   rw [e]
   generalize hasL.getD op.toNat 0 = v at hc
   clear e ht
   go_enter Tryd.func45, Tryd.ntmps45
   go_wp2
   go_ret
   exact ⟨rfl, rfl⟩
  ·have e : hasOf op = 0 := by unfold hasOf; rw [if_neg (by omega)]
   rw [e]
   clear e ht
   go_enter Tryd.func45, Tryd.ntmps45
   go_wp2
   go_ret
   exact ⟨rfl, rfl⟩
 ·have e : hasOf op = 0 := by unfold hasOf; rw [if_neg (by omega)]
  rw [e]
  clear e ht
  go_enter Tryd.func45, Tryd.ntmps45
  go_wp2
  go_ret
  exact ⟨rfl, rfl⟩
def belowB (n most : Int) : Bool := decide (0 ≤ n ∧ n < most)
set_option maxRecDepth 100000 in
theorem below_any (n most : Int) (w : World) :
  Calls Tryd.prog 64 #[.int .i64 n, .int .i64 most] w fun e w' => e = .returned (.bool (belowB n most)) ∧ w' = w := by
 by_cases h0 : 0 ≤ n
 ·by_cases h1 : n < most
  ·have e : belowB n most = true := by simp [belowB, h0, h1]
   rw [e]; clear e
   go_enter Tryd.func64, Tryd.ntmps64
   go_wp2
   go_ret
   exact ⟨rfl, rfl⟩
  ·have e : belowB n most = false := by simp [belowB, h1]
   rw [e]; clear e
   go_enter Tryd.func64, Tryd.ntmps64
   go_wp2
   go_ret
   exact ⟨rfl, rfl⟩
 ·have e : belowB n most = false := by simp [belowB, h0]
  rw [e]; clear e
  go_enter Tryd.func64, Tryd.ntmps64
  go_wp2
  go_ret
  exact ⟨rfl, rfl⟩
def roomOf (has part most : Int) : Int := if (bits BinOp.and IntKind.i64 has part == 0) = true then 1 else most
set_option maxRecDepth 100000 in
theorem room_any (has part most : Int) (w : World) :
  Calls Tryd.prog 65 #[.int .i64 has, .int .i64 part, .int .i64 most] w fun e w' => e = .returned (.int .i64 (roomOf has part most)) ∧ w' = w := by
 by_cases h : (bits BinOp.and IntKind.i64 has part == 0) = true
 ·have e : roomOf has part most = 1 := by unfold roomOf; rw [if_pos h]
  rw [e]; clear e
  go_enter Tryd.func65, Tryd.ntmps65
  go_wp2
  go_ret
  exact ⟨rfl, rfl⟩
 ·have e : roomOf has part most = most := by unfold roomOf; rw [if_neg h]
  rw [e]; clear e
  have h' : (bits BinOp.and IntKind.i64 has part == 0) = false := by simpa using h
  clear h
  go_enter Tryd.func65, Tryd.ntmps65
  go_wp2
  go_ret
  exact ⟨rfl, rfl⟩
def immB (imm has places funcs : Int) : Bool :=
 if (bits BinOp.and IntKind.i64 has 8 != 0) = true then true else if (bits BinOp.and IntKind.i64 has 16 != 0) = true then belowB imm places else belowB imm (roomOf has 32 funcs)
set_option maxRecDepth 100000 in
theorem immFits_any (imm has places funcs : Int) (w : World) :
  Calls Tryd.prog 66 #[.int .i64 imm, .int .i64 has, .int .i64 places, .int .i64 funcs] w fun e w' => e = .returned (.bool (immB imm has places funcs)) ∧ w' = w := by
 by_cases h : (bits BinOp.and IntKind.i64 has 8 != 0) = true
 ·have e : immB imm has places funcs = true := by unfold immB; rw [if_pos h]
  rw [e]; clear e
  go_enter Tryd.func66, Tryd.ntmps66
  go_wp2
  go_ret
  exact ⟨rfl, rfl⟩
 ·have h' : (bits BinOp.and IntKind.i64 has 8 != 0) = false := by simpa using h
  by_cases k : (bits BinOp.and IntKind.i64 has 16 != 0) = true
  ·have e : immB imm has places funcs = belowB imm places := by unfold immB; rw [if_neg h, if_pos k]
   rw [e]; clear e h
   go_enter Tryd.func66, Tryd.ntmps66
   go_wp2_with (go_at_call 64; refine (below_any _ _ _).mono ?_; rintro e w' ⟨rfl, rfl⟩)
   go_ret
   exact ⟨rfl, rfl⟩
  ·have k' : (bits BinOp.and IntKind.i64 has 16 != 0) = false := by simpa using k
   have e : immB imm has places funcs = belowB imm (roomOf has 32 funcs) := by unfold immB; rw [if_neg h, if_neg k]
   rw [e]; clear e h k
   go_enter Tryd.func66, Tryd.ntmps66
   go_wp2_with (first | (go_at_call 64; refine (below_any _ _ _).mono ?_; rintro e w' ⟨rfl, rfl⟩) | (go_at_call 65; refine (room_any _ _ _ _).mono ?_; rintro e w' ⟨rfl, rfl⟩))
   go_ret
   exact ⟨rfl, rfl⟩
theorem TabOk.pos {w : World} (h : TabOk w) : 1 < w.heap.size := World.block_lt_of_cell? _ _ (h 0 (by omega))
theorem TabOk.below {w w' : World} (h : TabOk w) (hb : Below w.heap.size w w') : TabOk w' := fun i hi => (hb.cell (p := ⟨1, i, none⟩) h.pos).trans (h i hi)
def codeInstr (x : Ins) (regs places funcs : Int) : Int :=
 if (hasOf x.op == 0) = true then 3
 else if belowB x.dst (roomOf (hasOf x.op) 1 regs) = false then 2
 else if belowB x.a (roomOf (hasOf x.op) 2 regs) = false then 2
 else if belowB x.b (roomOf (hasOf x.op) 4 regs) = false then 2
 else if immB x.imm (hasOf x.op) places funcs = false then 2 else 0
set_option maxRecDepth 100000 in
set_option maxHeartbeats 1000000 in
theorem instr_any (x : Ins) (regs places funcs : Int) (w : World) (ht : TabOk w) :
  Calls Tryd.prog 53 #[x.val, .int .i64 regs, .int .i64 places, .int .i64 funcs] w fun e w' => e = .returned (.int .i64 (codeInstr x regs places funcs)) ∧ Below w.heap.size w w' := by
 obtain ⟨op, dst, a, b, imm⟩ := x
 have hta : ∀ o, TabOk (w.alloc o) := fun o => ht.below ((Below.refl _ _).alloc (Nat.le_refl _) _)
 unfold codeInstr Ins.val
 dsimp only
 by_cases h0 : (hasOf op == 0) = true
 ·rw [if_pos h0]
  go_enter Tryd.func53, Tryd.ntmps53
  go_wp2_with (go_at_call 45; refine (has_any _ _ (hta _)).mono ?_; rintro e w' ⟨rfl, rfl⟩)
  go_ret
  exact ⟨rfl, (Below.refl _ _).alloc (Nat.le_refl _) _⟩
 rw [if_neg h0]
 have h0' : (hasOf op == 0) = false := by simpa using h0
 clear h0
 by_cases h1 : belowB dst (roomOf (hasOf op) 1 regs) = false
 ·rw [if_pos h1]
  go_enter Tryd.func53, Tryd.ntmps53
  go_wp2_with (go_at_call 45; refine (has_any _ _ (hta _)).mono ?_; rintro e w' ⟨rfl, rfl⟩)
  go_quiet ((first | (go_at_call 65; exact Calls.quiet_of_same (room_any _ _ _ _)) | (go_at_call 64; exact Calls.quiet_of_same (below_any _ _ _))))
  go_wp2_with (go_at_call 66; refine (immFits_any _ _ _ _ _).mono ?_; rintro e w' ⟨rfl, rfl⟩)
  go_ret
  exact ⟨rfl, below_drewN ((Below.refl _ _).alloc (Nat.le_refl _) _) _⟩
 rw [if_neg h1]
 replace h1 : belowB dst (roomOf (hasOf op) 1 regs) = true := by simpa using h1
 by_cases h2 : belowB a (roomOf (hasOf op) 2 regs) = false
 ·rw [if_pos h2]
  go_enter Tryd.func53, Tryd.ntmps53
  go_wp2_with (go_at_call 45; refine (has_any _ _ (hta _)).mono ?_; rintro e w' ⟨rfl, rfl⟩)
  go_quiet ((first | (go_at_call 65; exact Calls.quiet_of_same (room_any _ _ _ _)) | (go_at_call 64; exact Calls.quiet_of_same (below_any _ _ _))))
  go_wp2_with (go_at_call 66; refine (immFits_any _ _ _ _ _).mono ?_; rintro e w' ⟨rfl, rfl⟩)
  go_ret
  exact ⟨rfl, below_drewN ((Below.refl _ _).alloc (Nat.le_refl _) _) _⟩
 rw [if_neg h2]
 replace h2 : belowB a (roomOf (hasOf op) 2 regs) = true := by simpa using h2
 by_cases h3 : belowB b (roomOf (hasOf op) 4 regs) = false
 ·rw [if_pos h3]
  go_enter Tryd.func53, Tryd.ntmps53
  go_wp2_with (go_at_call 45; refine (has_any _ _ (hta _)).mono ?_; rintro e w' ⟨rfl, rfl⟩)
  go_quiet ((first | (go_at_call 65; exact Calls.quiet_of_same (room_any _ _ _ _)) | (go_at_call 64; exact Calls.quiet_of_same (below_any _ _ _))))
  go_wp2_with (go_at_call 66; refine (immFits_any _ _ _ _ _).mono ?_; rintro e w' ⟨rfl, rfl⟩)
  go_ret
  exact ⟨rfl, below_drewN ((Below.refl _ _).alloc (Nat.le_refl _) _) _⟩
 rw [if_neg h3]
 replace h3 : belowB b (roomOf (hasOf op) 4 regs) = true := by simpa using h3
 by_cases h4 : immB imm (hasOf op) places funcs = false
 ·rw [if_pos h4]
  go_enter Tryd.func53, Tryd.ntmps53
  go_wp2_with (go_at_call 45; refine (has_any _ _ (hta _)).mono ?_; rintro e w' ⟨rfl, rfl⟩)
  go_quiet ((first | (go_at_call 65; exact Calls.quiet_of_same (room_any _ _ _ _)) | (go_at_call 64; exact Calls.quiet_of_same (below_any _ _ _))))
  go_wp2_with (go_at_call 66; refine (immFits_any _ _ _ _ _).mono ?_; rintro e w' ⟨rfl, rfl⟩)
  go_ret
  exact ⟨rfl, below_drewN ((Below.refl _ _).alloc (Nat.le_refl _) _) _⟩
 ·rw [if_neg h4]
  replace h4 : immB imm (hasOf op) places funcs = true := by simpa using h4
  go_enter Tryd.func53, Tryd.ntmps53
  go_wp2_with (go_at_call 45; refine (has_any _ _ (hta _)).mono ?_; rintro e w' ⟨rfl, rfl⟩)
  go_quiet ((first | (go_at_call 65; exact Calls.quiet_of_same (room_any _ _ _ _)) | (go_at_call 64; exact Calls.quiet_of_same (below_any _ _ _))))
  go_wp2_with (go_at_call 66; refine (immFits_any _ _ _ _ _).mono ?_; rintro e w' ⟨rfl, rfl⟩)
  go_ret
  exact ⟨rfl, below_drewN ((Below.refl _ _).alloc (Nat.le_refl _) _) _⟩
end Go.Proofs.YtfacdhkadnmnlaaDoor
namespace Go.Proofs.YtfacdhkadnmnlaaDoor
open Go Go.RowKit

theorem ProgVal.shape {w : World} {v : Value} {p : List Fn} (h : ProgVal w v p) : ∃ ao n cap, v = .slice ao n cap := by
 obtain ⟨ao, b, off, n, cap, rfl, _⟩ := h
 exact ⟨ao, n, cap, rfl⟩
structure Later (w : World) where
 to : World
 below : Below w.heap.size w to
instance (w : World) : Inhabited (Later w) := ⟨⟨w, Below.refl _ _⟩⟩
theorem Later.cell {w : World} {a : Addr} {v : Value} (h : w.cell? a = some v) (d : Later w) : d.to.cell? a = some v := keeps_below d.below _ _ h
theorem Later.size {w : World} (d : Later w) : w.heap.size ≤ d.to.heap.size := d.below.size
def Later.next {w w' : World} (d : Later w) (h : Below d.to.heap.size d.to w') : Later w := ⟨w', d.below.trans (h.mono d.size)⟩
end Go.Proofs.YtfacdhkadnmnlaaDoor
namespace Go.Proofs.YtfacdhkadnmnlaaDoor
open Go Go.RowKit

def insCells (x : Ins) : List Value := [.int .i64 x.op, .int .i64 x.dst, .int .i64 x.a, .int .i64 x.b, .int .i64 x.imm]
def codeCells (xs : List Ins) : List Value := xs.flatMap insCells
theorem codeCells_append (xs ys : List Ins) : codeCells (xs ++ ys) = codeCells xs ++ codeCells ys := by simp [codeCells]
theorem codeCells_get (xs : List Ins) (k j : Nat) (h : k < xs.length) (hj : j < 5) : (codeCells xs)[k * 5 + j]? = (insCells xs[k])[j]? := by
 induction xs generalizing k with
 | nil => simp at h
 | cons x r ih =>
  have e : codeCells (x :: r) = insCells x ++ codeCells r := rfl
  rw [e]
  cases k with
  | zero => rw [List.getElem?_append_left (by simp [insCells]; omega)]; simp
  | succ k =>
   rw [List.getElem?_append_right (by simp [insCells]; omega)]
   have := ih k (by simpa using h)
   have e2 : (k + 1) * 5 + j - (insCells x).length = k * 5 + j := by simp [insCells]; omega
   rw [e2, this]; rfl
theorem codeCells_one (xs : List Ins) : ∀ u ∈ codeCells xs, u.oneCell' = true := by
 intro u hu
 obtain ⟨x, _, hx⟩ := List.mem_flatMap.1 hu
 simp [insCells] at hx
 rcases hx with rfl | rfl | rfl | rfl | rfl <;> rfl
theorem code_of_own {w : World} {base t : Nat} {v : Value} {xs : List Ins} (h : w.ownsRow base t 5 v xs.length (codeCells xs)) : CodeVal w v xs := by
 have hc := @World.ownsRow.cells _ _ _ _ _ _ _ h
 rcases h.2 with ⟨rfl, h0⟩ | ⟨g, cap, cur, rfl, _, hg, hn, hm, _, _⟩
 ·have : xs = [] := List.length_eq_zero_iff.1 h0
  subst this
  exact ⟨none, 0, 0, 0, 0, rfl, ⟨rfl, fun h => by omega, fun k h => by simp at h⟩, ⟨Nat.le_refl _, fun _ => rfl⟩, by simp [maxLen]⟩
 ·refine ⟨some ⟨g, 0, none⟩, g, 0, xs.length, cap, rfl, ⟨rfl, fun _ => rfl, fun k hk => ?_⟩, ⟨hn, fun h => by cases h⟩, hm⟩
  have cell : ∀ j u, (codeCells xs)[j]? = some u → w.cell? ⟨g, j, none⟩ = some u := fun j u hu => by
   have := hc (g := g) rfl j u hu
   have hadd : (⟨g, 0, none⟩ : Addr).add j = ⟨g, j, none⟩ := by unfold Addr.add; split <;> simp_all
   rwa [hadd] at this
  refine ⟨?_, ?_, ?_, ?_, ?_⟩
  ·simpa using cell (k * 5 + 0) _ (codeCells_get xs k 0 hk (by omega))
  ·rw [Nat.zero_add]; exact cell (k * 5 + 1) _ (codeCells_get xs k 1 hk (by omega))
  ·rw [Nat.zero_add]; exact cell (k * 5 + 2) _ (codeCells_get xs k 2 hk (by omega))
  ·rw [Nat.zero_add]; exact cell (k * 5 + 3) _ (codeCells_get xs k 3 hk (by omega))
  ·rw [Nat.zero_add]; exact cell (k * 5 + 4) _ (codeCells_get xs k 4 hk (by omega))
def fnCells (f : Fn) (u : Value) : List Value := [.int .i64 f.params, .int .i64 f.regs, u]
def fnsCells : List Fn → List Value → List Value
 | f :: p, u :: us => fnCells f u ++ fnsCells p us
 | _, _ => []
theorem fnsCells_length (p : List Fn) (us : List Value) (h : us.length = p.length) : (fnsCells p us).length = p.length * 3 := by
 induction p generalizing us with
 | nil => cases us <;> simp_all [fnsCells]
 | cons f p ih =>
  cases us with
  | nil => simp at h
  | cons u us => simp [fnsCells, fnCells, ih us (by simpa using h)]; omega
theorem fnsCells_snoc (p : List Fn) (us : List Value) (f : Fn) (u : Value) (h : us.length = p.length) : fnsCells (p ++ [f]) (us ++ [u]) = fnsCells p us ++ fnCells f u := by
 induction p generalizing us with
 | nil => cases us <;> simp_all [fnsCells]
 | cons g p ih =>
  cases us with
  | nil => simp at h
  | cons u' us => simp [fnsCells, ih us (by simpa using h)]
theorem fnsCells_get (p : List Fn) (us : List Value) (hl : us.length = p.length) (k j : Nat) (h : k < p.length) (hj : j < 3) : (fnsCells p us)[k * 3 + j]? = (fnCells p[k] (us[k]'(by omega)))[j]? := by
 induction p generalizing us k with
 | nil => simp at h
 | cons f p ih =>
  cases us with
  | nil => simp at hl
  | cons u us =>
   simp only [fnsCells]
   cases k with
   | zero => rw [List.getElem?_append_left (by simp [fnCells]; omega)]; simp
   | succ k =>
    rw [List.getElem?_append_right (by simp [fnCells]; omega)]
    have := ih us (by simpa using hl) k (by simpa using h)
    have e2 : (k + 1) * 3 + j - (fnCells f u).length = k * 3 + j := by simp [fnCells]; omega
    rw [e2, this]; rfl
structure Built (w : World) (base tF tI : Nat) (v : Value) (p : List Fn) (us : List Value) : Prop where
 len : us.length = p.length
 row : w.ownsRow base tF 3 v p.length (fnsCells p us)
 codes : ∀ i (h : i < p.length), w.ownsRow base tI 5 (us[i]'(by omega)) p[i].code.length (codeCells p[i].code)
theorem built_nil (w : World) (base tF tI : Nat) : Built w base tF tI (.slice none 0 0) [] [] := ⟨rfl, World.ownsRow_nil _ _ _ _, fun i h => by simp at h⟩
theorem ownsRow_below {w w' : World} {base t size n : Nat} {v : Value} {xs : List Value} (h : w.ownsRow base t size v n xs) (hb : Below w.heap.size w w') : w'.ownsRow base t size v n xs := by
 refine ⟨h.1, ?_⟩
 rcases h.2 with h2 | ⟨g, cap, cur, hv, hg, hh, r⟩
 ·exact Or.inl h2
 ·exact Or.inr ⟨g, cap, cur, hv, hg, (hb.block g (lt_of_block hh)).trans hh, r⟩
theorem Built.below {w w' : World} {base tF tI : Nat} {v : Value} {p : List Fn} {us : List Value} (h : Built w base tF tI v p us) (hb : Below w.heap.size w w') : Built w' base tF tI v p us :=
 ⟨h.len, ownsRow_below h.row hb, fun i hi => ownsRow_below (h.codes i hi) hb⟩
theorem Built.alloc {w : World} {base tF tI : Nat} {v : Value} {p : List Fn} {us : List Value} (h : Built w base tF tI v p us) (o : Obj) : Built (w.alloc o) base tF tI v p us :=
 h.below ((Below.refl _ _).alloc (Nat.le_refl _) _)
theorem Built.setCell {w : World} {base tF tI : Nat} {v : Value} {p : List Fn} {us : List Value} (h : Built w base tF tI v p us) {a : Addr} (ha : a.block < base) (u : Value) : Built (w.setCell a u) base tF tI v p us :=
 ⟨h.len, ownsRow_setCell_below h.row ha u, fun i hi => ownsRow_setCell_below (h.codes i hi) ha u⟩
theorem own_apart {w : World} {base t t' size size' n n' : Nat} {v v' : Value} {xs xs' : List Value} (h : w.ownsRow base t size v n xs) (h' : w.ownsRow base t' size' v' n' xs') (ht : t ≠ t') :
  v.ownBlock = none ∨ v.ownBlock ≠ v'.ownBlock := by
 rcases h.2 with ⟨rfl, _⟩ | ⟨g, cap, cur, rfl, _, hg, _⟩
 ·exact Or.inl rfl
 ·right
  rcases h'.2 with ⟨rfl, _⟩ | ⟨g', cap', cur', rfl, _, hg', _⟩
  ·simp [Value.ownBlock]
  ·simp only [Value.ownBlock]
   intro e
   obtain rfl : g = g' := by simpa using e
   rw [hg] at hg'
   simp at hg'
   exact ht hg'.2
theorem Built.snoc {w w' : World} {base tF tI : Nat} {v v' u : Value} {p : List Fn} {us : List Value} {f : Fn} (ht : tI ≠ tF) (h : Built w base tF tI v p us) (hu : w.ownsRow base tI 5 u f.code.length (codeCells f.code))
  (hrow : w'.ownsRow base tF 3 v' (p.length + 1) (fnsCells p us ++ fnCells f u)) (hg : w.grownBy w' v.ownBlock) : Built w' base tF tI v' (p ++ [f]) (us ++ [u]) := by
 refine ⟨by simp [h.len], ?_, fun i hi => ?_⟩
 ·rw [fnsCells_snoc p us f u h.len]; simpa using hrow
 ·by_cases hip : i < p.length
  ·have e1 : (p ++ [f])[i] = p[i] := List.getElem_append_left hip
   have e2 : (us ++ [u])[i]'(by simp [h.len]; omega) = us[i]'(by rw [h.len]; exact hip) := List.getElem_append_left (by rw [h.len]; exact hip)
   rw [e1, e2]
   exact (h.codes i hip).kept hg (own_apart (h.codes i hip) h.row ht)
  ·have hi' : i = p.length := by simp at hi; omega
   subst hi'
   have e1 : (p ++ [f])[p.length] = f := by simp
   have e2 : (us ++ [u])[p.length]'(by simp [h.len]) = u := by simp [← h.len]
   rw [e1, e2]
   exact hu.kept hg (own_apart hu h.row ht)
theorem Built.prog {w : World} {base tF tI : Nat} {v : Value} {p : List Fn} {us : List Value} (h : Built w base tF tI v p us) : ProgVal w v p := by
 have hc := @World.ownsRow.cells _ _ _ _ _ _ _ h.row
 rcases h.row.2 with ⟨rfl, h0⟩ | ⟨g, cap, cur, rfl, _, hg, hn, hm, _, _⟩
 ·have : p = [] := List.length_eq_zero_iff.1 h0
  subst this
  exact ⟨none, 0, 0, 0, 0, rfl, ⟨rfl, fun h => by omega, fun k h => by simp at h⟩, ⟨Nat.le_refl _, fun _ => rfl⟩, by simp [maxLen]⟩
 ·refine ⟨some ⟨g, 0, none⟩, g, 0, p.length, cap, rfl, ⟨rfl, fun _ => rfl, fun k hk => ?_⟩, ⟨hn, fun h => by cases h⟩, hm⟩
  have cell : ∀ j u, (fnsCells p us)[j]? = some u → w.cell? ⟨g, j, none⟩ = some u := fun j u hu => by
   have := hc (g := g) rfl j u hu
   have hadd : (⟨g, 0, none⟩ : Addr).add j = ⟨g, j, none⟩ := by unfold Addr.add; split <;> simp_all
   rwa [hadd] at this
  refine ⟨us[k]'(by rw [h.len]; exact hk), ?_, ?_, ?_, code_of_own (h.codes k hk)⟩
  ·simpa using cell (k * 3 + 0) _ (fnsCells_get p us h.len k 0 hk (by omega))
  ·rw [Nat.zero_add]; exact cell (k * 3 + 1) _ (fnsCells_get p us h.len k 1 hk (by omega))
  ·rw [Nat.zero_add]; exact cell (k * 3 + 2) _ (fnsCells_get p us h.len k 2 hk (by omega))
theorem fnCells_one (f : Fn) (ao : Option Addr) (n c : Nat) : ∀ u ∈ fnCells f (.slice ao n c), u.oneCell' = true := by
 intro u hu
 simp [fnCells] at hu
 rcases hu with rfl | rfl | rfl <;> rfl
theorem own_shape {w : World} {base t size n : Nat} {v : Value} {xs : List Value} (h : w.ownsRow base t size v n xs) : ∃ ao cap, v = .slice ao n cap := by
 rcases h.2 with ⟨rfl, rfl⟩ | ⟨g, cap, cur, rfl, _⟩
 ·exact ⟨none, 0, rfl⟩
 ·exact ⟨_, cap, rfl⟩
end Go.Proofs.YtfacdhkadnmnlaaDoor
namespace Go.Proofs.YtfacdhkadnmnlaaDoor
open Go Go.RowKit

def inB (n low high : Int) : Bool := decide (low ≤ n ∧ n ≤ high)
def setsB (op : Int) : Bool := decide ((1 ≤ op ∧ op ≤ 13) ∨ op = 17 ∨ op = 18)
def readsAB (op : Int) : Bool := decide (op ≠ 1 ∧ op ≠ 15)
def readsBB (op : Int) : Bool := decide ((2 ≤ op ∧ op ≤ 12) ∨ op = 14 ∨ op = 17)
def regMayB (n : Int) (is : Bool) (regs : Int) : Bool := if is = true then inB n 0 (regs - 1) else (n == 0)
def refOk1 (x : Ins) (regs : Int) : Bool := regMayB x.dst (setsB x.op) regs && regMayB x.a (readsAB x.op) regs && regMayB x.b (readsBB x.op) regs
def refOk2 (x : Ins) (places funcs : Int) : Bool :=
 if x.op = 15 ∨ x.op = 16 then inB x.imm 0 (places - 1) else if x.op = 17 then inB x.imm 0 (funcs - 1) else if x.op = 1 then true else (x.imm == 0)
def refInstr (x : Ins) (regs places funcs : Int) : Int :=
 if inB x.op 1 19 = false then 3 else if refOk1 x regs = false then 2 else if refOk2 x places funcs = false then 2 else 0
end Go.Proofs.YtfacdhkadnmnlaaDoor
namespace Go.Proofs.YtfacdhkadnmnlaaDoor
open Go Go.RowKit

def bvn (n : Nat) : BitVec 64 := BitVec.ofNat 64 n
end Go.Proofs.YtfacdhkadnmnlaaDoor
namespace Go.Proofs.YtfacdhkadnmnlaaDoor
open Go Go.RowKit

def setMask (x : Ins) : Nat := if setsB x.op = true then 2 ^ x.dst.toNat else 0
end Go.Proofs.YtfacdhkadnmnlaaDoor
namespace Go.Proofs.YtfacdhkadnmnlaaDoor
open Go Go.RowKit

theorem news_list (w : World) (cs : List Value) (t g : Nat) (hg : g = w.heap.size) : ∀ (j : Nat) (u : Value), cs[j]? = some u → (w.alloc (.cells cs.toArray t)).cell? ((⟨g, 0, none⟩ : Addr).add j) = some u := by
 subst hg
 intro j u hu
 have e : (⟨w.heap.size, 0, none⟩ : Addr).add j = ⟨w.heap.size, j, none⟩ := by unfold Addr.add; split <;> simp_all
 rw [e, cell_of_row (w.alloc (.cells cs.toArray t)) w.heap.size j cs.toArray t (0, 0) (heap_alloc_new w _)]
 simpa using hu
theorem own_some {w : World} {base t size n : Nat} {v : Value} {xs : List Value} (h : w.ownsRow base t size v n xs) (hn : 0 < n) :
  ∃ g cap, v = .slice (some ⟨g, 0, none⟩) n cap ∧ ∀ (j : Nat) (u : Value), xs[j]? = some u → w.cell? ((⟨g, 0, none⟩ : Addr).add j) = some u := by
 have hc := @World.ownsRow.cells _ _ _ _ _ _ _ h
 rcases h.2 with ⟨_, h0⟩ | ⟨g, cap, cur, rfl, _⟩
 ·omega
 ·exact ⟨g, cap, rfl, hc rfl⟩
end Go.Proofs.YtfacdhkadnmnlaaDoor
namespace Go.Proofs.YtfacdhkadnmnlaaDoor
open Go Go.RowKit

def codeFunc (f : Fn) (funcs : Int) : Int :=
 if f.regs < 1 then 2 else if 12 < f.regs then 2
 else if f.params < 0 then 2 else if 2 < f.params then 2 else if f.regs < f.params then 2
 else if f.code.length < 1 then 1 else if 40 < f.code.length then 1
 else firstErr (fun x => codeInstr x f.regs f.code.length funcs) f.code
set_option maxRecDepth 100000 in
set_option maxHeartbeats 2000000 in
theorem checkFunc_any (f : Fn) (v : Value) (funcs : Int) (w : World) (ht : TabOk w) (hv : CodeVal w v f.code) :
  Calls Tryd.prog 33 #[.agg #[.int .i64 f.params, .int .i64 f.regs, v], .int .i64 funcs] w fun e w' => e = .returned (.int .i64 (codeFunc f funcs)) ∧ Below w.heap.size w w' := by
 obtain ⟨params, regs, xs⟩ := f
 obtain ⟨ao, b, off, n, cap, rfl, hc, hcap, hmax⟩ := hv
 obtain ⟨hlen, haddr, hat⟩ := hc
 dsimp only at hlen haddr hat
 have HL : Hid (xs.length = n) := hlen
 unfold codeFunc
 dsimp only
 rw [hlen]
 clear hlen
 by_cases h1 : regs < 1
 ·rw [if_pos h1]
  go_enter Tryd.func33, Tryd.ntmps33
  go_wp2
  go_ret
  exact ⟨rfl, (Below.refl _ _).alloc (Nat.le_refl _) _⟩
 rw [if_neg h1]
 by_cases h2 : 12 < regs
 ·rw [if_pos h2]
  go_enter Tryd.func33, Tryd.ntmps33
  go_wp2
  go_ret
  exact ⟨rfl, (Below.refl _ _).alloc (Nat.le_refl _) _⟩
 rw [if_neg h2]
 by_cases h3 : params < 0
 ·rw [if_pos h3]
  go_enter Tryd.func33, Tryd.ntmps33
  go_wp2
  go_ret
  exact ⟨rfl, (Below.refl _ _).alloc (Nat.le_refl _) _⟩
 rw [if_neg h3]
 by_cases h4 : 2 < params
 ·rw [if_pos h4]
  go_enter Tryd.func33, Tryd.ntmps33
  go_wp2
  go_ret
  exact ⟨rfl, (Below.refl _ _).alloc (Nat.le_refl _) _⟩
 rw [if_neg h4]
 by_cases h5 : regs < params
 ·rw [if_pos h5]
  go_enter Tryd.func33, Tryd.ntmps33
  go_wp2
  go_ret
  exact ⟨rfl, (Below.refl _ _).alloc (Nat.le_refl _) _⟩
 rw [if_neg h5]
 by_cases h6 : n < 1
 ·rw [if_pos h6]
  go_enter Tryd.func33, Tryd.ntmps33
  go_wp2
  go_ret
  exact ⟨rfl, (Below.refl _ _).alloc (Nat.le_refl _) _⟩
 rw [if_neg h6]
 by_cases h7 : 40 < n
 ·rw [if_pos h7]
  go_enter Tryd.func33, Tryd.ntmps33
  go_wp2
  go_ret
  exact ⟨rfl, (Below.refl _ _).alloc (Nat.le_refl _) _⟩
 rw [if_neg h7]
 obtain rfl := haddr (by omega)
 clear haddr
 go_enter Tryd.func33, Tryd.ntmps33
 go_wp2
 go_loopw [44] (fun i wr => ∃ k : Nat, k ≤ n ∧ i = .int .i64 k ∧ Below (w.heap.size + 1) (w.alloc (.cells #[.int .i64 params, .int .i64 regs, .slice (some ⟨b, off, none⟩) n cap] 37)) wr ∧
   firstErr (fun x => codeInstr x regs n funcs) xs = firstErr (fun x => codeInstr x regs n funcs) (xs.drop k)) (fun i _ => n - (intOf i).toNat)
 case atStart => exact ⟨0, Nat.zero_le _, rfl, Below.refl _ _, rfl⟩
 case round =>
  obtain ⟨k, hk, rfl, hb, hf⟩ := hrel
  have hbw : Below w.heap.size w wr := ((Below.refl _ _).alloc (Nat.le_refl _) _).trans (hb.mono (by omega))
  by_cases hlt : k < n
  ·have hkx : k < xs.length := by rw [HL.out]; exact hlt
   have c0 : wr.cell? ⟨w.heap.size, 1, none⟩ = some (.int .i64 regs) := (hb.cell (p := ⟨w.heap.size, 1, none⟩) (by simp)).trans (by simp)
   have c1 : wr.cell? ⟨w.heap.size, 2, none⟩ = some (.slice (some ⟨b, off, none⟩) n cap) := (hb.cell (p := ⟨w.heap.size, 2, none⟩) (by simp)).trans (by simp)
   obtain ⟨d0, d1, d2, d3, d4⟩ := (hat k hkx).keeps (keeps_below hbw)
   have hz : w.heap.size < wr.heap.size := by have := hb.size; simp at this; omega
   have hta : ∀ o, TabOk (wr.alloc o) := fun o => (ht.below hbw).below ((Below.refl _ _).alloc (Nat.le_refl _) _)
   have HF : Hid (firstErr (fun x => codeInstr x regs n funcs) xs = if codeInstr xs[k] regs n funcs = 0 then firstErr (fun x => codeInstr x regs n funcs) (xs.drop (k + 1)) else codeInstr xs[k] regs n funcs) :=
    hf.trans (firstErr_drop _ xs k hkx)
   generalize hx : xs[k] = x at d0 d1 d2 d3 d4 HF
   have HB : Hid (Below (w.heap.size + 1) (w.alloc (.cells #[.int .i64 params, .int .i64 regs, .slice (some ⟨b, off, none⟩) n cap] 37)) wr) := hb
   clear hf hat hx hb hbw
   go_wp2_with (go_at_call 53; refine (instr_any x regs n funcs _ (hta _)).mono ?_; rintro e w1 ⟨rfl, hb1⟩)
   ·have hne : (codeInstr x regs n funcs != 0) = true := by assumption
    go_ret
    exact ⟨ret_int (by rw [HF.out, if_neg (by simpa using hne)]), below_step (((Below.refl _ _).alloc (Nat.le_refl _) _).trans (HB.out.mono (by omega))) (by omega) hb1⟩
   ·have hne : (codeInstr x regs n funcs != 0) = false := by assumption
    go_roundw
    case rel => exact ⟨k + 1, by omega, by go_num, below_step HB.out (by omega) hb1, by rw [HF.out, if_pos (by simpa using hne)]⟩
    case measure => simp [intOf]; omega
  ·have HE := (firstErr_end (fun x => codeInstr x regs n funcs) xs k (by rw [HL.out]; omega))
   have HF : Hid (firstErr (fun x => codeInstr x regs n funcs) xs = 0) := hf.trans HE
   clear hf HE hat
   go_wp2
   go_ret
   exact ⟨ret_int HF.out.symm, hbw⟩
def codeProg (p : List Fn) : Int :=
 if p.length < 1 then 1 else if 4 < p.length then 1 else firstErr (fun f => codeFunc f p.length) p
set_option maxRecDepth 100000 in
set_option maxHeartbeats 2000000 in
theorem check_any (p : List Fn) (v : Value) (w : World) (ht : TabOk w) (hv : ProgVal w v p) :
  Calls Tryd.prog 17 #[.agg #[v]] w fun e w' => e = .returned (.int .i64 (codeProg p)) ∧ Below w.heap.size w w' := by
 obtain ⟨ao, b, off, n, cap, rfl, hc, hcap, hmax⟩ := hv
 obtain ⟨hlen, haddr, hat⟩ := hc
 have HL : Hid (p.length = n) := hlen
 unfold codeProg
 rw [hlen]
 clear hlen
 by_cases h6 : n < 1
 ·rw [if_pos h6]
  go_enter Tryd.func17, Tryd.ntmps17
  go_wp2
  go_ret
  exact ⟨rfl, (Below.refl _ _).alloc (Nat.le_refl _) _⟩
 rw [if_neg h6]
 by_cases h7 : 4 < n
 ·rw [if_pos h7]
  go_enter Tryd.func17, Tryd.ntmps17
  go_wp2
  go_ret
  exact ⟨rfl, (Below.refl _ _).alloc (Nat.le_refl _) _⟩
 rw [if_neg h7]
 obtain rfl := haddr (by omega)
 clear haddr
 go_enter Tryd.func17, Tryd.ntmps17
 go_wp2
 go_loopw [19] (fun i wr => ∃ k : Nat, k ≤ n ∧ i = .int .i64 k ∧ Below (w.heap.size + 1) (w.alloc (.cells #[.slice (some ⟨b, off, none⟩) n cap] 24)) wr ∧
   firstErr (fun f => codeFunc f n) p = firstErr (fun f => codeFunc f n) (p.drop k)) (fun i _ => n - (intOf i).toNat)
 case atStart => exact ⟨0, Nat.zero_le _, rfl, Below.refl _ _, rfl⟩
 case round =>
  obtain ⟨k, hk, rfl, hb, hf⟩ := hrel
  have hbw : Below w.heap.size w wr := ((Below.refl _ _).alloc (Nat.le_refl _) _).trans (hb.mono (by omega))
  by_cases hlt : k < n
  ·have hkx : k < p.length := by rw [HL.out]; exact hlt
   have c0 : wr.cell? ⟨w.heap.size, 0, none⟩ = some (.slice (some ⟨b, off, none⟩) n cap) := (hb.cell (p := ⟨w.heap.size, 0, none⟩) (by simp)).trans (by simp)
   obtain ⟨u, hfn⟩ := hat k hkx
   obtain ⟨d0, d1, d2, hu⟩ := hfn.keeps (keeps_below hbw)
   have hz : w.heap.size < wr.heap.size := by have := hb.size; simp at this; omega
   have hta : ∀ o, TabOk (wr.alloc o) := fun o => (ht.below hbw).below ((Below.refl _ _).alloc (Nat.le_refl _) _)
   have hua : ∀ o, CodeVal (wr.alloc o) u p[k].code := fun o => hu.keeps (keeps_below ((Below.refl _ _).alloc (Nat.le_refl _) _))
   have HF : Hid (firstErr (fun f => codeFunc f n) p = if codeFunc p[k] n = 0 then firstErr (fun f => codeFunc f n) (p.drop (k + 1)) else codeFunc p[k] n) :=
    hf.trans (firstErr_drop _ p k hkx)
   generalize hx : p[k] = x at d0 d1 d2 hu hua HF
   obtain ⟨ao1, b1, off1, n1, cap1, rfl, _⟩ := hu
   have HB : Hid (Below (w.heap.size + 1) (w.alloc (.cells #[.slice (some ⟨b, off, none⟩) n cap] 24)) wr) := hb
   clear hf hat hx hb hbw hfn
   go_wp2_with (go_at_call 33; refine (checkFunc_any x _ n _ (hta _) (hua _)).mono ?_; rintro e w1 ⟨rfl, hb1⟩)
   ·have hne : (codeFunc x n != 0) = true := by assumption
    go_ret
    exact ⟨ret_int (by rw [HF.out, if_neg (by simpa using hne)]), below_step (((Below.refl _ _).alloc (Nat.le_refl _) _).trans (HB.out.mono (by omega))) (by omega) hb1⟩
   ·have hne : (codeFunc x n != 0) = false := by assumption
    go_roundw
    case rel => exact ⟨k + 1, by omega, by go_num, below_step HB.out (by omega) hb1, by rw [HF.out, if_pos (by simpa using hne)]⟩
    case measure => simp [intOf]; omega
  ·have HE := (firstErr_end (fun f => codeFunc f n) p k (by rw [HL.out]; omega))
   have HF : Hid (firstErr (fun f => codeFunc f n) p = 0) := hf.trans HE
   clear hf HE hat
   go_wp2
   go_ret
   exact ⟨ret_int HF.out.symm, hbw⟩
end Go.Proofs.YtfacdhkadnmnlaaDoor
namespace Go.Proofs.YtfacdhkadnmnlaaDoor
open Go Go.RowKit

theorem firstErr_zero {α : Type} {g : α → Int} {l : List α} (h : firstErr g l = 0) : ∀ x ∈ l, g x = 0 := by
 induction l with
 | nil => simp
 | cons y r ih =>
  unfold firstErr at h
  by_cases hy : g y = 0
  ·rw [if_pos hy] at h
   intro x hx
   rcases List.mem_cons.1 hx with rfl | hx
   ·exact hy
   ·exact ih h x hx
  ·rw [if_neg hy] at h
   exact absurd h hy
theorem codeProg_zero {p : List Fn} (h : codeProg p = 0) : 1 ≤ p.length ∧ p.length ≤ 4 ∧ ∀ f ∈ p, codeFunc f p.length = 0 := by
 unfold codeProg at h
 by_cases h1 : p.length < 1
 ·rw [if_pos h1] at h; cases h
 rw [if_neg h1] at h
 by_cases h2 : 4 < p.length
 ·rw [if_pos h2] at h; cases h
 rw [if_neg h2] at h
 exact ⟨by omega, by omega, firstErr_zero h⟩
theorem codeFunc_zero {f : Fn} {funcs : Int} (h : codeFunc f funcs = 0) : 1 ≤ f.regs ∧ f.regs ≤ 12 ∧ 0 ≤ f.params ∧ f.params ≤ 2 ∧ f.params ≤ f.regs ∧ 1 ≤ f.code.length ∧ f.code.length ≤ 40 ∧ ∀ x ∈ f.code, codeInstr x f.regs f.code.length funcs = 0 := by
 unfold codeFunc at h
 by_cases h1 : f.regs < 1
 ·rw [if_pos h1] at h; cases h
 rw [if_neg h1] at h
 by_cases h2 : 12 < f.regs
 ·rw [if_pos h2] at h; cases h
 rw [if_neg h2] at h
 by_cases h3 : f.params < 0
 ·rw [if_pos h3] at h; cases h
 rw [if_neg h3] at h
 by_cases h4 : 2 < f.params
 ·rw [if_pos h4] at h; cases h
 rw [if_neg h4] at h
 by_cases h5 : f.regs < f.params
 ·rw [if_pos h5] at h; cases h
 rw [if_neg h5] at h
 by_cases h6 : f.code.length < 1
 ·rw [if_pos h6] at h; cases h
 rw [if_neg h6] at h
 by_cases h7 : 40 < f.code.length
 ·rw [if_pos h7] at h; cases h
 rw [if_neg h7] at h
 exact ⟨by omega, by omega, by omega, by omega, by omega, by omega, by omega, firstErr_zero h⟩
theorem own_base {w : World} {base base' t size n : Nat} {v : Value} {xs : List Value} (h : w.ownsRow base t size v n xs) (hb : base' ≤ base) : w.ownsRow base' t size v n xs := by
 refine ⟨h.1, ?_⟩
 rcases h.2 with h2 | ⟨g, cap, cur, hv, hg, r⟩
 ·exact Or.inl h2
 ·exact Or.inr ⟨g, cap, cur, hv, by omega, r⟩
end Go.Proofs.YtfacdhkadnmnlaaDoor
namespace Go.Proofs.YtfacdhkadnmnlaaDoor
open Go Go.RowKit

def i64s (l : List Int) : List Value := l.map (Value.int .i64)
def IntsVal (w : World) (v : Value) (l : List Int) : Prop :=
 ∃ ao b off n cap, v = .slice ao n cap ∧ l.length = n ∧ (0 < n → ao = some ⟨b, off, none⟩) ∧ (∀ k (h : k < l.length), w.cell? ⟨b, off + k, none⟩ = some (.int .i64 l[k])) ∧ (n ≤ cap ∧ (ao = none → cap = 0)) ∧ cap ≤ maxLen
theorem IntsVal.keeps {w w' : World} {v : Value} {l : List Int} (h : IntsVal w v l) (k : Keeps w w') : IntsVal w' v l := by
 obtain ⟨ao, b, off, n, cap, rfl, h1, h2, h3, h4⟩ := h
 exact ⟨ao, b, off, n, cap, rfl, h1, h2, fun i hi => k _ _ (h3 i hi), h4⟩
theorem IntsVal.shape {w : World} {v : Value} {l : List Int} (h : IntsVal w v l) : ∃ ao cap, v = .slice ao l.length cap := by
 obtain ⟨ao, b, off, n, cap, rfl, rfl, _⟩ := h
 exact ⟨ao, cap, rfl⟩
end Go.Proofs.YtfacdhkadnmnlaaDoor
namespace Go.Proofs.YtfacdhkadnmnlaaDoor
open Go Go.RowKit

structure Fr where
 fn : Int
 pc : Int
 regs : List Int
def frCells (f : Fr) : List Value := .int .i64 f.fn :: .int .i64 f.pc :: i64s f.regs
end Go.Proofs.YtfacdhkadnmnlaaDoor
namespace Go.Proofs.YtfacdhkadnmnlaaDoor
open Go Go.RowKit

def FrsWf (fs : List Fr) : Prop := ∀ f ∈ fs, f.regs.length = 12
def FramesVal (w : World) (v : Value) (fs : List Fr) : Prop :=
 FrsWf fs ∧ ∃ ao b off n cap, v = .slice ao n cap ∧ fs.length = n ∧ (0 < n → ao = some ⟨b, off, none⟩) ∧ (∀ k (h : k < fs.length), w.rangeAt b (off + k * 14) (frCells fs[k])) ∧ (n ≤ cap ∧ (ao = none → cap = 0)) ∧ cap ≤ maxLen
theorem FramesVal.keeps {w w' : World} {v : Value} {fs : List Fr} (h : FramesVal w v fs) (k : Keeps w w') : FramesVal w' v fs := by
 obtain ⟨hw, ao, b, off, n, cap, rfl, h1, h2, h3, h4⟩ := h
 exact ⟨hw, ao, b, off, n, cap, rfl, h1, h2, fun i hi j u hu => k _ _ (h3 i hi j u hu), h4⟩
theorem FramesVal.shape {w : World} {v : Value} {fs : List Fr} (h : FramesVal w v fs) : ∃ ao cap, v = .slice ao fs.length cap := by
 obtain ⟨_, ao, b, off, n, cap, rfl, rfl, _⟩ := h
 exact ⟨ao, cap, rfl⟩
end Go.Proofs.YtfacdhkadnmnlaaDoor
namespace Go.Proofs.YtfacdhkadnmnlaaDoor
open Go Go.RowKit

def behind (x : Ins) (pc : Nat) : List Nat := if x.op = 15 then [x.imm.toNat] else if x.op = 16 then [pc + 1, x.imm.toNat] else if x.op = 19 then [] else [pc + 1]
def insD (f : Fn) (pc : Nat) : Ins := f.code.getD pc ⟨0, 0, 0, 0, 0⟩
inductive Way (f : Fn) (r : Nat) : Nat → Prop
 | start (h : f.params ≤ (r : Int)) : Way f r 0
 | step {pc to : Nat} (h : pc < f.code.length) (hw : Way f r pc) (hs : (setMask (insD f pc)).testBit r = false) (ht : to ∈ behind (insD f pc) pc) : Way f r to
def bitOf (l : List (BitVec 64)) (q r : Nat) : Bool := (l.getD q 0#64).getLsbD r
def Sound (f : Fn) (l : List (BitVec 64)) : Prop := ∀ q r, q < l.length → r < 64 → bitOf l q r = false → Way f r q
def total (l : List (BitVec 64)) : Nat := (l.map BitVec.toNat).sum
def cutV (l : List (BitVec 64)) (k : Nat) (x : Ins) (to : Nat) : BitVec 64 := l.getD to 0#64 &&& (l.getD k 0#64 ||| bvn (setMask x))
def EdgeOk (l : List (BitVec 64)) (k : Nat) (x : Ins) (to : Nat) : Prop := cutV l k x to = l.getD to 0#64
theorem bvn_bit (m r : Nat) (hr : r < 64) : (bvn m).getLsbD r = m.testBit r := by rw [bvn, BitVec.getLsbD_ofNat]; simp [hr]
theorem getD_set (l : List (BitVec 64)) (i q : Nat) (v : BitVec 64) (hi : i < l.length) : (l.set i v).getD q 0#64 = if q = i then v else l.getD q 0#64 := by
 rw [List.getD_eq_getElem?_getD, List.getElem?_set, List.getD_eq_getElem?_getD]
 by_cases h : i = q
 ·subst h; simp [hi]
 ·simp [h, Ne.symm h]
theorem total_set (l : List (BitVec 64)) (i : Nat) (v : BitVec 64) (hi : i < l.length) : total (l.set i v) + (l.getD i 0#64).toNat = total l + v.toNat := by
 induction l generalizing i with
 | nil => simp at hi
 | cons a l ih =>
  cases i with
  | zero => simp [total]; omega
  | succ i =>
   have := ih i (by simpa using hi)
   simp [total] at this ⊢
   omega
theorem and_le (a b : BitVec 64) : (a &&& b).toNat ≤ a.toNat := by rw [BitVec.toNat_and]; exact Nat.and_le_left
theorem and_lt_of_ne (a b : BitVec 64) (h : a &&& b ≠ a) : (a &&& b).toNat < a.toNat := by
 have h1 := and_le a b
 rcases Nat.lt_or_eq_of_le h1 with h2 | h2
 ·exact h2
 ·exact absurd (BitVec.eq_of_toNat_eq h2) h
structure Mid (f : Fn) (l0 : List (BitVec 64)) (k e : Nat) (again : Bool) (l : List (BitVec 64)) : Prop where
 len : l.length = l0.length
 sound : Sound f l0 → Sound f l
 zeros : ∀ q r, bitOf l0 q r = false → bitOf l q r = false
 less : again = true → total l < total l0
 same : again = false → l = l0 ∧ (∀ pc, pc < k → ∀ to ∈ behind (insD f pc) pc, EdgeOk l0 pc (insD f pc) to) ∧ ∀ to ∈ (behind (insD f k) k).take e, EdgeOk l0 k (insD f k) to
theorem Mid.start (f : Fn) (l0 : List (BitVec 64)) : Mid f l0 0 0 false l0 :=
 ⟨rfl, id, fun _ _ h => h, fun h => (by cases h), fun _ => ⟨rfl, fun pc h => (by omega), fun to h => (by simp at h)⟩⟩
theorem Mid.next {f : Fn} {l0 l : List (BitVec 64)} {k e : Nat} {again : Bool} (h : Mid f l0 k e again l) (he : (behind (insD f k) k).length ≤ e) : Mid f l0 (k + 1) 0 again l :=
 ⟨h.len, h.sound, h.zeros, h.less, fun ha => by
  obtain ⟨h1, h2, h3⟩ := h.same ha
  refine ⟨h1, fun pc hpc to hto => ?_, fun to hto => by simp at hto⟩
  rcases Nat.lt_or_ge pc k with hlt | hge
  ·exact h2 pc hlt to hto
  ·obtain rfl : pc = k := by omega
   exact h3 to (by rw [List.take_of_length_le he]; exact hto)⟩
theorem Mid.step {f : Fn} {l0 l : List (BitVec 64)} {k e to : Nat} {again : Bool} (h : Mid f l0 k e again l) (hk : k < f.code.length) (hkl : k < l0.length) (he : (behind (insD f k) k)[e]? = some to) (hto : to < l0.length) :
  Mid f l0 k (e + 1) (again || (cutV l k (insD f k) to != l.getD to 0#64)) (l.set to (cutV l k (insD f k) to)) := by
 have htl : to < l.length := by rw [h.len]; exact hto
 have hmem : to ∈ behind (insD f k) k := List.mem_of_getElem? he
 have hbit : ∀ q r, bitOf (l.set to (cutV l k (insD f k) to)) q r = if q = to then (bitOf l to r && (bitOf l k r || (bvn (setMask (insD f k))).getLsbD r)) else bitOf l q r := by
  intro q r
  unfold bitOf
  rw [getD_set l to q _ htl]
  split
  ·simp [cutV]
  ·rfl
 have hle : total (l.set to (cutV l k (insD f k) to)) ≤ total l := by
  have h1 := total_set l to (cutV l k (insD f k) to) htl
  have h2 : (cutV l k (insD f k) to).toNat ≤ (l.getD to 0#64).toNat := and_le _ _
  omega
 refine ⟨by simp [h.len], fun hs => ?_, fun q r hq => ?_, fun ha => ?_, fun ha => ?_⟩
 ·intro q r hq hr hb
  rw [hbit] at hb
  by_cases hqt : q = to
  ·subst hqt
   rw [if_pos rfl] at hb
   cases h1 : bitOf l q r
   ·exact h.sound hs q r htl hr h1
   ·rw [h1, Bool.true_and] at hb
    have h2 : bitOf l k r = false := by cases h2 : bitOf l k r <;> simp_all
    have h3 : (bvn (setMask (insD f k))).getLsbD r = false := by cases h3 : (bvn (setMask (insD f k))).getLsbD r <;> simp_all
    rw [bvn_bit _ _ hr] at h3
    exact Way.step hk (h.sound hs k r (by rw [h.len]; exact hkl) hr h2) h3 hmem
  ·rw [if_neg hqt] at hb
   exact h.sound hs q r (by simpa using hq) hr hb
 ·rw [hbit]
  split
  ·rename_i e; subst e; rw [h.zeros q r hq]; rfl
  ·exact h.zeros q r hq
 ·cases hag : again
  ·rw [hag, Bool.false_or] at ha
   have hne : cutV l k (insD f k) to ≠ l.getD to 0#64 := by simpa using ha
   have h1 := total_set l to (cutV l k (insD f k) to) htl
   have h2 : (cutV l k (insD f k) to).toNat < (l.getD to 0#64).toNat := and_lt_of_ne _ _ hne
   obtain ⟨rfl, _⟩ := h.same hag
   omega
  ·have := h.less hag
   omega
 ·simp only [Bool.or_eq_false_iff] at ha
  obtain ⟨h1, h2, h3⟩ := h.same ha.1
  subst h1
  have hee : EdgeOk l k (insD f k) to := by simpa [EdgeOk] using ha.2
  have hl : l.set to (cutV l k (insD f k) to) = l := by
   rw [show cutV l k (insD f k) to = l[to] from by rw [show cutV l k (insD f k) to = l.getD to 0#64 from hee]; simp [List.getD, htl]]
   exact List.set_getElem_self htl
  refine ⟨hl, h2, fun t ht => ?_⟩
  rw [List.take_add_one, he] at ht
  rcases List.mem_append.1 ht with h4 | h4
  ·exact h3 t h4
  ·simp at h4; subst h4; exact hee
end Go.Proofs.YtfacdhkadnmnlaaDoor
namespace Go.Proofs.YtfacdhkadnmnlaaDoor
open Go Go.RowKit

theorem bt9_1 : bits BinOp.and IntKind.i64 9 1 = 1 := by decide
theorem bt9_2 : bits BinOp.and IntKind.i64 9 2 = 0 := by decide
theorem bt9_4 : bits BinOp.and IntKind.i64 9 4 = 0 := by decide
theorem bt9_8 : bits BinOp.and IntKind.i64 9 8 = 8 := by decide
theorem bt7_1 : bits BinOp.and IntKind.i64 7 1 = 1 := by decide
theorem bt7_2 : bits BinOp.and IntKind.i64 7 2 = 2 := by decide
theorem bt7_4 : bits BinOp.and IntKind.i64 7 4 = 4 := by decide
theorem bt7_8 : bits BinOp.and IntKind.i64 7 8 = 0 := by decide
theorem bt7_16 : bits BinOp.and IntKind.i64 7 16 = 0 := by decide
theorem bt7_32 : bits BinOp.and IntKind.i64 7 32 = 0 := by decide
theorem bt3_1 : bits BinOp.and IntKind.i64 3 1 = 1 := by decide
theorem bt3_2 : bits BinOp.and IntKind.i64 3 2 = 2 := by decide
theorem bt3_4 : bits BinOp.and IntKind.i64 3 4 = 0 := by decide
theorem bt3_8 : bits BinOp.and IntKind.i64 3 8 = 0 := by decide
theorem bt3_16 : bits BinOp.and IntKind.i64 3 16 = 0 := by decide
theorem bt3_32 : bits BinOp.and IntKind.i64 3 32 = 0 := by decide
theorem bt6_1 : bits BinOp.and IntKind.i64 6 1 = 0 := by decide
theorem bt6_2 : bits BinOp.and IntKind.i64 6 2 = 2 := by decide
theorem bt6_4 : bits BinOp.and IntKind.i64 6 4 = 4 := by decide
theorem bt6_8 : bits BinOp.and IntKind.i64 6 8 = 0 := by decide
theorem bt6_16 : bits BinOp.and IntKind.i64 6 16 = 0 := by decide
theorem bt6_32 : bits BinOp.and IntKind.i64 6 32 = 0 := by decide
theorem bt16_1 : bits BinOp.and IntKind.i64 16 1 = 0 := by decide
theorem bt16_2 : bits BinOp.and IntKind.i64 16 2 = 0 := by decide
theorem bt16_4 : bits BinOp.and IntKind.i64 16 4 = 0 := by decide
theorem bt16_8 : bits BinOp.and IntKind.i64 16 8 = 0 := by decide
theorem bt16_16 : bits BinOp.and IntKind.i64 16 16 = 16 := by decide
theorem bt18_1 : bits BinOp.and IntKind.i64 18 1 = 0 := by decide
theorem bt18_2 : bits BinOp.and IntKind.i64 18 2 = 2 := by decide
theorem bt18_4 : bits BinOp.and IntKind.i64 18 4 = 0 := by decide
theorem bt18_8 : bits BinOp.and IntKind.i64 18 8 = 0 := by decide
theorem bt18_16 : bits BinOp.and IntKind.i64 18 16 = 16 := by decide
theorem bt39_1 : bits BinOp.and IntKind.i64 39 1 = 1 := by decide
theorem bt39_2 : bits BinOp.and IntKind.i64 39 2 = 2 := by decide
theorem bt39_4 : bits BinOp.and IntKind.i64 39 4 = 4 := by decide
theorem bt39_8 : bits BinOp.and IntKind.i64 39 8 = 0 := by decide
theorem bt39_16 : bits BinOp.and IntKind.i64 39 16 = 0 := by decide
theorem bt39_32 : bits BinOp.and IntKind.i64 39 32 = 32 := by decide
theorem bt2_1 : bits BinOp.and IntKind.i64 2 1 = 0 := by decide
theorem bt2_2 : bits BinOp.and IntKind.i64 2 2 = 2 := by decide
theorem bt2_4 : bits BinOp.and IntKind.i64 2 4 = 0 := by decide
theorem bt2_8 : bits BinOp.and IntKind.i64 2 8 = 0 := by decide
theorem bt2_16 : bits BinOp.and IntKind.i64 2 16 = 0 := by decide
theorem bt2_32 : bits BinOp.and IntKind.i64 2 32 = 0 := by decide
theorem instr_same (x : Ins) (regs places funcs : Int) : codeInstr x regs places funcs = refInstr x regs places funcs := by
 obtain ⟨op, dst, a, b, imm⟩ := x
 by_cases h : 1 ≤ op ∧ op ≤ 19
 ·obtain ⟨m, rfl⟩ : ∃ m : Nat, op = m := ⟨op.toNat, by omega⟩
  have hm : m = 1 ∨ m = 2 ∨ m = 3 ∨ m = 4 ∨ m = 5 ∨ m = 6 ∨ m = 7 ∨ m = 8 ∨ m = 9 ∨ m = 10 ∨ m = 11 ∨ m = 12 ∨ m = 13 ∨ m = 14 ∨ m = 15 ∨ m = 16 ∨ m = 17 ∨ m = 18 ∨ m = 19 := by omega
  rcases hm with rfl | rfl | rfl | rfl | rfl | rfl | rfl | rfl | rfl | rfl | rfl | rfl | rfl | rfl | rfl | rfl | rfl | rfl | rfl
  all_goals
   simp [codeInstr, refInstr, refOk1, refOk2, regMayB, setsB, readsAB, readsBB, inB, belowB, roomOf, immB, hasOf, hasL, bt9_1, bt9_2, bt9_4, bt9_8, bt7_1, bt7_2, bt7_4, bt7_8, bt7_16, bt7_32, bt3_1, bt3_2, bt3_4, bt3_8, bt3_16, bt3_32, bt6_1, bt6_2, bt6_4, bt6_8, bt6_16, bt6_32, bt16_1, bt16_2, bt16_4, bt16_8, bt16_16, bt18_1, bt18_2, bt18_4, bt18_8, bt18_16, bt39_1, bt39_2, bt39_4, bt39_8, bt39_16, bt39_32, bt2_1, bt2_2, bt2_4, bt2_8, bt2_16, bt2_32]
   repeat' split
   all_goals first | rfl | omega
 ·have e : hasOf op = 0 := by
   unfold hasOf
   by_cases c : 0 ≤ op ∧ op < 20
   ·rw [if_pos c]
    have : op = 0 := by omega
    subst this; rfl
   ·rw [if_neg c]
  have e' : inB op 1 19 = false := by simp [inB]; omega
  unfold codeInstr refInstr
  dsimp only
  rw [e, e']
  rfl
end Go.Proofs.YtfacdhkadnmnlaaDoor
namespace Go.Proofs.YtfacdhkadnmnlaaDoor
open Go Go.RowKit

theorem infoF : (Tryd.prog.info? 37).map (fun i => (i.zero, i.size, i.bytes)) = some (some (.agg #[.int .i64 0, .int .i64 0, .slice none 0 0]), 3, 40) := by kernel_rfl
theorem infoI : (Tryd.prog.info? 51).map (fun i => (i.zero, i.size, i.bytes)) = some (some (.agg #[.int .i64 0, .int .i64 0, .int .i64 0, .int .i64 0, .int .i64 0]), 5, 40) := by kernel_rfl
end Go.Proofs.YtfacdhkadnmnlaaDoor
