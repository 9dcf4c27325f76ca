import Derived.WalkKit
import Derived.WalkSmall
import Derived.WalkSpells
import Derived.BigQuiet
import Derived.Deep.QuietTactic
import Derived.Test.YtldbmdgpdolaaaaDoorProg
import Derived.WalkLawsBesides
import Derived.Laws.AppendOwnNone
import Derived.OneCell
import Derived.Deep.MidRow
import Derived.Deep.WholeRow
import Derived.Handy
import Derived.Laws.CopyOwn
import Derived.Laws.Cover3
import Derived.OwnWalk
namespace Go.Proofs.YtldbmdgpdolaaaaDoor
open Go Go.RowKit

structure Ins where
  op : Int
  dst : Int
  a : Int
  b : Int
  imm : Int
def Ins.val (x : Ins) : Value := .agg #[.int .i64 x.op, .int .i64 x.dst, .int .i64 x.a, .int .i64 x.b, .int .i64 x.imm]
structure Fn where
  params : Int
  regs : Int
  code : List Ins
def Keeps (w w' : World) : Prop := ∀ (a : Addr) (v : Value), w.cell? a = some v → w'.cell? a = some v
theorem Keeps.refl (w : World) : Keeps w w := fun _ _ h => h
theorem Keeps.trans {a b c : World} (h : Keeps a b) (k : Keeps b c) : Keeps a c := fun x v e => k x v (h x v e)
theorem keeps_below {w w' : World} (hb : Below w.heap.size w w') : Keeps w w' := fun _ _ h => (hb.cell (World.block_lt_of_cell? _ _ h)).trans h
theorem cell_alloc {w : World} {a : Addr} {v : Value} (h : w.cell? a = some v) (o : Obj) : (w.alloc o).cell? a = some v := keeps_below ((Below.refl _ _).alloc (Nat.le_refl _) o) _ _ h
def insAt (w : World) (b off : Nat) (x : Ins) : Prop :=
  w.cell? ⟨b, off, none⟩ = some (.int .i64 x.op) ∧ w.cell? ⟨b, off + 1, none⟩ = some (.int .i64 x.dst) ∧ w.cell? ⟨b, off + 2, none⟩ = some (.int .i64 x.a) ∧
  w.cell? ⟨b, off + 3, none⟩ = some (.int .i64 x.b) ∧ w.cell? ⟨b, off + 4, none⟩ = some (.int .i64 x.imm)
theorem insAt.keeps {w w' : World} {b off : Nat} {x : Ins} (h : insAt w b off x) (k : Keeps w w') : insAt w' b off x :=
  ⟨k _ _ h.1, k _ _ h.2.1, k _ _ h.2.2.1, k _ _ h.2.2.2.1, k _ _ h.2.2.2.2⟩
structure CodeIn (w : World) (ao : Option Addr) (b off n : Nat) (xs : List Ins) : Prop where
  len : xs.length = n
  addr : 0 < n → ao = some ⟨b, off, none⟩
  at_ : ∀ k (h : k < xs.length), insAt w b (off + k * 5) xs[k]
theorem CodeIn.keeps {w w' : World} {ao : Option Addr} {b off n : Nat} {xs : List Ins} (h : CodeIn w ao b off n xs) (k : Keeps w w') : CodeIn w' ao b off n xs :=
  ⟨h.len, h.addr, fun i hi => (h.at_ i hi).keeps k⟩
def CodeVal (w : World) (v : Value) (xs : List Ins) : Prop := ∃ ao b off n cap, v = .slice ao n cap ∧ CodeIn w ao b off n xs ∧ (n ≤ cap ∧ (ao = none → cap = 0)) ∧ cap ≤ maxLen
theorem CodeVal.keeps {w w' : World} {v : Value} {xs : List Ins} (h : CodeVal w v xs) (k : Keeps w w') : CodeVal w' v xs := by
  obtain ⟨ao, b, off, n, cap, rfl, h, h'⟩ := h
  exact ⟨ao, b, off, n, cap, rfl, h.keeps k, h'⟩
structure FnAt (w : World) (b off : Nat) (f : Fn) (v : Value) : Prop where
  params : w.cell? ⟨b, off, none⟩ = some (.int .i64 f.params)
  regs : w.cell? ⟨b, off + 1, none⟩ = some (.int .i64 f.regs)
  code : w.cell? ⟨b, off + 2, none⟩ = some v
  val : CodeVal w v f.code
theorem FnAt.keeps {w w' : World} {b off : Nat} {f : Fn} {v : Value} (h : FnAt w b off f v) (k : Keeps w w') : FnAt w' b off f v :=
  ⟨k _ _ h.params, k _ _ h.regs, k _ _ h.code, h.val.keeps k⟩
structure FnsIn (w : World) (ao : Option Addr) (b off n : Nat) (p : List Fn) : Prop where
  len : p.length = n
  addr : 0 < n → ao = some ⟨b, off, none⟩
  at_ : ∀ k (h : k < p.length), ∃ v, FnAt w b (off + k * 3) p[k] v
theorem FnsIn.keeps {w w' : World} {ao : Option Addr} {b off n : Nat} {p : List Fn} (h : FnsIn w ao b off n p) (k : Keeps w w') : FnsIn w' ao b off n p :=
  ⟨h.len, h.addr, fun i hi => by obtain ⟨v, hv⟩ := h.at_ i hi; exact ⟨v, hv.keeps k⟩⟩
def ProgVal (w : World) (v : Value) (p : List Fn) : Prop := ∃ ao b off n cap, v = .slice ao n cap ∧ FnsIn w ao b off n p ∧ (n ≤ cap ∧ (ao = none → cap = 0)) ∧ cap ≤ maxLen
theorem ProgVal.keeps {w w' : World} {v : Value} {p : List Fn} (h : ProgVal w v p) (k : Keeps w w') : ProgVal w' v p := by
  obtain ⟨ao, b, off, n, cap, rfl, h, h'⟩ := h
  exact ⟨ao, b, off, n, cap, rfl, h.keeps k, h'⟩
def firstErr {α : Type} (g : α → Int) : List α → Int
  | [] => 0
  | x :: r => if g x = 0 then firstErr g r else g x
theorem firstErr_drop {α : Type} (g : α → Int) (l : List α) (k : Nat) (h : k < l.length) : firstErr g (l.drop k) = if g l[k] = 0 then firstErr g (l.drop (k + 1)) else g l[k] := by
  rw [List.drop_eq_getElem_cons h]; rfl
theorem firstErr_end {α : Type} (g : α → Int) (l : List α) (k : Nat) (h : l.length ≤ k) : firstErr g (l.drop k) = 0 := by
  rw [List.drop_eq_nil_of_le h]; rfl
theorem below_step {B : Nat} {w wr w1 : World} {o : Obj} (h : Below B w wr) (hB : B ≤ wr.heap.size) (h1 : Below (wr.alloc o).heap.size (wr.alloc o) w1) : Below B w w1 :=
  (h.alloc hB o).trans (h1.mono (by simp; omega))
theorem below_call {B : Nat} {w wr w1 : World} (h : Below B w wr) (hB : B ≤ wr.heap.size) (h1 : Below wr.heap.size wr w1) : Below B w w1 := h.trans (h1.mono hB)
theorem ret_int {k : IntKind} {a b : Int} (h : a = b) : Ending.returned (.int k a) = .returned (.int k b) := by rw [h]
end Go.Proofs.YtldbmdgpdolaaaaDoor
namespace Go.Proofs.YtldbmdgpdolaaaaDoor
open Go Go.RowKit

def hasL : List Int := [0, 9, 7, 7, 7, 7, 7, 7, 7, 7, 7, 7, 7, 3, 6, 16, 18, 39, 3, 2]
def hasOf (op : Int) : Int := if 0 ≤ op ∧ op < 20 then hasL.getD op.toNat 0 else 0
def TabOk (w : World) : Prop := ∀ i : Nat, i < 20 → w.cell? ⟨1, i, none⟩ = some (.int .i64 (hasL.getD i 0))
set_option maxRecDepth 100000 in
theorem has_any (op : Int) (w : World) (ht : TabOk w) :
    Calls Tryd.prog 80 #[.int .i64 op] w fun e w' => e = .returned (.int .i64 (hasOf op)) ∧ w' = w := by
  by_cases h0 : 0 ≤ op
  · by_cases h1 : op < 20
    · have hc := ht op.toNat (by omega)
      have e : hasOf op = hasL.getD op.toNat 0 := by unfold hasOf; rw [if_pos ⟨h0, h1⟩]
      rw [e]
      generalize hasL.getD op.toNat 0 = v at hc
      clear e ht
      go_enter Tryd.func80, Tryd.ntmps80
      go_wp2
      go_ret
      exact ⟨rfl, rfl⟩
    · have e : hasOf op = 0 := by unfold hasOf; rw [if_neg (by omega)]
      rw [e]
      clear e ht
      go_enter Tryd.func80, Tryd.ntmps80
      go_wp2
      go_ret
      exact ⟨rfl, rfl⟩
  · have e : hasOf op = 0 := by unfold hasOf; rw [if_neg (by omega)]
    rw [e]
    clear e ht
    go_enter Tryd.func80, Tryd.ntmps80
    go_wp2
    go_ret
    exact ⟨rfl, rfl⟩
def belowB (n most : Int) : Bool := decide (0 ≤ n ∧ n < most)
set_option maxRecDepth 100000 in
theorem below_any (n most : Int) (w : World) :
    Calls Tryd.prog 81 #[.int .i64 n, .int .i64 most] w fun e w' => e = .returned (.bool (belowB n most)) ∧ w' = w := by
  by_cases h0 : 0 ≤ n
  · by_cases h1 : n < most
    · have e : belowB n most = true := by simp [belowB, h0, h1]
      rw [e]; clear e
      go_enter Tryd.func81, Tryd.ntmps81
      go_wp2
      go_ret
      exact ⟨rfl, rfl⟩
    · have e : belowB n most = false := by simp [belowB, h1]
      rw [e]; clear e
      go_enter Tryd.func81, Tryd.ntmps81
      go_wp2
      go_ret
      exact ⟨rfl, rfl⟩
  · have e : belowB n most = false := by simp [belowB, h0]
    rw [e]; clear e
    go_enter Tryd.func81, Tryd.ntmps81
    go_wp2
    go_ret
    exact ⟨rfl, rfl⟩
def roomOf (has part most : Int) : Int := if (bits BinOp.and IntKind.i64 has part == 0) = true then 1 else most
set_option maxRecDepth 100000 in
theorem room_any (has part most : Int) (w : World) :
    Calls Tryd.prog 82 #[.int .i64 has, .int .i64 part, .int .i64 most] w fun e w' => e = .returned (.int .i64 (roomOf has part most)) ∧ w' = w := by
  by_cases h : (bits BinOp.and IntKind.i64 has part == 0) = true
  · have e : roomOf has part most = 1 := by unfold roomOf; rw [if_pos h]
    rw [e]; clear e
    go_enter Tryd.func82, Tryd.ntmps82
    go_wp2
    go_ret
    exact ⟨rfl, rfl⟩
  · have e : roomOf has part most = most := by unfold roomOf; rw [if_neg h]
    rw [e]; clear e
    have h' : (bits BinOp.and IntKind.i64 has part == 0) = false := by simpa using h
    clear h
    go_enter Tryd.func82, Tryd.ntmps82
    go_wp2
    go_ret
    exact ⟨rfl, rfl⟩
def immB (imm has places funcs : Int) : Bool :=
  if (bits BinOp.and IntKind.i64 has 8 != 0) = true then true else if (bits BinOp.and IntKind.i64 has 16 != 0) = true then belowB imm places else belowB imm (roomOf has 32 funcs)
set_option maxRecDepth 100000 in
theorem immFits_any (imm has places funcs : Int) (w : World) :
    Calls Tryd.prog 83 #[.int .i64 imm, .int .i64 has, .int .i64 places, .int .i64 funcs] w fun e w' => e = .returned (.bool (immB imm has places funcs)) ∧ w' = w := by
  by_cases h : (bits BinOp.and IntKind.i64 has 8 != 0) = true
  · have e : immB imm has places funcs = true := by unfold immB; rw [if_pos h]
    rw [e]; clear e
    go_enter Tryd.func83, Tryd.ntmps83
    go_wp2
    go_ret
    exact ⟨rfl, rfl⟩
  · have h' : (bits BinOp.and IntKind.i64 has 8 != 0) = false := by simpa using h
    by_cases k : (bits BinOp.and IntKind.i64 has 16 != 0) = true
    · have e : immB imm has places funcs = belowB imm places := by unfold immB; rw [if_neg h, if_pos k]
      rw [e]; clear e h
      go_enter Tryd.func83, Tryd.ntmps83
      go_wp2_with (go_at_call 81; refine (below_any _ _ _).mono ?_; rintro e w' ⟨rfl, rfl⟩)
      go_ret
      exact ⟨rfl, rfl⟩
    · have k' : (bits BinOp.and IntKind.i64 has 16 != 0) = false := by simpa using k
      have e : immB imm has places funcs = belowB imm (roomOf has 32 funcs) := by unfold immB; rw [if_neg h, if_neg k]
      rw [e]; clear e h k
      go_enter Tryd.func83, Tryd.ntmps83
      go_wp2_with (first | (go_at_call 81; refine (below_any _ _ _).mono ?_; rintro e w' ⟨rfl, rfl⟩) | (go_at_call 82; refine (room_any _ _ _ _).mono ?_; rintro e w' ⟨rfl, rfl⟩))
      go_ret
      exact ⟨rfl, rfl⟩
theorem TabOk.pos {w : World} (h : TabOk w) : 1 < w.heap.size := World.block_lt_of_cell? _ _ (h 0 (by omega))
theorem TabOk.below {w w' : World} (h : TabOk w) (hb : Below w.heap.size w w') : TabOk w' := fun i hi => (hb.cell (p := ⟨1, i, none⟩) h.pos).trans (h i hi)
def codeInstr (x : Ins) (regs places funcs : Int) : Int :=
  if (hasOf x.op == 0) = true then 3
  else if belowB x.dst (roomOf (hasOf x.op) 1 regs) = false then 2
  else if belowB x.a (roomOf (hasOf x.op) 2 regs) = false then 2
  else if belowB x.b (roomOf (hasOf x.op) 4 regs) = false then 2
  else if immB x.imm (hasOf x.op) places funcs = false then 2 else 0
set_option maxRecDepth 100000 in
set_option maxHeartbeats 1000000 in
theorem instr_any (x : Ins) (regs places funcs : Int) (w : World) (ht : TabOk w) :
    Calls Tryd.prog 54 #[x.val, .int .i64 regs, .int .i64 places, .int .i64 funcs] w fun e w' => e = .returned (.int .i64 (codeInstr x regs places funcs)) ∧ Below w.heap.size w w' := by
  obtain ⟨op, dst, a, b, imm⟩ := x
  have hta : ∀ o, TabOk (w.alloc o) := fun o => ht.below ((Below.refl _ _).alloc (Nat.le_refl _) _)
  unfold codeInstr Ins.val
  dsimp only
  by_cases h0 : (hasOf op == 0) = true
  · rw [if_pos h0]
    go_enter Tryd.func54, Tryd.ntmps54
    go_wp2_with (go_at_call 80; refine (has_any _ _ (hta _)).mono ?_; rintro e w' ⟨rfl, rfl⟩)
    go_ret
    exact ⟨rfl, (Below.refl _ _).alloc (Nat.le_refl _) _⟩
  rw [if_neg h0]
  have h0' : (hasOf op == 0) = false := by simpa using h0
  clear h0
  by_cases h1 : belowB dst (roomOf (hasOf op) 1 regs) = false
  · rw [if_pos h1]
    go_enter Tryd.func54, Tryd.ntmps54
    go_wp2_with (go_at_call 80; refine (has_any _ _ (hta _)).mono ?_; rintro e w' ⟨rfl, rfl⟩)
    go_quiet ((first | (go_at_call 82; exact Calls.quiet_of_same (room_any _ _ _ _)) | (go_at_call 81; exact Calls.quiet_of_same (below_any _ _ _))))
    go_wp2_with (go_at_call 83; refine (immFits_any _ _ _ _ _).mono ?_; rintro e w' ⟨rfl, rfl⟩)
    go_ret
    exact ⟨rfl, below_drewN ((Below.refl _ _).alloc (Nat.le_refl _) _) _⟩
  rw [if_neg h1]
  replace h1 : belowB dst (roomOf (hasOf op) 1 regs) = true := by simpa using h1
  by_cases h2 : belowB a (roomOf (hasOf op) 2 regs) = false
  · rw [if_pos h2]
    go_enter Tryd.func54, Tryd.ntmps54
    go_wp2_with (go_at_call 80; refine (has_any _ _ (hta _)).mono ?_; rintro e w' ⟨rfl, rfl⟩)
    go_quiet ((first | (go_at_call 82; exact Calls.quiet_of_same (room_any _ _ _ _)) | (go_at_call 81; exact Calls.quiet_of_same (below_any _ _ _))))
    go_wp2_with (go_at_call 83; refine (immFits_any _ _ _ _ _).mono ?_; rintro e w' ⟨rfl, rfl⟩)
    go_ret
    exact ⟨rfl, below_drewN ((Below.refl _ _).alloc (Nat.le_refl _) _) _⟩
  rw [if_neg h2]
  replace h2 : belowB a (roomOf (hasOf op) 2 regs) = true := by simpa using h2
  by_cases h3 : belowB b (roomOf (hasOf op) 4 regs) = false
  · rw [if_pos h3]
    go_enter Tryd.func54, Tryd.ntmps54
    go_wp2_with (go_at_call 80; refine (has_any _ _ (hta _)).mono ?_; rintro e w' ⟨rfl, rfl⟩)
    go_quiet ((first | (go_at_call 82; exact Calls.quiet_of_same (room_any _ _ _ _)) | (go_at_call 81; exact Calls.quiet_of_same (below_any _ _ _))))
    go_wp2_with (go_at_call 83; refine (immFits_any _ _ _ _ _).mono ?_; rintro e w' ⟨rfl, rfl⟩)
    go_ret
    exact ⟨rfl, below_drewN ((Below.refl _ _).alloc (Nat.le_refl _) _) _⟩
  rw [if_neg h3]
  replace h3 : belowB b (roomOf (hasOf op) 4 regs) = true := by simpa using h3
  by_cases h4 : immB imm (hasOf op) places funcs = false
  · rw [if_pos h4]
    go_enter Tryd.func54, Tryd.ntmps54
    go_wp2_with (go_at_call 80; refine (has_any _ _ (hta _)).mono ?_; rintro e w' ⟨rfl, rfl⟩)
    go_quiet ((first | (go_at_call 82; exact Calls.quiet_of_same (room_any _ _ _ _)) | (go_at_call 81; exact Calls.quiet_of_same (below_any _ _ _))))
    go_wp2_with (go_at_call 83; refine (immFits_any _ _ _ _ _).mono ?_; rintro e w' ⟨rfl, rfl⟩)
    go_ret
    exact ⟨rfl, below_drewN ((Below.refl _ _).alloc (Nat.le_refl _) _) _⟩
  · rw [if_neg h4]
    replace h4 : immB imm (hasOf op) places funcs = true := by simpa using h4
    go_enter Tryd.func54, Tryd.ntmps54
    go_wp2_with (go_at_call 80; refine (has_any _ _ (hta _)).mono ?_; rintro e w' ⟨rfl, rfl⟩)
    go_quiet ((first | (go_at_call 82; exact Calls.quiet_of_same (room_any _ _ _ _)) | (go_at_call 81; exact Calls.quiet_of_same (below_any _ _ _))))
    go_wp2_with (go_at_call 83; refine (immFits_any _ _ _ _ _).mono ?_; rintro e w' ⟨rfl, rfl⟩)
    go_ret
    exact ⟨rfl, below_drewN ((Below.refl _ _).alloc (Nat.le_refl _) _) _⟩
end Go.Proofs.YtldbmdgpdolaaaaDoor
namespace Go.Proofs.YtldbmdgpdolaaaaDoor
open Go Go.RowKit

theorem ProgVal.shape {w : World} {v : Value} {p : List Fn} (h : ProgVal w v p) : ∃ ao n cap, v = .slice ao n cap := by
  obtain ⟨ao, b, off, n, cap, rfl, _⟩ := h
  exact ⟨ao, n, cap, rfl⟩
structure Later (w : World) where
  to : World
  below : Below w.heap.size w to
instance (w : World) : Inhabited (Later w) := ⟨⟨w, Below.refl _ _⟩⟩
theorem Later.cell {w : World} {a : Addr} {v : Value} (h : w.cell? a = some v) (d : Later w) : d.to.cell? a = some v := keeps_below d.below _ _ h
theorem Later.size {w : World} (d : Later w) : w.heap.size ≤ d.to.heap.size := d.below.size
def Later.next {w w' : World} (d : Later w) (h : Below d.to.heap.size d.to w') : Later w := ⟨w', d.below.trans (h.mono d.size)⟩
theorem wp_region_later {P : Program} {id : Nat} {Q : Exit → Act → World → Prop} {a : Act} {w : World} {l : List Oper} (hm : P.follows .mixedOrders = true) (hB : Region.lexB .any l.toArray = true)
    (h : wpQuiet P l.toArray (fun w' => ∃ d : Later w, w' = d.to) (fun a' => ∀ w', (∃ d : Later w, w' = d.to) → Q .normal a' w') l a) : (Code.region id l.toArray true).wp P Q a w :=
  wp_region_quiet (C := fun w' => ∃ d : Later w, w' = d.to) hm hB ⟨⟨_, (Below.refl _ _).drew⟩, rfl⟩ (by simpa using h)
theorem calls_later {P : Program} {f : FuncId} {args : Array Value} {w : World} {d : Later w} {v : Value}
    (h : Calls P f args d.to fun e w' => e = .returned v ∧ Below d.to.heap.size d.to w') : Calls P f args d.to fun e w'' => e = .returned v ∧ ∃ d' : Later w, w'' = d'.to :=
  h.mono fun _ _ ⟨he, hb⟩ => ⟨he, d.next hb, rfl⟩
end Go.Proofs.YtldbmdgpdolaaaaDoor
namespace Go.Proofs.YtldbmdgpdolaaaaDoor
open Go Go.RowKit

def insCells (x : Ins) : List Value := [.int .i64 x.op, .int .i64 x.dst, .int .i64 x.a, .int .i64 x.b, .int .i64 x.imm]
def codeCells (xs : List Ins) : List Value := xs.flatMap insCells
theorem codeCells_get (xs : List Ins) (k j : Nat) (h : k < xs.length) (hj : j < 5) : (codeCells xs)[k * 5 + j]? = (insCells xs[k])[j]? := by
  induction xs generalizing k with
  | nil => simp at h
  | cons x r ih =>
    have e : codeCells (x :: r) = insCells x ++ codeCells r := rfl
    rw [e]
    cases k with
    | zero => rw [List.getElem?_append_left (by simp [insCells]; omega)]; simp
    | succ k =>
      rw [List.getElem?_append_right (by simp [insCells]; omega)]
      have := ih k (by simpa using h)
      have e2 : (k + 1) * 5 + j - (insCells x).length = k * 5 + j := by simp [insCells]; omega
      rw [e2, this]; rfl
theorem codeCells_one (xs : List Ins) : ∀ u ∈ codeCells xs, u.oneCell' = true := by
  intro u hu
  obtain ⟨x, _, hx⟩ := List.mem_flatMap.1 hu
  simp [insCells] at hx
  rcases hx with rfl | rfl | rfl | rfl | rfl <;> rfl
theorem code_of_own {w : World} {base t : Nat} {v : Value} {xs : List Ins} (h : w.ownsRow base t 5 v xs.length (codeCells xs)) : CodeVal w v xs := by
  have hc := @World.ownsRow.cells _ _ _ _ _ _ _ h
  rcases h.2 with ⟨rfl, h0⟩ | ⟨g, cap, cur, rfl, _, hg, hn, hm, _, _⟩
  · have : xs = [] := List.length_eq_zero_iff.1 h0
    subst this
    exact ⟨none, 0, 0, 0, 0, rfl, ⟨rfl, fun h => by omega, fun k h => by simp at h⟩, ⟨Nat.le_refl _, fun _ => rfl⟩, by simp [maxLen]⟩
  · refine ⟨some ⟨g, 0, none⟩, g, 0, xs.length, cap, rfl, ⟨rfl, fun _ => rfl, fun k hk => ?_⟩, ⟨hn, fun h => by cases h⟩, hm⟩
    have cell : ∀ j u, (codeCells xs)[j]? = some u → w.cell? ⟨g, j, none⟩ = some u := fun j u hu => by
      have := hc (g := g) rfl j u hu
      have hadd : (⟨g, 0, none⟩ : Addr).add j = ⟨g, j, none⟩ := by unfold Addr.add; split <;> simp_all
      rwa [hadd] at this
    refine ⟨?_, ?_, ?_, ?_, ?_⟩
    · simpa using cell (k * 5 + 0) _ (codeCells_get xs k 0 hk (by omega))
    · rw [Nat.zero_add]; exact cell (k * 5 + 1) _ (codeCells_get xs k 1 hk (by omega))
    · rw [Nat.zero_add]; exact cell (k * 5 + 2) _ (codeCells_get xs k 2 hk (by omega))
    · rw [Nat.zero_add]; exact cell (k * 5 + 3) _ (codeCells_get xs k 3 hk (by omega))
    · rw [Nat.zero_add]; exact cell (k * 5 + 4) _ (codeCells_get xs k 4 hk (by omega))
def fnCells (f : Fn) (u : Value) : List Value := [.int .i64 f.params, .int .i64 f.regs, u]
def fnsCells : List Fn → List Value → List Value
  | f :: p, u :: us => fnCells f u ++ fnsCells p us
  | _, _ => []
theorem fnsCells_snoc (p : List Fn) (us : List Value) (f : Fn) (u : Value) (h : us.length = p.length) : fnsCells (p ++ [f]) (us ++ [u]) = fnsCells p us ++ fnCells f u := by
  induction p generalizing us with
  | nil => cases us <;> simp_all [fnsCells]
  | cons g p ih =>
    cases us with
    | nil => simp at h
    | cons u' us => simp [fnsCells, ih us (by simpa using h)]
theorem fnsCells_get (p : List Fn) (us : List Value) (hl : us.length = p.length) (k j : Nat) (h : k < p.length) (hj : j < 3) : (fnsCells p us)[k * 3 + j]? = (fnCells p[k] (us[k]'(by omega)))[j]? := by
  induction p generalizing us k with
  | nil => simp at h
  | cons f p ih =>
    cases us with
    | nil => simp at hl
    | cons u us =>
      simp only [fnsCells]
      cases k with
      | zero => rw [List.getElem?_append_left (by simp [fnCells]; omega)]; simp
      | succ k =>
        rw [List.getElem?_append_right (by simp [fnCells]; omega)]
        have := ih us (by simpa using hl) k (by simpa using h)
        have e2 : (k + 1) * 3 + j - (fnCells f u).length = k * 3 + j := by simp [fnCells]; omega
        rw [e2, this]; rfl
structure Built (w : World) (base tF tI : Nat) (v : Value) (p : List Fn) (us : List Value) : Prop where
  len : us.length = p.length
  row : w.ownsRow base tF 3 v p.length (fnsCells p us)
  codes : ∀ i (h : i < p.length), w.ownsRow base tI 5 (us[i]'(by omega)) p[i].code.length (codeCells p[i].code)
theorem ownsRow_below {w w' : World} {base t size n : Nat} {v : Value} {xs : List Value} (h : w.ownsRow base t size v n xs) (hb : Below w.heap.size w w') : w'.ownsRow base t size v n xs := by
  refine ⟨h.1, ?_⟩
  rcases h.2 with h2 | ⟨g, cap, cur, hv, hg, hh, r⟩
  · exact Or.inl h2
  · exact Or.inr ⟨g, cap, cur, hv, hg, (hb.block g (lt_of_block hh)).trans hh, r⟩
theorem Built.below {w w' : World} {base tF tI : Nat} {v : Value} {p : List Fn} {us : List Value} (h : Built w base tF tI v p us) (hb : Below w.heap.size w w') : Built w' base tF tI v p us :=
  ⟨h.len, ownsRow_below h.row hb, fun i hi => ownsRow_below (h.codes i hi) hb⟩
theorem Built.alloc {w : World} {base tF tI : Nat} {v : Value} {p : List Fn} {us : List Value} (h : Built w base tF tI v p us) (o : Obj) : Built (w.alloc o) base tF tI v p us :=
  h.below ((Below.refl _ _).alloc (Nat.le_refl _) _)
theorem Built.setCell {w : World} {base tF tI : Nat} {v : Value} {p : List Fn} {us : List Value} (h : Built w base tF tI v p us) {a : Addr} (ha : a.block < base) (u : Value) : Built (w.setCell a u) base tF tI v p us :=
  ⟨h.len, ownsRow_setCell_below h.row ha u, fun i hi => ownsRow_setCell_below (h.codes i hi) ha u⟩
theorem own_apart {w : World} {base t t' size size' n n' : Nat} {v v' : Value} {xs xs' : List Value} (h : w.ownsRow base t size v n xs) (h' : w.ownsRow base t' size' v' n' xs') (ht : t ≠ t') :
    v.ownBlock = none ∨ v.ownBlock ≠ v'.ownBlock := by
  rcases h.2 with ⟨rfl, _⟩ | ⟨g, cap, cur, rfl, _, hg, _⟩
  · exact Or.inl rfl
  · right
    rcases h'.2 with ⟨rfl, _⟩ | ⟨g', cap', cur', rfl, _, hg', _⟩
    · simp [Value.ownBlock]
    · simp only [Value.ownBlock]
      intro e
      obtain rfl : g = g' := by simpa using e
      rw [hg] at hg'
      simp at hg'
      exact ht hg'.2
theorem Built.snoc {w w' : World} {base tF tI : Nat} {v v' u : Value} {p : List Fn} {us : List Value} {f : Fn} (ht : tI ≠ tF) (h : Built w base tF tI v p us) (hu : w.ownsRow base tI 5 u f.code.length (codeCells f.code))
    (hrow : w'.ownsRow base tF 3 v' (p.length + 1) (fnsCells p us ++ fnCells f u)) (hg : w.grownBy w' v.ownBlock) : Built w' base tF tI v' (p ++ [f]) (us ++ [u]) := by
  refine ⟨by simp [h.len], ?_, fun i hi => ?_⟩
  · rw [fnsCells_snoc p us f u h.len]; simpa using hrow
  · by_cases hip : i < p.length
    · have e1 : (p ++ [f])[i] = p[i] := List.getElem_append_left hip
      have e2 : (us ++ [u])[i]'(by simp [h.len]; omega) = us[i]'(by rw [h.len]; exact hip) := List.getElem_append_left (by rw [h.len]; exact hip)
      rw [e1, e2]
      exact (h.codes i hip).kept hg (own_apart (h.codes i hip) h.row ht)
    · have hi' : i = p.length := by simp at hi; omega
      subst hi'
      have e1 : (p ++ [f])[p.length] = f := by simp
      have e2 : (us ++ [u])[p.length]'(by simp [h.len]) = u := by simp [← h.len]
      rw [e1, e2]
      exact hu.kept hg (own_apart hu h.row ht)
theorem Built.prog {w : World} {base tF tI : Nat} {v : Value} {p : List Fn} {us : List Value} (h : Built w base tF tI v p us) : ProgVal w v p := by
  have hc := @World.ownsRow.cells _ _ _ _ _ _ _ h.row
  rcases h.row.2 with ⟨rfl, h0⟩ | ⟨g, cap, cur, rfl, _, hg, hn, hm, _, _⟩
  · have : p = [] := List.length_eq_zero_iff.1 h0
    subst this
    exact ⟨none, 0, 0, 0, 0, rfl, ⟨rfl, fun h => by omega, fun k h => by simp at h⟩, ⟨Nat.le_refl _, fun _ => rfl⟩, by simp [maxLen]⟩
  · refine ⟨some ⟨g, 0, none⟩, g, 0, p.length, cap, rfl, ⟨rfl, fun _ => rfl, fun k hk => ?_⟩, ⟨hn, fun h => by cases h⟩, hm⟩
    have cell : ∀ j u, (fnsCells p us)[j]? = some u → w.cell? ⟨g, j, none⟩ = some u := fun j u hu => by
      have := hc (g := g) rfl j u hu
      have hadd : (⟨g, 0, none⟩ : Addr).add j = ⟨g, j, none⟩ := by unfold Addr.add; split <;> simp_all
      rwa [hadd] at this
    refine ⟨us[k]'(by rw [h.len]; exact hk), ?_, ?_, ?_, code_of_own (h.codes k hk)⟩
    · simpa using cell (k * 3 + 0) _ (fnsCells_get p us h.len k 0 hk (by omega))
    · rw [Nat.zero_add]; exact cell (k * 3 + 1) _ (fnsCells_get p us h.len k 1 hk (by omega))
    · rw [Nat.zero_add]; exact cell (k * 3 + 2) _ (fnsCells_get p us h.len k 2 hk (by omega))
theorem below_grown {w w' : World} (hg : w.grownBy w' none) : Below w.heap.size w w' := ⟨hg.os, hg.tape, hg.output, hg.size, fun k hk => hg.block k hk (by simp)⟩
theorem own_shape {w : World} {base t size n : Nat} {v : Value} {xs : List Value} (h : w.ownsRow base t size v n xs) : ∃ ao cap, v = .slice ao n cap := by
  rcases h.2 with ⟨rfl, rfl⟩ | ⟨g, cap, cur, rfl, _⟩
  · exact ⟨none, 0, rfl⟩
  · exact ⟨_, cap, rfl⟩
end Go.Proofs.YtldbmdgpdolaaaaDoor
namespace Go.Proofs.YtldbmdgpdolaaaaDoor
open Go Go.RowKit

def inB (n low high : Int) : Bool := decide (low ≤ n ∧ n ≤ high)
def setsB (op : Int) : Bool := decide ((1 ≤ op ∧ op ≤ 13) ∨ op = 17 ∨ op = 18)
def readsAB (op : Int) : Bool := decide (op ≠ 1 ∧ op ≠ 15)
def readsBB (op : Int) : Bool := decide ((2 ≤ op ∧ op ≤ 12) ∨ op = 14 ∨ op = 17)
def regMayB (n : Int) (is : Bool) (regs : Int) : Bool := if is = true then inB n 0 (regs - 1) else (n == 0)
def refOk1 (x : Ins) (regs : Int) : Bool := regMayB x.dst (setsB x.op) regs && regMayB x.a (readsAB x.op) regs && regMayB x.b (readsBB x.op) regs
def refOk2 (x : Ins) (places funcs : Int) : Bool :=
  if x.op = 15 ∨ x.op = 16 then inB x.imm 0 (places - 1) else if x.op = 17 then inB x.imm 0 (funcs - 1) else if x.op = 1 then true else (x.imm == 0)
def refInstr (x : Ins) (regs places funcs : Int) : Int :=
  if inB x.op 1 19 = false then 3 else if refOk1 x regs = false then 2 else if refOk2 x places funcs = false then 2 else 0
end Go.Proofs.YtldbmdgpdolaaaaDoor
namespace Go.Proofs.YtldbmdgpdolaaaaDoor
open Go Go.RowKit

theorem wrap_bv (z : BitVec 64) : IntKind.i64.wrap (z.toNat : Int) = z.toInt := by
  have h := z.isLt
  have h' : z.toNat < 18446744073709551616 := h
  have e : (z.toNat : Int) % 2 ^ 64 = z.toNat := Int.emod_eq_of_lt (by omega) (by simp; omega)
  have w1 : IntKind.i64.wrap (z.toNat : Int) = if (true && decide ((z.toNat : Int) ≥ 2 ^ 63)) = true then (z.toNat : Int) - (2 ^ 64 : Int) else (z.toNat : Int) := by
    simp only [IntKind.wrap, IntKind.bits, IntKind.signed, e]
  rw [w1, BitVec.toInt_eq_toNat_cond]
  by_cases hs : 2 * z.toNat < 2 ^ 64
  · have h2 : ¬ ((z.toNat : Int) ≥ 2 ^ 63) := by simp at hs ⊢; omega
    rw [if_pos hs, if_neg (by simpa using h2)]
  · have h2 : (z.toNat : Int) ≥ 2 ^ 63 := by simp at hs ⊢; omega
    rw [if_neg hs, if_pos (by simpa using h2)]
    simp
theorem bits_or_bv (x y : BitVec 64) : bits .or .i64 x.toInt y.toInt = (x ||| y).toInt := by
  show IntKind.i64.wrap ((BitVec.ofInt 64 x.toInt ||| BitVec.ofInt 64 y.toInt).toNat : Int) = _
  rw [BitVec.ofInt_toInt, BitVec.ofInt_toInt, wrap_bv]
theorem bits_and_bv (x y : BitVec 64) : bits .and .i64 x.toInt y.toInt = (x &&& y).toInt := by
  show IntKind.i64.wrap ((BitVec.ofInt 64 x.toInt &&& BitVec.ofInt 64 y.toInt).toNat : Int) = _
  rw [BitVec.ofInt_toInt, BitVec.ofInt_toInt, wrap_bv]
theorem bits_andNot_bv (x y : BitVec 64) : bits .andNot .i64 x.toInt y.toInt = (x &&& ~~~y).toInt := by
  show IntKind.i64.wrap ((BitVec.ofInt 64 x.toInt &&& ~~~BitVec.ofInt 64 y.toInt).toNat : Int) = _
  rw [BitVec.ofInt_toInt, BitVec.ofInt_toInt, wrap_bv]
def bvn (n : Nat) : BitVec 64 := BitVec.ofNat 64 n
theorem bvn_toInt (n : Nat) (h : n < 65536) : (bvn n).toInt = (n : Int) := by
  have e : (bvn n).toNat = n := by simp [bvn]; omega
  rw [BitVec.toInt_eq_toNat_cond, e, if_pos (by omega)]
theorem bvn_or (m n : Nat) : bvn m ||| bvn n = bvn (m ||| n) := by simp [bvn, BitVec.ofNat_or]
theorem bvn_and (m n : Nat) : bvn m &&& bvn n = bvn (m &&& n) := by simp [bvn, BitVec.ofNat_and]
theorem or_lt (m n : Nat) (hm : m < 65536) (hn : n < 65536) : m ||| n < 65536 := Nat.or_lt_two_pow (n := 16) hm hn
theorem bits_or_nat (m n : Nat) (hm : m < 65536) (hn : n < 65536) : bits .or .i64 (m : Int) (n : Int) = ((m ||| n : Nat) : Int) := by
  rw [← bvn_toInt m hm, ← bvn_toInt n hn, bits_or_bv, bvn_or, bvn_toInt _ (or_lt m n hm hn)]
theorem and_lt (m n : Nat) (hm : m < 65536) : m &&& n < 65536 := Nat.lt_of_le_of_lt Nat.and_le_left hm
theorem bits_and_nat (m n : Nat) (hm : m < 65536) (hn : n < 65536) : bits .and .i64 (m : Int) (n : Int) = ((m &&& n : Nat) : Int) := by
  rw [← bvn_toInt m hm, ← bvn_toInt n hn, bits_and_bv, bvn_and, bvn_toInt _ (and_lt m n hm)]
theorem two_lt (a : Nat) (h : a < 12) : 2 ^ a < 65536 := Nat.lt_of_lt_of_le (Nat.pow_lt_pow_right (by decide) h) (by decide)
theorem wrap_small (n : Nat) (h : n < 65536) : IntKind.i64.wrap (n : Int) = n := by
  have := wrap_bv (bvn n)
  rw [bvn_toInt n h] at this
  have e : (bvn n).toNat = n := by simp [bvn]; omega
  rw [e] at this
  exact this
theorem wrap64_small (n : Int) (h0 : -9223372036854775808 ≤ n) (h1 : n < 9223372036854775808) : wrap64 n = n := by unfold wrap64; omega
theorem shl_one (a : Int) (_h0 : 0 ≤ a) (h1 : a < 12) : wrap64 (2 ^ a.toNat) = ((2 ^ a.toNat : Nat) : Int) := by
  have := two_lt a.toNat (by omega)
  have e : (2 : Int) ^ a.toNat = ((2 ^ a.toNat : Nat) : Int) := by simp
  rw [e]
  generalize 2 ^ a.toNat = m at this
  exact wrap64_small _ (by omega) (by omega)
end Go.Proofs.YtldbmdgpdolaaaaDoor
namespace Go.Proofs.YtldbmdgpdolaaaaDoor
open Go Go.RowKit

def CallOk (w : World) : Prop := ∀ i : Nat, i < 3 → w.cell? ⟨0, i, none⟩ = some (.int .i64 (([0, 2, 6] : List Int).getD i 0))
theorem CallOk.pos {w : World} (h : CallOk w) : 0 < w.heap.size := World.block_lt_of_cell? _ _ (h 0 (by omega))
theorem CallOk.below {w w' : World} (h : CallOk w) (hb : Below w.heap.size w w') : CallOk w' := fun i hi => (hb.cell (p := ⟨0, i, none⟩) h.pos).trans (h i hi)
def paramsAt (P : List Fn) (i : Int) : Int := (P.getD i.toNat ⟨0, 0, []⟩).params
def rdA (P : List Fn) (x : Ins) : Bool := if x.op = 17 then decide (1 ≤ paramsAt P x.imm) else readsAB x.op
def rdB (P : List Fn) (x : Ins) : Bool := if x.op = 17 then decide (2 ≤ paramsAt P x.imm) else readsBB x.op
def partsI (P : List Fn) (x : Ins) : Int := (if rdA P x = true then 2 else 0) + (if rdB P x = true then 4 else 0)
structure InsOk (P : List Fn) (x : Ins) : Prop where
  op1 : 1 ≤ x.op
  op2 : x.op ≤ 19
  dst0 : 0 ≤ x.dst
  dst1 : x.dst < 12
  a0 : 0 ≤ x.a
  a1 : x.a < 12
  b0 : 0 ≤ x.b
  b1 : x.b < 12
  call : x.op = 17 → 0 ≤ x.imm ∧ x.imm < P.length ∧ 0 ≤ paramsAt P x.imm ∧ paramsAt P x.imm ≤ 2
theorem ops19 {Q : Int → Prop} (h : ∀ k : Fin 20, 1 ≤ k.val → Q ((k.val : Nat) : Int)) (a : Int) (h0 : 1 ≤ a) (h1 : a ≤ 19) : Q a := by
  obtain ⟨k, rfl⟩ := Int.eq_ofNat_of_zero_le (show 0 ≤ a by omega)
  exact h ⟨k, by omega⟩ (by simp; omega)
theorem parts_has (op : Int) (h0 : 1 ≤ op) (h1 : op ≤ 19) (h : op ≠ 17) : bits .and .i64 (hasOf op) 6 = (if readsAB op = true then 2 else 0) + (if readsBB op = true then 4 else 0) :=
  ops19 (Q := fun op => op ≠ 17 → bits .and .i64 (hasOf op) 6 = (if readsAB op = true then 2 else 0) + (if readsBB op = true then 4 else 0)) (by decide) op h0 h1 h
theorem sets_has (op : Int) (h0 : 1 ≤ op) (h1 : op ≤ 19) : (bits .and .i64 (hasOf op) 1 == 0) = !(setsB op) :=
  ops19 (Q := fun op => (bits .and .i64 (hasOf op) 1 == 0) = !(setsB op)) (by decide) op h0 h1
set_option maxRecDepth 100000 in
set_option maxHeartbeats 1000000 in
theorem partsRead_any (P : List Fn) (v : Value) (x : Ins) (w : World) (ht : TabOk w) (hc : CallOk w) (hv : ProgVal w v P) (hx : InsOk P x) :
    Calls Tryd.prog 57 #[.agg #[v], x.val] w fun e w' => e = .returned (.int .i64 (partsI P x)) ∧ Below w.heap.size w w' := by
  obtain ⟨ao, b, off, n, cap, rfl, ⟨hlen, haddr, hat⟩, hcap, hmax⟩ := hv
  obtain ⟨op, dst, a, b', imm⟩ := x
  obtain ⟨o1, o2, _, _, _, _, _, _, hcall⟩ := hx
  dsimp only at o1 o2 hcall
  unfold Ins.val
  dsimp only
  by_cases h : op = 17
  · subst h
    obtain ⟨i0, i1, p0, p1⟩ := hcall rfl
    obtain ⟨k, rfl⟩ := Int.eq_ofNat_of_zero_le i0
    have hk : k < P.length := by omega
    obtain ⟨u, hu⟩ := hat k hk
    obtain rfl := haddr (by omega)
    have d0 := hu.params
    have hpa : paramsAt P (k : Int) = P[k].params := by simp [paramsAt, List.getD, hk]
    have hp : partsI P ⟨17, dst, a, b', k⟩ = (if 1 ≤ P[k].params then 2 else 0) + (if 2 ≤ P[k].params then 4 else 0) := by
      simp [partsI, rdA, rdB, hpa]
    rw [hpa] at p0 p1
    rw [hp]
    generalize P[k].params = pp at d0 p0 p1
    have hkn : (k : Int) < n := by omega
    have t0 := fun o1 => cell_alloc (cell_alloc d0 o1)
    clear hp hpa hat haddr hu hcall d0 i1 hlen
    have c0 := fun o1 => cell_alloc (cell_alloc (hc 0 (by omega)) o1)
    have c1 := fun o1 => cell_alloc (cell_alloc (hc 1 (by omega)) o1)
    have c2 := fun o1 => cell_alloc (cell_alloc (hc 2 (by omega)) o1)
    simp at c0 c1 c2
    clear hc ht
    rcases (show pp = 0 ∨ pp = 1 ∨ pp = 2 by omega) with rfl | rfl | rfl
    all_goals
      go_enter Tryd.func57, Tryd.ntmps57
      go_wp2
      go_ret
      exact ⟨rfl, ((Below.refl _ _).alloc (Nat.le_refl _) _).alloc (by simp) _⟩
  · have hp : partsI P ⟨op, dst, a, b', imm⟩ = bits .and .i64 (hasOf op) 6 := by rw [parts_has op o1 o2 h]; simp [partsI, rdA, rdB, h]
    have h' : (op == 17) = false := by simpa using h
    have hta : ∀ o o', TabOk ((w.alloc o).alloc o') := fun o o' => ht.below (((Below.refl _ _).alloc (Nat.le_refl _) _).alloc (by simp) _)
    rw [hp]
    clear hp h hcall hat haddr ht
    go_enter Tryd.func57, Tryd.ntmps57
    go_wp2_with (go_at_call 80; refine (has_any _ _ (hta _ _)).mono ?_; rintro e w' ⟨rfl, rfl⟩)
    go_ret
    exact ⟨rfl, ((Below.refl _ _).alloc (Nat.le_refl _) _).alloc (by simp) _⟩
def rdMask (P : List Fn) (x : Ins) : Nat := (if rdA P x = true then 2 ^ x.a.toNat else 0) ||| (if rdB P x = true then 2 ^ x.b.toNat else 0)
def setMask (x : Ins) : Nat := if setsB x.op = true then 2 ^ x.dst.toNat else 0
theorem setMask_lt {P : List Fn} {x : Ins} (hx : InsOk P x) : setMask x < 65536 := by
  unfold setMask
  have := two_lt x.dst.toNat (by have := hx.dst0; have := hx.dst1; omega)
  split <;> omega
theorem rdMask_lt {P : List Fn} {x : Ins} (hx : InsOk P x) : rdMask P x < 65536 := by
  unfold rdMask
  have h1 := two_lt x.a.toNat (by have := hx.a0; have := hx.a1; omega)
  have h2 := two_lt x.b.toNat (by have := hx.b0; have := hx.b1; omega)
  exact or_lt _ _ (by split <;> omega) (by split <;> omega)
set_option maxRecDepth 100000 in
theorem setBit_any (P : List Fn) (x : Ins) (w : World) (ht : TabOk w) (hx : InsOk P x) :
    Calls Tryd.prog 85 #[x.val] w fun e w' => e = .returned (.int .i64 (setMask x)) ∧ Below w.heap.size w w' := by
  obtain ⟨op, dst, a, b', imm⟩ := x
  obtain ⟨o1, o2, d0, d1, _, _, _, _, _⟩ := hx
  dsimp only at o1 o2 d0 d1
  unfold Ins.val
  dsimp only
  have hs := sets_has op o1 o2
  have hta : ∀ o, TabOk (w.alloc o) := fun o => ht.below ((Below.refl _ _).alloc (Nat.le_refl _) _)
  cases h : setsB op
  · have e : setMask ⟨op, dst, a, b', imm⟩ = 0 := by simp [setMask, h]
    rw [h] at hs
    rw [e]
    clear e h ht
    simp only [Bool.not_false] at hs
    go_enter Tryd.func85, Tryd.ntmps85
    go_wp2_with (go_at_call 80; refine (has_any _ _ (hta _)).mono ?_; rintro e w' ⟨rfl, rfl⟩)
    go_ret
    exact ⟨rfl, (Below.refl _ _).alloc (Nat.le_refl _) _⟩
  · have e : setMask ⟨op, dst, a, b', imm⟩ = 2 ^ dst.toNat := by simp [setMask, h]
    rw [h] at hs
    rw [e]
    clear e h ht
    simp only [Bool.not_true] at hs
    go_enter Tryd.func85, Tryd.ntmps85
    go_wp2_with (go_at_call 80; refine (has_any _ _ (hta _)).mono ?_; rintro e w' ⟨rfl, rfl⟩)
    go_ret
    exact ⟨ret_int (shl_one dst d0 d1), (Below.refl _ _).alloc (Nat.le_refl _) _⟩
theorem parts_lit (P : List Fn) (x : Ins) (p q : Bool) (hp : rdA P x = p) (hq : rdB P x = q) : partsI P x = (if p = true then 2 else 0) + (if q = true then 4 else 0) := by simp [partsI, hp, hq]
theorem mask_lit (P : List Fn) (x : Ins) (p q : Bool) (hp : rdA P x = p) (hq : rdB P x = q) : rdMask P x = (if p = true then 2 ^ x.a.toNat else 0) ||| (if q = true then 2 ^ x.b.toNat else 0) := by simp [rdMask, hp, hq]
set_option maxRecDepth 100000 in
set_option maxHeartbeats 1000000 in
theorem readBits_any (P : List Fn) (v : Value) (x : Ins) (w : World) (ht : TabOk w) (hc : CallOk w) (hv : ProgVal w v P) (hx : InsOk P x) :
    Calls Tryd.prog 36 #[.agg #[v], x.val] w fun e w' => e = .returned (.int .i64 (rdMask P x)) ∧ Below w.heap.size w w' := by
  have hbx : ∀ o o', Below w.heap.size w ((w.alloc o).alloc o') := fun o o' => ((Below.refl _ _).alloc (Nat.le_refl _) _).alloc (by simp) _
  have hP := fun o o' => partsRead_any P v x ((w.alloc o).alloc o') (ht.below (hbx o o')) (hc.below (hbx o o')) (hv.keeps (keeps_below (hbx o o'))) hx
  have e1 : (bits BinOp.and IntKind.i64 0 2 != 0) = false := by decide
  have e2 : (bits BinOp.and IntKind.i64 2 2 != 0) = true := by decide
  have e3 : (bits BinOp.and IntKind.i64 4 2 != 0) = false := by decide
  have e4 : (bits BinOp.and IntKind.i64 6 2 != 0) = true := by decide
  have f1 : (bits BinOp.and IntKind.i64 0 4 != 0) = false := by decide
  have f2 : (bits BinOp.and IntKind.i64 2 4 != 0) = false := by decide
  have f3 : (bits BinOp.and IntKind.i64 4 4 != 0) = true := by decide
  have f4 : (bits BinOp.and IntKind.i64 6 4 != 0) = true := by decide
  obtain ⟨ao, b, off, n, cap, rfl, _⟩ := hv
  have a0 := hx.a0
  have a1 := hx.a1
  have b0 := hx.b0
  have b1 := hx.b1
  have z1 := shl_one x.a a0 a1
  have z2 := shl_one x.b b0 b1
  have l1 := two_lt x.a.toNat (by omega)
  have l2 := two_lt x.b.toNat (by omega)
  have HA : Hid (bits .or .i64 0 (wrap64 (2 ^ x.a.toNat)) = ((2 ^ x.a.toNat : Nat) : Int)) := by
    show _ = _
    rw [z1]; exact (bits_or_nat 0 _ (by decide) l1).trans (by simp)
  have HB : Hid (bits .or .i64 0 (wrap64 (2 ^ x.b.toNat)) = ((2 ^ x.b.toNat : Nat) : Int)) := by
    show _ = _
    rw [z2]; exact (bits_or_nat 0 _ (by decide) l2).trans (by simp)
  have HC : Hid (bits .or .i64 (bits .or .i64 0 (wrap64 (2 ^ x.a.toNat))) (wrap64 (2 ^ x.b.toNat)) = ((2 ^ x.a.toNat ||| 2 ^ x.b.toNat : Nat) : Int)) := by
    show _ = _
    rw [HA.out, z2]; exact bits_or_nat _ _ l1 l2
  clear z1 z2 l1 l2 ht hc hbx
  cases hp : rdA P x <;> cases hq : rdB P x
  all_goals
    have hm := mask_lit P x _ _ hp hq
    have hz := parts_lit P x _ _ hp hq
    rw [hm]
    simp only [hz] at hP
    clear hm hz hp hq hx
    obtain ⟨op, dst, a, b', imm⟩ := x
    unfold Ins.val at hP ⊢
    dsimp only at a0 a1 b0 b1 HA HB HC hP ⊢
    go_enter Tryd.func36, Tryd.ntmps36
    go_wp2_with (go_at_call 57; refine (hP _ _).mono ?_; rintro e w1 ⟨rfl, hb1⟩; have k0 := keeps_below hb1 ⟨w.heap.size + 1, 2, none⟩ (.int .i64 a) (by simp); have k1 := keeps_below hb1 ⟨w.heap.size + 1, 3, none⟩ (.int .i64 b') (by simp))
    go_ret
    refine ⟨ret_int ?_, (((Below.refl _ _).alloc (Nat.le_refl _) _).alloc (by simp) _).trans (hb1.mono (by simp; omega))⟩
    first | exact HC.out | exact HB.out.trans (by simp) | exact HA.out.trans (by simp) | rfl
end Go.Proofs.YtldbmdgpdolaaaaDoor
namespace Go.Proofs.YtldbmdgpdolaaaaDoor
open Go Go.RowKit

theorem news_list (w : World) (cs : List Value) (t g : Nat) (hg : g = w.heap.size) : ∀ (j : Nat) (u : Value), cs[j]? = some u → (w.alloc (.cells cs.toArray t)).cell? ((⟨g, 0, none⟩ : Addr).add j) = some u := by
  subst hg
  intro j u hu
  have e : (⟨w.heap.size, 0, none⟩ : Addr).add j = ⟨w.heap.size, j, none⟩ := by unfold Addr.add; split <;> simp_all
  rw [e, cell_of_row (w.alloc (.cells cs.toArray t)) w.heap.size j cs.toArray t (0, 0) (heap_alloc_new w _)]
  simpa using hu
theorem grown_base {w w' : World} {base t size n : Nat} {v : Value} {xs : List Value} (h : w.ownsRow base t size v n xs) (hB : base ≤ w.heap.size) (hg : w.grownBy w' v.ownBlock) : Below base w w' :=
  (Below.refl _ _).grown hg hB (fun k hk => (h.lt k hk).1)
end Go.Proofs.YtldbmdgpdolaaaaDoor
namespace Go.Proofs.YtldbmdgpdolaaaaDoor
open Go Go.RowKit

def codeFunc (f : Fn) (funcs : Int) : Int :=
  if f.regs < 1 then 2 else if 12 < f.regs then 2
  else if f.params < 0 then 2 else if 2 < f.params then 2 else if f.regs < f.params then 2
  else if f.code.length < 1 then 1 else if 40 < f.code.length then 1
  else firstErr (fun x => codeInstr x f.regs f.code.length funcs) f.code
set_option maxRecDepth 100000 in
set_option maxHeartbeats 2000000 in
theorem checkFunc_any (f : Fn) (v : Value) (funcs : Int) (w : World) (ht : TabOk w) (hv : CodeVal w v f.code) :
    Calls Tryd.prog 34 #[.agg #[.int .i64 f.params, .int .i64 f.regs, v], .int .i64 funcs] w fun e w' => e = .returned (.int .i64 (codeFunc f funcs)) ∧ Below w.heap.size w w' := by
  obtain ⟨params, regs, xs⟩ := f
  obtain ⟨ao, b, off, n, cap, rfl, hc, hcap, hmax⟩ := hv
  obtain ⟨hlen, haddr, hat⟩ := hc
  dsimp only at hlen haddr hat
  have HL : Hid (xs.length = n) := hlen
  unfold codeFunc
  dsimp only
  rw [hlen]
  clear hlen
  by_cases h1 : regs < 1
  · rw [if_pos h1]
    go_enter Tryd.func34, Tryd.ntmps34
    go_wp2
    go_ret
    exact ⟨rfl, (Below.refl _ _).alloc (Nat.le_refl _) _⟩
  rw [if_neg h1]
  by_cases h2 : 12 < regs
  · rw [if_pos h2]
    go_enter Tryd.func34, Tryd.ntmps34
    go_wp2
    go_ret
    exact ⟨rfl, (Below.refl _ _).alloc (Nat.le_refl _) _⟩
  rw [if_neg h2]
  by_cases h3 : params < 0
  · rw [if_pos h3]
    go_enter Tryd.func34, Tryd.ntmps34
    go_wp2
    go_ret
    exact ⟨rfl, (Below.refl _ _).alloc (Nat.le_refl _) _⟩
  rw [if_neg h3]
  by_cases h4 : 2 < params
  · rw [if_pos h4]
    go_enter Tryd.func34, Tryd.ntmps34
    go_wp2
    go_ret
    exact ⟨rfl, (Below.refl _ _).alloc (Nat.le_refl _) _⟩
  rw [if_neg h4]
  by_cases h5 : regs < params
  · rw [if_pos h5]
    go_enter Tryd.func34, Tryd.ntmps34
    go_wp2
    go_ret
    exact ⟨rfl, (Below.refl _ _).alloc (Nat.le_refl _) _⟩
  rw [if_neg h5]
  by_cases h6 : n < 1
  · rw [if_pos h6]
    go_enter Tryd.func34, Tryd.ntmps34
    go_wp2
    go_ret
    exact ⟨rfl, (Below.refl _ _).alloc (Nat.le_refl _) _⟩
  rw [if_neg h6]
  by_cases h7 : 40 < n
  · rw [if_pos h7]
    go_enter Tryd.func34, Tryd.ntmps34
    go_wp2
    go_ret
    exact ⟨rfl, (Below.refl _ _).alloc (Nat.le_refl _) _⟩
  rw [if_neg h7]
  obtain rfl := haddr (by omega)
  clear haddr
  go_enter Tryd.func34, Tryd.ntmps34
  go_wp2
  go_loopw [44] (fun i wr => ∃ k : Nat, k ≤ n ∧ i = .int .i64 k ∧ Below (w.heap.size + 1) (w.alloc (.cells #[.int .i64 params, .int .i64 regs, .slice (some ⟨b, off, none⟩) n cap] 44)) wr ∧
      firstErr (fun x => codeInstr x regs n funcs) xs = firstErr (fun x => codeInstr x regs n funcs) (xs.drop k)) (fun i _ => n - (intOf i).toNat)
  case atStart => exact ⟨0, Nat.zero_le _, rfl, Below.refl _ _, rfl⟩
  case round =>
    obtain ⟨k, hk, rfl, hb, hf⟩ := hrel
    have hbw : Below w.heap.size w wr := ((Below.refl _ _).alloc (Nat.le_refl _) _).trans (hb.mono (by omega))
    by_cases hlt : k < n
    · have hkx : k < xs.length := by rw [HL.out]; exact hlt
      have c0 : wr.cell? ⟨w.heap.size, 1, none⟩ = some (.int .i64 regs) := (hb.cell (p := ⟨w.heap.size, 1, none⟩) (by simp)).trans (by simp)
      have c1 : wr.cell? ⟨w.heap.size, 2, none⟩ = some (.slice (some ⟨b, off, none⟩) n cap) := (hb.cell (p := ⟨w.heap.size, 2, none⟩) (by simp)).trans (by simp)
      obtain ⟨d0, d1, d2, d3, d4⟩ := (hat k hkx).keeps (keeps_below hbw)
      have hz : w.heap.size < wr.heap.size := by have := hb.size; simp at this; omega
      have hta : ∀ o, TabOk (wr.alloc o) := fun o => (ht.below hbw).below ((Below.refl _ _).alloc (Nat.le_refl _) _)
      have HF : Hid (firstErr (fun x => codeInstr x regs n funcs) xs = if codeInstr xs[k] regs n funcs = 0 then firstErr (fun x => codeInstr x regs n funcs) (xs.drop (k + 1)) else codeInstr xs[k] regs n funcs) :=
        hf.trans (firstErr_drop _ xs k hkx)
      generalize hx : xs[k] = x at d0 d1 d2 d3 d4 HF
      have HB : Hid (Below (w.heap.size + 1) (w.alloc (.cells #[.int .i64 params, .int .i64 regs, .slice (some ⟨b, off, none⟩) n cap] 44)) wr) := hb
      clear hf hat hx hb hbw
      go_wp2_with (go_at_call 54; refine (instr_any x regs n funcs _ (hta _)).mono ?_; rintro e w1 ⟨rfl, hb1⟩)
      · have hne : (codeInstr x regs n funcs != 0) = true := by assumption
        go_ret
        exact ⟨ret_int (by rw [HF.out, if_neg (by simpa using hne)]), below_step (((Below.refl _ _).alloc (Nat.le_refl _) _).trans (HB.out.mono (by omega))) (by omega) hb1⟩
      · have hne : (codeInstr x regs n funcs != 0) = false := by assumption
        go_roundw
        case rel => exact ⟨k + 1, by omega, by go_num, below_step HB.out (by omega) hb1, by rw [HF.out, if_pos (by simpa using hne)]⟩
        case measure => simp [intOf]; omega
    · have HE := (firstErr_end (fun x => codeInstr x regs n funcs) xs k (by rw [HL.out]; omega))
      have HF : Hid (firstErr (fun x => codeInstr x regs n funcs) xs = 0) := hf.trans HE
      clear hf HE hat
      go_wp2
      go_ret
      exact ⟨ret_int HF.out.symm, hbw⟩
def codeProg (p : List Fn) : Int :=
  if p.length < 1 then 1 else if 4 < p.length then 1 else firstErr (fun f => codeFunc f p.length) p
set_option maxRecDepth 100000 in
set_option maxHeartbeats 2000000 in
theorem check_any (p : List Fn) (v : Value) (w : World) (ht : TabOk w) (hv : ProgVal w v p) :
    Calls Tryd.prog 20 #[.agg #[v]] w fun e w' => e = .returned (.int .i64 (codeProg p)) ∧ Below w.heap.size w w' := by
  obtain ⟨ao, b, off, n, cap, rfl, hc, hcap, hmax⟩ := hv
  obtain ⟨hlen, haddr, hat⟩ := hc
  have HL : Hid (p.length = n) := hlen
  unfold codeProg
  rw [hlen]
  clear hlen
  by_cases h6 : n < 1
  · rw [if_pos h6]
    go_enter Tryd.func20, Tryd.ntmps20
    go_wp2
    go_ret
    exact ⟨rfl, (Below.refl _ _).alloc (Nat.le_refl _) _⟩
  rw [if_neg h6]
  by_cases h7 : 4 < n
  · rw [if_pos h7]
    go_enter Tryd.func20, Tryd.ntmps20
    go_wp2
    go_ret
    exact ⟨rfl, (Below.refl _ _).alloc (Nat.le_refl _) _⟩
  rw [if_neg h7]
  obtain rfl := haddr (by omega)
  clear haddr
  go_enter Tryd.func20, Tryd.ntmps20
  go_wp2
  go_loopw [19] (fun i wr => ∃ k : Nat, k ≤ n ∧ i = .int .i64 k ∧ Below (w.heap.size + 1) (w.alloc (.cells #[.slice (some ⟨b, off, none⟩) n cap] 25)) wr ∧
      firstErr (fun f => codeFunc f n) p = firstErr (fun f => codeFunc f n) (p.drop k)) (fun i _ => n - (intOf i).toNat)
  case atStart => exact ⟨0, Nat.zero_le _, rfl, Below.refl _ _, rfl⟩
  case round =>
    obtain ⟨k, hk, rfl, hb, hf⟩ := hrel
    have hbw : Below w.heap.size w wr := ((Below.refl _ _).alloc (Nat.le_refl _) _).trans (hb.mono (by omega))
    by_cases hlt : k < n
    · have hkx : k < p.length := by rw [HL.out]; exact hlt
      have c0 : wr.cell? ⟨w.heap.size, 0, none⟩ = some (.slice (some ⟨b, off, none⟩) n cap) := (hb.cell (p := ⟨w.heap.size, 0, none⟩) (by simp)).trans (by simp)
      obtain ⟨u, hfn⟩ := hat k hkx
      obtain ⟨d0, d1, d2, hu⟩ := hfn.keeps (keeps_below hbw)
      have hz : w.heap.size < wr.heap.size := by have := hb.size; simp at this; omega
      have hta : ∀ o, TabOk (wr.alloc o) := fun o => (ht.below hbw).below ((Below.refl _ _).alloc (Nat.le_refl _) _)
      have hua : ∀ o, CodeVal (wr.alloc o) u p[k].code := fun o => hu.keeps (keeps_below ((Below.refl _ _).alloc (Nat.le_refl _) _))
      have HF : Hid (firstErr (fun f => codeFunc f n) p = if codeFunc p[k] n = 0 then firstErr (fun f => codeFunc f n) (p.drop (k + 1)) else codeFunc p[k] n) :=
        hf.trans (firstErr_drop _ p k hkx)
      generalize hx : p[k] = x at d0 d1 d2 hu hua HF
      obtain ⟨ao1, b1, off1, n1, cap1, rfl, _⟩ := hu
      have HB : Hid (Below (w.heap.size + 1) (w.alloc (.cells #[.slice (some ⟨b, off, none⟩) n cap] 25)) wr) := hb
      clear hf hat hx hb hbw hfn
      go_wp2_with (go_at_call 34; refine (checkFunc_any x _ n _ (hta _) (hua _)).mono ?_; rintro e w1 ⟨rfl, hb1⟩)
      · have hne : (codeFunc x n != 0) = true := by assumption
        go_ret
        exact ⟨ret_int (by rw [HF.out, if_neg (by simpa using hne)]), below_step (((Below.refl _ _).alloc (Nat.le_refl _) _).trans (HB.out.mono (by omega))) (by omega) hb1⟩
      · have hne : (codeFunc x n != 0) = false := by assumption
        go_roundw
        case rel => exact ⟨k + 1, by omega, by go_num, below_step HB.out (by omega) hb1, by rw [HF.out, if_pos (by simpa using hne)]⟩
        case measure => simp [intOf]; omega
    · have HE := (firstErr_end (fun f => codeFunc f n) p k (by rw [HL.out]; omega))
      have HF : Hid (firstErr (fun f => codeFunc f n) p = 0) := hf.trans HE
      clear hf HE hat
      go_wp2
      go_ret
      exact ⟨ret_int HF.out.symm, hbw⟩
end Go.Proofs.YtldbmdgpdolaaaaDoor
namespace Go.Proofs.YtldbmdgpdolaaaaDoor
open Go Go.RowKit

theorem firstErr_zero {α : Type} {g : α → Int} {l : List α} (h : firstErr g l = 0) : ∀ x ∈ l, g x = 0 := by
  induction l with
  | nil => simp
  | cons y r ih =>
    unfold firstErr at h
    by_cases hy : g y = 0
    · rw [if_pos hy] at h
      intro x hx
      rcases List.mem_cons.1 hx with rfl | hx
      · exact hy
      · exact ih h x hx
    · rw [if_neg hy] at h
      exact absurd h hy
theorem codeProg_zero {p : List Fn} (h : codeProg p = 0) : 1 ≤ p.length ∧ p.length ≤ 4 ∧ ∀ f ∈ p, codeFunc f p.length = 0 := by
  unfold codeProg at h
  by_cases h1 : p.length < 1
  · rw [if_pos h1] at h; cases h
  rw [if_neg h1] at h
  by_cases h2 : 4 < p.length
  · rw [if_pos h2] at h; cases h
  rw [if_neg h2] at h
  exact ⟨by omega, by omega, firstErr_zero h⟩
theorem codeFunc_zero {f : Fn} {funcs : Int} (h : codeFunc f funcs = 0) : 1 ≤ f.regs ∧ f.regs ≤ 12 ∧ 0 ≤ f.params ∧ f.params ≤ 2 ∧ f.params ≤ f.regs ∧ 1 ≤ f.code.length ∧ f.code.length ≤ 40 ∧ ∀ x ∈ f.code, codeInstr x f.regs f.code.length funcs = 0 := by
  unfold codeFunc at h
  by_cases h1 : f.regs < 1
  · rw [if_pos h1] at h; cases h
  rw [if_neg h1] at h
  by_cases h2 : 12 < f.regs
  · rw [if_pos h2] at h; cases h
  rw [if_neg h2] at h
  by_cases h3 : f.params < 0
  · rw [if_pos h3] at h; cases h
  rw [if_neg h3] at h
  by_cases h4 : 2 < f.params
  · rw [if_pos h4] at h; cases h
  rw [if_neg h4] at h
  by_cases h5 : f.regs < f.params
  · rw [if_pos h5] at h; cases h
  rw [if_neg h5] at h
  by_cases h6 : f.code.length < 1
  · rw [if_pos h6] at h; cases h
  rw [if_neg h6] at h
  by_cases h7 : 40 < f.code.length
  · rw [if_pos h7] at h; cases h
  rw [if_neg h7] at h
  exact ⟨by omega, by omega, by omega, by omega, by omega, by omega, by omega, firstErr_zero h⟩
end Go.Proofs.YtldbmdgpdolaaaaDoor
namespace Go.Proofs.YtldbmdgpdolaaaaDoor
open Go Go.RowKit

theorem info64 : (Tryd.prog.info? 3).map (fun i => (i.zero, i.size, i.bytes)) = some (some (.int .i64 0), 1, 8) := by kernel_rfl
def i64s (l : List Int) : List Value := l.map (Value.int .i64)
theorem i64s_append (l m : List Int) : i64s (l ++ m) = i64s l ++ i64s m := by simp [i64s]
theorem i64s_one (l : List Int) : ∀ u ∈ i64s l, u.oneCell' = true := by
  intro u hu
  obtain ⟨x, _, rfl⟩ := List.mem_map.1 hu
  rfl
def IntsVal (w : World) (v : Value) (l : List Int) : Prop :=
  ∃ ao b off n cap, v = .slice ao n cap ∧ l.length = n ∧ (0 < n → ao = some ⟨b, off, none⟩) ∧ (∀ k (h : k < l.length), w.cell? ⟨b, off + k, none⟩ = some (.int .i64 l[k])) ∧ (n ≤ cap ∧ (ao = none → cap = 0)) ∧ cap ≤ maxLen
theorem IntsVal.keeps {w w' : World} {v : Value} {l : List Int} (h : IntsVal w v l) (k : Keeps w w') : IntsVal w' v l := by
  obtain ⟨ao, b, off, n, cap, rfl, h1, h2, h3, h4⟩ := h
  exact ⟨ao, b, off, n, cap, rfl, h1, h2, fun i hi => k _ _ (h3 i hi), h4⟩
theorem IntsVal.shape {w : World} {v : Value} {l : List Int} (h : IntsVal w v l) : ∃ ao cap, v = .slice ao l.length cap := by
  obtain ⟨ao, b, off, n, cap, rfl, rfl, _⟩ := h
  exact ⟨ao, cap, rfl⟩
theorem ints_nil (w : World) : IntsVal w (.slice none 0 0) [] := ⟨none, 0, 0, 0, 0, rfl, rfl, fun h => by omega, fun k h => by simp at h, ⟨Nat.le_refl _, fun _ => rfl⟩, by simp [maxLen]⟩
theorem ints_of_own {w : World} {base t : Nat} {v : Value} {l : List Int} (h : w.ownsRow base t 1 v l.length (i64s l)) : IntsVal w v l := by
  have hc := @World.ownsRow.cells _ _ _ _ _ _ _ h
  rcases h.2 with ⟨rfl, h0⟩ | ⟨g, cap, cur, rfl, _, hg, hn, hm, _, _⟩
  · obtain rfl : l = [] := List.length_eq_zero_iff.1 h0
    exact ints_nil w
  · refine ⟨_, g, 0, _, cap, rfl, rfl, fun _ => rfl, fun i hi => ?_, ⟨hn, fun e => by cases e⟩, hm⟩
    have := hc (g := g) rfl i (.int .i64 l[i]) (by simp [i64s, hi])
    have hadd : (⟨g, 0, none⟩ : Addr).add i = ⟨g, 0 + i, none⟩ := by unfold Addr.add; split <;> simp_all
    rwa [hadd] at this
end Go.Proofs.YtldbmdgpdolaaaaDoor
namespace Go.Proofs.YtldbmdgpdolaaaaDoor
open Go Go.RowKit

structure Fr where
  fn : Int
  pc : Int
  regs : List Int
def frCells (f : Fr) : List Value := .int .i64 f.fn :: .int .i64 f.pc :: i64s f.regs
end Go.Proofs.YtldbmdgpdolaaaaDoor
namespace Go.Proofs.YtldbmdgpdolaaaaDoor
open Go Go.RowKit

def FrsWf (fs : List Fr) : Prop := ∀ f ∈ fs, f.regs.length = 12
def FramesVal (w : World) (v : Value) (fs : List Fr) : Prop :=
  FrsWf fs ∧ ∃ ao b off n cap, v = .slice ao n cap ∧ fs.length = n ∧ (0 < n → ao = some ⟨b, off, none⟩) ∧ (∀ k (h : k < fs.length), w.rangeAt b (off + k * 14) (frCells fs[k])) ∧ (n ≤ cap ∧ (ao = none → cap = 0)) ∧ cap ≤ maxLen
theorem FramesVal.keeps {w w' : World} {v : Value} {fs : List Fr} (h : FramesVal w v fs) (k : Keeps w w') : FramesVal w' v fs := by
  obtain ⟨hw, ao, b, off, n, cap, rfl, h1, h2, h3, h4⟩ := h
  exact ⟨hw, ao, b, off, n, cap, rfl, h1, h2, fun i hi j u hu => k _ _ (h3 i hi j u hu), h4⟩
theorem FramesVal.shape {w : World} {v : Value} {fs : List Fr} (h : FramesVal w v fs) : ∃ ao cap, v = .slice ao fs.length cap := by
  obtain ⟨_, ao, b, off, n, cap, rfl, rfl, _⟩ := h
  exact ⟨ao, cap, rfl⟩
end Go.Proofs.YtldbmdgpdolaaaaDoor
namespace Go.Proofs.YtldbmdgpdolaaaaDoor
open Go Go.RowKit

theorem testBit_div (n i : Nat) : n.testBit i = decide (n / 2 ^ i % 2 = 1) := Nat.testBit_eq_decide_div_mod_eq
theorem or_pow (m r : Nat) (hm : m < 65536) (hr : r < 12) (h : m.testBit r = false) : m ||| 2 ^ r = m + 2 ^ r := by
  have hp := two_lt r hr
  have hz : bvn m &&& bvn (2 ^ r) = 0#64 := by
    rw [bvn_and]
    have : m &&& 2 ^ r = 0 := by
      apply Nat.eq_of_testBit_eq
      intro i
      rw [Nat.testBit_and, Nat.testBit_two_pow, Nat.zero_testBit]
      by_cases e : r = i
      · subst e; simp [h]
      · simp [e]
    rw [this]; rfl
  have e := BitVec.add_eq_or_of_and_eq_zero (bvn m) (bvn (2 ^ r)) hz
  have e2 : (bvn m + bvn (2 ^ r)).toNat = (bvn m ||| bvn (2 ^ r)).toNat := by rw [e]
  rw [bvn_or] at e2
  have l := or_lt m (2 ^ r) hm hp
  generalize 2 ^ r = q at hp l e2 ⊢
  generalize m ||| q = s at l e2 ⊢
  simp [bvn, BitVec.toNat_add] at e2
  omega
end Go.Proofs.YtldbmdgpdolaaaaDoor
namespace Go.Proofs.YtldbmdgpdolaaaaDoor
open Go Go.RowKit

def behind (x : Ins) (pc : Nat) : List Nat := if x.op = 15 then [x.imm.toNat] else if x.op = 16 then [pc + 1, x.imm.toNat] else if x.op = 19 then [] else [pc + 1]
def insD (f : Fn) (pc : Nat) : Ins := f.code.getD pc ⟨0, 0, 0, 0, 0⟩
theorem insD_eq {f : Fn} {pc : Nat} (h : pc < f.code.length) : insD f pc = f.code[pc] := by simp [insD, List.getD, h]
inductive Way (f : Fn) (r : Nat) : Nat → Prop
  | start (h : f.params ≤ (r : Int)) : Way f r 0
  | step {pc to : Nat} (h : pc < f.code.length) (hw : Way f r pc) (hs : (setMask (insD f pc)).testBit r = false) (ht : to ∈ behind (insD f pc) pc) : Way f r to
def bitOf (l : List (BitVec 64)) (q r : Nat) : Bool := (l.getD q 0#64).getLsbD r
def Sound (f : Fn) (l : List (BitVec 64)) : Prop := ∀ q r, q < l.length → r < 64 → bitOf l q r = false → Way f r q
def total (l : List (BitVec 64)) : Nat := (l.map BitVec.toNat).sum
def cutV (l : List (BitVec 64)) (k : Nat) (x : Ins) (to : Nat) : BitVec 64 := l.getD to 0#64 &&& (l.getD k 0#64 ||| bvn (setMask x))
def EdgeOk (l : List (BitVec 64)) (k : Nat) (x : Ins) (to : Nat) : Prop := cutV l k x to = l.getD to 0#64
theorem bvn_bit (m r : Nat) (hr : r < 64) : (bvn m).getLsbD r = m.testBit r := by rw [bvn, BitVec.getLsbD_ofNat]; simp [hr]
theorem getD_set (l : List (BitVec 64)) (i q : Nat) (v : BitVec 64) (hi : i < l.length) : (l.set i v).getD q 0#64 = if q = i then v else l.getD q 0#64 := by
  rw [List.getD_eq_getElem?_getD, List.getElem?_set, List.getD_eq_getElem?_getD]
  by_cases h : i = q
  · subst h; simp [hi]
  · simp [h, Ne.symm h]
theorem total_set (l : List (BitVec 64)) (i : Nat) (v : BitVec 64) (hi : i < l.length) : total (l.set i v) + (l.getD i 0#64).toNat = total l + v.toNat := by
  induction l generalizing i with
  | nil => simp at hi
  | cons a l ih =>
    cases i with
    | zero => simp [total]; omega
    | succ i =>
      have := ih i (by simpa using hi)
      simp [total] at this ⊢
      omega
theorem and_le (a b : BitVec 64) : (a &&& b).toNat ≤ a.toNat := by rw [BitVec.toNat_and]; exact Nat.and_le_left
theorem and_lt_of_ne (a b : BitVec 64) (h : a &&& b ≠ a) : (a &&& b).toNat < a.toNat := by
  have h1 := and_le a b
  rcases Nat.lt_or_eq_of_le h1 with h2 | h2
  · exact h2
  · exact absurd (BitVec.eq_of_toNat_eq h2) h
structure Mid (f : Fn) (l0 : List (BitVec 64)) (k e : Nat) (again : Bool) (l : List (BitVec 64)) : Prop where
  len : l.length = l0.length
  sound : Sound f l0 → Sound f l
  zeros : ∀ q r, bitOf l0 q r = false → bitOf l q r = false
  less : again = true → total l < total l0
  same : again = false → l = l0 ∧ (∀ pc, pc < k → ∀ to ∈ behind (insD f pc) pc, EdgeOk l0 pc (insD f pc) to) ∧ ∀ to ∈ (behind (insD f k) k).take e, EdgeOk l0 k (insD f k) to
theorem Mid.start (f : Fn) (l0 : List (BitVec 64)) : Mid f l0 0 0 false l0 :=
  ⟨rfl, id, fun _ _ h => h, fun h => (by cases h), fun _ => ⟨rfl, fun pc h => (by omega), fun to h => (by simp at h)⟩⟩
theorem Mid.next {f : Fn} {l0 l : List (BitVec 64)} {k e : Nat} {again : Bool} (h : Mid f l0 k e again l) (he : (behind (insD f k) k).length ≤ e) : Mid f l0 (k + 1) 0 again l :=
  ⟨h.len, h.sound, h.zeros, h.less, fun ha => by
    obtain ⟨h1, h2, h3⟩ := h.same ha
    refine ⟨h1, fun pc hpc to hto => ?_, fun to hto => by simp at hto⟩
    rcases Nat.lt_or_ge pc k with hlt | hge
    · exact h2 pc hlt to hto
    · obtain rfl : pc = k := by omega
      exact h3 to (by rw [List.take_of_length_le he]; exact hto)⟩
theorem Mid.step {f : Fn} {l0 l : List (BitVec 64)} {k e to : Nat} {again : Bool} (h : Mid f l0 k e again l) (hk : k < f.code.length) (hkl : k < l0.length) (he : (behind (insD f k) k)[e]? = some to) (hto : to < l0.length) :
    Mid f l0 k (e + 1) (again || (cutV l k (insD f k) to != l.getD to 0#64)) (l.set to (cutV l k (insD f k) to)) := by
  have htl : to < l.length := by rw [h.len]; exact hto
  have hmem : to ∈ behind (insD f k) k := List.mem_of_getElem? he
  have hbit : ∀ q r, bitOf (l.set to (cutV l k (insD f k) to)) q r = if q = to then (bitOf l to r && (bitOf l k r || (bvn (setMask (insD f k))).getLsbD r)) else bitOf l q r := by
    intro q r
    unfold bitOf
    rw [getD_set l to q _ htl]
    split
    · simp [cutV]
    · rfl
  have hle : total (l.set to (cutV l k (insD f k) to)) ≤ total l := by
    have h1 := total_set l to (cutV l k (insD f k) to) htl
    have h2 : (cutV l k (insD f k) to).toNat ≤ (l.getD to 0#64).toNat := and_le _ _
    omega
  refine ⟨by simp [h.len], fun hs => ?_, fun q r hq => ?_, fun ha => ?_, fun ha => ?_⟩
  · intro q r hq hr hb
    rw [hbit] at hb
    by_cases hqt : q = to
    · subst hqt
      rw [if_pos rfl] at hb
      cases h1 : bitOf l q r
      · exact h.sound hs q r htl hr h1
      · rw [h1, Bool.true_and] at hb
        have h2 : bitOf l k r = false := by cases h2 : bitOf l k r <;> simp_all
        have h3 : (bvn (setMask (insD f k))).getLsbD r = false := by cases h3 : (bvn (setMask (insD f k))).getLsbD r <;> simp_all
        rw [bvn_bit _ _ hr] at h3
        exact Way.step hk (h.sound hs k r (by rw [h.len]; exact hkl) hr h2) h3 hmem
    · rw [if_neg hqt] at hb
      exact h.sound hs q r (by simpa using hq) hr hb
  · rw [hbit]
    split
    · rename_i e; subst e; rw [h.zeros q r hq]; rfl
    · exact h.zeros q r hq
  · cases hag : again
    · rw [hag, Bool.false_or] at ha
      have hne : cutV l k (insD f k) to ≠ l.getD to 0#64 := by simpa using ha
      have h1 := total_set l to (cutV l k (insD f k) to) htl
      have h2 : (cutV l k (insD f k) to).toNat < (l.getD to 0#64).toNat := and_lt_of_ne _ _ hne
      obtain ⟨rfl, _⟩ := h.same hag
      omega
    · have := h.less hag
      omega
  · simp only [Bool.or_eq_false_iff] at ha
    obtain ⟨h1, h2, h3⟩ := h.same ha.1
    subst h1
    have hee : EdgeOk l k (insD f k) to := by simpa [EdgeOk] using ha.2
    have hl : l.set to (cutV l k (insD f k) to) = l := by
      rw [show cutV l k (insD f k) to = l[to] from by rw [show cutV l k (insD f k) to = l.getD to 0#64 from hee]; simp [List.getD, htl]]
      exact List.set_getElem_self htl
    refine ⟨hl, h2, fun t ht => ?_⟩
    rw [List.take_add_one, he] at ht
    rcases List.mem_append.1 ht with h4 | h4
    · exact h3 t h4
    · simp at h4; subst h4; exact hee
theorem way_iff {f : Fn} {l : List (BitVec 64)} (hl : l.length = f.code.length + 1) (hs : Sound f l) (h0 : ∀ r : Nat, r < 64 → f.params ≤ (r : Int) → bitOf l 0 r = false)
    (hc : ∀ pc, pc < f.code.length → ∀ to ∈ behind (insD f pc) pc, EdgeOk l pc (insD f pc) to) (q r : Nat) (hq : q < f.code.length + 1) (hr : r < 64) : bitOf l q r = false ↔ Way f r q := by
  refine ⟨hs q r (by omega) hr, fun hw => ?_⟩
  clear hq
  induction hw with
  | start h => exact h0 r hr h
  | @step pc to h hw hset ht ih =>
    have he := hc pc h to ht
    have h1 : bitOf l to r = (bitOf l to r && (bitOf l pc r || (setMask (insD f pc)).testBit r)) := by
      have : (cutV l pc (insD f pc) to).getLsbD r = (l.getD to 0#64).getLsbD r := by rw [show cutV l pc (insD f pc) to = l.getD to 0#64 from he]
      unfold bitOf
      rw [← this]
      simp only [cutV, BitVec.getLsbD_and, BitVec.getLsbD_or, bvn_bit _ _ hr]
      cases (l.getD to 0#64).getLsbD r <;> simp
    rw [h1, ih, hset]
    simp
def SureSpec (f : Fn) (L : List Int) : Prop :=
  L.length = f.code.length + 1 ∧ ∀ q, q < f.code.length + 1 → (¬ Way f 63 q ∧ L.getD q 0 = -1) ∨ (Way f 63 q ∧ ∃ m : Nat, m < 4096 ∧ L.getD q 0 = m ∧ ∀ r, r < 12 → (m.testBit r = true ↔ ¬ Way f r q))
structure FnOk (f : Fn) : Prop where
  p0 : 0 ≤ f.params
  p2 : f.params ≤ 2
  sets : ∀ pc, setMask (insD f pc) < 4096
  len1 : 1 ≤ f.code.length
  len2 : f.code.length ≤ 40
  goes : ∀ pc, pc < f.code.length → ∀ to ∈ behind (insD f pc) pc, to < f.code.length + 1
theorem pow12 {s : Nat} (h : 12 ≤ s) : 4096 ≤ 2 ^ s := by
  have := Nat.pow_le_pow_right (n := 2) (by decide) h
  simpa using this
theorem way_high {f : Fn} (hf : FnOk f) {r s q : Nat} (hr : 12 ≤ s) (h : Way f r q) : Way f s q := by
  have hp := hf.p2
  induction h with
  | start h => exact Way.start (by omega)
  | @step pc to h hw hset ht ih => exact Way.step h ih (Nat.testBit_lt_two_pow (Nat.lt_of_lt_of_le (hf.sets pc) (pow12 hr))) ht
theorem sure_unique {f : Fn} {L L' : List Int} (h : SureSpec f L) (h' : SureSpec f L') : L = L' := by
  apply List.ext_getElem?
  intro q
  rcases Nat.lt_or_ge q (f.code.length + 1) with hq | hq
  · have e : L.getD q 0 = L'.getD q 0 := by
      rcases h.2 q hq with ⟨n1, e1⟩ | ⟨w1, m, hm, e1, b1⟩ <;> rcases h'.2 q hq with ⟨n2, e2⟩ | ⟨w2, m', hm', e2, b2⟩
      · rw [e1, e2]
      · exact absurd w2 n1
      · exact absurd w1 n2
      · have : m = m' := by
          apply Nat.eq_of_testBit_eq
          intro r
          rcases Nat.lt_or_ge r 12 with hr | hr
          · have x1 := b1 r hr
            have x2 := b2 r hr
            rw [Bool.eq_iff_iff, x1, x2]
          · rw [Nat.testBit_lt_two_pow (Nat.lt_of_lt_of_le hm (pow12 hr)), Nat.testBit_lt_two_pow (Nat.lt_of_lt_of_le hm' (pow12 hr))]
        rw [e1, e2, this]
    have l1 : q < L.length := by rw [h.1]; exact hq
    have l2 : q < L'.length := by rw [h'.1]; exact hq
    simp [List.getD, l1, l2] at e ⊢
    exact e
  · rw [List.getElem?_eq_none (by rw [h.1]; exact hq), List.getElem?_eq_none (by rw [h'.1]; exact hq)]
theorem spec_of_bits {f : Fn} (hf : FnOk f) {l : List (BitVec 64)} (hl : l.length = f.code.length + 1) (h : ∀ q r, q < f.code.length + 1 → r < 64 → (bitOf l q r = false ↔ Way f r q)) : SureSpec f (l.map BitVec.toInt) := by
  refine ⟨by simp [hl], fun q hq => ?_⟩
  have hql : q < l.length := by omega
  have hg : (l.map BitVec.toInt).getD q 0 = (l.getD q 0#64).toInt := by simp [List.getD, hql]
  rw [hg]
  by_cases hw : Way f 63 q
  · right
    refine ⟨hw, (l.getD q 0#64).toNat, ?_, ?_, fun r hr => ?_⟩
    · have hb : ∀ r, 12 ≤ r → (l.getD q 0#64).toNat.testBit r = false := by
        intro r hr
        rcases Nat.lt_or_ge r 64 with h64 | h64
        · exact (h q r hq h64).2 (way_high hf hr hw)
        · exact Nat.testBit_lt_two_pow (Nat.lt_of_lt_of_le (l.getD q 0#64).isLt (Nat.pow_le_pow_right (by decide) h64))
      exact Nat.lt_pow_two_of_testBit (n := 12) _ hb
    · have hb : ∀ r, 12 ≤ r → (l.getD q 0#64).toNat.testBit r = false := by
        intro r hr
        rcases Nat.lt_or_ge r 64 with h64 | h64
        · exact (h q r hq h64).2 (way_high hf hr hw)
        · exact Nat.testBit_lt_two_pow (Nat.lt_of_lt_of_le (l.getD q 0#64).isLt (Nat.pow_le_pow_right (by decide) h64))
      have hlt : (l.getD q 0#64).toNat < 4096 := Nat.lt_pow_two_of_testBit (n := 12) _ hb
      rw [BitVec.toInt_eq_toNat_cond, if_pos (by omega)]
    · have hx := h q r hq (by omega)
      rw [← hx]
      unfold bitOf
      show ((l.getD q 0#64).getLsbD r = true ↔ _)
      cases (l.getD q 0#64).getLsbD r <;> simp
  · left
    refine ⟨hw, ?_⟩
    have : l.getD q 0#64 = BitVec.allOnes 64 := by
      apply BitVec.eq_of_getLsbD_eq
      intro r hr
      have hx := h q r hq hr
      cases hb : (l.getD q 0#64).getLsbD r
      · exact absurd (way_high hf (by decide) (hx.1 hb)) hw
      · rw [BitVec.getLsbD_allOnes]; simp [hr]
    rw [this]
    decide
end Go.Proofs.YtldbmdgpdolaaaaDoor
namespace Go.Proofs.YtldbmdgpdolaaaaDoor
open Go Go.RowKit

theorem bt9_1 : bits BinOp.and IntKind.i64 9 1 = 1 := by decide
theorem bt9_2 : bits BinOp.and IntKind.i64 9 2 = 0 := by decide
theorem bt9_4 : bits BinOp.and IntKind.i64 9 4 = 0 := by decide
theorem bt9_8 : bits BinOp.and IntKind.i64 9 8 = 8 := by decide
theorem bt7_1 : bits BinOp.and IntKind.i64 7 1 = 1 := by decide
theorem bt7_2 : bits BinOp.and IntKind.i64 7 2 = 2 := by decide
theorem bt7_4 : bits BinOp.and IntKind.i64 7 4 = 4 := by decide
theorem bt7_8 : bits BinOp.and IntKind.i64 7 8 = 0 := by decide
theorem bt7_16 : bits BinOp.and IntKind.i64 7 16 = 0 := by decide
theorem bt7_32 : bits BinOp.and IntKind.i64 7 32 = 0 := by decide
theorem bt3_1 : bits BinOp.and IntKind.i64 3 1 = 1 := by decide
theorem bt3_2 : bits BinOp.and IntKind.i64 3 2 = 2 := by decide
theorem bt3_4 : bits BinOp.and IntKind.i64 3 4 = 0 := by decide
theorem bt3_8 : bits BinOp.and IntKind.i64 3 8 = 0 := by decide
theorem bt3_16 : bits BinOp.and IntKind.i64 3 16 = 0 := by decide
theorem bt3_32 : bits BinOp.and IntKind.i64 3 32 = 0 := by decide
theorem bt6_1 : bits BinOp.and IntKind.i64 6 1 = 0 := by decide
theorem bt6_2 : bits BinOp.and IntKind.i64 6 2 = 2 := by decide
theorem bt6_4 : bits BinOp.and IntKind.i64 6 4 = 4 := by decide
theorem bt6_8 : bits BinOp.and IntKind.i64 6 8 = 0 := by decide
theorem bt6_16 : bits BinOp.and IntKind.i64 6 16 = 0 := by decide
theorem bt6_32 : bits BinOp.and IntKind.i64 6 32 = 0 := by decide
theorem bt16_1 : bits BinOp.and IntKind.i64 16 1 = 0 := by decide
theorem bt16_2 : bits BinOp.and IntKind.i64 16 2 = 0 := by decide
theorem bt16_4 : bits BinOp.and IntKind.i64 16 4 = 0 := by decide
theorem bt16_8 : bits BinOp.and IntKind.i64 16 8 = 0 := by decide
theorem bt16_16 : bits BinOp.and IntKind.i64 16 16 = 16 := by decide
theorem bt18_1 : bits BinOp.and IntKind.i64 18 1 = 0 := by decide
theorem bt18_2 : bits BinOp.and IntKind.i64 18 2 = 2 := by decide
theorem bt18_4 : bits BinOp.and IntKind.i64 18 4 = 0 := by decide
theorem bt18_8 : bits BinOp.and IntKind.i64 18 8 = 0 := by decide
theorem bt18_16 : bits BinOp.and IntKind.i64 18 16 = 16 := by decide
theorem bt39_1 : bits BinOp.and IntKind.i64 39 1 = 1 := by decide
theorem bt39_2 : bits BinOp.and IntKind.i64 39 2 = 2 := by decide
theorem bt39_4 : bits BinOp.and IntKind.i64 39 4 = 4 := by decide
theorem bt39_8 : bits BinOp.and IntKind.i64 39 8 = 0 := by decide
theorem bt39_16 : bits BinOp.and IntKind.i64 39 16 = 0 := by decide
theorem bt39_32 : bits BinOp.and IntKind.i64 39 32 = 32 := by decide
theorem bt2_1 : bits BinOp.and IntKind.i64 2 1 = 0 := by decide
theorem bt2_2 : bits BinOp.and IntKind.i64 2 2 = 2 := by decide
theorem bt2_4 : bits BinOp.and IntKind.i64 2 4 = 0 := by decide
theorem bt2_8 : bits BinOp.and IntKind.i64 2 8 = 0 := by decide
theorem bt2_16 : bits BinOp.and IntKind.i64 2 16 = 0 := by decide
theorem bt2_32 : bits BinOp.and IntKind.i64 2 32 = 0 := by decide
theorem instr_same (x : Ins) (regs places funcs : Int) : codeInstr x regs places funcs = refInstr x regs places funcs := by
  obtain ⟨op, dst, a, b, imm⟩ := x
  by_cases h : 1 ≤ op ∧ op ≤ 19
  · obtain ⟨m, rfl⟩ : ∃ m : Nat, op = m := ⟨op.toNat, by omega⟩
    have hm : m = 1 ∨ m = 2 ∨ m = 3 ∨ m = 4 ∨ m = 5 ∨ m = 6 ∨ m = 7 ∨ m = 8 ∨ m = 9 ∨ m = 10 ∨ m = 11 ∨ m = 12 ∨ m = 13 ∨ m = 14 ∨ m = 15 ∨ m = 16 ∨ m = 17 ∨ m = 18 ∨ m = 19 := by omega
    rcases hm with rfl | rfl | rfl | rfl | rfl | rfl | rfl | rfl | rfl | rfl | rfl | rfl | rfl | rfl | rfl | rfl | rfl | rfl | rfl
    all_goals
      simp [codeInstr, refInstr, refOk1, refOk2, regMayB, setsB, readsAB, readsBB, inB, belowB, roomOf, immB, hasOf, hasL, bt9_1, bt9_2, bt9_4, bt9_8, bt7_1, bt7_2, bt7_4, bt7_8, bt7_16, bt7_32, bt3_1, bt3_2, bt3_4, bt3_8, bt3_16, bt3_32, bt6_1, bt6_2, bt6_4, bt6_8, bt6_16, bt6_32, bt16_1, bt16_2, bt16_4, bt16_8, bt16_16, bt18_1, bt18_2, bt18_4, bt18_8, bt18_16, bt39_1, bt39_2, bt39_4, bt39_8, bt39_16, bt39_32, bt2_1, bt2_2, bt2_4, bt2_8, bt2_16, bt2_32]
      repeat' split
      all_goals first | rfl | omega
  · have e : hasOf op = 0 := by
      unfold hasOf
      by_cases c : 0 ≤ op ∧ op < 20
      · rw [if_pos c]
        have : op = 0 := by omega
        subst this; rfl
      · rw [if_neg c]
    have e' : inB op 1 19 = false := by simp [inB]; omega
    unfold codeInstr refInstr
    dsimp only
    rw [e, e']
    rfl
end Go.Proofs.YtldbmdgpdolaaaaDoor
namespace Go.Proofs.YtldbmdgpdolaaaaDoor
open Go Go.RowKit

theorem insOk_of {P : List Fn} (h : codeProg P = 0) {f : Fn} (hf : f ∈ P) {x : Ins} (hx : x ∈ f.code) : InsOk P x := by
  obtain ⟨h1, h4, hall⟩ := codeProg_zero h
  obtain ⟨r1, r2, _, _, _, _, l2, hi⟩ := codeFunc_zero (hall f hf)
  have hz := hi x hx
  rw [instr_same] at hz
  unfold refInstr at hz
  by_cases k1 : inB x.op 1 19 = false
  · rw [if_pos k1] at hz; cases hz
  rw [if_neg k1] at hz
  by_cases k2 : refOk1 x f.regs = false
  · rw [if_pos k2] at hz; cases hz
  rw [if_neg k2] at hz
  by_cases k3 : refOk2 x f.code.length P.length = false
  · rw [if_pos k3] at hz; cases hz
  replace k1 : inB x.op 1 19 = true := by simpa using k1
  replace k2 : refOk1 x f.regs = true := by simpa using k2
  replace k3 : refOk2 x f.code.length P.length = true := by simpa using k3
  obtain ⟨o1, o2⟩ : 1 ≤ x.op ∧ x.op ≤ 19 := by simpa [inB] using k1
  have may : ∀ (n : Int) (is : Bool), regMayB n is f.regs = true → 0 ≤ n ∧ n < 12 := by
    intro n is h
    cases is
    · have : n = 0 := by simpa [regMayB] using h
      omega
    · have : 0 ≤ n ∧ n ≤ f.regs - 1 := by simpa [regMayB, inB] using h
      omega
  simp only [refOk1, Bool.and_eq_true] at k2
  obtain ⟨⟨m1, m2⟩, m3⟩ := k2
  refine ⟨o1, o2, (may _ _ m1).1, (may _ _ m1).2, (may _ _ m2).1, (may _ _ m2).2, (may _ _ m3).1, (may _ _ m3).2, fun h17 => ?_⟩
  have : 0 ≤ x.imm ∧ x.imm ≤ (P.length : Int) - 1 := by simpa [refOk2, h17, inB] using k3
  have hk : x.imm.toNat < P.length := by omega
  obtain ⟨_, _, p0, p1, _⟩ := codeFunc_zero (hall P[x.imm.toNat] (List.getElem_mem hk))
  have e : paramsAt P x.imm = P[x.imm.toNat].params := by simp [paramsAt, List.getD, hk]
  rw [e]
  exact ⟨this.1, by omega, p0, p1⟩
def fnErr (P : List Fn) (fn : Int) : Int := if codeProg P = 0 then (if 0 ≤ fn ∧ fn < P.length then 0 else 2) else codeProg P
set_option maxRecDepth 100000 in
theorem checkFunction_any (P : List Fn) (v : Value) (fn : Int) (w : World) (ht : TabOk w) (hv : ProgVal w v P) :
    Calls Tryd.prog 58 #[.agg #[v], .int .i64 fn] w fun e w' => e = .returned (.int .i64 (fnErr P fn)) ∧ Below w.heap.size w w' := by
  have hbx : ∀ o, Below w.heap.size w (w.alloc o) := fun o => (Below.refl _ _).alloc (Nat.le_refl _) _
  have hC := fun o => check_any P v (w.alloc o) (ht.below (hbx o)) (hv.keeps (keeps_below (hbx o)))
  obtain ⟨ao, b, off, n, cap, rfl, hin, hcap, hmax⟩ := hv
  obtain ⟨hlen, _, _⟩ := hin
  unfold maxLen at hmax
  unfold fnErr
  rw [hlen]
  clear ht hbx hlen
  by_cases h0 : codeProg P = 0
  · rw [if_pos h0]
    rw [h0] at hC
    clear h0
    by_cases h1 : 0 ≤ fn
    · by_cases h2 : fn < n
      · rw [if_pos ⟨h1, h2⟩]
        go_enter Tryd.func58, Tryd.ntmps58
        go_wp2_with (go_at_call 20; refine (hC _).mono ?_; rintro e w1 ⟨rfl, hb1⟩; have k0 := keeps_below hb1 ⟨w.heap.size, 0, none⟩ (.slice ao n cap) (by simp))
        go_ret
        exact ⟨rfl, ((Below.refl _ _).alloc (Nat.le_refl _) _).trans (hb1.mono (by simp))⟩
      · rw [if_neg (by omega)]
        go_enter Tryd.func58, Tryd.ntmps58
        go_wp2_with (go_at_call 20; refine (hC _).mono ?_; rintro e w1 ⟨rfl, hb1⟩; have k0 := keeps_below hb1 ⟨w.heap.size, 0, none⟩ (.slice ao n cap) (by simp))
        go_ret
        exact ⟨rfl, ((Below.refl _ _).alloc (Nat.le_refl _) _).trans (hb1.mono (by simp))⟩
    · rw [if_neg (by omega)]
      go_enter Tryd.func58, Tryd.ntmps58
      go_wp2_with (go_at_call 20; refine (hC _).mono ?_; rintro e w1 ⟨rfl, hb1⟩; have k0 := keeps_below hb1 ⟨w.heap.size, 0, none⟩ (.slice ao n cap) (by simp))
      go_ret
      exact ⟨rfl, ((Below.refl _ _).alloc (Nat.le_refl _) _).trans (hb1.mono (by simp))⟩
  · rw [if_neg h0]
    have h0' : (codeProg P != 0) = true := by simpa using h0
    clear h0
    go_enter Tryd.func58, Tryd.ntmps58
    go_wp2_with (go_at_call 20; refine (hC _).mono ?_; rintro e w1 ⟨rfl, hb1⟩; have k0 := keeps_below hb1 ⟨w.heap.size, 0, none⟩ (.slice ao n cap) (by simp))
    go_ret
    exact ⟨rfl, ((Below.refl _ _).alloc (Nat.le_refl _) _).trans (hb1.mono (by simp))⟩
def codeAt (P : List Fn) (fn : Nat) : List Ins := (P.getD fn ⟨0, 0, []⟩).code
def insAtP (P : List Fn) (fn pc : Nat) : Ins := (codeAt P fn).getD pc ⟨0, 0, 0, 0, 0⟩
theorem fnErr_zero {P : List Fn} {fn : Int} (h : fnErr P fn = 0) : codeProg P = 0 ∧ 0 ≤ fn ∧ fn < P.length := by
  unfold fnErr at h
  by_cases h0 : codeProg P = 0
  · rw [if_pos h0] at h
    by_cases h1 : 0 ≤ fn ∧ fn < P.length
    · exact ⟨h0, h1⟩
    · rw [if_neg h1] at h; cases h
  · rw [if_neg h0] at h; exact absurd h h0
set_option maxRecDepth 100000 in
set_option maxHeartbeats 1000000 in
theorem reads_ok (P : List Fn) (v : Value) (k j : Nat) (w : World) (ht : TabOk w) (hc : CallOk w) (hv : ProgVal w v P) (h : fnErr P k = 0) (hpc : j < (codeAt P k).length) :
    Calls Tryd.prog 59 #[.agg #[v], .int .i64 k, .int .i64 j] w fun e w' => e = .returned (.tuple #[.int .i64 (rdMask P (insAtP P k j)), .int .i64 (setMask (insAtP P k j)), .int .i64 0]) ∧ Below w.heap.size w w' := by
  have hbx : ∀ o, Below w.heap.size w (w.alloc o) := fun o => (Below.refl _ _).alloc (Nat.le_refl _) _
  have hC := fun o => checkFunction_any P v k (w.alloc o) (ht.below (hbx o)) (hv.keeps (keeps_below (hbx o)))
  rw [h] at hC
  obtain ⟨h0, f0, f1⟩ := fnErr_zero h
  have hv' := hv
  obtain ⟨ao, b, off, n, cap, rfl, ⟨hlen, haddr, hat⟩, hcap, hmax⟩ := hv'
  have hk : k < P.length := by omega
  obtain ⟨u, hu⟩ := hat k hk
  obtain rfl := haddr (by omega)
  have e : codeAt P k = P[k].code := by simp [codeAt, List.getD, hk]
  have hj : j < P[k].code.length := by rw [← e]; exact hpc
  have e2 : insAtP P k j = P[k].code[j] := by simp [insAtP, e, List.getD, hj]
  have hio : InsOk P P[k].code[j] := insOk_of h0 (List.getElem_mem hk) (List.getElem_mem hj)
  rw [e2]
  clear e2 hpc e
  generalize hg : P[k] = g at hu hj hio
  obtain ⟨d0, d1, d2, hcv⟩ := hu
  obtain ⟨ao1, b1, off1, n1, cap1, rfl, ⟨hlen1, haddr1, hat1⟩, _, hmax1⟩ := hcv
  obtain rfl := haddr1 (by omega)
  have gi := hat1 j hj
  generalize hgx : g.code[j] = x at hio gi
  have gj : ∀ o, insAt (w.alloc o) b1 (off1 + j * 5) x := fun o => gi.keeps (keeps_below (hbx o))
  unfold maxLen at hmax1
  have hkn : (k : Int) < n := by omega
  have hjn : (j : Int) < n1 := by omega
  have hB0 : ∀ o, TabOk (w.alloc o) ∧ CallOk (w.alloc o) ∧ ProgVal (w.alloc o) (.slice (some ⟨b, off, none⟩) n cap) P := fun o => ⟨ht.below (hbx o), hc.below (hbx o), hv.keeps (keeps_below (hbx o))⟩
  have t0 := fun o => cell_alloc d0 o
  have t1 := fun o => cell_alloc d1 o
  have t2 := fun o => cell_alloc d2 o
  clear hlen1 d0 d1 d2 hat haddr hlen f1 f0 ht hbx h h0 hk hg hgx hat1 gi hc hv haddr1 hj
  go_enter Tryd.func59, Tryd.ntmps59
  go_wp2_with (go_at_call 58; refine (hC _).mono ?_; rintro e w1 ⟨rfl, hb1⟩; have k0 := keeps_below hb1 ⟨w.heap.size, 0, none⟩ (.slice (some ⟨b, off, none⟩) n cap) (by simp); have k1 := keeps_below hb1 _ _ (t0 _); have k2 := keeps_below hb1 _ _ (t1 _); have k3 := keeps_below hb1 _ _ (t2 _); have hz : w.heap.size < w1.heap.size := (by have := hb1.size; simp at this; omega))
  have hal : Below w1.heap.size w1 (w1.alloc (.cells #[.int .i64 g.params, .int .i64 g.regs, .slice (some ⟨b1, off1, none⟩) n1 cap1] 44)) := (Below.refl _ _).alloc (Nat.le_refl _) _
  have HB : Hid (Below w.heap.size w (w1.alloc (.cells #[.int .i64 g.params, .int .i64 g.regs, .slice (some ⟨b1, off1, none⟩) n1 cap1] 44))) := (((Below.refl _ _).alloc (Nat.le_refl _) _).trans (hb1.mono (by simp))).alloc (by omega) _
  obtain ⟨g0, g1, g2, g3, g4⟩ := ((gj _).keeps (keeps_below hb1)).keeps (keeps_below hal)
  have hW := hB0 (.cells #[.slice (some ⟨b, off, none⟩) n cap] 25)
  have hTW := (hW.1.below hb1).below hal
  have hCW := (hW.2.1.below hb1).below hal
  have hPW := (hW.2.2.keeps (keeps_below hb1)).keeps (keeps_below hal)
  have hTd : ∀ d : Later (w1.alloc (.cells #[.int .i64 g.params, .int .i64 g.regs, .slice (some ⟨b1, off1, none⟩) n1 cap1] 44)), TabOk d.to ∧ CallOk d.to ∧ ProgVal d.to (.slice (some ⟨b, off, none⟩) n cap) P := fun d => ⟨hTW.below d.below, hCW.below d.below, hPW.keeps (keeps_below d.below)⟩
  have e0 := Later.cell (cell_alloc k0 (.cells #[.int .i64 g.params, .int .i64 g.regs, .slice (some ⟨b1, off1, none⟩) n1 cap1] 44))
  have e1 := Later.cell (show (w1.alloc (.cells #[.int .i64 g.params, .int .i64 g.regs, .slice (some ⟨b1, off1, none⟩) n1 cap1] 44)).cell? ⟨w1.heap.size, 2, none⟩ = some (.slice (some ⟨b1, off1, none⟩) n1 cap1) by simp)
  have m0 := Later.cell g0
  have m1 := Later.cell g1
  have m2 := Later.cell g2
  have m3 := Later.cell g3
  have m4 := Later.cell g4
  clear hW hTW hCW hPW hB0 k0 k1 k2 k3 g0 g1 g2 g3 g4 t0 t1 t2 hb1 hal gj hC
  refine wp_region_later (by kernel_rfl) (by kernel_rfl) ?_
  repeat (go_big_quiet_step ((first | (go_at_call 36; exact calls_later (readBits_any P _ x _ (hTd _).1 (hTd _).2.1 (hTd _).2.2 hio)) | (go_at_call 85; exact calls_later (setBit_any P x _ (hTd _).1 hio)))))
  refine wpQuiet_nil ?_
  intro _ hw'
  obtain ⟨d, hw''⟩ := hw'
  subst hw''
  go_wp2
  go_ret3
  exact ⟨rfl, HB.out.trans (d.below.mono (by have := HB.out.size; omega))⟩
end Go.Proofs.YtldbmdgpdolaaaaDoor
namespace Go.Proofs.YtldbmdgpdolaaaaDoor
open Go Go.RowKit

theorem infoI : (Tryd.prog.info? 42).map (fun i => (i.zero, i.size, i.bytes)) = some (some (.agg #[.int .i64 0, .int .i64 0, .int .i64 0, .int .i64 0, .int .i64 0]), 5, 40) := by kernel_rfl
end Go.Proofs.YtldbmdgpdolaaaaDoor
