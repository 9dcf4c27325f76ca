/- Programs as plain data, and how they lie in memory: no theorem on the program itself. -/
import Derived.WalkKit
import Derived.WalkSpells
import Derived.WalkSmall
namespace Go.Proofs.YtapjfiihfgndeaaDoor
open Go Go.RowKit

structure Ins where
  op : Int
  dst : Int
  a : Int
  b : Int
  imm : Int
/-- An instruction as a value. -/
def Ins.val (x : Ins) : Value := .agg #[.int .i64 x.op, .int .i64 x.dst, .int .i64 x.a, .int .i64 x.b, .int .i64 x.imm]

/-- A function as plain data. -/
structure Fn where
  params : Int
  regs : Int
  code : List Ins

/-- Whatever cell is there, is there still, as it was. -/
def Keeps (w w' : World) : Prop := ∀ (a : Addr) (v : Value), w.cell? a = some v → w'.cell? a = some v
theorem Keeps.refl (w : World) : Keeps w w := fun _ _ h => h
theorem Keeps.trans {a b c : World} (h : Keeps a b) (k : Keeps b c) : Keeps a c := fun x v e => k x v (h x v e)
theorem keeps_below {w w' : World} (hb : Below w.heap.size w w') : Keeps w w' := fun _ _ h => (hb.cell (World.block_lt_of_cell? _ _ h)).trans h

theorem cell_alloc {w : World} {a : Addr} {v : Value} (h : w.cell? a = some v) (o : Obj) : (w.alloc o).cell? a = some v := keeps_below ((Below.refl _ _).alloc (Nat.le_refl _) o) _ _ h

/-- An instruction lies in five cells. -/
def insAt (w : World) (b off : Nat) (x : Ins) : Prop :=
  w.cell? ⟨b, off, none⟩ = some (.int .i64 x.op) ∧ w.cell? ⟨b, off + 1, none⟩ = some (.int .i64 x.dst) ∧ w.cell? ⟨b, off + 2, none⟩ = some (.int .i64 x.a) ∧
  w.cell? ⟨b, off + 3, none⟩ = some (.int .i64 x.b) ∧ w.cell? ⟨b, off + 4, none⟩ = some (.int .i64 x.imm)
theorem insAt.keeps {w w' : World} {b off : Nat} {x : Ins} (h : insAt w b off x) (k : Keeps w w') : insAt w' b off x :=
  ⟨k _ _ h.1, k _ _ h.2.1, k _ _ h.2.2.1, k _ _ h.2.2.2.1, k _ _ h.2.2.2.2⟩

/-- A slice of instructions. -/
structure CodeIn (w : World) (ao : Option Addr) (b off n : Nat) (xs : List Ins) : Prop where
  len : xs.length = n
  addr : 0 < n → ao = some ⟨b, off, none⟩
  at_ : ∀ k (h : k < xs.length), insAt w b (off + k * 5) xs[k]
theorem CodeIn.keeps {w w' : World} {ao : Option Addr} {b off n : Nat} {xs : List Ins} (h : CodeIn w ao b off n xs) (k : Keeps w w') : CodeIn w' ao b off n xs :=
  ⟨h.len, h.addr, fun i hi => (h.at_ i hi).keeps k⟩
def CodeVal (w : World) (v : Value) (xs : List Ins) : Prop := ∃ ao b off n cap, v = .slice ao n cap ∧ CodeIn w ao b off n xs ∧ (n ≤ cap ∧ (ao = none → cap = 0)) ∧ cap ≤ maxLen
theorem CodeVal.keeps {w w' : World} {v : Value} {xs : List Ins} (h : CodeVal w v xs) (k : Keeps w w') : CodeVal w' v xs := by
  obtain ⟨ao, b, off, n, cap, rfl, h, h'⟩ := h
  exact ⟨ao, b, off, n, cap, rfl, h.keeps k, h'⟩

/-- A function lies in three cells. -/
structure FnAt (w : World) (b off : Nat) (f : Fn) (v : Value) : Prop where
  params : w.cell? ⟨b, off, none⟩ = some (.int .i64 f.params)
  regs : w.cell? ⟨b, off + 1, none⟩ = some (.int .i64 f.regs)
  code : w.cell? ⟨b, off + 2, none⟩ = some v
  val : CodeVal w v f.code
theorem FnAt.keeps {w w' : World} {b off : Nat} {f : Fn} {v : Value} (h : FnAt w b off f v) (k : Keeps w w') : FnAt w' b off f v :=
  ⟨k _ _ h.params, k _ _ h.regs, k _ _ h.code, h.val.keeps k⟩

/-- A slice of functions. -/
structure FnsIn (w : World) (ao : Option Addr) (b off n : Nat) (p : List Fn) : Prop where
  len : p.length = n
  addr : 0 < n → ao = some ⟨b, off, none⟩
  at_ : ∀ k (h : k < p.length), ∃ v, FnAt w b (off + k * 3) p[k] v
theorem FnsIn.keeps {w w' : World} {ao : Option Addr} {b off n : Nat} {p : List Fn} (h : FnsIn w ao b off n p) (k : Keeps w w') : FnsIn w' ao b off n p :=
  ⟨h.len, h.addr, fun i hi => by obtain ⟨v, hv⟩ := h.at_ i hi; exact ⟨v, hv.keeps k⟩⟩
def ProgVal (w : World) (v : Value) (p : List Fn) : Prop := ∃ ao b off n cap, v = .slice ao n cap ∧ FnsIn w ao b off n p ∧ (n ≤ cap ∧ (ao = none → cap = 0)) ∧ cap ≤ maxLen
theorem ProgVal.keeps {w w' : World} {v : Value} {p : List Fn} (h : ProgVal w v p) (k : Keeps w w') : ProgVal w' v p := by
  obtain ⟨ao, b, off, n, cap, rfl, h, h'⟩ := h
  exact ⟨ao, b, off, n, cap, rfl, h.keeps k, h'⟩

/-- The first number of a list that is not 0; 0: there is none. -/
def firstErr {α : Type} (g : α → Int) : List α → Int
  | [] => 0
  | x :: r => if g x = 0 then firstErr g r else g x
theorem firstErr_drop {α : Type} (g : α → Int) (l : List α) (k : Nat) (h : k < l.length) : firstErr g (l.drop k) = if g l[k] = 0 then firstErr g (l.drop (k + 1)) else g l[k] := by
  rw [List.drop_eq_getElem_cons h]; rfl
theorem firstErr_end {α : Type} (g : α → Int) (l : List α) (k : Nat) (h : l.length ≤ k) : firstErr g (l.drop k) = 0 := by
  rw [List.drop_eq_nil_of_le h]; rfl
theorem firstErr_congr {α : Type} {g h : α → Int} (l : List α) (e : ∀ x ∈ l, g x = h x) : firstErr g l = firstErr h l := by
  induction l with
  | nil => rfl
  | cons x r ih => unfold firstErr; rw [e x (by simp), ih (fun y hy => e y (by simp [hy]))]

/-- A block more, and a call that leaves all old memory alone. -/
theorem below_step {B : Nat} {w wr w1 : World} {o : Obj} (h : Below B w wr) (hB : B ≤ wr.heap.size) (h1 : Below (wr.alloc o).heap.size (wr.alloc o) w1) : Below B w w1 :=
  (h.alloc hB o).trans (h1.mono (by simp; omega))
/-- A call that leaves all old memory alone. -/
theorem below_call {B : Nat} {w wr w1 : World} (h : Below B w wr) (hB : B ≤ wr.heap.size) (h1 : Below wr.heap.size wr w1) : Below B w w1 := h.trans (h1.mono hB)

/-- A box of one's own, and what was done behind it. -/
theorem below_box {B : Nat} {w wo wr : World} {o : Obj} (h : Below B w wo) (hB : B ≤ wo.heap.size) (h1 : Below (wo.heap.size + 1) (wo.alloc o) wr) : Below B w wr := (h.alloc hB o).trans (h1.mono (by omega))

theorem ret_int {k : IntKind} {a b : Int} (h : a = b) : Ending.returned (.int k a) = .returned (.int k b) := by rw [h]

end Go.Proofs.YtapjfiihfgndeaaDoor
