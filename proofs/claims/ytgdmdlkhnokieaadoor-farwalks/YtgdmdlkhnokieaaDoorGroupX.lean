/- Texts put together: RvMath, CpuMath, CpuCell, CpuEq. -/
import Derived.Test.YtgdmdlkhnokieaaDoorGroupA
import Derived.Test.YtgdmdlkhnokieaaDoorGroupB
import Derived.Deep.Cut
import Derived.Laws.ResultCell
import Derived.ChangeKeysEq
import Derived.Laws.StructEq
/- Instructions of the machine as plain data: what may be, words as sums, what a word tells. No program is named. -/
namespace Go.Proofs.YtgdmdlkhnokieaaDoor
open Go Go.RowKit

/-- An instruction of the machine. -/
structure Mi where
  op : Int
  rd : Int
  rs1 : Int
  rs2 : Int
  imm : Int
theorem Mi.ext' {x y : Mi} (h0 : x.op = y.op) (h1 : x.rd = y.rd) (h2 : x.rs1 = y.rs1) (h3 : x.rs2 = y.rs2) (h4 : x.imm = y.imm) : x = y := by
  cases x; cases y; simp_all
def Mi.val (x : Mi) : Value := .agg #[.int .i64 x.op, .int .i64 x.rd, .int .i64 x.rs1, .int .i64 x.rs2, .int .i64 x.imm]

/-- The table of shapes, row by row. -/
def shL : List (List Int) := [
  [31, 31, 31, 0, 0, 1, 0, 0, 0, 0, 0, 0, 0, 0, 0, 0, 0, 0, 4261441663],
  [31, 31, 0, -2048, 2047, 1, 12, 0, 20, 0, 0, 0, 0, 0, 0, 0, 0, 0, 28799],
  [31, 31, 0, 0, 63, 1, 6, 0, 20, 0, 0, 0, 0, 0, 0, 0, 0, 0, 4227887231],
  [0, 31, 31, -2048, 2047, 1, 5, 0, 7, 7, 5, 25, 0, 0, 0, 0, 0, 0, 28799],
  [0, 31, 31, -4096, 4092, 4, 1, 11, 7, 4, 1, 8, 6, 5, 25, 1, 12, 31, 28799],
  [31, 0, 0, -1048576, 1048572, 4, 8, 12, 12, 1, 11, 20, 10, 1, 21, 1, 20, 31, 127],
  [31, 0, 0, -524288, 524287, 1, 20, 0, 12, 0, 0, 0, 0, 0, 0, 0, 0, 0, 127],
  [0, 0, 0, 0, 0, 1, 0, 0, 0, 0, 0, 0, 0, 0, 0, 0, 0, 0, 4294967295]]
/-- The table of ops: its shape, and what it settles. -/
def ptL : List (Nat × Nat) := [(0, 0), (0, 51), (0, 1073741875), (0, 33554483), (0, 33570867), (0, 28723), (0, 24627), (0, 16435), (0, 4147), (0, 1073762355), (0, 8243), (0, 12339), (1, 19), (1, 28691), (1, 24595), (1, 16403), (1, 8211), (1, 12307), (2, 4115), (2, 1073762323), (1, 12291), (3, 12323), (4, 99), (4, 4195), (4, 16483), (4, 20579), (5, 111), (1, 103), (6, 55), (7, 115)]
def shOf (op : Nat) : Nat := (ptL.getD op (0, 0)).1
def setOf (op : Nat) : Nat := (ptL.getD op (0, 0)).2
def shF (s i : Nat) : Int := (shL.getD s []).getD i 0

/-- Does a shape's room hold the fields? -/
def fitsB (s : Nat) (x : Mi) : Bool :=
  decide (0 ≤ x.rd ∧ x.rd ≤ shF s 0 ∧ 0 ≤ x.rs1 ∧ x.rs1 ≤ shF s 1 ∧ 0 ≤ x.rs2 ∧ x.rs2 ≤ shF s 2 ∧ shF s 3 ≤ x.imm ∧ x.imm ≤ shF s 4 ∧ x.imm.tmod (shF s 5) = 0)
/-- What Check answers. -/
def rvE (x : Mi) : Int := if x.op < 1 ∨ 29 < x.op then 3 else if fitsB (shOf x.op.toNat) x = true then 0 else 2

/-- A word in six parts: seven bits, five, three, five, five, seven. -/
structure Pts where
  a : Int
  l : Int
  b : Int
  m : Int
  n : Int
  c : Int
structure Pts.Ok (p : Pts) : Prop where
  a0 : 0 ≤ p.a
  a1 : p.a < 128
  l0 : 0 ≤ p.l
  l1 : p.l < 32
  b0 : 0 ≤ p.b
  b1 : p.b < 8
  m0 : 0 ≤ p.m
  m1 : p.m < 32
  n0 : 0 ≤ p.n
  n1 : p.n < 32
  c0 : 0 ≤ p.c
  c1 : p.c < 128
def Pts.num (p : Pts) : Int := p.a + 128 * p.l + 4096 * p.b + 32768 * p.m + 1048576 * p.n + 33554432 * p.c
def partsOf (w : Int) : Pts := ⟨w % 128, w / 128 % 32, w / 4096 % 8, w / 32768 % 32, w / 1048576 % 32, w / 33554432⟩
theorem partsOf_num (p : Pts) (h : p.Ok) : partsOf p.num = p := by
  obtain ⟨a, l, b, m, n, c⟩ := p
  obtain ⟨a0, a1, l0, l1, b0, b1, m0, m1, n0, n1, c0, c1⟩ := h
  unfold partsOf Pts.num
  dsimp only at *
  congr 1 <;> omega
theorem partsOf_ok (w : Int) (h0 : 0 ≤ w) (h1 : w < 4294967296) : (partsOf w).Ok := by
  unfold partsOf
  constructor <;> dsimp only <;> omega
theorem num_partsOf (w : Int) : (partsOf w).num = w := by
  unfold partsOf Pts.num
  dsimp only
  omega
theorem Pts.Ok.num {p : Pts} (h : p.Ok) : 0 ≤ p.num ∧ p.num < 4294967296 := by
  obtain ⟨a0, a1, l0, l1, b0, b1, m0, m1, n0, n1, c0, c1⟩ := h
  unfold Pts.num
  omega

/-- What an op settles: the lowest seven bits, the three, and the upper seven. -/
def sA (op : Nat) : Int := (setOf op % 128 : Nat)
def sB (op : Nat) : Int := (setOf op / 4096 % 8 : Nat)
def sC (op : Nat) : Int := (setOf op / 33554432 : Nat)

/-- A word's parts. -/
def wordQ (s : Nat) (A B C : Int) (x : Mi) : Pts :=
  match s with
  | 0 => ⟨A, x.rd, B, x.rs1, x.rs2, C⟩
  | 1 => ⟨A, x.rd, B, x.rs1, x.imm % 32, x.imm / 32 % 128⟩
  | 2 => ⟨A, x.rd, B, x.rs1, x.imm % 32, x.imm / 32 % 2 + C⟩
  | 3 => ⟨A, x.imm % 32, B, x.rs1, x.rs2, x.imm / 32 % 128⟩
  | 4 => ⟨A, x.imm / 2048 % 2 + 2 * (x.imm / 2 % 16), B, x.rs1, x.rs2, x.imm / 32 % 64 + 64 * (x.imm / 4096 % 2)⟩
  | 5 => ⟨A, x.rd, x.imm / 4096 % 8, x.imm / 32768 % 32, x.imm / 2048 % 2 + 2 * (x.imm / 2 % 16), x.imm / 32 % 64 + 64 * (x.imm / 1048576 % 2)⟩
  | 6 => ⟨A, x.rd, x.imm % 8, x.imm / 8 % 32, x.imm / 256 % 32, x.imm / 8192 % 128⟩
  | _ => ⟨A, 0, 0, 0, 0, 0⟩
def wordP (x : Mi) : Pts := wordQ (shOf x.op.toNat) (sA x.op.toNat) (sB x.op.toNat) (sC x.op.toNat) x
def wordI (x : Mi) : Int := (wordP x).num

/-- The number that stands in a word. -/
def immR (s : Nat) (p : Pts) : Int :=
  match s with
  | 1 => p.n + 32 * p.c
  | 2 => p.n + 32 * (p.c % 2)
  | 3 => p.l + 32 * p.c
  | 4 => (p.l % 2) * 2048 + (p.l / 2) * 2 + (p.c % 64) * 32 + (p.c / 64) * 4096
  | 5 => (p.b + 8 * p.m) * 4096 + (p.n % 2) * 2048 + (p.n / 2) * 2 + (p.c % 64) * 32 + (p.c / 64) * 1048576
  | 6 => p.b + 8 * p.m + 256 * p.n + 8192 * p.c
  | _ => 0
def immS (s : Nat) (p : Pts) : Int := if shF s 4 < immR s p then immR s p + 2 * shF s 3 else immR s p
/-- The instruction that stands in a word, if it has this op. -/
def instQ (s op : Nat) (p : Pts) : Mi :=
  ⟨op, if shF s 0 = 31 then p.l else 0, if shF s 1 = 31 then p.m else 0, if shF s 2 = 31 then p.n else 0, immS s p⟩
def instR (op : Nat) (p : Pts) : Mi := instQ (shOf op) op p
/-- Does a word have what an op settles? -/
def hitQ (s : Nat) (A B C : Int) (p : Pts) : Bool :=
  match s with
  | 0 => decide (p.a = A ∧ p.b = B ∧ p.c = C)
  | 2 => decide (p.a = A ∧ p.b = B ∧ p.c / 2 = C / 2)
  | 5 => decide (p.a = A)
  | 6 => decide (p.a = A)
  | 7 => decide (p.a = A ∧ p.l = 0 ∧ p.b = 0 ∧ p.m = 0 ∧ p.n = 0 ∧ p.c = 0)
  | _ => decide (p.a = A ∧ p.b = B)
def hitB (p : Pts) (op : Nat) : Bool := hitQ (shOf op) (sA op) (sB op) (sC op) p
/-- The first op from a place on that a word has. -/
def findOp (p : Pts) (op : Nat) : Option Nat := (List.range' op (30 - op)).find? (hitB p)
def zeroMi : Mi := ⟨0, 0, 0, 0, 0⟩
def decX (w : Int) : Mi := if w < 0 ∨ 4294967295 < w then zeroMi else match findOp (partsOf w) 1 with
  | none => zeroMi
  | some op => if fitsB (shOf op) (instR op (partsOf w)) = true then instR op (partsOf w) else zeroMi
def decE (w : Int) : Int := if w < 0 ∨ 4294967295 < w then 2 else match findOp (partsOf w) 1 with
  | none => 3
  | some op => if fitsB (shOf op) (instR op (partsOf w)) = true then 0 else 3

theorem ops29 {Q : Nat → Prop} (h : ∀ k : Fin 30, 1 ≤ k.val → Q k.val) (a : Nat) (h0 : 1 ≤ a) (h1 : a ≤ 29) : Q a := h ⟨a, by omega⟩ h0
theorem shOf_lt (op : Nat) (h0 : 1 ≤ op) (h1 : op ≤ 29) : shOf op < 8 := ops29 (Q := fun op => shOf op < 8) (by decide) op h0 h1

/-- An instruction that may be. -/
structure MiOk (x : Mi) : Prop where
  op1 : 1 ≤ x.op
  op2 : x.op ≤ 29
  fits : fitsB (shOf x.op.toNat) x = true
theorem MiOk.e {x : Mi} (h : MiOk x) : rvE x = 0 := by
  unfold rvE; rw [if_neg (by have := h.op1; have := h.op2; omega), if_pos h.fits]
theorem rvE_ok {x : Mi} (h : rvE x = 0) : MiOk x := by
  unfold rvE at h
  by_cases h1 : x.op < 1 ∨ 29 < x.op
  · rw [if_pos h1] at h; omega
  rw [if_neg h1] at h
  by_cases h2 : fitsB (shOf x.op.toNat) x = true
  · exact ⟨by omega, by omega, h2⟩
  · rw [if_neg h2] at h; omega

/-- What ops settle. -/
theorem settled_parts (op : Nat) (h0 : 1 ≤ op) (h1 : op ≤ 29) : (setOf op : Int) = sA op + 4096 * sB op + 33554432 * sC op ∧ 0 ≤ sA op ∧ sA op < 128 ∧ 0 ≤ sB op ∧ sB op < 8 ∧ 0 ≤ sC op ∧ sC op < 128 ∧ sA op % 4 = 3 ∧ (shOf op ≠ 0 → shOf op ≠ 2 → sC op = 0) ∧ (shOf op = 5 ∨ shOf op = 6 → sB op = 0) ∧ (shOf op = 7 → sA op = 115 ∧ sB op = 0) ∧ (shOf op = 2 → sC op % 2 = 0) :=
  ops29 (Q := fun op => (setOf op : Int) = sA op + 4096 * sB op + 33554432 * sC op ∧ 0 ≤ sA op ∧ sA op < 128 ∧ 0 ≤ sB op ∧ sB op < 8 ∧ 0 ≤ sC op ∧ sC op < 128 ∧ sA op % 4 = 3 ∧ (shOf op ≠ 0 → shOf op ≠ 2 → sC op = 0) ∧ (shOf op = 5 ∨ shOf op = 6 → sB op = 0) ∧ (shOf op = 7 → sA op = 115 ∧ sB op = 0) ∧ (shOf op = 2 → sC op % 2 = 0)) (by decide +kernel) op h0 h1
/-- No two ops settle the same bits so. -/
theorem settled_apart (a b : Nat) (a0 : 1 ≤ a) (a1 : a ≤ 29) (b0 : 1 ≤ b) (b1 : b ≤ 29) (h : a ≠ b) :
    sA a ≠ sA b ∨ (shOf a ≠ 5 ∧ shOf a ≠ 6 ∧ shOf b ≠ 5 ∧ shOf b ≠ 6 ∧ shOf a ≠ 7 ∧ shOf b ≠ 7 ∧ sB a ≠ sB b) ∨ (shOf a = 0 ∧ shOf b = 0 ∧ sC a ≠ sC b) := by
  have key : ∀ a b : Fin 30, 1 ≤ a.val → 1 ≤ b.val → a.val ≠ b.val → sA a ≠ sA b ∨ (shOf a ≠ 5 ∧ shOf a ≠ 6 ∧ shOf b ≠ 5 ∧ shOf b ≠ 6 ∧ shOf a ≠ 7 ∧ shOf b ≠ 7 ∧ sB a ≠ sB b) ∨ (shOf a = 0 ∧ shOf b = 0 ∧ sC a ≠ sC b) := by decide +kernel
  exact key ⟨a, by omega⟩ ⟨b, by omega⟩ a0 b0 h

/-- Fields' bounds. -/
theorem fits_iff (s : Nat) (x : Mi) : fitsB s x = true ↔ 0 ≤ x.rd ∧ x.rd ≤ shF s 0 ∧ 0 ≤ x.rs1 ∧ x.rs1 ≤ shF s 1 ∧ 0 ≤ x.rs2 ∧ x.rs2 ≤ shF s 2 ∧ shF s 3 ≤ x.imm ∧ x.imm ≤ shF s 4 ∧ x.imm.tmod (shF s 5) = 0 := by
  unfold fitsB; simp
theorem eight (s : Nat) (h : s < 8) : s = 0 ∨ s = 1 ∨ s = 2 ∨ s = 3 ∨ s = 4 ∨ s = 5 ∨ s = 6 ∨ s = 7 := by omega
theorem tmod4 (i : Int) (h : i.tmod 4 = 0) : i % 4 = 0 := by
  have := Int.dvd_of_tmod_eq_zero h
  omega
theorem tmod4' (i : Int) (h : i % 4 = 0) : i.tmod 4 = 0 := Int.tmod_eq_zero_of_dvd (by omega)

/-- An op that has this one's settled bits in a word is this one. -/
theorem hit_one (p : Pts) (a b : Nat) (a0 : 1 ≤ a) (a1 : a ≤ 29) (b0 : 1 ≤ b) (b1 : b ≤ 29) (ha : hitB p a = true) (hb : hitB p b = true) : a = b := by
  by_cases e : a = b
  · exact e
  exfalso
  have hs := shOf_lt a a0 a1
  have ht := shOf_lt b b0 b1
  have h := settled_apart a b a0 a1 b0 b1 e
  unfold hitB at ha hb
  unfold hitQ at ha hb
  generalize shOf a = s at *
  generalize shOf b = t at *
  rcases eight s hs with rfl | rfl | rfl | rfl | rfl | rfl | rfl | rfl <;> simp at ha <;> rcases eight t ht with rfl | rfl | rfl | rfl | rfl | rfl | rfl | rfl <;> simp at hb <;> omega
theorem find_hit (p : Pts) (a : Nat) (a0 : 1 ≤ a) (a1 : a ≤ 29) (ha : hitB p a = true) : findOp p 1 = some a := by
  unfold findOp
  cases h : (List.range' 1 (30 - 1)).find? (hitB p) with
  | none =>
    have := List.find?_eq_none.1 h a (by simp; omega)
    exact absurd ha this
  | some b =>
    have hb := List.find?_some h
    have hm := List.mem_of_find?_eq_some h
    simp at hm
    rw [hit_one p a b a0 a1 (by omega) (by omega) ha hb]
theorem find_some (p : Pts) (a : Nat) (h : findOp p 1 = some a) : 1 ≤ a ∧ a ≤ 29 ∧ hitB p a = true := by
  unfold findOp at h
  have hb := List.find?_some h
  have hm := List.mem_of_find?_eq_some h
  simp at hm
  exact ⟨by omega, by omega, hb⟩

/-- What holds of what an op settles. -/
structure Sett (s : Nat) (A B C : Int) : Prop where
  a0 : 0 ≤ A
  a1 : A < 128
  b0 : 0 ≤ B
  b1 : B < 8
  c0 : 0 ≤ C
  c1 : C < 128
  a3 : A % 4 = 3
  cz : s ≠ 0 → s ≠ 2 → C = 0
  bz : s = 5 ∨ s = 6 → B = 0
  e7 : s = 7 → A = 115 ∧ B = 0
  c2 : s = 2 → C % 2 = 0 ∧ C < 127
theorem sett_of (op : Nat) (h0 : 1 ≤ op) (h1 : op ≤ 29) : Sett (shOf op) (sA op) (sB op) (sC op) := by
  obtain ⟨p0, p1, p2, p3, p4, p5, p6, p7, p8, p9, p10, p11⟩ := settled_parts op h0 h1
  exact ⟨p1, p2, p3, p4, p5, p6, p7, p8, p9, p10, fun h => ⟨p11 h, by have := p11 h; omega⟩⟩

theorem made13 (i r2 r3 r4 r5 z : Int) (h : i = 2 * r2 + 32 * r3 + 2048 * r4 + 4096 * r5 + 8192 * z) (_h2 : 0 ≤ r2) (_k2 : r2 < 16) (_h3 : 0 ≤ r3) (_k3 : r3 < 64) (_h4 : 0 ≤ r4) (_k4 : r4 < 2) (_h5 : 0 ≤ r5) (_k5 : r5 < 2) :
    i / 2 % 16 = r2 ∧ i / 32 % 64 = r3 ∧ i / 2048 % 2 = r4 ∧ i / 4096 % 2 = r5 := by
  refine ⟨?_, ?_, ?_, ?_⟩ <;> omega
theorem made21 (i r2 r3 r4 r5 r6 r7 z : Int) (h : i = 2 * r2 + 32 * r3 + 2048 * r4 + 4096 * r5 + 32768 * r6 + 1048576 * r7 + 2097152 * z) (_h2 : 0 ≤ r2) (_k2 : r2 < 16) (_h3 : 0 ≤ r3) (_k3 : r3 < 64) (_h4 : 0 ≤ r4) (_k4 : r4 < 2) (_h5 : 0 ≤ r5) (_k5 : r5 < 8) (_h6 : 0 ≤ r6) (_k6 : r6 < 32) (_h7 : 0 ≤ r7) (_k7 : r7 < 2) :
    i / 2 % 16 = r2 ∧ i / 32 % 64 = r3 ∧ i / 2048 % 2 = r4 ∧ i / 4096 % 8 = r5 ∧ i / 32768 % 32 = r6 ∧ i / 1048576 % 2 = r7 := by
  refine ⟨?_, ?_, ?_, ?_, ?_, ?_⟩ <;> omega
theorem back13 (i : Int) (h0 : -4096 ≤ i) (h1 : i ≤ 4092) (h4 : i % 4 = 0) (r2 r3 r4 r5 : Int) (e2 : i / 2 % 16 = r2) (e3 : i / 32 % 64 = r3) (e4 : i / 2048 % 2 = r4) (e5 : i / 4096 % 2 = r5) :
    (if 4092 < r4 * 2048 + r2 * 2 + r3 * 32 + r5 * 4096 then r4 * 2048 + r2 * 2 + r3 * 32 + r5 * 4096 + -8192 else r4 * 2048 + r2 * 2 + r3 * 32 + r5 * 4096) = i := by
  have e : r4 * 2048 + r2 * 2 + r3 * 32 + r5 * 4096 = i - 8192 * (i / 8192) := by omega
  rw [e]
  split <;> omega
theorem back21 (i : Int) (h0 : -1048576 ≤ i) (h1 : i ≤ 1048572) (h4 : i % 4 = 0) (r2 r3 r4 r5 r6 r7 : Int) (e2 : i / 2 % 16 = r2) (e3 : i / 32 % 64 = r3) (e4 : i / 2048 % 2 = r4) (e5 : i / 4096 % 8 = r5) (e6 : i / 32768 % 32 = r6) (e7 : i / 1048576 % 2 = r7) :
    (if 1048572 < (r5 + 8 * r6) * 4096 + r4 * 2048 + r2 * 2 + r3 * 32 + r7 * 1048576 then (r5 + 8 * r6) * 4096 + r4 * 2048 + r2 * 2 + r3 * 32 + r7 * 1048576 + -2097152 else (r5 + 8 * r6) * 4096 + r4 * 2048 + r2 * 2 + r3 * 32 + r7 * 1048576) = i := by
  have e : (r5 + 8 * r6) * 4096 + r4 * 2048 + r2 * 2 + r3 * 32 + r7 * 1048576 = i - 2097152 * (i / 2097152) := by omega
  rw [e]
  split <;> omega
theorem chain20 (i : Int) : ∃ i1 i2 i3 i4 r1 r2 r3 r4 : Int, i = 8 * i1 + r1 ∧ i1 = 32 * i2 + r2 ∧ i2 = 32 * i3 + r3 ∧ i3 = 128 * i4 + r4 ∧
    0 ≤ r1 ∧ r1 < 8 ∧ 0 ≤ r2 ∧ r2 < 32 ∧ 0 ≤ r3 ∧ r3 < 32 ∧ 0 ≤ r4 ∧ r4 < 128 ∧ i % 8 = r1 ∧ i / 8 % 32 = r2 ∧ i / 256 % 32 = r3 ∧ i / 8192 % 128 = r4 :=
  ⟨i / 8, i / 256, i / 8192, i / 1048576, i % 8, i / 8 % 32, i / 256 % 32, i / 8192 % 128,
   by omega, by omega, by omega, by omega, by omega, by omega, by omega, by omega, by omega, by omega, by omega, by omega, rfl, rfl, rfl, rfl⟩

/-- A word's parts are parts, have what its op settles, and tell its instruction. -/
theorem word_partsQ (s : Nat) (hs : s < 8) (A B C : Int) (hS : Sett s A B C) (k : Nat) (x : Mi) (hk : x.op = (k : Int)) (hf : fitsB s x = true) :
    (wordQ s A B C x).Ok ∧ hitQ s A B C (wordQ s A B C x) = true ∧ instQ s k (wordQ s A B C x) = x := by
  obtain ⟨op, rd, rs1, rs2, imm⟩ := x
  dsimp only at hk
  subst hk
  rw [fits_iff] at hf
  obtain ⟨p1, p2, p3, p4, p5, p6, p7, p8, p9, p10, p11⟩ := hS
  rcases eight s hs with rfl | rfl | rfl | rfl | rfl | rfl | rfl | rfl <;> simp [shF, shL] at hf p8 p9 p10 p11 <;> unfold wordQ hitQ instQ <;> dsimp only
  · refine ⟨⟨?_, ?_, ?_, ?_, ?_, ?_, ?_, ?_, ?_, ?_, ?_, ?_⟩, ?_, ?_⟩ <;> first | omega | (simp [immS, immR, shF, shL]; done) | (simp [immS, immR, shF, shL]; omega) | (simp [immS, immR, shF, shL]; split <;> omega) | (simp [immS, immR, shF, shL]; refine ⟨by omega, ?_⟩; split <;> omega) | (simp [immS, immR, shF, shL]; refine ⟨by omega, by omega, ?_⟩; split <;> omega)
  · refine ⟨⟨?_, ?_, ?_, ?_, ?_, ?_, ?_, ?_, ?_, ?_, ?_, ?_⟩, ?_, ?_⟩ <;> first | omega | (simp [immS, immR, shF, shL]; done) | (simp [immS, immR, shF, shL]; omega) | (simp [immS, immR, shF, shL]; split <;> omega) | (simp [immS, immR, shF, shL]; refine ⟨by omega, ?_⟩; split <;> omega) | (simp [immS, immR, shF, shL]; refine ⟨by omega, by omega, ?_⟩; split <;> omega)
  · refine ⟨⟨?_, ?_, ?_, ?_, ?_, ?_, ?_, ?_, ?_, ?_, ?_, ?_⟩, ?_, ?_⟩ <;> first | omega | (simp [immS, immR, shF, shL]; done) | (simp [immS, immR, shF, shL]; omega) | (simp [immS, immR, shF, shL]; split <;> omega) | (simp [immS, immR, shF, shL]; refine ⟨by omega, ?_⟩; split <;> omega) | (simp [immS, immR, shF, shL]; refine ⟨by omega, by omega, ?_⟩; split <;> omega)
  · refine ⟨⟨?_, ?_, ?_, ?_, ?_, ?_, ?_, ?_, ?_, ?_, ?_, ?_⟩, ?_, ?_⟩ <;> first | omega | (simp [immS, immR, shF, shL]; done) | (simp [immS, immR, shF, shL]; omega) | (simp [immS, immR, shF, shL]; split <;> omega) | (simp [immS, immR, shF, shL]; refine ⟨by omega, ?_⟩; split <;> omega) | (simp [immS, immR, shF, shL]; refine ⟨by omega, by omega, ?_⟩; split <;> omega)
  · obtain ⟨f1, f2, f3, f4, f5, f6, f7, f8, f9⟩ := hf
    have f9 := tmod4 _ f9
    have hb := back13 imm f7 f8 f9 _ _ _ _ rfl rfl rfl rfl
    have g1 : (imm / 2048 % 2 + 2 * (imm / 2 % 16)) % 2 = imm / 2048 % 2 := by omega
    have g2 : (imm / 2048 % 2 + 2 * (imm / 2 % 16)) / 2 = imm / 2 % 16 := by omega
    have g3 : (imm / 32 % 64 + 64 * (imm / 4096 % 2)) % 64 = imm / 32 % 64 := by omega
    have g4 : (imm / 32 % 64 + 64 * (imm / 4096 % 2)) / 64 = imm / 4096 % 2 := by omega
    have ok : Pts.Ok ⟨A, imm / 2048 % 2 + 2 * (imm / 2 % 16), B, rs1, rs2, imm / 32 % 64 + 64 * (imm / 4096 % 2)⟩ := by
      clear hb g1 g2 g3 g4
      constructor <;> dsimp only <;> omega
    refine ⟨ok, by simp, ?_⟩
    have e5 : immS 4 ⟨A, imm / 2048 % 2 + 2 * (imm / 2 % 16), B, rs1, rs2, imm / 32 % 64 + 64 * (imm / 4096 % 2)⟩ = imm := by
      unfold immS immR
      dsimp only
      rw [g1, g2, g3, g4]
      exact hb
    exact Mi.ext' rfl (show (0 : Int) = rd by omega) rfl rfl e5
  · obtain ⟨f1, f2, f3, f4, f5, f6, f7, f8, f9⟩ := hf
    have f9 := tmod4 _ f9
    have hb := back21 imm f7 f8 f9 _ _ _ _ _ _ rfl rfl rfl rfl rfl rfl
    have g1 : (imm / 2048 % 2 + 2 * (imm / 2 % 16)) % 2 = imm / 2048 % 2 := by omega
    have g2 : (imm / 2048 % 2 + 2 * (imm / 2 % 16)) / 2 = imm / 2 % 16 := by omega
    have g3 : (imm / 32 % 64 + 64 * (imm / 1048576 % 2)) % 64 = imm / 32 % 64 := by omega
    have g4 : (imm / 32 % 64 + 64 * (imm / 1048576 % 2)) / 64 = imm / 1048576 % 2 := by omega
    have ok : Pts.Ok ⟨A, rd, imm / 4096 % 8, imm / 32768 % 32, imm / 2048 % 2 + 2 * (imm / 2 % 16), imm / 32 % 64 + 64 * (imm / 1048576 % 2)⟩ := by
      clear hb g1 g2 g3 g4
      constructor <;> dsimp only <;> omega
    refine ⟨ok, by simp, ?_⟩
    have e5 : immS 5 ⟨A, rd, imm / 4096 % 8, imm / 32768 % 32, imm / 2048 % 2 + 2 * (imm / 2 % 16), imm / 32 % 64 + 64 * (imm / 1048576 % 2)⟩ = imm := by
      unfold immS immR
      dsimp only
      rw [g1, g2, g3, g4]
      exact hb
    exact Mi.ext' rfl rfl (show (0 : Int) = rs1 by omega) (show (0 : Int) = rs2 by omega) e5
  · obtain ⟨i1, i2, i3, i4, r1, r2, r3, r4, c1, c2, c3, c4, c5, c6, c7, c8, c9, c10, c11, c12, e1, e2, e3, e4⟩ := chain20 imm
    rw [e1, e2, e3, e4]
    clear e1 e2 e3 e4
    refine ⟨⟨?_, ?_, ?_, ?_, ?_, ?_, ?_, ?_, ?_, ?_, ?_, ?_⟩, ?_, ?_⟩ <;> first | omega | (simp [immS, immR, shF, shL]; done) | (simp [immS, immR, shF, shL]; omega) | (simp [immS, immR, shF, shL]; split <;> omega) | (simp [immS, immR, shF, shL]; refine ⟨by omega, ?_⟩; split <;> omega) | (simp [immS, immR, shF, shL]; refine ⟨by omega, by omega, ?_⟩; split <;> omega)
  · refine ⟨⟨?_, ?_, ?_, ?_, ?_, ?_, ?_, ?_, ?_, ?_, ?_, ?_⟩, ?_, ?_⟩ <;> first | omega | (simp [immS, immR, shF, shL]; done) | (simp [immS, immR, shF, shL]; omega) | (simp [immS, immR, shF, shL]; split <;> omega) | (simp [immS, immR, shF, shL]; refine ⟨by omega, ?_⟩; split <;> omega) | (simp [immS, immR, shF, shL]; refine ⟨by omega, by omega, ?_⟩; split <;> omega)
theorem word_parts (x : Mi) (h : MiOk x) : (wordP x).Ok ∧ hitB (wordP x) x.op.toNat = true ∧ instR x.op.toNat (wordP x) = x :=
  word_partsQ _ (shOf_lt _ (by have := h.op1; omega) (by have := h.op2; omega)) _ _ _ (sett_of _ (by have := h.op1; omega) (by have := h.op2; omega)) _ x (by have := h.op1; omega) h.fits

/-- A word's instruction has this word. -/
theorem parts_wordQ (s : Nat) (hs : s < 8) (A B C : Int) (hS : Sett s A B C) (k : Nat) (p : Pts) (hp : p.Ok) (hh : hitQ s A B C p = true) (hf : fitsB s (instQ s k p) = true) : wordQ s A B C (instQ s k p) = p := by
  obtain ⟨a, l, b, m, n, c⟩ := p
  obtain ⟨a0, a1, l0, l1, b0, b1, m0, m1, n0, n1, c0, c1⟩ := hp
  dsimp only at *
  obtain ⟨p1, p2, p3, p4, p5, p6, p7, p8, p9, p10, p11⟩ := hS
  rw [fits_iff] at hf
  rcases eight s hs with rfl | rfl | rfl | rfl | rfl | rfl | rfl | rfl <;> simp at p8 p9 p10 p11 <;> unfold hitQ at hh <;> simp at hh
  · simp [wordQ, instQ, shF, shL]; omega
  · simp [instQ, shF, shL, immS, immR] at hf; simp [wordQ, instQ, shF, shL, immS, immR]; omega
  · simp [instQ, shF, shL, immS, immR] at hf; simp [wordQ, instQ, shF, shL, immS, immR]; omega
  · simp [instQ, shF, shL, immS, immR] at hf; simp [wordQ, instQ, shF, shL, immS, immR]; omega
  · have hi : ∃ z, immS 4 ⟨a, l, b, m, n, c⟩ = 2 * (l / 2) + 32 * (c % 64) + 2048 * (l % 2) + 4096 * (c / 64) + 8192 * z := by
      unfold immS immR
      simp only [shF, shL]
      split
      · exact ⟨-1, by simp; omega⟩
      · exact ⟨0, by omega⟩
    obtain ⟨z, hz⟩ := hi
    obtain ⟨g1, g2, g3, g4⟩ := made13 _ _ _ _ _ z hz (by omega) (by omega) (by omega) (by omega) (by omega) (by omega) (by omega) (by omega)
    simp only [wordQ, instQ, g1, g2, g3, g4]
    simp [shF, shL]
    omega
  · have hi : ∃ z, immS 5 ⟨a, l, b, m, n, c⟩ = 2 * (n / 2) + 32 * (c % 64) + 2048 * (n % 2) + 4096 * b + 32768 * m + 1048576 * (c / 64) + 2097152 * z := by
      unfold immS immR
      simp only [shF, shL]
      split
      · exact ⟨-1, by simp; omega⟩
      · exact ⟨0, by omega⟩
    obtain ⟨z, hz⟩ := hi
    obtain ⟨g1, g2, g3, g4, g5, g6⟩ := made21 _ _ _ _ _ _ _ z hz (by omega) (by omega) (by omega) (by omega) (by omega) (by omega) (by omega) (by omega) (by omega) (by omega) (by omega) (by omega)
    simp only [wordQ, instQ, g1, g2, g3, g4, g5, g6]
    simp [shF, shL]
    omega
  · simp [instQ, shF, shL, immS, immR] at hf; simp [wordQ, instQ, shF, shL, immS, immR]
    split <;> omega
  · simp [wordQ]; omega

end Go.Proofs.YtgdmdlkhnokieaaDoor

/- A machine as plain data, and what a step makes of it. No program is walked. -/
namespace Go.Proofs.YtgdmdlkhnokieaaDoor
open Go Go.RowKit

/-- A machine. -/
structure Cp where
  regs : List Int
  pc : Int
  data : List Int
  halted : Bool
structure Cp.Ok (c : Cp) : Prop where
  r : c.regs.length = 32
  d : c.data.length = 64
/-- What an op of the machine makes of two numbers. -/
def mdC (op a b : Int) : Int :=
  if op = 1 ∨ op = 12 then wrap64 (a + b) else if op = 2 then wrap64 (a - b) else if op = 3 then wrap64 (a * b)
  else if op = 4 then (if b = 0 then -1 else wrap64 (a.tdiv b)) else if op = 5 ∨ op = 13 then bits .and .i64 a b
  else if op = 6 ∨ op = 14 then bits .or .i64 a b else if op = 7 ∨ op = 15 then bits .xor .i64 a b
  else if op = 8 ∨ op = 18 then wrap64 (a * 2 ^ (b % 64).toNat) else if op = 9 ∨ op = 19 then a / 2 ^ (b % 64).toNat
  else if op = 10 ∨ op = 16 then (if a < b then 1 else 0) else (if a % 18446744073709551616 < b % 18446744073709551616 then 1 else 0)
def snd (x : Mi) (b : Int) : Int := if 12 ≤ x.op then x.imm else b
/-- Is it the address of a word? -/
def isW (t : Int) : Bool := decide (0 ≤ t ∧ t < 512 ∧ t % 8 = 0)
def holdsB (op a b : Int) : Bool := if op = 22 then decide (a = b) else if op = 23 then decide (a ≠ b) else if op = 24 then decide (a < b) else decide (b ≤ a)
def Cp.reg (c : Cp) (r : Int) : Int := c.regs.getD r.toNat 0
def Cp.put (c : Cp) (r v : Int) : Cp := { c with regs := if r = 0 then c.regs else c.regs.set r.toNat v }
def Cp.go (c : Cp) (p : Int) : Cp := { c with pc := p }
def Cp.word (c : Cp) (t : Int) : Int := c.data.getD (t / 8).toNat 0
def Cp.keep (c : Cp) (t v : Int) : Cp := { c with data := c.data.set (t / 8).toNat v }
def Cp.stop (c : Cp) : Cp := { c with halted := true }
/-- An address without its lowest bit. -/
def adJ (t : Int) : Int := t - t % 2
/-- Whether an instruction is refused. -/
def doE (x : Mi) (a : Int) : Int :=
  if x.op = 20 ∨ x.op = 21 then (if isW (wrap64 (a + x.imm)) = true then 0 else 2)
  else if x.op = 27 then (if adJ (wrap64 (a + x.imm)) % 4 = 0 then 0 else 5) else 0
/-- What an instruction makes of a machine. -/
def doC (x : Mi) (a b : Int) (c : Cp) : Cp :=
  if x.op = 20 then (if isW (wrap64 (a + x.imm)) = true then (c.put x.rd (c.word (wrap64 (a + x.imm)))).go (c.pc + 1) else c)
  else if x.op = 21 then (if isW (wrap64 (a + x.imm)) = true then (c.keep (wrap64 (a + x.imm)) b).go (c.pc + 1) else c)
  else if x.op = 26 then (c.put x.rd ((c.pc + 1) * 4)).go (c.pc + x.imm.tdiv 4)
  else if x.op = 27 then (if adJ (wrap64 (a + x.imm)) % 4 = 0 then (c.put x.rd ((c.pc + 1) * 4)).go ((adJ (wrap64 (a + x.imm))) / 4) else c)
  else if x.op = 28 then (c.put x.rd (x.imm * 4096)).go (c.pc + 1)
  else if x.op = 29 then c.stop
  else if 22 ≤ x.op ∧ x.op ≤ 25 then c.go (if holdsB x.op a b = true then c.pc + x.imm.tdiv 4 else c.pc + 1)
  else (c.put x.rd (mdC x.op a (snd x b))).go (c.pc + 1)
theorem Cp.Ok.put {c : Cp} (h : c.Ok) (r v : Int) : (c.put r v).Ok := ⟨by unfold Cp.put; dsimp only; split <;> simp [h.r], h.d⟩
theorem Cp.Ok.go {c : Cp} (h : c.Ok) (p : Int) : (c.go p).Ok := ⟨h.r, h.d⟩
theorem Cp.Ok.keep {c : Cp} (h : c.Ok) (t v : Int) : (c.keep t v).Ok := ⟨h.r, by simp [Cp.keep, h.d]⟩
theorem Cp.Ok.stop {c : Cp} (h : c.Ok) : c.stop.Ok := ⟨h.r, h.d⟩
theorem Cp.Ok.doC {c : Cp} (h : c.Ok) (x : Mi) (a b : Int) : (doC x a b c).Ok := by
  unfold Go.Proofs.YtgdmdlkhnokieaaDoor.doC
  repeat' split
  all_goals first | exact h | exact h.stop | exact (h.put _ _).go _ | exact (h.keep _ _).go _ | exact h.go _

/-- Whether a step is refused, and what it makes. -/
def stepE (ws : List Int) (c : Cp) : Int :=
  if c.pc < 0 ∨ (ws.length : Int) ≤ c.pc then 8 else if decE (ws.getD c.pc.toNat 0) = 0 then doE (decX (ws.getD c.pc.toNat 0)) (c.reg (decX (ws.getD c.pc.toNat 0)).rs1) else 3
def stepC (ws : List Int) (c : Cp) : Cp :=
  doC (decX (ws.getD c.pc.toNat 0)) (c.reg (decX (ws.getD c.pc.toNat 0)).rs1) (c.reg (decX (ws.getD c.pc.toNat 0)).rs2) c
def noRegs : List Int := List.replicate 32 0
def noData : List Int := List.replicate 64 0
def zeroCp : Cp := ⟨noRegs, 0, noData, false⟩
/-- A run: with so many steps left, behind so many. -/
def runA (ws : List Int) : Nat → Nat → Cp → Cp × Int × Int
  | 0, k, c => if c.halted = true then (c, (k : Int), 0) else (zeroCp, 0, 10)
  | n + 1, k, c => if c.halted = true then (c, (k : Int), 0) else if stepE ws c = 0 then runA ws n (k + 1) (stepC ws c) else (zeroCp, 0, stepE ws c)
def Cp.begun (c : Cp) : Cp := { c with regs := c.regs.set 0 0 }
theorem Cp.Ok.begun {c : Cp} (h : c.Ok) : c.begun.Ok := ⟨by simp [Cp.begun, h.r], h.d⟩
def runAns (ws : List Int) (c : Cp) (most : Int) : Cp × Int × Int :=
  if 32768 < ws.length then (zeroCp, 0, 1) else if most < 0 ∨ 4000000 < most then (zeroCp, 0, 2) else runA ws most.toNat 0 c.begun
def stepAns (ws : List Int) (c : Cp) : Cp × Int :=
  if 32768 < ws.length then (zeroCp, 1) else if c.halted = true then (c.begun, 0) else if stepE ws c.begun = 0 then (stepC ws c.begun, 0) else (zeroCp, stepE ws c.begun)
theorem zero_ok : zeroCp.Ok := ⟨rfl, rfl⟩
end Go.Proofs.YtgdmdlkhnokieaaDoor

/- A machine's cells, as a value and in a box; two machines compared. -/
namespace Go.Proofs.YtgdmdlkhnokieaaDoor
open Go Go.RowKit

def cpuCells (c : Cp) : List Value := i64s c.regs ++ (.int .i64 c.pc :: (i64s c.data ++ [.bool c.halted]))
def Cp.val (c : Cp) : Value := .agg (cpuCells c).toArray
theorem cp_len {c : Cp} (h : c.Ok) : (cpuCells c).length = 98 := by simp [cpuCells, i64s, h.r, h.d]
theorem cons_of {l : List Int} {n : Nat} (h : l.length = n + 1) : ∃ a l', l = a :: l' ∧ l'.length = n := by
  cases l with
  | nil => simp at h
  | cons a l' => exact ⟨a, l', rfl, by simpa using h⟩
theorem list32 {l : List Int} (h : l.length = 32) : ∃ r0 r1 r2 r3 r4 r5 r6 r7 r8 r9 r10 r11 r12 r13 r14 r15 r16 r17 r18 r19 r20 r21 r22 r23 r24 r25 r26 r27 r28 r29 r30 r31, l = [r0, r1, r2, r3, r4, r5, r6, r7, r8, r9, r10, r11, r12, r13, r14, r15, r16, r17, r18, r19, r20, r21, r22, r23, r24, r25, r26, r27, r28, r29, r30, r31] := by
  obtain ⟨r0, lr0, hr0, kr0⟩ := cons_of h
  obtain ⟨r1, lr1, hr1, kr1⟩ := cons_of kr0
  obtain ⟨r2, lr2, hr2, kr2⟩ := cons_of kr1
  obtain ⟨r3, lr3, hr3, kr3⟩ := cons_of kr2
  obtain ⟨r4, lr4, hr4, kr4⟩ := cons_of kr3
  obtain ⟨r5, lr5, hr5, kr5⟩ := cons_of kr4
  obtain ⟨r6, lr6, hr6, kr6⟩ := cons_of kr5
  obtain ⟨r7, lr7, hr7, kr7⟩ := cons_of kr6
  obtain ⟨r8, lr8, hr8, kr8⟩ := cons_of kr7
  obtain ⟨r9, lr9, hr9, kr9⟩ := cons_of kr8
  obtain ⟨r10, lr10, hr10, kr10⟩ := cons_of kr9
  obtain ⟨r11, lr11, hr11, kr11⟩ := cons_of kr10
  obtain ⟨r12, lr12, hr12, kr12⟩ := cons_of kr11
  obtain ⟨r13, lr13, hr13, kr13⟩ := cons_of kr12
  obtain ⟨r14, lr14, hr14, kr14⟩ := cons_of kr13
  obtain ⟨r15, lr15, hr15, kr15⟩ := cons_of kr14
  obtain ⟨r16, lr16, hr16, kr16⟩ := cons_of kr15
  obtain ⟨r17, lr17, hr17, kr17⟩ := cons_of kr16
  obtain ⟨r18, lr18, hr18, kr18⟩ := cons_of kr17
  obtain ⟨r19, lr19, hr19, kr19⟩ := cons_of kr18
  obtain ⟨r20, lr20, hr20, kr20⟩ := cons_of kr19
  obtain ⟨r21, lr21, hr21, kr21⟩ := cons_of kr20
  obtain ⟨r22, lr22, hr22, kr22⟩ := cons_of kr21
  obtain ⟨r23, lr23, hr23, kr23⟩ := cons_of kr22
  obtain ⟨r24, lr24, hr24, kr24⟩ := cons_of kr23
  obtain ⟨r25, lr25, hr25, kr25⟩ := cons_of kr24
  obtain ⟨r26, lr26, hr26, kr26⟩ := cons_of kr25
  obtain ⟨r27, lr27, hr27, kr27⟩ := cons_of kr26
  obtain ⟨r28, lr28, hr28, kr28⟩ := cons_of kr27
  obtain ⟨r29, lr29, hr29, kr29⟩ := cons_of kr28
  obtain ⟨r30, lr30, hr30, kr30⟩ := cons_of kr29
  obtain ⟨r31, lr31, hr31, kr31⟩ := cons_of kr30
  obtain rfl : lr31 = [] := List.length_eq_zero_iff.1 kr31
  subst hr31
  subst hr30
  subst hr29
  subst hr28
  subst hr27
  subst hr26
  subst hr25
  subst hr24
  subst hr23
  subst hr22
  subst hr21
  subst hr20
  subst hr19
  subst hr18
  subst hr17
  subst hr16
  subst hr15
  subst hr14
  subst hr13
  subst hr12
  subst hr11
  subst hr10
  subst hr9
  subst hr8
  subst hr7
  subst hr6
  subst hr5
  subst hr4
  subst hr3
  subst hr2
  subst hr1
  subst hr0
  exact ⟨r0, r1, r2, r3, r4, r5, r6, r7, r8, r9, r10, r11, r12, r13, r14, r15, r16, r17, r18, r19, r20, r21, r22, r23, r24, r25, r26, r27, r28, r29, r30, r31, rfl⟩
theorem list64 {l : List Int} (h : l.length = 64) : ∃ d0 d1 d2 d3 d4 d5 d6 d7 d8 d9 d10 d11 d12 d13 d14 d15 d16 d17 d18 d19 d20 d21 d22 d23 d24 d25 d26 d27 d28 d29 d30 d31 d32 d33 d34 d35 d36 d37 d38 d39 d40 d41 d42 d43 d44 d45 d46 d47 d48 d49 d50 d51 d52 d53 d54 d55 d56 d57 d58 d59 d60 d61 d62 d63, l = [d0, d1, d2, d3, d4, d5, d6, d7, d8, d9, d10, d11, d12, d13, d14, d15, d16, d17, d18, d19, d20, d21, d22, d23, d24, d25, d26, d27, d28, d29, d30, d31, d32, d33, d34, d35, d36, d37, d38, d39, d40, d41, d42, d43, d44, d45, d46, d47, d48, d49, d50, d51, d52, d53, d54, d55, d56, d57, d58, d59, d60, d61, d62, d63] := by
  obtain ⟨d0, ld0, hd0, kd0⟩ := cons_of h
  obtain ⟨d1, ld1, hd1, kd1⟩ := cons_of kd0
  obtain ⟨d2, ld2, hd2, kd2⟩ := cons_of kd1
  obtain ⟨d3, ld3, hd3, kd3⟩ := cons_of kd2
  obtain ⟨d4, ld4, hd4, kd4⟩ := cons_of kd3
  obtain ⟨d5, ld5, hd5, kd5⟩ := cons_of kd4
  obtain ⟨d6, ld6, hd6, kd6⟩ := cons_of kd5
  obtain ⟨d7, ld7, hd7, kd7⟩ := cons_of kd6
  obtain ⟨d8, ld8, hd8, kd8⟩ := cons_of kd7
  obtain ⟨d9, ld9, hd9, kd9⟩ := cons_of kd8
  obtain ⟨d10, ld10, hd10, kd10⟩ := cons_of kd9
  obtain ⟨d11, ld11, hd11, kd11⟩ := cons_of kd10
  obtain ⟨d12, ld12, hd12, kd12⟩ := cons_of kd11
  obtain ⟨d13, ld13, hd13, kd13⟩ := cons_of kd12
  obtain ⟨d14, ld14, hd14, kd14⟩ := cons_of kd13
  obtain ⟨d15, ld15, hd15, kd15⟩ := cons_of kd14
  obtain ⟨d16, ld16, hd16, kd16⟩ := cons_of kd15
  obtain ⟨d17, ld17, hd17, kd17⟩ := cons_of kd16
  obtain ⟨d18, ld18, hd18, kd18⟩ := cons_of kd17
  obtain ⟨d19, ld19, hd19, kd19⟩ := cons_of kd18
  obtain ⟨d20, ld20, hd20, kd20⟩ := cons_of kd19
  obtain ⟨d21, ld21, hd21, kd21⟩ := cons_of kd20
  obtain ⟨d22, ld22, hd22, kd22⟩ := cons_of kd21
  obtain ⟨d23, ld23, hd23, kd23⟩ := cons_of kd22
  obtain ⟨d24, ld24, hd24, kd24⟩ := cons_of kd23
  obtain ⟨d25, ld25, hd25, kd25⟩ := cons_of kd24
  obtain ⟨d26, ld26, hd26, kd26⟩ := cons_of kd25
  obtain ⟨d27, ld27, hd27, kd27⟩ := cons_of kd26
  obtain ⟨d28, ld28, hd28, kd28⟩ := cons_of kd27
  obtain ⟨d29, ld29, hd29, kd29⟩ := cons_of kd28
  obtain ⟨d30, ld30, hd30, kd30⟩ := cons_of kd29
  obtain ⟨d31, ld31, hd31, kd31⟩ := cons_of kd30
  obtain ⟨d32, ld32, hd32, kd32⟩ := cons_of kd31
  obtain ⟨d33, ld33, hd33, kd33⟩ := cons_of kd32
  obtain ⟨d34, ld34, hd34, kd34⟩ := cons_of kd33
  obtain ⟨d35, ld35, hd35, kd35⟩ := cons_of kd34
  obtain ⟨d36, ld36, hd36, kd36⟩ := cons_of kd35
  obtain ⟨d37, ld37, hd37, kd37⟩ := cons_of kd36
  obtain ⟨d38, ld38, hd38, kd38⟩ := cons_of kd37
  obtain ⟨d39, ld39, hd39, kd39⟩ := cons_of kd38
  obtain ⟨d40, ld40, hd40, kd40⟩ := cons_of kd39
  obtain ⟨d41, ld41, hd41, kd41⟩ := cons_of kd40
  obtain ⟨d42, ld42, hd42, kd42⟩ := cons_of kd41
  obtain ⟨d43, ld43, hd43, kd43⟩ := cons_of kd42
  obtain ⟨d44, ld44, hd44, kd44⟩ := cons_of kd43
  obtain ⟨d45, ld45, hd45, kd45⟩ := cons_of kd44
  obtain ⟨d46, ld46, hd46, kd46⟩ := cons_of kd45
  obtain ⟨d47, ld47, hd47, kd47⟩ := cons_of kd46
  obtain ⟨d48, ld48, hd48, kd48⟩ := cons_of kd47
  obtain ⟨d49, ld49, hd49, kd49⟩ := cons_of kd48
  obtain ⟨d50, ld50, hd50, kd50⟩ := cons_of kd49
  obtain ⟨d51, ld51, hd51, kd51⟩ := cons_of kd50
  obtain ⟨d52, ld52, hd52, kd52⟩ := cons_of kd51
  obtain ⟨d53, ld53, hd53, kd53⟩ := cons_of kd52
  obtain ⟨d54, ld54, hd54, kd54⟩ := cons_of kd53
  obtain ⟨d55, ld55, hd55, kd55⟩ := cons_of kd54
  obtain ⟨d56, ld56, hd56, kd56⟩ := cons_of kd55
  obtain ⟨d57, ld57, hd57, kd57⟩ := cons_of kd56
  obtain ⟨d58, ld58, hd58, kd58⟩ := cons_of kd57
  obtain ⟨d59, ld59, hd59, kd59⟩ := cons_of kd58
  obtain ⟨d60, ld60, hd60, kd60⟩ := cons_of kd59
  obtain ⟨d61, ld61, hd61, kd61⟩ := cons_of kd60
  obtain ⟨d62, ld62, hd62, kd62⟩ := cons_of kd61
  obtain ⟨d63, ld63, hd63, kd63⟩ := cons_of kd62
  obtain rfl : ld63 = [] := List.length_eq_zero_iff.1 kd63
  subst hd63
  subst hd62
  subst hd61
  subst hd60
  subst hd59
  subst hd58
  subst hd57
  subst hd56
  subst hd55
  subst hd54
  subst hd53
  subst hd52
  subst hd51
  subst hd50
  subst hd49
  subst hd48
  subst hd47
  subst hd46
  subst hd45
  subst hd44
  subst hd43
  subst hd42
  subst hd41
  subst hd40
  subst hd39
  subst hd38
  subst hd37
  subst hd36
  subst hd35
  subst hd34
  subst hd33
  subst hd32
  subst hd31
  subst hd30
  subst hd29
  subst hd28
  subst hd27
  subst hd26
  subst hd25
  subst hd24
  subst hd23
  subst hd22
  subst hd21
  subst hd20
  subst hd19
  subst hd18
  subst hd17
  subst hd16
  subst hd15
  subst hd14
  subst hd13
  subst hd12
  subst hd11
  subst hd10
  subst hd9
  subst hd8
  subst hd7
  subst hd6
  subst hd5
  subst hd4
  subst hd3
  subst hd2
  subst hd1
  subst hd0
  exact ⟨d0, d1, d2, d3, d4, d5, d6, d7, d8, d9, d10, d11, d12, d13, d14, d15, d16, d17, d18, d19, d20, d21, d22, d23, d24, d25, d26, d27, d28, d29, d30, d31, d32, d33, d34, d35, d36, d37, d38, d39, d40, d41, d42, d43, d44, d45, d46, d47, d48, d49, d50, d51, d52, d53, d54, d55, d56, d57, d58, d59, d60, d61, d62, d63, rfl⟩
theorem all_one (l : List Value) (h : ∀ u ∈ l, u.oneCell' = true) : l.toArray.all (·.oneCell') = true := by
  rw [Array.all_eq_true_iff_forall_mem]
  intro u hu
  exact h u (by simpa using hu)
theorem cp_one (c : Cp) : (cpuCells c).toArray.all (·.oneCell') = true := by
  refine all_one _ fun u hu => ?_
  simp only [cpuCells, List.mem_append, List.mem_cons, List.not_mem_nil, or_false] at hu
  rcases hu with hu | rfl | hu | rfl
  · exact i64s_one _ u hu
  · rfl
  · exact i64s_one _ u hu
  · rfl
theorem range_of_row {w : World} {g t : Nat} {l : List Value} (h : w.heap[g]? = some (.cells l.toArray t (0, 0))) (o : Nat) (cs : List Value) (hc : ∀ j u, cs[j]? = some u → l[o + j]? = some u) : w.rangeAt g o cs := by
  intro j u hu
  rw [cell_of_row _ _ _ _ _ _ h, List.getElem?_toArray]
  exact hc j u hu
theorem cp_regs {c : Cp} (_h : c.Ok) (j : Nat) (u : Value) (hu : (i64s c.regs)[j]? = some u) : (cpuCells c)[0 + j]? = some u := by
  have hj : j < (i64s c.regs).length := (List.getElem?_eq_some_iff.1 hu).1
  unfold cpuCells
  rw [Nat.zero_add, List.getElem?_append_left hj]; exact hu
theorem cp_data {c : Cp} (h : c.Ok) (j : Nat) (u : Value) (hu : (i64s c.data)[j]? = some u) : (cpuCells c)[33 + j]? = some u := by
  have hj : j < (i64s c.data).length := (List.getElem?_eq_some_iff.1 hu).1
  unfold cpuCells
  rw [List.getElem?_append_right (by simp [i64s, h.r]; omega)]
  rw [show 33 + j - (i64s c.regs).length = j + 1 by simp [i64s, h.r]; omega, List.getElem?_cons_succ, List.getElem?_append_left hj]; exact hu
theorem cp_pc {c : Cp} (h : c.Ok) : (cpuCells c)[32]? = some (.int .i64 c.pc) := by
  unfold cpuCells
  rw [List.getElem?_append_right (by simp [i64s, h.r])]
  simp [i64s, h.r]
theorem cp_halt {c : Cp} (h : c.Ok) : (cpuCells c)[97]? = some (.bool c.halted) := by
  unfold cpuCells
  rw [List.getElem?_append_right (by simp [i64s, h.r]), show 97 - (i64s c.regs).length = 64 + 1 by simp [i64s, h.r], List.getElem?_cons_succ, List.getElem?_append_right (by simp [i64s, h.d])]
  simp [i64s, h.d]
theorem wpList_build_to {P : Program} {ops : Array Oper} {rest : List Oper} {o : Oper} {a : Act} {w : World} {Q : Exit → Act → World → Prop} (hg : o.guard = none) (t : TypeId) (parts : Array (Nat × Operand)) (ho : o.op = .build t parts) (cs : Array Value)
    (hf : P.built t (parts.map fun (i, x) => (i, a.eval x)).toList = some cs) (h : wpList P ops Q rest (a.put o.dst (.agg cs)) w) : wpList P ops Q (o :: rest) a w := by
  refine wpList_build hg t parts ho (by rw [hf]; rfl) ?_
  rw [hf]
  exact h
theorem yieldsIf_build_to {P : Program} {ops : Array Oper} {S : World → Prop} {o : Oper} {a : Act} (hw : Region.wanted o (yielded ops a.tmps) = true) (t : TypeId) (parts : Array (Nat × Operand)) (ho : o.op = .build t parts) (cs : Array Value)
    (hf : P.built t (parts.map fun (i, x) => (i, a.eval x)).toList = some cs) : YieldsIf P ops S o (.agg cs) a :=
  .inl ⟨hw, fun w _ => by
    unfold execOp
    simp only [ho, Sem.run_bind, run_build (P := P) w t _ cs hf, Result.andThen_ok]
    rfl⟩
/-- A register is set from outside. -/
def Cp.set (c : Cp) (r v : Int) : Cp := { c with regs := c.regs.set r.toNat v }
theorem Cp.Ok.set {c : Cp} (h : c.Ok) (r v : Int) : (c.set r v).Ok := ⟨by simp [Cp.set, h.r], h.d⟩
theorem zset {c : Cp} (h : c.Ok) (r : Nat) (hr : r < 32) (v : Int) : (cpuCells c).toArray.setIfInBounds r (.int .i64 v) = (cpuCells (c.set r v)).toArray := by
  rw [List.setIfInBounds_toArray]
  have : (cpuCells c).set r (.int .i64 v) = cpuCells (c.set r v) := by
    unfold cpuCells Cp.set
    rw [List.set_append_left _ _ (by simp [i64s, h.r]; omega)]
    simp [i64s, List.map_set]
  rw [this]
/-- A word of the data. -/
def Cp.setD (c : Cp) (i : Nat) (v : Int) : Cp := { c with data := c.data.set i v }
theorem Cp.Ok.setD {c : Cp} (h : c.Ok) (i : Nat) (v : Int) : (c.setD i v).Ok := ⟨h.r, by simp [Cp.setD, h.d]⟩
end Go.Proofs.YtgdmdlkhnokieaaDoor

/- Two machines that are the same, compared by '=='; the document's machineMade and taken. -/
namespace Go.Proofs.YtgdmdlkhnokieaaDoor
open Go Go.RowKit

theorem plain_int_cp : Tryd.prog.plainKey 3 = true := by kernel_rfl
theorem plain_bool_cp : Tryd.prog.plainKey 4 = true := by kernel_rfl
theorem cells_int_cp : Tryd.prog.cellsOf 3 = 1 := by kernel_rfl
theorem equal_items_cp (d : Nat) (l : List Int) (w : World) : ∀ is : List Nat, (∀ i ∈ is, i < l.length) → (Op.eqItems (d + 1) 3 1 (i64s l).toArray (i64s l).toArray is).run Tryd.prog w = .ok true w := by
  intro is
  induction is with
  | nil => intro _; simp [Op.eqItems]
  | cons i is ih =>
    intro h
    have hi : i < l.length := h i (List.mem_cons_self)
    have hg : (i64s l).toArray[i * 1]? = some (.int .i64 l[i]) := by simp [i64s, hi]
    simp only [Op.eqItems, Sem.run_bind, run_part_plain w plain_int_cp hg, Result.andThen_ok, run_equalIn_int w d 3 .i64 .i64 l[i] l[i] Tryd.underlying3]
    simp
    exact ih (fun j hj => h j (List.mem_cons_of_mem _ hj))
theorem equal_ints_cp (t : TypeId) (l : List Int) (d : Nat) (w : World) (hu : Tryd.prog.underlying t = some (.array l.length 3)) : (Op.equalIn (d + 2) t (.agg (i64s l).toArray) (.agg (i64s l).toArray)).run Tryd.prog w = .ok true w := by
  obtain ⟨i, hi, _⟩ := info_parts info64
  rw [run_equalIn_array w (d + 1) _ _ hu hi, cells_int_cp]
  exact equal_items_cp d l w _ (fun j hj => by simpa using hj)
theorem run_part_row {e e' : TypeId} {n : Nat} {i : TypeInfo} (w : World) (xs : Array Value) (off : Nat) (hu : Tryd.prog.underlying e = some (.array n e')) (hi : Tryd.prog.info? e = some i) : (part e xs off).run Tryd.prog w = .ok (.agg (xs.extract off (off + Tryd.prog.cellsOf e))) w := by
  simp [part, isAgg, run_underlying hu, run_sizeOf w hi]
theorem ext_regs {c : Cp} (h : c.Ok) : (cpuCells c).toArray.extract 0 32 = (i64s c.regs).toArray := by
  rw [List.extract_toArray]
  congr 1
  unfold cpuCells
  simp [List.extract, i64s, h.r]
theorem ext_data {c : Cp} (h : c.Ok) : (cpuCells c).toArray.extract 33 97 = (i64s c.data).toArray := by
  rw [List.extract_toArray]
  congr 1
  unfold cpuCells
  simp [List.extract, i64s, List.drop_append, h.r]
  rw [List.drop_eq_nil_of_le (by simp [h.r])]
  simp [h.d]
end Go.Proofs.YtgdmdlkhnokieaaDoor
