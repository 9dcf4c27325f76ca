/- Instructions of the machine as plain data: what may be, words as sums, what a word tells. No program is named. -/
import Derived.Test.YtapjfiihfgndeaaDoorBits
namespace Go.Proofs.YtapjfiihfgndeaaDoor
open Go Go.RowKit

/-- An instruction of the machine. -/
structure Mi where
  op : Int
  rd : Int
  rs1 : Int
  rs2 : Int
  imm : Int
theorem Mi.ext' {x y : Mi} (h0 : x.op = y.op) (h1 : x.rd = y.rd) (h2 : x.rs1 = y.rs1) (h3 : x.rs2 = y.rs2) (h4 : x.imm = y.imm) : x = y := by
  cases x; cases y; simp_all
def Mi.val (x : Mi) : Value := .agg #[.int .i64 x.op, .int .i64 x.rd, .int .i64 x.rs1, .int .i64 x.rs2, .int .i64 x.imm]

/-- The table of shapes, row by row. -/
def shL : List (List Int) := [
  [31, 31, 31, 0, 0, 1, 0, 0, 0, 0, 0, 0, 0, 0, 0, 0, 0, 0, 4261441663],
  [31, 31, 0, -2048, 2047, 1, 12, 0, 20, 0, 0, 0, 0, 0, 0, 0, 0, 0, 28799],
  [31, 31, 0, 0, 63, 1, 6, 0, 20, 0, 0, 0, 0, 0, 0, 0, 0, 0, 4227887231],
  [0, 31, 31, -2048, 2047, 1, 5, 0, 7, 7, 5, 25, 0, 0, 0, 0, 0, 0, 28799],
  [0, 31, 31, -4096, 4092, 4, 1, 11, 7, 4, 1, 8, 6, 5, 25, 1, 12, 31, 28799],
  [31, 0, 0, -1048576, 1048572, 4, 8, 12, 12, 1, 11, 20, 10, 1, 21, 1, 20, 31, 127],
  [31, 0, 0, -524288, 524287, 1, 20, 0, 12, 0, 0, 0, 0, 0, 0, 0, 0, 0, 127],
  [0, 0, 0, 0, 0, 1, 0, 0, 0, 0, 0, 0, 0, 0, 0, 0, 0, 0, 4294967295]]
/-- The table of ops: its shape, and what it settles. -/
def ptL : List (Nat × Nat) := [(0, 0), (0, 51), (0, 1073741875), (0, 33554483), (0, 33570867), (0, 28723), (0, 24627), (0, 16435), (0, 4147), (0, 1073762355), (0, 8243), (0, 12339), (1, 19), (1, 28691), (1, 24595), (1, 16403), (1, 8211), (1, 12307), (2, 4115), (2, 1073762323), (1, 12291), (3, 12323), (4, 99), (4, 4195), (4, 16483), (4, 20579), (5, 111), (1, 103), (6, 55), (7, 115)]
def shOf (op : Nat) : Nat := (ptL.getD op (0, 0)).1
def setOf (op : Nat) : Nat := (ptL.getD op (0, 0)).2
def shF (s i : Nat) : Int := (shL.getD s []).getD i 0

/-- Does a shape's room hold the fields? -/
def fitsB (s : Nat) (x : Mi) : Bool :=
  decide (0 ≤ x.rd ∧ x.rd ≤ shF s 0 ∧ 0 ≤ x.rs1 ∧ x.rs1 ≤ shF s 1 ∧ 0 ≤ x.rs2 ∧ x.rs2 ≤ shF s 2 ∧ shF s 3 ≤ x.imm ∧ x.imm ≤ shF s 4 ∧ x.imm.tmod (shF s 5) = 0)
/-- What Check answers. -/
def rvE (x : Mi) : Int := if x.op < 1 ∨ 29 < x.op then 3 else if fitsB (shOf x.op.toNat) x = true then 0 else 2

/-- A word in six parts: seven bits, five, three, five, five, seven. -/
structure Pts where
  a : Int
  l : Int
  b : Int
  m : Int
  n : Int
  c : Int
structure Pts.Ok (p : Pts) : Prop where
  a0 : 0 ≤ p.a
  a1 : p.a < 128
  l0 : 0 ≤ p.l
  l1 : p.l < 32
  b0 : 0 ≤ p.b
  b1 : p.b < 8
  m0 : 0 ≤ p.m
  m1 : p.m < 32
  n0 : 0 ≤ p.n
  n1 : p.n < 32
  c0 : 0 ≤ p.c
  c1 : p.c < 128
def Pts.num (p : Pts) : Int := p.a + 128 * p.l + 4096 * p.b + 32768 * p.m + 1048576 * p.n + 33554432 * p.c
def partsOf (w : Int) : Pts := ⟨w % 128, w / 128 % 32, w / 4096 % 8, w / 32768 % 32, w / 1048576 % 32, w / 33554432⟩
theorem partsOf_num (p : Pts) (h : p.Ok) : partsOf p.num = p := by
  obtain ⟨a, l, b, m, n, c⟩ := p
  obtain ⟨a0, a1, l0, l1, b0, b1, m0, m1, n0, n1, c0, c1⟩ := h
  unfold partsOf Pts.num
  dsimp only at *
  congr 1 <;> omega
theorem partsOf_ok (w : Int) (h0 : 0 ≤ w) (h1 : w < 4294967296) : (partsOf w).Ok := by
  unfold partsOf
  constructor <;> dsimp only <;> omega
theorem num_partsOf (w : Int) : (partsOf w).num = w := by
  unfold partsOf Pts.num
  dsimp only
  omega
theorem Pts.Ok.num {p : Pts} (h : p.Ok) : 0 ≤ p.num ∧ p.num < 4294967296 := by
  obtain ⟨a0, a1, l0, l1, b0, b1, m0, m1, n0, n1, c0, c1⟩ := h
  unfold Pts.num
  omega

/-- What an op settles: the lowest seven bits, the three, and the upper seven. -/
def sA (op : Nat) : Int := (setOf op % 128 : Nat)
def sB (op : Nat) : Int := (setOf op / 4096 % 8 : Nat)
def sC (op : Nat) : Int := (setOf op / 33554432 : Nat)

/-- A word's parts. -/
def wordQ (s : Nat) (A B C : Int) (x : Mi) : Pts :=
  match s with
  | 0 => ⟨A, x.rd, B, x.rs1, x.rs2, C⟩
  | 1 => ⟨A, x.rd, B, x.rs1, x.imm % 32, x.imm / 32 % 128⟩
  | 2 => ⟨A, x.rd, B, x.rs1, x.imm % 32, x.imm / 32 % 2 + C⟩
  | 3 => ⟨A, x.imm % 32, B, x.rs1, x.rs2, x.imm / 32 % 128⟩
  | 4 => ⟨A, x.imm / 2048 % 2 + 2 * (x.imm / 2 % 16), B, x.rs1, x.rs2, x.imm / 32 % 64 + 64 * (x.imm / 4096 % 2)⟩
  | 5 => ⟨A, x.rd, x.imm / 4096 % 8, x.imm / 32768 % 32, x.imm / 2048 % 2 + 2 * (x.imm / 2 % 16), x.imm / 32 % 64 + 64 * (x.imm / 1048576 % 2)⟩
  | 6 => ⟨A, x.rd, x.imm % 8, x.imm / 8 % 32, x.imm / 256 % 32, x.imm / 8192 % 128⟩
  | _ => ⟨A, 0, 0, 0, 0, 0⟩
def wordP (x : Mi) : Pts := wordQ (shOf x.op.toNat) (sA x.op.toNat) (sB x.op.toNat) (sC x.op.toNat) x
def wordI (x : Mi) : Int := (wordP x).num

/-- The number that stands in a word. -/
def immR (s : Nat) (p : Pts) : Int :=
  match s with
  | 1 => p.n + 32 * p.c
  | 2 => p.n + 32 * (p.c % 2)
  | 3 => p.l + 32 * p.c
  | 4 => (p.l % 2) * 2048 + (p.l / 2) * 2 + (p.c % 64) * 32 + (p.c / 64) * 4096
  | 5 => (p.b + 8 * p.m) * 4096 + (p.n % 2) * 2048 + (p.n / 2) * 2 + (p.c % 64) * 32 + (p.c / 64) * 1048576
  | 6 => p.b + 8 * p.m + 256 * p.n + 8192 * p.c
  | _ => 0
def immS (s : Nat) (p : Pts) : Int := if shF s 4 < immR s p then immR s p + 2 * shF s 3 else immR s p
/-- The instruction that stands in a word, if it has this op. -/
def instQ (s op : Nat) (p : Pts) : Mi :=
  ⟨op, if shF s 0 = 31 then p.l else 0, if shF s 1 = 31 then p.m else 0, if shF s 2 = 31 then p.n else 0, immS s p⟩
def instR (op : Nat) (p : Pts) : Mi := instQ (shOf op) op p
/-- Does a word have what an op settles? -/
def hitQ (s : Nat) (A B C : Int) (p : Pts) : Bool :=
  match s with
  | 0 => decide (p.a = A ∧ p.b = B ∧ p.c = C)
  | 2 => decide (p.a = A ∧ p.b = B ∧ p.c / 2 = C / 2)
  | 5 => decide (p.a = A)
  | 6 => decide (p.a = A)
  | 7 => decide (p.a = A ∧ p.l = 0 ∧ p.b = 0 ∧ p.m = 0 ∧ p.n = 0 ∧ p.c = 0)
  | _ => decide (p.a = A ∧ p.b = B)
def hitB (p : Pts) (op : Nat) : Bool := hitQ (shOf op) (sA op) (sB op) (sC op) p
/-- The first op from a place on that a word has. -/
def findOp (p : Pts) (op : Nat) : Option Nat := (List.range' op (30 - op)).find? (hitB p)
def zeroMi : Mi := ⟨0, 0, 0, 0, 0⟩
def decX (w : Int) : Mi := if w < 0 ∨ 4294967295 < w then zeroMi else match findOp (partsOf w) 1 with
  | none => zeroMi
  | some op => if fitsB (shOf op) (instR op (partsOf w)) = true then instR op (partsOf w) else zeroMi
def decE (w : Int) : Int := if w < 0 ∨ 4294967295 < w then 2 else match findOp (partsOf w) 1 with
  | none => 3
  | some op => if fitsB (shOf op) (instR op (partsOf w)) = true then 0 else 3

theorem ops29 {Q : Nat → Prop} (h : ∀ k : Fin 30, 1 ≤ k.val → Q k.val) (a : Nat) (h0 : 1 ≤ a) (h1 : a ≤ 29) : Q a := h ⟨a, by omega⟩ h0
theorem shOf_lt (op : Nat) (h0 : 1 ≤ op) (h1 : op ≤ 29) : shOf op < 8 := ops29 (Q := fun op => shOf op < 8) (by decide) op h0 h1

/-- An instruction that may be. -/
structure MiOk (x : Mi) : Prop where
  op1 : 1 ≤ x.op
  op2 : x.op ≤ 29
  fits : fitsB (shOf x.op.toNat) x = true
theorem MiOk.e {x : Mi} (h : MiOk x) : rvE x = 0 := by
  unfold rvE; rw [if_neg (by have := h.op1; have := h.op2; omega), if_pos h.fits]
theorem rvE_ok {x : Mi} (h : rvE x = 0) : MiOk x := by
  unfold rvE at h
  by_cases h1 : x.op < 1 ∨ 29 < x.op
  · rw [if_pos h1] at h; omega
  rw [if_neg h1] at h
  by_cases h2 : fitsB (shOf x.op.toNat) x = true
  · exact ⟨by omega, by omega, h2⟩
  · rw [if_neg h2] at h; omega

/-- What ops settle. -/
theorem settled_parts (op : Nat) (h0 : 1 ≤ op) (h1 : op ≤ 29) : (setOf op : Int) = sA op + 4096 * sB op + 33554432 * sC op ∧ 0 ≤ sA op ∧ sA op < 128 ∧ 0 ≤ sB op ∧ sB op < 8 ∧ 0 ≤ sC op ∧ sC op < 128 ∧ sA op % 4 = 3 ∧ (shOf op ≠ 0 → shOf op ≠ 2 → sC op = 0) ∧ (shOf op = 5 ∨ shOf op = 6 → sB op = 0) ∧ (shOf op = 7 → sA op = 115 ∧ sB op = 0) ∧ (shOf op = 2 → sC op % 2 = 0) :=
  ops29 (Q := fun op => (setOf op : Int) = sA op + 4096 * sB op + 33554432 * sC op ∧ 0 ≤ sA op ∧ sA op < 128 ∧ 0 ≤ sB op ∧ sB op < 8 ∧ 0 ≤ sC op ∧ sC op < 128 ∧ sA op % 4 = 3 ∧ (shOf op ≠ 0 → shOf op ≠ 2 → sC op = 0) ∧ (shOf op = 5 ∨ shOf op = 6 → sB op = 0) ∧ (shOf op = 7 → sA op = 115 ∧ sB op = 0) ∧ (shOf op = 2 → sC op % 2 = 0)) (by decide +kernel) op h0 h1
/-- No two ops settle the same bits so. -/
theorem settled_apart (a b : Nat) (a0 : 1 ≤ a) (a1 : a ≤ 29) (b0 : 1 ≤ b) (b1 : b ≤ 29) (h : a ≠ b) :
    sA a ≠ sA b ∨ (shOf a ≠ 5 ∧ shOf a ≠ 6 ∧ shOf b ≠ 5 ∧ shOf b ≠ 6 ∧ shOf a ≠ 7 ∧ shOf b ≠ 7 ∧ sB a ≠ sB b) ∨ (shOf a = 0 ∧ shOf b = 0 ∧ sC a ≠ sC b) := by
  have key : ∀ a b : Fin 30, 1 ≤ a.val → 1 ≤ b.val → a.val ≠ b.val → sA a ≠ sA b ∨ (shOf a ≠ 5 ∧ shOf a ≠ 6 ∧ shOf b ≠ 5 ∧ shOf b ≠ 6 ∧ shOf a ≠ 7 ∧ shOf b ≠ 7 ∧ sB a ≠ sB b) ∨ (shOf a = 0 ∧ shOf b = 0 ∧ sC a ≠ sC b) := by decide +kernel
  exact key ⟨a, by omega⟩ ⟨b, by omega⟩ a0 b0 h

/-- Fields' bounds. -/
theorem fits_iff (s : Nat) (x : Mi) : fitsB s x = true ↔ 0 ≤ x.rd ∧ x.rd ≤ shF s 0 ∧ 0 ≤ x.rs1 ∧ x.rs1 ≤ shF s 1 ∧ 0 ≤ x.rs2 ∧ x.rs2 ≤ shF s 2 ∧ shF s 3 ≤ x.imm ∧ x.imm ≤ shF s 4 ∧ x.imm.tmod (shF s 5) = 0 := by
  unfold fitsB; simp
theorem eight (s : Nat) (h : s < 8) : s = 0 ∨ s = 1 ∨ s = 2 ∨ s = 3 ∨ s = 4 ∨ s = 5 ∨ s = 6 ∨ s = 7 := by omega
theorem tmod4 (i : Int) (h : i.tmod 4 = 0) : i % 4 = 0 := by
  have := Int.dvd_of_tmod_eq_zero h
  omega
theorem tmod4' (i : Int) (h : i % 4 = 0) : i.tmod 4 = 0 := Int.tmod_eq_zero_of_dvd (by omega)

/-- An op that has this one's settled bits in a word is this one. -/
theorem hit_one (p : Pts) (a b : Nat) (a0 : 1 ≤ a) (a1 : a ≤ 29) (b0 : 1 ≤ b) (b1 : b ≤ 29) (ha : hitB p a = true) (hb : hitB p b = true) : a = b := by
  by_cases e : a = b
  · exact e
  exfalso
  have hs := shOf_lt a a0 a1
  have ht := shOf_lt b b0 b1
  have h := settled_apart a b a0 a1 b0 b1 e
  unfold hitB at ha hb
  unfold hitQ at ha hb
  generalize shOf a = s at *
  generalize shOf b = t at *
  rcases eight s hs with rfl | rfl | rfl | rfl | rfl | rfl | rfl | rfl <;> simp at ha <;> rcases eight t ht with rfl | rfl | rfl | rfl | rfl | rfl | rfl | rfl <;> simp at hb <;> omega
theorem find_hit (p : Pts) (a : Nat) (a0 : 1 ≤ a) (a1 : a ≤ 29) (ha : hitB p a = true) : findOp p 1 = some a := by
  unfold findOp
  cases h : (List.range' 1 (30 - 1)).find? (hitB p) with
  | none =>
    have := List.find?_eq_none.1 h a (by simp; omega)
    exact absurd ha this
  | some b =>
    have hb := List.find?_some h
    have hm := List.mem_of_find?_eq_some h
    simp at hm
    rw [hit_one p a b a0 a1 (by omega) (by omega) ha hb]
theorem find_some (p : Pts) (a : Nat) (h : findOp p 1 = some a) : 1 ≤ a ∧ a ≤ 29 ∧ hitB p a = true := by
  unfold findOp at h
  have hb := List.find?_some h
  have hm := List.mem_of_find?_eq_some h
  simp at hm
  exact ⟨by omega, by omega, hb⟩

/-- What holds of what an op settles. -/
structure Sett (s : Nat) (A B C : Int) : Prop where
  a0 : 0 ≤ A
  a1 : A < 128
  b0 : 0 ≤ B
  b1 : B < 8
  c0 : 0 ≤ C
  c1 : C < 128
  a3 : A % 4 = 3
  cz : s ≠ 0 → s ≠ 2 → C = 0
  bz : s = 5 ∨ s = 6 → B = 0
  e7 : s = 7 → A = 115 ∧ B = 0
  c2 : s = 2 → C % 2 = 0 ∧ C < 127
theorem sett_of (op : Nat) (h0 : 1 ≤ op) (h1 : op ≤ 29) : Sett (shOf op) (sA op) (sB op) (sC op) := by
  obtain ⟨p0, p1, p2, p3, p4, p5, p6, p7, p8, p9, p10, p11⟩ := settled_parts op h0 h1
  exact ⟨p1, p2, p3, p4, p5, p6, p7, p8, p9, p10, fun h => ⟨p11 h, by have := p11 h; omega⟩⟩

theorem made13 (i r2 r3 r4 r5 z : Int) (h : i = 2 * r2 + 32 * r3 + 2048 * r4 + 4096 * r5 + 8192 * z) (_h2 : 0 ≤ r2) (_k2 : r2 < 16) (_h3 : 0 ≤ r3) (_k3 : r3 < 64) (_h4 : 0 ≤ r4) (_k4 : r4 < 2) (_h5 : 0 ≤ r5) (_k5 : r5 < 2) :
    i / 2 % 16 = r2 ∧ i / 32 % 64 = r3 ∧ i / 2048 % 2 = r4 ∧ i / 4096 % 2 = r5 := by
  refine ⟨?_, ?_, ?_, ?_⟩ <;> omega
theorem made21 (i r2 r3 r4 r5 r6 r7 z : Int) (h : i = 2 * r2 + 32 * r3 + 2048 * r4 + 4096 * r5 + 32768 * r6 + 1048576 * r7 + 2097152 * z) (_h2 : 0 ≤ r2) (_k2 : r2 < 16) (_h3 : 0 ≤ r3) (_k3 : r3 < 64) (_h4 : 0 ≤ r4) (_k4 : r4 < 2) (_h5 : 0 ≤ r5) (_k5 : r5 < 8) (_h6 : 0 ≤ r6) (_k6 : r6 < 32) (_h7 : 0 ≤ r7) (_k7 : r7 < 2) :
    i / 2 % 16 = r2 ∧ i / 32 % 64 = r3 ∧ i / 2048 % 2 = r4 ∧ i / 4096 % 8 = r5 ∧ i / 32768 % 32 = r6 ∧ i / 1048576 % 2 = r7 := by
  refine ⟨?_, ?_, ?_, ?_, ?_, ?_⟩ <;> omega
theorem back13 (i : Int) (h0 : -4096 ≤ i) (h1 : i ≤ 4092) (h4 : i % 4 = 0) (r2 r3 r4 r5 : Int) (e2 : i / 2 % 16 = r2) (e3 : i / 32 % 64 = r3) (e4 : i / 2048 % 2 = r4) (e5 : i / 4096 % 2 = r5) :
    (if 4092 < r4 * 2048 + r2 * 2 + r3 * 32 + r5 * 4096 then r4 * 2048 + r2 * 2 + r3 * 32 + r5 * 4096 + -8192 else r4 * 2048 + r2 * 2 + r3 * 32 + r5 * 4096) = i := by
  have e : r4 * 2048 + r2 * 2 + r3 * 32 + r5 * 4096 = i - 8192 * (i / 8192) := by omega
  rw [e]
  split <;> omega
theorem back21 (i : Int) (h0 : -1048576 ≤ i) (h1 : i ≤ 1048572) (h4 : i % 4 = 0) (r2 r3 r4 r5 r6 r7 : Int) (e2 : i / 2 % 16 = r2) (e3 : i / 32 % 64 = r3) (e4 : i / 2048 % 2 = r4) (e5 : i / 4096 % 8 = r5) (e6 : i / 32768 % 32 = r6) (e7 : i / 1048576 % 2 = r7) :
    (if 1048572 < (r5 + 8 * r6) * 4096 + r4 * 2048 + r2 * 2 + r3 * 32 + r7 * 1048576 then (r5 + 8 * r6) * 4096 + r4 * 2048 + r2 * 2 + r3 * 32 + r7 * 1048576 + -2097152 else (r5 + 8 * r6) * 4096 + r4 * 2048 + r2 * 2 + r3 * 32 + r7 * 1048576) = i := by
  have e : (r5 + 8 * r6) * 4096 + r4 * 2048 + r2 * 2 + r3 * 32 + r7 * 1048576 = i - 2097152 * (i / 2097152) := by omega
  rw [e]
  split <;> omega
theorem chain20 (i : Int) : ∃ i1 i2 i3 i4 r1 r2 r3 r4 : Int, i = 8 * i1 + r1 ∧ i1 = 32 * i2 + r2 ∧ i2 = 32 * i3 + r3 ∧ i3 = 128 * i4 + r4 ∧
    0 ≤ r1 ∧ r1 < 8 ∧ 0 ≤ r2 ∧ r2 < 32 ∧ 0 ≤ r3 ∧ r3 < 32 ∧ 0 ≤ r4 ∧ r4 < 128 ∧ i % 8 = r1 ∧ i / 8 % 32 = r2 ∧ i / 256 % 32 = r3 ∧ i / 8192 % 128 = r4 :=
  ⟨i / 8, i / 256, i / 8192, i / 1048576, i % 8, i / 8 % 32, i / 256 % 32, i / 8192 % 128,
   by omega, by omega, by omega, by omega, by omega, by omega, by omega, by omega, by omega, by omega, by omega, by omega, rfl, rfl, rfl, rfl⟩

/-- A word's parts are parts, have what its op settles, and tell its instruction. -/
theorem word_partsQ (s : Nat) (hs : s < 8) (A B C : Int) (hS : Sett s A B C) (k : Nat) (x : Mi) (hk : x.op = (k : Int)) (hf : fitsB s x = true) :
    (wordQ s A B C x).Ok ∧ hitQ s A B C (wordQ s A B C x) = true ∧ instQ s k (wordQ s A B C x) = x := by
  obtain ⟨op, rd, rs1, rs2, imm⟩ := x
  dsimp only at hk
  subst hk
  rw [fits_iff] at hf
  obtain ⟨p1, p2, p3, p4, p5, p6, p7, p8, p9, p10, p11⟩ := hS
  rcases eight s hs with rfl | rfl | rfl | rfl | rfl | rfl | rfl | rfl <;> simp [shF, shL] at hf p8 p9 p10 p11 <;> unfold wordQ hitQ instQ <;> dsimp only
  · refine ⟨⟨?_, ?_, ?_, ?_, ?_, ?_, ?_, ?_, ?_, ?_, ?_, ?_⟩, ?_, ?_⟩ <;> first | omega | (simp [immS, immR, shF, shL]; done) | (simp [immS, immR, shF, shL]; omega) | (simp [immS, immR, shF, shL]; split <;> omega) | (simp [immS, immR, shF, shL]; refine ⟨by omega, ?_⟩; split <;> omega) | (simp [immS, immR, shF, shL]; refine ⟨by omega, by omega, ?_⟩; split <;> omega)
  · refine ⟨⟨?_, ?_, ?_, ?_, ?_, ?_, ?_, ?_, ?_, ?_, ?_, ?_⟩, ?_, ?_⟩ <;> first | omega | (simp [immS, immR, shF, shL]; done) | (simp [immS, immR, shF, shL]; omega) | (simp [immS, immR, shF, shL]; split <;> omega) | (simp [immS, immR, shF, shL]; refine ⟨by omega, ?_⟩; split <;> omega) | (simp [immS, immR, shF, shL]; refine ⟨by omega, by omega, ?_⟩; split <;> omega)
  · refine ⟨⟨?_, ?_, ?_, ?_, ?_, ?_, ?_, ?_, ?_, ?_, ?_, ?_⟩, ?_, ?_⟩ <;> first | omega | (simp [immS, immR, shF, shL]; done) | (simp [immS, immR, shF, shL]; omega) | (simp [immS, immR, shF, shL]; split <;> omega) | (simp [immS, immR, shF, shL]; refine ⟨by omega, ?_⟩; split <;> omega) | (simp [immS, immR, shF, shL]; refine ⟨by omega, by omega, ?_⟩; split <;> omega)
  · refine ⟨⟨?_, ?_, ?_, ?_, ?_, ?_, ?_, ?_, ?_, ?_, ?_, ?_⟩, ?_, ?_⟩ <;> first | omega | (simp [immS, immR, shF, shL]; done) | (simp [immS, immR, shF, shL]; omega) | (simp [immS, immR, shF, shL]; split <;> omega) | (simp [immS, immR, shF, shL]; refine ⟨by omega, ?_⟩; split <;> omega) | (simp [immS, immR, shF, shL]; refine ⟨by omega, by omega, ?_⟩; split <;> omega)
  · obtain ⟨f1, f2, f3, f4, f5, f6, f7, f8, f9⟩ := hf
    have f9 := tmod4 _ f9
    have hb := back13 imm f7 f8 f9 _ _ _ _ rfl rfl rfl rfl
    have g1 : (imm / 2048 % 2 + 2 * (imm / 2 % 16)) % 2 = imm / 2048 % 2 := by omega
    have g2 : (imm / 2048 % 2 + 2 * (imm / 2 % 16)) / 2 = imm / 2 % 16 := by omega
    have g3 : (imm / 32 % 64 + 64 * (imm / 4096 % 2)) % 64 = imm / 32 % 64 := by omega
    have g4 : (imm / 32 % 64 + 64 * (imm / 4096 % 2)) / 64 = imm / 4096 % 2 := by omega
    have ok : Pts.Ok ⟨A, imm / 2048 % 2 + 2 * (imm / 2 % 16), B, rs1, rs2, imm / 32 % 64 + 64 * (imm / 4096 % 2)⟩ := by
      clear hb g1 g2 g3 g4
      constructor <;> dsimp only <;> omega
    refine ⟨ok, by simp, ?_⟩
    have e5 : immS 4 ⟨A, imm / 2048 % 2 + 2 * (imm / 2 % 16), B, rs1, rs2, imm / 32 % 64 + 64 * (imm / 4096 % 2)⟩ = imm := by
      unfold immS immR
      dsimp only
      rw [g1, g2, g3, g4]
      exact hb
    exact Mi.ext' rfl (show (0 : Int) = rd by omega) rfl rfl e5
  · obtain ⟨f1, f2, f3, f4, f5, f6, f7, f8, f9⟩ := hf
    have f9 := tmod4 _ f9
    have hb := back21 imm f7 f8 f9 _ _ _ _ _ _ rfl rfl rfl rfl rfl rfl
    have g1 : (imm / 2048 % 2 + 2 * (imm / 2 % 16)) % 2 = imm / 2048 % 2 := by omega
    have g2 : (imm / 2048 % 2 + 2 * (imm / 2 % 16)) / 2 = imm / 2 % 16 := by omega
    have g3 : (imm / 32 % 64 + 64 * (imm / 1048576 % 2)) % 64 = imm / 32 % 64 := by omega
    have g4 : (imm / 32 % 64 + 64 * (imm / 1048576 % 2)) / 64 = imm / 1048576 % 2 := by omega
    have ok : Pts.Ok ⟨A, rd, imm / 4096 % 8, imm / 32768 % 32, imm / 2048 % 2 + 2 * (imm / 2 % 16), imm / 32 % 64 + 64 * (imm / 1048576 % 2)⟩ := by
      clear hb g1 g2 g3 g4
      constructor <;> dsimp only <;> omega
    refine ⟨ok, by simp, ?_⟩
    have e5 : immS 5 ⟨A, rd, imm / 4096 % 8, imm / 32768 % 32, imm / 2048 % 2 + 2 * (imm / 2 % 16), imm / 32 % 64 + 64 * (imm / 1048576 % 2)⟩ = imm := by
      unfold immS immR
      dsimp only
      rw [g1, g2, g3, g4]
      exact hb
    exact Mi.ext' rfl rfl (show (0 : Int) = rs1 by omega) (show (0 : Int) = rs2 by omega) e5
  · obtain ⟨i1, i2, i3, i4, r1, r2, r3, r4, c1, c2, c3, c4, c5, c6, c7, c8, c9, c10, c11, c12, e1, e2, e3, e4⟩ := chain20 imm
    rw [e1, e2, e3, e4]
    clear e1 e2 e3 e4
    refine ⟨⟨?_, ?_, ?_, ?_, ?_, ?_, ?_, ?_, ?_, ?_, ?_, ?_⟩, ?_, ?_⟩ <;> first | omega | (simp [immS, immR, shF, shL]; done) | (simp [immS, immR, shF, shL]; omega) | (simp [immS, immR, shF, shL]; split <;> omega) | (simp [immS, immR, shF, shL]; refine ⟨by omega, ?_⟩; split <;> omega) | (simp [immS, immR, shF, shL]; refine ⟨by omega, by omega, ?_⟩; split <;> omega)
  · refine ⟨⟨?_, ?_, ?_, ?_, ?_, ?_, ?_, ?_, ?_, ?_, ?_, ?_⟩, ?_, ?_⟩ <;> first | omega | (simp [immS, immR, shF, shL]; done) | (simp [immS, immR, shF, shL]; omega) | (simp [immS, immR, shF, shL]; split <;> omega) | (simp [immS, immR, shF, shL]; refine ⟨by omega, ?_⟩; split <;> omega) | (simp [immS, immR, shF, shL]; refine ⟨by omega, by omega, ?_⟩; split <;> omega)
theorem word_parts (x : Mi) (h : MiOk x) : (wordP x).Ok ∧ hitB (wordP x) x.op.toNat = true ∧ instR x.op.toNat (wordP x) = x :=
  word_partsQ _ (shOf_lt _ (by have := h.op1; omega) (by have := h.op2; omega)) _ _ _ (sett_of _ (by have := h.op1; omega) (by have := h.op2; omega)) _ x (by have := h.op1; omega) h.fits

/-- A word's instruction has this word. -/
theorem parts_wordQ (s : Nat) (hs : s < 8) (A B C : Int) (hS : Sett s A B C) (k : Nat) (p : Pts) (hp : p.Ok) (hh : hitQ s A B C p = true) (hf : fitsB s (instQ s k p) = true) : wordQ s A B C (instQ s k p) = p := by
  obtain ⟨a, l, b, m, n, c⟩ := p
  obtain ⟨a0, a1, l0, l1, b0, b1, m0, m1, n0, n1, c0, c1⟩ := hp
  dsimp only at *
  obtain ⟨p1, p2, p3, p4, p5, p6, p7, p8, p9, p10, p11⟩ := hS
  rw [fits_iff] at hf
  rcases eight s hs with rfl | rfl | rfl | rfl | rfl | rfl | rfl | rfl <;> simp at p8 p9 p10 p11 <;> unfold hitQ at hh <;> simp at hh
  · simp [wordQ, instQ, shF, shL]; omega
  · simp [instQ, shF, shL, immS, immR] at hf; simp [wordQ, instQ, shF, shL, immS, immR]; omega
  · simp [instQ, shF, shL, immS, immR] at hf; simp [wordQ, instQ, shF, shL, immS, immR]; omega
  · simp [instQ, shF, shL, immS, immR] at hf; simp [wordQ, instQ, shF, shL, immS, immR]; omega
  · have hi : ∃ z, immS 4 ⟨a, l, b, m, n, c⟩ = 2 * (l / 2) + 32 * (c % 64) + 2048 * (l % 2) + 4096 * (c / 64) + 8192 * z := by
      unfold immS immR
      simp only [shF, shL]
      split
      · exact ⟨-1, by simp; omega⟩
      · exact ⟨0, by omega⟩
    obtain ⟨z, hz⟩ := hi
    obtain ⟨g1, g2, g3, g4⟩ := made13 _ _ _ _ _ z hz (by omega) (by omega) (by omega) (by omega) (by omega) (by omega) (by omega) (by omega)
    simp only [wordQ, instQ, g1, g2, g3, g4]
    simp [shF, shL]
    omega
  · have hi : ∃ z, immS 5 ⟨a, l, b, m, n, c⟩ = 2 * (n / 2) + 32 * (c % 64) + 2048 * (n % 2) + 4096 * b + 32768 * m + 1048576 * (c / 64) + 2097152 * z := by
      unfold immS immR
      simp only [shF, shL]
      split
      · exact ⟨-1, by simp; omega⟩
      · exact ⟨0, by omega⟩
    obtain ⟨z, hz⟩ := hi
    obtain ⟨g1, g2, g3, g4, g5, g6⟩ := made21 _ _ _ _ _ _ _ z hz (by omega) (by omega) (by omega) (by omega) (by omega) (by omega) (by omega) (by omega) (by omega) (by omega) (by omega) (by omega)
    simp only [wordQ, instQ, g1, g2, g3, g4, g5, g6]
    simp [shF, shL]
    omega
  · simp [instQ, shF, shL, immS, immR] at hf; simp [wordQ, instQ, shF, shL, immS, immR]
    split <;> omega
  · simp [wordQ]; omega

end Go.Proofs.YtapjfiihfgndeaaDoor
