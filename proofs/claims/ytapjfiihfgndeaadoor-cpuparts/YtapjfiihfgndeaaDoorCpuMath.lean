/- A machine as plain data, and what a step makes of it. No program is walked. -/
import Derived.Test.YtapjfiihfgndeaaDoorMakeMath
import Derived.Test.YtapjfiihfgndeaaDoorRvMath
namespace Go.Proofs.YtapjfiihfgndeaaDoor
open Go Go.RowKit

/-- A machine. -/
structure Cp where
  regs : List Int
  pc : Int
  data : List Int
  halted : Bool
structure Cp.Ok (c : Cp) : Prop where
  r : c.regs.length = 32
  d : c.data.length = 64
/-- What an op of the machine makes of two numbers. -/
def mdC (op a b : Int) : Int :=
  if op = 1 ∨ op = 12 then wrap64 (a + b) else if op = 2 then wrap64 (a - b) else if op = 3 then wrap64 (a * b)
  else if op = 4 then (if b = 0 then -1 else wrap64 (a.tdiv b)) else if op = 5 ∨ op = 13 then bits .and .i64 a b
  else if op = 6 ∨ op = 14 then bits .or .i64 a b else if op = 7 ∨ op = 15 then bits .xor .i64 a b
  else if op = 8 ∨ op = 18 then wrap64 (a * 2 ^ (b % 64).toNat) else if op = 9 ∨ op = 19 then a / 2 ^ (b % 64).toNat
  else if op = 10 ∨ op = 16 then (if a < b then 1 else 0) else (if a % 18446744073709551616 < b % 18446744073709551616 then 1 else 0)
def snd (x : Mi) (b : Int) : Int := if 12 ≤ x.op then x.imm else b
/-- Is it the address of a word? -/
def isW (t : Int) : Bool := decide (0 ≤ t ∧ t < 512 ∧ t % 8 = 0)
def holdsB (op a b : Int) : Bool := if op = 22 then decide (a = b) else if op = 23 then decide (a ≠ b) else if op = 24 then decide (a < b) else decide (b ≤ a)
def Cp.reg (c : Cp) (r : Int) : Int := c.regs.getD r.toNat 0
def Cp.put (c : Cp) (r v : Int) : Cp := { c with regs := if r = 0 then c.regs else c.regs.set r.toNat v }
def Cp.go (c : Cp) (p : Int) : Cp := { c with pc := p }
def Cp.word (c : Cp) (t : Int) : Int := c.data.getD (t / 8).toNat 0
def Cp.keep (c : Cp) (t v : Int) : Cp := { c with data := c.data.set (t / 8).toNat v }
def Cp.stop (c : Cp) : Cp := { c with halted := true }
/-- An address without its lowest bit. -/
def adJ (t : Int) : Int := t - t % 2
/-- Whether an instruction is refused. -/
def doE (x : Mi) (a : Int) : Int :=
  if x.op = 20 ∨ x.op = 21 then (if isW (wrap64 (a + x.imm)) = true then 0 else 2)
  else if x.op = 27 then (if adJ (wrap64 (a + x.imm)) % 4 = 0 then 0 else 5) else 0
/-- What an instruction makes of a machine. -/
def doC (x : Mi) (a b : Int) (c : Cp) : Cp :=
  if x.op = 20 then (if isW (wrap64 (a + x.imm)) = true then (c.put x.rd (c.word (wrap64 (a + x.imm)))).go (c.pc + 1) else c)
  else if x.op = 21 then (if isW (wrap64 (a + x.imm)) = true then (c.keep (wrap64 (a + x.imm)) b).go (c.pc + 1) else c)
  else if x.op = 26 then (c.put x.rd ((c.pc + 1) * 4)).go (c.pc + x.imm.tdiv 4)
  else if x.op = 27 then (if adJ (wrap64 (a + x.imm)) % 4 = 0 then (c.put x.rd ((c.pc + 1) * 4)).go ((adJ (wrap64 (a + x.imm))) / 4) else c)
  else if x.op = 28 then (c.put x.rd (x.imm * 4096)).go (c.pc + 1)
  else if x.op = 29 then c.stop
  else if 22 ≤ x.op ∧ x.op ≤ 25 then c.go (if holdsB x.op a b = true then c.pc + x.imm.tdiv 4 else c.pc + 1)
  else (c.put x.rd (mdC x.op a (snd x b))).go (c.pc + 1)
theorem Cp.Ok.put {c : Cp} (h : c.Ok) (r v : Int) : (c.put r v).Ok := ⟨by unfold Cp.put; dsimp only; split <;> simp [h.r], h.d⟩
theorem Cp.Ok.go {c : Cp} (h : c.Ok) (p : Int) : (c.go p).Ok := ⟨h.r, h.d⟩
theorem Cp.Ok.keep {c : Cp} (h : c.Ok) (t v : Int) : (c.keep t v).Ok := ⟨h.r, by simp [Cp.keep, h.d]⟩
theorem Cp.Ok.stop {c : Cp} (h : c.Ok) : c.stop.Ok := ⟨h.r, h.d⟩
theorem Cp.Ok.doC {c : Cp} (h : c.Ok) (x : Mi) (a b : Int) : (doC x a b c).Ok := by
  unfold Go.Proofs.YtapjfiihfgndeaaDoor.doC
  repeat' split
  all_goals first | exact h | exact h.stop | exact (h.put _ _).go _ | exact (h.keep _ _).go _ | exact h.go _

/-- Whether a step is refused, and what it makes. -/
def stepE (ws : List Int) (c : Cp) : Int :=
  if c.pc < 0 ∨ (ws.length : Int) ≤ c.pc then 8 else if decE (ws.getD c.pc.toNat 0) = 0 then doE (decX (ws.getD c.pc.toNat 0)) (c.reg (decX (ws.getD c.pc.toNat 0)).rs1) else 3
def stepC (ws : List Int) (c : Cp) : Cp :=
  doC (decX (ws.getD c.pc.toNat 0)) (c.reg (decX (ws.getD c.pc.toNat 0)).rs1) (c.reg (decX (ws.getD c.pc.toNat 0)).rs2) c
def noRegs : List Int := List.replicate 32 0
def noData : List Int := List.replicate 64 0
def zeroCp : Cp := ⟨noRegs, 0, noData, false⟩
/-- A run: with so many steps left, behind so many. -/
def runA (ws : List Int) : Nat → Nat → Cp → Cp × Int × Int
  | 0, k, c => if c.halted = true then (c, (k : Int), 0) else (zeroCp, 0, 10)
  | n + 1, k, c => if c.halted = true then (c, (k : Int), 0) else if stepE ws c = 0 then runA ws n (k + 1) (stepC ws c) else (zeroCp, 0, stepE ws c)
def Cp.begun (c : Cp) : Cp := { c with regs := c.regs.set 0 0 }
theorem Cp.Ok.begun {c : Cp} (h : c.Ok) : c.begun.Ok := ⟨by simp [Cp.begun, h.r], h.d⟩
def runAns (ws : List Int) (c : Cp) (most : Int) : Cp × Int × Int :=
  if 32768 < ws.length then (zeroCp, 0, 1) else if most < 0 ∨ 4000000 < most then (zeroCp, 0, 2) else runA ws most.toNat 0 c.begun
def stepAns (ws : List Int) (c : Cp) : Cp × Int :=
  if 32768 < ws.length then (zeroCp, 1) else if c.halted = true then (c.begun, 0) else if stepE ws c.begun = 0 then (stepC ws c.begun, 0) else (zeroCp, stepE ws c.begun)
theorem zero_ok : zeroCp.Ok := ⟨rfl, rfl⟩
end Go.Proofs.YtapjfiihfgndeaaDoor
