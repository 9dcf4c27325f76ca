/- Contracts of the small functions of package ops and code: what an op has, and whether a field fits; no condition but that the table of ops lies in memory as it was laid. -/
import Derived.Test.YtapjfiihfgndeaaDoorProg
import Derived.Test.YtapjfiihfgndeaaDoorMem
import Derived.WalkKit
import Derived.WalkSpells
import Derived.WalkLawsBesides
import Derived.Deep.QuietTactic
import Derived.BigQuiet
namespace Go.Proofs.YtapjfiihfgndeaaDoor
open Go Go.RowKit

/-- The table of ops, as numbers. -/
def hasL : List Int := [0, 9, 7, 7, 7, 7, 7, 7, 7, 7, 7, 7, 7, 3, 6, 16, 18, 39, 3, 2]
/-- What an op has, as bits. -/
def hasOf (op : Int) : Int := if 0 ≤ op ∧ op < 20 then hasL.getD op.toNat 0 else 0
def belowB (n most : Int) : Bool := decide (0 ≤ n ∧ n < most)
def roomOf (has part most : Int) : Int := if (bits BinOp.and IntKind.i64 has part == 0) = true then 1 else most
def immB (imm has places funcs : Int) : Bool :=
  if (bits BinOp.and IntKind.i64 has 8 != 0) = true then true else if (bits BinOp.and IntKind.i64 has 16 != 0) = true then belowB imm places else belowB imm (roomOf has 32 funcs)
/-- What code's own check says of an instruction. -/
def codeInstr (x : Ins) (regs places funcs : Int) : Int :=
  if (hasOf x.op == 0) = true then 3
  else if belowB x.dst (roomOf (hasOf x.op) 1 regs) = false then 2
  else if belowB x.a (roomOf (hasOf x.op) 2 regs) = false then 2
  else if belowB x.b (roomOf (hasOf x.op) 4 regs) = false then 2
  else if immB x.imm (hasOf x.op) places funcs = false then 2 else 0

end Go.Proofs.YtapjfiihfgndeaaDoor
