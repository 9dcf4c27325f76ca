/- Contracts of step.Make: what each op makes of two numbers. No condition. -/
import Derived.Test.YthlljbifijodeaaDoorProg
import Derived.Test.YthlljbifijodeaaDoorBits
import Derived.WalkKit
import Derived.WalkSpells
import Derived.WalkLawsBesides
import Derived.Deep.QuietTactic
import Derived.BigQuiet
namespace Go.Proofs.YthlljbifijodeaaDoor
open Go Go.RowKit

theorem bits_low (b : Int) : bits .and .i64 b 63 = b % 64 := by
  show IntKind.i64.wrap ((BitVec.ofInt 64 b &&& BitVec.ofInt 64 63).toNat : Int) = _
  have e : (BitVec.ofInt 64 b &&& BitVec.ofInt 64 63).toNat = (b % 64).toNat := by
    rw [BitVec.toNat_and, BitVec.toNat_ofInt]
    have e2 : (BitVec.ofInt 64 63).toNat = 2 ^ 6 - 1 := by decide
    rw [e2, Nat.and_two_pow_sub_one_eq_mod]
    omega
  rw [e, wrap_small _ (by omega)]
  omega

/-- What an op makes. -/
def mk (op a b imm : Int) : Int :=
  if op = 1 then imm else if op = 2 then wrap64 (a + b) else if op = 3 then wrap64 (a - b) else if op = 4 then wrap64 (a * b)
  else if op = 5 then (if b = 0 then 0 else wrap64 (a.tdiv b)) else if op = 6 then bits .and .i64 a b else if op = 7 then bits .or .i64 a b else if op = 8 then bits .xor .i64 a b
  else if op = 9 then wrap64 (a * 2 ^ (b % 64).toNat) else if op = 10 then a / 2 ^ (b % 64).toNat
  else if op = 11 then (if a < b then 1 else 0) else if op = 12 then (if a = b then 1 else 0) else 0
/-- Whether it refuses. -/
def mkE (op b : Int) : Int := if op < 1 ∨ 12 < op then 3 else if op = 5 ∧ b = 0 then 9 else 0

theorem twelve_ops {P : Int → Prop} (h1 : P 1) (h2 : P 2) (h3 : P 3) (h4 : P 4) (h5 : P 5) (h6 : P 6) (h7 : P 7) (h8 : P 8) (h9 : P 9) (h10 : P 10) (h11 : P 11) (h12 : P 12) (hn : ∀ op, op < 1 ∨ 12 < op → P op) (op : Int) : P op := by
  by_cases h : op < 1 ∨ 12 < op
  · exact hn op h
  · have h' : op = 1 ∨ op = 2 ∨ op = 3 ∨ op = 4 ∨ op = 5 ∨ op = 6 ∨ op = 7 ∨ op = 8 ∨ op = 9 ∨ op = 10 ∨ op = 11 ∨ op = 12 := by omega
    rcases h' with rfl | rfl | rfl | rfl | rfl | rfl | rfl | rfl | rfl | rfl | rfl | rfl <;> assumption
end Go.Proofs.YthlljbifijodeaaDoor
