/- Contract of the document's answer to P1.3 (tierlineref.ProgramFault), and that it says of each program what code.Check says. -/
import Derived.Test.YtepnhemlhogmgaaDoorRef
import Derived.Test.YtepnhemlhogmgaaDoorCheck
namespace Go.Proofs.YtepnhemlhogmgaaDoor
open Go Go.RowKit

def refFunc (f : Fn) (funcs : Int) : Int :=
  if inB f.regs 1 12 = false then 2 else if inB f.params 0 2 = false then 2 else if f.regs < f.params then 2
  else if inB f.code.length 1 40 = false then 1
  else firstErr (fun x => refInstr x f.regs f.code.length funcs) f.code
def refProg (p : List Fn) : Int :=
  if inB p.length 1 4 = false then 1 else firstErr (fun f => refFunc f p.length) p

theorem bt9_1 : bits BinOp.and IntKind.i64 9 1 = 1 := by decide
theorem bt9_2 : bits BinOp.and IntKind.i64 9 2 = 0 := by decide
theorem bt9_4 : bits BinOp.and IntKind.i64 9 4 = 0 := by decide
theorem bt9_8 : bits BinOp.and IntKind.i64 9 8 = 8 := by decide
theorem bt7_1 : bits BinOp.and IntKind.i64 7 1 = 1 := by decide
theorem bt7_2 : bits BinOp.and IntKind.i64 7 2 = 2 := by decide
theorem bt7_4 : bits BinOp.and IntKind.i64 7 4 = 4 := by decide
theorem bt7_8 : bits BinOp.and IntKind.i64 7 8 = 0 := by decide
theorem bt7_16 : bits BinOp.and IntKind.i64 7 16 = 0 := by decide
theorem bt7_32 : bits BinOp.and IntKind.i64 7 32 = 0 := by decide
theorem bt3_1 : bits BinOp.and IntKind.i64 3 1 = 1 := by decide
theorem bt3_2 : bits BinOp.and IntKind.i64 3 2 = 2 := by decide
theorem bt3_4 : bits BinOp.and IntKind.i64 3 4 = 0 := by decide
theorem bt3_8 : bits BinOp.and IntKind.i64 3 8 = 0 := by decide
theorem bt3_16 : bits BinOp.and IntKind.i64 3 16 = 0 := by decide
theorem bt3_32 : bits BinOp.and IntKind.i64 3 32 = 0 := by decide
theorem bt6_1 : bits BinOp.and IntKind.i64 6 1 = 0 := by decide
theorem bt6_2 : bits BinOp.and IntKind.i64 6 2 = 2 := by decide
theorem bt6_4 : bits BinOp.and IntKind.i64 6 4 = 4 := by decide
theorem bt6_8 : bits BinOp.and IntKind.i64 6 8 = 0 := by decide
theorem bt6_16 : bits BinOp.and IntKind.i64 6 16 = 0 := by decide
theorem bt6_32 : bits BinOp.and IntKind.i64 6 32 = 0 := by decide
theorem bt16_1 : bits BinOp.and IntKind.i64 16 1 = 0 := by decide
theorem bt16_2 : bits BinOp.and IntKind.i64 16 2 = 0 := by decide
theorem bt16_4 : bits BinOp.and IntKind.i64 16 4 = 0 := by decide
theorem bt16_8 : bits BinOp.and IntKind.i64 16 8 = 0 := by decide
theorem bt16_16 : bits BinOp.and IntKind.i64 16 16 = 16 := by decide
theorem bt18_1 : bits BinOp.and IntKind.i64 18 1 = 0 := by decide
theorem bt18_2 : bits BinOp.and IntKind.i64 18 2 = 2 := by decide
theorem bt18_4 : bits BinOp.and IntKind.i64 18 4 = 0 := by decide
theorem bt18_8 : bits BinOp.and IntKind.i64 18 8 = 0 := by decide
theorem bt18_16 : bits BinOp.and IntKind.i64 18 16 = 16 := by decide
theorem bt39_1 : bits BinOp.and IntKind.i64 39 1 = 1 := by decide
theorem bt39_2 : bits BinOp.and IntKind.i64 39 2 = 2 := by decide
theorem bt39_4 : bits BinOp.and IntKind.i64 39 4 = 4 := by decide
theorem bt39_8 : bits BinOp.and IntKind.i64 39 8 = 0 := by decide
theorem bt39_16 : bits BinOp.and IntKind.i64 39 16 = 0 := by decide
theorem bt39_32 : bits BinOp.and IntKind.i64 39 32 = 32 := by decide
theorem bt2_1 : bits BinOp.and IntKind.i64 2 1 = 0 := by decide
theorem bt2_2 : bits BinOp.and IntKind.i64 2 2 = 2 := by decide
theorem bt2_4 : bits BinOp.and IntKind.i64 2 4 = 0 := by decide
theorem bt2_8 : bits BinOp.and IntKind.i64 2 8 = 0 := by decide
theorem bt2_16 : bits BinOp.and IntKind.i64 2 16 = 0 := by decide
theorem bt2_32 : bits BinOp.and IntKind.i64 2 32 = 0 := by decide
/-- The two say one thing of an instruction. -/
theorem instr_same (x : Ins) (regs places funcs : Int) : codeInstr x regs places funcs = refInstr x regs places funcs := by
  obtain ⟨op, dst, a, b, imm⟩ := x
  by_cases h : 1 ≤ op ∧ op ≤ 19
  · obtain ⟨m, rfl⟩ : ∃ m : Nat, op = m := ⟨op.toNat, by omega⟩
    have hm : m = 1 ∨ m = 2 ∨ m = 3 ∨ m = 4 ∨ m = 5 ∨ m = 6 ∨ m = 7 ∨ m = 8 ∨ m = 9 ∨ m = 10 ∨ m = 11 ∨ m = 12 ∨ m = 13 ∨ m = 14 ∨ m = 15 ∨ m = 16 ∨ m = 17 ∨ m = 18 ∨ m = 19 := by omega
    rcases hm with rfl | rfl | rfl | rfl | rfl | rfl | rfl | rfl | rfl | rfl | rfl | rfl | rfl | rfl | rfl | rfl | rfl | rfl | rfl
    all_goals
      simp [codeInstr, refInstr, refOk1, refOk2, regMayB, setsB, readsAB, readsBB, inB, belowB, roomOf, immB, hasOf, hasL, bt9_1, bt9_2, bt9_4, bt9_8, bt7_1, bt7_2, bt7_4, bt7_8, bt7_16, bt7_32, bt3_1, bt3_2, bt3_4, bt3_8, bt3_16, bt3_32, bt6_1, bt6_2, bt6_4, bt6_8, bt6_16, bt6_32, bt16_1, bt16_2, bt16_4, bt16_8, bt16_16, bt18_1, bt18_2, bt18_4, bt18_8, bt18_16, bt39_1, bt39_2, bt39_4, bt39_8, bt39_16, bt39_32, bt2_1, bt2_2, bt2_4, bt2_8, bt2_16, bt2_32]
      repeat' split
      all_goals first | rfl | omega
  · have e : hasOf op = 0 := by
      unfold hasOf
      by_cases c : 0 ≤ op ∧ op < 20
      · rw [if_pos c]
        have : op = 0 := by omega
        subst this; rfl
      · rw [if_neg c]
    have e' : inB op 1 19 = false := by simp [inB]; omega
    unfold codeInstr refInstr
    dsimp only
    rw [e, e']
    rfl


theorem func_same (f : Fn) (funcs : Int) : codeFunc f funcs = refFunc f funcs := by
  have e : (fun x => codeInstr x f.regs f.code.length funcs) = fun x => refInstr x f.regs f.code.length funcs := funext fun x => instr_same x _ _ _
  unfold codeFunc refFunc
  rw [e]
  generalize firstErr (fun x => refInstr x f.regs f.code.length funcs) f.code = r
  simp only [inB, decide_eq_false_iff_not]
  repeat' split
  all_goals first | rfl | omega

theorem prog_same (p : List Fn) : codeProg p = refProg p := by
  have e : (fun f => codeFunc f p.length) = fun f => refFunc f p.length := funext fun f => func_same f _
  unfold codeProg refProg
  rw [e]
  generalize firstErr (fun f => refFunc f p.length) p = r
  simp only [inB, decide_eq_false_iff_not]
  repeat' split
  all_goals first | rfl | omega

end Go.Proofs.YtepnhemlhogmgaaDoor
