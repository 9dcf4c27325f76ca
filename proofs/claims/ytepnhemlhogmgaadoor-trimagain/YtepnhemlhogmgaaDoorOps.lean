/- Contracts of the small functions of package ops and code: what an op has, and whether a field fits; no condition but that the table of ops lies in memory as it was laid. -/
import Derived.Test.YtepnhemlhogmgaaDoorProg
import Derived.Test.YtepnhemlhogmgaaDoorMem
import Derived.WalkKit
import Derived.WalkSpells
import Derived.WalkLawsBesides
import Derived.Deep.QuietTactic
import Derived.BigQuiet
namespace Go.Proofs.YtepnhemlhogmgaaDoor
open Go Go.RowKit

/-- The table of ops, as numbers. -/
def hasL : List Int := [0, 9, 7, 7, 7, 7, 7, 7, 7, 7, 7, 7, 7, 3, 6, 16, 18, 39, 3, 2]
/-- What an op has, as bits. -/
def hasOf (op : Int) : Int := if 0 ≤ op ∧ op < 20 then hasL.getD op.toNat 0 else 0
/-- The table lies in memory. -/
def TabOk (w : World) : Prop := ∀ i : Nat, i < 20 → w.cell? ⟨0, i, none⟩ = some (.int .i64 (hasL.getD i 0))

set_option maxRecDepth 100000 in
theorem has_any (op : Int) (w : World) (ht : TabOk w) :
    Calls Tryd.prog 53 #[.int .i64 op] w fun e w' => e = .returned (.int .i64 (hasOf op)) ∧ w' = w := by
  by_cases h0 : 0 ≤ op
  · by_cases h1 : op < 20
    · have hc := ht op.toNat (by omega)
      have e : hasOf op = hasL.getD op.toNat 0 := by unfold hasOf; rw [if_pos ⟨h0, h1⟩]
      rw [e]
      generalize hasL.getD op.toNat 0 = v at hc
      clear e ht
      go_enter Tryd.func53, Tryd.ntmps53
      go_wp2
      go_ret
      exact ⟨rfl, rfl⟩
    · have e : hasOf op = 0 := by unfold hasOf; rw [if_neg (by omega)]
      rw [e]
      clear e ht
      go_enter Tryd.func53, Tryd.ntmps53
      go_wp2
      go_ret
      exact ⟨rfl, rfl⟩
  · have e : hasOf op = 0 := by unfold hasOf; rw [if_neg (by omega)]
    rw [e]
    clear e ht
    go_enter Tryd.func53, Tryd.ntmps53
    go_wp2
    go_ret
    exact ⟨rfl, rfl⟩

def belowB (n most : Int) : Bool := decide (0 ≤ n ∧ n < most)
set_option maxRecDepth 100000 in
theorem below_any (n most : Int) (w : World) :
    Calls Tryd.prog 81 #[.int .i64 n, .int .i64 most] w fun e w' => e = .returned (.bool (belowB n most)) ∧ w' = w := by
  by_cases h0 : 0 ≤ n
  · by_cases h1 : n < most
    · have e : belowB n most = true := by simp [belowB, h0, h1]
      rw [e]; clear e
      go_enter Tryd.func81, Tryd.ntmps81
      go_wp2
      go_ret
      exact ⟨rfl, rfl⟩
    · have e : belowB n most = false := by simp [belowB, h1]
      rw [e]; clear e
      go_enter Tryd.func81, Tryd.ntmps81
      go_wp2
      go_ret
      exact ⟨rfl, rfl⟩
  · have e : belowB n most = false := by simp [belowB, h0]
    rw [e]; clear e
    go_enter Tryd.func81, Tryd.ntmps81
    go_wp2
    go_ret
    exact ⟨rfl, rfl⟩

def roomOf (has part most : Int) : Int := if (bits BinOp.and IntKind.i64 has part == 0) = true then 1 else most
set_option maxRecDepth 100000 in
theorem room_any (has part most : Int) (w : World) :
    Calls Tryd.prog 82 #[.int .i64 has, .int .i64 part, .int .i64 most] w fun e w' => e = .returned (.int .i64 (roomOf has part most)) ∧ w' = w := by
  by_cases h : (bits BinOp.and IntKind.i64 has part == 0) = true
  · have e : roomOf has part most = 1 := by unfold roomOf; rw [if_pos h]
    rw [e]; clear e
    go_enter Tryd.func82, Tryd.ntmps82
    go_wp2
    go_ret
    exact ⟨rfl, rfl⟩
  · have e : roomOf has part most = most := by unfold roomOf; rw [if_neg h]
    rw [e]; clear e
    have h' : (bits BinOp.and IntKind.i64 has part == 0) = false := by simpa using h
    clear h
    go_enter Tryd.func82, Tryd.ntmps82
    go_wp2
    go_ret
    exact ⟨rfl, rfl⟩

def immB (imm has places funcs : Int) : Bool :=
  if (bits BinOp.and IntKind.i64 has 8 != 0) = true then true else if (bits BinOp.and IntKind.i64 has 16 != 0) = true then belowB imm places else belowB imm (roomOf has 32 funcs)
set_option maxRecDepth 100000 in
theorem imm_any (imm has places funcs : Int) (w : World) :
    Calls Tryd.prog 83 #[.int .i64 imm, .int .i64 has, .int .i64 places, .int .i64 funcs] w fun e w' => e = .returned (.bool (immB imm has places funcs)) ∧ w' = w := by
  by_cases h : (bits BinOp.and IntKind.i64 has 8 != 0) = true
  · have e : immB imm has places funcs = true := by unfold immB; rw [if_pos h]
    rw [e]; clear e
    go_enter Tryd.func83, Tryd.ntmps83
    go_wp2
    go_ret
    exact ⟨rfl, rfl⟩
  · have h' : (bits BinOp.and IntKind.i64 has 8 != 0) = false := by simpa using h
    by_cases k : (bits BinOp.and IntKind.i64 has 16 != 0) = true
    · have e : immB imm has places funcs = belowB imm places := by unfold immB; rw [if_neg h, if_pos k]
      rw [e]; clear e h
      go_enter Tryd.func83, Tryd.ntmps83
      go_wp2_with (go_at_call 81; refine (below_any _ _ _).mono ?_; rintro e w' ⟨rfl, rfl⟩)
      go_ret
      exact ⟨rfl, rfl⟩
    · have k' : (bits BinOp.and IntKind.i64 has 16 != 0) = false := by simpa using k
      have e : immB imm has places funcs = belowB imm (roomOf has 32 funcs) := by unfold immB; rw [if_neg h, if_neg k]
      rw [e]; clear e h k
      go_enter Tryd.func83, Tryd.ntmps83
      go_wp2_with (first | (go_at_call 81; refine (below_any _ _ _).mono ?_; rintro e w' ⟨rfl, rfl⟩) | (go_at_call 82; refine (room_any _ _ _ _).mono ?_; rintro e w' ⟨rfl, rfl⟩))
      go_ret
      exact ⟨rfl, rfl⟩

theorem TabOk.pos {w : World} (h : TabOk w) : 0 < w.heap.size := World.block_lt_of_cell? _ _ (h 0 (by omega))
theorem TabOk.below {w w' : World} (h : TabOk w) (hb : Below w.heap.size w w') : TabOk w' := fun i hi => (hb.cell (p := ⟨0, i, none⟩) h.pos).trans (h i hi)

/-- What code's own check says of an instruction. -/
def codeInstr (x : Ins) (regs places funcs : Int) : Int :=
  if (hasOf x.op == 0) = true then 3
  else if belowB x.dst (roomOf (hasOf x.op) 1 regs) = false then 2
  else if belowB x.a (roomOf (hasOf x.op) 2 regs) = false then 2
  else if belowB x.b (roomOf (hasOf x.op) 4 regs) = false then 2
  else if immB x.imm (hasOf x.op) places funcs = false then 2 else 0

set_option maxRecDepth 100000 in
set_option maxHeartbeats 1000000 in
theorem instr_any (x : Ins) (regs places funcs : Int) (w : World) (ht : TabOk w) :
    Calls Tryd.prog 70 #[x.val, .int .i64 regs, .int .i64 places, .int .i64 funcs] w fun e w' => e = .returned (.int .i64 (codeInstr x regs places funcs)) ∧ Below w.heap.size w w' := by
  obtain ⟨op, dst, a, b, imm⟩ := x
  have hta : ∀ o, TabOk (w.alloc o) := fun o => ht.below ((Below.refl _ _).alloc (Nat.le_refl _) _)
  unfold codeInstr Ins.val
  dsimp only
  by_cases h0 : (hasOf op == 0) = true
  · rw [if_pos h0]
    go_enter Tryd.func70, Tryd.ntmps70
    go_wp2_with (go_at_call 53; refine (has_any _ _ (hta _)).mono ?_; rintro e w' ⟨rfl, rfl⟩)
    go_ret
    exact ⟨rfl, (Below.refl _ _).alloc (Nat.le_refl _) _⟩
  rw [if_neg h0]
  have h0' : (hasOf op == 0) = false := by simpa using h0
  clear h0
  by_cases h1 : belowB dst (roomOf (hasOf op) 1 regs) = false
  · rw [if_pos h1]
    go_enter Tryd.func70, Tryd.ntmps70
    go_wp2_with (go_at_call 53; refine (has_any _ _ (hta _)).mono ?_; rintro e w' ⟨rfl, rfl⟩)
    go_quiet ((first | (go_at_call 82; exact Calls.quiet_of_same (room_any _ _ _ _)) | (go_at_call 81; exact Calls.quiet_of_same (below_any _ _ _))))
    go_wp2_with (go_at_call 83; refine (imm_any _ _ _ _ _).mono ?_; rintro e w' ⟨rfl, rfl⟩)
    go_ret
    exact ⟨rfl, below_drewN ((Below.refl _ _).alloc (Nat.le_refl _) _) _⟩
  rw [if_neg h1]
  replace h1 : belowB dst (roomOf (hasOf op) 1 regs) = true := by simpa using h1
  by_cases h2 : belowB a (roomOf (hasOf op) 2 regs) = false
  · rw [if_pos h2]
    go_enter Tryd.func70, Tryd.ntmps70
    go_wp2_with (go_at_call 53; refine (has_any _ _ (hta _)).mono ?_; rintro e w' ⟨rfl, rfl⟩)
    go_quiet ((first | (go_at_call 82; exact Calls.quiet_of_same (room_any _ _ _ _)) | (go_at_call 81; exact Calls.quiet_of_same (below_any _ _ _))))
    go_wp2_with (go_at_call 83; refine (imm_any _ _ _ _ _).mono ?_; rintro e w' ⟨rfl, rfl⟩)
    go_ret
    exact ⟨rfl, below_drewN ((Below.refl _ _).alloc (Nat.le_refl _) _) _⟩
  rw [if_neg h2]
  replace h2 : belowB a (roomOf (hasOf op) 2 regs) = true := by simpa using h2
  by_cases h3 : belowB b (roomOf (hasOf op) 4 regs) = false
  · rw [if_pos h3]
    go_enter Tryd.func70, Tryd.ntmps70
    go_wp2_with (go_at_call 53; refine (has_any _ _ (hta _)).mono ?_; rintro e w' ⟨rfl, rfl⟩)
    go_quiet ((first | (go_at_call 82; exact Calls.quiet_of_same (room_any _ _ _ _)) | (go_at_call 81; exact Calls.quiet_of_same (below_any _ _ _))))
    go_wp2_with (go_at_call 83; refine (imm_any _ _ _ _ _).mono ?_; rintro e w' ⟨rfl, rfl⟩)
    go_ret
    exact ⟨rfl, below_drewN ((Below.refl _ _).alloc (Nat.le_refl _) _) _⟩
  rw [if_neg h3]
  replace h3 : belowB b (roomOf (hasOf op) 4 regs) = true := by simpa using h3
  by_cases h4 : immB imm (hasOf op) places funcs = false
  · rw [if_pos h4]
    go_enter Tryd.func70, Tryd.ntmps70
    go_wp2_with (go_at_call 53; refine (has_any _ _ (hta _)).mono ?_; rintro e w' ⟨rfl, rfl⟩)
    go_quiet ((first | (go_at_call 82; exact Calls.quiet_of_same (room_any _ _ _ _)) | (go_at_call 81; exact Calls.quiet_of_same (below_any _ _ _))))
    go_wp2_with (go_at_call 83; refine (imm_any _ _ _ _ _).mono ?_; rintro e w' ⟨rfl, rfl⟩)
    go_ret
    exact ⟨rfl, below_drewN ((Below.refl _ _).alloc (Nat.le_refl _) _) _⟩
  · rw [if_neg h4]
    replace h4 : immB imm (hasOf op) places funcs = true := by simpa using h4
    go_enter Tryd.func70, Tryd.ntmps70
    go_wp2_with (go_at_call 53; refine (has_any _ _ (hta _)).mono ?_; rintro e w' ⟨rfl, rfl⟩)
    go_quiet ((first | (go_at_call 82; exact Calls.quiet_of_same (room_any _ _ _ _)) | (go_at_call 81; exact Calls.quiet_of_same (below_any _ _ _))))
    go_wp2_with (go_at_call 83; refine (imm_any _ _ _ _ _).mono ?_; rintro e w' ⟨rfl, rfl⟩)
    go_ret
    exact ⟨rfl, below_drewN ((Below.refl _ _).alloc (Nat.le_refl _) _) _⟩

end Go.Proofs.YtepnhemlhogmgaaDoor
