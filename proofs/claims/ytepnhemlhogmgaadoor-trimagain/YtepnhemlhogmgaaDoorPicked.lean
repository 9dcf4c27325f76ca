/- Contracts of tierlinekeep.picked and tierlinekeep.instr: an instruction of raw numbers. -/
import Derived.Test.YtepnhemlhogmgaaDoorOpen
import Derived.Test.YtepnhemlhogmgaaDoorProg
import Derived.WalkLawsBesides
namespace Go.Proofs.YtepnhemlhogmgaaDoor
open Go Go.RowKit

def pickI (n many : Int) : Int := (if n < 0 then -(n + 1) else n) % many
theorem pickI_bounds (n many : Int) (h : 0 < many) : 0 ≤ pickI n many ∧ pickI n many < many := by
  unfold pickI
  exact ⟨Int.emod_nonneg _ (by omega), Int.emod_lt_of_pos _ h⟩

set_option maxRecDepth 100000 in
theorem picked_any (n many : Int) (w : World) (hn : I64 n) (h1 : 0 < many) (h2 : many ≤ 1000000) :
    Calls Tryd.prog 22 #[.int .i64 n, .int .i64 many] w fun e w' => e = .returned (.int .i64 (pickI n many)) ∧ w' = w := by
  unfold I64 at hn
  have hm : ¬ many = 0 := by omega
  by_cases h : n < 0
  · have e : pickI n many = (-(n + 1)) % many := by unfold pickI; rw [if_pos h]
    rw [e]
    clear e
    go_enter Tryd.func22, Tryd.ntmps22
    go_wp2
    go_ret
    exact ⟨ret_int (by rw [← Int.neg_tmod, Int.tmod_eq_emod_of_nonneg (by omega)]), rfl⟩
  · have e : pickI n many = n % many := by unfold pickI; rw [if_neg h]
    rw [e]
    clear e
    go_enter Tryd.func22, Tryd.ntmps22
    go_wp2
    go_ret
    exact ⟨ret_int (by first | rfl | omega), rfl⟩

/-- An instruction of raw numbers. -/
def mkIns (x : Ins) (regs places funcs : Int) : Ins :=
  if 1 + pickI x.op 19 = 1 then ⟨1 + pickI x.op 19, pickI x.dst regs, 0, 0, x.imm⟩
  else if 1 + pickI x.op 19 ≤ 12 then ⟨1 + pickI x.op 19, pickI x.dst regs, pickI x.a regs, pickI x.b regs, 0⟩
  else if 1 + pickI x.op 19 = 13 ∨ 1 + pickI x.op 19 = 18 then ⟨1 + pickI x.op 19, pickI x.dst regs, pickI x.a regs, 0, 0⟩
  else if 1 + pickI x.op 19 = 14 then ⟨1 + pickI x.op 19, 0, pickI x.a regs, pickI x.b regs, 0⟩
  else if 1 + pickI x.op 19 = 15 then ⟨1 + pickI x.op 19, 0, 0, 0, pickI x.imm places⟩
  else if 1 + pickI x.op 19 = 16 then ⟨1 + pickI x.op 19, 0, pickI x.a regs, 0, pickI x.imm places⟩
  else if 1 + pickI x.op 19 = 17 then ⟨1 + pickI x.op 19, pickI x.dst regs, pickI x.a regs, pickI x.b regs, pickI x.imm funcs⟩
  else ⟨1 + pickI x.op 19, 0, pickI x.a regs, 0, 0⟩

set_option maxRecDepth 100000 in
set_option maxHeartbeats 2000000 in
theorem instr_mk (x : Ins) (regs places funcs : Int) (w : World) (hx : x.wf) (h1 : 1 ≤ regs) (h2 : regs ≤ 12) (h3 : 1 ≤ places) (h4 : places ≤ 100) (h5 : 1 ≤ funcs) (h6 : funcs ≤ 4) :
    Calls Tryd.prog 54 #[x.val, .int .i64 regs, .int .i64 places, .int .i64 funcs] w fun e w' => e = .returned (mkIns x regs places funcs).val ∧ Below w.heap.size w w' := by
  obtain ⟨op, dst, a, b, imm⟩ := x
  obtain ⟨ho, hd, ha, hb, hi⟩ := hx
  dsimp only at ho hd ha hb hi
  have hob := pickI_bounds op 19 (by decide)
  unfold Ins.val
  unfold mkIns
  dsimp only
  have hh : 0 < regs ∧ regs ≤ 1000000 ∧ 0 < places ∧ places ≤ 1000000 ∧ 0 < funcs ∧ funcs ≤ 1000000 := by omega
  by_cases c1 : 1 + pickI op 19 = 1
  · rw [if_pos c1]
    dsimp only
    have c0 : pickI op 19 = 0 := by omega
    rw [c0] at c1 ⊢
    clear c1
    go_enter Tryd.func54, Tryd.ntmps54
    go_wp2_with (go_at_call 22; refine (picked_any _ _ _ ?_ ?_ ?_).mono ?_; (first | exact ho | exact hd | exact ha | exact hb | exact hi); omega; omega; rintro e w' ⟨rfl, rfl⟩)
    exact bodyPost_ret (v := .agg #[.int .i64 (1 + 0), .int .i64 (pickI dst regs), .int .i64 (0), .int .i64 (0), .int .i64 (imm)]) (by simp [results, Tryd.results54, go_sem]) rfl ⟨rfl, (((Below.refl _ _).alloc (Nat.le_refl _) _).alloc (by simp) _).alloc (by simp; omega) _⟩
  rw [if_neg c1]
  by_cases c2 : 1 + pickI op 19 ≤ 12
  · rw [if_pos c2]
    dsimp only
    have c1' : (1 + pickI op 19 == 1) = false := by simpa using c1
    go_enter Tryd.func54, Tryd.ntmps54
    go_wp2_with (go_at_call 22; refine (picked_any _ _ _ ?_ ?_ ?_).mono ?_; (first | exact ho | exact hd | exact ha | exact hb | exact hi); omega; omega; rintro e w' ⟨rfl, rfl⟩)
    exact bodyPost_ret (v := .agg #[.int .i64 (1 + pickI op 19), .int .i64 (pickI dst regs), .int .i64 (pickI a regs), .int .i64 (pickI b regs), .int .i64 (0)]) (by simp [results, Tryd.results54, go_sem]) rfl ⟨rfl, (((Below.refl _ _).alloc (Nat.le_refl _) _).alloc (by simp) _).alloc (by simp; omega) _⟩
  rw [if_neg c2]
  by_cases c3 : 1 + pickI op 19 = 13 ∨ 1 + pickI op 19 = 18
  · rw [if_pos c3]
    dsimp only
    rcases c3 with c3 | c3
    · have c0 : pickI op 19 = 12 := by omega
      rw [c0]
      clear c3 c2 c1
      go_enter Tryd.func54, Tryd.ntmps54
      go_wp2_with (go_at_call 22; refine (picked_any _ _ _ ?_ ?_ ?_).mono ?_; (first | exact ho | exact hd | exact ha | exact hb | exact hi); omega; omega; rintro e w' ⟨rfl, rfl⟩)
      exact bodyPost_ret (v := .agg #[.int .i64 (1 + 12), .int .i64 (pickI dst regs), .int .i64 (pickI a regs), .int .i64 (0), .int .i64 (0)]) (by simp [results, Tryd.results54, go_sem]) rfl ⟨rfl, (((Below.refl _ _).alloc (Nat.le_refl _) _).alloc (by simp) _).alloc (by simp; omega) _⟩
    · have c0 : pickI op 19 = 17 := by omega
      rw [c0]
      clear c3 c2 c1
      go_enter Tryd.func54, Tryd.ntmps54
      go_wp2_with (go_at_call 22; refine (picked_any _ _ _ ?_ ?_ ?_).mono ?_; (first | exact ho | exact hd | exact ha | exact hb | exact hi); omega; omega; rintro e w' ⟨rfl, rfl⟩)
      exact bodyPost_ret (v := .agg #[.int .i64 (1 + 17), .int .i64 (pickI dst regs), .int .i64 (pickI a regs), .int .i64 (0), .int .i64 (0)]) (by simp [results, Tryd.results54, go_sem]) rfl ⟨rfl, (((Below.refl _ _).alloc (Nat.le_refl _) _).alloc (by simp) _).alloc (by simp; omega) _⟩
  rw [if_neg c3]
  by_cases c14 : 1 + pickI op 19 = 14
  · rw [if_pos c14]
    dsimp only
    have c0 : pickI op 19 = 13 := by omega
    rw [c0] at c14 ⊢
    clear c14
    go_enter Tryd.func54, Tryd.ntmps54
    go_wp2_with (go_at_call 22; refine (picked_any _ _ _ ?_ ?_ ?_).mono ?_; (first | exact ho | exact hd | exact ha | exact hb | exact hi); omega; omega; rintro e w' ⟨rfl, rfl⟩)
    exact bodyPost_ret (v := .agg #[.int .i64 (1 + 13), .int .i64 (0), .int .i64 (pickI a regs), .int .i64 (pickI b regs), .int .i64 (0)]) (by simp [results, Tryd.results54, go_sem]) rfl ⟨rfl, (((Below.refl _ _).alloc (Nat.le_refl _) _).alloc (by simp) _).alloc (by simp; omega) _⟩
  rw [if_neg c14]
  by_cases c15 : 1 + pickI op 19 = 15
  · rw [if_pos c15]
    dsimp only
    have c0 : pickI op 19 = 14 := by omega
    rw [c0] at c15 ⊢
    clear c15
    go_enter Tryd.func54, Tryd.ntmps54
    go_wp2_with (go_at_call 22; refine (picked_any _ _ _ ?_ ?_ ?_).mono ?_; (first | exact ho | exact hd | exact ha | exact hb | exact hi); omega; omega; rintro e w' ⟨rfl, rfl⟩)
    exact bodyPost_ret (v := .agg #[.int .i64 (1 + 14), .int .i64 (0), .int .i64 (0), .int .i64 (0), .int .i64 (pickI imm places)]) (by simp [results, Tryd.results54, go_sem]) rfl ⟨rfl, (((Below.refl _ _).alloc (Nat.le_refl _) _).alloc (by simp) _).alloc (by simp; omega) _⟩
  rw [if_neg c15]
  by_cases c16 : 1 + pickI op 19 = 16
  · rw [if_pos c16]
    dsimp only
    have c0 : pickI op 19 = 15 := by omega
    rw [c0] at c16 ⊢
    clear c16
    go_enter Tryd.func54, Tryd.ntmps54
    go_wp2_with (go_at_call 22; refine (picked_any _ _ _ ?_ ?_ ?_).mono ?_; (first | exact ho | exact hd | exact ha | exact hb | exact hi); omega; omega; rintro e w' ⟨rfl, rfl⟩)
    exact bodyPost_ret (v := .agg #[.int .i64 (1 + 15), .int .i64 (0), .int .i64 (pickI a regs), .int .i64 (0), .int .i64 (pickI imm places)]) (by simp [results, Tryd.results54, go_sem]) rfl ⟨rfl, (((Below.refl _ _).alloc (Nat.le_refl _) _).alloc (by simp) _).alloc (by simp; omega) _⟩
  rw [if_neg c16]
  by_cases c17 : 1 + pickI op 19 = 17
  · rw [if_pos c17]
    dsimp only
    have c0 : pickI op 19 = 16 := by omega
    rw [c0] at c17 ⊢
    clear c17
    go_enter Tryd.func54, Tryd.ntmps54
    go_wp2_with (go_at_call 22; refine (picked_any _ _ _ ?_ ?_ ?_).mono ?_; (first | exact ho | exact hd | exact ha | exact hb | exact hi); omega; omega; rintro e w' ⟨rfl, rfl⟩)
    exact bodyPost_ret (v := .agg #[.int .i64 (1 + 16), .int .i64 (pickI dst regs), .int .i64 (pickI a regs), .int .i64 (pickI b regs), .int .i64 (pickI imm funcs)]) (by simp [results, Tryd.results54, go_sem]) rfl ⟨rfl, (((Below.refl _ _).alloc (Nat.le_refl _) _).alloc (by simp) _).alloc (by simp; omega) _⟩
  rw [if_neg c17]
  · dsimp only
    have c0 : pickI op 19 = 18 := by omega
    rw [c0]
    clear c17 c16 c15 c14 c3 c2 c1
    go_enter Tryd.func54, Tryd.ntmps54
    go_wp2_with (go_at_call 22; refine (picked_any _ _ _ ?_ ?_ ?_).mono ?_; (first | exact ho | exact hd | exact ha | exact hb | exact hi); omega; omega; rintro e w' ⟨rfl, rfl⟩)
    exact bodyPost_ret (v := .agg #[.int .i64 (1 + 18), .int .i64 (0), .int .i64 (pickI a regs), .int .i64 (0), .int .i64 (0)]) (by simp [results, Tryd.results54, go_sem]) rfl ⟨rfl, (((Below.refl _ _).alloc (Nat.le_refl _) _).alloc (by simp) _).alloc (by simp; omega) _⟩

end Go.Proofs.YtepnhemlhogmgaaDoor
