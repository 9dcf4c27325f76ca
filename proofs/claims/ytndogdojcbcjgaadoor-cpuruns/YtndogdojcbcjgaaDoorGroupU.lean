/- Texts put together: CpuOps, CpuMem, CpuDo, CpuVal, CpuStep, CpuRun. -/
import Derived.Test.YtndogdojcbcjgaaDoorProg
import Derived.Test.YtndogdojcbcjgaaDoorGroupX
import Derived.Test.YtndogdojcbcjgaaDoorGroupA
import Derived.Test.YtndogdojcbcjgaaDoorGroupV
import Derived.Test.YtndogdojcbcjgaaDoorGroupB
import Derived.BigQuiet
import Derived.Deep.Cut
import Derived.Laws.ResultCell
import Derived.Test.YtndogdojcbcjgaaDoorXRvKeep
import Derived.Deep.DeepCutAuto
/- Contracts of cpu.shift, truth, divided, made, holds, isWord (written by gen/mkcpu.py): what each answers, in plain numbers. No condition. -/
namespace Go.Proofs.YtndogdojcbcjgaaDoor
open Go Go.RowKit

theorem wrapU (a : Int) : IntKind.u64.wrap a = a % 18446744073709551616 := by
  simp [IntKind.wrap, IntKind.bits, IntKind.signed]
theorem cshift_any (b : Int) (w : World) :
    Calls Tryd.prog 160 #[.int .i64 b] w fun e w' => e = .returned (.int .i64 (b % 64)) ∧ w' = w := by
  have h := bits_low b
  go_enter Tryd.func160, Tryd.ntmps160
  go_wp2
  go_ret
  exact ⟨rfl, rfl⟩
theorem ctruth_any (c : Bool) (w : World) :
    Calls Tryd.prog 161 #[.bool c] w fun e w' => e = .returned (.int .i64 (if c = true then 1 else 0)) ∧ w' = w := by
  cases c
  · go_enter Tryd.func161, Tryd.ntmps161
    go_wp2
    go_ret
    exact ⟨rfl, rfl⟩
  · go_enter Tryd.func161, Tryd.ntmps161
    go_wp2
    go_ret
    exact ⟨rfl, rfl⟩
theorem divided_any (a b : Int) (w : World) :
    Calls Tryd.prog 159 #[.int .i64 a, .int .i64 b] w fun e w' => e = .returned (.int .i64 (if b = 0 then -1 else wrap64 (a.tdiv b))) ∧ w' = w := by
  by_cases hb : b = 0
  · rw [if_pos hb]
    subst hb
    go_enter Tryd.func159, Tryd.ntmps159
    go_wp2
    go_ret
    exact ⟨rfl, rfl⟩
  · rw [if_neg hb]
    go_enter Tryd.func159, Tryd.ntmps159
    go_wp2
    go_ret
    exact ⟨rfl, rfl⟩
theorem holds_any (op a b : Int) (w : World) :
    Calls Tryd.prog 158 #[.int .i64 op, .int .i64 a, .int .i64 b] w fun e w' => e = .returned (.bool (holdsB op a b)) ∧ w' = w := by
  by_cases h1 : op = 22
  · subst h1
    rw [show holdsB 22 a b = decide (a = b) from rfl]
    go_enter Tryd.func158, Tryd.ntmps158
    go_wp2
    go_ret
    exact ⟨rfl, rfl⟩
  by_cases h2 : op = 23
  · subst h2
    rw [show holdsB 23 a b = decide (a ≠ b) from rfl]
    go_enter Tryd.func158, Tryd.ntmps158
    go_wp2
    go_ret
    refine ⟨?_, rfl⟩
    by_cases h : a = b <;> simp [h]
  by_cases h3 : op = 24
  · subst h3
    rw [show holdsB 24 a b = decide (a < b) from rfl]
    go_enter Tryd.func158, Tryd.ntmps158
    go_wp2
    go_ret
    exact ⟨rfl, rfl⟩
  · rw [show holdsB op a b = decide (b ≤ a) by simp [holdsB, h1, h2, h3]]
    go_enter Tryd.func158, Tryd.ntmps158
    go_wp2
    go_ret
    exact ⟨rfl, rfl⟩
theorem isWord_any (t : Int) (w : World) :
    Calls Tryd.prog 157 #[.int .i64 t] w fun e w' => e = .returned (.bool (isW t)) ∧ w' = w := by
  by_cases h1 : 0 ≤ t
  · by_cases h2 : t < 512
    · have e : isW t = (t % 8 == 0) := by
        unfold isW
        by_cases h : t % 8 = 0 <;> simp [h, h1, h2]
      rw [e]
      clear e
      go_enter Tryd.func157, Tryd.ntmps157
      go_wp2
      go_ret
      exact ⟨rfl, rfl⟩
    · have e : isW t = false := by simp [isW, h2]
      rw [e]; clear e
      go_enter Tryd.func157, Tryd.ntmps157
      go_wp2
      go_ret
      exact ⟨rfl, rfl⟩
  · have e : isW t = false := by simp [isW, h1]
    rw [e]; clear e
    go_enter Tryd.func157, Tryd.ntmps157
    go_wp2
    go_ret
    exact ⟨rfl, rfl⟩

theorem made_1 (rd rs1 rs2 imm a b : Int) (w : World) :
    Calls Tryd.prog 138 #[(Mi.mk 1 rd rs1 rs2 imm).val, .int .i64 a, .int .i64 b] w fun e w' => e = .returned (.int .i64 (wrap64 (a + b))) ∧ Below w.heap.size w w' := by
  unfold Mi.val
  dsimp only
  go_enter Tryd.func138, Tryd.ntmps138
  go_wp2
  go_ret
  exact ⟨rfl, (Below.refl _ _).alloc (Nat.le_refl _) _⟩
theorem made_2 (rd rs1 rs2 imm a b : Int) (w : World) :
    Calls Tryd.prog 138 #[(Mi.mk 2 rd rs1 rs2 imm).val, .int .i64 a, .int .i64 b] w fun e w' => e = .returned (.int .i64 (wrap64 (a - b))) ∧ Below w.heap.size w w' := by
  unfold Mi.val
  dsimp only
  go_enter Tryd.func138, Tryd.ntmps138
  go_wp2
  go_ret
  exact ⟨rfl, (Below.refl _ _).alloc (Nat.le_refl _) _⟩
theorem made_3 (rd rs1 rs2 imm a b : Int) (w : World) :
    Calls Tryd.prog 138 #[(Mi.mk 3 rd rs1 rs2 imm).val, .int .i64 a, .int .i64 b] w fun e w' => e = .returned (.int .i64 (wrap64 (a * b))) ∧ Below w.heap.size w w' := by
  unfold Mi.val
  dsimp only
  go_enter Tryd.func138, Tryd.ntmps138
  go_wp2
  go_ret
  exact ⟨rfl, (Below.refl _ _).alloc (Nat.le_refl _) _⟩
theorem made_4 (rd rs1 rs2 imm a b : Int) (w : World) :
    Calls Tryd.prog 138 #[(Mi.mk 4 rd rs1 rs2 imm).val, .int .i64 a, .int .i64 b] w fun e w' => e = .returned (.int .i64 ((if b = 0 then -1 else wrap64 (a.tdiv b)))) ∧ Below w.heap.size w w' := by
  have hc := fun w => divided_any a b w
  generalize (if b = 0 then -1 else wrap64 (a.tdiv b)) = D at *
  unfold Mi.val
  dsimp only
  go_enter Tryd.func138, Tryd.ntmps138
  go_wp2_with (go_at_call 159; refine (hc _).mono ?_; rintro e w' ⟨rfl, rfl⟩)
  go_ret
  exact ⟨rfl, (Below.refl _ _).alloc (Nat.le_refl _) _⟩
theorem made_5 (rd rs1 rs2 imm a b : Int) (w : World) :
    Calls Tryd.prog 138 #[(Mi.mk 5 rd rs1 rs2 imm).val, .int .i64 a, .int .i64 b] w fun e w' => e = .returned (.int .i64 (bits .and .i64 a b)) ∧ Below w.heap.size w w' := by
  unfold Mi.val
  dsimp only
  go_enter Tryd.func138, Tryd.ntmps138
  go_wp2
  go_ret
  exact ⟨rfl, (Below.refl _ _).alloc (Nat.le_refl _) _⟩
theorem made_6 (rd rs1 rs2 imm a b : Int) (w : World) :
    Calls Tryd.prog 138 #[(Mi.mk 6 rd rs1 rs2 imm).val, .int .i64 a, .int .i64 b] w fun e w' => e = .returned (.int .i64 (bits .or .i64 a b)) ∧ Below w.heap.size w w' := by
  unfold Mi.val
  dsimp only
  go_enter Tryd.func138, Tryd.ntmps138
  go_wp2
  go_ret
  exact ⟨rfl, (Below.refl _ _).alloc (Nat.le_refl _) _⟩
theorem made_7 (rd rs1 rs2 imm a b : Int) (w : World) :
    Calls Tryd.prog 138 #[(Mi.mk 7 rd rs1 rs2 imm).val, .int .i64 a, .int .i64 b] w fun e w' => e = .returned (.int .i64 (bits .xor .i64 a b)) ∧ Below w.heap.size w w' := by
  unfold Mi.val
  dsimp only
  go_enter Tryd.func138, Tryd.ntmps138
  go_wp2
  go_ret
  exact ⟨rfl, (Below.refl _ _).alloc (Nat.le_refl _) _⟩
theorem made_8 (rd rs1 rs2 imm a b : Int) (w : World) :
    Calls Tryd.prog 138 #[(Mi.mk 8 rd rs1 rs2 imm).val, .int .i64 a, .int .i64 b] w fun e w' => e = .returned (.int .i64 (wrap64 (a * 2 ^ (b % 64).toNat))) ∧ Below w.heap.size w w' := by
  have hc := fun w => cshift_any b w
  have hm0 : 0 ≤ b % 64 := by omega
  have hm1 : b % 64 < 64 := by omega
  unfold Mi.val
  dsimp only
  go_enter Tryd.func138, Tryd.ntmps138
  go_wp2_with (go_at_call 160; refine (hc _).mono ?_; rintro e w' ⟨rfl, rfl⟩)
  go_ret
  exact ⟨rfl, (Below.refl _ _).alloc (Nat.le_refl _) _⟩
theorem made_9 (rd rs1 rs2 imm a b : Int) (w : World) :
    Calls Tryd.prog 138 #[(Mi.mk 9 rd rs1 rs2 imm).val, .int .i64 a, .int .i64 b] w fun e w' => e = .returned (.int .i64 (a / 2 ^ (b % 64).toNat)) ∧ Below w.heap.size w w' := by
  have hc := fun w => cshift_any b w
  have hm0 : 0 ≤ b % 64 := by omega
  have hm1 : b % 64 < 64 := by omega
  unfold Mi.val
  dsimp only
  go_enter Tryd.func138, Tryd.ntmps138
  go_wp2_with (go_at_call 160; refine (hc _).mono ?_; rintro e w' ⟨rfl, rfl⟩)
  go_ret
  exact ⟨rfl, (Below.refl _ _).alloc (Nat.le_refl _) _⟩
theorem made_10 (rd rs1 rs2 imm a b : Int) (w : World) :
    Calls Tryd.prog 138 #[(Mi.mk 10 rd rs1 rs2 imm).val, .int .i64 a, .int .i64 b] w fun e w' => e = .returned (.int .i64 ((if a < b then 1 else 0))) ∧ Below w.heap.size w w' := by
  have hc := fun w => ctruth_any (decide (a < b)) w
  rw [show (if a < b then (1 : Int) else 0) = (if decide (a < b) = true then (1 : Int) else 0) by simp]
  generalize (if decide (a < b) = true then (1 : Int) else 0) = D at *
  unfold Mi.val
  dsimp only
  go_enter Tryd.func138, Tryd.ntmps138
  go_wp2_with (go_at_call 161; refine (hc _).mono ?_; rintro e w' ⟨rfl, rfl⟩)
  go_ret
  exact ⟨rfl, (Below.refl _ _).alloc (Nat.le_refl _) _⟩
theorem made_11 (rd rs1 rs2 imm a b : Int) (w : World) :
    Calls Tryd.prog 138 #[(Mi.mk 11 rd rs1 rs2 imm).val, .int .i64 a, .int .i64 b] w fun e w' => e = .returned (.int .i64 ((if a % 18446744073709551616 < b % 18446744073709551616 then 1 else 0))) ∧ Below w.heap.size w w' := by
  have hc := fun w => ctruth_any (decide (IntKind.u64.wrap a < IntKind.u64.wrap b)) w
  rw [show (if a % 18446744073709551616 < b % 18446744073709551616 then (1 : Int) else 0) = (if decide (IntKind.u64.wrap a < IntKind.u64.wrap b) = true then (1 : Int) else 0) by simp [wrapU]]
  generalize (if decide (IntKind.u64.wrap a < IntKind.u64.wrap b) = true then (1 : Int) else 0) = D at *
  unfold Mi.val
  dsimp only
  go_enter Tryd.func138, Tryd.ntmps138
  go_wp2_with (go_at_call 161; refine (hc _).mono ?_; rintro e w' ⟨rfl, rfl⟩)
  go_ret
  exact ⟨rfl, (Below.refl _ _).alloc (Nat.le_refl _) _⟩
theorem made_12 (rd rs1 rs2 imm a b : Int) (w : World) :
    Calls Tryd.prog 138 #[(Mi.mk 12 rd rs1 rs2 imm).val, .int .i64 a, .int .i64 b] w fun e w' => e = .returned (.int .i64 (wrap64 (a + imm))) ∧ Below w.heap.size w w' := by
  unfold Mi.val
  dsimp only
  go_enter Tryd.func138, Tryd.ntmps138
  go_wp2
  go_ret
  exact ⟨rfl, (Below.refl _ _).alloc (Nat.le_refl _) _⟩
theorem made_13 (rd rs1 rs2 imm a b : Int) (w : World) :
    Calls Tryd.prog 138 #[(Mi.mk 13 rd rs1 rs2 imm).val, .int .i64 a, .int .i64 b] w fun e w' => e = .returned (.int .i64 (bits .and .i64 a imm)) ∧ Below w.heap.size w w' := by
  unfold Mi.val
  dsimp only
  go_enter Tryd.func138, Tryd.ntmps138
  go_wp2
  go_ret
  exact ⟨rfl, (Below.refl _ _).alloc (Nat.le_refl _) _⟩
theorem made_14 (rd rs1 rs2 imm a b : Int) (w : World) :
    Calls Tryd.prog 138 #[(Mi.mk 14 rd rs1 rs2 imm).val, .int .i64 a, .int .i64 b] w fun e w' => e = .returned (.int .i64 (bits .or .i64 a imm)) ∧ Below w.heap.size w w' := by
  unfold Mi.val
  dsimp only
  go_enter Tryd.func138, Tryd.ntmps138
  go_wp2
  go_ret
  exact ⟨rfl, (Below.refl _ _).alloc (Nat.le_refl _) _⟩
theorem made_15 (rd rs1 rs2 imm a b : Int) (w : World) :
    Calls Tryd.prog 138 #[(Mi.mk 15 rd rs1 rs2 imm).val, .int .i64 a, .int .i64 b] w fun e w' => e = .returned (.int .i64 (bits .xor .i64 a imm)) ∧ Below w.heap.size w w' := by
  unfold Mi.val
  dsimp only
  go_enter Tryd.func138, Tryd.ntmps138
  go_wp2
  go_ret
  exact ⟨rfl, (Below.refl _ _).alloc (Nat.le_refl _) _⟩
theorem made_16 (rd rs1 rs2 imm a b : Int) (w : World) :
    Calls Tryd.prog 138 #[(Mi.mk 16 rd rs1 rs2 imm).val, .int .i64 a, .int .i64 b] w fun e w' => e = .returned (.int .i64 ((if a < imm then 1 else 0))) ∧ Below w.heap.size w w' := by
  have hc := fun w => ctruth_any (decide (a < imm)) w
  rw [show (if a < imm then (1 : Int) else 0) = (if decide (a < imm) = true then (1 : Int) else 0) by simp]
  generalize (if decide (a < imm) = true then (1 : Int) else 0) = D at *
  unfold Mi.val
  dsimp only
  go_enter Tryd.func138, Tryd.ntmps138
  go_wp2_with (go_at_call 161; refine (hc _).mono ?_; rintro e w' ⟨rfl, rfl⟩)
  go_ret
  exact ⟨rfl, (Below.refl _ _).alloc (Nat.le_refl _) _⟩
theorem made_17 (rd rs1 rs2 imm a b : Int) (w : World) :
    Calls Tryd.prog 138 #[(Mi.mk 17 rd rs1 rs2 imm).val, .int .i64 a, .int .i64 b] w fun e w' => e = .returned (.int .i64 ((if a % 18446744073709551616 < imm % 18446744073709551616 then 1 else 0))) ∧ Below w.heap.size w w' := by
  have hc := fun w => ctruth_any (decide (IntKind.u64.wrap a < IntKind.u64.wrap imm)) w
  rw [show (if a % 18446744073709551616 < imm % 18446744073709551616 then (1 : Int) else 0) = (if decide (IntKind.u64.wrap a < IntKind.u64.wrap imm) = true then (1 : Int) else 0) by simp [wrapU]]
  generalize (if decide (IntKind.u64.wrap a < IntKind.u64.wrap imm) = true then (1 : Int) else 0) = D at *
  unfold Mi.val
  dsimp only
  go_enter Tryd.func138, Tryd.ntmps138
  go_wp2_with (go_at_call 161; refine (hc _).mono ?_; rintro e w' ⟨rfl, rfl⟩)
  go_ret
  exact ⟨rfl, (Below.refl _ _).alloc (Nat.le_refl _) _⟩
theorem made_18 (rd rs1 rs2 imm a b : Int) (w : World) :
    Calls Tryd.prog 138 #[(Mi.mk 18 rd rs1 rs2 imm).val, .int .i64 a, .int .i64 b] w fun e w' => e = .returned (.int .i64 (wrap64 (a * 2 ^ (imm % 64).toNat))) ∧ Below w.heap.size w w' := by
  have hc := fun w => cshift_any imm w
  have hm0 : 0 ≤ imm % 64 := by omega
  have hm1 : imm % 64 < 64 := by omega
  unfold Mi.val
  dsimp only
  go_enter Tryd.func138, Tryd.ntmps138
  go_wp2_with (go_at_call 160; refine (hc _).mono ?_; rintro e w' ⟨rfl, rfl⟩)
  go_ret
  exact ⟨rfl, (Below.refl _ _).alloc (Nat.le_refl _) _⟩
theorem made_19 (rd rs1 rs2 imm a b : Int) (w : World) :
    Calls Tryd.prog 138 #[(Mi.mk 19 rd rs1 rs2 imm).val, .int .i64 a, .int .i64 b] w fun e w' => e = .returned (.int .i64 (a / 2 ^ (imm % 64).toNat)) ∧ Below w.heap.size w w' := by
  have hc := fun w => cshift_any imm w
  have hm0 : 0 ≤ imm % 64 := by omega
  have hm1 : imm % 64 < 64 := by omega
  unfold Mi.val
  dsimp only
  go_enter Tryd.func138, Tryd.ntmps138
  go_wp2_with (go_at_call 160; refine (hc _).mono ?_; rintro e w' ⟨rfl, rfl⟩)
  go_ret
  exact ⟨rfl, (Below.refl _ _).alloc (Nat.le_refl _) _⟩

theorem nineteen {P : Int → Prop} (ha : P 1) (hb : P 2) (hc : P 3) (hd : P 4) (he : P 5) (hf : P 6) (hg : P 7) (hh : P 8) (hi : P 9) (hj : P 10) (hk : P 11) (hl : P 12) (hm : P 13) (hn : P 14) (ho : P 15) (hp : P 16) (hq : P 17) (hr : P 18) (hs : P 19) (op : Int) (h0 : 1 ≤ op) (h1 : op ≤ 19) : P op := by
  have h' : op = 1 ∨ op = 2 ∨ op = 3 ∨ op = 4 ∨ op = 5 ∨ op = 6 ∨ op = 7 ∨ op = 8 ∨ op = 9 ∨ op = 10 ∨ op = 11 ∨ op = 12 ∨ op = 13 ∨ op = 14 ∨ op = 15 ∨ op = 16 ∨ op = 17 ∨ op = 18 ∨ op = 19 := by omega
  rcases h' with rfl | rfl | rfl | rfl | rfl | rfl | rfl | rfl | rfl | rfl | rfl | rfl | rfl | rfl | rfl | rfl | rfl | rfl | rfl <;> assumption
theorem made_any (x : Mi) (a b : Int) (w : World) (h0 : 1 ≤ x.op) (h1 : x.op ≤ 19) :
    Calls Tryd.prog 138 #[x.val, .int .i64 a, .int .i64 b] w fun e w' => e = .returned (.int .i64 (mdC x.op a (snd x b))) ∧ Below w.heap.size w w' := by
  obtain ⟨op, rd, rs1, rs2, imm⟩ := x
  dsimp only at h0 h1
  revert h0 h1
  refine fun h0 h1 => nineteen (P := fun op => Calls Tryd.prog 138 #[(Mi.mk op rd rs1 rs2 imm).val, .int .i64 a, .int .i64 b] w fun e w' => e = .returned (.int .i64 (mdC op a (snd ⟨op, rd, rs1, rs2, imm⟩ b))) ∧ Below w.heap.size w w') (made_1 rd rs1 rs2 imm a b w) (made_2 rd rs1 rs2 imm a b w) (made_3 rd rs1 rs2 imm a b w) (made_4 rd rs1 rs2 imm a b w) (made_5 rd rs1 rs2 imm a b w) (made_6 rd rs1 rs2 imm a b w) (made_7 rd rs1 rs2 imm a b w) (made_8 rd rs1 rs2 imm a b w) (made_9 rd rs1 rs2 imm a b w) (made_10 rd rs1 rs2 imm a b w) (made_11 rd rs1 rs2 imm a b w) (made_12 rd rs1 rs2 imm a b w) (made_13 rd rs1 rs2 imm a b w) (made_14 rd rs1 rs2 imm a b w) (made_15 rd rs1 rs2 imm a b w) (made_16 rd rs1 rs2 imm a b w) (made_17 rd rs1 rs2 imm a b w) (made_18 rd rs1 rs2 imm a b w) (made_19 rd rs1 rs2 imm a b w) op h0 h1
end Go.Proofs.YtndogdojcbcjgaaDoor

/- How a machine lies in memory; contracts of put, load and store. -/
namespace Go.Proofs.YtndogdojcbcjgaaDoor
open Go Go.RowKit

def mcCells (c : Cp) (wv : Value) : List Value := i64s c.regs ++ (i64s c.data ++ [.int .i64 c.pc, .bool c.halted, wv])
theorem mc_reg {c : Cp} (h : c.Ok) (wv : Value) (r : Nat) (hr : r < 32) : (mcCells c wv)[r]? = some (.int .i64 (c.regs.getD r 0)) := by
  unfold mcCells
  rw [List.getElem?_append_left (by simp [i64s, h.r]; omega)]
  simp [i64s, List.getD, h.r, hr]
theorem mc_data {c : Cp} (h : c.Ok) (wv : Value) (k : Nat) (hk : k < 64) : (mcCells c wv)[32 + k]? = some (.int .i64 (c.data.getD k 0)) := by
  unfold mcCells
  rw [List.getElem?_append_right (by simp [i64s, h.r]), List.getElem?_append_left (by simp [i64s, h.r, h.d]; omega)]
  simp [i64s, List.getD, h.r, h.d, hk]
theorem mc_tail {c : Cp} (h : c.Ok) (wv : Value) (i : Nat) : (mcCells c wv)[96 + i]? = [Value.int .i64 c.pc, .bool c.halted, wv][i]? := by
  unfold mcCells
  rw [List.getElem?_append_right (by simp [i64s, h.r]; omega), List.getElem?_append_right (by simp [i64s, h.r, h.d]; omega)]
  congr 1
  simp [i64s, h.r, h.d]; omega
theorem mc_setReg {c : Cp} (h : c.Ok) (wv : Value) (r : Nat) (hr : r < 32) (v : Int) : (mcCells c wv).set r (.int .i64 v) = mcCells { c with regs := c.regs.set r v } wv := by
  unfold mcCells
  rw [List.set_append_left _ _ (by simp [i64s, h.r]; omega)]
  congr 1
  simp [i64s, List.map_set]
theorem mc_setData {c : Cp} (h : c.Ok) (wv : Value) (k : Nat) (hk : k < 64) (v : Int) : (mcCells c wv).set (32 + k) (.int .i64 v) = mcCells { c with data := c.data.set k v } wv := by
  unfold mcCells
  rw [List.set_append_right _ _ (by simp [i64s, h.r]), List.set_append_left _ _ (by simp [i64s, h.r, h.d]; omega)]
  congr 2
  simp [i64s, List.map_set, h.r]
theorem mc_setTail {c : Cp} (h : c.Ok) (wv : Value) (i : Nat) (u : Value) : (mcCells c wv).set (96 + i) u = i64s c.regs ++ (i64s c.data ++ [Value.int .i64 c.pc, .bool c.halted, wv].set i u) := by
  unfold mcCells
  rw [List.set_append_right _ _ (by simp [i64s, h.r]; omega), List.set_append_right _ _ (by simp [i64s, h.r, h.d]; omega)]
  congr 3
  simp [i64s, h.r, h.d]; omega
theorem mc_len {c : Cp} (h : c.Ok) (wv : Value) : (mcCells c wv).length = 99 := by simp [mcCells, i64s, h.r, h.d]

/-- A machine lies in memory, in a block at base or above. -/
structure MAt (w : World) (base g : Nat) (c : Cp) (wv : Value) : Prop where
  cells : w.heap[g]? = some (.cells (mcCells c wv).toArray 117 (0, 0))
  low : base ≤ g
  ok : c.Ok
theorem MAt.lt {w : World} {base g : Nat} {c : Cp} {wv : Value} (h : MAt w base g c wv) : g < w.heap.size := lt_of_block h.cells
theorem MAt.reg {w : World} {base g : Nat} {c : Cp} {wv : Value} (h : MAt w base g c wv) (r : Nat) (hr : r < 32) : w.cell? ⟨g, r, none⟩ = some (.int .i64 (c.regs.getD r 0)) := by
  rw [cell_of_row _ _ _ _ _ _ h.cells, List.getElem?_toArray]; exact mc_reg h.ok wv r hr
theorem MAt.dat {w : World} {base g : Nat} {c : Cp} {wv : Value} (h : MAt w base g c wv) (k : Nat) (hk : k < 64) : w.cell? ⟨g, 32 + k, none⟩ = some (.int .i64 (c.data.getD k 0)) := by
  rw [cell_of_row _ _ _ _ _ _ h.cells, List.getElem?_toArray]; exact mc_data h.ok wv k hk
theorem MAt.pc {w : World} {base g : Nat} {c : Cp} {wv : Value} (h : MAt w base g c wv) : w.cell? ⟨g, 96, none⟩ = some (.int .i64 c.pc) := by
  rw [cell_of_row _ _ _ _ _ _ h.cells, List.getElem?_toArray]; exact mc_tail h.ok wv 0
theorem MAt.halted {w : World} {base g : Nat} {c : Cp} {wv : Value} (h : MAt w base g c wv) : w.cell? ⟨g, 97, none⟩ = some (.bool c.halted) := by
  rw [cell_of_row _ _ _ _ _ _ h.cells, List.getElem?_toArray]; exact mc_tail h.ok wv 1
theorem MAt.words {w : World} {base g : Nat} {c : Cp} {wv : Value} (h : MAt w base g c wv) : w.cell? ⟨g, 98, none⟩ = some wv := by
  rw [cell_of_row _ _ _ _ _ _ h.cells, List.getElem?_toArray]; exact mc_tail h.ok wv 2
theorem MAt.free {w : World} {base g : Nat} {c : Cp} {wv : Value} (h : MAt w base g c wv) (i : Nat) : w.frozen? ⟨g, i, none⟩ = false := frozen_of_row _ _ _ _ _ h.cells
theorem MAt.below {w w' : World} {base g B : Nat} {c : Cp} {wv : Value} (h : MAt w base g c wv) (hb : Below B w w') (hB : g < B) : MAt w' base g c wv := ⟨(hb.block _ hB).trans h.cells, h.low, h.ok⟩
theorem MAt.box {w : World} {base g : Nat} {c : Cp} {wv : Value} (h : MAt w base g c wv) (o : Obj) : MAt (w.alloc o) base g c wv := h.below ((Below.refl _ _).alloc (Nat.le_refl _) o) h.lt
theorem MAt.set {w : World} {base g : Nat} {c c' : Cp} {wv : Value} (h : MAt w base g c wv) (i : Nat) (u : Value) (hc : (mcCells c wv).set i u = mcCells c' wv) (ho : c'.Ok) : MAt (w.setCell ⟨g, i, none⟩ u) base g c' wv ∧ Below base w (w.setCell ⟨g, i, none⟩ u) := by
  refine ⟨⟨?_, h.low, ho⟩, (Below.refl _ _).setCell (by simpa using h.low) _⟩
  rw [heap_setCell_same _ _ _ _ _ _ h.cells, List.setIfInBounds_toArray, hc]
theorem MAt.go {w : World} {base g : Nat} {c : Cp} {wv : Value} (h : MAt w base g c wv) (p : Int) : MAt (w.setCell ⟨g, 96, none⟩ (.int .i64 p)) base g (c.go p) wv ∧ Below base w (w.setCell ⟨g, 96, none⟩ (.int .i64 p)) :=
  h.set 96 _ (mc_setTail h.ok wv 0 _) (h.ok.go p)
theorem MAt.stop {w : World} {base g : Nat} {c : Cp} {wv : Value} (h : MAt w base g c wv) : MAt (w.setCell ⟨g, 97, none⟩ (.bool true)) base g c.stop wv ∧ Below base w (w.setCell ⟨g, 97, none⟩ (.bool true)) :=
  h.set 97 _ (mc_setTail h.ok wv 1 _) h.ok.stop
theorem MAt.put {w : World} {base g : Nat} {c : Cp} {wv : Value} (h : MAt w base g c wv) (r : Nat) (hr : r < 32) (h0 : r ≠ 0) (v : Int) : MAt (w.setCell ⟨g, r, none⟩ (.int .i64 v)) base g (c.put r v) wv ∧ Below base w (w.setCell ⟨g, r, none⟩ (.int .i64 v)) := by
  refine h.set r _ ?_ (h.ok.put _ _)
  rw [mc_setReg h.ok wv r hr]
  unfold Cp.put
  rw [if_neg (by omega)]
  simp
theorem MAt.keep {w : World} {base g : Nat} {c : Cp} {wv : Value} (h : MAt w base g c wv) (t : Int) (k : Nat) (hk : k < 64) (ht : (t / 8).toNat = k) (v : Int) : MAt (w.setCell ⟨g, 32 + k, none⟩ (.int .i64 v)) base g (c.keep t v) wv ∧ Below base w (w.setCell ⟨g, 32 + k, none⟩ (.int .i64 v)) := by
  refine h.set (32 + k) _ ?_ (h.ok.keep _ _)
  rw [mc_setData h.ok wv k hk]
  unfold Cp.keep
  rw [ht]

set_option maxRecDepth 100000 in
theorem cput_any (base g : Nat) (c : Cp) (wv : Value) (r v : Int) (w : World) (h : MAt w base g c wv) (r0 : 0 ≤ r) (r1 : r < 32) :
    Calls Tryd.prog 135 #[.pointer (some ⟨g, 0, none⟩), .int .i64 r, .int .i64 v] w fun e w' => e = .returned (.tuple #[]) ∧ MAt w' base g (c.put r v) wv ∧ Below base w w' := by
  obtain ⟨k, rfl⟩ := Int.eq_ofNat_of_zero_le r0
  by_cases h0 : k = 0
  · subst h0
    have e : c.put ((0 : Nat) : Int) v = c := by simp [Cp.put]
    rw [e]; clear e
    have H : Hid (MAt w base g c wv) := h
    clear h
    simp only [Int.ofNat_zero]
    go_enter Tryd.func135, Tryd.ntmps135
    go_wp2
    go_end0
    exact ⟨rfl, H.out, Below.refl _ _⟩
  · have c1 := h.reg k (by omega)
    have f1 := h.free k
    have H : Hid _ := h.put k (by omega) h0 v
    have hk : (k : Int) < 32 := r1
    have hk0 : ¬ (k : Int) = 0 := by omega
    clear h r0 r1
    go_enter Tryd.func135, Tryd.ntmps135
    go_wp2
    go_end0
    exact ⟨rfl, H.out.1, H.out.2⟩
theorem word_place {t : Int} (h : isW t = true) : 0 ≤ t ∧ t < 512 ∧ (t / 8).toNat < 64 ∧ 0 ≤ t / 8 ∧ t.tdiv 8 = t / 8 := by
  unfold isW at h
  simp at h
  refine ⟨h.1, h.2.1, by omega, by omega, Int.tdiv_eq_ediv_of_nonneg h.1⟩
set_option maxRecDepth 100000 in
theorem cload_bad (g : Nat) (t : Int) (w : World) (hb : isW t = false) :
    Calls Tryd.prog 134 #[.pointer (some ⟨g, 32, none⟩), .int .i64 t] w fun e w' => e = .returned (.tuple #[.int .i64 0, .int .i64 2]) ∧ w' = w := by
  have hc := fun w => isWord_any t w
  rw [hb] at hc
  go_enter Tryd.func134, Tryd.ntmps134
  go_wp2_with (go_at_call 157; refine (hc _).mono ?_; rintro e w' ⟨rfl, rfl⟩)
  go_ret2
  exact ⟨rfl, rfl⟩
set_option maxRecDepth 100000 in
theorem cload_any (base g : Nat) (c : Cp) (wv : Value) (t : Int) (w : World) (h : MAt w base g c wv) (hb : isW t = true) :
    Calls Tryd.prog 134 #[.pointer (some ⟨g, 32, none⟩), .int .i64 t] w fun e w' => e = .returned (.tuple #[.int .i64 (c.word t), .int .i64 0]) ∧ w' = w := by
  have hc := fun w => isWord_any t w
  rw [hb] at hc
  obtain ⟨t0, t1, t2, t3, t4⟩ := word_place hb
  have c1 := h.dat (t / 8).toNat t2
  unfold Cp.word
  generalize c.data.getD (t / 8).toNat 0 = V at *
  obtain ⟨k, hk⟩ := Int.eq_ofNat_of_zero_le t3
  rw [hk] at c1 t4
  have hk2 : (k : Int) < 64 := by omega
  simp only [Int.toNat_natCast] at c1
  clear h hb t0 t1 t2 t3
  go_enter Tryd.func134, Tryd.ntmps134
  go_wp2_with (go_at_call 157; refine (hc _).mono ?_; rintro e w' ⟨rfl, rfl⟩)
  go_ret2
  exact ⟨rfl, rfl⟩
set_option maxRecDepth 100000 in
theorem cstore_bad (g : Nat) (t v : Int) (w : World) (hb : isW t = false) :
    Calls Tryd.prog 136 #[.pointer (some ⟨g, 32, none⟩), .int .i64 t, .int .i64 v] w fun e w' => e = .returned (.int .i64 2) ∧ w' = w := by
  have hc := fun w => isWord_any t w
  rw [hb] at hc
  go_enter Tryd.func136, Tryd.ntmps136
  go_wp2_with (go_at_call 157; refine (hc _).mono ?_; rintro e w' ⟨rfl, rfl⟩)
  go_ret
  exact ⟨rfl, rfl⟩
set_option maxRecDepth 100000 in
theorem cstore_any (base g : Nat) (c : Cp) (wv : Value) (t v : Int) (w : World) (h : MAt w base g c wv) (hb : isW t = true) :
    Calls Tryd.prog 136 #[.pointer (some ⟨g, 32, none⟩), .int .i64 t, .int .i64 v] w fun e w' => e = .returned (.int .i64 0) ∧ MAt w' base g (c.keep t v) wv ∧ Below base w w' := by
  have hc := fun w => isWord_any t w
  rw [hb] at hc
  obtain ⟨t0, t1, t2, t3, t4⟩ := word_place hb
  have c1 := h.dat (t / 8).toNat t2
  have f1 := h.free (32 + (t / 8).toNat)
  have H : Hid _ := h.keep t (t / 8).toNat t2 rfl v
  obtain ⟨k, hk⟩ := Int.eq_ofNat_of_zero_le t3
  rw [hk] at c1 t4 f1 H
  have hk2 : (k : Int) < 64 := by omega
  simp only [Int.toNat_natCast] at c1 f1 H
  clear h hb t0 t1 t2 t3
  go_enter Tryd.func136, Tryd.ntmps136
  go_wp2_with (go_at_call 157; refine (hc _).mono ?_; rintro e w' ⟨rfl, rfl⟩)
  go_ret
  exact ⟨rfl, H.out.1, H.out.2⟩
end Go.Proofs.YtndogdojcbcjgaaDoor

/- Contracts of (*cpu.machine).goOn and do (written by gen/mkcpudo.py): what an instruction makes of a machine. -/
namespace Go.Proofs.YtndogdojcbcjgaaDoor
open Go Go.RowKit

theorem MAt.drewN {w : World} {base g : Nat} {c : Cp} {wv : Value} (h : MAt w base g c wv) (n : Nat) : MAt (w.drewN n) base g c wv := ⟨by simpa using h.cells, h.low, h.ok⟩
theorem MAt.drew {w : World} {base g : Nat} {c : Cp} {wv : Value} (h : MAt w base g c wv) : MAt w.drew base g c wv := ⟨h.cells, h.low, h.ok⟩
theorem box_mi (w : World) (v0 v1 v2 v3 v4 : Value) (t k : Nat) : ((w.alloc (.cells #[v0, v1, v2, v3, v4] t)).drewN k).cell? ⟨w.heap.size, 0, none⟩ = some v0 ∧ ((w.alloc (.cells #[v0, v1, v2, v3, v4] t)).drewN k).cell? ⟨w.heap.size, 1, none⟩ = some v1 ∧ ((w.alloc (.cells #[v0, v1, v2, v3, v4] t)).drewN k).cell? ⟨w.heap.size, 4, none⟩ = some v4 := by
  have e : ((w.alloc (.cells #[v0, v1, v2, v3, v4] t)).drewN k).heap[w.heap.size]? = some (.cells #[v0, v1, v2, v3, v4] t (0, 0)) :=
    ((below_drewN (Below.refl (w.heap.size + 1) (w.alloc (.cells #[v0, v1, v2, v3, v4] t))) k).block _ (Nat.lt_succ_self _)).trans (heap_alloc_last w _)
  exact ⟨by rw [cell_of_row _ _ _ _ _ _ e]; rfl, by rw [cell_of_row _ _ _ _ _ _ e]; rfl, by rw [cell_of_row _ _ _ _ _ _ e]; rfl⟩
theorem tdiv4 (i : Int) (i0 : -1048576 ≤ i) (i1 : i ≤ 1048576) : -300000 ≤ i.tdiv 4 ∧ i.tdiv 4 ≤ 300000 := by
  rcases Int.le_total 0 i with h | h
  · rw [Int.tdiv_eq_ediv_of_nonneg h]; omega
  · have h2 : i.tdiv 4 = -((-i) / 4) := by
      rw [← Int.tdiv_eq_ediv_of_nonneg (show 0 ≤ -i by omega), Int.neg_tdiv]; simp
    rw [h2]; omega
theorem bv_less (x y : BitVec 64) : (x &&& ~~~y) = x - (x &&& y) := by
  have h2 : x = (x &&& ~~~y) + (x &&& y) := by
    rw [BitVec.add_eq_or_of_and_eq_zero]
    · ext i hi; simp; cases x[i] <;> simp
    · ext i hi; simp; cases x[i] <;> simp
  conv => rhs; lhs; rw [h2]
  rw [BitVec.add_sub_cancel]
theorem andNot_one (t : Int) (h : Fits t) : bits .andNot .i64 t 1 = adJ t := by
  obtain ⟨x, rfl⟩ := bv_of h
  have e := bits_andNot_bv x 1#64
  rw [show (1#64 : BitVec 64).toInt = 1 from rfl] at e
  rw [e]
  have h1 : (x &&& ~~~1#64) = x - (x &&& 1#64) := bv_less x _
  have h3 : (x &&& 1#64).toInt = x.toInt % 2 := by
    have := bits_and_bv x 1#64
    rw [show (1#64 : BitVec 64).toInt = 1 from rfl] at this
    rw [← this]
    show IntKind.i64.wrap ((BitVec.ofInt 64 x.toInt &&& BitVec.ofInt 64 1).toNat : Int) = _
    have e : (BitVec.ofInt 64 x.toInt &&& BitVec.ofInt 64 1).toNat = (x.toInt % 2).toNat := by
      rw [BitVec.toNat_and, BitVec.toNat_ofInt]
      have e2 : (BitVec.ofInt 64 1).toNat = 2 ^ 1 - 1 := by decide
      rw [e2, Nat.and_two_pow_sub_one_eq_mod]
      omega
    rw [e, wrap_small _ (by omega)]
    omega
  have h4 := wrap_sub_bv x (x &&& 1#64)
  rw [h1, ← h4, h3]
  unfold adJ
  refine wrap64_small _ ?_ ?_ <;> have := h.1 <;> have := h.2 <;> omega
theorem fits_wrap (n : Int) : Fits (wrap64 n) := by unfold Fits wrap64; omega
theorem adJ_parts (t : Int) (h : Fits t) : -9223372036854775808 ≤ adJ t ∧ adJ t ≤ 9223372036854775807 ∧ ((adJ t).tmod 4 = 0 ↔ adJ t % 4 = 0) ∧ (adJ t % 4 = 0 → wrap64 ((adJ t).tdiv 4) = adJ t / 4) := by
  have h0 := h.1
  have h1 := h.2
  have hb : -9223372036854775808 ≤ adJ t ∧ adJ t ≤ 9223372036854775807 := by unfold adJ; omega
  refine ⟨hb.1, hb.2, ?_, fun h4 => ?_⟩
  · rw [← Int.dvd_iff_tmod_eq_zero, ← Int.dvd_iff_emod_eq_zero]
  · obtain ⟨q, hq⟩ := Int.dvd_of_emod_eq_zero h4
    rw [hq, Int.mul_tdiv_cancel_left _ (by decide), Int.mul_ediv_cancel_left _ (by decide)]
    exact wrap64_small _ (by omega) (by omega)

set_option maxRecDepth 100000 in
set_option maxHeartbeats 4000000 in
theorem goOn_26 (base g : Nat) (c : Cp) (wv : Value) (rd rs1 rs2 imm a b : Int) (w : World) (h : MAt w base g c wv) (r0 : 0 ≤ rd) (r1 : rd < 32) (p0 : 0 ≤ c.pc) (p1 : c.pc < 100000) (i0 : -1048576 ≤ imm) (i1 : imm ≤ 1048576) :
    Calls Tryd.prog 137 #[.pointer (some ⟨g, 0, none⟩), (Mi.mk 26 rd rs1 rs2 imm).val, .int .i64 a, .int .i64 b] w fun e w' => e = .returned (.int .i64 0) ∧ MAt w' base g ((c.put rd ((c.pc + 1) * 4)).go (c.pc + imm.tdiv 4)) wv ∧ Below base w w' := by
  have HL : Hid (base ≤ w.heap.size) := by have := h.lt; have := h.low; show _ ≤ _; omega
  have HD : Hid (∀ o k, MAt ((w.alloc o).drewN k) base g c wv) := fun o k => (h.box o).drewN k
  have HB : Hid (∀ o k, Below base w ((w.alloc o).drewN k)) := fun o k => below_drewN ((Below.refl _ _).alloc HL.out o) k
  have hq := tdiv4 imm i0 i1
  have _hu := And.intro (And.intro r0 r1) (And.intro p0 p1)
  clear _hu
  have HT4 : Hid (IntKind.i64.wrap ((c.pc + 1) * 4) = (c.pc + 1) * 4) := by show _ = _; rw [IntKind.wrap_i64]; omega
  have HT : Hid (wrap64 (c.pc + imm.tdiv 4) = c.pc + imm.tdiv 4) := wrap64_small _ (by omega) (by omega)
  have hw1 : wrap64 (imm.tdiv 4) = imm.tdiv 4 := wrap64_small _ (by omega) (by omega)
  have cpc : ∀ o, (w.alloc o).cell? ⟨g, 96, none⟩ = some (.int .i64 c.pc) := fun o => (h.box o).pc
  clear h i0 i1 hq
  unfold Mi.val
  dsimp only
  go_enter Tryd.func137, Tryd.ntmps137
  go_wp2
  go_quiet (fail)
  have HW : Hid _ := HD.out (.cells #[.int .i64 26, .int .i64 rd, .int .i64 rs1, .int .i64 rs2, .int .i64 imm] 151) nq
  have HBW : Hid _ := HB.out (.cells #[.int .i64 26, .int .i64 rd, .int .i64 rs1, .int .i64 rs2, .int .i64 imm] 151) nq
  obtain ⟨b0, b1, b4⟩ := box_mi w (.int .i64 26) (.int .i64 rd) (.int .i64 rs1) (.int .i64 rs2) (.int .i64 imm) 151 nq
  generalize hWW : (w.alloc (.cells #[.int .i64 26, .int .i64 rd, .int .i64 rs1, .int .i64 rs2, .int .i64 imm] 151)).drewN nq = W at HW HBW b0 b1 b4
  have HZW : Hid (W.heap.size = w.heap.size + 1) := by show _ = _; rw [← hWW]; simp
  clear hWW HD HB
  have HW2 : Hid (MAt W.drew base g c wv) := HW.out.drew
  have HBW2 : Hid (Below base w W.drew) := HBW.out.drew
  clear cpc hw1
  go_wp2
  go_region_with (go_at_call 135; refine (cput_any base g c wv rd _ _ HW2.out r0 r1).mono ?_; rintro e w4 ⟨rfl, he4, hb4⟩; (try rw [HT4.out] at he4); have c96 : w4.cell? ⟨g, 96, none⟩ = some (.int .i64 c.pc) := he4.pc; have f96 := he4.free 96; have HE4 : Hid (MAt w4 base g (c.put rd ((c.pc + 1) * 4)) wv) := he4; have HB4 : Hid (Below base W.drew w4) := hb4; clear he4 hb4)
  all_goals
    try simp only [Exit.inBlock]
    go_wp2
    go_ret
    try rw [HT.out]
    exact ⟨rfl, (HE4.out.go _).1, (HBW2.out.trans HB4.out).trans (HE4.out.go _).2⟩
set_option maxRecDepth 100000 in
set_option maxHeartbeats 4000000 in
theorem goOn_27 (base g : Nat) (c : Cp) (wv : Value) (rd rs1 rs2 imm a b : Int) (w : World) (h : MAt w base g c wv) (r0 : 0 ≤ rd) (r1 : rd < 32) (p0 : 0 ≤ c.pc) (p1 : c.pc < 100000) (i0 : -1048576 ≤ imm) (i1 : imm ≤ 1048576) (hg : adJ (wrap64 (a + imm)) % 4 = 0) :
    Calls Tryd.prog 137 #[.pointer (some ⟨g, 0, none⟩), (Mi.mk 27 rd rs1 rs2 imm).val, .int .i64 a, .int .i64 b] w fun e w' => e = .returned (.int .i64 0) ∧ MAt w' base g ((c.put rd ((c.pc + 1) * 4)).go (adJ (wrap64 (a + imm)) / 4)) wv ∧ Below base w w' := by
  have HL : Hid (base ≤ w.heap.size) := by have := h.lt; have := h.low; show _ ≤ _; omega
  have HD : Hid (∀ o k, MAt ((w.alloc o).drewN k) base g c wv) := fun o k => (h.box o).drewN k
  have HB : Hid (∀ o k, Below base w ((w.alloc o).drewN k)) := fun o k => below_drewN ((Below.refl _ _).alloc HL.out o) k
  have hq := tdiv4 imm i0 i1
  have _hu := And.intro (And.intro r0 r1) (And.intro p0 p1)
  clear _hu
  have HT4 : Hid (IntKind.i64.wrap ((c.pc + 1) * 4) = (c.pc + 1) * 4) := by show _ = _; rw [IntKind.wrap_i64]; omega
  have HT : Hid (wrap64 (c.pc + imm.tdiv 4) = c.pc + imm.tdiv 4) := wrap64_small _ (by omega) (by omega)
  have hw1 : wrap64 (imm.tdiv 4) = imm.tdiv 4 := wrap64_small _ (by omega) (by omega)
  have cpc : ∀ o, (w.alloc o).cell? ⟨g, 96, none⟩ = some (.int .i64 c.pc) := fun o => (h.box o).pc
  have hA := andNot_one (wrap64 (a + imm)) (fits_wrap _)
  obtain ⟨A0, A1, A2, A3⟩ := adJ_parts (wrap64 (a + imm)) (fits_wrap _)
  generalize adJ (wrap64 (a + imm)) = AD at *
  have hr := A2.2 hg
  have ht := A3 hg
  generalize AD / 4 = TD at *
  clear A2 A3 hg A0 A1
  clear h i0 i1 hq
  unfold Mi.val
  dsimp only
  go_enter Tryd.func137, Tryd.ntmps137
  go_wp2
  go_quiet (fail)
  have HW : Hid _ := HD.out (.cells #[.int .i64 27, .int .i64 rd, .int .i64 rs1, .int .i64 rs2, .int .i64 imm] 151) nq
  have HBW : Hid _ := HB.out (.cells #[.int .i64 27, .int .i64 rd, .int .i64 rs1, .int .i64 rs2, .int .i64 imm] 151) nq
  obtain ⟨b0, b1, b4⟩ := box_mi w (.int .i64 27) (.int .i64 rd) (.int .i64 rs1) (.int .i64 rs2) (.int .i64 imm) 151 nq
  generalize hWW : (w.alloc (.cells #[.int .i64 27, .int .i64 rd, .int .i64 rs1, .int .i64 rs2, .int .i64 imm] 151)).drewN nq = W at HW HBW b0 b1 b4
  have HZW : Hid (W.heap.size = w.heap.size + 1) := by show _ = _; rw [← hWW]; simp
  clear hWW HD HB
  have HW2 : Hid (MAt W.drew base g c wv) := HW.out.drew
  have HBW2 : Hid (Below base w W.drew) := HBW.out.drew
  clear cpc hw1
  go_wp2
  go_region_with (go_at_call 135; refine (cput_any base g c wv rd _ _ HW2.out r0 r1).mono ?_; rintro e w4 ⟨rfl, he4, hb4⟩; (try rw [HT4.out] at he4); have c96 : w4.cell? ⟨g, 96, none⟩ = some (.int .i64 c.pc) := he4.pc; have f96 := he4.free 96; have HE4 : Hid (MAt w4 base g (c.put rd ((c.pc + 1) * 4)) wv) := he4; have HB4 : Hid (Below base W.drew w4) := hb4; clear he4 hb4)
  all_goals
    try simp only [Exit.inBlock]
    go_wp2
    go_ret
    try rw [HT.out]
    exact ⟨rfl, (HE4.out.go _).1, (HBW2.out.trans HB4.out).trans (HE4.out.go _).2⟩
set_option maxRecDepth 100000 in
set_option maxHeartbeats 4000000 in
theorem goOn_bad (base g : Nat) (c : Cp) (wv : Value) (rd rs1 rs2 imm a b : Int) (w : World) (h : MAt w base g c wv) (r0 : 0 ≤ rd) (r1 : rd < 32) (p0 : 0 ≤ c.pc) (p1 : c.pc < 100000) (i0 : -1048576 ≤ imm) (i1 : imm ≤ 1048576) (hg : ¬ adJ (wrap64 (a + imm)) % 4 = 0) :
    Calls Tryd.prog 137 #[.pointer (some ⟨g, 0, none⟩), (Mi.mk 27 rd rs1 rs2 imm).val, .int .i64 a, .int .i64 b] w fun e w' => e = .returned (.int .i64 5) ∧ MAt w' base g (c) wv ∧ Below base w w' := by
  have HL : Hid (base ≤ w.heap.size) := by have := h.lt; have := h.low; show _ ≤ _; omega
  have HD : Hid (∀ o k, MAt ((w.alloc o).drewN k) base g c wv) := fun o k => (h.box o).drewN k
  have HB : Hid (∀ o k, Below base w ((w.alloc o).drewN k)) := fun o k => below_drewN ((Below.refl _ _).alloc HL.out o) k
  have hq := tdiv4 imm i0 i1
  have _hu := And.intro (And.intro r0 r1) (And.intro p0 p1)
  clear _hu
  have HT4 : Hid (IntKind.i64.wrap ((c.pc + 1) * 4) = (c.pc + 1) * 4) := by show _ = _; rw [IntKind.wrap_i64]; omega
  have HT : Hid (wrap64 (c.pc + imm.tdiv 4) = c.pc + imm.tdiv 4) := wrap64_small _ (by omega) (by omega)
  have hw1 : wrap64 (imm.tdiv 4) = imm.tdiv 4 := wrap64_small _ (by omega) (by omega)
  have cpc : ∀ o, (w.alloc o).cell? ⟨g, 96, none⟩ = some (.int .i64 c.pc) := fun o => (h.box o).pc
  have hA := andNot_one (wrap64 (a + imm)) (fits_wrap _)
  obtain ⟨A0, A1, A2, A3⟩ := adJ_parts (wrap64 (a + imm)) (fits_wrap _)
  generalize adJ (wrap64 (a + imm)) = AD at *
  have hr : ¬ AD.tmod 4 = 0 := fun h => hg (A2.1 h)
  clear A2 A3 hg A0 A1
  clear h i0 i1 hq
  unfold Mi.val
  dsimp only
  go_enter Tryd.func137, Tryd.ntmps137
  go_wp2
  go_quiet (fail)
  have HW : Hid _ := HD.out (.cells #[.int .i64 27, .int .i64 rd, .int .i64 rs1, .int .i64 rs2, .int .i64 imm] 151) nq
  have HBW : Hid _ := HB.out (.cells #[.int .i64 27, .int .i64 rd, .int .i64 rs1, .int .i64 rs2, .int .i64 imm] 151) nq
  obtain ⟨b0, b1, b4⟩ := box_mi w (.int .i64 27) (.int .i64 rd) (.int .i64 rs1) (.int .i64 rs2) (.int .i64 imm) 151 nq
  generalize hWW : (w.alloc (.cells #[.int .i64 27, .int .i64 rd, .int .i64 rs1, .int .i64 rs2, .int .i64 imm] 151)).drewN nq = W at HW HBW b0 b1 b4
  have HZW : Hid (W.heap.size = w.heap.size + 1) := by show _ = _; rw [← hWW]; simp
  clear hWW HD HB
  clear cpc hw1
  go_wp2
  go_ret
  exact ⟨rfl, HW.out, HBW.out⟩
set_option maxRecDepth 100000 in
set_option maxHeartbeats 4000000 in
theorem goOn_yes (base g : Nat) (c : Cp) (wv : Value) (rd rs1 rs2 imm a b op : Int) (w : World) (h : MAt w base g c wv) (r0 : 0 ≤ rd) (r1 : rd < 32) (p0 : 0 ≤ c.pc) (p1 : c.pc < 100000) (i0 : -1048576 ≤ imm) (i1 : imm ≤ 1048576) (o1 : ¬ op = 26) (o2 : ¬ op = 27) (hh : holdsB op a b = true) :
    Calls Tryd.prog 137 #[.pointer (some ⟨g, 0, none⟩), (Mi.mk op rd rs1 rs2 imm).val, .int .i64 a, .int .i64 b] w fun e w' => e = .returned (.int .i64 0) ∧ MAt w' base g (c.go (c.pc + imm.tdiv 4)) wv ∧ Below base w w' := by
  have HL : Hid (base ≤ w.heap.size) := by have := h.lt; have := h.low; show _ ≤ _; omega
  have HD : Hid (∀ o k, MAt ((w.alloc o).drewN k) base g c wv) := fun o k => (h.box o).drewN k
  have HB : Hid (∀ o k, Below base w ((w.alloc o).drewN k)) := fun o k => below_drewN ((Below.refl _ _).alloc HL.out o) k
  have hq := tdiv4 imm i0 i1
  have _hu := And.intro (And.intro r0 r1) (And.intro p0 p1)
  clear _hu
  have HT4 : Hid (IntKind.i64.wrap ((c.pc + 1) * 4) = (c.pc + 1) * 4) := by show _ = _; rw [IntKind.wrap_i64]; omega
  have HT : Hid (wrap64 (c.pc + imm.tdiv 4) = c.pc + imm.tdiv 4) := wrap64_small _ (by omega) (by omega)
  have hw1 : wrap64 (imm.tdiv 4) = imm.tdiv 4 := wrap64_small _ (by omega) (by omega)
  have cpc : ∀ o, (w.alloc o).cell? ⟨g, 96, none⟩ = some (.int .i64 c.pc) := fun o => (h.box o).pc
  have hc := fun w => holds_any op a b w
  rw [hh] at hc
  clear hh
  clear h i0 i1 hq
  unfold Mi.val
  dsimp only
  go_enter Tryd.func137, Tryd.ntmps137
  go_wp2
  go_quiet (fail)
  have HW : Hid _ := HD.out (.cells #[.int .i64 op, .int .i64 rd, .int .i64 rs1, .int .i64 rs2, .int .i64 imm] 151) nq
  have HBW : Hid _ := HB.out (.cells #[.int .i64 op, .int .i64 rd, .int .i64 rs1, .int .i64 rs2, .int .i64 imm] 151) nq
  obtain ⟨b0, b1, b4⟩ := box_mi w (.int .i64 op) (.int .i64 rd) (.int .i64 rs1) (.int .i64 rs2) (.int .i64 imm) 151 nq
  generalize hWW : (w.alloc (.cells #[.int .i64 op, .int .i64 rd, .int .i64 rs1, .int .i64 rs2, .int .i64 imm] 151)).drewN nq = W at HW HBW b0 b1 b4
  have HZW : Hid (W.heap.size = w.heap.size + 1) := by show _ = _; rw [← hWW]; simp
  clear hWW HD HB
  have c96 := HW.out.pc
  have f96 := HW.out.free 96
  clear cpc hw1
  go_wp2_with (go_at_call 158; refine (hc _).mono ?_; rintro e w' ⟨rfl, hw'⟩; replace hw' := hw'.symm; subst hw')
  go_ret
  try rw [HT.out]
  exact ⟨rfl, (HW.out.go _).1, HBW.out.trans (HW.out.go _).2⟩
set_option maxRecDepth 100000 in
set_option maxHeartbeats 4000000 in
theorem goOn_no (base g : Nat) (c : Cp) (wv : Value) (rd rs1 rs2 imm a b op : Int) (w : World) (h : MAt w base g c wv) (r0 : 0 ≤ rd) (r1 : rd < 32) (p0 : 0 ≤ c.pc) (p1 : c.pc < 100000) (i0 : -1048576 ≤ imm) (i1 : imm ≤ 1048576) (o1 : ¬ op = 26) (o2 : ¬ op = 27) (hh : holdsB op a b = false) :
    Calls Tryd.prog 137 #[.pointer (some ⟨g, 0, none⟩), (Mi.mk op rd rs1 rs2 imm).val, .int .i64 a, .int .i64 b] w fun e w' => e = .returned (.int .i64 0) ∧ MAt w' base g (c.go (c.pc + 1)) wv ∧ Below base w w' := by
  have HL : Hid (base ≤ w.heap.size) := by have := h.lt; have := h.low; show _ ≤ _; omega
  have HD : Hid (∀ o k, MAt ((w.alloc o).drewN k) base g c wv) := fun o k => (h.box o).drewN k
  have HB : Hid (∀ o k, Below base w ((w.alloc o).drewN k)) := fun o k => below_drewN ((Below.refl _ _).alloc HL.out o) k
  have hq := tdiv4 imm i0 i1
  have _hu := And.intro (And.intro r0 r1) (And.intro p0 p1)
  clear _hu
  have HT4 : Hid (IntKind.i64.wrap ((c.pc + 1) * 4) = (c.pc + 1) * 4) := by show _ = _; rw [IntKind.wrap_i64]; omega
  have HT : Hid (wrap64 (c.pc + imm.tdiv 4) = c.pc + imm.tdiv 4) := wrap64_small _ (by omega) (by omega)
  have hw1 : wrap64 (imm.tdiv 4) = imm.tdiv 4 := wrap64_small _ (by omega) (by omega)
  have cpc : ∀ o, (w.alloc o).cell? ⟨g, 96, none⟩ = some (.int .i64 c.pc) := fun o => (h.box o).pc
  have hc := fun w => holds_any op a b w
  rw [hh] at hc
  clear hh
  clear h i0 i1 hq
  unfold Mi.val
  dsimp only
  go_enter Tryd.func137, Tryd.ntmps137
  go_wp2
  go_quiet (fail)
  have HW : Hid _ := HD.out (.cells #[.int .i64 op, .int .i64 rd, .int .i64 rs1, .int .i64 rs2, .int .i64 imm] 151) nq
  have HBW : Hid _ := HB.out (.cells #[.int .i64 op, .int .i64 rd, .int .i64 rs1, .int .i64 rs2, .int .i64 imm] 151) nq
  obtain ⟨b0, b1, b4⟩ := box_mi w (.int .i64 op) (.int .i64 rd) (.int .i64 rs1) (.int .i64 rs2) (.int .i64 imm) 151 nq
  generalize hWW : (w.alloc (.cells #[.int .i64 op, .int .i64 rd, .int .i64 rs1, .int .i64 rs2, .int .i64 imm] 151)).drewN nq = W at HW HBW b0 b1 b4
  have HZW : Hid (W.heap.size = w.heap.size + 1) := by show _ = _; rw [← hWW]; simp
  clear hWW HD HB
  have c96 := HW.out.pc
  have f96 := HW.out.free 96
  clear cpc hw1
  go_wp2_with (go_at_call 158; refine (hc _).mono ?_; rintro e w' ⟨rfl, hw'⟩; replace hw' := hw'.symm; subst hw')
  go_ret
  try rw [HT.out]
  exact ⟨rfl, (HW.out.go _).1, HBW.out.trans (HW.out.go _).2⟩
theorem goOn_any (base g : Nat) (c : Cp) (wv : Value) (x : Mi) (a b : Int) (w : World) (h : MAt w base g c wv) (r0 : 0 ≤ x.rd) (r1 : x.rd < 32) (p0 : 0 ≤ c.pc) (p1 : c.pc < 100000) (i0 : -1048576 ≤ x.imm) (i1 : x.imm ≤ 1048576) (o0 : 22 ≤ x.op) (o1 : x.op ≤ 27) :
    Calls Tryd.prog 137 #[.pointer (some ⟨g, 0, none⟩), x.val, .int .i64 a, .int .i64 b] w fun e w' => e = .returned (.int .i64 (doE x a)) ∧ MAt w' base g (doC x a b c) wv ∧ Below base w w' := by
  obtain ⟨op, rd, rs1, rs2, imm⟩ := x
  dsimp only at *
  by_cases h1 : op = 26
  · subst h1
    exact goOn_26 base g c wv rd rs1 rs2 imm a b w h r0 r1 p0 p1 i0 i1
  by_cases h2 : op = 27
  · subst h2
    by_cases hg : adJ (wrap64 (a + imm)) % 4 = 0
    · have e1 : doE ⟨27, rd, rs1, rs2, imm⟩ a = 0 := by simp [doE, hg]
      have e2 : doC ⟨27, rd, rs1, rs2, imm⟩ a b c = (c.put rd ((c.pc + 1) * 4)).go (adJ (wrap64 (a + imm)) / 4) := by simp [doC, hg]
      rw [e1, e2]
      exact goOn_27 base g c wv rd rs1 rs2 imm a b w h r0 r1 p0 p1 i0 i1 hg
    · have e1 : doE ⟨27, rd, rs1, rs2, imm⟩ a = 5 := by simp [doE, hg]
      have e2 : doC ⟨27, rd, rs1, rs2, imm⟩ a b c = c := by simp [doC, hg]
      rw [e1, e2]
      exact goOn_bad base g c wv rd rs1 rs2 imm a b w h r0 r1 p0 p1 i0 i1 hg
  have e1 : doE ⟨op, rd, rs1, rs2, imm⟩ a = 0 := by simp [doE, h2]; omega
  have n20 : ¬ op = 20 := by omega
  have n21 : ¬ op = 21 := by omega
  have n28 : ¬ op = 28 := by omega
  have n29 : ¬ op = 29 := by omega
  have n25 : op ≤ 25 := by omega
  have e2 : doC ⟨op, rd, rs1, rs2, imm⟩ a b c = c.go (if holdsB op a b = true then c.pc + imm.tdiv 4 else c.pc + 1) := by simp [doC, h1, h2, n20, n21, n28, n29, o0, n25]
  rw [e1, e2]
  cases hh : holdsB op a b
  · exact goOn_no base g c wv rd rs1 rs2 imm a b op w h r0 r1 p0 p1 i0 i1 h1 h2 hh
  · exact goOn_yes base g c wv rd rs1 rs2 imm a b op w h r0 r1 p0 p1 i0 i1 h1 h2 hh
set_option maxRecDepth 100000 in
set_option maxHeartbeats 4000000 in
theorem do_ld (base g : Nat) (c : Cp) (wv : Value) (rd rs1 rs2 imm a b : Int) (w : World) (h : MAt w base g c wv) (r0 : 0 ≤ rd) (r1 : rd < 32) (p0 : 0 ≤ c.pc) (p1 : c.pc < 100000) (i0 : -1048576 ≤ imm) (i1 : imm ≤ 1048576) (hg : isW (wrap64 (a + imm)) = true) :
    Calls Tryd.prog 106 #[.pointer (some ⟨g, 0, none⟩), (Mi.mk 20 rd rs1 rs2 imm).val, .int .i64 a, .int .i64 b] w fun e w' => e = .returned (.int .i64 0) ∧ MAt w' base g ((c.put rd (c.word (wrap64 (a + imm)))).go (c.pc + 1)) wv ∧ Below base w w' := by
  have HL : Hid (base ≤ w.heap.size) := by have := h.lt; have := h.low; show _ ≤ _; omega
  have HD : Hid (∀ o k, MAt ((w.alloc o).drewN k) base g c wv) := fun o k => (h.box o).drewN k
  have HB : Hid (∀ o k, Below base w ((w.alloc o).drewN k)) := fun o k => below_drewN ((Below.refl _ _).alloc HL.out o) k
  have hq := tdiv4 imm i0 i1
  have _hu := And.intro (And.intro r0 r1) (And.intro p0 p1)
  clear _hu
  have hc := fun w hw => cload_any base g c wv (wrap64 (a + imm)) w hw hg
  generalize ht : wrap64 (a + imm) = t at *
  generalize c.word t = V at *
  clear h i0 i1 hq
  unfold Mi.val
  dsimp only
  go_enter Tryd.func106, Tryd.ntmps106
  go_wp2
  go_quiet ((go_at_call 134; exact Calls.quiet_of_same (hc _ (HD.out _ _))))
  have HW : Hid _ := HD.out (.cells #[.int .i64 20, .int .i64 rd, .int .i64 rs1, .int .i64 rs2, .int .i64 imm] 151) nq
  have HBW : Hid _ := HB.out (.cells #[.int .i64 20, .int .i64 rd, .int .i64 rs1, .int .i64 rs2, .int .i64 imm] 151) nq
  obtain ⟨b0, b1, b4⟩ := box_mi w (.int .i64 20) (.int .i64 rd) (.int .i64 rs1) (.int .i64 rs2) (.int .i64 imm) 151 nq
  generalize hWW : (w.alloc (.cells #[.int .i64 20, .int .i64 rd, .int .i64 rs1, .int .i64 rs2, .int .i64 imm] 151)).drewN nq = W at HW HBW b0 b1 b4
  have HZW : Hid (W.heap.size = w.heap.size + 1) := by show _ = _; rw [← hWW]; simp
  clear hWW HD HB
  have HW2 : Hid (MAt W.drew base g c wv) := HW.out.drew
  have HBW2 : Hid (Below base w W.drew) := HBW.out.drew
  clear hc
  go_wp2
  go_region_with (go_at_call 135; refine (cput_any base g c wv rd _ _ HW2.out r0 r1).mono ?_; rintro e w4 ⟨rfl, he4, hb4⟩; (try rw [HT4.out] at he4); have c96 : w4.cell? ⟨g, 96, none⟩ = some (.int .i64 c.pc) := he4.pc; have f96 := he4.free 96; have HE4 : Hid (MAt w4 base g (c.put rd (V)) wv) := he4; have HB4 : Hid (Below base W.drew w4) := hb4; clear he4 hb4)
  all_goals
    try simp only [Exit.inBlock]
    go_wp2
    go_ret
    try rw [HT.out]
    exact ⟨rfl, (HE4.out.go _).1, (HBW2.out.trans HB4.out).trans (HE4.out.go _).2⟩
set_option maxRecDepth 100000 in
set_option maxHeartbeats 4000000 in
theorem do_ldbad (base g : Nat) (c : Cp) (wv : Value) (rd rs1 rs2 imm a b : Int) (w : World) (h : MAt w base g c wv) (r0 : 0 ≤ rd) (r1 : rd < 32) (p0 : 0 ≤ c.pc) (p1 : c.pc < 100000) (i0 : -1048576 ≤ imm) (i1 : imm ≤ 1048576) (hg : isW (wrap64 (a + imm)) = false) :
    Calls Tryd.prog 106 #[.pointer (some ⟨g, 0, none⟩), (Mi.mk 20 rd rs1 rs2 imm).val, .int .i64 a, .int .i64 b] w fun e w' => e = .returned (.int .i64 2) ∧ MAt w' base g (c) wv ∧ Below base w w' := by
  have HL : Hid (base ≤ w.heap.size) := by have := h.lt; have := h.low; show _ ≤ _; omega
  have HD : Hid (∀ o k, MAt ((w.alloc o).drewN k) base g c wv) := fun o k => (h.box o).drewN k
  have HB : Hid (∀ o k, Below base w ((w.alloc o).drewN k)) := fun o k => below_drewN ((Below.refl _ _).alloc HL.out o) k
  have hq := tdiv4 imm i0 i1
  have _hu := And.intro (And.intro r0 r1) (And.intro p0 p1)
  clear _hu
  have hc := fun w => cload_bad g (wrap64 (a + imm)) w hg
  generalize ht : wrap64 (a + imm) = t at *
  clear h i0 i1 hq
  unfold Mi.val
  dsimp only
  go_enter Tryd.func106, Tryd.ntmps106
  go_wp2
  go_quiet ((go_at_call 134; exact Calls.quiet_of_same (hc _)))
  have HW : Hid _ := HD.out (.cells #[.int .i64 20, .int .i64 rd, .int .i64 rs1, .int .i64 rs2, .int .i64 imm] 151) nq
  have HBW : Hid _ := HB.out (.cells #[.int .i64 20, .int .i64 rd, .int .i64 rs1, .int .i64 rs2, .int .i64 imm] 151) nq
  obtain ⟨b0, b1, b4⟩ := box_mi w (.int .i64 20) (.int .i64 rd) (.int .i64 rs1) (.int .i64 rs2) (.int .i64 imm) 151 nq
  generalize hWW : (w.alloc (.cells #[.int .i64 20, .int .i64 rd, .int .i64 rs1, .int .i64 rs2, .int .i64 imm] 151)).drewN nq = W at HW HBW b0 b1 b4
  have HZW : Hid (W.heap.size = w.heap.size + 1) := by show _ = _; rw [← hWW]; simp
  clear hWW HD HB
  clear hc
  go_wp2
  go_ret
  exact ⟨rfl, HW.out, HBW.out⟩
set_option maxRecDepth 100000 in
set_option maxHeartbeats 4000000 in
theorem do_sd (base g : Nat) (c : Cp) (wv : Value) (rd rs1 rs2 imm a b : Int) (w : World) (h : MAt w base g c wv) (r0 : 0 ≤ rd) (r1 : rd < 32) (p0 : 0 ≤ c.pc) (p1 : c.pc < 100000) (i0 : -1048576 ≤ imm) (i1 : imm ≤ 1048576) (hg : isW (wrap64 (a + imm)) = true) :
    Calls Tryd.prog 106 #[.pointer (some ⟨g, 0, none⟩), (Mi.mk 21 rd rs1 rs2 imm).val, .int .i64 a, .int .i64 b] w fun e w' => e = .returned (.int .i64 0) ∧ MAt w' base g ((c.keep (wrap64 (a + imm)) b).go (c.pc + 1)) wv ∧ Below base w w' := by
  have HL : Hid (base ≤ w.heap.size) := by have := h.lt; have := h.low; show _ ≤ _; omega
  have HD : Hid (∀ o k, MAt ((w.alloc o).drewN k) base g c wv) := fun o k => (h.box o).drewN k
  have HB : Hid (∀ o k, Below base w ((w.alloc o).drewN k)) := fun o k => below_drewN ((Below.refl _ _).alloc HL.out o) k
  have hq := tdiv4 imm i0 i1
  have _hu := And.intro (And.intro r0 r1) (And.intro p0 p1)
  clear _hu
  have HT4 : Hid (IntKind.i64.wrap (a + imm) = wrap64 (a + imm)) := by show _ = _; unfold wrap64; exact IntKind.wrap_i64 _
  have hc := fun w hw => cstore_any base g c wv (IntKind.i64.wrap (a + imm)) b w hw (by rw [HT4.out]; exact hg)
  clear hg
  clear h i0 i1 hq
  unfold Mi.val
  dsimp only
  go_enter Tryd.func106, Tryd.ntmps106
  go_wp2
  have HW : Hid (MAt (w.alloc (.cells #[.int .i64 21, .int .i64 rd, .int .i64 rs1, .int .i64 rs2, .int .i64 imm] 151)) base g c wv) := HD.out (.cells #[.int .i64 21, .int .i64 rd, .int .i64 rs1, .int .i64 rs2, .int .i64 imm] 151) 0
  have HBW : Hid (Below base w (w.alloc (.cells #[.int .i64 21, .int .i64 rd, .int .i64 rs1, .int .i64 rs2, .int .i64 imm] 151))) := HB.out (.cells #[.int .i64 21, .int .i64 rd, .int .i64 rs1, .int .i64 rs2, .int .i64 imm] 151) 0
  obtain ⟨b0, b1, b4⟩ := box_mi w (.int .i64 21) (.int .i64 rd) (.int .i64 rs1) (.int .i64 rs2) (.int .i64 imm) 151 0
  generalize hWW : (w.alloc (.cells #[.int .i64 21, .int .i64 rd, .int .i64 rs1, .int .i64 rs2, .int .i64 imm] 151)) = W at HW HBW
  rw [hWW] at b0 b1 b4
  replace b0 : W.cell? ⟨w.heap.size, 0, none⟩ = _ := b0
  replace b1 : W.cell? ⟨w.heap.size, 1, none⟩ = _ := b1
  replace b4 : W.cell? ⟨w.heap.size, 4, none⟩ = _ := b4
  have HZW : Hid (W.heap.size = w.heap.size + 1) := by show _ = _; rw [← hWW]; simp
  clear hWW HD HB
  have HW2 : Hid (MAt W.drew base g c wv) := HW.out.drew
  have HBW2 : Hid (Below base w W.drew) := HBW.out.drew
  go_region_with (go_at_call 136; refine (hc _ HW2.out).mono ?_; rintro e w4 ⟨rfl, he4, hb4⟩; (try rw [HT4.out] at he4); have c96 : w4.cell? ⟨g, 96, none⟩ = some (.int .i64 c.pc) := he4.pc; have f96 := he4.free 96; have HE4 : Hid (MAt w4 base g (c.keep (wrap64 (a + imm)) b) wv) := he4; have HB4 : Hid (Below base W.drew w4) := hb4; clear he4 hb4)
  all_goals
    try simp only [Exit.inBlock]
    go_wp2
    go_ret
    try rw [HT.out]
    exact ⟨rfl, (HE4.out.go _).1, (HBW2.out.trans HB4.out).trans (HE4.out.go _).2⟩
set_option maxRecDepth 100000 in
set_option maxHeartbeats 4000000 in
theorem do_sdbad (base g : Nat) (c : Cp) (wv : Value) (rd rs1 rs2 imm a b : Int) (w : World) (h : MAt w base g c wv) (r0 : 0 ≤ rd) (r1 : rd < 32) (p0 : 0 ≤ c.pc) (p1 : c.pc < 100000) (i0 : -1048576 ≤ imm) (i1 : imm ≤ 1048576) (hg : isW (wrap64 (a + imm)) = false) :
    Calls Tryd.prog 106 #[.pointer (some ⟨g, 0, none⟩), (Mi.mk 21 rd rs1 rs2 imm).val, .int .i64 a, .int .i64 b] w fun e w' => e = .returned (.int .i64 2) ∧ MAt w' base g (c) wv ∧ Below base w w' := by
  have HL : Hid (base ≤ w.heap.size) := by have := h.lt; have := h.low; show _ ≤ _; omega
  have HD : Hid (∀ o k, MAt ((w.alloc o).drewN k) base g c wv) := fun o k => (h.box o).drewN k
  have HB : Hid (∀ o k, Below base w ((w.alloc o).drewN k)) := fun o k => below_drewN ((Below.refl _ _).alloc HL.out o) k
  have hq := tdiv4 imm i0 i1
  have _hu := And.intro (And.intro r0 r1) (And.intro p0 p1)
  clear _hu
  have hc := fun w => cstore_bad g (wrap64 (a + imm)) b w hg
  generalize ht : wrap64 (a + imm) = t at *
  clear h i0 i1 hq
  unfold Mi.val
  dsimp only
  go_enter Tryd.func106, Tryd.ntmps106
  go_wp2
  go_quiet ((go_at_call 136; exact Calls.quiet_of_same (hc _)))
  have HW : Hid _ := HD.out (.cells #[.int .i64 21, .int .i64 rd, .int .i64 rs1, .int .i64 rs2, .int .i64 imm] 151) nq
  have HBW : Hid _ := HB.out (.cells #[.int .i64 21, .int .i64 rd, .int .i64 rs1, .int .i64 rs2, .int .i64 imm] 151) nq
  obtain ⟨b0, b1, b4⟩ := box_mi w (.int .i64 21) (.int .i64 rd) (.int .i64 rs1) (.int .i64 rs2) (.int .i64 imm) 151 nq
  generalize hWW : (w.alloc (.cells #[.int .i64 21, .int .i64 rd, .int .i64 rs1, .int .i64 rs2, .int .i64 imm] 151)).drewN nq = W at HW HBW b0 b1 b4
  have HZW : Hid (W.heap.size = w.heap.size + 1) := by show _ = _; rw [← hWW]; simp
  clear hWW HD HB
  clear hc
  go_wp2
  go_ret
  exact ⟨rfl, HW.out, HBW.out⟩
set_option maxRecDepth 100000 in
set_option maxHeartbeats 4000000 in
theorem do_go (base g : Nat) (c : Cp) (wv : Value) (rd rs1 rs2 imm a b op : Int) (w : World) (h : MAt w base g c wv) (r0 : 0 ≤ rd) (r1 : rd < 32) (p0 : 0 ≤ c.pc) (p1 : c.pc < 100000) (i0 : -1048576 ≤ imm) (i1 : imm ≤ 1048576) (o0 : 22 ≤ op) (o1 : op ≤ 27) :
    Calls Tryd.prog 106 #[.pointer (some ⟨g, 0, none⟩), (Mi.mk op rd rs1 rs2 imm).val, .int .i64 a, .int .i64 b] w fun e w' => e = .returned (.int .i64 (doE ⟨op, rd, rs1, rs2, imm⟩ a)) ∧ MAt w' base g (doC ⟨op, rd, rs1, rs2, imm⟩ a b c) wv ∧ Below base w w' := by
  have HL : Hid (base ≤ w.heap.size) := by have := h.lt; have := h.low; show _ ≤ _; omega
  have HD : Hid (∀ o k, MAt ((w.alloc o).drewN k) base g c wv) := fun o k => (h.box o).drewN k
  have HB : Hid (∀ o k, Below base w ((w.alloc o).drewN k)) := fun o k => below_drewN ((Below.refl _ _).alloc HL.out o) k
  have hq := tdiv4 imm i0 i1
  have _hu := And.intro (And.intro r0 r1) (And.intro p0 p1)
  clear _hu
  have HG : Hid (∀ w, MAt w base g c wv → Calls Tryd.prog 137 #[.pointer (some ⟨g, 0, none⟩), (Mi.mk op rd rs1 rs2 imm).val, .int .i64 a, .int .i64 b] w fun e w' => e = .returned (.int .i64 (doE ⟨op, rd, rs1, rs2, imm⟩ a)) ∧ MAt w' base g (doC ⟨op, rd, rs1, rs2, imm⟩ a b c) wv ∧ Below base w w') := fun w hw => goOn_any base g c wv ⟨op, rd, rs1, rs2, imm⟩ a b w hw r0 r1 p0 p1 i0 i1 o0 o1
  generalize doC ⟨op, rd, rs1, rs2, imm⟩ a b c = C at *
  generalize doE ⟨op, rd, rs1, rs2, imm⟩ a = E at *
  rcases (show op = 22 ∨ op = 23 ∨ op = 24 ∨ op = 25 ∨ op = 26 ∨ op = 27 by omega) with rfl | rfl | rfl | rfl | rfl | rfl
  all_goals
  clear h i0 i1 hq
  unfold Mi.val
  dsimp only
  all_goals
    go_enter Tryd.func106, Tryd.ntmps106
    go_wp2_with (go_at_call 137; refine (HG.out _ (HD.out _ 0)).mono ?_; rintro e w4 ⟨rfl, he4, hb4⟩)
    go_ret
    exact ⟨rfl, he4, (HB.out _ 0).trans hb4⟩
set_option maxRecDepth 100000 in
set_option maxHeartbeats 4000000 in
theorem do_lui (base g : Nat) (c : Cp) (wv : Value) (rd rs1 rs2 imm a b : Int) (w : World) (h : MAt w base g c wv) (r0 : 0 ≤ rd) (r1 : rd < 32) (p0 : 0 ≤ c.pc) (p1 : c.pc < 100000) (i0 : -1048576 ≤ imm) (i1 : imm ≤ 1048576) :
    Calls Tryd.prog 106 #[.pointer (some ⟨g, 0, none⟩), (Mi.mk 28 rd rs1 rs2 imm).val, .int .i64 a, .int .i64 b] w fun e w' => e = .returned (.int .i64 0) ∧ MAt w' base g ((c.put rd (imm * 4096)).go (c.pc + 1)) wv ∧ Below base w w' := by
  have HL : Hid (base ≤ w.heap.size) := by have := h.lt; have := h.low; show _ ≤ _; omega
  have HD : Hid (∀ o k, MAt ((w.alloc o).drewN k) base g c wv) := fun o k => (h.box o).drewN k
  have HB : Hid (∀ o k, Below base w ((w.alloc o).drewN k)) := fun o k => below_drewN ((Below.refl _ _).alloc HL.out o) k
  have hq := tdiv4 imm i0 i1
  have _hu := And.intro (And.intro r0 r1) (And.intro p0 p1)
  clear _hu
  have HT4 : Hid (IntKind.i64.wrap (imm * 4096) = imm * 4096) := by show _ = _; rw [IntKind.wrap_i64]; omega
  clear h i0 i1 hq
  unfold Mi.val
  dsimp only
  go_enter Tryd.func106, Tryd.ntmps106
  go_wp2
  have HW : Hid (MAt (w.alloc (.cells #[.int .i64 28, .int .i64 rd, .int .i64 rs1, .int .i64 rs2, .int .i64 imm] 151)) base g c wv) := HD.out (.cells #[.int .i64 28, .int .i64 rd, .int .i64 rs1, .int .i64 rs2, .int .i64 imm] 151) 0
  have HBW : Hid (Below base w (w.alloc (.cells #[.int .i64 28, .int .i64 rd, .int .i64 rs1, .int .i64 rs2, .int .i64 imm] 151))) := HB.out (.cells #[.int .i64 28, .int .i64 rd, .int .i64 rs1, .int .i64 rs2, .int .i64 imm] 151) 0
  obtain ⟨b0, b1, b4⟩ := box_mi w (.int .i64 28) (.int .i64 rd) (.int .i64 rs1) (.int .i64 rs2) (.int .i64 imm) 151 0
  generalize hWW : (w.alloc (.cells #[.int .i64 28, .int .i64 rd, .int .i64 rs1, .int .i64 rs2, .int .i64 imm] 151)) = W at HW HBW
  rw [hWW] at b0 b1 b4
  replace b0 : W.cell? ⟨w.heap.size, 0, none⟩ = _ := b0
  replace b1 : W.cell? ⟨w.heap.size, 1, none⟩ = _ := b1
  replace b4 : W.cell? ⟨w.heap.size, 4, none⟩ = _ := b4
  have HZW : Hid (W.heap.size = w.heap.size + 1) := by show _ = _; rw [← hWW]; simp
  clear hWW HD HB
  have HW2 : Hid (MAt W.drew base g c wv) := HW.out.drew
  have HBW2 : Hid (Below base w W.drew) := HBW.out.drew
  go_region_with (go_at_call 135; refine (cput_any base g c wv rd _ _ HW2.out r0 r1).mono ?_; rintro e w4 ⟨rfl, he4, hb4⟩; (try rw [HT4.out] at he4); have c96 : w4.cell? ⟨g, 96, none⟩ = some (.int .i64 c.pc) := he4.pc; have f96 := he4.free 96; have HE4 : Hid (MAt w4 base g (c.put rd (imm * 4096)) wv) := he4; have HB4 : Hid (Below base W.drew w4) := hb4; clear he4 hb4)
  all_goals
    try simp only [Exit.inBlock]
    go_wp2
    go_ret
    try rw [HT.out]
    exact ⟨rfl, (HE4.out.go _).1, (HBW2.out.trans HB4.out).trans (HE4.out.go _).2⟩
set_option maxRecDepth 100000 in
set_option maxHeartbeats 4000000 in
theorem do_ecall (base g : Nat) (c : Cp) (wv : Value) (rd rs1 rs2 imm a b : Int) (w : World) (h : MAt w base g c wv) (r0 : 0 ≤ rd) (r1 : rd < 32) (p0 : 0 ≤ c.pc) (p1 : c.pc < 100000) (i0 : -1048576 ≤ imm) (i1 : imm ≤ 1048576) :
    Calls Tryd.prog 106 #[.pointer (some ⟨g, 0, none⟩), (Mi.mk 29 rd rs1 rs2 imm).val, .int .i64 a, .int .i64 b] w fun e w' => e = .returned (.int .i64 0) ∧ MAt w' base g (c.stop) wv ∧ Below base w w' := by
  have HL : Hid (base ≤ w.heap.size) := by have := h.lt; have := h.low; show _ ≤ _; omega
  have HD : Hid (∀ o k, MAt ((w.alloc o).drewN k) base g c wv) := fun o k => (h.box o).drewN k
  have HB : Hid (∀ o k, Below base w ((w.alloc o).drewN k)) := fun o k => below_drewN ((Below.refl _ _).alloc HL.out o) k
  have hq := tdiv4 imm i0 i1
  have _hu := And.intro (And.intro r0 r1) (And.intro p0 p1)
  clear _hu

  clear h i0 i1 hq
  unfold Mi.val
  dsimp only
  go_enter Tryd.func106, Tryd.ntmps106
  have c97 := (HD.out (.cells #[.int .i64 29, .int .i64 rd, .int .i64 rs1, .int .i64 rs2, .int .i64 imm] 151) 0).halted
  have f97 := (HD.out (.cells #[.int .i64 29, .int .i64 rd, .int .i64 rs1, .int .i64 rs2, .int .i64 imm] 151) 0).free 97
  replace c97 : (w.alloc (.cells #[.int .i64 29, .int .i64 rd, .int .i64 rs1, .int .i64 rs2, .int .i64 imm] 151)).cell? ⟨g, 97, none⟩ = _ := c97
  replace f97 : (w.alloc (.cells #[.int .i64 29, .int .i64 rd, .int .i64 rs1, .int .i64 rs2, .int .i64 imm] 151)).frozen? ⟨g, 97, none⟩ = _ := f97
  go_wp2
  go_ret
  exact ⟨rfl, (HD.out _ 0).stop.1, (HB.out _ 0).trans (HD.out _ 0).stop.2⟩
set_option maxRecDepth 100000 in
set_option maxHeartbeats 4000000 in
theorem do_mk (base g : Nat) (c : Cp) (wv : Value) (rd rs1 rs2 imm a b op : Int) (w : World) (h : MAt w base g c wv) (r0 : 0 ≤ rd) (r1 : rd < 32) (p0 : 0 ≤ c.pc) (p1 : c.pc < 100000) (i0 : -1048576 ≤ imm) (i1 : imm ≤ 1048576) (o0 : 1 ≤ op) (o1 : op ≤ 19) :
    Calls Tryd.prog 106 #[.pointer (some ⟨g, 0, none⟩), (Mi.mk op rd rs1 rs2 imm).val, .int .i64 a, .int .i64 b] w fun e w' => e = .returned (.int .i64 0) ∧ MAt w' base g ((c.put rd (mdC op a (snd ⟨op, rd, rs1, rs2, imm⟩ b))).go (c.pc + 1)) wv ∧ Below base w w' := by
  have HL : Hid (base ≤ w.heap.size) := by have := h.lt; have := h.low; show _ ≤ _; omega
  have HD : Hid (∀ o k, MAt ((w.alloc o).drewN k) base g c wv) := fun o k => (h.box o).drewN k
  have HB : Hid (∀ o k, Below base w ((w.alloc o).drewN k)) := fun o k => below_drewN ((Below.refl _ _).alloc HL.out o) k
  have hq := tdiv4 imm i0 i1
  have _hu := And.intro (And.intro r0 r1) (And.intro p0 p1)
  clear _hu
  have HMD : Hid (∀ w, Calls Tryd.prog 138 #[(Mi.mk op rd rs1 rs2 imm).val, .int .i64 a, .int .i64 b] w fun e w' => e = .returned (.int .i64 (mdC op a (snd ⟨op, rd, rs1, rs2, imm⟩ b))) ∧ Below w.heap.size w w') := fun w => made_any ⟨op, rd, rs1, rs2, imm⟩ a b w o0 o1
  generalize mdC op a (snd ⟨op, rd, rs1, rs2, imm⟩ b) = V at *
  have n20 : ¬ op = 20 := by omega
  have n21 : ¬ op = 21 := by omega
  have n22 : ¬ op = 22 := by omega
  have n23 : ¬ op = 23 := by omega
  have n24 : ¬ op = 24 := by omega
  have n25 : ¬ op = 25 := by omega
  have n26 : ¬ op = 26 := by omega
  have n27 : ¬ op = 27 := by omega
  have n28 : ¬ op = 28 := by omega
  have n29 : ¬ op = 29 := by omega
  clear o0 o1
  have HXR : Hid ((w.alloc (.cells (miC ⟨op, rd, rs1, rs2, imm⟩).toArray 151)).rangeAt w.heap.size 0 (miC ⟨op, rd, rs1, rs2, imm⟩)) := box_range
  clear h i0 i1 hq
  unfold Mi.val
  dsimp only
  go_enter Tryd.func106, Tryd.ntmps106
  go_wp2
  have HXZ : Hid (w.heap.size < (w.alloc (.cells #[.int .i64 op, .int .i64 rd, .int .i64 rs1, .int .i64 rs2, .int .i64 imm] 151)).heap.size) := by show _ < _; simp
  replace HXR : Hid ((w.alloc (.cells #[.int .i64 op, .int .i64 rd, .int .i64 rs1, .int .i64 rs2, .int .i64 imm] 151)).rangeAt w.heap.size 0 (miC ⟨op, rd, rs1, rs2, imm⟩)) := HXR
  have HW : Hid (MAt (w.alloc (.cells #[.int .i64 op, .int .i64 rd, .int .i64 rs1, .int .i64 rs2, .int .i64 imm] 151)) base g c wv) := HD.out (.cells #[.int .i64 op, .int .i64 rd, .int .i64 rs1, .int .i64 rs2, .int .i64 imm] 151) 0
  have HBW : Hid (Below base w (w.alloc (.cells #[.int .i64 op, .int .i64 rd, .int .i64 rs1, .int .i64 rs2, .int .i64 imm] 151))) := HB.out (.cells #[.int .i64 op, .int .i64 rd, .int .i64 rs1, .int .i64 rs2, .int .i64 imm] 151) 0
  obtain ⟨b0, b1, b4⟩ := box_mi w (.int .i64 op) (.int .i64 rd) (.int .i64 rs1) (.int .i64 rs2) (.int .i64 imm) 151 0
  replace b1 : (w.alloc (.cells #[.int .i64 op, .int .i64 rd, .int .i64 rs1, .int .i64 rs2, .int .i64 imm] 151)).cell? ⟨w.heap.size, 1, none⟩ = _ := b1
  clear b0 b4
  generalize hWW : (w.alloc (.cells #[.int .i64 op, .int .i64 rd, .int .i64 rs1, .int .i64 rs2, .int .i64 imm] 151)) = W1 at HW HBW HXR HXZ b1
  have HZW : Hid (W1.heap.size = w.heap.size + 1) := by show _ = _; rw [← hWW]; simp
  clear hWW HD HB
  refine wp_region_last (S := fun W => Below W1.heap.size W1 W) _ 9 (by kernel_rfl) (by kernel_rfl) rfl ((Below.refl _ _).drew) (fun hHeld => ?_)
  simp only [List.pop_toArray, List.dropLast]
  refine wpAnyH_take (i := 0) (v := ?_) rfl (by kernel_rfl) (by kernel_rfl) (by kernel_rfl) (fun _ _ _ h => h) (Or.inl ⟨by rfl, ?_⟩) (by assumption) ?_
  rotate_left
  · (intro W hSW; go_simp; try (with_reducible rfl))
  (try simp only [Act.put, List.setIfInBounds_toArray])
  refine wpAnyH_take (i := 1) (v := ?_) rfl (by kernel_rfl) (by kernel_rfl) (by kernel_rfl) (fun _ _ _ h => h) (Or.inl ⟨by rfl, ?_⟩) (by assumption) ?_
  rotate_left
  · (intro W hSW; go_simp; try (with_reducible rfl))
  (try simp only [Act.put])
  refine wpAnyH_take (i := 2) (v := ?_) rfl (by kernel_rfl) (by kernel_rfl) (by kernel_rfl) (fun _ _ _ h => h) (Or.inl ⟨by rfl, ?_⟩) (by assumption) ?_
  rotate_left
  · (intro W hSW; go_simp; try (with_reducible rfl))
  (try simp only [Act.put])
  refine wpAnyH_take (i := 3) (v := ?_) rfl (by kernel_rfl) (by kernel_rfl) (by kernel_rfl) (fun _ _ _ h => h) (Or.inl ⟨by rfl, ?_⟩) (by assumption) ?_
  rotate_left
  · (intro W hSW; go_simp; try (with_reducible rfl))
  (try simp only [Act.put])
  refine wpAnyH_take (i := 4) (v := ?_) rfl (by kernel_rfl) (by kernel_rfl) (by kernel_rfl) (fun _ _ _ h => h) (Or.inl ⟨by rfl, ?_⟩) (by assumption) ?_
  rotate_left
  · (intro W hSW; have z0 := keeps_below hSW _ _ b1; go_simp; try (with_reducible rfl))
  (try simp only [Act.put])
  refine wpAnyH_take (i := 5) (v := .agg #[.int .i64 op, .int .i64 rd, .int .i64 rs1, .int .i64 rs2, .int .i64 imm]) rfl (by kernel_rfl) (by kernel_rfl) (by kernel_rfl) (fun _ _ _ h => h) (yieldsIf_load_mid (by rfl) 151 (.tmp 5) rfl (w.heap.size) (0) rfl (miC ⟨op, rd, rs1, rs2, imm⟩) _ (fun V hV => range_below HXR.out hV HXZ.out) Tryd.underlying151 rfl infoRv) (by assumption) ?_
  simp only [List.getElem_toArray, List.getElem_cons_succ, List.getElem_cons_zero]
  (try simp only [Act.put, List.setIfInBounds_toArray, List.set_cons_zero, List.set_cons_succ])
  refine wpAnyH_take (i := 6) (v := ?_) rfl (by kernel_rfl) (by kernel_rfl) (by kernel_rfl) (fun _ _ _ h => h) (Or.inl ⟨by rfl, ?_⟩) (by assumption) ?_
  rotate_left
  · (intro W hSW; go_simp; try (with_reducible rfl))
  (try simp only [Act.put, List.setIfInBounds_toArray])
  refine wpAnyH_take (i := 7) (v := ?_) rfl (by kernel_rfl) (by kernel_rfl) (by kernel_rfl) (fun _ _ _ h => h) (Or.inl ⟨by rfl, ?_⟩) (by assumption) ?_
  rotate_left
  · (intro W hSW; go_simp; try (with_reducible rfl))
  (try simp only [Act.put])
  refine wpAnyH_ready (rs := [8]) (by kernel_rfl) (by simp) ?_
  refine AllReadyH.cons rfl (fun K hK => ?_) AllReadyH.nil
  go_simp
  go_at_call 138
  refine (HMD.out _).mono ?_
  rintro e w3 ⟨rfl, hb3⟩
  dsimp only
  refine hK.out _ _ (hHeld.trans (hb3.mono (Nat.le_refl _))) (fun _ => ?_)
  clear hK K
  (try simp only [Act.put, List.setIfInBounds_toArray, List.set_cons_zero, List.set_cons_succ])
  refine wpAnyH_done (by kernel_rfl) ?_ _
  refine Or.inl ?_
  have HM3 : Hid (MAt w3 base g c wv) := HW.out.drew.below hb3 HW.out.drew.lt
  have HB3 : Hid (Below base w w3) := HBW.out.drew.trans (hb3.mono (by have := HW.out.lt; have := HW.out.low; show base ≤ W1.heap.size; omega))
  clear hb3 b1
  go_simp
  go_at_call 135
  refine (cput_any base g c wv rd _ _ HM3.out r0 r1).mono ?_
  rintro e w4 ⟨rfl, he4, hb4⟩
  have c96 : w4.cell? ⟨g, 96, none⟩ = some (.int .i64 c.pc) := he4.pc
  have f96 := he4.free 96
  have HE4 : Hid (MAt w4 base g (c.put rd V) wv) := he4
  have HB4 : Hid (Below base w3 w4) := hb4
  clear he4 hb4
  go_wp2
  go_ret
  exact ⟨rfl, (HE4.out.go _).1, (HB3.out.trans HB4.out).trans (HE4.out.go _).2⟩
theorem mi_bounds (x : Mi) (h : MiOk x) : 0 ≤ x.rd ∧ x.rd < 32 ∧ 0 ≤ x.rs1 ∧ x.rs1 < 32 ∧ 0 ≤ x.rs2 ∧ x.rs2 < 32 ∧ -1048576 ≤ x.imm ∧ x.imm ≤ 1048576 := by
  have hf := h.fits
  rw [fits_iff] at hf
  have o1 := h.op1
  have o2 := h.op2
  have hs := shOf_lt x.op.toNat (by omega) (by omega)
  generalize shOf x.op.toNat = s at *
  rcases eight _ hs with e | e | e | e | e | e | e | e <;> subst e <;> simp [shF, shL] at hf <;> omega
theorem do_any (base g : Nat) (c : Cp) (wv : Value) (x : Mi) (a b : Int) (w : World) (h : MAt w base g c wv) (hx : MiOk x) (p0 : 0 ≤ c.pc) (p1 : c.pc < 100000) :
    Calls Tryd.prog 106 #[.pointer (some ⟨g, 0, none⟩), x.val, .int .i64 a, .int .i64 b] w fun e w' => e = .returned (.int .i64 (doE x a)) ∧ MAt w' base g (doC x a b c) wv ∧ Below base w w' := by
  obtain ⟨r0, r1, -, -, -, -, i0, i1⟩ := mi_bounds x hx
  have o1 := hx.op1
  have o2 := hx.op2
  clear hx
  obtain ⟨op, rd, rs1, rs2, imm⟩ := x
  dsimp only at *
  by_cases hm : op ≤ 19
  · have e1 : doE ⟨op, rd, rs1, rs2, imm⟩ a = 0 := by unfold doE; dsimp only; rw [if_neg (by omega), if_neg (by omega)]
    have e2 : doC ⟨op, rd, rs1, rs2, imm⟩ a b c = (c.put rd (mdC op a (snd ⟨op, rd, rs1, rs2, imm⟩ b))).go (c.pc + 1) := by
      unfold doC; dsimp only
      rw [if_neg (by omega), if_neg (by omega), if_neg (by omega), if_neg (by omega), if_neg (by omega), if_neg (by omega), if_neg (by omega)]
    rw [e1, e2]
    exact do_mk base g c wv rd rs1 rs2 imm a b op w h r0 r1 p0 p1 i0 i1 o1 hm
  by_cases h20 : op = 20
  · subst h20
    cases hg : isW (wrap64 (a + imm))
    · have e1 : doE ⟨20, rd, rs1, rs2, imm⟩ a = 2 := by simp [doE, hg]
      have e2 : doC ⟨20, rd, rs1, rs2, imm⟩ a b c = c := by simp [doC, hg]
      rw [e1, e2]
      exact do_ldbad base g c wv rd rs1 rs2 imm a b w h r0 r1 p0 p1 i0 i1 hg
    · have e1 : doE ⟨20, rd, rs1, rs2, imm⟩ a = 0 := by simp [doE, hg]
      have e2 : doC ⟨20, rd, rs1, rs2, imm⟩ a b c = (c.put rd (c.word (wrap64 (a + imm)))).go (c.pc + 1) := by simp [doC, hg]
      rw [e1, e2]
      exact do_ld base g c wv rd rs1 rs2 imm a b w h r0 r1 p0 p1 i0 i1 hg
  by_cases h21 : op = 21
  · subst h21
    cases hg : isW (wrap64 (a + imm))
    · have e1 : doE ⟨21, rd, rs1, rs2, imm⟩ a = 2 := by simp [doE, hg]
      have e2 : doC ⟨21, rd, rs1, rs2, imm⟩ a b c = c := by simp [doC, hg]
      rw [e1, e2]
      exact do_sdbad base g c wv rd rs1 rs2 imm a b w h r0 r1 p0 p1 i0 i1 hg
    · have e1 : doE ⟨21, rd, rs1, rs2, imm⟩ a = 0 := by simp [doE, hg]
      have e2 : doC ⟨21, rd, rs1, rs2, imm⟩ a b c = (c.keep (wrap64 (a + imm)) b).go (c.pc + 1) := by simp [doC, hg]
      rw [e1, e2]
      exact do_sd base g c wv rd rs1 rs2 imm a b w h r0 r1 p0 p1 i0 i1 hg
  by_cases h28 : op = 28
  · subst h28
    exact do_lui base g c wv rd rs1 rs2 imm a b w h r0 r1 p0 p1 i0 i1
  by_cases h29 : op = 29
  · subst h29
    exact do_ecall base g c wv rd rs1 rs2 imm a b w h r0 r1 p0 p1 i0 i1
  exact do_go base g c wv rd rs1 rs2 imm a b op w h r0 r1 p0 p1 i0 i1 (by omega) (by omega)
end Go.Proofs.YtndogdojcbcjgaaDoor

/- Machines as values; contracts of cpu.machineOf and (*cpu.machine).cpu (written by gen/mkcpuval.py). -/
namespace Go.Proofs.YtndogdojcbcjgaaDoor
open Go Go.RowKit

theorem infoMc : (Tryd.prog.info? 117).map (·.size) = some 99 := by kernel_rfl
theorem infoMcC {c : Cp} (h : c.Ok) (wv : Value) : (Tryd.prog.info? 117).map (·.size) = some (mcCells c wv).toArray.size := by rw [List.size_toArray, mc_len h]; exact infoMc
theorem infoRg : (Tryd.prog.info? 114).map (·.size) = some 32 := by kernel_rfl
theorem infoDt : (Tryd.prog.info? 115).map (·.size) = some 64 := by kernel_rfl
theorem built_mc {c : Cp} (h : c.Ok) (ao : Option Addr) (n cap : Nat) : Tryd.prog.built 117 [(0, .agg (i64s c.regs).toArray), (1, .agg (i64s c.data).toArray), (2, .int .i64 c.pc), (3, .bool c.halted), (4, .slice ao n cap)] = some (mcCells c (.slice ao n cap)).toArray := by
  obtain ⟨regs, pc, data, halted⟩ := c
  obtain ⟨hr, hd⟩ := h
  dsimp only at hr hd ⊢
  obtain ⟨r0, r1, r2, r3, r4, r5, r6, r7, r8, r9, r10, r11, r12, r13, r14, r15, r16, r17, r18, r19, r20, r21, r22, r23, r24, r25, r26, r27, r28, r29, r30, r31, rfl⟩ := list32 hr
  obtain ⟨d0, d1, d2, d3, d4, d5, d6, d7, d8, d9, d10, d11, d12, d13, d14, d15, d16, d17, d18, d19, d20, d21, d22, d23, d24, d25, d26, d27, d28, d29, d30, d31, d32, d33, d34, d35, d36, d37, d38, d39, d40, d41, d42, d43, d44, d45, d46, d47, d48, d49, d50, d51, d52, d53, d54, d55, d56, d57, d58, d59, d60, d61, d62, d63, rfl⟩ := list64 hd
  kernel_rfl
theorem mc_one (c : Cp) (ao : Option Addr) (n cap : Nat) : (mcCells c (.slice ao n cap)).toArray.all (·.oneCell') = true := by
  refine all_one _ fun u hu => ?_
  simp only [mcCells, List.mem_append, List.mem_cons, List.not_mem_nil, or_false] at hu
  rcases hu with hu | hu | rfl | rfl | rfl
  · exact i64s_one _ u hu
  · exact i64s_one _ u hu
  · rfl
  · rfl
  · rfl
theorem mcr_regs {c : Cp} (wv : Value) (j : Nat) (u : Value) (hu : (i64s c.regs)[j]? = some u) : (mcCells c wv)[0 + j]? = some u := by
  have hj : j < (i64s c.regs).length := (List.getElem?_eq_some_iff.1 hu).1
  unfold mcCells
  rw [Nat.zero_add, List.getElem?_append_left hj]; exact hu
theorem mcr_data {c : Cp} (h : c.Ok) (wv : Value) (j : Nat) (u : Value) (hu : (i64s c.data)[j]? = some u) : (mcCells c wv)[32 + j]? = some u := by
  have hj : j < (i64s c.data).length := (List.getElem?_eq_some_iff.1 hu).1
  unfold mcCells
  rw [List.getElem?_append_right (by simp [i64s, h.r]), show 32 + j - (i64s c.regs).length = j by simp [i64s, h.r], List.getElem?_append_left hj]; exact hu
def zeroMc : List Value := mcCells zeroCp (.slice none 0 0)

theorem zc_mc : Tryd.zeroCells117.size = 99 := by kernel_rfl
theorem begun_set {c : Cp} (h : c.Ok) (wv : Value) : (mcCells c wv).set 0 (.int .i64 0) = mcCells c.begun wv := mc_setReg h wv 0 (by decide) 0

set_option maxRecDepth 100000 in
set_option maxHeartbeats 4000000 in
theorem machineOf_any (c : Cp) (h : c.Ok) (ao : Option Addr) (n cap : Nat) (w : World) :
    Calls Tryd.prog 71 #[.slice ao n cap, c.val] w fun e w' => e = .returned (.agg (mcCells c.begun (.slice ao n cap)).toArray) ∧ Below w.heap.size w w' := by
  have HB0 : Hid (Below w.heap.size w ((w.alloc (.cells (cpuCells c).toArray 33)).alloc (.cells Tryd.zeroCells117 117))) := ((Below.refl _ _).alloc (Nat.le_refl _) _).alloc (by simp) _
  have H0 : Hid (((w.alloc (.cells (cpuCells c).toArray 33)).alloc (.cells Tryd.zeroCells117 117)).heap[w.heap.size]? = some (.cells (cpuCells c).toArray 33 (0, 0))) := heap_alloc2_old _ _ _
  have H1 : Hid (((w.alloc (.cells (cpuCells c).toArray 33)).alloc (.cells Tryd.zeroCells117 117)).heap[w.heap.size + 1]? = some (.cells Tryd.zeroCells117 117 (0, 0))) := heap_alloc2_new _ _ _
  have HZ : Hid (((w.alloc (.cells (cpuCells c).toArray 33)).alloc (.cells Tryd.zeroCells117 117)).heap.size = w.heap.size + 2) := by show _ = _; simp
  unfold Cp.val
  go_enter Tryd.func71, Tryd.ntmps71
  go_upto_region 1 with fail
  generalize (w.alloc (.cells (cpuCells c).toArray 33)).alloc (.cells Tryd.zeroCells117 117) = W at HB0 H0 H1 HZ ⊢
  have c32 : W.cell? ⟨w.heap.size, 32, none⟩ = some (.int .i64 c.pc) := by rw [cell_of_row _ _ _ _ _ _ H0.out, List.getElem?_toArray]; exact cp_pc h
  have c97 : W.cell? ⟨w.heap.size, 97, none⟩ = some (.bool c.halted) := by rw [cell_of_row _ _ _ _ _ _ H0.out, List.getElem?_toArray]; exact cp_halt h
  have HR : Hid (W.rangeAt w.heap.size 0 (i64s c.regs)) := range_of_row H0.out 0 _ (cp_regs h)
  have HD : Hid (W.rangeAt w.heap.size 33 (i64s c.data)) := range_of_row H0.out 33 _ (cp_data h)
  have i1 : (Tryd.prog.info? 30).map (·.size) = some (i64s c.regs).length := by rw [i64s_length, h.r]; exact infoR32
  have i2 : (Tryd.prog.info? 31).map (·.size) = some (i64s c.data).length := by rw [i64s_length, h.d]; exact infoD64
  have HI1 : Hid ((Tryd.prog.info? 30).map (·.size) = some (i64s c.regs).length) := i1
  have HI2 : Hid ((Tryd.prog.info? 31).map (·.size) = some (i64s c.data).length) := i2
  have HS : Hid (((W.alloc (.cells Tryd.zeroCells117 117)).heap[w.heap.size + 2]? = some (.cells Tryd.zeroCells117 117 (0, 0)))) := by
    have := heap_alloc_last W (.cells Tryd.zeroCells117 117)
    rw [HZ.out] at this; exact this
  have hz : W.heap.size = w.heap.size + 2 := HZ.out
  clear i1 i2
  go_upto_region 2 with (first | (refine wpList_load_mid rfl 30 _ rfl w.heap.size 0 rfl (i64s c.regs) _ HR.out Tryd.underlying30 rfl HI1.out ?_) | (refine wpList_load_mid rfl 31 _ rfl w.heap.size 33 rfl (i64s c.data) _ HD.out Tryd.underlying31 rfl HI2.out ?_) | (refine wpList_build_to rfl _ _ rfl (mcCells c (.slice ao n cap)).toArray (by simpa [Act.eval, Act.put] using built_mc h ao n cap) ?_) | (refine wpList_store_row rfl _ _ _ rfl _ (mcCells c (.slice ao n cap)).toArray rfl rfl _ _ HS.out (infoMcC h _) (by rw [zc_mc, List.size_toArray, mc_len h]) (mc_one _ _ _ _) ?_))
  have G2 : ((W.alloc (.cells Tryd.zeroCells117 117)).setRow (w.heap.size + 2) (mcCells c (.slice ao n cap)).toArray).heap[w.heap.size + 2]? = some (.cells (mcCells c (.slice ao n cap)).toArray 117 (0, 0)) := setRow_heap _ _ _ _ _ _ HS.out
  have G1 : ((W.alloc (.cells Tryd.zeroCells117 117)).setRow (w.heap.size + 2) (mcCells c (.slice ao n cap)).toArray).heap[w.heap.size + 1]? = some (.cells Tryd.zeroCells117 117 (0, 0)) := by
    have hb := below_setRowR ((Below.refl (w.heap.size + 2) W).alloc (by omega) (.cells Tryd.zeroCells117 117)) (Nat.le_refl (w.heap.size + 2)) (mcCells c (.slice ao n cap)).toArray
    exact (hb.block _ (by omega)).trans H1.out
  have HB2 : Hid (Below w.heap.size w ((W.alloc (.cells Tryd.zeroCells117 117)).setRow (w.heap.size + 2) (mcCells c (.slice ao n cap)).toArray)) := below_setRowR (HB0.out.alloc (by omega) _) (by omega) _
  have hMAt : MAt ((W.alloc (.cells Tryd.zeroCells117 117)).setRow (w.heap.size + 2) (mcCells c (.slice ao n cap)).toArray) (w.heap.size + 2) (w.heap.size + 2) c (.slice ao n cap) := ⟨G2, Nat.le_refl _, h⟩
  generalize (W.alloc (.cells Tryd.zeroCells117 117)).setRow (w.heap.size + 2) (mcCells c (.slice ao n cap)).toArray = W2 at G2 G1 HB2 hMAt ⊢
  have c0 := hMAt.reg 0 (by decide)
  have f0 := hMAt.free 0
  have hs := (hMAt.set 0 (.int .i64 0) (begun_set h _) h.begun)
  have G3 := hs.1.cells
  have G4 : (W2.setCell ⟨w.heap.size + 2, 0, none⟩ (.int .i64 0)).heap[w.heap.size + 1]? = some (.cells Tryd.zeroCells117 117 (0, 0)) := (hs.2.block _ (by omega)).trans G1
  have HB3 : Hid (Below w.heap.size w (W2.setCell ⟨w.heap.size + 2, 0, none⟩ (.int .i64 0))) := HB2.out.trans (hs.2.mono (by omega))
  clear hs hMAt G1 G2 HB2 HS H0 H1 HR HD HI1 HI2 c32 c97 HB0 HZ hz
  go_wp2_with (first | (refine wpList_load_row rfl _ _ rfl _ rfl _ _ _ _ G3 Tryd.underlying117 rfl (infoMcC h.begun _) ?_) | (refine wpList_store_row rfl _ _ _ rfl _ _ rfl rfl _ _ G4 (infoMcC h.begun _) (by rw [zc_mc, List.size_toArray, mc_len h.begun]) (mc_one _ _ _ _) ?_))
  try simp only [Exit.inBlock, Exit.then]
  exact bodyPost_ret (results_cell_row rfl _ _ (w.heap.size + 1) 117 _ (0, 0) _ rfl (setRow_heap _ _ _ _ _ _ G4) Tryd.underlying117 rfl (infoMcC h.begun _)) rfl ⟨rfl, below_setRowR HB3.out (by omega) _⟩

set_option maxRecDepth 100000 in
set_option maxHeartbeats 4000000 in
theorem cpu_any (base g : Nat) (c : Cp) (wv : Value) (w : World) (h : MAt w base g c wv) :
    Calls Tryd.prog 72 #[.pointer (some ⟨g, 0, none⟩)] w fun e w' => e = .returned c.val ∧ Below w.heap.size w w' := by
  have HB0 : Hid (Below w.heap.size w (w.alloc (.cells Tryd.zeroCells33 33))) := (Below.refl _ _).alloc (Nat.le_refl _) _
  have HM : Hid (MAt (w.alloc (.cells Tryd.zeroCells33 33)) base g c wv) := h.box _
  have H1 : Hid ((w.alloc (.cells Tryd.zeroCells33 33)).heap[w.heap.size]? = some (.cells Tryd.zeroCells33 33 (0, 0))) := heap_alloc_last _ _
  have HOK : Hid c.Ok := h.ok
  unfold Cp.val
  go_enter Tryd.func72, Tryd.ntmps72
  go_upto_region 1 with fail
  generalize w.alloc (.cells Tryd.zeroCells33 33) = W1 at HB0 HM H1 ⊢
  have c96 := HM.out.pc
  have c97 := HM.out.halted
  have HLT : Hid (g < W1.heap.size) := HM.out.lt
  have HR0 : Hid (W1.rangeAt g 0 (i64s c.regs)) := range_of_row HM.out.cells 0 _ (mcr_regs wv)
  have HR32 : Hid (W1.rangeAt g 32 (i64s c.data)) := range_of_row HM.out.cells 32 _ (mcr_data HOK.out wv)
  have HI1 : Hid ((Tryd.prog.info? 114).map (·.size) = some (i64s c.regs).length) := by show _ = _; rw [i64s_length, HOK.out.r]; exact infoRg
  have HI2 : Hid ((Tryd.prog.info? 115).map (·.size) = some (i64s c.data).length) := by show _ = _; rw [i64s_length, HOK.out.d]; exact infoDt
  clear h
  refine wp_region_last (S := fun W => Below W1.heap.size W1 W) _ 17 (by kernel_rfl) (by kernel_rfl) rfl ((Below.refl _ _).drew) (fun hHeld => ?_)
  simp only [List.pop_toArray, List.dropLast]
  refine wpAnyH_take (i := 0) (v := ?_) rfl (by kernel_rfl) (by kernel_rfl) (by kernel_rfl) (fun _ _ _ h => h) (Or.inl ⟨by rfl, ?_⟩) (by assumption) ?_
  rotate_left
  · (intro W hSW; go_simp; try (with_reducible rfl))
  (try simp only [Act.put, List.setIfInBounds_toArray])
  refine wpAnyH_take (i := 1) (v := ?_) rfl (by kernel_rfl) (by kernel_rfl) (by kernel_rfl) (fun _ _ _ h => h) (Or.inl ⟨by rfl, ?_⟩) (by assumption) ?_
  rotate_left
  · (intro W hSW; go_simp; try (with_reducible rfl))
  (try simp only [Act.put])
  refine wpAnyH_take (i := 2) (v := ?_) rfl (by kernel_rfl) (by kernel_rfl) (by kernel_rfl) (fun _ _ _ h => h) (Or.inl ⟨by rfl, ?_⟩) (by assumption) ?_
  rotate_left
  · (intro W hSW; go_simp; try (with_reducible rfl))
  (try simp only [Act.put])
  refine wpAnyH_take (i := 3) (v := .agg (i64s c.regs).toArray) rfl (by kernel_rfl) (by kernel_rfl) (by kernel_rfl) (fun _ _ _ h => h) (yieldsIf_load_mid (by rfl) 114 (.tmp 5) rfl g (0) rfl (i64s c.regs) _ (fun V hV => range_below HR0.out hV HLT.out) Tryd.underlying114 rfl HI1.out) (by assumption) ?_
  simp only [List.getElem_toArray, List.getElem_cons_succ, List.getElem_cons_zero]
  (try simp only [Act.put, List.setIfInBounds_toArray, List.set_cons_zero, List.set_cons_succ])
  refine wpAnyH_take (i := 4) (v := ?_) rfl (by kernel_rfl) (by kernel_rfl) (by kernel_rfl) (fun _ _ _ h => h) (Or.inl ⟨by rfl, ?_⟩) (by assumption) ?_
  rotate_left
  · (intro W hSW; go_simp; try (with_reducible rfl))
  (try simp only [Act.put, List.setIfInBounds_toArray])
  refine wpAnyH_take (i := 5) (v := ?_) rfl (by kernel_rfl) (by kernel_rfl) (by kernel_rfl) (fun _ _ _ h => h) (Or.inl ⟨by rfl, ?_⟩) (by assumption) ?_
  rotate_left
  · (intro W hSW; go_simp; try (with_reducible rfl))
  (try simp only [Act.put])
  refine wpAnyH_take (i := 6) (v := ?_) rfl (by kernel_rfl) (by kernel_rfl) (by kernel_rfl) (fun _ _ _ h => h) (Or.inl ⟨by rfl, ?_⟩) (by assumption) ?_
  rotate_left
  · (intro W hSW; go_simp; try (with_reducible rfl))
  (try simp only [Act.put])
  refine wpAnyH_take (i := 7) (v := ?_) rfl (by kernel_rfl) (by kernel_rfl) (by kernel_rfl) (fun _ _ _ h => h) (Or.inl ⟨by rfl, ?_⟩) (by assumption) ?_
  rotate_left
  · (intro W hSW; have z0 := keeps_below hSW _ _ c96; go_simp; try (with_reducible rfl))
  (try simp only [Act.put])
  refine wpAnyH_take (i := 8) (v := ?_) rfl (by kernel_rfl) (by kernel_rfl) (by kernel_rfl) (fun _ _ _ h => h) (Or.inl ⟨by rfl, ?_⟩) (by assumption) ?_
  rotate_left
  · (intro W hSW; go_simp; try (with_reducible rfl))
  (try simp only [Act.put])
  refine wpAnyH_take (i := 9) (v := ?_) rfl (by kernel_rfl) (by kernel_rfl) (by kernel_rfl) (fun _ _ _ h => h) (Or.inl ⟨by rfl, ?_⟩) (by assumption) ?_
  rotate_left
  · (intro W hSW; go_simp; try (with_reducible rfl))
  (try simp only [Act.put])
  refine wpAnyH_take (i := 10) (v := ?_) rfl (by kernel_rfl) (by kernel_rfl) (by kernel_rfl) (fun _ _ _ h => h) (Or.inl ⟨by rfl, ?_⟩) (by assumption) ?_
  rotate_left
  · (intro W hSW; go_simp; try (with_reducible rfl))
  (try simp only [Act.put])
  refine wpAnyH_take (i := 11) (v := .agg (i64s c.data).toArray) rfl (by kernel_rfl) (by kernel_rfl) (by kernel_rfl) (fun _ _ _ h => h) (yieldsIf_load_mid (by rfl) 115 (.tmp 13) rfl g (32) rfl (i64s c.data) _ (fun V hV => range_below HR32.out hV HLT.out) Tryd.underlying115 rfl HI2.out) (by assumption) ?_
  simp only [List.getElem_toArray, List.getElem_cons_succ, List.getElem_cons_zero]
  (try simp only [Act.put, List.setIfInBounds_toArray, List.set_cons_zero, List.set_cons_succ])
  refine wpAnyH_take (i := 12) (v := ?_) rfl (by kernel_rfl) (by kernel_rfl) (by kernel_rfl) (fun _ _ _ h => h) (Or.inl ⟨by rfl, ?_⟩) (by assumption) ?_
  rotate_left
  · (intro W hSW; go_simp; try (with_reducible rfl))
  (try simp only [Act.put, List.setIfInBounds_toArray])
  refine wpAnyH_take (i := 13) (v := ?_) rfl (by kernel_rfl) (by kernel_rfl) (by kernel_rfl) (fun _ _ _ h => h) (Or.inl ⟨by rfl, ?_⟩) (by assumption) ?_
  rotate_left
  · (intro W hSW; go_simp; try (with_reducible rfl))
  (try simp only [Act.put])
  refine wpAnyH_take (i := 14) (v := ?_) rfl (by kernel_rfl) (by kernel_rfl) (by kernel_rfl) (fun _ _ _ h => h) (Or.inl ⟨by rfl, ?_⟩) (by assumption) ?_
  rotate_left
  · (intro W hSW; go_simp; try (with_reducible rfl))
  (try simp only [Act.put])
  refine wpAnyH_take (i := 15) (v := ?_) rfl (by kernel_rfl) (by kernel_rfl) (by kernel_rfl) (fun _ _ _ h => h) (Or.inl ⟨by rfl, ?_⟩) (by assumption) ?_
  rotate_left
  · (intro W hSW; have z0 := keeps_below hSW _ _ c97; go_simp; try (with_reducible rfl))
  (try simp only [Act.put])
  refine wpAnyH_take (i := 16) (v := .agg (cpuCells c).toArray) rfl (by kernel_rfl) (by kernel_rfl) (by kernel_rfl) (fun _ _ _ h => h) (yieldsIf_build_to (by rfl) _ _ rfl _ (by simpa [Act.eval, Act.put] using built_cp HOK.out)) (by assumption) ?_
  simp only [List.getElem_toArray, List.getElem_cons_succ, List.getElem_cons_zero]
  (try simp only [Act.put, List.setIfInBounds_toArray, List.set_cons_zero, List.set_cons_succ])
  refine wpAnyH_done (by kernel_rfl) ?_ _
  refine Or.inl ?_
  refine wp_store_row _ _ _ rfl _ (cpuCells c).toArray rfl rfl _ _ H1.out (infoCpC HOK.out) (by rw [zc_cp, List.size_toArray, cp_len HOK.out]) (cp_one _) ?_
  rename_i KK hKK
  refine hKK _ _ (wp_ret ?_)
  change bodyPost Tryd.prog Tryd.f72 (fun e w' => e = .returned (.agg (cpuCells c).toArray) ∧ Below w.heap.size w w') .ret _ _
  exact bodyPost_ret (results_cell_row rfl _ _ w.heap.size 33 _ (0, 0) _ rfl (setRow_heap _ _ _ _ _ _ H1.out) Tryd.underlying33 rfl (infoCpC HOK.out)) rfl ⟨rfl, below_setRowR HB0.out.drew (by omega) _⟩
end Go.Proofs.YtndogdojcbcjgaaDoor

/- Contract of (*cpu.machine).step (written by gen/mkcpustep.py). -/
namespace Go.Proofs.YtndogdojcbcjgaaDoor
open Go Go.RowKit

set_option maxRecDepth 100000 in
set_option maxHeartbeats 4000000 in
theorem cstep_kind (base g : Nat) (c : Cp) (ws : List Int) (ao : Option Addr) (cap : Nat) (w : World) (h : MAt w base g c (.slice ao ws.length cap)) (ht : RvTab w) (hv : IntsVal w (.slice ao ws.length cap) ws) (p0 : 0 ≤ c.pc) (p1 : c.pc < ws.length) (hl : ws.length ≤ 32768) (hd : decE (ws.getD c.pc.toNat 0) ≠ 0) :
    Calls Tryd.prog 73 #[.pointer (some ⟨g, 0, none⟩)] w fun e w' => e = .returned (.int .i64 3) ∧ MAt w' base g c (.slice ao ws.length cap) ∧ Below base w w' := by
  obtain ⟨k, hk⟩ := Int.eq_ofNat_of_zero_le p0
  have hkl : k < ws.length := by omega
  have hgd : ws.getD c.pc.toNat 0 = ws[k] := by rw [hk]; simp [List.getD, hkl]
  have hgk : ws.getD k 0 = ws[k] := by simp [List.getD, hkl]
  obtain ⟨ao', b', off', n', cap', ev, hln, hao, hcl, hcp, hmx⟩ := hv
  obtain ⟨rfl, rfl, rfl⟩ : ao = ao' ∧ ws.length = n' ∧ cap = cap' := by simpa using ev
  obtain rfl := hao (by omega)
  have hcw := hcl k hkl
  have HDE : Hid (∀ V, Below w.heap.size w V → Calls Tryd.prog 105 #[.int .i64 ws[k]] V fun e w' => e = .returned (.tuple #[(decX ws[k]).val, .int .i64 (decE ws[k])]) ∧ Below V.heap.size V w') := fun V hV => rdecode_any ws[k] V (ht.below hV)
  rw [hgd] at hd
  have hne : (decE ws[k] != 0) = true := by simpa using hd
  generalize hE : decE ws[k] = E at *
  generalize ws[k] = wd at *
  generalize hX : decX wd = X at *
  have HM : Hid (∀ n, MAt (w.drewN n) base g c (.slice (some ⟨b', off', none⟩) ws.length cap)) := fun n => h.drewN n
  have HB0 : Hid (∀ n, Below w.heap.size w (w.drewN n)) := fun n => below_drewN (Below.refl _ _) n
  have HBB : Hid (∀ n, Below base w (w.drewN n)) := fun n => below_drewN (Below.refl _ _) n
  have HCW : Hid (∀ n, (w.drewN n).cell? ⟨b', off' + k, none⟩ = some (.int .i64 wd)) := fun n => (HB0.out n).cell (p := ⟨b', off' + k, none⟩) (World.block_lt_of_cell? _ _ hcw) |>.trans hcw
  have HZB : Hid (base ≤ w.heap.size) := by have := h.lt; have := h.low; show _ ≤ _; omega
  have c96 := h.pc
  have c98 := h.words
  rw [hk] at c96
  clear hcl ev hln hgd hgk hao
  generalize ws.length = n at *
  have hkI : (k : Int) < n := by omega
  have d1 : decide ((k : Int) < 0) = false := by simp
  have d2 : decide ((n : Int) ≤ (k : Int)) = false := by simp; omega
  have d3 : decide (n ≤ k) = false := by simp; omega
  have hcp1 : n ≤ cap := hcp.1
  have hcap : cap ≤ 9223372036854775807 := by have := hmx; unfold maxLen at this; exact this
  clear h ht hcp hmx hcw p0 p1
  go_enter Tryd.func73, Tryd.ntmps73
  go_wp2
  go_quiet (fail)
  have HM1 : Hid _ := HM.out nq
  have HBW : Hid _ := HB0.out nq
  have HBX : Hid _ := HBB.out nq
  have cwd := HCW.out nq
  clear c96 c98 d1 d2 d3
  generalize w.drewN nq = W1 at HM1 HBW HBX cwd ⊢
  have c96 := HM1.out.pc
  have c98 := HM1.out.words
  rw [hk] at c96
  replace HDE : Hid (∀ V, Below W1.heap.size W1 V → Calls Tryd.prog 105 #[.int .i64 wd] V fun e w' => e = .returned (.tuple #[.agg (miC X).toArray, .int .i64 E]) ∧ Below V.heap.size V w') := fun V hV => HDE.out V (HBW.out.trans (hV.mono HBW.out.size))
  clear HM HB0 HBB HCW
  go_upto_region 3 with fail
  go_cut [3, 4] from 22 to 35 (fun s3 s4 wx => ∃ G : Nat, s3 = .pointer (some ⟨G, 0, none⟩) ∧ s4 = .int .i64 E ∧ wx.heap[G]? = some (.cells (miC X).toArray 151 (0, 0)) ∧ Below W1.heap.size W1 wx ∧ W1.heap.size ≤ G)
  case first =>
    refine wp_region_held_drew (S := fun V => Below W1.heap.size W1 V) (by kernel_rfl) ((Below.refl _ _).drew) (fun hHeld => ?_)
    show wpAnyH _ _ _ _ _ 17 _ _ _
    refine wpAnyH_take (i := 0) (v := ?_) rfl (by kernel_rfl) (by kernel_rfl) (by kernel_rfl) (fun _ _ _ h => h) (Or.inl ⟨by rfl, ?_⟩) (by assumption) ?_
    rotate_left
    · (intro W hSW; go_simp; try (with_reducible rfl))
    (try simp only [Act.put, List.setIfInBounds_toArray])
    refine wpAnyH_take (i := 1) (v := ?_) rfl (by kernel_rfl) (by kernel_rfl) (by kernel_rfl) (fun _ _ _ h => h) (Or.inl ⟨by rfl, ?_⟩) (by assumption) ?_
    rotate_left
    · (intro W hSW; go_simp; try (with_reducible rfl))
    (try simp only [Act.put])
    refine wpAnyH_take (i := 2) (v := ?_) rfl (by kernel_rfl) (by kernel_rfl) (by kernel_rfl) (fun _ _ _ h => h) (Or.inl ⟨by rfl, ?_⟩) (by assumption) ?_
    rotate_left
    · (intro W hSW; go_simp; try (with_reducible rfl))
    (try simp only [Act.put])
    refine wpAnyH_take (i := 3) (v := ?_) rfl (by kernel_rfl) (by kernel_rfl) (by kernel_rfl) (fun _ _ _ h => h) (Or.inl ⟨by rfl, ?_⟩) (by assumption) ?_
    rotate_left
    · (intro W hSW; have z0 := keeps_below hSW _ _ c98; go_simp; try (with_reducible rfl))
    (try simp only [Act.put])
    refine wpAnyH_take (i := 4) (v := ?_) rfl (by kernel_rfl) (by kernel_rfl) (by kernel_rfl) (fun _ _ _ h => h) (Or.inl ⟨by rfl, ?_⟩) (by assumption) ?_
    rotate_left
    · (intro W hSW; go_simp; try (with_reducible rfl))
    (try simp only [Act.put])
    refine wpAnyH_take (i := 5) (v := ?_) rfl (by kernel_rfl) (by kernel_rfl) (by kernel_rfl) (fun _ _ _ h => h) (Or.inl ⟨by rfl, ?_⟩) (by assumption) ?_
    rotate_left
    · (intro W hSW; go_simp; try (with_reducible rfl))
    (try simp only [Act.put])
    refine wpAnyH_take (i := 6) (v := ?_) rfl (by kernel_rfl) (by kernel_rfl) (by kernel_rfl) (fun _ _ _ h => h) (Or.inl ⟨by rfl, ?_⟩) (by assumption) ?_
    rotate_left
    · (intro W hSW; go_simp; try (with_reducible rfl))
    (try simp only [Act.put])
    refine wpAnyH_take (i := 7) (v := ?_) rfl (by kernel_rfl) (by kernel_rfl) (by kernel_rfl) (fun _ _ _ h => h) (Or.inl ⟨by rfl, ?_⟩) (by assumption) ?_
    rotate_left
    · (intro W hSW; have z0 := keeps_below hSW _ _ c96; go_simp; try (with_reducible rfl))
    (try simp only [Act.put])
    refine wpAnyH_take (i := 8) (v := ?_) rfl (by kernel_rfl) (by kernel_rfl) (by kernel_rfl) (fun _ _ _ h => h) (Or.inl ⟨by rfl, ?_⟩) (by assumption) ?_
    rotate_left
    · (intro W hSW; go_simp; try (with_reducible rfl))
    (try simp only [Act.put])
    refine wpAnyH_take (i := 9) (v := ?_) rfl (by kernel_rfl) (by kernel_rfl) (by kernel_rfl) (fun _ _ _ h => h) (Or.inl ⟨by rfl, ?_⟩) (by assumption) ?_
    rotate_left
    · (intro W hSW; have z0 := keeps_below hSW _ _ cwd; go_simp; try (with_reducible rfl))
    (try simp only [Act.put])
    refine wpAnyH_ready (rs := [10, 14]) (by kernel_rfl) (by simp) ?_
    refine AllReadyH.cons rfl (fun K hK => ?_) (AllReadyH.cons rfl (fun K hK => ?_) AllReadyH.nil)
    · -- the call, then the box
      go_simp
      go_at_call 105
      refine (HDE.out _ hHeld).mono ?_
      rintro e wn ⟨rfl, hb⟩
      have hbn : Below W1.heap.size W1 wn := Below.trans hHeld (hb.mono (Below.size hHeld))
      dsimp only
      refine hK.out _ _ hbn (fun _ => ?_)
      clear hK K
      (try simp only [Act.put, List.setIfInBounds_toArray, List.set_cons_zero, List.set_cons_succ])
      refine wpAnyH_take (i := 11) (v := ?_) rfl (by kernel_rfl) (by kernel_rfl) (by kernel_rfl) (fun _ _ _ h => h) (Or.inl ⟨by rfl, ?_⟩) hbn ?_
      rotate_left
      · (intro V hSW; go_simp; try (with_reducible rfl))
      (try simp only [Act.put, List.setIfInBounds_toArray])
      refine wpAnyH_take (i := 12) (v := ?_) rfl (by kernel_rfl) (by kernel_rfl) (by kernel_rfl) (fun _ _ _ h => h) (Or.inl ⟨by rfl, ?_⟩) hbn ?_
      rotate_left
      · (intro V hSW; go_simp; try (with_reducible rfl))
      (try simp only [Act.put])
      refine wpAnyH_take (i := 13) (v := ?_) rfl (by kernel_rfl) (by kernel_rfl) (by kernel_rfl) (fun _ _ _ h => h) (Or.inl ⟨by rfl, ?_⟩) hbn ?_
      rotate_left
      · (intro V hSW; go_simp; try (with_reducible rfl))
      (try simp only [Act.put])
      refine wpAnyH_ready (rs := [14]) (by kernel_rfl) (by simp) ?_
      refine AllReadyH.cons rfl (fun K hK => ?_) AllReadyH.nil
      go_simp
      refine hK.out _ _ (hbn.alloc hbn.size _) (fun hHeld2 => ?_)
      clear hK K
      (try simp only [Act.put, List.setIfInBounds_toArray, List.set_cons_zero, List.set_cons_succ])
      refine wpAnyH_ready (rs := [15]) (by kernel_rfl) (by simp) ?_
      refine AllReadyH.cons rfl (fun K hK => ?_) AllReadyH.nil
      refine wp_store_row 151 _ _ rfl wn.heap.size (miC X).toArray rfl rfl 151 #[.int .i64 0, .int .i64 0, .int .i64 0, .int .i64 0, .int .i64 0] (heap_alloc_last wn _) infoRv rfl (miC_one _) ?_
      have BN : Below W1.heap.size W1 (World.setRow (wn.alloc (.cells #[.int .i64 0, .int .i64 0, .int .i64 0, .int .i64 0, .int .i64 0] 151)) wn.heap.size (miC X).toArray) := below_setRowR (hbn.alloc hbn.size _) hbn.size _
      refine hK.out _ _ BN (fun _ => ?_)
      clear hK K
      (try simp only [Act.put, List.setIfInBounds_toArray])
      refine wpAnyH_ready (rs := [16]) (by kernel_rfl) (by simp) ?_
      refine AllReadyH.cons rfl (fun K hK => ?_) AllReadyH.nil
      go_simp
      refine hK.out _ _ BN (fun _ => ?_)
      clear hK K
      (try simp only [Act.put, List.setIfInBounds_toArray, List.set_cons_zero, List.set_cons_succ])
      refine wpAnyH_done (by kernel_rfl) ?_ _
      go_wp2_with fail
      go_meet
      exact ⟨_, rfl, rfl, setRow_heap _ _ _ _ _ _ (heap_alloc_last wn _), BN, hbn.size⟩
    · -- the box, then the call
      go_simp
      refine hK.out _ _ ((Below.refl _ _).alloc (Nat.le_refl _) _).drew (fun hHeld2 => ?_)
      clear hK K
      (try simp only [Act.put, List.setIfInBounds_toArray, List.set_cons_zero, List.set_cons_succ])
      refine wpAnyH_ready (rs := [10]) (by kernel_rfl) (by simp) ?_
      refine AllReadyH.cons rfl (fun K hK => ?_) AllReadyH.nil
      go_simp
      go_at_call 105
      refine (HDE.out _ hHeld2).mono ?_
      rintro e wn ⟨rfl, hb⟩
      have hbn : Below W1.heap.size W1 wn := Below.trans hHeld2 (hb.mono (Below.size hHeld2))
      dsimp only
      refine hK.out _ _ hbn (fun _ => ?_)
      clear hK K
      (try simp only [Act.put, List.setIfInBounds_toArray, List.set_cons_zero, List.set_cons_succ])
      have hgz : wn.heap[W1.heap.size]? = some (.cells #[.int .i64 0, .int .i64 0, .int .i64 0, .int .i64 0, .int .i64 0] 151 (0, 0)) := (hb.block _ (by simp)).trans (heap_alloc_last W1 _)
      refine wpAnyH_take (i := 11) (v := ?_) rfl (by kernel_rfl) (by kernel_rfl) (by kernel_rfl) (fun _ _ _ h => h) (Or.inl ⟨by rfl, ?_⟩) hbn ?_
      rotate_left
      · (intro V hSW; go_simp; try (with_reducible rfl))
      (try simp only [Act.put, List.setIfInBounds_toArray])
      refine wpAnyH_take (i := 12) (v := ?_) rfl (by kernel_rfl) (by kernel_rfl) (by kernel_rfl) (fun _ _ _ h => h) (Or.inl ⟨by rfl, ?_⟩) hbn ?_
      rotate_left
      · (intro V hSW; go_simp; try (with_reducible rfl))
      (try simp only [Act.put])
      refine wpAnyH_take (i := 13) (v := ?_) rfl (by kernel_rfl) (by kernel_rfl) (by kernel_rfl) (fun _ _ _ h => h) (Or.inl ⟨by rfl, ?_⟩) hbn ?_
      rotate_left
      · (intro V hSW; go_simp; try (with_reducible rfl))
      (try simp only [Act.put])
      refine wpAnyH_ready (rs := [15]) (by kernel_rfl) (by simp) ?_
      refine AllReadyH.cons rfl (fun K hK => ?_) AllReadyH.nil
      refine wp_store_row 151 _ _ rfl W1.heap.size (miC X).toArray rfl rfl 151 #[.int .i64 0, .int .i64 0, .int .i64 0, .int .i64 0, .int .i64 0] hgz infoRv rfl (miC_one _) ?_
      have BN : Below W1.heap.size W1 (World.setRow wn W1.heap.size (miC X).toArray) := below_setRowR hbn (Nat.le_refl _) _
      refine hK.out _ _ BN (fun _ => ?_)
      clear hK K
      (try simp only [Act.put])
      refine wpAnyH_ready (rs := [16]) (by kernel_rfl) (by simp) ?_
      refine AllReadyH.cons rfl (fun K hK => ?_) AllReadyH.nil
      go_simp
      refine hK.out _ _ BN (fun _ => ?_)
      clear hK K
      (try simp only [Act.put, List.setIfInBounds_toArray, List.set_cons_zero, List.set_cons_succ])
      refine wpAnyH_done (by kernel_rfl) ?_ _
      go_wp2_with fail
      go_meet
      exact ⟨_, rfl, rfl, setRow_heap _ _ _ _ _ _ hgz, BN, Nat.le_refl _⟩
  case rest =>
    obtain ⟨G, rfl, rfl, hG, hbc, hGl⟩ := hcut
    have HMC : Hid (MAt wc base g c (.slice (some ⟨b', off', none⟩) n cap)) := HM1.out.below hbc HM1.out.lt
    have HBC : Hid (Below base w wc) := HBX.out.trans (hbc.mono (Nat.le_trans HZB.out HBW.out.size))
    clear c96 c98 cwd
    go_wp2
    go_ret
    exact ⟨rfl, HMC.out, HBC.out⟩
set_option maxRecDepth 100000 in
set_option maxHeartbeats 4000000 in
theorem cstep_do (base g : Nat) (c : Cp) (ws : List Int) (ao : Option Addr) (cap : Nat) (w : World) (h : MAt w base g c (.slice ao ws.length cap)) (ht : RvTab w) (hv : IntsVal w (.slice ao ws.length cap) ws) (p0 : 0 ≤ c.pc) (p1 : c.pc < ws.length) (hl : ws.length ≤ 32768) (hd : decE (ws.getD c.pc.toNat 0) = 0) :
    Calls Tryd.prog 73 #[.pointer (some ⟨g, 0, none⟩)] w fun e w' => e = .returned (.int .i64 (doE (decX (ws.getD c.pc.toNat 0)) (c.reg (decX (ws.getD c.pc.toNat 0)).rs1))) ∧ MAt w' base g (stepC ws c) (.slice ao ws.length cap) ∧ Below base w w' := by
  obtain ⟨k, hk⟩ := Int.eq_ofNat_of_zero_le p0
  have hkl : k < ws.length := by omega
  have hgd : ws.getD c.pc.toNat 0 = ws[k] := by rw [hk]; simp [List.getD, hkl]
  have hgk : ws.getD k 0 = ws[k] := by simp [List.getD, hkl]
  obtain ⟨ao', b', off', n', cap', ev, hln, hao, hcl, hcp, hmx⟩ := hv
  obtain ⟨rfl, rfl, rfl⟩ : ao = ao' ∧ ws.length = n' ∧ cap = cap' := by simpa using ev
  obtain rfl := hao (by omega)
  have hcw := hcl k hkl
  have HDE : Hid (∀ V, Below w.heap.size w V → Calls Tryd.prog 105 #[.int .i64 ws[k]] V fun e w' => e = .returned (.tuple #[(decX ws[k]).val, .int .i64 (decE ws[k])]) ∧ Below V.heap.size V w') := fun V hV => rdecode_any ws[k] V (ht.below hV)
  rw [hgd] at hd
  have HP : Hid (0 ≤ c.pc ∧ c.pc < 100000) := ⟨p0, by omega⟩
  have HXO : Hid (MiOk (decX ws[k])) := (word_dec ws[k] hd).1
  rw [hd] at HDE
  unfold stepC
  rw [hgd]
  clear hd
  generalize ws[k] = wd at *
  generalize hX : decX wd = X at *
  have HM : Hid (∀ n, MAt (w.drewN n) base g c (.slice (some ⟨b', off', none⟩) ws.length cap)) := fun n => h.drewN n
  have HB0 : Hid (∀ n, Below w.heap.size w (w.drewN n)) := fun n => below_drewN (Below.refl _ _) n
  have HBB : Hid (∀ n, Below base w (w.drewN n)) := fun n => below_drewN (Below.refl _ _) n
  have HCW : Hid (∀ n, (w.drewN n).cell? ⟨b', off' + k, none⟩ = some (.int .i64 wd)) := fun n => (HB0.out n).cell (p := ⟨b', off' + k, none⟩) (World.block_lt_of_cell? _ _ hcw) |>.trans hcw
  have HZB : Hid (base ≤ w.heap.size) := by have := h.lt; have := h.low; show _ ≤ _; omega
  have c96 := h.pc
  have c98 := h.words
  rw [hk] at c96
  clear hcl ev hln hgd hgk hao
  generalize ws.length = n at *
  have hkI : (k : Int) < n := by omega
  have d1 : decide ((k : Int) < 0) = false := by simp
  have d2 : decide ((n : Int) ≤ (k : Int)) = false := by simp; omega
  have d3 : decide (n ≤ k) = false := by simp; omega
  have hcp1 : n ≤ cap := hcp.1
  have hcap : cap ≤ 9223372036854775807 := by have := hmx; unfold maxLen at this; exact this
  clear h ht hcp hmx hcw p0 p1
  go_enter Tryd.func73, Tryd.ntmps73
  go_wp2
  go_quiet (fail)
  have HM1 : Hid _ := HM.out nq
  have HBW : Hid _ := HB0.out nq
  have HBX : Hid _ := HBB.out nq
  have cwd := HCW.out nq
  clear c96 c98 d1 d2 d3
  generalize w.drewN nq = W1 at HM1 HBW HBX cwd ⊢
  have c96 := HM1.out.pc
  have c98 := HM1.out.words
  rw [hk] at c96
  replace HDE : Hid (∀ V, Below W1.heap.size W1 V → Calls Tryd.prog 105 #[.int .i64 wd] V fun e w' => e = .returned (.tuple #[.agg (miC X).toArray, .int .i64 0]) ∧ Below V.heap.size V w') := fun V hV => HDE.out V (HBW.out.trans (hV.mono HBW.out.size))
  clear HM HB0 HBB HCW
  go_upto_region 3 with fail
  go_cut [3, 4] from 22 to 35 (fun s3 s4 wx => ∃ G : Nat, s3 = .pointer (some ⟨G, 0, none⟩) ∧ s4 = .int .i64 0 ∧ wx.heap[G]? = some (.cells (miC X).toArray 151 (0, 0)) ∧ Below W1.heap.size W1 wx ∧ W1.heap.size ≤ G)
  case first =>
    refine wp_region_held_drew (S := fun V => Below W1.heap.size W1 V) (by kernel_rfl) ((Below.refl _ _).drew) (fun hHeld => ?_)
    show wpAnyH _ _ _ _ _ 17 _ _ _
    refine wpAnyH_take (i := 0) (v := ?_) rfl (by kernel_rfl) (by kernel_rfl) (by kernel_rfl) (fun _ _ _ h => h) (Or.inl ⟨by rfl, ?_⟩) (by assumption) ?_
    rotate_left
    · (intro W hSW; go_simp; try (with_reducible rfl))
    (try simp only [Act.put, List.setIfInBounds_toArray])
    refine wpAnyH_take (i := 1) (v := ?_) rfl (by kernel_rfl) (by kernel_rfl) (by kernel_rfl) (fun _ _ _ h => h) (Or.inl ⟨by rfl, ?_⟩) (by assumption) ?_
    rotate_left
    · (intro W hSW; go_simp; try (with_reducible rfl))
    (try simp only [Act.put])
    refine wpAnyH_take (i := 2) (v := ?_) rfl (by kernel_rfl) (by kernel_rfl) (by kernel_rfl) (fun _ _ _ h => h) (Or.inl ⟨by rfl, ?_⟩) (by assumption) ?_
    rotate_left
    · (intro W hSW; go_simp; try (with_reducible rfl))
    (try simp only [Act.put])
    refine wpAnyH_take (i := 3) (v := ?_) rfl (by kernel_rfl) (by kernel_rfl) (by kernel_rfl) (fun _ _ _ h => h) (Or.inl ⟨by rfl, ?_⟩) (by assumption) ?_
    rotate_left
    · (intro W hSW; have z0 := keeps_below hSW _ _ c98; go_simp; try (with_reducible rfl))
    (try simp only [Act.put])
    refine wpAnyH_take (i := 4) (v := ?_) rfl (by kernel_rfl) (by kernel_rfl) (by kernel_rfl) (fun _ _ _ h => h) (Or.inl ⟨by rfl, ?_⟩) (by assumption) ?_
    rotate_left
    · (intro W hSW; go_simp; try (with_reducible rfl))
    (try simp only [Act.put])
    refine wpAnyH_take (i := 5) (v := ?_) rfl (by kernel_rfl) (by kernel_rfl) (by kernel_rfl) (fun _ _ _ h => h) (Or.inl ⟨by rfl, ?_⟩) (by assumption) ?_
    rotate_left
    · (intro W hSW; go_simp; try (with_reducible rfl))
    (try simp only [Act.put])
    refine wpAnyH_take (i := 6) (v := ?_) rfl (by kernel_rfl) (by kernel_rfl) (by kernel_rfl) (fun _ _ _ h => h) (Or.inl ⟨by rfl, ?_⟩) (by assumption) ?_
    rotate_left
    · (intro W hSW; go_simp; try (with_reducible rfl))
    (try simp only [Act.put])
    refine wpAnyH_take (i := 7) (v := ?_) rfl (by kernel_rfl) (by kernel_rfl) (by kernel_rfl) (fun _ _ _ h => h) (Or.inl ⟨by rfl, ?_⟩) (by assumption) ?_
    rotate_left
    · (intro W hSW; have z0 := keeps_below hSW _ _ c96; go_simp; try (with_reducible rfl))
    (try simp only [Act.put])
    refine wpAnyH_take (i := 8) (v := ?_) rfl (by kernel_rfl) (by kernel_rfl) (by kernel_rfl) (fun _ _ _ h => h) (Or.inl ⟨by rfl, ?_⟩) (by assumption) ?_
    rotate_left
    · (intro W hSW; go_simp; try (with_reducible rfl))
    (try simp only [Act.put])
    refine wpAnyH_take (i := 9) (v := ?_) rfl (by kernel_rfl) (by kernel_rfl) (by kernel_rfl) (fun _ _ _ h => h) (Or.inl ⟨by rfl, ?_⟩) (by assumption) ?_
    rotate_left
    · (intro W hSW; have z0 := keeps_below hSW _ _ cwd; go_simp; try (with_reducible rfl))
    (try simp only [Act.put])
    refine wpAnyH_ready (rs := [10, 14]) (by kernel_rfl) (by simp) ?_
    refine AllReadyH.cons rfl (fun K hK => ?_) (AllReadyH.cons rfl (fun K hK => ?_) AllReadyH.nil)
    · -- the call, then the box
      go_simp
      go_at_call 105
      refine (HDE.out _ hHeld).mono ?_
      rintro e wn ⟨rfl, hb⟩
      have hbn : Below W1.heap.size W1 wn := Below.trans hHeld (hb.mono (Below.size hHeld))
      dsimp only
      refine hK.out _ _ hbn (fun _ => ?_)
      clear hK K
      (try simp only [Act.put, List.setIfInBounds_toArray, List.set_cons_zero, List.set_cons_succ])
      refine wpAnyH_take (i := 11) (v := ?_) rfl (by kernel_rfl) (by kernel_rfl) (by kernel_rfl) (fun _ _ _ h => h) (Or.inl ⟨by rfl, ?_⟩) hbn ?_
      rotate_left
      · (intro V hSW; go_simp; try (with_reducible rfl))
      (try simp only [Act.put, List.setIfInBounds_toArray])
      refine wpAnyH_take (i := 12) (v := ?_) rfl (by kernel_rfl) (by kernel_rfl) (by kernel_rfl) (fun _ _ _ h => h) (Or.inl ⟨by rfl, ?_⟩) hbn ?_
      rotate_left
      · (intro V hSW; go_simp; try (with_reducible rfl))
      (try simp only [Act.put])
      refine wpAnyH_take (i := 13) (v := ?_) rfl (by kernel_rfl) (by kernel_rfl) (by kernel_rfl) (fun _ _ _ h => h) (Or.inl ⟨by rfl, ?_⟩) hbn ?_
      rotate_left
      · (intro V hSW; go_simp; try (with_reducible rfl))
      (try simp only [Act.put])
      refine wpAnyH_ready (rs := [14]) (by kernel_rfl) (by simp) ?_
      refine AllReadyH.cons rfl (fun K hK => ?_) AllReadyH.nil
      go_simp
      refine hK.out _ _ (hbn.alloc hbn.size _) (fun hHeld2 => ?_)
      clear hK K
      (try simp only [Act.put, List.setIfInBounds_toArray, List.set_cons_zero, List.set_cons_succ])
      refine wpAnyH_ready (rs := [15]) (by kernel_rfl) (by simp) ?_
      refine AllReadyH.cons rfl (fun K hK => ?_) AllReadyH.nil
      refine wp_store_row 151 _ _ rfl wn.heap.size (miC X).toArray rfl rfl 151 #[.int .i64 0, .int .i64 0, .int .i64 0, .int .i64 0, .int .i64 0] (heap_alloc_last wn _) infoRv rfl (miC_one _) ?_
      have BN : Below W1.heap.size W1 (World.setRow (wn.alloc (.cells #[.int .i64 0, .int .i64 0, .int .i64 0, .int .i64 0, .int .i64 0] 151)) wn.heap.size (miC X).toArray) := below_setRowR (hbn.alloc hbn.size _) hbn.size _
      refine hK.out _ _ BN (fun _ => ?_)
      clear hK K
      (try simp only [Act.put, List.setIfInBounds_toArray])
      refine wpAnyH_ready (rs := [16]) (by kernel_rfl) (by simp) ?_
      refine AllReadyH.cons rfl (fun K hK => ?_) AllReadyH.nil
      go_simp
      refine hK.out _ _ BN (fun _ => ?_)
      clear hK K
      (try simp only [Act.put, List.setIfInBounds_toArray, List.set_cons_zero, List.set_cons_succ])
      refine wpAnyH_done (by kernel_rfl) ?_ _
      go_wp2_with fail
      go_meet
      exact ⟨_, rfl, rfl, setRow_heap _ _ _ _ _ _ (heap_alloc_last wn _), BN, hbn.size⟩
    · -- the box, then the call
      go_simp
      refine hK.out _ _ ((Below.refl _ _).alloc (Nat.le_refl _) _).drew (fun hHeld2 => ?_)
      clear hK K
      (try simp only [Act.put, List.setIfInBounds_toArray, List.set_cons_zero, List.set_cons_succ])
      refine wpAnyH_ready (rs := [10]) (by kernel_rfl) (by simp) ?_
      refine AllReadyH.cons rfl (fun K hK => ?_) AllReadyH.nil
      go_simp
      go_at_call 105
      refine (HDE.out _ hHeld2).mono ?_
      rintro e wn ⟨rfl, hb⟩
      have hbn : Below W1.heap.size W1 wn := Below.trans hHeld2 (hb.mono (Below.size hHeld2))
      dsimp only
      refine hK.out _ _ hbn (fun _ => ?_)
      clear hK K
      (try simp only [Act.put, List.setIfInBounds_toArray, List.set_cons_zero, List.set_cons_succ])
      have hgz : wn.heap[W1.heap.size]? = some (.cells #[.int .i64 0, .int .i64 0, .int .i64 0, .int .i64 0, .int .i64 0] 151 (0, 0)) := (hb.block _ (by simp)).trans (heap_alloc_last W1 _)
      refine wpAnyH_take (i := 11) (v := ?_) rfl (by kernel_rfl) (by kernel_rfl) (by kernel_rfl) (fun _ _ _ h => h) (Or.inl ⟨by rfl, ?_⟩) hbn ?_
      rotate_left
      · (intro V hSW; go_simp; try (with_reducible rfl))
      (try simp only [Act.put, List.setIfInBounds_toArray])
      refine wpAnyH_take (i := 12) (v := ?_) rfl (by kernel_rfl) (by kernel_rfl) (by kernel_rfl) (fun _ _ _ h => h) (Or.inl ⟨by rfl, ?_⟩) hbn ?_
      rotate_left
      · (intro V hSW; go_simp; try (with_reducible rfl))
      (try simp only [Act.put])
      refine wpAnyH_take (i := 13) (v := ?_) rfl (by kernel_rfl) (by kernel_rfl) (by kernel_rfl) (fun _ _ _ h => h) (Or.inl ⟨by rfl, ?_⟩) hbn ?_
      rotate_left
      · (intro V hSW; go_simp; try (with_reducible rfl))
      (try simp only [Act.put])
      refine wpAnyH_ready (rs := [15]) (by kernel_rfl) (by simp) ?_
      refine AllReadyH.cons rfl (fun K hK => ?_) AllReadyH.nil
      refine wp_store_row 151 _ _ rfl W1.heap.size (miC X).toArray rfl rfl 151 #[.int .i64 0, .int .i64 0, .int .i64 0, .int .i64 0, .int .i64 0] hgz infoRv rfl (miC_one _) ?_
      have BN : Below W1.heap.size W1 (World.setRow wn W1.heap.size (miC X).toArray) := below_setRowR hbn (Nat.le_refl _) _
      refine hK.out _ _ BN (fun _ => ?_)
      clear hK K
      (try simp only [Act.put])
      refine wpAnyH_ready (rs := [16]) (by kernel_rfl) (by simp) ?_
      refine AllReadyH.cons rfl (fun K hK => ?_) AllReadyH.nil
      go_simp
      refine hK.out _ _ BN (fun _ => ?_)
      clear hK K
      (try simp only [Act.put, List.setIfInBounds_toArray, List.set_cons_zero, List.set_cons_succ])
      refine wpAnyH_done (by kernel_rfl) ?_ _
      go_wp2_with fail
      go_meet
      exact ⟨_, rfl, rfl, setRow_heap _ _ _ _ _ _ hgz, BN, Nat.le_refl _⟩
  case rest =>
    obtain ⟨G, rfl, rfl, hG, hbc, hGl⟩ := hcut
    have HMC : Hid (MAt wc base g c (.slice (some ⟨b', off', none⟩) n cap)) := HM1.out.below hbc HM1.out.lt
    have HBC : Hid (Below base w wc) := HBX.out.trans (hbc.mono (Nat.le_trans HZB.out HBW.out.size))
    clear c96 c98 cwd
    obtain ⟨-, -, s0, s1, t0, t1, -, -⟩ := mi_bounds X HXO.out
    obtain ⟨q1, hq1⟩ := Int.eq_ofNat_of_zero_le s0
    obtain ⟨q2, hq2⟩ := Int.eq_ofNat_of_zero_le t0
    have x2 : wc.cell? ⟨G, 2, none⟩ = some (.int .i64 (q1 : Int)) := by rw [cell_of_row _ _ _ _ _ _ hG, ← hq1]; rfl
    have x3 : wc.cell? ⟨G, 3, none⟩ = some (.int .i64 (q2 : Int)) := by rw [cell_of_row _ _ _ _ _ _ hG, ← hq2]; rfl
    have HXR : Hid (wc.rangeAt G 0 (miC X)) := range_of_row hG 0 _ (fun j u hu => by simpa using hu)
    have HXZ : Hid (G < wc.heap.size) := lt_of_block hG
    have hq1I : (q1 : Int) < 32 := by omega
    have hq2I : (q2 : Int) < 32 := by omega
    have cr1 := HMC.out.reg q1 (by omega)
    have cr2 := HMC.out.reg q2 (by omega)
    have er1 : c.reg X.rs1 = c.regs.getD q1 0 := by unfold Cp.reg; rw [hq1]; rfl
    have er2 : c.reg X.rs2 = c.regs.getD q2 0 := by unfold Cp.reg; rw [hq2]; rfl
    obtain ⟨va, hva⟩ : ∃ va, va = c.regs.getD q1 0 := ⟨_, rfl⟩
    obtain ⟨vb, hvb⟩ : ∃ vb, vb = c.regs.getD q2 0 := ⟨_, rfl⟩
    rw [← hva] at cr1 er1
    rw [← hvb] at cr2 er2
    have HE1 : Hid (c.reg X.rs1 = va) := er1
    have HE2 : Hid (c.reg X.rs2 = vb) := er2
    clear hG hbc hGl hq1 hq2 er1 er2 s0 s1 t0 t1 hX hkl hk hva hvb
    go_upto_region 6 with fail
    refine wp_region_last2 (S := fun V => Below wc.heap.size wc V) _ 16 (by kernel_rfl) (by kernel_rfl) rfl (by kernel_rfl) rfl ((Below.refl _ _).drew) (fun hHeld => ?_)
    simp only [List.pop_toArray, List.dropLast]
    refine wpAnyH_take (i := 0) (v := ?_) rfl (by kernel_rfl) (by kernel_rfl) (by kernel_rfl) (fun _ _ _ h => h) (Or.inl ⟨by rfl, ?_⟩) (by assumption) ?_
    rotate_left
    · (intro W hSW; go_simp; try (with_reducible rfl))
    (try simp only [Act.put, List.setIfInBounds_toArray])
    refine wpAnyH_take (i := 1) (v := .agg (miC X).toArray) rfl (by kernel_rfl) (by kernel_rfl) (by kernel_rfl) (fun _ _ _ h => h) (yieldsIf_load_mid (by rfl) 151 (.tmp 3) rfl G (0) rfl (miC X) _ (fun V hV => range_below HXR.out hV HXZ.out) Tryd.underlying151 rfl infoRv) (by assumption) ?_
    simp only [List.getElem_toArray, List.getElem_cons_succ, List.getElem_cons_zero]
    (try simp only [Act.put, List.setIfInBounds_toArray, List.set_cons_zero, List.set_cons_succ])
    refine wpAnyH_take (i := 2) (v := ?_) rfl (by kernel_rfl) (by kernel_rfl) (by kernel_rfl) (fun _ _ _ h => h) (Or.inl ⟨by rfl, ?_⟩) (by assumption) ?_
    rotate_left
    · (intro W hSW; go_simp; try (with_reducible rfl))
    (try simp only [Act.put, List.setIfInBounds_toArray])
    refine wpAnyH_take (i := 3) (v := ?_) rfl (by kernel_rfl) (by kernel_rfl) (by kernel_rfl) (fun _ _ _ h => h) (Or.inl ⟨by rfl, ?_⟩) (by assumption) ?_
    rotate_left
    · (intro W hSW; go_simp; try (with_reducible rfl))
    (try simp only [Act.put])
    refine wpAnyH_take (i := 4) (v := ?_) rfl (by kernel_rfl) (by kernel_rfl) (by kernel_rfl) (fun _ _ _ h => h) (Or.inl ⟨by rfl, ?_⟩) (by assumption) ?_
    rotate_left
    · (intro W hSW; have z0 := keeps_below hSW _ _ x2; go_simp; try (with_reducible rfl))
    (try simp only [Act.put])
    refine wpAnyH_take (i := 5) (v := ?_) rfl (by kernel_rfl) (by kernel_rfl) (by kernel_rfl) (fun _ _ _ h => h) (Or.inl ⟨by rfl, ?_⟩) (by assumption) ?_
    rotate_left
    · (intro W hSW; go_simp; try (with_reducible rfl))
    (try simp only [Act.put])
    refine wpAnyH_take (i := 6) (v := ?_) rfl (by kernel_rfl) (by kernel_rfl) (by kernel_rfl) (fun _ _ _ h => h) (Or.inl ⟨by rfl, ?_⟩) (by assumption) ?_
    rotate_left
    · (intro W hSW; go_simp; try (with_reducible rfl))
    (try simp only [Act.put])
    refine wpAnyH_take (i := 7) (v := ?_) rfl (by kernel_rfl) (by kernel_rfl) (by kernel_rfl) (fun _ _ _ h => h) (Or.inl ⟨by rfl, ?_⟩) (by assumption) ?_
    rotate_left
    · (intro W hSW; go_simp; try (with_reducible rfl))
    (try simp only [Act.put])
    refine wpAnyH_take (i := 8) (v := ?_) rfl (by kernel_rfl) (by kernel_rfl) (by kernel_rfl) (fun _ _ _ h => h) (Or.inl ⟨by rfl, ?_⟩) (by assumption) ?_
    rotate_left
    · (intro W hSW; have z0 := keeps_below hSW _ _ cr1; go_simp; try (with_reducible rfl))
    (try simp only [Act.put])
    refine wpAnyH_take (i := 9) (v := ?_) rfl (by kernel_rfl) (by kernel_rfl) (by kernel_rfl) (fun _ _ _ h => h) (Or.inl ⟨by rfl, ?_⟩) (by assumption) ?_
    rotate_left
    · (intro W hSW; go_simp; try (with_reducible rfl))
    (try simp only [Act.put])
    refine wpAnyH_take (i := 10) (v := ?_) rfl (by kernel_rfl) (by kernel_rfl) (by kernel_rfl) (fun _ _ _ h => h) (Or.inl ⟨by rfl, ?_⟩) (by assumption) ?_
    rotate_left
    · (intro W hSW; go_simp; try (with_reducible rfl))
    (try simp only [Act.put])
    refine wpAnyH_take (i := 11) (v := ?_) rfl (by kernel_rfl) (by kernel_rfl) (by kernel_rfl) (fun _ _ _ h => h) (Or.inl ⟨by rfl, ?_⟩) (by assumption) ?_
    rotate_left
    · (intro W hSW; have z0 := keeps_below hSW _ _ x3; go_simp; try (with_reducible rfl))
    (try simp only [Act.put])
    refine wpAnyH_take (i := 12) (v := ?_) rfl (by kernel_rfl) (by kernel_rfl) (by kernel_rfl) (fun _ _ _ h => h) (Or.inl ⟨by rfl, ?_⟩) (by assumption) ?_
    rotate_left
    · (intro W hSW; go_simp; try (with_reducible rfl))
    (try simp only [Act.put])
    refine wpAnyH_take (i := 13) (v := ?_) rfl (by kernel_rfl) (by kernel_rfl) (by kernel_rfl) (fun _ _ _ h => h) (Or.inl ⟨by rfl, ?_⟩) (by assumption) ?_
    rotate_left
    · (intro W hSW; go_simp; try (with_reducible rfl))
    (try simp only [Act.put])
    refine wpAnyH_take (i := 14) (v := ?_) rfl (by kernel_rfl) (by kernel_rfl) (by kernel_rfl) (fun _ _ _ h => h) (Or.inl ⟨by rfl, ?_⟩) (by assumption) ?_
    rotate_left
    · (intro W hSW; go_simp; try (with_reducible rfl))
    (try simp only [Act.put])
    refine wpAnyH_take (i := 15) (v := ?_) rfl (by kernel_rfl) (by kernel_rfl) (by kernel_rfl) (fun _ _ _ h => h) (Or.inl ⟨by rfl, ?_⟩) (by assumption) ?_
    rotate_left
    · (intro W hSW; have z0 := keeps_below hSW _ _ cr2; go_simp; try (with_reducible rfl))
    (try simp only [Act.put])
    refine wpAnyH_done (by kernel_rfl) ?_ _
    refine Or.inl ?_
    go_simp
    go_at_call 106
    refine (do_any base g c _ X _ _ _ HMC.out.drew HXO.out HP.out.1 HP.out.2).mono ?_
    rintro e w4 ⟨rfl, he4, hb4⟩
    refine Or.inl ?_
    go_simp
    go_wp2
    go_ret
    rw [HE1.out, HE2.out]
    exact ⟨rfl, he4, HBC.out.drew.trans hb4⟩
set_option maxRecDepth 100000 in
set_option maxHeartbeats 4000000 in
theorem cstep_neg (base g : Nat) (c : Cp) (wv : Value) (w : World) (h : MAt w base g c wv) (p0 : c.pc < 0) :
    Calls Tryd.prog 73 #[.pointer (some ⟨g, 0, none⟩)] w fun e w' => e = .returned (.int .i64 8) ∧ MAt w' base g c wv ∧ Below base w w' := by
  have HM : Hid (∀ n, MAt (w.drewN n) base g c wv) := fun n => h.drewN n
  have HBB : Hid (∀ n, Below base w (w.drewN n)) := fun n => below_drewN (Below.refl _ _) n
  have c96 := h.pc
  have d1 : decide (c.pc < 0) = true := by simpa using p0
  clear h p0
  go_enter Tryd.func73, Tryd.ntmps73
  go_wp2
  go_quiet (fail)
  go_wp2
  go_ret
  exact ⟨rfl, HM.out _, HBB.out _⟩
set_option maxRecDepth 100000 in
set_option maxHeartbeats 4000000 in
theorem cstep_far (base g : Nat) (c : Cp) (ao : Option Addr) (n cap : Nat) (w : World) (h : MAt w base g c (.slice ao n cap)) (p0 : 0 ≤ c.pc) (p1 : n ≤ c.pc) :
    Calls Tryd.prog 73 #[.pointer (some ⟨g, 0, none⟩)] w fun e w' => e = .returned (.int .i64 8) ∧ MAt w' base g c (.slice ao n cap) ∧ Below base w w' := by
  obtain ⟨k, hk⟩ := Int.eq_ofNat_of_zero_le p0
  have HM : Hid (∀ n', MAt (w.drewN n') base g c (.slice ao n cap)) := fun n => h.drewN n
  have HBB : Hid (∀ n', Below base w (w.drewN n')) := fun n => below_drewN (Below.refl _ _) n
  have c96 := h.pc
  have c98 := h.words
  rw [hk] at c96
  have d1 : decide ((k : Int) < 0) = false := by simp
  have d2 : decide ((n : Int) ≤ (k : Int)) = true := by simp; omega
  have d3 : decide (n ≤ k) = true := by simp; omega
  clear h p0 p1 hk
  go_enter Tryd.func73, Tryd.ntmps73
  go_wp2
  go_quiet (fail)
  go_wp2
  go_ret
  exact ⟨rfl, HM.out _, HBB.out _⟩
/-- What a step leaves. -/
def CStepPost (base g : Nat) (c : Cp) (ws : List Int) (wv : Value) (w : World) (e : Ending) (w' : World) : Prop :=
  e = .returned (.int .i64 (stepE ws c)) ∧ (∃ c', MAt w' base g c' wv ∧ (stepE ws c = 0 → c' = stepC ws c)) ∧ Below base w w'
theorem cstep_any (base g : Nat) (c : Cp) (ws : List Int) (ao : Option Addr) (cap : Nat) (w : World) (h : MAt w base g c (.slice ao ws.length cap)) (ht : RvTab w) (hv : IntsVal w (.slice ao ws.length cap) ws) (hl : ws.length ≤ 32768) :
    Calls Tryd.prog 73 #[.pointer (some ⟨g, 0, none⟩)] w (CStepPost base g c ws (.slice ao ws.length cap) w) := by
  by_cases p0 : c.pc < 0
  · have e : stepE ws c = 8 := by unfold stepE; rw [if_pos (Or.inl p0)]
    refine (cstep_neg base g c _ w h p0).mono ?_
    rintro e' w' ⟨rfl, hm, hb⟩
    exact ⟨by rw [e], ⟨c, hm, fun h => by rw [e] at h; cases h⟩, hb⟩
  by_cases p1 : (ws.length : Int) ≤ c.pc
  · have e : stepE ws c = 8 := by unfold stepE; rw [if_pos (Or.inr p1)]
    refine (cstep_far base g c ao ws.length cap w h (by omega) p1).mono ?_
    rintro e' w' ⟨rfl, hm, hb⟩
    exact ⟨by rw [e], ⟨c, hm, fun h => by rw [e] at h; cases h⟩, hb⟩
  by_cases hd : decE (ws.getD c.pc.toNat 0) = 0
  · have e : stepE ws c = doE (decX (ws.getD c.pc.toNat 0)) (c.reg (decX (ws.getD c.pc.toNat 0)).rs1) := by unfold stepE; rw [if_neg (by omega), if_pos hd]
    refine (cstep_do base g c ws ao cap w h ht hv (by omega) (by omega) hl hd).mono ?_
    rintro e' w' ⟨rfl, hm, hb⟩
    exact ⟨by rw [e], ⟨_, hm, fun _ => rfl⟩, hb⟩
  · have e : stepE ws c = 3 := by unfold stepE; rw [if_neg (by omega), if_neg hd]
    refine (cstep_kind base g c ws ao cap w h ht hv (by omega) (by omega) hl hd).mono ?_
    rintro e' w' ⟨rfl, hm, hb⟩
    exact ⟨by rw [e], ⟨c, hm, fun h => by rw [e] at h; cases h⟩, hb⟩
end Go.Proofs.YtndogdojcbcjgaaDoor

/- Contracts of cpu.Check, Step and Run (written by gen/mkcpurun.py): what each answers, in plain numbers. The words lie in memory, and so do the two tables of rv. -/
namespace Go.Proofs.YtndogdojcbcjgaaDoor
open Go Go.RowKit

theorem ccheck_any (ao : Option Addr) (n cap : Nat) (w : World) :
    Calls Tryd.prog 70 #[.slice ao n cap] w fun e w' => e = .returned (.int .i64 (if 32768 < n then 1 else 0)) ∧ w' = w := by
  by_cases h : 32768 < n
  · rw [if_pos h]
    have hI : (32768 : Int) < n := by omega
    go_enter Tryd.func70, Tryd.ntmps70
    go_wp2
    go_ret
    exact ⟨rfl, rfl⟩
  · rw [if_neg h]
    have hI : decide ((32768 : Int) < n) = false := by simp; omega
    have hN : decide (32768 < n) = false := by simp; omega
    go_enter Tryd.func70, Tryd.ntmps70
    go_wp2
    go_ret
    exact ⟨rfl, rfl⟩
theorem results_row_tmp2 {P : Program} {fn : Func} {p u v : Tmp} {ty : TypeId} (h : fn.results = #[.cell p ty, .tmp u, .tmp v]) (tmps : Array Value) (w : World) (g : Nat) (t : TypeId) (cs : Array Value) (fr : Nat × Nat) (d : TypeDesc)
    (hp : tmps.getD p undef = .pointer (some ⟨g, 0, none⟩)) (hg : w.heap[g]? = some (.cells cs t fr))
    (hu : P.underlying ty = some d) (hd : (match d with | .struct _ | .array _ _ => true | _ => false) = true) (hi : (P.info? ty).map (·.size) = some cs.size) :
    (results fn tmps).run P w = .ok (.tuple #[.agg cs, tmps.getD u undef, tmps.getD v undef]) w := by
  have hp' : tmps[p]?.getD undef = .pointer (some ⟨g, 0, none⟩) := by simpa using hp
  simp [results, h, hp', asAddr, run_loadVar_row w g t ty cs fr d hg hu hd hi]
theorem zero_val : zeroCp.val = .agg (cpuCells zeroCp).toArray := rfl
theorem infoCp0 : (Tryd.prog.info? 33).map (·.size) = some (cpuCells zeroCp).toArray.size := infoCpC zero_ok

set_option maxRecDepth 100000 in
set_option maxHeartbeats 4000000 in
theorem cpuStep_any (c : Cp) (hc : c.Ok) (ws : List Int) (ao : Option Addr) (cap : Nat) (w : World) (ht : RvTab w) (hv : IntsVal w (.slice ao ws.length cap) ws) :
    Calls Tryd.prog 36 #[.slice ao ws.length cap, c.val] w fun e w' => e = .returned (.tuple #[(stepAns ws c).1.val, .int .i64 (stepAns ws c).2]) ∧ Below w.heap.size w w' := by
  have HB0 : Hid (Below w.heap.size w ((w.alloc (.cells (cpuCells c).toArray 33)).alloc (.cells Tryd.zeroCells33 33))) := ((Below.refl _ _).alloc (Nat.le_refl _) _).alloc (by simp) _
  have H0 : Hid (((w.alloc (.cells (cpuCells c).toArray 33)).alloc (.cells Tryd.zeroCells33 33)).heap[w.heap.size]? = some (.cells (cpuCells c).toArray 33 (0, 0))) := heap_alloc2_old _ _ _
  have H1 : Hid (((w.alloc (.cells (cpuCells c).toArray 33)).alloc (.cells Tryd.zeroCells33 33)).heap[w.heap.size + 1]? = some (.cells Tryd.zeroCells33 33 (0, 0))) := heap_alloc2_new _ _ _
  have HZ : Hid (((w.alloc (.cells (cpuCells c).toArray 33)).alloc (.cells Tryd.zeroCells33 33)).heap.size = w.heap.size + 2) := by show _ = _; simp
  have HRB : Hid (∀ V, Below w.heap.size w V → RvTab V ∧ IntsVal V (.slice ao ws.length cap) ws) := fun V hV => ⟨ht.below hV, hv.keeps (keeps_below hV)⟩
  have hck := fun w => ccheck_any ao ws.length cap w
  clear ht hv
  unfold Cp.val
  obtain ⟨A, hA⟩ : ∃ A, A = stepAns ws c := ⟨_, rfl⟩
  have HA : Hid (A = stepAns ws c) := hA
  rw [← hA]
  clear hA
  by_cases hl : 32768 < ws.length
  · replace HA : Hid (A = (zeroCp, 1)) := by show _ = _; rw [HA.out]; unfold stepAns; rw [if_pos hl]
    rw [if_pos hl] at hck
    clear HRB
    go_enter Tryd.func36, Tryd.ntmps36
    go_upto_region 1 with fail
    generalize ((w.alloc (.cells (cpuCells c).toArray 33)).alloc (.cells Tryd.zeroCells33 33)) = W0 at HB0 H0 H1 HZ ⊢
    go_wp2_with (first | (go_at_call 70; refine (hck _).mono ?_; rintro e w' ⟨rfl, hw'⟩; replace hw' := hw'.symm; subst hw') | (refine wpList_build_storeR rfl _ _ rfl (cpuCells zeroCp).toArray built_cp0 rfl _ _ rfl _ rfl rfl _ _ H1.out infoCp0 (by rw [zc_cp]; rfl) (cp_one _) ?_) | (refine wpList_store_row rfl _ _ _ rfl _ (cpuCells zeroCp).toArray rfl rfl _ _ H1.out infoCp0 (by rw [zc_cp]; rfl) (cp_one _) ?_))
    try simp only [Exit.inBlock, Exit.then]
    exact bodyPost_ret (results_row_tmpR rfl _ _ (w.heap.size + 1) 33 _ (0, 0) _ rfl (setRow_heap _ _ _ _ _ _ H1.out) Tryd.underlying33 rfl infoCp0) rfl ⟨by rw [HA.out]; rfl, below_setRowR HB0.out (by omega) _⟩
  · have hl' : ws.length ≤ 32768 := by omega
    rw [if_neg hl] at hck
    have HMO : Hid (∀ w, Calls Tryd.prog 71 #[.slice ao ws.length cap, c.val] w _) := fun w => machineOf_any c hc ao ws.length cap w
    go_enter Tryd.func36, Tryd.ntmps36
    go_upto_region 1 with fail
    generalize ((w.alloc (.cells (cpuCells c).toArray 33)).alloc (.cells Tryd.zeroCells33 33)) = W0 at HB0 H0 H1 HZ ⊢
    go_upto_region 5 with (first | (go_at_call 70; refine (hck _).mono ?_; rintro e w' ⟨rfl, hw'⟩; replace hw' := hw'.symm; subst hw') | (refine wpList_load_row rfl _ _ rfl _ rfl _ _ _ _ H0.out Tryd.underlying33 rfl (infoCpC hc) ?_) | (go_at_call 71; refine (HMO.out _).mono ?_; rintro e w1 ⟨rfl, hb1⟩; have HB1 : Hid (Below W0.heap.size W0 w1) := hb1; clear hb1) | (refine wpList_store_row rfl _ _ _ rfl _ (mcCells c.begun (.slice ao ws.length cap)).toArray rfl rfl _ _ (heap_alloc_last w1 _) (infoMcC hc.begun _) (by rw [zc_mc, List.size_toArray, mc_len hc.begun]) (mc_one _ _ _ _) ?_))
    have hz1 : w.heap.size + 2 ≤ w1.heap.size := by have := HB1.out.size; have := HZ.out; omega
    have HM2 : Hid (MAt ((w1.alloc (.cells Tryd.zeroCells117 117)).setRow w1.heap.size (mcCells c.begun (.slice ao ws.length cap)).toArray) (w.heap.size + 2) w1.heap.size c.begun (.slice ao ws.length cap)) := ⟨setRow_heap _ _ _ _ _ _ (heap_alloc_last w1 _), hz1, hc.begun⟩
    have HBW : Hid (Below (w.heap.size + 2) W0 ((w1.alloc (.cells Tryd.zeroCells117 117)).setRow w1.heap.size (mcCells c.begun (.slice ao ws.length cap)).toArray)) := below_setRowR ((HB1.out.mono (by have := HZ.out; omega)).alloc (by omega) _) hz1 _
    generalize ((w1.alloc (.cells Tryd.zeroCells117 117)).setRow w1.heap.size (mcCells c.begun (.slice ao ws.length cap)).toArray) = W2 at HM2 HBW ⊢
    have HB2 : Hid (Below w.heap.size w W2) := HB0.out.trans (HBW.out.mono (by omega))
    have H12 : Hid (W2.heap[w.heap.size + 1]? = some (.cells Tryd.zeroCells33 33 (0, 0))) := (HBW.out.block _ (by omega)).trans H1.out
    generalize w1.heap.size = g at *
    clear HB1 HBW H0 H1 HZ HMO HB0 hck
    have c97 := HM2.out.halted
    cases hh : c.halted
    · rw [show c.begun.halted = false from hh] at c97
      by_cases hE : stepE ws c.begun = 0
      · replace HA : Hid (A = (stepC ws c.begun, 0)) := by show _ = _; rw [HA.out]; unfold stepAns; rw [if_neg hl, if_neg (by rw [hh]; decide), if_pos hE]
        have hst := cstep_any (w.heap.size + 2) g c.begun ws ao cap W2 HM2.out (HRB.out _ HB2.out).1 (HRB.out _ HB2.out).2 hl'
        have HST : Hid (Calls Tryd.prog 73 #[.pointer (some ⟨g, 0, none⟩)] W2 fun e w' => e = .returned (.int .i64 0) ∧ (∃ c', MAt w' (w.heap.size + 2) g c' (.slice ao ws.length cap) ∧ c' = stepC ws c.begun) ∧ Below (w.heap.size + 2) W2 w') := hst.mono fun e w' h => ⟨by rw [h.1, hE], ⟨h.2.1.choose, h.2.1.choose_spec.1, h.2.1.choose_spec.2 hE⟩, h.2.2⟩
        clear hst hE hh
        go_upto_region 10 with (go_at_call 73; refine HST.out.mono ?_; rintro e w3 ⟨rfl, ⟨c', hm3, he3⟩, hb3⟩)
        subst he3
        have HM3 : Hid (MAt w3 (w.heap.size + 2) g (stepC ws c.begun) (.slice ao ws.length cap)) := hm3
        have HB3 : Hid (Below w.heap.size w w3) := HB2.out.trans (hb3.mono (by omega))
        have H13 : Hid (w3.heap[w.heap.size + 1]? = some (.cells Tryd.zeroCells33 33 (0, 0))) := (hb3.block _ (by omega)).trans H12.out
        have hok3 := hm3.ok
        clear hm3 hb3 c97 HST
        go_wp2_with (first | (go_at_call 72; refine (cpu_any _ _ _ _ _ HM3.out).mono ?_; rintro e w5 ⟨rfl, hb5⟩; have h15 := (hb5.block _ (lt_of_block H13.out)).trans H13.out; have HB5 : Hid (Below w.heap.size w w5) := HB3.out.trans (hb5.mono HB3.out.size); clear hb5) | (refine wpList_store_row rfl _ _ _ rfl _ (cpuCells (stepC ws c.begun)).toArray rfl rfl _ _ h15 (infoCpC hok3) (by rw [zc_cp, List.size_toArray, cp_len hok3]) (cp_one _) ?_))
        try simp only [Exit.inBlock, Exit.then]
        exact bodyPost_ret (results_row_tmpR rfl _ _ (w.heap.size + 1) 33 _ (0, 0) _ rfl (setRow_heap _ _ _ _ _ _ h15) Tryd.underlying33 rfl (infoCpC hok3)) rfl ⟨by rw [HA.out]; rfl, below_setRowR HB5.out (by omega) _⟩
      · replace HA : Hid (A = (zeroCp, stepE ws c.begun)) := by show _ = _; rw [HA.out]; unfold stepAns; rw [if_neg hl, if_neg (by rw [hh]; decide), if_neg hE]
        have hst := cstep_any (w.heap.size + 2) g c.begun ws ao cap W2 HM2.out (HRB.out _ HB2.out).1 (HRB.out _ HB2.out).2 hl'
        have HST : Hid (Calls Tryd.prog 73 #[.pointer (some ⟨g, 0, none⟩)] W2 fun e w' => e = .returned (.int .i64 (stepE ws c.begun)) ∧ Below (w.heap.size + 2) W2 w') := hst.mono fun e w' h => ⟨h.1, h.2.2⟩
        generalize stepE ws c.begun = E at *
        have hne : (E != 0) = true := by simpa using hE
        clear hst hE hh
        go_upto_region 9 with (go_at_call 73; refine HST.out.mono ?_; rintro e w3 ⟨rfl, hb3⟩)
        have HB3 : Hid (Below w.heap.size w w3) := HB2.out.trans (hb3.mono (by omega))
        have h13 : w3.heap[w.heap.size + 1]? = some (.cells Tryd.zeroCells33 33 (0, 0)) := (hb3.block _ (by omega)).trans H12.out
        clear hb3 c97 HST
        go_wp2_with (first | (refine wpList_build_to rfl _ _ rfl (cpuCells zeroCp).toArray built_cp0 ?_) | (refine wpList_store_row rfl _ _ _ rfl _ (cpuCells zeroCp).toArray rfl rfl _ _ h13 infoCp0 (by rw [zc_cp]; rfl) (cp_one _) ?_))
        try simp only [Exit.inBlock, Exit.then]
        exact bodyPost_ret (results_row_tmpR rfl _ _ (w.heap.size + 1) 33 _ (0, 0) _ rfl (setRow_heap _ _ _ _ _ _ h13) Tryd.underlying33 rfl infoCp0) rfl ⟨by rw [HA.out]; rfl, below_setRowR HB3.out (by omega) _⟩
    · rw [show c.begun.halted = true from hh] at c97
      replace HA : Hid (A = (c.begun, 0)) := by show _ = _; rw [HA.out]; unfold stepAns; rw [if_neg hl, if_pos hh]
      have hok := hc.begun
      clear hh
      go_wp2_with (first | (go_at_call 72; refine (cpu_any _ _ _ _ _ HM2.out).mono ?_; rintro e w5 ⟨rfl, hb5⟩; have h15 := (hb5.block _ (lt_of_block H12.out)).trans H12.out; have HB5 : Hid (Below w.heap.size w w5) := HB2.out.trans (hb5.mono HB2.out.size); clear hb5) | (refine wpList_store_row rfl _ _ _ rfl _ (cpuCells c.begun).toArray rfl rfl _ _ h15 (infoCpC hok) (by rw [zc_cp, List.size_toArray, cp_len hok]) (cp_one _) ?_))
      try simp only [Exit.inBlock, Exit.then]
      exact bodyPost_ret (results_row_tmpR rfl _ _ (w.heap.size + 1) 33 _ (0, 0) _ rfl (setRow_heap _ _ _ _ _ _ h15) Tryd.underlying33 rfl (infoCpC hok)) rfl ⟨by rw [HA.out]; rfl, below_setRowR HB5.out (by omega) _⟩
theorem runA_stop {ws : List Int} {c : Cp} (n k : Nat) (hh : c.halted = true) : runA ws n k c = (c, (k : Int), 0) := by
  cases n <;> rw [runA, if_pos hh]
theorem runA_short {ws : List Int} {c : Cp} (k : Nat) (hh : c.halted = false) : runA ws 0 k c = (zeroCp, 0, 10) := by
  rw [runA, if_neg (by rw [hh]; decide)]
theorem runA_bad {ws : List Int} {c : Cp} (n k : Nat) (hh : c.halted = false) (hE : ¬ stepE ws c = 0) : runA ws (n + 1) k c = (zeroCp, 0, stepE ws c) := by
  rw [runA, if_neg (by rw [hh]; decide), if_neg hE]
theorem runA_on {ws : List Int} {c : Cp} (n k : Nat) (hh : c.halted = false) (hE : stepE ws c = 0) : runA ws (n + 1) k c = runA ws n (k + 1) (stepC ws c) := by
  rw [runA, if_neg (by rw [hh]; decide), if_pos hE]
set_option maxRecDepth 100000 in
set_option maxHeartbeats 4000000 in
theorem cpuRun_any (c : Cp) (hc : c.Ok) (ws : List Int) (ao : Option Addr) (cap : Nat) (most : Int) (w : World) (ht : RvTab w) (hv : IntsVal w (.slice ao ws.length cap) ws) :
    Calls Tryd.prog 38 #[.slice ao ws.length cap, c.val, .int .i64 most] w fun e w' => e = .returned (.tuple #[(runAns ws c most).1.val, .int .i64 (runAns ws c most).2.1, .int .i64 (runAns ws c most).2.2]) ∧ Below w.heap.size w w' := by
  have HB0 : Hid (Below w.heap.size w ((w.alloc (.cells (cpuCells c).toArray 33)).alloc (.cells Tryd.zeroCells33 33))) := ((Below.refl _ _).alloc (Nat.le_refl _) _).alloc (by simp) _
  have H0 : Hid (((w.alloc (.cells (cpuCells c).toArray 33)).alloc (.cells Tryd.zeroCells33 33)).heap[w.heap.size]? = some (.cells (cpuCells c).toArray 33 (0, 0))) := heap_alloc2_old _ _ _
  have H1 : Hid (((w.alloc (.cells (cpuCells c).toArray 33)).alloc (.cells Tryd.zeroCells33 33)).heap[w.heap.size + 1]? = some (.cells Tryd.zeroCells33 33 (0, 0))) := heap_alloc2_new _ _ _
  have HZ : Hid (((w.alloc (.cells (cpuCells c).toArray 33)).alloc (.cells Tryd.zeroCells33 33)).heap.size = w.heap.size + 2) := by show _ = _; simp
  have HRB : Hid (∀ V, Below w.heap.size w V → RvTab V ∧ IntsVal V (.slice ao ws.length cap) ws) := fun V hV => ⟨ht.below hV, hv.keeps (keeps_below hV)⟩
  have hck := fun w => ccheck_any ao ws.length cap w
  clear ht hv
  unfold Cp.val
  obtain ⟨A, hA⟩ : ∃ A, A = runAns ws c most := ⟨_, rfl⟩
  have HA : Hid (A = runAns ws c most) := hA
  rw [← hA]
  clear hA
  by_cases hl : 32768 < ws.length
  · replace HA : Hid (A = (zeroCp, 0, 1)) := by show _ = _; rw [HA.out]; unfold runAns; rw [if_pos hl]
    rw [if_pos hl] at hck
    clear HRB
    go_enter Tryd.func38, Tryd.ntmps38
    go_upto_region 1 with fail
    generalize ((w.alloc (.cells (cpuCells c).toArray 33)).alloc (.cells Tryd.zeroCells33 33)) = W0 at HB0 H0 H1 HZ ⊢
    go_wp2_with (first | (go_at_call 70; refine (hck _).mono ?_; rintro e w' ⟨rfl, hw'⟩; replace hw' := hw'.symm; subst hw') | (refine wpList_build_to rfl _ _ rfl (cpuCells zeroCp).toArray built_cp0 ?_) | (refine wpList_store_row rfl _ _ _ rfl _ (cpuCells zeroCp).toArray rfl rfl _ _ H1.out infoCp0 (by rw [zc_cp]; rfl) (cp_one _) ?_))
    try simp only [Exit.inBlock, Exit.then]
    exact bodyPost_ret (results_row_tmp2 rfl _ _ (w.heap.size + 1) 33 _ (0, 0) _ rfl (setRow_heap _ _ _ _ _ _ H1.out) Tryd.underlying33 rfl infoCp0) rfl ⟨by rw [HA.out]; rfl, below_setRowR HB0.out (by omega) _⟩
  rw [if_neg hl] at hck
  by_cases hm0 : most < 0
  · replace HA : Hid (A = (zeroCp, 0, 2)) := by show _ = _; rw [HA.out]; unfold runAns; rw [if_neg hl, if_pos (Or.inl hm0)]
    have d1 : decide (most < 0) = true := by simpa using hm0
    clear HRB hm0
    go_enter Tryd.func38, Tryd.ntmps38
    go_upto_region 1 with fail
    generalize ((w.alloc (.cells (cpuCells c).toArray 33)).alloc (.cells Tryd.zeroCells33 33)) = W0 at HB0 H0 H1 HZ ⊢
    go_wp2_with (first | (go_at_call 70; refine (hck _).mono ?_; rintro e w' ⟨rfl, hw'⟩; replace hw' := hw'.symm; subst hw') | (refine wpList_build_storeR rfl _ _ rfl (cpuCells zeroCp).toArray built_cp0 rfl _ _ rfl _ rfl rfl _ _ H1.out infoCp0 (by rw [zc_cp]; rfl) (cp_one _) ?_) | (refine wpList_store_row rfl _ _ _ rfl _ (cpuCells zeroCp).toArray rfl rfl _ _ H1.out infoCp0 (by rw [zc_cp]; rfl) (cp_one _) ?_))
    try simp only [Exit.inBlock, Exit.then]
    exact bodyPost_ret (results_row_tmp2 rfl _ _ (w.heap.size + 1) 33 _ (0, 0) _ rfl (setRow_heap _ _ _ _ _ _ H1.out) Tryd.underlying33 rfl infoCp0) rfl ⟨by rw [HA.out]; rfl, below_setRowR HB0.out (by omega) _⟩
  by_cases hm1 : 4000000 < most
  · replace HA : Hid (A = (zeroCp, 0, 2)) := by show _ = _; rw [HA.out]; unfold runAns; rw [if_neg hl, if_pos (Or.inr hm1)]
    have d1 : decide (most < 0) = false := by simpa using hm0
    have d2 : decide (4000000 < most) = true := by simpa using hm1
    clear HRB hm1 hm0
    go_enter Tryd.func38, Tryd.ntmps38
    go_upto_region 1 with fail
    generalize ((w.alloc (.cells (cpuCells c).toArray 33)).alloc (.cells Tryd.zeroCells33 33)) = W0 at HB0 H0 H1 HZ ⊢
    go_wp2_with (first | (go_at_call 70; refine (hck _).mono ?_; rintro e w' ⟨rfl, hw'⟩; replace hw' := hw'.symm; subst hw') | (refine wpList_build_storeR rfl _ _ rfl (cpuCells zeroCp).toArray built_cp0 rfl _ _ rfl _ rfl rfl _ _ H1.out infoCp0 (by rw [zc_cp]; rfl) (cp_one _) ?_) | (refine wpList_store_row rfl _ _ _ rfl _ (cpuCells zeroCp).toArray rfl rfl _ _ H1.out infoCp0 (by rw [zc_cp]; rfl) (cp_one _) ?_))
    try simp only [Exit.inBlock, Exit.then]
    exact bodyPost_ret (results_row_tmp2 rfl _ _ (w.heap.size + 1) 33 _ (0, 0) _ rfl (setRow_heap _ _ _ _ _ _ H1.out) Tryd.underlying33 rfl infoCp0) rfl ⟨by rw [HA.out]; rfl, below_setRowR HB0.out (by omega) _⟩
  replace HA : Hid (A = runA ws most.toNat 0 c.begun) := by show _ = _; rw [HA.out]; unfold runAns; rw [if_neg hl, if_neg (by omega)]
  obtain ⟨m, rfl⟩ := Int.eq_ofNat_of_zero_le (show 0 ≤ most by omega)
  rw [Int.toNat_natCast] at HA
  have d1 : decide ((m : Int) < 0) = false := by simp
  have d2 : decide ((4000000 : Int) < (m : Int)) = false := by simp; omega
  have d3 : decide (4000000 < m) = false := by simp; omega
  have hm4 : m ≤ 4000000 := by omega
  have hl' : ws.length ≤ 32768 := by omega
  have HMO : Hid (∀ w, Calls Tryd.prog 71 #[.slice ao ws.length cap, c.val] w _) := fun w => machineOf_any c hc ao ws.length cap w
  clear hm0 hm1 hl
  go_enter Tryd.func38, Tryd.ntmps38
  go_upto_region 1 with fail
  generalize ((w.alloc (.cells (cpuCells c).toArray 33)).alloc (.cells Tryd.zeroCells33 33)) = W0 at HB0 H0 H1 HZ ⊢
  go_upto_region 7 with (first | (go_at_call 70; refine (hck _).mono ?_; rintro e w' ⟨rfl, hw'⟩; replace hw' := hw'.symm; subst hw') | (refine wpList_load_row rfl _ _ rfl _ rfl _ _ _ _ H0.out Tryd.underlying33 rfl (infoCpC hc) ?_) | (go_at_call 71; refine (HMO.out _).mono ?_; rintro e w1 ⟨rfl, hb1⟩; have HB1 : Hid (Below W0.heap.size W0 w1) := hb1; clear hb1) | (refine wpList_store_row rfl _ _ _ rfl _ (mcCells c.begun (.slice ao ws.length cap)).toArray rfl rfl _ _ (heap_alloc_last w1 _) (infoMcC hc.begun _) (by rw [zc_mc, List.size_toArray, mc_len hc.begun]) (mc_one _ _ _ _) ?_))
  have hz1 : w.heap.size + 2 ≤ w1.heap.size := by have := HB1.out.size; have := HZ.out; omega
  have HM2 : Hid (MAt ((w1.alloc (.cells Tryd.zeroCells117 117)).setRow w1.heap.size (mcCells c.begun (.slice ao ws.length cap)).toArray) (w.heap.size + 2) w1.heap.size c.begun (.slice ao ws.length cap)) := ⟨setRow_heap _ _ _ _ _ _ (heap_alloc_last w1 _), hz1, hc.begun⟩
  have HBW : Hid (Below (w.heap.size + 2) W0 ((w1.alloc (.cells Tryd.zeroCells117 117)).setRow w1.heap.size (mcCells c.begun (.slice ao ws.length cap)).toArray)) := below_setRowR ((HB1.out.mono (by have := HZ.out; omega)).alloc (by omega) _) hz1 _
  generalize ((w1.alloc (.cells Tryd.zeroCells117 117)).setRow w1.heap.size (mcCells c.begun (.slice ao ws.length cap)).toArray) = W2 at HM2 HBW ⊢
  have HB2 : Hid (Below w.heap.size w W2) := HB0.out.trans (HBW.out.mono (by omega))
  have H12 : Hid (W2.heap[w.heap.size + 1]? = some (.cells Tryd.zeroCells33 33 (0, 0))) := (HBW.out.block _ (by omega)).trans H1.out
  generalize w1.heap.size = g at *
  clear HB1 HBW H0 H1 HZ HMO HB0 hck
  clear d1 d2 d3
  go_wp2_with fail
  go_loopw [11] (fun v wr => ∃ (k : Nat) (c' : Cp), k ≤ m ∧ v = .int .i64 k ∧ MAt wr (w.heap.size + 2) g c' (.slice ao ws.length cap) ∧ Below (w.heap.size + 2) W2 wr ∧ A = runA ws (m - k) k c') (fun v _ => m - (intOf v).toNat)
  case atStart => exact ⟨0, c.begun, by omega, rfl, HM2.out, Below.refl _ _, HA.out⟩
  case round =>
    obtain ⟨k, c', hk, rfl, hmt, hbr, hA⟩ := hrel
    have HMR : Hid (MAt wr (w.heap.size + 2) g c' (.slice ao ws.length cap)) := hmt
    have HBR : Hid (Below (w.heap.size + 2) W2 wr) := hbr
    have HBW : Hid (Below w.heap.size w wr) := HB2.out.trans (hbr.mono (by omega))
    have H1R : Hid (wr.heap[w.heap.size + 1]? = some (.cells Tryd.zeroCells33 33 (0, 0))) := (hbr.block _ (by omega)).trans H12.out
    have hok' := hmt.ok
    have c97 := hmt.halted
    clear HA hbr
    cases hh : c'.halted
    · rw [hh] at c97
      by_cases hkm : k = m
      · subst hkm
        have HA : Hid (A = (zeroCp, 0, 10)) := by show _ = _; rw [hA, Nat.sub_self, runA_short k hh]
        have h1r := H1R.out
        clear hA hh hmt
        go_wp2_with (first | (refine wpList_build_storeR rfl _ _ rfl (cpuCells zeroCp).toArray built_cp0 rfl _ _ rfl _ rfl rfl _ _ h1r infoCp0 (by rw [zc_cp]; rfl) (cp_one _) ?_) | (refine wpList_store_row rfl _ _ _ rfl _ (cpuCells zeroCp).toArray rfl rfl _ _ h1r infoCp0 (by rw [zc_cp]; rfl) (cp_one _) ?_))
        try simp only [Exit.inBlock, Exit.then]
        exact bodyPost_ret (results_row_tmp2 rfl _ _ (w.heap.size + 1) 33 _ (0, 0) _ rfl (setRow_heap _ _ _ _ _ _ h1r) Tryd.underlying33 rfl infoCp0) rfl ⟨by rw [HA.out]; rfl, below_setRowR HBW.out (by omega) _⟩
      · have hnk : ¬ (k : Int) = (m : Int) := by omega
        have hst := cstep_any (w.heap.size + 2) g c' ws ao cap wr hmt (HRB.out _ HBW.out).1 (HRB.out _ HBW.out).2 hl'
        obtain ⟨n, hn⟩ : ∃ n, m - k = n + 1 := ⟨m - k - 1, by omega⟩
        rw [hn] at hA
        by_cases hE : stepE ws c' = 0
        · rw [runA_on n k hh hE] at hA
          have HA : Hid (A = runA ws (m - (k + 1)) (k + 1) (stepC ws c')) := by show _ = _; rw [hA, show m - (k + 1) = n by omega]
          have HST : Hid (Calls Tryd.prog 73 #[.pointer (some ⟨g, 0, none⟩)] wr fun e w' => e = .returned (.int .i64 0) ∧ (∃ c2, MAt w' (w.heap.size + 2) g c2 (.slice ao ws.length cap) ∧ c2 = stepC ws c') ∧ Below (w.heap.size + 2) wr w') := hst.mono fun e w' h => ⟨by rw [h.1, hE], ⟨h.2.1.choose, h.2.1.choose_spec.1, h.2.1.choose_spec.2 hE⟩, h.2.2⟩
          clear hA hh hmt hst hE hn
          go_wp2_with (go_at_call 73; refine HST.out.mono ?_; rintro e w3 ⟨rfl, ⟨c2, hm3, he3⟩, hb3⟩)
          subst he3
          go_roundw
          case rel => exact ⟨k + 1, _, by omega, by go_num, hm3, HBR.out.trans hb3, HA.out⟩
          case measure => simp [intOf]; omega
        · have HA : Hid (A = (zeroCp, 0, stepE ws c')) := by show _ = _; rw [hA, runA_bad n k hh hE]
          have HST : Hid (Calls Tryd.prog 73 #[.pointer (some ⟨g, 0, none⟩)] wr fun e w' => e = .returned (.int .i64 (stepE ws c')) ∧ Below (w.heap.size + 2) wr w') := hst.mono fun e w' h => ⟨h.1, h.2.2⟩
          clear hst hA
          generalize stepE ws c' = E at *
          have hne : (E != 0) = true := by simpa using hE
          clear hE hh hmt hn
          go_upto_region 14 with (go_at_call 73; refine HST.out.mono ?_; rintro e w3 ⟨rfl, hb3⟩)
          have HB3 : Hid (Below w.heap.size w w3) := HBW.out.trans (hb3.mono (by omega))
          have h13 : w3.heap[w.heap.size + 1]? = some (.cells Tryd.zeroCells33 33 (0, 0)) := (hb3.block _ (by omega)).trans H1R.out
          clear hb3 c97 HST
          go_wp2_with (first | (refine wpList_build_to rfl _ _ rfl (cpuCells zeroCp).toArray built_cp0 ?_) | (refine wpList_store_row rfl _ _ _ rfl _ (cpuCells zeroCp).toArray rfl rfl _ _ h13 infoCp0 (by rw [zc_cp]; rfl) (cp_one _) ?_))
          try simp only [Exit.inBlock, Exit.then]
          exact bodyPost_ret (results_row_tmp2 rfl _ _ (w.heap.size + 1) 33 _ (0, 0) _ rfl (setRow_heap _ _ _ _ _ _ h13) Tryd.underlying33 rfl infoCp0) rfl ⟨by rw [HA.out]; rfl, below_setRowR HB3.out (by omega) _⟩
    · rw [hh] at c97
      have HA : Hid (A = (c', (k : Int), 0)) := by show _ = _; rw [hA, runA_stop _ k hh]
      clear hA hh hmt
      go_wp2_with (first | (go_at_call 72; refine (cpu_any _ _ _ _ _ HMR.out).mono ?_; rintro e w5 ⟨rfl, hb5⟩; have h15 := (hb5.block _ (lt_of_block H1R.out)).trans H1R.out; have HB5 : Hid (Below w.heap.size w w5) := HBW.out.trans (hb5.mono HBW.out.size); clear hb5) | (refine wpList_store_row rfl _ _ _ rfl _ (cpuCells c').toArray rfl rfl _ _ h15 (infoCpC hok') (by rw [zc_cp, List.size_toArray, cp_len hok']) (cp_one _) ?_))
      try simp only [Exit.inBlock, Exit.then]
      exact bodyPost_ret (results_row_tmp2 rfl _ _ (w.heap.size + 1) 33 _ (0, 0) _ rfl (setRow_heap _ _ _ _ _ _ h15) Tryd.underlying33 rfl (infoCpC hok')) rfl ⟨by rw [HA.out]; rfl, below_setRowR HB5.out (by omega) _⟩
end Go.Proofs.YtndogdojcbcjgaaDoor
