/- Contracts of cpu.shift, truth, divided, made, holds, isWord (written by gen/mkcpu.py): what each answers, in plain numbers. No condition. -/
import Derived.Test.YtapjfiihfgndeaaDoorProg
import Derived.Test.YtapjfiihfgndeaaDoorCpuMath
namespace Go.Proofs.YtapjfiihfgndeaaDoor
open Go Go.RowKit

theorem wrapU (a : Int) : IntKind.u64.wrap a = a % 18446744073709551616 := by
  simp [IntKind.wrap, IntKind.bits, IntKind.signed]
theorem cshift_any (b : Int) (w : World) :
    Calls Tryd.prog 59 #[.int .i64 b] w fun e w' => e = .returned (.int .i64 (b % 64)) ∧ w' = w := by
  have h := bits_low b
  go_enter Tryd.func59, Tryd.ntmps59
  go_wp2
  go_ret
  exact ⟨rfl, rfl⟩
theorem ctruth_any (c : Bool) (w : World) :
    Calls Tryd.prog 60 #[.bool c] w fun e w' => e = .returned (.int .i64 (if c = true then 1 else 0)) ∧ w' = w := by
  cases c
  · go_enter Tryd.func60, Tryd.ntmps60
    go_wp2
    go_ret
    exact ⟨rfl, rfl⟩
  · go_enter Tryd.func60, Tryd.ntmps60
    go_wp2
    go_ret
    exact ⟨rfl, rfl⟩
theorem divided_any (a b : Int) (w : World) :
    Calls Tryd.prog 58 #[.int .i64 a, .int .i64 b] w fun e w' => e = .returned (.int .i64 (if b = 0 then -1 else wrap64 (a.tdiv b))) ∧ w' = w := by
  by_cases hb : b = 0
  · rw [if_pos hb]
    subst hb
    go_enter Tryd.func58, Tryd.ntmps58
    go_wp2
    go_ret
    exact ⟨rfl, rfl⟩
  · rw [if_neg hb]
    go_enter Tryd.func58, Tryd.ntmps58
    go_wp2
    go_ret
    exact ⟨rfl, rfl⟩
theorem holds_any (op a b : Int) (w : World) :
    Calls Tryd.prog 57 #[.int .i64 op, .int .i64 a, .int .i64 b] w fun e w' => e = .returned (.bool (holdsB op a b)) ∧ w' = w := by
  by_cases h1 : op = 22
  · subst h1
    rw [show holdsB 22 a b = decide (a = b) from rfl]
    go_enter Tryd.func57, Tryd.ntmps57
    go_wp2
    go_ret
    exact ⟨rfl, rfl⟩
  by_cases h2 : op = 23
  · subst h2
    rw [show holdsB 23 a b = decide (a ≠ b) from rfl]
    go_enter Tryd.func57, Tryd.ntmps57
    go_wp2
    go_ret
    refine ⟨?_, rfl⟩
    by_cases h : a = b <;> simp [h]
  by_cases h3 : op = 24
  · subst h3
    rw [show holdsB 24 a b = decide (a < b) from rfl]
    go_enter Tryd.func57, Tryd.ntmps57
    go_wp2
    go_ret
    exact ⟨rfl, rfl⟩
  · rw [show holdsB op a b = decide (b ≤ a) by simp [holdsB, h1, h2, h3]]
    go_enter Tryd.func57, Tryd.ntmps57
    go_wp2
    go_ret
    exact ⟨rfl, rfl⟩
theorem isWord_any (t : Int) (w : World) :
    Calls Tryd.prog 56 #[.int .i64 t] w fun e w' => e = .returned (.bool (isW t)) ∧ w' = w := by
  by_cases h1 : 0 ≤ t
  · by_cases h2 : t < 512
    · have e : isW t = (t % 8 == 0) := by
        unfold isW
        by_cases h : t % 8 = 0 <;> simp [h, h1, h2]
      rw [e]
      clear e
      go_enter Tryd.func56, Tryd.ntmps56
      go_wp2
      go_ret
      exact ⟨rfl, rfl⟩
    · have e : isW t = false := by simp [isW, h2]
      rw [e]; clear e
      go_enter Tryd.func56, Tryd.ntmps56
      go_wp2
      go_ret
      exact ⟨rfl, rfl⟩
  · have e : isW t = false := by simp [isW, h1]
    rw [e]; clear e
    go_enter Tryd.func56, Tryd.ntmps56
    go_wp2
    go_ret
    exact ⟨rfl, rfl⟩

theorem made_1 (rd rs1 rs2 imm a b : Int) (w : World) :
    Calls Tryd.prog 47 #[(Mi.mk 1 rd rs1 rs2 imm).val, .int .i64 a, .int .i64 b] w fun e w' => e = .returned (.int .i64 (wrap64 (a + b))) ∧ Below w.heap.size w w' := by
  unfold Mi.val
  dsimp only
  go_enter Tryd.func47, Tryd.ntmps47
  go_wp2
  go_ret
  exact ⟨rfl, (Below.refl _ _).alloc (Nat.le_refl _) _⟩
theorem made_2 (rd rs1 rs2 imm a b : Int) (w : World) :
    Calls Tryd.prog 47 #[(Mi.mk 2 rd rs1 rs2 imm).val, .int .i64 a, .int .i64 b] w fun e w' => e = .returned (.int .i64 (wrap64 (a - b))) ∧ Below w.heap.size w w' := by
  unfold Mi.val
  dsimp only
  go_enter Tryd.func47, Tryd.ntmps47
  go_wp2
  go_ret
  exact ⟨rfl, (Below.refl _ _).alloc (Nat.le_refl _) _⟩
theorem made_3 (rd rs1 rs2 imm a b : Int) (w : World) :
    Calls Tryd.prog 47 #[(Mi.mk 3 rd rs1 rs2 imm).val, .int .i64 a, .int .i64 b] w fun e w' => e = .returned (.int .i64 (wrap64 (a * b))) ∧ Below w.heap.size w w' := by
  unfold Mi.val
  dsimp only
  go_enter Tryd.func47, Tryd.ntmps47
  go_wp2
  go_ret
  exact ⟨rfl, (Below.refl _ _).alloc (Nat.le_refl _) _⟩
theorem made_4 (rd rs1 rs2 imm a b : Int) (w : World) :
    Calls Tryd.prog 47 #[(Mi.mk 4 rd rs1 rs2 imm).val, .int .i64 a, .int .i64 b] w fun e w' => e = .returned (.int .i64 ((if b = 0 then -1 else wrap64 (a.tdiv b)))) ∧ Below w.heap.size w w' := by
  have hc := fun w => divided_any a b w
  generalize (if b = 0 then -1 else wrap64 (a.tdiv b)) = D at *
  unfold Mi.val
  dsimp only
  go_enter Tryd.func47, Tryd.ntmps47
  go_wp2_with (go_at_call 58; refine (hc _).mono ?_; rintro e w' ⟨rfl, rfl⟩)
  go_ret
  exact ⟨rfl, (Below.refl _ _).alloc (Nat.le_refl _) _⟩
theorem made_5 (rd rs1 rs2 imm a b : Int) (w : World) :
    Calls Tryd.prog 47 #[(Mi.mk 5 rd rs1 rs2 imm).val, .int .i64 a, .int .i64 b] w fun e w' => e = .returned (.int .i64 (bits .and .i64 a b)) ∧ Below w.heap.size w w' := by
  unfold Mi.val
  dsimp only
  go_enter Tryd.func47, Tryd.ntmps47
  go_wp2
  go_ret
  exact ⟨rfl, (Below.refl _ _).alloc (Nat.le_refl _) _⟩
theorem made_6 (rd rs1 rs2 imm a b : Int) (w : World) :
    Calls Tryd.prog 47 #[(Mi.mk 6 rd rs1 rs2 imm).val, .int .i64 a, .int .i64 b] w fun e w' => e = .returned (.int .i64 (bits .or .i64 a b)) ∧ Below w.heap.size w w' := by
  unfold Mi.val
  dsimp only
  go_enter Tryd.func47, Tryd.ntmps47
  go_wp2
  go_ret
  exact ⟨rfl, (Below.refl _ _).alloc (Nat.le_refl _) _⟩
theorem made_7 (rd rs1 rs2 imm a b : Int) (w : World) :
    Calls Tryd.prog 47 #[(Mi.mk 7 rd rs1 rs2 imm).val, .int .i64 a, .int .i64 b] w fun e w' => e = .returned (.int .i64 (bits .xor .i64 a b)) ∧ Below w.heap.size w w' := by
  unfold Mi.val
  dsimp only
  go_enter Tryd.func47, Tryd.ntmps47
  go_wp2
  go_ret
  exact ⟨rfl, (Below.refl _ _).alloc (Nat.le_refl _) _⟩
theorem made_8 (rd rs1 rs2 imm a b : Int) (w : World) :
    Calls Tryd.prog 47 #[(Mi.mk 8 rd rs1 rs2 imm).val, .int .i64 a, .int .i64 b] w fun e w' => e = .returned (.int .i64 (wrap64 (a * 2 ^ (b % 64).toNat))) ∧ Below w.heap.size w w' := by
  have hc := fun w => cshift_any b w
  have hm0 : 0 ≤ b % 64 := by omega
  have hm1 : b % 64 < 64 := by omega
  unfold Mi.val
  dsimp only
  go_enter Tryd.func47, Tryd.ntmps47
  go_wp2_with (go_at_call 59; refine (hc _).mono ?_; rintro e w' ⟨rfl, rfl⟩)
  go_ret
  exact ⟨rfl, (Below.refl _ _).alloc (Nat.le_refl _) _⟩
theorem made_9 (rd rs1 rs2 imm a b : Int) (w : World) :
    Calls Tryd.prog 47 #[(Mi.mk 9 rd rs1 rs2 imm).val, .int .i64 a, .int .i64 b] w fun e w' => e = .returned (.int .i64 (a / 2 ^ (b % 64).toNat)) ∧ Below w.heap.size w w' := by
  have hc := fun w => cshift_any b w
  have hm0 : 0 ≤ b % 64 := by omega
  have hm1 : b % 64 < 64 := by omega
  unfold Mi.val
  dsimp only
  go_enter Tryd.func47, Tryd.ntmps47
  go_wp2_with (go_at_call 59; refine (hc _).mono ?_; rintro e w' ⟨rfl, rfl⟩)
  go_ret
  exact ⟨rfl, (Below.refl _ _).alloc (Nat.le_refl _) _⟩
theorem made_10 (rd rs1 rs2 imm a b : Int) (w : World) :
    Calls Tryd.prog 47 #[(Mi.mk 10 rd rs1 rs2 imm).val, .int .i64 a, .int .i64 b] w fun e w' => e = .returned (.int .i64 ((if a < b then 1 else 0))) ∧ Below w.heap.size w w' := by
  have hc := fun w => ctruth_any (decide (a < b)) w
  rw [show (if a < b then (1 : Int) else 0) = (if decide (a < b) = true then (1 : Int) else 0) by simp]
  generalize (if decide (a < b) = true then (1 : Int) else 0) = D at *
  unfold Mi.val
  dsimp only
  go_enter Tryd.func47, Tryd.ntmps47
  go_wp2_with (go_at_call 60; refine (hc _).mono ?_; rintro e w' ⟨rfl, rfl⟩)
  go_ret
  exact ⟨rfl, (Below.refl _ _).alloc (Nat.le_refl _) _⟩
theorem made_11 (rd rs1 rs2 imm a b : Int) (w : World) :
    Calls Tryd.prog 47 #[(Mi.mk 11 rd rs1 rs2 imm).val, .int .i64 a, .int .i64 b] w fun e w' => e = .returned (.int .i64 ((if a % 18446744073709551616 < b % 18446744073709551616 then 1 else 0))) ∧ Below w.heap.size w w' := by
  have hc := fun w => ctruth_any (decide (IntKind.u64.wrap a < IntKind.u64.wrap b)) w
  rw [show (if a % 18446744073709551616 < b % 18446744073709551616 then (1 : Int) else 0) = (if decide (IntKind.u64.wrap a < IntKind.u64.wrap b) = true then (1 : Int) else 0) by simp [wrapU]]
  generalize (if decide (IntKind.u64.wrap a < IntKind.u64.wrap b) = true then (1 : Int) else 0) = D at *
  unfold Mi.val
  dsimp only
  go_enter Tryd.func47, Tryd.ntmps47
  go_wp2_with (go_at_call 60; refine (hc _).mono ?_; rintro e w' ⟨rfl, rfl⟩)
  go_ret
  exact ⟨rfl, (Below.refl _ _).alloc (Nat.le_refl _) _⟩
theorem made_12 (rd rs1 rs2 imm a b : Int) (w : World) :
    Calls Tryd.prog 47 #[(Mi.mk 12 rd rs1 rs2 imm).val, .int .i64 a, .int .i64 b] w fun e w' => e = .returned (.int .i64 (wrap64 (a + imm))) ∧ Below w.heap.size w w' := by
  unfold Mi.val
  dsimp only
  go_enter Tryd.func47, Tryd.ntmps47
  go_wp2
  go_ret
  exact ⟨rfl, (Below.refl _ _).alloc (Nat.le_refl _) _⟩
theorem made_13 (rd rs1 rs2 imm a b : Int) (w : World) :
    Calls Tryd.prog 47 #[(Mi.mk 13 rd rs1 rs2 imm).val, .int .i64 a, .int .i64 b] w fun e w' => e = .returned (.int .i64 (bits .and .i64 a imm)) ∧ Below w.heap.size w w' := by
  unfold Mi.val
  dsimp only
  go_enter Tryd.func47, Tryd.ntmps47
  go_wp2
  go_ret
  exact ⟨rfl, (Below.refl _ _).alloc (Nat.le_refl _) _⟩
theorem made_14 (rd rs1 rs2 imm a b : Int) (w : World) :
    Calls Tryd.prog 47 #[(Mi.mk 14 rd rs1 rs2 imm).val, .int .i64 a, .int .i64 b] w fun e w' => e = .returned (.int .i64 (bits .or .i64 a imm)) ∧ Below w.heap.size w w' := by
  unfold Mi.val
  dsimp only
  go_enter Tryd.func47, Tryd.ntmps47
  go_wp2
  go_ret
  exact ⟨rfl, (Below.refl _ _).alloc (Nat.le_refl _) _⟩
theorem made_15 (rd rs1 rs2 imm a b : Int) (w : World) :
    Calls Tryd.prog 47 #[(Mi.mk 15 rd rs1 rs2 imm).val, .int .i64 a, .int .i64 b] w fun e w' => e = .returned (.int .i64 (bits .xor .i64 a imm)) ∧ Below w.heap.size w w' := by
  unfold Mi.val
  dsimp only
  go_enter Tryd.func47, Tryd.ntmps47
  go_wp2
  go_ret
  exact ⟨rfl, (Below.refl _ _).alloc (Nat.le_refl _) _⟩
theorem made_16 (rd rs1 rs2 imm a b : Int) (w : World) :
    Calls Tryd.prog 47 #[(Mi.mk 16 rd rs1 rs2 imm).val, .int .i64 a, .int .i64 b] w fun e w' => e = .returned (.int .i64 ((if a < imm then 1 else 0))) ∧ Below w.heap.size w w' := by
  have hc := fun w => ctruth_any (decide (a < imm)) w
  rw [show (if a < imm then (1 : Int) else 0) = (if decide (a < imm) = true then (1 : Int) else 0) by simp]
  generalize (if decide (a < imm) = true then (1 : Int) else 0) = D at *
  unfold Mi.val
  dsimp only
  go_enter Tryd.func47, Tryd.ntmps47
  go_wp2_with (go_at_call 60; refine (hc _).mono ?_; rintro e w' ⟨rfl, rfl⟩)
  go_ret
  exact ⟨rfl, (Below.refl _ _).alloc (Nat.le_refl _) _⟩
theorem made_17 (rd rs1 rs2 imm a b : Int) (w : World) :
    Calls Tryd.prog 47 #[(Mi.mk 17 rd rs1 rs2 imm).val, .int .i64 a, .int .i64 b] w fun e w' => e = .returned (.int .i64 ((if a % 18446744073709551616 < imm % 18446744073709551616 then 1 else 0))) ∧ Below w.heap.size w w' := by
  have hc := fun w => ctruth_any (decide (IntKind.u64.wrap a < IntKind.u64.wrap imm)) w
  rw [show (if a % 18446744073709551616 < imm % 18446744073709551616 then (1 : Int) else 0) = (if decide (IntKind.u64.wrap a < IntKind.u64.wrap imm) = true then (1 : Int) else 0) by simp [wrapU]]
  generalize (if decide (IntKind.u64.wrap a < IntKind.u64.wrap imm) = true then (1 : Int) else 0) = D at *
  unfold Mi.val
  dsimp only
  go_enter Tryd.func47, Tryd.ntmps47
  go_wp2_with (go_at_call 60; refine (hc _).mono ?_; rintro e w' ⟨rfl, rfl⟩)
  go_ret
  exact ⟨rfl, (Below.refl _ _).alloc (Nat.le_refl _) _⟩
theorem made_18 (rd rs1 rs2 imm a b : Int) (w : World) :
    Calls Tryd.prog 47 #[(Mi.mk 18 rd rs1 rs2 imm).val, .int .i64 a, .int .i64 b] w fun e w' => e = .returned (.int .i64 (wrap64 (a * 2 ^ (imm % 64).toNat))) ∧ Below w.heap.size w w' := by
  have hc := fun w => cshift_any imm w
  have hm0 : 0 ≤ imm % 64 := by omega
  have hm1 : imm % 64 < 64 := by omega
  unfold Mi.val
  dsimp only
  go_enter Tryd.func47, Tryd.ntmps47
  go_wp2_with (go_at_call 59; refine (hc _).mono ?_; rintro e w' ⟨rfl, rfl⟩)
  go_ret
  exact ⟨rfl, (Below.refl _ _).alloc (Nat.le_refl _) _⟩
theorem made_19 (rd rs1 rs2 imm a b : Int) (w : World) :
    Calls Tryd.prog 47 #[(Mi.mk 19 rd rs1 rs2 imm).val, .int .i64 a, .int .i64 b] w fun e w' => e = .returned (.int .i64 (a / 2 ^ (imm % 64).toNat)) ∧ Below w.heap.size w w' := by
  have hc := fun w => cshift_any imm w
  have hm0 : 0 ≤ imm % 64 := by omega
  have hm1 : imm % 64 < 64 := by omega
  unfold Mi.val
  dsimp only
  go_enter Tryd.func47, Tryd.ntmps47
  go_wp2_with (go_at_call 59; refine (hc _).mono ?_; rintro e w' ⟨rfl, rfl⟩)
  go_ret
  exact ⟨rfl, (Below.refl _ _).alloc (Nat.le_refl _) _⟩

theorem nineteen {P : Int → Prop} (ha : P 1) (hb : P 2) (hc : P 3) (hd : P 4) (he : P 5) (hf : P 6) (hg : P 7) (hh : P 8) (hi : P 9) (hj : P 10) (hk : P 11) (hl : P 12) (hm : P 13) (hn : P 14) (ho : P 15) (hp : P 16) (hq : P 17) (hr : P 18) (hs : P 19) (op : Int) (h0 : 1 ≤ op) (h1 : op ≤ 19) : P op := by
  have h' : op = 1 ∨ op = 2 ∨ op = 3 ∨ op = 4 ∨ op = 5 ∨ op = 6 ∨ op = 7 ∨ op = 8 ∨ op = 9 ∨ op = 10 ∨ op = 11 ∨ op = 12 ∨ op = 13 ∨ op = 14 ∨ op = 15 ∨ op = 16 ∨ op = 17 ∨ op = 18 ∨ op = 19 := by omega
  rcases h' with rfl | rfl | rfl | rfl | rfl | rfl | rfl | rfl | rfl | rfl | rfl | rfl | rfl | rfl | rfl | rfl | rfl | rfl | rfl <;> assumption
theorem made_any (x : Mi) (a b : Int) (w : World) (h0 : 1 ≤ x.op) (h1 : x.op ≤ 19) :
    Calls Tryd.prog 47 #[x.val, .int .i64 a, .int .i64 b] w fun e w' => e = .returned (.int .i64 (mdC x.op a (snd x b))) ∧ Below w.heap.size w w' := by
  obtain ⟨op, rd, rs1, rs2, imm⟩ := x
  dsimp only at h0 h1
  revert h0 h1
  refine fun h0 h1 => nineteen (P := fun op => Calls Tryd.prog 47 #[(Mi.mk op rd rs1 rs2 imm).val, .int .i64 a, .int .i64 b] w fun e w' => e = .returned (.int .i64 (mdC op a (snd ⟨op, rd, rs1, rs2, imm⟩ b))) ∧ Below w.heap.size w w') (made_1 rd rs1 rs2 imm a b w) (made_2 rd rs1 rs2 imm a b w) (made_3 rd rs1 rs2 imm a b w) (made_4 rd rs1 rs2 imm a b w) (made_5 rd rs1 rs2 imm a b w) (made_6 rd rs1 rs2 imm a b w) (made_7 rd rs1 rs2 imm a b w) (made_8 rd rs1 rs2 imm a b w) (made_9 rd rs1 rs2 imm a b w) (made_10 rd rs1 rs2 imm a b w) (made_11 rd rs1 rs2 imm a b w) (made_12 rd rs1 rs2 imm a b w) (made_13 rd rs1 rs2 imm a b w) (made_14 rd rs1 rs2 imm a b w) (made_15 rd rs1 rs2 imm a b w) (made_16 rd rs1 rs2 imm a b w) (made_17 rd rs1 rs2 imm a b w) (made_18 rd rs1 rs2 imm a b w) (made_19 rd rs1 rs2 imm a b w) op h0 h1
end Go.Proofs.YtapjfiihfgndeaaDoor
