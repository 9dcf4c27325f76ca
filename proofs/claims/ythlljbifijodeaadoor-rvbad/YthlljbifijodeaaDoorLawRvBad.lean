/- The walk of tierlinekeep.RvBad: at all raw numbers it says true, and nothing that was there has turned. -/
import Derived.Test.YthlljbifijodeaaDoorLawRvBack
namespace Go.Proofs.YthlljbifijodeaaDoor
open Go Go.RowKit

theorem bad_rd (x : Mi) (h : MiOk x) : rvE ⟨x.op, 32, x.rs1, x.rs2, x.imm⟩ = 2 := by
  unfold rvE
  dsimp only
  rw [if_neg (by have := h.op1; have := h.op2; omega), if_neg]
  rw [fits_iff]
  intro hf
  have hs := shOf_lt x.op.toNat (by have := h.op1; omega) (by have := h.op2; omega)
  have := (regs_eq _ hs).1
  have := hf.2.1
  dsimp only at this
  omega
theorem bad_rs1 (x : Mi) (h : MiOk x) : rvE ⟨x.op, x.rd, -1, x.rs2, x.imm⟩ = 2 := by
  unfold rvE
  dsimp only
  rw [if_neg (by have := h.op1; have := h.op2; omega), if_neg]
  rw [fits_iff]
  intro hf
  have := hf.2.2.1
  dsimp only at this
  omega
theorem bad_imm (x : Mi) (h : MiOk x) : rvE ⟨x.op, x.rd, x.rs1, x.rs2, 2097152⟩ = 2 := by
  unfold rvE
  dsimp only
  rw [if_neg (by have := h.op1; have := h.op2; omega), if_neg]
  rw [fits_iff]
  intro hf
  have hs := shOf_lt x.op.toNat (by have := h.op1; omega) (by have := h.op2; omega)
  have h4 : shF (shOf x.op.toNat) 4 ≤ 1048572 := by
    generalize shOf x.op.toNat = s at *
    rcases eight s hs with rfl | rfl | rfl | rfl | rfl | rfl | rfl | rfl <;> decide
  have := hf.2.2.2.2.2.2.2.1
  dsimp only at this
  omega
theorem bad_op (x : Mi) (o : Int) (h : 30 ≤ o) : rvE ⟨o, x.rd, x.rs1, x.rs2, x.imm⟩ = 3 := by
  unfold rvE
  dsimp only
  rw [if_pos (by omega)]

set_option maxRecDepth 100000 in
set_option maxHeartbeats 2000000 in
theorem rvBad_walk (x : Mi) (which : Int) (h : MiFits x) (hw : Fits which) (w : World) (ht : RvTab w) :
    Calls Tryd.prog 10 #[x.val, .int .i64 which] w fun e w' => e = .returned (.bool true) ∧ Below w.heap.size w w' := by
  have HK : Hid (∀ W, Calls Tryd.prog 18 #[x.val] W fun e w' => e = .returned (mkRv x).val ∧ Below W.heap.size W w') := fun W => keep_rv x h W
  have hok := mkRv_ok x
  have b1 := bad_rd _ hok
  have b2 := bad_rs1 _ hok
  have b3 := bad_imm _ hok
  have b4 := fun o (h : 30 ≤ o) => bad_op (mkRv x) o h
  have HC : Hid (∀ y W, Below w.heap.size w W → Calls Tryd.prog 12 #[y.val] W fun e w' => e = .returned (.int .i64 (rvE y)) ∧ Below W.heap.size W w') := fun y W hW => rcheck_any y W (ht.below hW)
  have HE : Hid (∀ y W, Below w.heap.size w W → Calls Tryd.prog 14 #[y.val] W fun e w' => e = .returned (.tuple #[.int .i64 (encI y), .int .i64 (rvE y)]) ∧ Below W.heap.size W w') := fun y W hW => rencode_any y W (ht.below hW)
  have g4 := fun W => picked_big which 4 W hw (by decide)
  have g9 := fun W => picked_big which 9 W hw (by decide)
  have p4 := pickB_bounds which 4 (by decide)
  have p9 := pickB_bounds which 9 (by decide)
  generalize pickB which 4 = m4 at *
  generalize pickB which 9 = m9 at *
  clear h hok ht hw
  generalize mkRv x = X at *
  obtain ⟨op, rd, rs1, rs2, imm⟩ := X
  obtain ⟨xo, xd, xa, xb, xi⟩ := x
  dsimp only at *
  have k1 := HC.out ⟨op, 32, rs1, rs2, imm⟩
  have k2 := HC.out ⟨op, rd, -1, rs2, imm⟩
  have k3 := HC.out ⟨op, rd, rs1, rs2, 2097152⟩
  have k4 := HE.out ⟨30 + m9, rd, rs1, rs2, imm⟩
  rw [b1] at k1
  rw [b2] at k2
  rw [b3] at k3
  rw [b4 (30 + m9) (by omega)] at k4
  generalize encI ⟨30 + m9, rd, rs1, rs2, imm⟩ = EW at k4
  clear b1 b2 b3 b4 HC HE
  unfold Mi.val at *
  dsimp only at *
  have K1 : Hid _ := k1
  have K2 : Hid _ := k2
  have K3 : Hid _ := k3
  have K4 : Hid _ := k4
  clear k1 k2 k3 k4
  rcases (show m4 = 0 ∨ m4 = 1 ∨ m4 = 2 ∨ m4 = 3 by omega) with rfl | rfl | rfl | rfl
  · go_enter Tryd.func10, Tryd.ntmps10
    go_wp2_with (first
      | (go_at_call 18; refine (HK.out _).mono ?_; rintro e w1 ⟨rfl, hb1⟩; have HB1 : Hid (Below w.heap.size w w1) := ((Below.refl _ _).alloc (Nat.le_refl _) _).trans (hb1.mono (by simp)); clear hb1)
      | (go_at_call 19; first | (with_reducible refine (g4 _).mono ?_; rintro e w' ⟨rfl, rfl⟩) | (with_reducible refine (g9 _).mono ?_; rintro e w' ⟨rfl, rfl⟩))
      | (go_at_call 12; refine (K1.out _ ((HB1.out.alloc HB1.out.size _))).mono ?_; rintro e w2 ⟨rfl, hb2⟩; have HB2 : Hid (Below w.heap.size w w2) := ((HB1.out.alloc HB1.out.size _)).trans (hb2.mono (by have := HB1.out.size; simp; omega)); clear hb2))
    go_ret
    exact ⟨by simp, HB2.out⟩
  · go_enter Tryd.func10, Tryd.ntmps10
    go_wp2_with (first
      | (go_at_call 18; refine (HK.out _).mono ?_; rintro e w1 ⟨rfl, hb1⟩; have HB1 : Hid (Below w.heap.size w w1) := ((Below.refl _ _).alloc (Nat.le_refl _) _).trans (hb1.mono (by simp)); clear hb1)
      | (go_at_call 19; first | (with_reducible refine (g4 _).mono ?_; rintro e w' ⟨rfl, rfl⟩) | (with_reducible refine (g9 _).mono ?_; rintro e w' ⟨rfl, rfl⟩))
      | (go_at_call 12; refine (K2.out _ ((HB1.out.alloc HB1.out.size _))).mono ?_; rintro e w2 ⟨rfl, hb2⟩; have HB2 : Hid (Below w.heap.size w w2) := ((HB1.out.alloc HB1.out.size _)).trans (hb2.mono (by have := HB1.out.size; simp; omega)); clear hb2))
    go_ret
    exact ⟨by simp, HB2.out⟩
  · go_enter Tryd.func10, Tryd.ntmps10
    go_wp2_with (first
      | (go_at_call 18; refine (HK.out _).mono ?_; rintro e w1 ⟨rfl, hb1⟩; have HB1 : Hid (Below w.heap.size w w1) := ((Below.refl _ _).alloc (Nat.le_refl _) _).trans (hb1.mono (by simp)); clear hb1)
      | (go_at_call 19; first | (with_reducible refine (g4 _).mono ?_; rintro e w' ⟨rfl, rfl⟩) | (with_reducible refine (g9 _).mono ?_; rintro e w' ⟨rfl, rfl⟩))
      | (go_at_call 12; refine (K3.out _ ((HB1.out.alloc HB1.out.size _))).mono ?_; rintro e w2 ⟨rfl, hb2⟩; have HB2 : Hid (Below w.heap.size w w2) := ((HB1.out.alloc HB1.out.size _)).trans (hb2.mono (by have := HB1.out.size; simp; omega)); clear hb2))
    go_ret
    exact ⟨by simp, HB2.out⟩
  · go_enter Tryd.func10, Tryd.ntmps10
    go_wp2_with (first
      | (go_at_call 18; refine (HK.out _).mono ?_; rintro e w1 ⟨rfl, hb1⟩; have HB1 : Hid (Below w.heap.size w w1) := ((Below.refl _ _).alloc (Nat.le_refl _) _).trans (hb1.mono (by simp)); clear hb1)
      | (go_at_call 19; first | (with_reducible refine (g4 _).mono ?_; rintro e w' ⟨rfl, rfl⟩) | (with_reducible refine (g9 _).mono ?_; rintro e w' ⟨rfl, rfl⟩))
      | (go_at_call 14; refine (K4.out _ ((HB1.out.alloc HB1.out.size _))).mono ?_; rintro e w2 ⟨rfl, hb2⟩; have HB2 : Hid (Below w.heap.size w w2) := ((HB1.out.alloc HB1.out.size _)).trans (hb2.mono (by have := HB1.out.size; simp; omega)); clear hb2))
    go_ret
    exact ⟨by simp, HB2.out⟩
end Go.Proofs.YthlljbifijodeaaDoor
