/- tierlineref.Made at every op, and the walk of tierlinelaw.StepMakes. -/
import Derived.Test.YtiaammieldfkcaaDoorXRMadeAnd
import Derived.Test.YtiaammieldfkcaaDoorXRMadeOr
import Derived.Test.YtiaammieldfkcaaDoorXRMadeXor
import Derived.Test.YtiaammieldfkcaaDoorXRMadeShl
import Derived.Test.YtiaammieldfkcaaDoorXRMadeSar
namespace Go.Proofs.YtiaammieldfkcaaDoor
open Go Go.RowKit

theorem shl_toInt (x : BitVec 64) (n : Nat) : wrap64 (x.toInt * 2 ^ n) = (x <<< n).toInt := by
  have e : BitVec.ofInt 64 (2 ^ n) = BitVec.twoPow 64 n := by
    apply BitVec.eq_of_toNat_eq
    have : (2 : Int) ^ n = ((2 ^ n : Nat) : Int) := by simp
    rw [this, BitVec.ofInt_natCast, BitVec.toNat_twoPow, BitVec.toNat_ofNat]
  rw [wrap64_bv, BitVec.ofInt_mul, BitVec.ofInt_toInt, e, BitVec.mul_twoPow_eq_shiftLeft]

theorem rmade_any (op a b imm : Int) (w : World) (ha : Fits a) (hb : Fits b) :
    Calls Tryd.prog 37 #[.int .i64 op, .int .i64 a, .int .i64 b, .int .i64 imm] w fun e w' => e = .returned (.tuple #[.int .i64 (mk op a b imm), .int .i64 (mkE op b)]) ∧ Below w.heap.size w w' := by
  revert op
  refine twelve_ops (rmade_set a b imm w) (rmade_add a b imm w) (rmade_sub a b imm w) (rmade_mul a b imm w) ?_ ?_ ?_ ?_ ?_ ?_ (rmade_lt a b imm w) (rmade_eq a b imm w) (fun op h => ?_)
  · by_cases h0 : b = 0
    · have e1 : mk 5 a b imm = 0 := by simp [mk, h0]
      have e2 : mkE 5 b = 9 := by simp [mkE, h0]
      rw [e1, e2]
      exact rmade_zero a b imm w h0
    · have e1 : mk 5 a b imm = wrap64 (a.tdiv b) := by simp [mk, h0]
      have e2 : mkE 5 b = 0 := by simp [mkE, h0]
      rw [e1, e2]
      exact rmade_div a b imm w h0
  · obtain ⟨x, rfl⟩ := bv_of ha
    obtain ⟨y, rfl⟩ := bv_of hb
    have e1 : mk 6 x.toInt y.toInt imm = (x &&& y).toInt := bits_and_bv x y
    rw [e1]
    exact rmade_and x y (x &&& y) imm w (fun k _ => BitVec.getLsbD_and)
  · obtain ⟨x, rfl⟩ := bv_of ha
    obtain ⟨y, rfl⟩ := bv_of hb
    have e1 : mk 7 x.toInt y.toInt imm = (x ||| y).toInt := bits_or_bv x y
    rw [e1]
    exact rmade_or x y (x ||| y) imm w (fun k _ => BitVec.getLsbD_or)
  · obtain ⟨x, rfl⟩ := bv_of ha
    obtain ⟨y, rfl⟩ := bv_of hb
    have e1 : mk 8 x.toInt y.toInt imm = (x ^^^ y).toInt := bits_xor_bv x y
    rw [e1]
    exact rmade_xor x y (x ^^^ y) imm w (fun k _ => by rw [BitVec.getLsbD_xor])
  · obtain ⟨x, rfl⟩ := bv_of ha
    obtain ⟨y, rfl⟩ := bv_of hb
    have e1 : mk 9 x.toInt y.toInt imm = (x <<< low6 y 6).toInt := by rw [mk9, ← low6_last, shl_toInt]
    rw [e1]
    refine rmade_shl x y (x <<< low6 y 6) imm w (fun k hk => ?_)
    rw [BitVec.getLsbD_shiftLeft]
    by_cases h : k < low6 y 6
    · simp [h]
    · simp [h, hk]
  · obtain ⟨x, rfl⟩ := bv_of ha
    obtain ⟨y, rfl⟩ := bv_of hb
    have e1 : mk 10 x.toInt y.toInt imm = (x.sshiftRight (low6 y 6)).toInt := by rw [mk10, ← low6_last, shr_toInt]
    rw [e1]
    refine rmade_sar x y (x.sshiftRight (low6 y 6)) imm w (fun k hk => ?_)
    rw [BitVec.getLsbD_sshiftRight, Nat.add_comm (low6 y 6) k]
    have hm : x.msb = x.getLsbD 63 := by rw [BitVec.msb_eq_getLsbD_last]
    have h64 : ¬ 64 ≤ k := by omega
    simp [h64, hm]
  · have e1 : mk op a b imm = 0 := by
      unfold mk
      repeat rw [if_neg (by omega)]
    have e2 : mkE op b = 3 := by unfold mkE; rw [if_pos h]
    rw [e1, e2]
    exact rmade_none op a b imm w h

end Go.Proofs.YtiaammieldfkcaaDoor
