/- Contracts of rv.cut, rv.fields, rv.imm: the fields of a word, put together and taken apart. No condition but on the shape's numbers. -/
import Derived.Test.YtapjfiihfgndeaaDoorProg
import Derived.Test.YtapjfiihfgndeaaDoorRvMath
import Derived.Test.YtapjfiihfgndeaaDoorMem
import Derived.WalkKit
import Derived.WalkSpells
import Derived.WalkLawsBesides
import Derived.Deep.QuietTactic
import Derived.BigQuiet
namespace Go.Proofs.YtapjfiihfgndeaaDoor
open Go Go.RowKit

theorem below_drewN {B : Nat} {w w' : World} (h : Below B w w') (n : Nat) : Below B w (w'.drewN n) := ⟨h.1, h.2, h.3, h.4, h.5⟩
theorem pow_lt63 (b : Nat) (h : b < 63) : (2 : Nat) ^ b < 9223372036854775808 := Nat.lt_of_lt_of_le (Nat.pow_lt_pow_right (by decide) h) (by decide)
theorem wrap64_pow (b : Nat) (h : b < 63) : wrap64 (2 ^ b) = ((2 ^ b : Nat) : Int) := by
  have := pow_lt63 b h
  have e : (2 : Int) ^ b = ((2 ^ b : Nat) : Int) := by simp
  rw [e]
  generalize 2 ^ b = m at this
  exact wrap64_small _ (by omega) (by omega)
theorem wrap_nat (n : Nat) (h : n < 9223372036854775808) : IntKind.i64.wrap (n : Int) = n := by
  have e : (BitVec.ofNat 64 n).toNat = n := by simp; omega
  have := wrap_bv (BitVec.ofNat 64 n)
  rw [e] at this
  rw [this, BitVec.toInt_eq_toNat_cond, e, if_pos (by omega)]
theorem and_mask (n : Int) (b : Nat) (h : b < 63) : bits .and .i64 n (wrap64 (wrap64 (2 ^ b) - 1)) = n % 2 ^ b := by
  have hp := pow_lt63 b h
  have hq : 0 < 2 ^ b := Nat.pow_pos (by decide)
  rw [wrap64_pow b h, wrap64_small _ (by omega) (by omega)]
  show IntKind.i64.wrap ((BitVec.ofInt 64 n &&& BitVec.ofInt 64 (((2 ^ b : Nat) : Int) - 1)).toNat : Int) = _
  have e : (BitVec.ofInt 64 n &&& BitVec.ofInt 64 (((2 ^ b : Nat) : Int) - 1)).toNat = (n % 2 ^ b).toNat := by
    rw [BitVec.toNat_and, BitVec.toNat_ofInt, BitVec.toNat_ofInt]
    have e2 : ((((2 ^ b : Nat) : Int) - 1) % ((2 ^ 64 : Nat) : Int)).toNat = 2 ^ b - 1 := by
      rw [Int.emod_eq_of_lt (by omega) (by omega)]; omega
    rw [e2, Nat.and_two_pow_sub_one_eq_mod]
    have hd : ((2 ^ b : Nat) : Int) ∣ ((2 ^ 64 : Nat) : Int) := Int.natCast_dvd_natCast.2 (Nat.pow_dvd_pow 2 (by omega))
    have e3 : n % ((2 ^ 64 : Nat) : Int) % ((2 ^ b : Nat) : Int) = n % ((2 ^ b : Nat) : Int) := Int.emod_emod_of_dvd n hd
    have e4 : (2 : Int) ^ b = ((2 ^ b : Nat) : Int) := by simp
    rw [e4, ← e3]
    have h0 : 0 ≤ n % ((2 ^ 64 : Nat) : Int) := Int.emod_nonneg _ (by decide)
    generalize n % ((2 ^ 64 : Nat) : Int) = z at h0
    obtain ⟨k, rfl⟩ := Int.eq_ofNat_of_zero_le h0
    simp only [Int.toNat_natCast]
    rw [← Int.natCast_emod, Int.toNat_natCast]
  rw [e]
  have e4 : (2 : Int) ^ b = ((2 ^ b : Nat) : Int) := by simp
  have h1 : 0 ≤ n % 2 ^ b := by rw [e4]; exact Int.emod_nonneg _ (by omega)
  have h2 : n % 2 ^ b < ((2 ^ b : Nat) : Int) := by rw [e4]; exact Int.emod_lt_of_pos _ (by omega)
  rw [wrap_nat _ (by omega)]
  omega

set_option maxRecDepth 100000 in
theorem cut_any (n : Int) (b : Nat) (hb : b < 63) (w : World) :
    Calls Tryd.prog 41 #[.int .i64 n, .int .i64 b] w fun e w' => e = .returned (.int .i64 (n % 2 ^ b)) ∧ w' = w := by
  have hm := and_mask n b hb
  go_enter Tryd.func41, Tryd.ntmps41
  go_wp2
  go_ret
  exact ⟨rfl, rfl⟩

def partF (r p0 p1 p2 p3 : Int) : Nat → Int
  | 0 => r
  | 1 => bits .or .i64 r p0
  | 2 => bits .or .i64 (bits .or .i64 r p0) p1
  | 3 => bits .or .i64 (bits .or .i64 (bits .or .i64 r p0) p1) p2
  | _ => bits .or .i64 (bits .or .i64 (bits .or .i64 (bits .or .i64 r p0) p1) p2) p3
theorem index_piece0 (b0 f0 a0 b1 f1 a1 b2 f2 a2 b3 f3 a3 : Nat) (w : World) : (Instr.index 74 (Value.agg #[.int .i64 b0, .int .i64 f0, .int .i64 a0, .int .i64 b1, .int .i64 f1, .int .i64 a1, .int .i64 b2, .int .i64 f2, .int .i64 a2, .int .i64 b3, .int .i64 f3, .int .i64 a3]) (Value.int .i64 0)).run Tryd.prog w = .ok (.agg #[.int .i64 b0, .int .i64 f0, .int .i64 a0]) w := by kernel_rfl
theorem index_piece1 (b0 f0 a0 b1 f1 a1 b2 f2 a2 b3 f3 a3 : Nat) (w : World) : (Instr.index 74 (Value.agg #[.int .i64 b0, .int .i64 f0, .int .i64 a0, .int .i64 b1, .int .i64 f1, .int .i64 a1, .int .i64 b2, .int .i64 f2, .int .i64 a2, .int .i64 b3, .int .i64 f3, .int .i64 a3]) (Value.int .i64 1)).run Tryd.prog w = .ok (.agg #[.int .i64 b1, .int .i64 f1, .int .i64 a1]) w := by kernel_rfl
theorem index_piece2 (b0 f0 a0 b1 f1 a1 b2 f2 a2 b3 f3 a3 : Nat) (w : World) : (Instr.index 74 (Value.agg #[.int .i64 b0, .int .i64 f0, .int .i64 a0, .int .i64 b1, .int .i64 f1, .int .i64 a1, .int .i64 b2, .int .i64 f2, .int .i64 a2, .int .i64 b3, .int .i64 f3, .int .i64 a3]) (Value.int .i64 2)).run Tryd.prog w = .ok (.agg #[.int .i64 b2, .int .i64 f2, .int .i64 a2]) w := by kernel_rfl
theorem index_piece3 (b0 f0 a0 b1 f1 a1 b2 f2 a2 b3 f3 a3 : Nat) (w : World) : (Instr.index 74 (Value.agg #[.int .i64 b0, .int .i64 f0, .int .i64 a0, .int .i64 b1, .int .i64 f1, .int .i64 a1, .int .i64 b2, .int .i64 f2, .int .i64 a2, .int .i64 b3, .int .i64 f3, .int .i64 a3]) (Value.int .i64 3)).run Tryd.prog w = .ok (.agg #[.int .i64 b3, .int .i64 f3, .int .i64 a3]) w := by kernel_rfl
/-- A piece of a number, as it stands in a word; and the other way round. -/
def pieceI (imm : Int) (b f a : Nat) : Int := wrap64 (imm / 2 ^ f % 2 ^ b * 2 ^ a)
def immG (least most n : Int) : Int := if most < n then wrap64 (n + wrap64 (2 * least)) else n
def orI (a b : Int) : Int := bits .or .i64 a b
def regsI (rd rs1 rs2 : Int) : Int := orI (orI (wrap64 (rd * 2 ^ 7)) (wrap64 (rs1 * 2 ^ 15))) (wrap64 (rs2 * 2 ^ 20))

set_option maxRecDepth 100000 in
set_option maxHeartbeats 2000000 in
theorem fields_any (x : Mi) (r0 r1 r2 r3 r4 r5 r18 : Int) (b0 f0 a0 b1 f1 a1 b2 f2 a2 b3 f3 a3 : Nat) (hb0 : b0 < 63) (hf0 : f0 < 63) (ha0 : a0 < 63) (hb1 : b1 < 63) (hf1 : f1 < 63) (ha1 : a1 < 63) (hb2 : b2 < 63) (hf2 : f2 < 63) (ha2 : a2 < 63) (hb3 : b3 < 63) (hf3 : f3 < 63) (ha3 : a3 < 63) (w : World) :
    Calls Tryd.prog 34 #[x.val, .agg #[.int .i64 r0, .int .i64 r1, .int .i64 r2, .int .i64 r3, .int .i64 r4, .int .i64 r5, .int .i64 (b0 : Nat), .int .i64 (f0 : Nat), .int .i64 (a0 : Nat), .int .i64 (b1 : Nat), .int .i64 (f1 : Nat), .int .i64 (a1 : Nat), .int .i64 (b2 : Nat), .int .i64 (f2 : Nat), .int .i64 (a2 : Nat), .int .i64 (b3 : Nat), .int .i64 (f3 : Nat), .int .i64 (a3 : Nat), .int .i64 r18]] w
      fun e w' => e = .returned (.int .i64 (orI (orI (orI (orI (regsI x.rd x.rs1 x.rs2) (pieceI x.imm b0 f0 a0)) (pieceI x.imm b1 f1 a1)) (pieceI x.imm b2 f2 a2)) (pieceI x.imm b3 f3 a3))) ∧ Below w.heap.size w w' := by
  obtain ⟨op, rd, rs1, rs2, imm⟩ := x
  unfold Mi.val
  dsimp only
  have HR : Hid (orI (orI (wrap64 (rd * 2 ^ 7)) (wrap64 (rs1 * 2 ^ 15))) (wrap64 (rs2 * 2 ^ 20)) = regsI rd rs1 rs2) := rfl
  have c0 := fun n w => cut_any n b0 hb0 w
  have c1 := fun n w => cut_any n b1 hb1 w
  have c2 := fun n w => cut_any n b2 hb2 w
  have c3 := fun n w => cut_any n b3 hb3 w
  go_enter Tryd.func34, Tryd.ntmps34
  go_wp2
  go_loopw [5, 21] (fun v i wr => ∃ k : Nat, k ≤ 4 ∧ i = .int .i64 k ∧ v = .int .i64 (partF (regsI rd rs1 rs2) (pieceI imm b0 f0 a0) (pieceI imm b1 f1 a1) (pieceI imm b2 f2 a2) (pieceI imm b3 f3 a3) k) ∧ wr.cell? ⟨w.heap.size, 4, none⟩ = some (.int .i64 imm) ∧ Below w.heap.size w wr ∧ w.heap.size + 2 ≤ wr.heap.size) (fun _ i _ => 4 - (intOf i).toNat)
  case atStart => exact ⟨0, by omega, rfl, rfl, by simp, ((Below.refl _ _).alloc (Nat.le_refl _) _).alloc (by simp) _, by simp⟩
  case round =>
    obtain ⟨k, hk, rfl, rfl, hc, hbr, hsz⟩ := hrel
    have hzz : w.heap.size < wr.heap.size := by omega
    have HB : Hid (Below w.heap.size w wr) := hbr
    have HZ : Hid (w.heap.size + 2 ≤ wr.heap.size) := hsz
    clear hbr hsz
    rcases (show k = 0 ∨ k = 1 ∨ k = 2 ∨ k = 3 ∨ k = 4 by omega) with rfl | rfl | rfl | rfl | rfl
    · have HQ : Hid (bits .or .i64 (partF (regsI rd rs1 rs2) (pieceI imm b0 f0 a0) (pieceI imm b1 f1 a1) (pieceI imm b2 f2 a2) (pieceI imm b3 f3 a3) 0) (wrap64 (imm / 2 ^ f0 % 2 ^ b0 * 2 ^ a0)) = partF (regsI rd rs1 rs2) (pieceI imm b0 f0 a0) (pieceI imm b1 f1 a1) (pieceI imm b2 f2 a2) (pieceI imm b3 f3 a3) (0 + 1)) := rfl
      generalize partF (regsI rd rs1 rs2) (pieceI imm b0 f0 a0) (pieceI imm b1 f1 a1) (pieceI imm b2 f2 a2) (pieceI imm b3 f3 a3) 0 = Q at HQ
      have hix := fun w => index_piece0 b0 f0 a0 b1 f1 a1 b2 f2 a2 b3 f3 a3 w
      go_wp2
      go_quiet (first | (go_at_call 41; exact Calls.quiet_of_same (c0 _ _)))
      go_wp2
      go_roundw
      case rel => exact ⟨0 + 1, by omega, rfl, by rw [← HQ.out], cell_alloc hc _, below_drewN (HB.out.alloc (Nat.le_of_lt hzz) _) _, by have := HZ.out; simp; omega⟩
      case measure => simp [intOf]
    · have HQ : Hid (bits .or .i64 (partF (regsI rd rs1 rs2) (pieceI imm b0 f0 a0) (pieceI imm b1 f1 a1) (pieceI imm b2 f2 a2) (pieceI imm b3 f3 a3) 1) (wrap64 (imm / 2 ^ f1 % 2 ^ b1 * 2 ^ a1)) = partF (regsI rd rs1 rs2) (pieceI imm b0 f0 a0) (pieceI imm b1 f1 a1) (pieceI imm b2 f2 a2) (pieceI imm b3 f3 a3) (1 + 1)) := rfl
      generalize partF (regsI rd rs1 rs2) (pieceI imm b0 f0 a0) (pieceI imm b1 f1 a1) (pieceI imm b2 f2 a2) (pieceI imm b3 f3 a3) 1 = Q at HQ
      have hix := fun w => index_piece1 b0 f0 a0 b1 f1 a1 b2 f2 a2 b3 f3 a3 w
      go_wp2
      go_quiet (first | (go_at_call 41; exact Calls.quiet_of_same (c1 _ _)))
      go_wp2
      go_roundw
      case rel => exact ⟨1 + 1, by omega, rfl, by rw [← HQ.out], cell_alloc hc _, below_drewN (HB.out.alloc (Nat.le_of_lt hzz) _) _, by have := HZ.out; simp; omega⟩
      case measure => simp [intOf]
    · have HQ : Hid (bits .or .i64 (partF (regsI rd rs1 rs2) (pieceI imm b0 f0 a0) (pieceI imm b1 f1 a1) (pieceI imm b2 f2 a2) (pieceI imm b3 f3 a3) 2) (wrap64 (imm / 2 ^ f2 % 2 ^ b2 * 2 ^ a2)) = partF (regsI rd rs1 rs2) (pieceI imm b0 f0 a0) (pieceI imm b1 f1 a1) (pieceI imm b2 f2 a2) (pieceI imm b3 f3 a3) (2 + 1)) := rfl
      generalize partF (regsI rd rs1 rs2) (pieceI imm b0 f0 a0) (pieceI imm b1 f1 a1) (pieceI imm b2 f2 a2) (pieceI imm b3 f3 a3) 2 = Q at HQ
      have hix := fun w => index_piece2 b0 f0 a0 b1 f1 a1 b2 f2 a2 b3 f3 a3 w
      go_wp2
      go_quiet (first | (go_at_call 41; exact Calls.quiet_of_same (c2 _ _)))
      go_wp2
      go_roundw
      case rel => exact ⟨2 + 1, by omega, rfl, by rw [← HQ.out], cell_alloc hc _, below_drewN (HB.out.alloc (Nat.le_of_lt hzz) _) _, by have := HZ.out; simp; omega⟩
      case measure => simp [intOf]
    · have HQ : Hid (bits .or .i64 (partF (regsI rd rs1 rs2) (pieceI imm b0 f0 a0) (pieceI imm b1 f1 a1) (pieceI imm b2 f2 a2) (pieceI imm b3 f3 a3) 3) (wrap64 (imm / 2 ^ f3 % 2 ^ b3 * 2 ^ a3)) = partF (regsI rd rs1 rs2) (pieceI imm b0 f0 a0) (pieceI imm b1 f1 a1) (pieceI imm b2 f2 a2) (pieceI imm b3 f3 a3) (3 + 1)) := rfl
      generalize partF (regsI rd rs1 rs2) (pieceI imm b0 f0 a0) (pieceI imm b1 f1 a1) (pieceI imm b2 f2 a2) (pieceI imm b3 f3 a3) 3 = Q at HQ
      have hix := fun w => index_piece3 b0 f0 a0 b1 f1 a1 b2 f2 a2 b3 f3 a3 w
      go_wp2
      go_quiet (first | (go_at_call 41; exact Calls.quiet_of_same (c3 _ _)))
      go_wp2
      go_roundw
      case rel => exact ⟨3 + 1, by omega, rfl, by rw [← HQ.out], cell_alloc hc _, below_drewN (HB.out.alloc (Nat.le_of_lt hzz) _) _, by have := HZ.out; simp; omega⟩
      case measure => simp [intOf]
    · have HQ : Hid (partF (regsI rd rs1 rs2) (pieceI imm b0 f0 a0) (pieceI imm b1 f1 a1) (pieceI imm b2 f2 a2) (pieceI imm b3 f3 a3) 4 = orI (orI (orI (orI (regsI rd rs1 rs2) (pieceI imm b0 f0 a0)) (pieceI imm b1 f1 a1)) (pieceI imm b2 f2 a2)) (pieceI imm b3 f3 a3)) := rfl
      generalize partF (regsI rd rs1 rs2) (pieceI imm b0 f0 a0) (pieceI imm b1 f1 a1) (pieceI imm b2 f2 a2) (pieceI imm b3 f3 a3) 4 = Q at HQ
      go_wp2
      go_ret
      exact ⟨by rw [← HQ.out]; rfl, HB.out⟩

set_option maxRecDepth 100000 in
set_option maxHeartbeats 2000000 in
theorem imm_any (wd : Int) (r0 r1 r2 r3 r4 r5 r18 : Int) (b0 f0 a0 b1 f1 a1 b2 f2 a2 b3 f3 a3 : Nat) (hb0 : b0 < 63) (hf0 : f0 < 63) (ha0 : a0 < 63) (hb1 : b1 < 63) (hf1 : f1 < 63) (ha1 : a1 < 63) (hb2 : b2 < 63) (hf2 : f2 < 63) (ha2 : a2 < 63) (hb3 : b3 < 63) (hf3 : f3 < 63) (ha3 : a3 < 63) (w : World) :
    Calls Tryd.prog 55 #[.int .i64 wd, .agg #[.int .i64 r0, .int .i64 r1, .int .i64 r2, .int .i64 r3, .int .i64 r4, .int .i64 r5, .int .i64 (b0 : Nat), .int .i64 (f0 : Nat), .int .i64 (a0 : Nat), .int .i64 (b1 : Nat), .int .i64 (f1 : Nat), .int .i64 (a1 : Nat), .int .i64 (b2 : Nat), .int .i64 (f2 : Nat), .int .i64 (a2 : Nat), .int .i64 (b3 : Nat), .int .i64 (f3 : Nat), .int .i64 (a3 : Nat), .int .i64 r18]] w
      fun e w' => e = .returned (.int .i64 (immG r3 r4 (partF 0 (pieceI wd b0 a0 f0) (pieceI wd b1 a1 f1) (pieceI wd b2 a2 f2) (pieceI wd b3 a3 f3) 4))) ∧ Below w.heap.size w w' := by
  have c0 := fun n w => cut_any n b0 hb0 w
  have c1 := fun n w => cut_any n b1 hb1 w
  have c2 := fun n w => cut_any n b2 hb2 w
  have c3 := fun n w => cut_any n b3 hb3 w
  go_enter Tryd.func55, Tryd.ntmps55
  go_wp2
  go_loopw [5, 10] (fun v i wr => ∃ k : Nat, k ≤ 4 ∧ i = .int .i64 k ∧ v = .int .i64 (partF 0 (pieceI wd b0 a0 f0) (pieceI wd b1 a1 f1) (pieceI wd b2 a2 f2) (pieceI wd b3 a3 f3) k) ∧ wr.cell? ⟨w.heap.size, 3, none⟩ = some (.int .i64 r3) ∧ wr.cell? ⟨w.heap.size, 4, none⟩ = some (.int .i64 r4) ∧ Below w.heap.size w wr ∧ w.heap.size + 1 ≤ wr.heap.size) (fun _ i _ => 4 - (intOf i).toNat)
  case atStart => exact ⟨0, by omega, rfl, rfl, by simp, by simp, (Below.refl _ _).alloc (Nat.le_refl _) _, by simp⟩
  case round =>
    obtain ⟨k, hk, rfl, rfl, hc3, hc, hbr, hsz⟩ := hrel
    have hzz : w.heap.size < wr.heap.size := by omega
    have HB : Hid (Below w.heap.size w wr) := hbr
    have HZ : Hid (w.heap.size + 1 ≤ wr.heap.size) := hsz
    clear hbr hsz
    rcases (show k = 0 ∨ k = 1 ∨ k = 2 ∨ k = 3 ∨ k = 4 by omega) with rfl | rfl | rfl | rfl | rfl
    · have HQ : Hid (bits .or .i64 (partF 0 (pieceI wd b0 a0 f0) (pieceI wd b1 a1 f1) (pieceI wd b2 a2 f2) (pieceI wd b3 a3 f3) 0) (wrap64 (wd / 2 ^ a0 % 2 ^ b0 * 2 ^ f0)) = partF 0 (pieceI wd b0 a0 f0) (pieceI wd b1 a1 f1) (pieceI wd b2 a2 f2) (pieceI wd b3 a3 f3) (0 + 1)) := rfl
      generalize partF 0 (pieceI wd b0 a0 f0) (pieceI wd b1 a1 f1) (pieceI wd b2 a2 f2) (pieceI wd b3 a3 f3) 0 = Q at HQ
      have hix := fun w => index_piece0 b0 f0 a0 b1 f1 a1 b2 f2 a2 b3 f3 a3 w
      go_wp2
      go_quiet (first | (go_at_call 41; exact Calls.quiet_of_same (c0 _ _)))
      go_wp2
      go_roundw
      case rel => exact ⟨0 + 1, by omega, rfl, by rw [← HQ.out], cell_alloc hc3 _, cell_alloc hc _, below_drewN (HB.out.alloc (Nat.le_of_lt hzz) _) _, by have := HZ.out; simp; omega⟩
      case measure => simp [intOf]
    · have HQ : Hid (bits .or .i64 (partF 0 (pieceI wd b0 a0 f0) (pieceI wd b1 a1 f1) (pieceI wd b2 a2 f2) (pieceI wd b3 a3 f3) 1) (wrap64 (wd / 2 ^ a1 % 2 ^ b1 * 2 ^ f1)) = partF 0 (pieceI wd b0 a0 f0) (pieceI wd b1 a1 f1) (pieceI wd b2 a2 f2) (pieceI wd b3 a3 f3) (1 + 1)) := rfl
      generalize partF 0 (pieceI wd b0 a0 f0) (pieceI wd b1 a1 f1) (pieceI wd b2 a2 f2) (pieceI wd b3 a3 f3) 1 = Q at HQ
      have hix := fun w => index_piece1 b0 f0 a0 b1 f1 a1 b2 f2 a2 b3 f3 a3 w
      go_wp2
      go_quiet (first | (go_at_call 41; exact Calls.quiet_of_same (c1 _ _)))
      go_wp2
      go_roundw
      case rel => exact ⟨1 + 1, by omega, rfl, by rw [← HQ.out], cell_alloc hc3 _, cell_alloc hc _, below_drewN (HB.out.alloc (Nat.le_of_lt hzz) _) _, by have := HZ.out; simp; omega⟩
      case measure => simp [intOf]
    · have HQ : Hid (bits .or .i64 (partF 0 (pieceI wd b0 a0 f0) (pieceI wd b1 a1 f1) (pieceI wd b2 a2 f2) (pieceI wd b3 a3 f3) 2) (wrap64 (wd / 2 ^ a2 % 2 ^ b2 * 2 ^ f2)) = partF 0 (pieceI wd b0 a0 f0) (pieceI wd b1 a1 f1) (pieceI wd b2 a2 f2) (pieceI wd b3 a3 f3) (2 + 1)) := rfl
      generalize partF 0 (pieceI wd b0 a0 f0) (pieceI wd b1 a1 f1) (pieceI wd b2 a2 f2) (pieceI wd b3 a3 f3) 2 = Q at HQ
      have hix := fun w => index_piece2 b0 f0 a0 b1 f1 a1 b2 f2 a2 b3 f3 a3 w
      go_wp2
      go_quiet (first | (go_at_call 41; exact Calls.quiet_of_same (c2 _ _)))
      go_wp2
      go_roundw
      case rel => exact ⟨2 + 1, by omega, rfl, by rw [← HQ.out], cell_alloc hc3 _, cell_alloc hc _, below_drewN (HB.out.alloc (Nat.le_of_lt hzz) _) _, by have := HZ.out; simp; omega⟩
      case measure => simp [intOf]
    · have HQ : Hid (bits .or .i64 (partF 0 (pieceI wd b0 a0 f0) (pieceI wd b1 a1 f1) (pieceI wd b2 a2 f2) (pieceI wd b3 a3 f3) 3) (wrap64 (wd / 2 ^ a3 % 2 ^ b3 * 2 ^ f3)) = partF 0 (pieceI wd b0 a0 f0) (pieceI wd b1 a1 f1) (pieceI wd b2 a2 f2) (pieceI wd b3 a3 f3) (3 + 1)) := rfl
      generalize partF 0 (pieceI wd b0 a0 f0) (pieceI wd b1 a1 f1) (pieceI wd b2 a2 f2) (pieceI wd b3 a3 f3) 3 = Q at HQ
      have hix := fun w => index_piece3 b0 f0 a0 b1 f1 a1 b2 f2 a2 b3 f3 a3 w
      go_wp2
      go_quiet (first | (go_at_call 41; exact Calls.quiet_of_same (c3 _ _)))
      go_wp2
      go_roundw
      case rel => exact ⟨3 + 1, by omega, rfl, by rw [← HQ.out], cell_alloc hc3 _, cell_alloc hc _, below_drewN (HB.out.alloc (Nat.le_of_lt hzz) _) _, by have := HZ.out; simp; omega⟩
      case measure => simp [intOf]
    · obtain ⟨Q, hQ⟩ : ∃ Q, Q = partF 0 (pieceI wd b0 a0 f0) (pieceI wd b1 a1 f1) (pieceI wd b2 a2 f2) (pieceI wd b3 a3 f3) 4 := ⟨_, rfl⟩
      have HQ : Hid (partF 0 (pieceI wd b0 a0 f0) (pieceI wd b1 a1 f1) (pieceI wd b2 a2 f2) (pieceI wd b3 a3 f3) 4 = Q) := hQ.symm
      rw [← hQ]
      clear hQ
      by_cases hlt : r4 < Q
      · go_wp2
        go_ret
        exact ⟨by rw [HQ.out, immG, if_pos hlt]; rfl, HB.out⟩
      · go_wp2
        go_ret
        exact ⟨by rw [HQ.out, immG, if_neg (by omega)]; rfl, HB.out⟩
end Go.Proofs.YtapjfiihfgndeaaDoor
