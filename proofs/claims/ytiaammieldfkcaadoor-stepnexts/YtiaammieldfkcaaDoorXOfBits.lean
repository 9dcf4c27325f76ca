/- Contract of tierlineref.ofBits. -/
import Derived.Test.YtiaammieldfkcaaDoorXBitRow
namespace Go.Proofs.YtiaammieldfkcaaDoor
open Go Go.RowKit

/-- The upper bits, as a number. -/
def upper (y : BitVec 64) (k : Nat) : Int := wrap64 (y.toNat / 2 ^ (64 - k) : Nat)
theorem upper_last (y : BitVec 64) : upper y 64 = y.toInt := by
  unfold upper
  rw [wrap64_bv]
  have : y.toNat / 2 ^ (64 - 64) = y.toNat := by rw [Nat.sub_self, Nat.pow_zero, Nat.div_one]
  rw [this, BitVec.ofInt_natCast, BitVec.ofNat_toNat, BitVec.setWidth_eq]
theorem wrap_wrap_add (a b : Int) : wrap64 (wrap64 a + wrap64 b) = wrap64 (a + b) := by
  rw [wrap64_bv a, wrap64_bv b, wrap_add_bv, wrap64_bv, BitVec.ofInt_add]
theorem upper_step (y : BitVec 64) (k : Nat) (h : k < 64) : (y.getLsbD (63 - k) = false → wrap64 (upper y k + upper y k) = upper y (k + 1)) ∧ (y.getLsbD (63 - k) = true → wrap64 (wrap64 (upper y k + upper y k) + 1) = upper y (k + 1)) := by
  have e1 : y.getLsbD (63 - k) = decide (y.toNat / 2 ^ (63 - k) % 2 = 1) := by
    show y.toNat.testBit (63 - k) = _
    rw [Nat.testBit_eq_decide_div_mod_eq]
  have e2 : y.toNat / 2 ^ (64 - k) = y.toNat / 2 ^ (63 - k) / 2 := by
    rw [show 64 - k = 63 - k + 1 by omega, Nat.pow_succ, Nat.div_div_eq_div_mul]
  have e3 : 64 - (k + 1) = 63 - k := by omega
  unfold upper
  rw [e1, e2, e3]
  generalize y.toNat / 2 ^ (63 - k) = h'
  constructor
  · intro hb
    have : ¬ h' % 2 = 1 := by simpa using hb
    rw [wrap_wrap_add]
    have e : ((h' / 2 : Nat) : Int) + ((h' / 2 : Nat) : Int) = (h' : Int) := by omega
    rw [e]
  · intro hb
    have : h' % 2 = 1 := by simpa using hb
    have o : (1 : Int) = wrap64 1 := by unfold wrap64; omega
    rw [wrap_wrap_add, o, wrap_wrap_add]
    have e : ((h' / 2 : Nat) : Int) + ((h' / 2 : Nat) : Int) + 1 = (h' : Int) := by omega
    rw [e]

set_option maxRecDepth 100000 in
theorem ofBits_any (y : BitVec 64) (w : World) :
    Calls Tryd.prog 52 #[.agg (bitsAll y)] w fun e w' => e = .returned (.int .i64 y.toInt) ∧ Below w.heap.size w w' := by
  have hget := bitsPart_get y 64
  have hg : (w.alloc (.cells (bitsAll y) 80)).heap[w.heap.size]? = some (.cells (bitsAll y) 80) := heap_alloc_last w _
  have HL : Hid (upper y 64 = y.toInt) := upper_last y
  have H0 : Hid (upper y 0 = 0) := by
    show _ = _
    unfold upper
    have : y.toNat / 2 ^ (64 - 0) = 0 := Nat.div_eq_of_lt y.isLt
    rw [this]; unfold wrap64; omega
  have HS : Hid (∀ k, k < 64 → (y.getLsbD (63 - k) = false → wrap64 (upper y k + upper y k) = upper y (k + 1)) ∧ (y.getLsbD (63 - k) = true → wrap64 (wrap64 (upper y k + upper y k) + 1) = upper y (k + 1))) := upper_step y
  have HC : Hid (∀ k, k < 64 → (w.alloc (.cells (bitsAll y) 80)).cell? ⟨w.heap.size, 63 - k, none⟩ = some (.bool (y.getLsbD (63 - k)))) := fun k hk => by
    rw [cell_of_row _ _ _ _ _ _ hg]
    have := hget (63 - k) (by omega)
    rw [show bitsAll y = bitsPart y 64 from rfl, this]
    simp; omega
  generalize y.toInt = Y at HL
  clear hget hg
  generalize bitsAll y = cs at HC
  go_enter Tryd.func52, Tryd.ntmps52
  go_wp2
  go_loop [3, 4] (fun n i => ∃ k : Nat, k ≤ 64 ∧ i = .int .i64 (63 - (k : Int)) ∧ n = .int .i64 (upper y k)) (fun _ i => (intOf i + 1).toNat)
  case atStart => exact ⟨0, by omega, by go_num, by rw [H0.out]⟩
  case round =>
    obtain ⟨k, hk, rfl, rfl⟩ := hrel
    by_cases hlt : k < 64
    · have c0 := HC.out k hlt
      obtain ⟨s0, s1⟩ := HS.out k hlt
      have e1 : (63 - (k : Int)) = ((63 - k : Nat) : Int) := by omega
      have hj : ((63 - k : Nat) : Int) < 64 := by omega
      rw [e1]
      have HE : Hid (∀ z : Int, z = ((63 - k : Nat) : Int) - 1 → z = 63 - ((k + 1 : Nat) : Int)) := fun z hz => by omega
      generalize 63 - k = j at c0 s0 s1 hj HE
      clear e1
      cases hbv : y.getLsbD j
      · have s2 := s0 hbv
        rw [hbv] at c0
        clear s0 s1 hbv
        have H2 : Hid (_ = upper y (k + 1)) := s2
        clear s2
        go_wp2
        go_round
        case rel => exact ⟨k + 1, by omega, by rw [HE.out _ rfl], by rw [H2.out]⟩
        case measure => simp [intOf]
      · have s2 := s1 hbv
        rw [hbv] at c0
        clear s0 s1 hbv
        have H2 : Hid (_ = upper y (k + 1)) := s2
        clear s2
        go_wp2
        go_round
        case rel => exact ⟨k + 1, by omega, by rw [HE.out _ rfl], by rw [H2.out]⟩
        case measure => simp [intOf]
    · obtain rfl : k = 64 := by omega
      rw [HL.out]
      have e64 : 63 - ((64 : Nat) : Int) = -1 := by decide
      rw [e64]
      go_wp2
      go_ret
      exact ⟨rfl, by go_grown⟩
end Go.Proofs.YtiaammieldfkcaaDoor
