/- Contracts of tierlineref.bits and tierlineref.ofBits: a number as a row of 64 bits. -/
import Derived.Test.YtiaammieldfkcaaDoorGroupB
import Derived.Deep.WholeRow
import Derived.Deep.MidRow
import Derived.OneCell
import Derived.Below
import Derived.Handy
namespace Go.Proofs.YtiaammieldfkcaaDoor
open Go Go.RowKit

/-- The bits of a number, as cells, as far as they are told. -/
def bitsPart (x : BitVec 64) (k : Nat) : Array Value := ((List.range 64).map fun i => Value.bool (decide (i < k) && x.getLsbD i)).toArray
theorem bitsPart_size (x : BitVec 64) (k : Nat) : (bitsPart x k).size = 64 := by simp [bitsPart]
theorem bitsPart_get (x : BitVec 64) (k i : Nat) (h : i < 64) : (bitsPart x k)[i]? = some (.bool (decide (i < k) && x.getLsbD i)) := by simp [bitsPart, h]
theorem bitsPart_succ (x : BitVec 64) (k : Nat) (_h : k < 64) : (bitsPart x k).setIfInBounds k (.bool (x.getLsbD k)) = bitsPart x (k + 1) := by
  apply Array.ext_getElem?
  intro i
  by_cases hi : i < 64
  · rw [Array.getElem?_setIfInBounds, bitsPart_get x k i hi, bitsPart_get x (k + 1) i hi, bitsPart_size]
    by_cases e : k = i
    · subst e; simp [hi]
    · rw [if_neg e]
      have : decide (i < k) = decide (i < k + 1) := decide_eq_decide.2 (by omega)
      rw [this]
  · rw [Array.getElem?_eq_none (by simp [bitsPart_size]; omega), Array.getElem?_eq_none (by simp [bitsPart_size]; omega)]
theorem bitsPart_one (x : BitVec 64) (k : Nat) : (bitsPart x k).all (·.oneCell') = true := by
  rw [Array.all_eq_true_iff_forall_mem]
  intro v hv
  simp [bitsPart] at hv
  obtain ⟨i, _, rfl⟩ := hv
  rfl
theorem below_setRow {B g : Nat} {w w' : World} {old : Array Value} {t : TypeId} (h : Below B w w') (hB : B ≤ g) (_hg : w'.heap[g]? = some (.cells old t (0, 0))) (cs : Array Value) : Below B w (w'.setRow g cs) :=
  h.trans ⟨rfl, rfl, rfl, by simp, fun k hk => by simp only [World.setRow, Array.getElem?_modify]; rw [if_neg (by omega)]⟩
def bitsAll (x : BitVec 64) : Array Value := bitsPart x 64

theorem shr_toInt (x : BitVec 64) (k : Nat) : x.toInt / 2 ^ k = (x.sshiftRight k).toInt := by
  rw [BitVec.toInt_sshiftRight, Int.shiftRight_eq_div_pow]; simp
theorem lsb_toInt (x : BitVec 64) : x.toInt % 2 = if x.getLsbD 0 then 1 else 0 := by
  have h1 : x.getLsbD 0 = decide (x.toNat % 2 = 1) := by
    show x.toNat.testBit 0 = _
    rw [Nat.testBit_zero]
  rw [h1, BitVec.toInt_eq_toNat_cond]
  by_cases hb : x.toNat % 2 = 1
  · simp [hb]; split <;> omega
  · simp [hb]; split <;> omega
theorem shr_lsb (x : BitVec 64) (k : Nat) (h : k < 64) : (x.toInt / 2 ^ k) % 2 = if x.getLsbD k then 1 else 0 := by
  rw [shr_toInt, lsb_toInt, BitVec.getLsbD_sshiftRight]
  have : ¬ 64 ≤ 0 := by omega
  simp [h]
theorem bits_one (n : Int) : bits .and .i64 n 1 = n % 2 := by
  show IntKind.i64.wrap ((BitVec.ofInt 64 n &&& BitVec.ofInt 64 1).toNat : Int) = _
  have e : (BitVec.ofInt 64 n &&& BitVec.ofInt 64 1).toNat = (n % 2).toNat := by
    rw [BitVec.toNat_and, BitVec.toNat_ofInt]
    have e2 : (BitVec.ofInt 64 1).toNat = 2 ^ 1 - 1 := by decide
    rw [e2, Nat.and_two_pow_sub_one_eq_mod]
    omega
  rw [e, wrap_small _ (by omega)]
  omega
/-- One step of the loop, as numbers. -/
theorem bits_step (x : BitVec 64) (k : Nat) (hk : k < 64) : ∃ n m r : Int, n = x.toInt / 2 ^ k ∧ m = x.toInt / 2 ^ (k + 1) ∧ r = n % 2 ∧ -9223372036854775808 ≤ n ∧ n ≤ 9223372036854775807 ∧ n - r = 2 * m ∧ 0 ≤ r ∧ r < 2 ∧ n.tmod 2 = (if n < 0 then -r else r) ∧ (r = 0 ↔ x.getLsbD k = false) := by
  refine ⟨_, _, _, rfl, rfl, rfl, ?_, ?_, ?_, ?_, ?_, ?_, ?_⟩
  · rw [shr_toInt]; exact BitVec.le_toInt _
  · rw [shr_toInt]; have := BitVec.toInt_lt (x := x.sshiftRight k); have e : (2 : Int) ^ (64 - 1) = 9223372036854775808 := by decide
    rw [e] at this; omega
  · have e : x.toInt / 2 ^ (k + 1) = x.toInt / 2 ^ k / 2 := by rw [Int.pow_succ, Int.ediv_ediv_of_nonneg (Int.pow_nonneg (by decide))]
    rw [e]; omega
  · omega
  · omega
  · generalize x.toInt / 2 ^ k = n
    by_cases h : n < 0
    · rw [if_pos h]
      have e := Int.neg_tmod n 2
      have e2 : (-n).tmod 2 = (-n) % 2 := Int.tmod_eq_emod_of_nonneg (by omega)
      omega
    · rw [if_neg h, Int.tmod_eq_emod_of_nonneg (by omega)]
  · rw [shr_lsb x k hk]
    cases x.getLsbD k <;> simp

theorem sizes64 : (Tryd.prog.info? 80).map (·.size) = some 64 := by kernel_rfl

set_option maxRecDepth 100000 in
theorem rbits_any (x : BitVec 64) (w : World) :
    Calls Tryd.prog 51 #[.int .i64 x.toInt] w fun e w' => e = .returned (.agg (bitsAll x)) ∧ Below w.heap.size w w' := by
  have hz : bitsPart x 0 = (List.replicate 64 (Value.bool false)).toArray := by
    apply Array.ext_getElem?
    intro i
    by_cases hi : i < 64
    · rw [bitsPart_get x 0 i hi, List.getElem?_toArray, List.getElem?_replicate, if_pos hi]; simp
    · rw [Array.getElem?_eq_none (by simp [bitsPart_size]; omega), Array.getElem?_eq_none (by simp; omega)]
  go_enter Tryd.func51, Tryd.ntmps51
  go_wp2
  go_loopw [0, 4] (fun n i wr => ∃ k : Nat, k ≤ 64 ∧ i = .int .i64 k ∧ n = .int .i64 (x.toInt / 2 ^ k) ∧ wr.heap[w.heap.size + 1]? = some (.cells (bitsPart x k) 80 (0, 0)) ∧ wr.heap[w.heap.size]? = some (.cells (bitsPart x 0) 80 (0, 0)) ∧ Below w.heap.size w wr) (fun _ i _ => 64 - (intOf i).toNat)
  case atStart => exact ⟨0, by omega, rfl, by simp, by rw [hz]; exact heap_alloc2_new _ _ _, by rw [hz]; exact heap_alloc2_old _ _ _, ((Below.refl _ _).alloc (Nat.le_refl _) _).alloc (by simp) _⟩
  case round =>
    obtain ⟨k, hk, rfl, rfl, h1, h0, hb⟩ := hrel
    clear hz
    by_cases hlt : k < 64
    · obtain ⟨n, m, r, hn, hm, hr, n0, n1, h2, r0, r1, htm, hbit⟩ := bits_step x k hlt
      have hk64 : (k : Int) < 64 := by omega
      have c0 : wr.cell? ⟨w.heap.size + 1, k, none⟩ = some (.bool (decide (k < k) && x.getLsbD k)) := by rw [cell_of_row _ _ _ _ _ _ h1, bitsPart_get x k k hlt]
      have f0 : wr.frozen? ⟨w.heap.size + 1, k, none⟩ = false := frozen_of_row _ _ _ _ _ h1
      have hand : bits .and .i64 n 1 = r := by rw [bits_one, hr]
      have hdiv : (2 * m).tdiv 2 = m := by rw [Int.mul_comm]; exact Int.mul_tdiv_cancel m (by decide)
      have H1 : Hid (wr.heap[w.heap.size + 1]? = some (.cells (bitsPart x k) 80 (0, 0))) := h1
      have H0 : Hid (wr.heap[w.heap.size]? = some (.cells (bitsPart x 0) 80 (0, 0))) := h0
      have HB : Hid (Below w.heap.size w wr) := hb
      have HM : Hid (m = x.toInt / 2 ^ (k + 1)) := hm
      have hw1 : -9223372036854775808 ≤ n - r := by omega
      have hw2 : n - r ≤ 9223372036854775807 := by omega
      rw [← hn]
      clear hn hm hr h1 h0 hb
      cases hbv : x.getLsbD k
      · have ht : n.tmod 2 = 0 := by have := hbit.2 hbv; rw [htm]; split <;> omega
        rw [hbv] at c0
        have HBV : Hid (x.getLsbD k = false) := hbv
        clear hbit htm hbv
        go_wp2
        go_roundw
        case rel => exact ⟨k + 1, by omega, by go_num, by rw [HM.out], by rw [heap_setCell_same _ _ _ _ _ _ H1.out, ← bitsPart_succ x k hlt, HBV.out], by rw [heap_setCell_other _ _ _ _ (by simp)]; exact H0.out, HB.out.setCell (by simp) _⟩
        case measure => simp [intOf]; omega
      · have ht : ¬ n.tmod 2 = 0 := by
          intro h
          rw [htm] at h
          have : r = 0 := by split at h <;> omega
          have := hbit.1 this
          rw [hbv] at this; cases this
        rw [hbv] at c0
        have HBV : Hid (x.getLsbD k = true) := hbv
        clear hbit htm hbv
        go_wp2
        go_roundw
        case rel => exact ⟨k + 1, by omega, by go_num, by rw [HM.out], by rw [heap_setCell_same _ _ _ _ _ _ H1.out, ← bitsPart_succ x k hlt, HBV.out, show (n.tmod 2 != 0) = true by simpa using ht], by rw [heap_setCell_other _ _ _ _ (by simp)]; exact H0.out, HB.out.setCell (by simp) _⟩
        case measure => simp [intOf]; omega
    · obtain rfl : k = 64 := by omega
      have hs : (Tryd.prog.info? 80).map (·.size) = some (bitsPart x 64).size := by rw [bitsPart_size]; exact sizes64
      have H1 : Hid (wr.heap[w.heap.size + 1]? = some (.cells (bitsPart x 64) 80 (0, 0))) := h1
      have H0 : Hid (wr.heap[w.heap.size]? = some (.cells (bitsPart x 0) 80 (0, 0))) := h0
      have HB : Hid (Below w.heap.size w wr) := hb
      clear h1 h0 hb
      have e64 : ((64 : Nat) : Int) = 64 := rfl
      rw [e64]
      go_wp2_with (first
        | (refine wpList_load_row rfl _ _ rfl _ rfl _ _ _ _ H1.out Tryd.underlying80 rfl hs ?_)
        | (refine wpList_store_row rfl _ _ _ rfl _ _ rfl rfl _ _ H0.out hs (by simp [bitsPart_size]) (bitsPart_one x 64) ?_))
      refine bodyPost_ret (results_cell_row rfl _ _ w.heap.size 80 (bitsPart x 64) (0, 0) _ rfl (setRow_heap _ _ _ _ _ _ H0.out) Tryd.underlying80 rfl hs) rfl ⟨rfl, ?_⟩
      exact below_setRow HB.out (Nat.le_refl _) H0.out _
end Go.Proofs.YtiaammieldfkcaaDoor
