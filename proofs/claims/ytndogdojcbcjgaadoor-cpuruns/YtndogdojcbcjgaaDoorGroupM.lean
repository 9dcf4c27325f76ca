/- Texts put together: BitRow, OfBits, RMade, RMadeAnd, RMadeOr, RMadeXor, RMadeShl, RMadeSar, LawMakes. -/
import Derived.Test.YtndogdojcbcjgaaDoorGroupB
import Derived.Deep.WholeRow
import Derived.Deep.MidRow
import Derived.OneCell
import Derived.Below
import Derived.Handy
/- Contracts of tierlineref.bits and tierlineref.ofBits: a number as a row of 64 bits. -/
namespace Go.Proofs.YtndogdojcbcjgaaDoor
open Go Go.RowKit

/-- The bits of a number, as cells, as far as they are told. -/
def bitsPart (x : BitVec 64) (k : Nat) : Array Value := ((List.range 64).map fun i => Value.bool (decide (i < k) && x.getLsbD i)).toArray
theorem bitsPart_size (x : BitVec 64) (k : Nat) : (bitsPart x k).size = 64 := by simp [bitsPart]
theorem bitsPart_get (x : BitVec 64) (k i : Nat) (h : i < 64) : (bitsPart x k)[i]? = some (.bool (decide (i < k) && x.getLsbD i)) := by simp [bitsPart, h]
theorem bitsPart_succ (x : BitVec 64) (k : Nat) (_h : k < 64) : (bitsPart x k).setIfInBounds k (.bool (x.getLsbD k)) = bitsPart x (k + 1) := by
  apply Array.ext_getElem?
  intro i
  by_cases hi : i < 64
  · rw [Array.getElem?_setIfInBounds, bitsPart_get x k i hi, bitsPart_get x (k + 1) i hi, bitsPart_size]
    by_cases e : k = i
    · subst e; simp [hi]
    · rw [if_neg e]
      have : decide (i < k) = decide (i < k + 1) := decide_eq_decide.2 (by omega)
      rw [this]
  · rw [Array.getElem?_eq_none (by simp [bitsPart_size]; omega), Array.getElem?_eq_none (by simp [bitsPart_size]; omega)]
theorem bitsPart_one (x : BitVec 64) (k : Nat) : (bitsPart x k).all (·.oneCell') = true := by
  rw [Array.all_eq_true_iff_forall_mem]
  intro v hv
  simp [bitsPart] at hv
  obtain ⟨i, _, rfl⟩ := hv
  rfl
theorem below_setRow {B g : Nat} {w w' : World} {old : Array Value} {t : TypeId} (h : Below B w w') (hB : B ≤ g) (_hg : w'.heap[g]? = some (.cells old t (0, 0))) (cs : Array Value) : Below B w (w'.setRow g cs) :=
  h.trans ⟨rfl, rfl, rfl, by simp, fun k hk => by simp only [World.setRow, Array.getElem?_modify]; rw [if_neg (by omega)]⟩
def bitsAll (x : BitVec 64) : Array Value := bitsPart x 64

theorem shr_toInt (x : BitVec 64) (k : Nat) : x.toInt / 2 ^ k = (x.sshiftRight k).toInt := by
  rw [BitVec.toInt_sshiftRight, Int.shiftRight_eq_div_pow]; simp
theorem lsb_toInt (x : BitVec 64) : x.toInt % 2 = if x.getLsbD 0 then 1 else 0 := by
  have h1 : x.getLsbD 0 = decide (x.toNat % 2 = 1) := by
    show x.toNat.testBit 0 = _
    rw [Nat.testBit_zero]
  rw [h1, BitVec.toInt_eq_toNat_cond]
  by_cases hb : x.toNat % 2 = 1
  · simp [hb]; split <;> omega
  · simp [hb]; split <;> omega
theorem shr_lsb (x : BitVec 64) (k : Nat) (h : k < 64) : (x.toInt / 2 ^ k) % 2 = if x.getLsbD k then 1 else 0 := by
  rw [shr_toInt, lsb_toInt, BitVec.getLsbD_sshiftRight]
  have : ¬ 64 ≤ 0 := by omega
  simp [h]
theorem bits_one (n : Int) : bits .and .i64 n 1 = n % 2 := by
  show IntKind.i64.wrap ((BitVec.ofInt 64 n &&& BitVec.ofInt 64 1).toNat : Int) = _
  have e : (BitVec.ofInt 64 n &&& BitVec.ofInt 64 1).toNat = (n % 2).toNat := by
    rw [BitVec.toNat_and, BitVec.toNat_ofInt]
    have e2 : (BitVec.ofInt 64 1).toNat = 2 ^ 1 - 1 := by decide
    rw [e2, Nat.and_two_pow_sub_one_eq_mod]
    omega
  rw [e, wrap_small _ (by omega)]
  omega
/-- One step of the loop, as numbers. -/
theorem bits_step (x : BitVec 64) (k : Nat) (hk : k < 64) : ∃ n m r : Int, n = x.toInt / 2 ^ k ∧ m = x.toInt / 2 ^ (k + 1) ∧ r = n % 2 ∧ -9223372036854775808 ≤ n ∧ n ≤ 9223372036854775807 ∧ n - r = 2 * m ∧ 0 ≤ r ∧ r < 2 ∧ n.tmod 2 = (if n < 0 then -r else r) ∧ (r = 0 ↔ x.getLsbD k = false) := by
  refine ⟨_, _, _, rfl, rfl, rfl, ?_, ?_, ?_, ?_, ?_, ?_, ?_⟩
  · rw [shr_toInt]; exact BitVec.le_toInt _
  · rw [shr_toInt]; have := BitVec.toInt_lt (x := x.sshiftRight k); have e : (2 : Int) ^ (64 - 1) = 9223372036854775808 := by decide
    rw [e] at this; omega
  · have e : x.toInt / 2 ^ (k + 1) = x.toInt / 2 ^ k / 2 := by rw [Int.pow_succ, Int.ediv_ediv_of_nonneg (Int.pow_nonneg (by decide))]
    rw [e]; omega
  · omega
  · omega
  · generalize x.toInt / 2 ^ k = n
    by_cases h : n < 0
    · rw [if_pos h]
      have e := Int.neg_tmod n 2
      have e2 : (-n).tmod 2 = (-n) % 2 := Int.tmod_eq_emod_of_nonneg (by omega)
      omega
    · rw [if_neg h, Int.tmod_eq_emod_of_nonneg (by omega)]
  · rw [shr_lsb x k hk]
    cases x.getLsbD k <;> simp

theorem sizes64 : (Tryd.prog.info? 171).map (·.size) = some 64 := by kernel_rfl

set_option maxRecDepth 100000 in
theorem rbits_any (x : BitVec 64) (w : World) :
    Calls Tryd.prog 131 #[.int .i64 x.toInt] w fun e w' => e = .returned (.agg (bitsAll x)) ∧ Below w.heap.size w w' := by
  have hz : bitsPart x 0 = (List.replicate 64 (Value.bool false)).toArray := by
    apply Array.ext_getElem?
    intro i
    by_cases hi : i < 64
    · rw [bitsPart_get x 0 i hi, List.getElem?_toArray, List.getElem?_replicate, if_pos hi]; simp
    · rw [Array.getElem?_eq_none (by simp [bitsPart_size]; omega), Array.getElem?_eq_none (by simp; omega)]
  go_enter Tryd.func131, Tryd.ntmps131
  go_wp2
  go_loopw [0, 4] (fun n i wr => ∃ k : Nat, k ≤ 64 ∧ i = .int .i64 k ∧ n = .int .i64 (x.toInt / 2 ^ k) ∧ wr.heap[w.heap.size + 1]? = some (.cells (bitsPart x k) 171 (0, 0)) ∧ wr.heap[w.heap.size]? = some (.cells (bitsPart x 0) 171 (0, 0)) ∧ Below w.heap.size w wr) (fun _ i _ => 64 - (intOf i).toNat)
  case atStart => exact ⟨0, by omega, rfl, by simp, by rw [hz]; exact heap_alloc2_new _ _ _, by rw [hz]; exact heap_alloc2_old _ _ _, ((Below.refl _ _).alloc (Nat.le_refl _) _).alloc (by simp) _⟩
  case round =>
    obtain ⟨k, hk, rfl, rfl, h1, h0, hb⟩ := hrel
    clear hz
    by_cases hlt : k < 64
    · obtain ⟨n, m, r, hn, hm, hr, n0, n1, h2, r0, r1, htm, hbit⟩ := bits_step x k hlt
      have hk64 : (k : Int) < 64 := by omega
      have c0 : wr.cell? ⟨w.heap.size + 1, k, none⟩ = some (.bool (decide (k < k) && x.getLsbD k)) := by rw [cell_of_row _ _ _ _ _ _ h1, bitsPart_get x k k hlt]
      have f0 : wr.frozen? ⟨w.heap.size + 1, k, none⟩ = false := frozen_of_row _ _ _ _ _ h1
      have hand : bits .and .i64 n 1 = r := by rw [bits_one, hr]
      have hdiv : (2 * m).tdiv 2 = m := by rw [Int.mul_comm]; exact Int.mul_tdiv_cancel m (by decide)
      have H1 : Hid (wr.heap[w.heap.size + 1]? = some (.cells (bitsPart x k) 171 (0, 0))) := h1
      have H0 : Hid (wr.heap[w.heap.size]? = some (.cells (bitsPart x 0) 171 (0, 0))) := h0
      have HB : Hid (Below w.heap.size w wr) := hb
      have HM : Hid (m = x.toInt / 2 ^ (k + 1)) := hm
      have hw1 : -9223372036854775808 ≤ n - r := by omega
      have hw2 : n - r ≤ 9223372036854775807 := by omega
      rw [← hn]
      clear hn hm hr h1 h0 hb
      cases hbv : x.getLsbD k
      · have ht : n.tmod 2 = 0 := by have := hbit.2 hbv; rw [htm]; split <;> omega
        rw [hbv] at c0
        have HBV : Hid (x.getLsbD k = false) := hbv
        clear hbit htm hbv
        go_wp2
        go_roundw
        case rel => exact ⟨k + 1, by omega, by go_num, by rw [HM.out], by rw [heap_setCell_same _ _ _ _ _ _ H1.out, ← bitsPart_succ x k hlt, HBV.out], by rw [heap_setCell_other _ _ _ _ (by simp)]; exact H0.out, HB.out.setCell (by simp) _⟩
        case measure => simp [intOf]; omega
      · have ht : ¬ n.tmod 2 = 0 := by
          intro h
          rw [htm] at h
          have : r = 0 := by split at h <;> omega
          have := hbit.1 this
          rw [hbv] at this; cases this
        rw [hbv] at c0
        have HBV : Hid (x.getLsbD k = true) := hbv
        clear hbit htm hbv
        go_wp2
        go_roundw
        case rel => exact ⟨k + 1, by omega, by go_num, by rw [HM.out], by rw [heap_setCell_same _ _ _ _ _ _ H1.out, ← bitsPart_succ x k hlt, HBV.out, show (n.tmod 2 != 0) = true by simpa using ht], by rw [heap_setCell_other _ _ _ _ (by simp)]; exact H0.out, HB.out.setCell (by simp) _⟩
        case measure => simp [intOf]; omega
    · obtain rfl : k = 64 := by omega
      have hs : (Tryd.prog.info? 171).map (·.size) = some (bitsPart x 64).size := by rw [bitsPart_size]; exact sizes64
      have H1 : Hid (wr.heap[w.heap.size + 1]? = some (.cells (bitsPart x 64) 171 (0, 0))) := h1
      have H0 : Hid (wr.heap[w.heap.size]? = some (.cells (bitsPart x 0) 171 (0, 0))) := h0
      have HB : Hid (Below w.heap.size w wr) := hb
      clear h1 h0 hb
      have e64 : ((64 : Nat) : Int) = 64 := rfl
      rw [e64]
      go_wp2_with (first
        | (refine wpList_load_row rfl _ _ rfl _ rfl _ _ _ _ H1.out Tryd.underlying171 rfl hs ?_)
        | (refine wpList_store_row rfl _ _ _ rfl _ _ rfl rfl _ _ H0.out hs (by simp [bitsPart_size]) (bitsPart_one x 64) ?_))
      refine bodyPost_ret (results_cell_row rfl _ _ w.heap.size 171 (bitsPart x 64) (0, 0) _ rfl (setRow_heap _ _ _ _ _ _ H0.out) Tryd.underlying171 rfl hs) rfl ⟨rfl, ?_⟩
      exact below_setRow HB.out (Nat.le_refl _) H0.out _
end Go.Proofs.YtndogdojcbcjgaaDoor

/- Contract of tierlineref.ofBits. -/
namespace Go.Proofs.YtndogdojcbcjgaaDoor
open Go Go.RowKit

/-- The upper bits, as a number. -/
def upper (y : BitVec 64) (k : Nat) : Int := wrap64 (y.toNat / 2 ^ (64 - k) : Nat)
theorem upper_last (y : BitVec 64) : upper y 64 = y.toInt := by
  unfold upper
  rw [wrap64_bv]
  have : y.toNat / 2 ^ (64 - 64) = y.toNat := by rw [Nat.sub_self, Nat.pow_zero, Nat.div_one]
  rw [this, BitVec.ofInt_natCast, BitVec.ofNat_toNat, BitVec.setWidth_eq]
theorem wrap_wrap_add (a b : Int) : wrap64 (wrap64 a + wrap64 b) = wrap64 (a + b) := by
  rw [wrap64_bv a, wrap64_bv b, wrap_add_bv, wrap64_bv, BitVec.ofInt_add]
theorem upper_step (y : BitVec 64) (k : Nat) (h : k < 64) : (y.getLsbD (63 - k) = false → wrap64 (upper y k + upper y k) = upper y (k + 1)) ∧ (y.getLsbD (63 - k) = true → wrap64 (wrap64 (upper y k + upper y k) + 1) = upper y (k + 1)) := by
  have e1 : y.getLsbD (63 - k) = decide (y.toNat / 2 ^ (63 - k) % 2 = 1) := by
    show y.toNat.testBit (63 - k) = _
    rw [Nat.testBit_eq_decide_div_mod_eq]
  have e2 : y.toNat / 2 ^ (64 - k) = y.toNat / 2 ^ (63 - k) / 2 := by
    rw [show 64 - k = 63 - k + 1 by omega, Nat.pow_succ, Nat.div_div_eq_div_mul]
  have e3 : 64 - (k + 1) = 63 - k := by omega
  unfold upper
  rw [e1, e2, e3]
  generalize y.toNat / 2 ^ (63 - k) = h'
  constructor
  · intro hb
    have : ¬ h' % 2 = 1 := by simpa using hb
    rw [wrap_wrap_add]
    have e : ((h' / 2 : Nat) : Int) + ((h' / 2 : Nat) : Int) = (h' : Int) := by omega
    rw [e]
  · intro hb
    have : h' % 2 = 1 := by simpa using hb
    have o : (1 : Int) = wrap64 1 := by unfold wrap64; omega
    rw [wrap_wrap_add, o, wrap_wrap_add]
    have e : ((h' / 2 : Nat) : Int) + ((h' / 2 : Nat) : Int) + 1 = (h' : Int) := by omega
    rw [e]

set_option maxRecDepth 100000 in
theorem ofBits_any (y : BitVec 64) (w : World) :
    Calls Tryd.prog 132 #[.agg (bitsAll y)] w fun e w' => e = .returned (.int .i64 y.toInt) ∧ Below w.heap.size w w' := by
  have hget := bitsPart_get y 64
  have hg : (w.alloc (.cells (bitsAll y) 171)).heap[w.heap.size]? = some (.cells (bitsAll y) 171) := heap_alloc_last w _
  have HL : Hid (upper y 64 = y.toInt) := upper_last y
  have H0 : Hid (upper y 0 = 0) := by
    show _ = _
    unfold upper
    have : y.toNat / 2 ^ (64 - 0) = 0 := Nat.div_eq_of_lt y.isLt
    rw [this]; unfold wrap64; omega
  have HS : Hid (∀ k, k < 64 → (y.getLsbD (63 - k) = false → wrap64 (upper y k + upper y k) = upper y (k + 1)) ∧ (y.getLsbD (63 - k) = true → wrap64 (wrap64 (upper y k + upper y k) + 1) = upper y (k + 1))) := upper_step y
  have HC : Hid (∀ k, k < 64 → (w.alloc (.cells (bitsAll y) 171)).cell? ⟨w.heap.size, 63 - k, none⟩ = some (.bool (y.getLsbD (63 - k)))) := fun k hk => by
    rw [cell_of_row _ _ _ _ _ _ hg]
    have := hget (63 - k) (by omega)
    rw [show bitsAll y = bitsPart y 64 from rfl, this]
    simp; omega
  generalize y.toInt = Y at HL
  clear hget hg
  generalize bitsAll y = cs at HC
  go_enter Tryd.func132, Tryd.ntmps132
  go_wp2
  go_loop [3, 4] (fun n i => ∃ k : Nat, k ≤ 64 ∧ i = .int .i64 (63 - (k : Int)) ∧ n = .int .i64 (upper y k)) (fun _ i => (intOf i + 1).toNat)
  case atStart => exact ⟨0, by omega, by go_num, by rw [H0.out]⟩
  case round =>
    obtain ⟨k, hk, rfl, rfl⟩ := hrel
    by_cases hlt : k < 64
    · have c0 := HC.out k hlt
      obtain ⟨s0, s1⟩ := HS.out k hlt
      have e1 : (63 - (k : Int)) = ((63 - k : Nat) : Int) := by omega
      have hj : ((63 - k : Nat) : Int) < 64 := by omega
      rw [e1]
      have HE : Hid (∀ z : Int, z = ((63 - k : Nat) : Int) - 1 → z = 63 - ((k + 1 : Nat) : Int)) := fun z hz => by omega
      generalize 63 - k = j at c0 s0 s1 hj HE
      clear e1
      cases hbv : y.getLsbD j
      · have s2 := s0 hbv
        rw [hbv] at c0
        clear s0 s1 hbv
        have H2 : Hid (_ = upper y (k + 1)) := s2
        clear s2
        go_wp2
        go_round
        case rel => exact ⟨k + 1, by omega, by rw [HE.out _ rfl], by rw [H2.out]⟩
        case measure => simp [intOf]
      · have s2 := s1 hbv
        rw [hbv] at c0
        clear s0 s1 hbv
        have H2 : Hid (_ = upper y (k + 1)) := s2
        clear s2
        go_wp2
        go_round
        case rel => exact ⟨k + 1, by omega, by rw [HE.out _ rfl], by rw [H2.out]⟩
        case measure => simp [intOf]
    · obtain rfl : k = 64 := by omega
      rw [HL.out]
      have e64 : 63 - ((64 : Nat) : Int) = -1 := by decide
      rw [e64]
      go_wp2
      go_ret
      exact ⟨rfl, by go_grown⟩
end Go.Proofs.YtndogdojcbcjgaaDoor

/- Contract of tierlineref.Made: the document's own reckoning, op by op. -/
namespace Go.Proofs.YtndogdojcbcjgaaDoor
open Go Go.RowKit

theorem rin_any (n a b : Int) (w : World) :
    Calls Tryd.prog 48 #[.int .i64 n, .int .i64 a, .int .i64 b] w fun e w' => e = .returned (.bool (decide (a ≤ n ∧ n ≤ b))) ∧ w' = w := by
  by_cases h0 : a ≤ n
  · by_cases h1 : n ≤ b
    · have e : decide (a ≤ n ∧ n ≤ b) = true := by simp [h0, h1]
      rw [e]; clear e
      go_enter Tryd.func48, Tryd.ntmps48
      go_wp2
      go_ret
      exact ⟨rfl, rfl⟩
    · have e : decide (a ≤ n ∧ n ≤ b) = false := by simp [h1]
      rw [e]; clear e
      go_enter Tryd.func48, Tryd.ntmps48
      go_wp2
      go_ret
      exact ⟨rfl, rfl⟩
  · have e : decide (a ≤ n ∧ n ≤ b) = false := by simp [h0]
    rw [e]; clear e
    go_enter Tryd.func48, Tryd.ntmps48
    go_wp2
    go_ret
    exact ⟨rfl, rfl⟩

theorem zeros64 (x : BitVec 64) : bitsPart x 0 = (List.replicate 64 (Value.bool false)).toArray := by
  apply Array.ext_getElem?
  intro i
  by_cases hi : i < 64
  · rw [bitsPart_get x 0 i hi, List.getElem?_toArray, List.getElem?_replicate, if_pos hi]; simp
  · rw [Array.getElem?_eq_none (by simp [bitsPart_size]; omega), Array.getElem?_eq_none (by simp; omega)]
/-- The lowest six bits, as far as they are reckoned. -/
def low6 (y : BitVec 64) (k : Nat) : Nat := y.toNat % 64 / 2 ^ (6 - k)
theorem low6_step (y : BitVec 64) (k : Nat) (h : k < 6) : low6 y (k + 1) = low6 y k * 2 + (if y.getLsbD (5 - k) then 1 else 0) ∧ low6 y k < 64 := by
  have e1 : y.getLsbD (5 - k) = decide (y.toNat % 64 / 2 ^ (5 - k) % 2 = 1) := by
    have e : (y.toNat % 64).testBit (5 - k) = y.toNat.testBit (5 - k) := by
      generalize y.toNat = m
      rw [show (64 : Nat) = 2 ^ 6 from rfl, Nat.testBit_mod_two_pow]; simp; omega
    show y.toNat.testBit (5 - k) = _
    rw [← e, Nat.testBit_eq_decide_div_mod_eq]
  have e2 : y.toNat % 64 / 2 ^ (6 - k) = y.toNat % 64 / 2 ^ (5 - k) / 2 := by
    rw [show 6 - k = 5 - k + 1 by omega, Nat.pow_succ, Nat.div_div_eq_div_mul]
  have e3 : 6 - (k + 1) = 5 - k := by omega
  unfold low6
  rw [e1, e2, e3]
  have h6 : y.toNat % 64 / 2 ^ (5 - k) < 64 := Nat.lt_of_le_of_lt (Nat.div_le_self _ _) (Nat.mod_lt _ (by decide))
  generalize y.toNat % 64 / 2 ^ (5 - k) = h' at h6
  constructor
  · by_cases hb : h' % 2 = 1
    · simp [hb]; omega
    · simp [hb]; omega
  · omega
theorem low6_zero (y : BitVec 64) : low6 y 0 = 0 := by
  unfold low6
  exact Nat.div_eq_of_lt (Nat.mod_lt _ (by decide))
theorem low6_last (y : BitVec 64) : low6 y 6 = (y.toInt % 64).toNat := by
  unfold low6
  have e : y.toNat % 64 / 2 ^ (6 - 6) = y.toNat % 64 := by rw [Nat.sub_self, Nat.pow_zero, Nat.div_one]
  rw [e, BitVec.toInt_eq_toNat_cond]
  split <;> omega
theorem part_same (r : BitVec 64) (k : Nat) (h : r.getLsbD k = false) : bitsPart r (k + 1) = bitsPart r k := by
  apply Array.ext_getElem?
  intro i
  by_cases hi : i < 64
  · rw [bitsPart_get r (k + 1) i hi, bitsPart_get r k i hi]
    by_cases e : i = k
    · subst e; simp [h]
    · have : decide (i < k + 1) = decide (i < k) := decide_eq_decide.2 (by omega)
      rw [this]
  · rw [Array.getElem?_eq_none (by simp [bitsPart_size]; omega), Array.getElem?_eq_none (by simp [bitsPart_size]; omega)]

set_option maxRecDepth 100000 in
theorem rmade_set (a b imm : Int) (w : World) :
    Calls Tryd.prog 104 #[.int .i64 1, .int .i64 a, .int .i64 b, .int .i64 imm] w fun e w' => e = .returned (.tuple #[.int .i64 imm, .int .i64 0]) ∧ Below w.heap.size w w' := by
  go_enter Tryd.func104, Tryd.ntmps104
  go_wp2
  all_goals go_ret2
  all_goals exact ⟨rfl, Below.refl _ _⟩
set_option maxRecDepth 100000 in
theorem rmade_add (a b imm : Int) (w : World) :
    Calls Tryd.prog 104 #[.int .i64 2, .int .i64 a, .int .i64 b, .int .i64 imm] w fun e w' => e = .returned (.tuple #[.int .i64 (wrap64 (a + b)), .int .i64 0]) ∧ Below w.heap.size w w' := by
  go_enter Tryd.func104, Tryd.ntmps104
  go_wp2
  all_goals go_ret2
  all_goals exact ⟨rfl, Below.refl _ _⟩
set_option maxRecDepth 100000 in
theorem rmade_sub (a b imm : Int) (w : World) :
    Calls Tryd.prog 104 #[.int .i64 3, .int .i64 a, .int .i64 b, .int .i64 imm] w fun e w' => e = .returned (.tuple #[.int .i64 (wrap64 (a - b)), .int .i64 0]) ∧ Below w.heap.size w w' := by
  go_enter Tryd.func104, Tryd.ntmps104
  go_wp2
  all_goals go_ret2
  all_goals exact ⟨rfl, Below.refl _ _⟩
set_option maxRecDepth 100000 in
theorem rmade_mul (a b imm : Int) (w : World) :
    Calls Tryd.prog 104 #[.int .i64 4, .int .i64 a, .int .i64 b, .int .i64 imm] w fun e w' => e = .returned (.tuple #[.int .i64 (wrap64 (a * b)), .int .i64 0]) ∧ Below w.heap.size w w' := by
  go_enter Tryd.func104, Tryd.ntmps104
  go_wp2
  all_goals go_ret2
  all_goals exact ⟨rfl, Below.refl _ _⟩
set_option maxRecDepth 100000 in
theorem rmade_zero (a b imm : Int) (w : World) (hb : b = 0) :
    Calls Tryd.prog 104 #[.int .i64 5, .int .i64 a, .int .i64 b, .int .i64 imm] w fun e w' => e = .returned (.tuple #[.int .i64 0, .int .i64 9]) ∧ Below w.heap.size w w' := by
  subst hb
  go_enter Tryd.func104, Tryd.ntmps104
  go_wp2
  all_goals go_ret2
  all_goals exact ⟨rfl, Below.refl _ _⟩
set_option maxRecDepth 100000 in
theorem rmade_div (a b imm : Int) (w : World) (hb : ¬ b = 0) :
    Calls Tryd.prog 104 #[.int .i64 5, .int .i64 a, .int .i64 b, .int .i64 imm] w fun e w' => e = .returned (.tuple #[.int .i64 (wrap64 (a.tdiv b)), .int .i64 0]) ∧ Below w.heap.size w w' := by
  go_enter Tryd.func104, Tryd.ntmps104
  go_wp2
  all_goals go_ret2
  all_goals exact ⟨rfl, Below.refl _ _⟩
set_option maxRecDepth 100000 in
theorem rmade_lt (a b imm : Int) (w : World) :
    Calls Tryd.prog 104 #[.int .i64 11, .int .i64 a, .int .i64 b, .int .i64 imm] w fun e w' => e = .returned (.tuple #[.int .i64 (if a < b then 1 else 0), .int .i64 0]) ∧ Below w.heap.size w w' := by
  by_cases h : a < b
  · rw [if_pos h]
    go_enter Tryd.func104, Tryd.ntmps104
    go_wp2
    go_ret2
    exact ⟨rfl, Below.refl _ _⟩
  · rw [if_neg h]
    go_enter Tryd.func104, Tryd.ntmps104
    go_wp2
    go_ret2
    exact ⟨rfl, Below.refl _ _⟩
set_option maxRecDepth 100000 in
theorem rmade_eq (a b imm : Int) (w : World) :
    Calls Tryd.prog 104 #[.int .i64 12, .int .i64 a, .int .i64 b, .int .i64 imm] w fun e w' => e = .returned (.tuple #[.int .i64 (if a = b then 1 else 0), .int .i64 0]) ∧ Below w.heap.size w w' := by
  by_cases h : a = b
  · rw [if_pos h]
    go_enter Tryd.func104, Tryd.ntmps104
    go_wp2
    go_ret2
    exact ⟨rfl, Below.refl _ _⟩
  · rw [if_neg h]
    go_enter Tryd.func104, Tryd.ntmps104
    go_wp2
    go_ret2
    exact ⟨rfl, Below.refl _ _⟩
theorem rmade_none (op a b imm : Int) (w : World) (h : op < 1 ∨ 12 < op) :
    Calls Tryd.prog 104 #[.int .i64 op, .int .i64 a, .int .i64 b, .int .i64 imm] w fun e w' => e = .returned (.tuple #[.int .i64 0, .int .i64 3]) ∧ Below w.heap.size w w' := by
  have hi := fun w => rin_any op 1 12 w
  have e : decide ((1 : Int) ≤ op ∧ op ≤ 12) = false := by simp; omega
  rw [e] at hi
  clear e h
  go_enter Tryd.func104, Tryd.ntmps104
  go_wp2_with (go_at_call 48; refine (hi _).mono ?_; rintro e w' ⟨rfl, hw'⟩; replace hw' := hw'.symm; subst hw')
  go_ret2
  exact ⟨rfl, Below.refl _ _⟩
end Go.Proofs.YtndogdojcbcjgaaDoor

/- tierlineref.Made at the op and: bit by bit. -/
namespace Go.Proofs.YtndogdojcbcjgaaDoor
open Go Go.RowKit

set_option maxRecDepth 100000 in
set_option maxHeartbeats 1000000 in
theorem rmade_and (x y r : BitVec 64) (imm : Int) (w : World) (hr : ∀ k, k < 64 → r.getLsbD k = (x.getLsbD k && y.getLsbD k)) :
    Calls Tryd.prog 104 #[.int .i64 6, .int .i64 x.toInt, .int .i64 y.toInt, .int .i64 imm] w fun e w' => e = .returned (.tuple #[.int .i64 r.toInt, .int .i64 0]) ∧ Below w.heap.size w w' := by
  have hz := zeros64 x
  have hBx := rbits_any x
  have hBy := rbits_any y
  have hO := ofBits_any r
  have hsx : (Tryd.prog.info? 171).map (·.size) = some (bitsAll x).size := by rw [show bitsAll x = bitsPart x 64 from rfl, bitsPart_size]; exact sizes64
  have hsy : (Tryd.prog.info? 171).map (·.size) = some (bitsAll y).size := by rw [show bitsAll y = bitsPart y 64 from rfl, bitsPart_size]; exact sizes64
  have hox : (List.replicate 64 (Value.bool false)).toArray.size = (bitsAll x).size := by rw [show bitsAll x = bitsPart x 64 from rfl, bitsPart_size]; rfl
  have hoy : (List.replicate 64 (Value.bool false)).toArray.size = (bitsAll y).size := by rw [show bitsAll y = bitsPart y 64 from rfl, bitsPart_size]; rfl
  have h1x : (bitsAll x).all (·.oneCell') = true := bitsPart_one x 64
  have h1y : (bitsAll y).all (·.oneCell') = true := bitsPart_one y 64
  have HR0 : Hid (∀ k, k < 64 → r.getLsbD k = (x.getLsbD k && y.getLsbD k)) := hr
  have HXI : Hid (∀ k, k < 64 → (bitsAll x)[k]? = some (.bool (x.getLsbD k))) := fun k hk => by rw [show bitsAll x = bitsPart x 64 from rfl, bitsPart_get x 64 k hk]; simp; omega
  have HYI : Hid (∀ k, k < 64 → (bitsAll y)[k]? = some (.bool (y.getLsbD k))) := fun k hk => by rw [show bitsAll y = bitsPart y 64 from rfl, bitsPart_get y 64 k hk]; simp; omega
  clear hr
  go_enter Tryd.func104, Tryd.ntmps104
  go_wp2_with (first
    | (go_at_call 48; refine (rin_any _ _ _ _).mono ?_; rintro e w' ⟨rfl, hw'⟩; replace hw' := hw'.symm; subst hw')
    | (go_at_call 131; refine (hBx _).mono ?_; rintro e w1 ⟨rfl, hb1⟩; clear hBx)
    | (go_at_call 131; refine (hBy _).mono ?_; rintro e w2 ⟨rfl, hb2⟩; clear hBy)
    | (refine wpList_store_row rfl _ _ _ rfl _ _ rfl rfl _ _ (heap_alloc_last _ _) hsx hox h1x ?_; clear hsx)
    | (refine wpList_store_row rfl _ _ _ rfl _ _ rfl rfl _ _ (heap_alloc_last _ _) hsy hoy h1y ?_; clear hsy))
  rw [World.setRow_alloc_new] at hb2 ⊢
  have h12 : w1.heap.size < w2.heap.size := by have := hb2.size; simp at this; omega
  have h01 : w.heap.size ≤ w1.heap.size := hb1.size
  have HX2 : Hid (w2.heap[w1.heap.size]? = some (.cells (bitsAll x) 171 (0, 0))) := by
    show _ = _
    rw [hb2.block w1.heap.size (by simp)]
    exact heap_alloc_last _ _
  have HW2 : Hid (Below w.heap.size w w2) := (hb1.alloc h01 _).trans (hb2.mono (by simp; omega))
  clear hb1 hb2 hox hoy h1x h1y
  go_loopw [13, 14] (fun s i wr => ∃ k : Nat, k ≤ 6 ∧ i = .int .i64 (5 - (k : Int)) ∧ s = .int .i64 (low6 y k : Nat) ∧ wr.heap[w2.heap.size + 1]? = some (.cells (bitsPart r 0) 171 (0, 0)) ∧ wr.heap[w1.heap.size]? = some (.cells (bitsAll x) 171 (0, 0)) ∧ wr.heap[w2.heap.size]? = some (.cells (bitsAll y) 171 (0, 0)) ∧ Below w.heap.size w wr) (fun _ i _ => (intOf i + 1).toNat)
  case atStart => exact ⟨0, by omega, by go_num, by rw [low6_zero]; rfl, by rw [zeros64 r]; exact heap_alloc2_new _ _ _, by rw [heap_alloc_old _ _ (by simp; omega), heap_alloc_old _ _ h12]; exact HX2.out, heap_alloc2_old _ _ _, (HW2.out.alloc (by omega) _).alloc (by simp; omega) _⟩
  case round =>
    obtain ⟨k, hk, rfl, rfl, h3, h1, h2, hb⟩ := hrel
    have H1 : Hid (wr.heap[w1.heap.size]? = some (.cells (bitsAll x) 171 (0, 0))) := h1
    have H2 : Hid (wr.heap[w2.heap.size]? = some (.cells (bitsAll y) 171 (0, 0))) := h2
    have H3 : Hid (wr.heap[w2.heap.size + 1]? = some (.cells (bitsPart r 0) 171 (0, 0))) := h3
    have HB : Hid (Below w.heap.size w wr) := hb
    clear h1 h2 h3 hb
    by_cases hlt : k < 6
    · obtain ⟨l1, l2⟩ := low6_step y k hlt
      have c0 : wr.cell? ⟨w2.heap.size, 5 - k, none⟩ = some (.bool (y.getLsbD (5 - k))) := by rw [cell_of_row _ _ _ _ _ _ H2.out]; exact HYI.out _ (by omega)
      have e1 : (5 - (k : Int)) = ((5 - k : Nat) : Int) := by omega
      have hj : ((5 - k : Nat) : Int) < 64 := by omega
      have HE : Hid (∀ z : Int, z = ((5 - k : Nat) : Int) - 1 → z = 5 - ((k + 1 : Nat) : Int)) := fun z hz => by omega
      rw [e1]
      have HL : Hid (low6 y (k + 1) = low6 y k * 2 + (if y.getLsbD (5 - k) then 1 else 0)) := l1
      clear l1 e1
      generalize low6 y k = s at l2 HL
      generalize 5 - k = j at c0 hj HE HL
      have sI : (s : Int) < 64 := by omega
      cases hbv : y.getLsbD j
      · rw [hbv] at c0
        have HL2 : Hid ((low6 y (k + 1) : Int) = (s : Int) * 2) := by show _ = _; rw [HL.out, hbv]; simp
        clear hbv HL
        go_wp2
        go_roundw
        case rel => exact ⟨k + 1, by omega, by rw [HE.out _ rfl], by rw [HL2.out], H3.out, H1.out, H2.out, HB.out⟩
        case measure => simp [intOf]
      · rw [hbv] at c0
        have HL2 : Hid ((low6 y (k + 1) : Int) = (s : Int) * 2 + 1) := by show _ = _; rw [HL.out, hbv]; simp
        clear hbv HL
        go_wp2
        go_roundw
        case rel => exact ⟨k + 1, by omega, by rw [HE.out _ rfl], by rw [HL2.out], H3.out, H1.out, H2.out, HB.out⟩
        case measure => simp [intOf]
    · obtain rfl : k = 6 := by omega
      have e6 : 5 - ((6 : Nat) : Int) = -1 := by decide
      have hS : low6 y 6 < 64 := by unfold low6; exact Nat.lt_of_le_of_lt (Nat.div_le_self _ _) (Nat.mod_lt _ (by decide))
      rw [e6]
      clear e6 hk hlt HX2 HW2 hz
      generalize low6 y 6 = S at hS HR0
      have hSI : (S : Int) < 64 := by omega
      go_wp2
      go_loopw [15] (fun i wr => ∃ k : Nat, k ≤ 64 ∧ i = .int .i64 k ∧ wr.heap[w2.heap.size + 1]? = some (.cells (bitsPart r k) 171 (0, 0)) ∧ wr.heap[w1.heap.size]? = some (.cells (bitsAll x) 171 (0, 0)) ∧ wr.heap[w2.heap.size]? = some (.cells (bitsAll y) 171 (0, 0)) ∧ Below w.heap.size w wr) (fun i _ => 64 - (intOf i).toNat)
      case atStart => exact ⟨0, by omega, rfl, H3.out, H1.out, H2.out, HB.out⟩
      case round =>
        clear H1 H2 H3 HB
        obtain ⟨k, hk, rfl, h3, h1, h2, hb⟩ := hrel
        have H1 : Hid (wr.heap[w1.heap.size]? = some (.cells (bitsAll x) 171 (0, 0))) := h1
        have H2 : Hid (wr.heap[w2.heap.size]? = some (.cells (bitsAll y) 171 (0, 0))) := h2
        have H3 : Hid (wr.heap[w2.heap.size + 1]? = some (.cells (bitsPart r k) 171 (0, 0))) := h3
        have HB : Hid (Below w.heap.size w wr) := hb
        clear h1 h2 h3 hb
        generalize hg1 : w1.heap.size = g1 at *
        generalize hg2 : w2.heap.size = g2 at *
        clear hg1 hg2
        by_cases hlt : k < 64
        · have hX : ∀ i, i < 64 → wr.cell? ⟨g1, i, none⟩ = some (.bool (x.getLsbD i)) := fun i hi => by rw [cell_of_row _ _ _ _ _ _ H1.out]; exact HXI.out i hi
          have hY : ∀ i, i < 64 → wr.cell? ⟨g2, i, none⟩ = some (.bool (y.getLsbD i)) := fun i hi => by rw [cell_of_row _ _ _ _ _ _ H2.out]; exact HYI.out i hi
          have hR := HR0.out
          have hk64 : (k : Int) < 64 := by omega
          have C0 : wr.cell? ⟨g2 + 1, k, none⟩ = some (.bool false) := by rw [cell_of_row _ _ _ _ _ _ H3.out, bitsPart_get r k k hlt]; simp
          have F0 : wr.frozen? ⟨g2 + 1, k, none⟩ = false := frozen_of_row _ _ _ _ _ H3.out
          have X := hX k hlt
          have Y := hY k hlt
          have hr := hR k hlt
          cases hbx : x.getLsbD k
          · rw [hbx] at X hr
            have HR : Hid (r.getLsbD k = false) := by show _ = _; rw [hr]; rfl
            clear hbx hr Y hX hY hR
            go_wp2
            go_roundw
            case rel => exact ⟨k + 1, by omega, by go_num, by rw [heap_setCell_same _ _ _ _ _ _ H3.out, ← bitsPart_succ r k hlt, HR.out], by rw [heap_setCell_other _ _ _ _ (by dsimp only; omega)]; exact H1.out, by rw [heap_setCell_other _ _ _ _ (by dsimp only; omega)]; exact H2.out, HB.out.setCell (by dsimp only; omega) _⟩
            case measure => simp [intOf]; omega
          · rw [hbx] at X hr
            have HR : Hid (r.getLsbD k = y.getLsbD k) := by show _ = _; rw [hr]; simp
            clear hbx hr hX hY hR
            generalize y.getLsbD k = yb at Y HR
            go_wp2
            go_roundw
            case rel => exact ⟨k + 1, by omega, by go_num, by rw [heap_setCell_same _ _ _ _ _ _ H3.out, ← bitsPart_succ r k hlt, HR.out], by rw [heap_setCell_other _ _ _ _ (by dsimp only; omega)]; exact H1.out, by rw [heap_setCell_other _ _ _ _ (by dsimp only; omega)]; exact H2.out, HB.out.setCell (by dsimp only; omega) _⟩
            case measure => simp [intOf]; omega
        · obtain rfl : k = 64 := by omega
          have e64 : ((64 : Nat) : Int) = 64 := rfl
          rw [e64]
          have hs : (Tryd.prog.info? 171).map (·.size) = some (bitsPart r 64).size := by rw [bitsPart_size]; exact sizes64
          go_wp2_with (first
            | (refine wpList_load_row rfl _ _ rfl _ rfl _ _ _ _ H3.out Tryd.underlying171 rfl hs ?_)
            | (go_at_call 132; refine (hO _).mono ?_; rintro e w3 ⟨rfl, hb3⟩))
          go_ret2
          exact ⟨rfl, HB.out.trans (hb3.mono HB.out.size)⟩
end Go.Proofs.YtndogdojcbcjgaaDoor

/- tierlineref.Made at the op or: bit by bit. -/
namespace Go.Proofs.YtndogdojcbcjgaaDoor
open Go Go.RowKit

set_option maxRecDepth 100000 in
set_option maxHeartbeats 1000000 in
theorem rmade_or (x y r : BitVec 64) (imm : Int) (w : World) (hr : ∀ k, k < 64 → r.getLsbD k = (x.getLsbD k || y.getLsbD k)) :
    Calls Tryd.prog 104 #[.int .i64 7, .int .i64 x.toInt, .int .i64 y.toInt, .int .i64 imm] w fun e w' => e = .returned (.tuple #[.int .i64 r.toInt, .int .i64 0]) ∧ Below w.heap.size w w' := by
  have hz := zeros64 x
  have hBx := rbits_any x
  have hBy := rbits_any y
  have hO := ofBits_any r
  have hsx : (Tryd.prog.info? 171).map (·.size) = some (bitsAll x).size := by rw [show bitsAll x = bitsPart x 64 from rfl, bitsPart_size]; exact sizes64
  have hsy : (Tryd.prog.info? 171).map (·.size) = some (bitsAll y).size := by rw [show bitsAll y = bitsPart y 64 from rfl, bitsPart_size]; exact sizes64
  have hox : (List.replicate 64 (Value.bool false)).toArray.size = (bitsAll x).size := by rw [show bitsAll x = bitsPart x 64 from rfl, bitsPart_size]; rfl
  have hoy : (List.replicate 64 (Value.bool false)).toArray.size = (bitsAll y).size := by rw [show bitsAll y = bitsPart y 64 from rfl, bitsPart_size]; rfl
  have h1x : (bitsAll x).all (·.oneCell') = true := bitsPart_one x 64
  have h1y : (bitsAll y).all (·.oneCell') = true := bitsPart_one y 64
  have HR0 : Hid (∀ k, k < 64 → r.getLsbD k = (x.getLsbD k || y.getLsbD k)) := hr
  have HXI : Hid (∀ k, k < 64 → (bitsAll x)[k]? = some (.bool (x.getLsbD k))) := fun k hk => by rw [show bitsAll x = bitsPart x 64 from rfl, bitsPart_get x 64 k hk]; simp; omega
  have HYI : Hid (∀ k, k < 64 → (bitsAll y)[k]? = some (.bool (y.getLsbD k))) := fun k hk => by rw [show bitsAll y = bitsPart y 64 from rfl, bitsPart_get y 64 k hk]; simp; omega
  clear hr
  go_enter Tryd.func104, Tryd.ntmps104
  go_wp2_with (first
    | (go_at_call 48; refine (rin_any _ _ _ _).mono ?_; rintro e w' ⟨rfl, hw'⟩; replace hw' := hw'.symm; subst hw')
    | (go_at_call 131; refine (hBx _).mono ?_; rintro e w1 ⟨rfl, hb1⟩; clear hBx)
    | (go_at_call 131; refine (hBy _).mono ?_; rintro e w2 ⟨rfl, hb2⟩; clear hBy)
    | (refine wpList_store_row rfl _ _ _ rfl _ _ rfl rfl _ _ (heap_alloc_last _ _) hsx hox h1x ?_; clear hsx)
    | (refine wpList_store_row rfl _ _ _ rfl _ _ rfl rfl _ _ (heap_alloc_last _ _) hsy hoy h1y ?_; clear hsy))
  rw [World.setRow_alloc_new] at hb2 ⊢
  have h12 : w1.heap.size < w2.heap.size := by have := hb2.size; simp at this; omega
  have h01 : w.heap.size ≤ w1.heap.size := hb1.size
  have HX2 : Hid (w2.heap[w1.heap.size]? = some (.cells (bitsAll x) 171 (0, 0))) := by
    show _ = _
    rw [hb2.block w1.heap.size (by simp)]
    exact heap_alloc_last _ _
  have HW2 : Hid (Below w.heap.size w w2) := (hb1.alloc h01 _).trans (hb2.mono (by simp; omega))
  clear hb1 hb2 hox hoy h1x h1y
  go_loopw [13, 14] (fun s i wr => ∃ k : Nat, k ≤ 6 ∧ i = .int .i64 (5 - (k : Int)) ∧ s = .int .i64 (low6 y k : Nat) ∧ wr.heap[w2.heap.size + 1]? = some (.cells (bitsPart r 0) 171 (0, 0)) ∧ wr.heap[w1.heap.size]? = some (.cells (bitsAll x) 171 (0, 0)) ∧ wr.heap[w2.heap.size]? = some (.cells (bitsAll y) 171 (0, 0)) ∧ Below w.heap.size w wr) (fun _ i _ => (intOf i + 1).toNat)
  case atStart => exact ⟨0, by omega, by go_num, by rw [low6_zero]; rfl, by rw [zeros64 r]; exact heap_alloc2_new _ _ _, by rw [heap_alloc_old _ _ (by simp; omega), heap_alloc_old _ _ h12]; exact HX2.out, heap_alloc2_old _ _ _, (HW2.out.alloc (by omega) _).alloc (by simp; omega) _⟩
  case round =>
    obtain ⟨k, hk, rfl, rfl, h3, h1, h2, hb⟩ := hrel
    have H1 : Hid (wr.heap[w1.heap.size]? = some (.cells (bitsAll x) 171 (0, 0))) := h1
    have H2 : Hid (wr.heap[w2.heap.size]? = some (.cells (bitsAll y) 171 (0, 0))) := h2
    have H3 : Hid (wr.heap[w2.heap.size + 1]? = some (.cells (bitsPart r 0) 171 (0, 0))) := h3
    have HB : Hid (Below w.heap.size w wr) := hb
    clear h1 h2 h3 hb
    by_cases hlt : k < 6
    · obtain ⟨l1, l2⟩ := low6_step y k hlt
      have c0 : wr.cell? ⟨w2.heap.size, 5 - k, none⟩ = some (.bool (y.getLsbD (5 - k))) := by rw [cell_of_row _ _ _ _ _ _ H2.out]; exact HYI.out _ (by omega)
      have e1 : (5 - (k : Int)) = ((5 - k : Nat) : Int) := by omega
      have hj : ((5 - k : Nat) : Int) < 64 := by omega
      have HE : Hid (∀ z : Int, z = ((5 - k : Nat) : Int) - 1 → z = 5 - ((k + 1 : Nat) : Int)) := fun z hz => by omega
      rw [e1]
      have HL : Hid (low6 y (k + 1) = low6 y k * 2 + (if y.getLsbD (5 - k) then 1 else 0)) := l1
      clear l1 e1
      generalize low6 y k = s at l2 HL
      generalize 5 - k = j at c0 hj HE HL
      have sI : (s : Int) < 64 := by omega
      cases hbv : y.getLsbD j
      · rw [hbv] at c0
        have HL2 : Hid ((low6 y (k + 1) : Int) = (s : Int) * 2) := by show _ = _; rw [HL.out, hbv]; simp
        clear hbv HL
        go_wp2
        go_roundw
        case rel => exact ⟨k + 1, by omega, by rw [HE.out _ rfl], by rw [HL2.out], H3.out, H1.out, H2.out, HB.out⟩
        case measure => simp [intOf]
      · rw [hbv] at c0
        have HL2 : Hid ((low6 y (k + 1) : Int) = (s : Int) * 2 + 1) := by show _ = _; rw [HL.out, hbv]; simp
        clear hbv HL
        go_wp2
        go_roundw
        case rel => exact ⟨k + 1, by omega, by rw [HE.out _ rfl], by rw [HL2.out], H3.out, H1.out, H2.out, HB.out⟩
        case measure => simp [intOf]
    · obtain rfl : k = 6 := by omega
      have e6 : 5 - ((6 : Nat) : Int) = -1 := by decide
      have hS : low6 y 6 < 64 := by unfold low6; exact Nat.lt_of_le_of_lt (Nat.div_le_self _ _) (Nat.mod_lt _ (by decide))
      rw [e6]
      clear e6 hk hlt HX2 HW2 hz
      generalize low6 y 6 = S at hS HR0
      have hSI : (S : Int) < 64 := by omega
      go_wp2
      go_loopw [15] (fun i wr => ∃ k : Nat, k ≤ 64 ∧ i = .int .i64 k ∧ wr.heap[w2.heap.size + 1]? = some (.cells (bitsPart r k) 171 (0, 0)) ∧ wr.heap[w1.heap.size]? = some (.cells (bitsAll x) 171 (0, 0)) ∧ wr.heap[w2.heap.size]? = some (.cells (bitsAll y) 171 (0, 0)) ∧ Below w.heap.size w wr) (fun i _ => 64 - (intOf i).toNat)
      case atStart => exact ⟨0, by omega, rfl, H3.out, H1.out, H2.out, HB.out⟩
      case round =>
        clear H1 H2 H3 HB
        obtain ⟨k, hk, rfl, h3, h1, h2, hb⟩ := hrel
        have H1 : Hid (wr.heap[w1.heap.size]? = some (.cells (bitsAll x) 171 (0, 0))) := h1
        have H2 : Hid (wr.heap[w2.heap.size]? = some (.cells (bitsAll y) 171 (0, 0))) := h2
        have H3 : Hid (wr.heap[w2.heap.size + 1]? = some (.cells (bitsPart r k) 171 (0, 0))) := h3
        have HB : Hid (Below w.heap.size w wr) := hb
        clear h1 h2 h3 hb
        generalize hg1 : w1.heap.size = g1 at *
        generalize hg2 : w2.heap.size = g2 at *
        clear hg1 hg2
        by_cases hlt : k < 64
        · have hX : ∀ i, i < 64 → wr.cell? ⟨g1, i, none⟩ = some (.bool (x.getLsbD i)) := fun i hi => by rw [cell_of_row _ _ _ _ _ _ H1.out]; exact HXI.out i hi
          have hY : ∀ i, i < 64 → wr.cell? ⟨g2, i, none⟩ = some (.bool (y.getLsbD i)) := fun i hi => by rw [cell_of_row _ _ _ _ _ _ H2.out]; exact HYI.out i hi
          have hR := HR0.out
          have hk64 : (k : Int) < 64 := by omega
          have C0 : wr.cell? ⟨g2 + 1, k, none⟩ = some (.bool false) := by rw [cell_of_row _ _ _ _ _ _ H3.out, bitsPart_get r k k hlt]; simp
          have F0 : wr.frozen? ⟨g2 + 1, k, none⟩ = false := frozen_of_row _ _ _ _ _ H3.out
          have X := hX k hlt
          have Y := hY k hlt
          have hr := hR k hlt
          cases hbx : x.getLsbD k
          · rw [hbx] at X hr
            have HR : Hid (r.getLsbD k = y.getLsbD k) := by show _ = _; rw [hr]; simp
            clear hbx hr hX hY hR
            generalize y.getLsbD k = yb at Y HR
            go_wp2
            go_roundw
            case rel => exact ⟨k + 1, by omega, by go_num, by rw [heap_setCell_same _ _ _ _ _ _ H3.out, ← bitsPart_succ r k hlt, HR.out], by rw [heap_setCell_other _ _ _ _ (by dsimp only; omega)]; exact H1.out, by rw [heap_setCell_other _ _ _ _ (by dsimp only; omega)]; exact H2.out, HB.out.setCell (by dsimp only; omega) _⟩
            case measure => simp [intOf]; omega
          · rw [hbx] at X hr
            have HR : Hid (r.getLsbD k = true) := by show _ = _; rw [hr]; simp
            clear hbx hr Y hX hY hR
            go_wp2
            go_roundw
            case rel => exact ⟨k + 1, by omega, by go_num, by rw [heap_setCell_same _ _ _ _ _ _ H3.out, ← bitsPart_succ r k hlt, HR.out], by rw [heap_setCell_other _ _ _ _ (by dsimp only; omega)]; exact H1.out, by rw [heap_setCell_other _ _ _ _ (by dsimp only; omega)]; exact H2.out, HB.out.setCell (by dsimp only; omega) _⟩
            case measure => simp [intOf]; omega
        · obtain rfl : k = 64 := by omega
          have e64 : ((64 : Nat) : Int) = 64 := rfl
          rw [e64]
          have hs : (Tryd.prog.info? 171).map (·.size) = some (bitsPart r 64).size := by rw [bitsPart_size]; exact sizes64
          go_wp2_with (first
            | (refine wpList_load_row rfl _ _ rfl _ rfl _ _ _ _ H3.out Tryd.underlying171 rfl hs ?_)
            | (go_at_call 132; refine (hO _).mono ?_; rintro e w3 ⟨rfl, hb3⟩))
          go_ret2
          exact ⟨rfl, HB.out.trans (hb3.mono HB.out.size)⟩
end Go.Proofs.YtndogdojcbcjgaaDoor

/- tierlineref.Made at the op xor: bit by bit. -/
namespace Go.Proofs.YtndogdojcbcjgaaDoor
open Go Go.RowKit

set_option maxRecDepth 100000 in
set_option maxHeartbeats 1000000 in
theorem rmade_xor (x y r : BitVec 64) (imm : Int) (w : World) (hr : ∀ k, k < 64 → r.getLsbD k = (x.getLsbD k != y.getLsbD k)) :
    Calls Tryd.prog 104 #[.int .i64 8, .int .i64 x.toInt, .int .i64 y.toInt, .int .i64 imm] w fun e w' => e = .returned (.tuple #[.int .i64 r.toInt, .int .i64 0]) ∧ Below w.heap.size w w' := by
  have hz := zeros64 x
  have hBx := rbits_any x
  have hBy := rbits_any y
  have hO := ofBits_any r
  have hsx : (Tryd.prog.info? 171).map (·.size) = some (bitsAll x).size := by rw [show bitsAll x = bitsPart x 64 from rfl, bitsPart_size]; exact sizes64
  have hsy : (Tryd.prog.info? 171).map (·.size) = some (bitsAll y).size := by rw [show bitsAll y = bitsPart y 64 from rfl, bitsPart_size]; exact sizes64
  have hox : (List.replicate 64 (Value.bool false)).toArray.size = (bitsAll x).size := by rw [show bitsAll x = bitsPart x 64 from rfl, bitsPart_size]; rfl
  have hoy : (List.replicate 64 (Value.bool false)).toArray.size = (bitsAll y).size := by rw [show bitsAll y = bitsPart y 64 from rfl, bitsPart_size]; rfl
  have h1x : (bitsAll x).all (·.oneCell') = true := bitsPart_one x 64
  have h1y : (bitsAll y).all (·.oneCell') = true := bitsPart_one y 64
  have HR0 : Hid (∀ k, k < 64 → r.getLsbD k = (x.getLsbD k != y.getLsbD k)) := hr
  have HXI : Hid (∀ k, k < 64 → (bitsAll x)[k]? = some (.bool (x.getLsbD k))) := fun k hk => by rw [show bitsAll x = bitsPart x 64 from rfl, bitsPart_get x 64 k hk]; simp; omega
  have HYI : Hid (∀ k, k < 64 → (bitsAll y)[k]? = some (.bool (y.getLsbD k))) := fun k hk => by rw [show bitsAll y = bitsPart y 64 from rfl, bitsPart_get y 64 k hk]; simp; omega
  clear hr
  go_enter Tryd.func104, Tryd.ntmps104
  go_wp2_with (first
    | (go_at_call 48; refine (rin_any _ _ _ _).mono ?_; rintro e w' ⟨rfl, hw'⟩; replace hw' := hw'.symm; subst hw')
    | (go_at_call 131; refine (hBx _).mono ?_; rintro e w1 ⟨rfl, hb1⟩; clear hBx)
    | (go_at_call 131; refine (hBy _).mono ?_; rintro e w2 ⟨rfl, hb2⟩; clear hBy)
    | (refine wpList_store_row rfl _ _ _ rfl _ _ rfl rfl _ _ (heap_alloc_last _ _) hsx hox h1x ?_; clear hsx)
    | (refine wpList_store_row rfl _ _ _ rfl _ _ rfl rfl _ _ (heap_alloc_last _ _) hsy hoy h1y ?_; clear hsy))
  rw [World.setRow_alloc_new] at hb2 ⊢
  have h12 : w1.heap.size < w2.heap.size := by have := hb2.size; simp at this; omega
  have h01 : w.heap.size ≤ w1.heap.size := hb1.size
  have HX2 : Hid (w2.heap[w1.heap.size]? = some (.cells (bitsAll x) 171 (0, 0))) := by
    show _ = _
    rw [hb2.block w1.heap.size (by simp)]
    exact heap_alloc_last _ _
  have HW2 : Hid (Below w.heap.size w w2) := (hb1.alloc h01 _).trans (hb2.mono (by simp; omega))
  clear hb1 hb2 hox hoy h1x h1y
  go_loopw [13, 14] (fun s i wr => ∃ k : Nat, k ≤ 6 ∧ i = .int .i64 (5 - (k : Int)) ∧ s = .int .i64 (low6 y k : Nat) ∧ wr.heap[w2.heap.size + 1]? = some (.cells (bitsPart r 0) 171 (0, 0)) ∧ wr.heap[w1.heap.size]? = some (.cells (bitsAll x) 171 (0, 0)) ∧ wr.heap[w2.heap.size]? = some (.cells (bitsAll y) 171 (0, 0)) ∧ Below w.heap.size w wr) (fun _ i _ => (intOf i + 1).toNat)
  case atStart => exact ⟨0, by omega, by go_num, by rw [low6_zero]; rfl, by rw [zeros64 r]; exact heap_alloc2_new _ _ _, by rw [heap_alloc_old _ _ (by simp; omega), heap_alloc_old _ _ h12]; exact HX2.out, heap_alloc2_old _ _ _, (HW2.out.alloc (by omega) _).alloc (by simp; omega) _⟩
  case round =>
    obtain ⟨k, hk, rfl, rfl, h3, h1, h2, hb⟩ := hrel
    have H1 : Hid (wr.heap[w1.heap.size]? = some (.cells (bitsAll x) 171 (0, 0))) := h1
    have H2 : Hid (wr.heap[w2.heap.size]? = some (.cells (bitsAll y) 171 (0, 0))) := h2
    have H3 : Hid (wr.heap[w2.heap.size + 1]? = some (.cells (bitsPart r 0) 171 (0, 0))) := h3
    have HB : Hid (Below w.heap.size w wr) := hb
    clear h1 h2 h3 hb
    by_cases hlt : k < 6
    · obtain ⟨l1, l2⟩ := low6_step y k hlt
      have c0 : wr.cell? ⟨w2.heap.size, 5 - k, none⟩ = some (.bool (y.getLsbD (5 - k))) := by rw [cell_of_row _ _ _ _ _ _ H2.out]; exact HYI.out _ (by omega)
      have e1 : (5 - (k : Int)) = ((5 - k : Nat) : Int) := by omega
      have hj : ((5 - k : Nat) : Int) < 64 := by omega
      have HE : Hid (∀ z : Int, z = ((5 - k : Nat) : Int) - 1 → z = 5 - ((k + 1 : Nat) : Int)) := fun z hz => by omega
      rw [e1]
      have HL : Hid (low6 y (k + 1) = low6 y k * 2 + (if y.getLsbD (5 - k) then 1 else 0)) := l1
      clear l1 e1
      generalize low6 y k = s at l2 HL
      generalize 5 - k = j at c0 hj HE HL
      have sI : (s : Int) < 64 := by omega
      cases hbv : y.getLsbD j
      · rw [hbv] at c0
        have HL2 : Hid ((low6 y (k + 1) : Int) = (s : Int) * 2) := by show _ = _; rw [HL.out, hbv]; simp
        clear hbv HL
        go_wp2
        go_roundw
        case rel => exact ⟨k + 1, by omega, by rw [HE.out _ rfl], by rw [HL2.out], H3.out, H1.out, H2.out, HB.out⟩
        case measure => simp [intOf]
      · rw [hbv] at c0
        have HL2 : Hid ((low6 y (k + 1) : Int) = (s : Int) * 2 + 1) := by show _ = _; rw [HL.out, hbv]; simp
        clear hbv HL
        go_wp2
        go_roundw
        case rel => exact ⟨k + 1, by omega, by rw [HE.out _ rfl], by rw [HL2.out], H3.out, H1.out, H2.out, HB.out⟩
        case measure => simp [intOf]
    · obtain rfl : k = 6 := by omega
      have e6 : 5 - ((6 : Nat) : Int) = -1 := by decide
      have hS : low6 y 6 < 64 := by unfold low6; exact Nat.lt_of_le_of_lt (Nat.div_le_self _ _) (Nat.mod_lt _ (by decide))
      rw [e6]
      clear e6 hk hlt HX2 HW2 hz
      generalize low6 y 6 = S at hS HR0
      have hSI : (S : Int) < 64 := by omega
      go_wp2
      go_loopw [15] (fun i wr => ∃ k : Nat, k ≤ 64 ∧ i = .int .i64 k ∧ wr.heap[w2.heap.size + 1]? = some (.cells (bitsPart r k) 171 (0, 0)) ∧ wr.heap[w1.heap.size]? = some (.cells (bitsAll x) 171 (0, 0)) ∧ wr.heap[w2.heap.size]? = some (.cells (bitsAll y) 171 (0, 0)) ∧ Below w.heap.size w wr) (fun i _ => 64 - (intOf i).toNat)
      case atStart => exact ⟨0, by omega, rfl, H3.out, H1.out, H2.out, HB.out⟩
      case round =>
        clear H1 H2 H3 HB
        obtain ⟨k, hk, rfl, h3, h1, h2, hb⟩ := hrel
        have H1 : Hid (wr.heap[w1.heap.size]? = some (.cells (bitsAll x) 171 (0, 0))) := h1
        have H2 : Hid (wr.heap[w2.heap.size]? = some (.cells (bitsAll y) 171 (0, 0))) := h2
        have H3 : Hid (wr.heap[w2.heap.size + 1]? = some (.cells (bitsPart r k) 171 (0, 0))) := h3
        have HB : Hid (Below w.heap.size w wr) := hb
        clear h1 h2 h3 hb
        generalize hg1 : w1.heap.size = g1 at *
        generalize hg2 : w2.heap.size = g2 at *
        clear hg1 hg2
        by_cases hlt : k < 64
        · have hX : ∀ i, i < 64 → wr.cell? ⟨g1, i, none⟩ = some (.bool (x.getLsbD i)) := fun i hi => by rw [cell_of_row _ _ _ _ _ _ H1.out]; exact HXI.out i hi
          have hY : ∀ i, i < 64 → wr.cell? ⟨g2, i, none⟩ = some (.bool (y.getLsbD i)) := fun i hi => by rw [cell_of_row _ _ _ _ _ _ H2.out]; exact HYI.out i hi
          have hR := HR0.out
          have hk64 : (k : Int) < 64 := by omega
          have C0 : wr.cell? ⟨g2 + 1, k, none⟩ = some (.bool false) := by rw [cell_of_row _ _ _ _ _ _ H3.out, bitsPart_get r k k hlt]; simp
          have F0 : wr.frozen? ⟨g2 + 1, k, none⟩ = false := frozen_of_row _ _ _ _ _ H3.out
          have X := hX k hlt
          have Y := hY k hlt
          have hr := hR k hlt
          have HR : Hid (r.getLsbD k = (x.getLsbD k != y.getLsbD k)) := by show _ = _; rw [hr]
          clear hr hX hY hR
          generalize x.getLsbD k = xb at X HR
          generalize y.getLsbD k = yb at Y HR
          go_wp2
          go_region
          all_goals go_wp2
          all_goals go_roundw
          case rel => exact ⟨k + 1, by omega, by go_num, by show (wr.setCell _ _).heap[_]? = _; rw [heap_setCell_same _ _ _ _ _ _ H3.out, ← bitsPart_succ r k hlt, HR.out]; rfl, by show (wr.setCell _ _).heap[_]? = _; rw [heap_setCell_other _ _ _ _ (by dsimp only; omega)]; exact H1.out, by show (wr.setCell _ _).heap[_]? = _; rw [heap_setCell_other _ _ _ _ (by dsimp only; omega)]; exact H2.out, (HB.out.setCell (by dsimp only; omega) _).drew⟩
          case measure => simp [intOf]; omega
        · obtain rfl : k = 64 := by omega
          have e64 : ((64 : Nat) : Int) = 64 := rfl
          rw [e64]
          have hs : (Tryd.prog.info? 171).map (·.size) = some (bitsPart r 64).size := by rw [bitsPart_size]; exact sizes64
          go_wp2_with (first
            | (refine wpList_load_row rfl _ _ rfl _ rfl _ _ _ _ H3.out Tryd.underlying171 rfl hs ?_)
            | (go_at_call 132; refine (hO _).mono ?_; rintro e w3 ⟨rfl, hb3⟩))
          go_ret2
          exact ⟨rfl, HB.out.trans (hb3.mono HB.out.size)⟩
end Go.Proofs.YtndogdojcbcjgaaDoor

/- tierlineref.Made at the op shl: bit by bit. -/
namespace Go.Proofs.YtndogdojcbcjgaaDoor
open Go Go.RowKit

set_option maxRecDepth 100000 in
set_option maxHeartbeats 1000000 in
theorem rmade_shl (x y r : BitVec 64) (imm : Int) (w : World) (hr : ∀ k, k < 64 → r.getLsbD k = if k < low6 y 6 then false else x.getLsbD (k - low6 y 6)) :
    Calls Tryd.prog 104 #[.int .i64 9, .int .i64 x.toInt, .int .i64 y.toInt, .int .i64 imm] w fun e w' => e = .returned (.tuple #[.int .i64 r.toInt, .int .i64 0]) ∧ Below w.heap.size w w' := by
  have hz := zeros64 x
  have hBx := rbits_any x
  have hBy := rbits_any y
  have hO := ofBits_any r
  have hsx : (Tryd.prog.info? 171).map (·.size) = some (bitsAll x).size := by rw [show bitsAll x = bitsPart x 64 from rfl, bitsPart_size]; exact sizes64
  have hsy : (Tryd.prog.info? 171).map (·.size) = some (bitsAll y).size := by rw [show bitsAll y = bitsPart y 64 from rfl, bitsPart_size]; exact sizes64
  have hox : (List.replicate 64 (Value.bool false)).toArray.size = (bitsAll x).size := by rw [show bitsAll x = bitsPart x 64 from rfl, bitsPart_size]; rfl
  have hoy : (List.replicate 64 (Value.bool false)).toArray.size = (bitsAll y).size := by rw [show bitsAll y = bitsPart y 64 from rfl, bitsPart_size]; rfl
  have h1x : (bitsAll x).all (·.oneCell') = true := bitsPart_one x 64
  have h1y : (bitsAll y).all (·.oneCell') = true := bitsPart_one y 64
  have HR0 : Hid (∀ k, k < 64 → r.getLsbD k = if k < low6 y 6 then false else x.getLsbD (k - low6 y 6)) := hr
  have HXI : Hid (∀ k, k < 64 → (bitsAll x)[k]? = some (.bool (x.getLsbD k))) := fun k hk => by rw [show bitsAll x = bitsPart x 64 from rfl, bitsPart_get x 64 k hk]; simp; omega
  have HYI : Hid (∀ k, k < 64 → (bitsAll y)[k]? = some (.bool (y.getLsbD k))) := fun k hk => by rw [show bitsAll y = bitsPart y 64 from rfl, bitsPart_get y 64 k hk]; simp; omega
  clear hr
  go_enter Tryd.func104, Tryd.ntmps104
  go_wp2_with (first
    | (go_at_call 48; refine (rin_any _ _ _ _).mono ?_; rintro e w' ⟨rfl, hw'⟩; replace hw' := hw'.symm; subst hw')
    | (go_at_call 131; refine (hBx _).mono ?_; rintro e w1 ⟨rfl, hb1⟩; clear hBx)
    | (go_at_call 131; refine (hBy _).mono ?_; rintro e w2 ⟨rfl, hb2⟩; clear hBy)
    | (refine wpList_store_row rfl _ _ _ rfl _ _ rfl rfl _ _ (heap_alloc_last _ _) hsx hox h1x ?_; clear hsx)
    | (refine wpList_store_row rfl _ _ _ rfl _ _ rfl rfl _ _ (heap_alloc_last _ _) hsy hoy h1y ?_; clear hsy))
  rw [World.setRow_alloc_new] at hb2 ⊢
  have h12 : w1.heap.size < w2.heap.size := by have := hb2.size; simp at this; omega
  have h01 : w.heap.size ≤ w1.heap.size := hb1.size
  have HX2 : Hid (w2.heap[w1.heap.size]? = some (.cells (bitsAll x) 171 (0, 0))) := by
    show _ = _
    rw [hb2.block w1.heap.size (by simp)]
    exact heap_alloc_last _ _
  have HW2 : Hid (Below w.heap.size w w2) := (hb1.alloc h01 _).trans (hb2.mono (by simp; omega))
  clear hb1 hb2 hox hoy h1x h1y
  go_loopw [13, 14] (fun s i wr => ∃ k : Nat, k ≤ 6 ∧ i = .int .i64 (5 - (k : Int)) ∧ s = .int .i64 (low6 y k : Nat) ∧ wr.heap[w2.heap.size + 1]? = some (.cells (bitsPart r 0) 171 (0, 0)) ∧ wr.heap[w1.heap.size]? = some (.cells (bitsAll x) 171 (0, 0)) ∧ wr.heap[w2.heap.size]? = some (.cells (bitsAll y) 171 (0, 0)) ∧ Below w.heap.size w wr) (fun _ i _ => (intOf i + 1).toNat)
  case atStart => exact ⟨0, by omega, by go_num, by rw [low6_zero]; rfl, by rw [zeros64 r]; exact heap_alloc2_new _ _ _, by rw [heap_alloc_old _ _ (by simp; omega), heap_alloc_old _ _ h12]; exact HX2.out, heap_alloc2_old _ _ _, (HW2.out.alloc (by omega) _).alloc (by simp; omega) _⟩
  case round =>
    obtain ⟨k, hk, rfl, rfl, h3, h1, h2, hb⟩ := hrel
    have H1 : Hid (wr.heap[w1.heap.size]? = some (.cells (bitsAll x) 171 (0, 0))) := h1
    have H2 : Hid (wr.heap[w2.heap.size]? = some (.cells (bitsAll y) 171 (0, 0))) := h2
    have H3 : Hid (wr.heap[w2.heap.size + 1]? = some (.cells (bitsPart r 0) 171 (0, 0))) := h3
    have HB : Hid (Below w.heap.size w wr) := hb
    clear h1 h2 h3 hb
    by_cases hlt : k < 6
    · obtain ⟨l1, l2⟩ := low6_step y k hlt
      have c0 : wr.cell? ⟨w2.heap.size, 5 - k, none⟩ = some (.bool (y.getLsbD (5 - k))) := by rw [cell_of_row _ _ _ _ _ _ H2.out]; exact HYI.out _ (by omega)
      have e1 : (5 - (k : Int)) = ((5 - k : Nat) : Int) := by omega
      have hj : ((5 - k : Nat) : Int) < 64 := by omega
      have HE : Hid (∀ z : Int, z = ((5 - k : Nat) : Int) - 1 → z = 5 - ((k + 1 : Nat) : Int)) := fun z hz => by omega
      rw [e1]
      have HL : Hid (low6 y (k + 1) = low6 y k * 2 + (if y.getLsbD (5 - k) then 1 else 0)) := l1
      clear l1 e1
      generalize low6 y k = s at l2 HL
      generalize 5 - k = j at c0 hj HE HL
      have sI : (s : Int) < 64 := by omega
      cases hbv : y.getLsbD j
      · rw [hbv] at c0
        have HL2 : Hid ((low6 y (k + 1) : Int) = (s : Int) * 2) := by show _ = _; rw [HL.out, hbv]; simp
        clear hbv HL
        go_wp2
        go_roundw
        case rel => exact ⟨k + 1, by omega, by rw [HE.out _ rfl], by rw [HL2.out], H3.out, H1.out, H2.out, HB.out⟩
        case measure => simp [intOf]
      · rw [hbv] at c0
        have HL2 : Hid ((low6 y (k + 1) : Int) = (s : Int) * 2 + 1) := by show _ = _; rw [HL.out, hbv]; simp
        clear hbv HL
        go_wp2
        go_roundw
        case rel => exact ⟨k + 1, by omega, by rw [HE.out _ rfl], by rw [HL2.out], H3.out, H1.out, H2.out, HB.out⟩
        case measure => simp [intOf]
    · obtain rfl : k = 6 := by omega
      have e6 : 5 - ((6 : Nat) : Int) = -1 := by decide
      have hS : low6 y 6 < 64 := by unfold low6; exact Nat.lt_of_le_of_lt (Nat.div_le_self _ _) (Nat.mod_lt _ (by decide))
      rw [e6]
      clear e6 hk hlt HX2 HW2 hz
      generalize low6 y 6 = S at hS HR0
      have hSI : (S : Int) < 64 := by omega
      go_wp2
      go_loopw [15] (fun i wr => ∃ k : Nat, k ≤ 64 ∧ i = .int .i64 k ∧ wr.heap[w2.heap.size + 1]? = some (.cells (bitsPart r k) 171 (0, 0)) ∧ wr.heap[w1.heap.size]? = some (.cells (bitsAll x) 171 (0, 0)) ∧ wr.heap[w2.heap.size]? = some (.cells (bitsAll y) 171 (0, 0)) ∧ Below w.heap.size w wr) (fun i _ => 64 - (intOf i).toNat)
      case atStart => exact ⟨0, by omega, rfl, H3.out, H1.out, H2.out, HB.out⟩
      case round =>
        clear H1 H2 H3 HB
        obtain ⟨k, hk, rfl, h3, h1, h2, hb⟩ := hrel
        have H1 : Hid (wr.heap[w1.heap.size]? = some (.cells (bitsAll x) 171 (0, 0))) := h1
        have H2 : Hid (wr.heap[w2.heap.size]? = some (.cells (bitsAll y) 171 (0, 0))) := h2
        have H3 : Hid (wr.heap[w2.heap.size + 1]? = some (.cells (bitsPart r k) 171 (0, 0))) := h3
        have HB : Hid (Below w.heap.size w wr) := hb
        clear h1 h2 h3 hb
        generalize hg1 : w1.heap.size = g1 at *
        generalize hg2 : w2.heap.size = g2 at *
        clear hg1 hg2
        by_cases hlt : k < 64
        · have hX : ∀ i, i < 64 → wr.cell? ⟨g1, i, none⟩ = some (.bool (x.getLsbD i)) := fun i hi => by rw [cell_of_row _ _ _ _ _ _ H1.out]; exact HXI.out i hi
          have hY : ∀ i, i < 64 → wr.cell? ⟨g2, i, none⟩ = some (.bool (y.getLsbD i)) := fun i hi => by rw [cell_of_row _ _ _ _ _ _ H2.out]; exact HYI.out i hi
          have hR := HR0.out
          have hk64 : (k : Int) < 64 := by omega
          have C0 : wr.cell? ⟨g2 + 1, k, none⟩ = some (.bool false) := by rw [cell_of_row _ _ _ _ _ _ H3.out, bitsPart_get r k k hlt]; simp
          have F0 : wr.frozen? ⟨g2 + 1, k, none⟩ = false := frozen_of_row _ _ _ _ _ H3.out
          have hr := hR k hlt
          by_cases hs : k < S
          · have HR : Hid (r.getLsbD k = false) := by show _ = _; rw [hr, if_pos hs]
            clear hr
            have hsI : (k : Int) < S := by omega
            go_wp2
            go_roundw
            case rel => exact ⟨k + 1, by omega, by go_num, by rw [part_same r k HR.out]; exact H3.out, H1.out, H2.out, HB.out⟩
            case measure => simp [intOf]; omega
          · have X := hX (k - S) (by omega)
            have HR : Hid (r.getLsbD k = x.getLsbD (k - S)) := by show _ = _; rw [hr, if_neg hs]
            clear hr
            obtain ⟨j, hj⟩ : ∃ j, j = k - S := ⟨_, rfl⟩
            rw [← hj] at X HR
            have hjI : (k : Int) - S = j := by omega
            have hj64 : (j : Int) < 64 := by omega
            have hsI : (S : Int) ≤ k := by omega
            clear hj
            generalize x.getLsbD j = xb at X HR
            go_wp2
            go_roundw
            case rel => exact ⟨k + 1, by omega, by go_num, by rw [heap_setCell_same _ _ _ _ _ _ H3.out, ← bitsPart_succ r k hlt, HR.out], by rw [heap_setCell_other _ _ _ _ (by dsimp only; omega)]; exact H1.out, by rw [heap_setCell_other _ _ _ _ (by dsimp only; omega)]; exact H2.out, HB.out.setCell (by dsimp only; omega) _⟩
            case measure => simp [intOf]; omega
        · obtain rfl : k = 64 := by omega
          have e64 : ((64 : Nat) : Int) = 64 := rfl
          rw [e64]
          have hs : (Tryd.prog.info? 171).map (·.size) = some (bitsPart r 64).size := by rw [bitsPart_size]; exact sizes64
          go_wp2_with (first
            | (refine wpList_load_row rfl _ _ rfl _ rfl _ _ _ _ H3.out Tryd.underlying171 rfl hs ?_)
            | (go_at_call 132; refine (hO _).mono ?_; rintro e w3 ⟨rfl, hb3⟩))
          go_ret2
          exact ⟨rfl, HB.out.trans (hb3.mono HB.out.size)⟩
end Go.Proofs.YtndogdojcbcjgaaDoor

/- tierlineref.Made at the op sar: bit by bit. -/
namespace Go.Proofs.YtndogdojcbcjgaaDoor
open Go Go.RowKit

set_option maxRecDepth 100000 in
set_option maxHeartbeats 1000000 in
theorem rmade_sar (x y r : BitVec 64) (imm : Int) (w : World) (hr : ∀ k, k < 64 → r.getLsbD k = if k + low6 y 6 < 64 then x.getLsbD (k + low6 y 6) else x.getLsbD 63) :
    Calls Tryd.prog 104 #[.int .i64 10, .int .i64 x.toInt, .int .i64 y.toInt, .int .i64 imm] w fun e w' => e = .returned (.tuple #[.int .i64 r.toInt, .int .i64 0]) ∧ Below w.heap.size w w' := by
  have hz := zeros64 x
  have hBx := rbits_any x
  have hBy := rbits_any y
  have hO := ofBits_any r
  have hsx : (Tryd.prog.info? 171).map (·.size) = some (bitsAll x).size := by rw [show bitsAll x = bitsPart x 64 from rfl, bitsPart_size]; exact sizes64
  have hsy : (Tryd.prog.info? 171).map (·.size) = some (bitsAll y).size := by rw [show bitsAll y = bitsPart y 64 from rfl, bitsPart_size]; exact sizes64
  have hox : (List.replicate 64 (Value.bool false)).toArray.size = (bitsAll x).size := by rw [show bitsAll x = bitsPart x 64 from rfl, bitsPart_size]; rfl
  have hoy : (List.replicate 64 (Value.bool false)).toArray.size = (bitsAll y).size := by rw [show bitsAll y = bitsPart y 64 from rfl, bitsPart_size]; rfl
  have h1x : (bitsAll x).all (·.oneCell') = true := bitsPart_one x 64
  have h1y : (bitsAll y).all (·.oneCell') = true := bitsPart_one y 64
  have HR0 : Hid (∀ k, k < 64 → r.getLsbD k = if k + low6 y 6 < 64 then x.getLsbD (k + low6 y 6) else x.getLsbD 63) := hr
  have HXI : Hid (∀ k, k < 64 → (bitsAll x)[k]? = some (.bool (x.getLsbD k))) := fun k hk => by rw [show bitsAll x = bitsPart x 64 from rfl, bitsPart_get x 64 k hk]; simp; omega
  have HYI : Hid (∀ k, k < 64 → (bitsAll y)[k]? = some (.bool (y.getLsbD k))) := fun k hk => by rw [show bitsAll y = bitsPart y 64 from rfl, bitsPart_get y 64 k hk]; simp; omega
  clear hr
  go_enter Tryd.func104, Tryd.ntmps104
  go_wp2_with (first
    | (go_at_call 48; refine (rin_any _ _ _ _).mono ?_; rintro e w' ⟨rfl, hw'⟩; replace hw' := hw'.symm; subst hw')
    | (go_at_call 131; refine (hBx _).mono ?_; rintro e w1 ⟨rfl, hb1⟩; clear hBx)
    | (go_at_call 131; refine (hBy _).mono ?_; rintro e w2 ⟨rfl, hb2⟩; clear hBy)
    | (refine wpList_store_row rfl _ _ _ rfl _ _ rfl rfl _ _ (heap_alloc_last _ _) hsx hox h1x ?_; clear hsx)
    | (refine wpList_store_row rfl _ _ _ rfl _ _ rfl rfl _ _ (heap_alloc_last _ _) hsy hoy h1y ?_; clear hsy))
  rw [World.setRow_alloc_new] at hb2 ⊢
  have h12 : w1.heap.size < w2.heap.size := by have := hb2.size; simp at this; omega
  have h01 : w.heap.size ≤ w1.heap.size := hb1.size
  have HX2 : Hid (w2.heap[w1.heap.size]? = some (.cells (bitsAll x) 171 (0, 0))) := by
    show _ = _
    rw [hb2.block w1.heap.size (by simp)]
    exact heap_alloc_last _ _
  have HW2 : Hid (Below w.heap.size w w2) := (hb1.alloc h01 _).trans (hb2.mono (by simp; omega))
  clear hb1 hb2 hox hoy h1x h1y
  go_loopw [13, 14] (fun s i wr => ∃ k : Nat, k ≤ 6 ∧ i = .int .i64 (5 - (k : Int)) ∧ s = .int .i64 (low6 y k : Nat) ∧ wr.heap[w2.heap.size + 1]? = some (.cells (bitsPart r 0) 171 (0, 0)) ∧ wr.heap[w1.heap.size]? = some (.cells (bitsAll x) 171 (0, 0)) ∧ wr.heap[w2.heap.size]? = some (.cells (bitsAll y) 171 (0, 0)) ∧ Below w.heap.size w wr) (fun _ i _ => (intOf i + 1).toNat)
  case atStart => exact ⟨0, by omega, by go_num, by rw [low6_zero]; rfl, by rw [zeros64 r]; exact heap_alloc2_new _ _ _, by rw [heap_alloc_old _ _ (by simp; omega), heap_alloc_old _ _ h12]; exact HX2.out, heap_alloc2_old _ _ _, (HW2.out.alloc (by omega) _).alloc (by simp; omega) _⟩
  case round =>
    obtain ⟨k, hk, rfl, rfl, h3, h1, h2, hb⟩ := hrel
    have H1 : Hid (wr.heap[w1.heap.size]? = some (.cells (bitsAll x) 171 (0, 0))) := h1
    have H2 : Hid (wr.heap[w2.heap.size]? = some (.cells (bitsAll y) 171 (0, 0))) := h2
    have H3 : Hid (wr.heap[w2.heap.size + 1]? = some (.cells (bitsPart r 0) 171 (0, 0))) := h3
    have HB : Hid (Below w.heap.size w wr) := hb
    clear h1 h2 h3 hb
    by_cases hlt : k < 6
    · obtain ⟨l1, l2⟩ := low6_step y k hlt
      have c0 : wr.cell? ⟨w2.heap.size, 5 - k, none⟩ = some (.bool (y.getLsbD (5 - k))) := by rw [cell_of_row _ _ _ _ _ _ H2.out]; exact HYI.out _ (by omega)
      have e1 : (5 - (k : Int)) = ((5 - k : Nat) : Int) := by omega
      have hj : ((5 - k : Nat) : Int) < 64 := by omega
      have HE : Hid (∀ z : Int, z = ((5 - k : Nat) : Int) - 1 → z = 5 - ((k + 1 : Nat) : Int)) := fun z hz => by omega
      rw [e1]
      have HL : Hid (low6 y (k + 1) = low6 y k * 2 + (if y.getLsbD (5 - k) then 1 else 0)) := l1
      clear l1 e1
      generalize low6 y k = s at l2 HL
      generalize 5 - k = j at c0 hj HE HL
      have sI : (s : Int) < 64 := by omega
      cases hbv : y.getLsbD j
      · rw [hbv] at c0
        have HL2 : Hid ((low6 y (k + 1) : Int) = (s : Int) * 2) := by show _ = _; rw [HL.out, hbv]; simp
        clear hbv HL
        go_wp2
        go_roundw
        case rel => exact ⟨k + 1, by omega, by rw [HE.out _ rfl], by rw [HL2.out], H3.out, H1.out, H2.out, HB.out⟩
        case measure => simp [intOf]
      · rw [hbv] at c0
        have HL2 : Hid ((low6 y (k + 1) : Int) = (s : Int) * 2 + 1) := by show _ = _; rw [HL.out, hbv]; simp
        clear hbv HL
        go_wp2
        go_roundw
        case rel => exact ⟨k + 1, by omega, by rw [HE.out _ rfl], by rw [HL2.out], H3.out, H1.out, H2.out, HB.out⟩
        case measure => simp [intOf]
    · obtain rfl : k = 6 := by omega
      have e6 : 5 - ((6 : Nat) : Int) = -1 := by decide
      have hS : low6 y 6 < 64 := by unfold low6; exact Nat.lt_of_le_of_lt (Nat.div_le_self _ _) (Nat.mod_lt _ (by decide))
      rw [e6]
      clear e6 hk hlt HX2 HW2 hz
      generalize low6 y 6 = S at hS HR0
      have hSI : (S : Int) < 64 := by omega
      go_wp2
      go_loopw [15] (fun i wr => ∃ k : Nat, k ≤ 64 ∧ i = .int .i64 k ∧ wr.heap[w2.heap.size + 1]? = some (.cells (bitsPart r k) 171 (0, 0)) ∧ wr.heap[w1.heap.size]? = some (.cells (bitsAll x) 171 (0, 0)) ∧ wr.heap[w2.heap.size]? = some (.cells (bitsAll y) 171 (0, 0)) ∧ Below w.heap.size w wr) (fun i _ => 64 - (intOf i).toNat)
      case atStart => exact ⟨0, by omega, rfl, H3.out, H1.out, H2.out, HB.out⟩
      case round =>
        clear H1 H2 H3 HB
        obtain ⟨k, hk, rfl, h3, h1, h2, hb⟩ := hrel
        have H1 : Hid (wr.heap[w1.heap.size]? = some (.cells (bitsAll x) 171 (0, 0))) := h1
        have H2 : Hid (wr.heap[w2.heap.size]? = some (.cells (bitsAll y) 171 (0, 0))) := h2
        have H3 : Hid (wr.heap[w2.heap.size + 1]? = some (.cells (bitsPart r k) 171 (0, 0))) := h3
        have HB : Hid (Below w.heap.size w wr) := hb
        clear h1 h2 h3 hb
        generalize hg1 : w1.heap.size = g1 at *
        generalize hg2 : w2.heap.size = g2 at *
        clear hg1 hg2
        by_cases hlt : k < 64
        · have hX : ∀ i, i < 64 → wr.cell? ⟨g1, i, none⟩ = some (.bool (x.getLsbD i)) := fun i hi => by rw [cell_of_row _ _ _ _ _ _ H1.out]; exact HXI.out i hi
          have hY : ∀ i, i < 64 → wr.cell? ⟨g2, i, none⟩ = some (.bool (y.getLsbD i)) := fun i hi => by rw [cell_of_row _ _ _ _ _ _ H2.out]; exact HYI.out i hi
          have hR := HR0.out
          have hk64 : (k : Int) < 64 := by omega
          have C0 : wr.cell? ⟨g2 + 1, k, none⟩ = some (.bool false) := by rw [cell_of_row _ _ _ _ _ _ H3.out, bitsPart_get r k k hlt]; simp
          have F0 : wr.frozen? ⟨g2 + 1, k, none⟩ = false := frozen_of_row _ _ _ _ _ H3.out
          have hr := hR k hlt
          have M := hX 63 (by omega)
          by_cases hs : k + S < 64
          · have X := hX (k + S) hs
            have HR : Hid (r.getLsbD k = x.getLsbD (k + S)) := by show _ = _; rw [hr, if_pos hs]
            clear hr
            have HX2 : Hid (∀ W : World, ∀ u, wr.cell? ⟨g1, k + S, none⟩ = some u → True) := fun _ _ _ => trivial
            have X2 : ∀ u, (wr.setCell ⟨g2 + 1, k, none⟩ u).cell? ⟨g1, k + S, none⟩ = some (.bool (x.getLsbD (k + S))) := fun u => by rw [cell_of_row _ _ _ _ _ _ (by rw [heap_setCell_other _ _ _ _ (by dsimp only; omega)]; exact H1.out), show bitsAll x = bitsPart x 64 from rfl, bitsPart_get x 64 (k + S) hs]; simp; omega
            have C2 : ∀ u, (wr.setCell ⟨g2 + 1, k, none⟩ u).cell? ⟨g2 + 1, k, none⟩ = some u := fun u => by rw [cell_of_row _ _ _ _ _ _ (heap_setCell_same _ _ _ _ _ _ H3.out)]; simp [bitsPart_size, hlt]
            have F2 : ∀ u, (wr.setCell ⟨g2 + 1, k, none⟩ u).frozen? ⟨g2 + 1, k, none⟩ = false := fun u => frozen_of_row _ _ _ _ _ (heap_setCell_same _ _ _ _ _ _ H3.out)
            clear HX2 hX hY hR
            obtain ⟨j, hj⟩ : ∃ j, j = k + S := ⟨_, rfl⟩
            rw [← hj] at X X2 HR
            have hjI : (k : Int) + S = j := by omega
            have hj64 : (j : Int) < 64 := by omega
            clear hj
            generalize x.getLsbD j = xb at X X2 HR
            generalize x.getLsbD 63 = xm at M
            go_wp2
            go_roundw
            case rel => exact ⟨k + 1, by omega, by go_num, by rw [heap_setCell_same _ _ _ _ _ _ (heap_setCell_same _ _ _ _ _ _ H3.out), Array.setIfInBounds_setIfInBounds, ← bitsPart_succ r k hlt, HR.out], by rw [heap_setCell_other _ _ _ _ (by dsimp only; omega), heap_setCell_other _ _ _ _ (by dsimp only; omega)]; exact H1.out, by rw [heap_setCell_other _ _ _ _ (by dsimp only; omega), heap_setCell_other _ _ _ _ (by dsimp only; omega)]; exact H2.out, (HB.out.setCell (by dsimp only; omega) _).setCell (by dsimp only; omega) _⟩
            case measure => simp [intOf]; omega
          · have HR : Hid (r.getLsbD k = x.getLsbD 63) := by show _ = _; rw [hr, if_neg hs]
            clear hr hX hY hR
            have hsI : 64 ≤ (k : Int) + S := by omega
            generalize x.getLsbD 63 = xm at M HR
            go_wp2
            go_roundw
            case rel => exact ⟨k + 1, by omega, by go_num, by rw [heap_setCell_same _ _ _ _ _ _ H3.out, ← bitsPart_succ r k hlt, HR.out], by rw [heap_setCell_other _ _ _ _ (by dsimp only; omega)]; exact H1.out, by rw [heap_setCell_other _ _ _ _ (by dsimp only; omega)]; exact H2.out, HB.out.setCell (by dsimp only; omega) _⟩
            case measure => simp [intOf]; omega
        · obtain rfl : k = 64 := by omega
          have e64 : ((64 : Nat) : Int) = 64 := rfl
          rw [e64]
          have hs : (Tryd.prog.info? 171).map (·.size) = some (bitsPart r 64).size := by rw [bitsPart_size]; exact sizes64
          go_wp2_with (first
            | (refine wpList_load_row rfl _ _ rfl _ rfl _ _ _ _ H3.out Tryd.underlying171 rfl hs ?_)
            | (go_at_call 132; refine (hO _).mono ?_; rintro e w3 ⟨rfl, hb3⟩))
          go_ret2
          exact ⟨rfl, HB.out.trans (hb3.mono HB.out.size)⟩
end Go.Proofs.YtndogdojcbcjgaaDoor

/- tierlineref.Made at every op, and the walk of tierlinelaw.StepMakes. -/
namespace Go.Proofs.YtndogdojcbcjgaaDoor
open Go Go.RowKit

theorem shl_toInt (x : BitVec 64) (n : Nat) : wrap64 (x.toInt * 2 ^ n) = (x <<< n).toInt := by
  have e : BitVec.ofInt 64 (2 ^ n) = BitVec.twoPow 64 n := by
    apply BitVec.eq_of_toNat_eq
    have : (2 : Int) ^ n = ((2 ^ n : Nat) : Int) := by simp
    rw [this, BitVec.ofInt_natCast, BitVec.toNat_twoPow, BitVec.toNat_ofNat]
  rw [wrap64_bv, BitVec.ofInt_mul, BitVec.ofInt_toInt, e, BitVec.mul_twoPow_eq_shiftLeft]

theorem rmade_any (op a b imm : Int) (w : World) (ha : Fits a) (hb : Fits b) :
    Calls Tryd.prog 104 #[.int .i64 op, .int .i64 a, .int .i64 b, .int .i64 imm] w fun e w' => e = .returned (.tuple #[.int .i64 (mk op a b imm), .int .i64 (mkE op b)]) ∧ Below w.heap.size w w' := by
  revert op
  refine twelve_ops (rmade_set a b imm w) (rmade_add a b imm w) (rmade_sub a b imm w) (rmade_mul a b imm w) ?_ ?_ ?_ ?_ ?_ ?_ (rmade_lt a b imm w) (rmade_eq a b imm w) (fun op h => ?_)
  · by_cases h0 : b = 0
    · have e1 : mk 5 a b imm = 0 := by simp [mk, h0]
      have e2 : mkE 5 b = 9 := by simp [mkE, h0]
      rw [e1, e2]
      exact rmade_zero a b imm w h0
    · have e1 : mk 5 a b imm = wrap64 (a.tdiv b) := by simp [mk, h0]
      have e2 : mkE 5 b = 0 := by simp [mkE, h0]
      rw [e1, e2]
      exact rmade_div a b imm w h0
  · obtain ⟨x, rfl⟩ := bv_of ha
    obtain ⟨y, rfl⟩ := bv_of hb
    have e1 : mk 6 x.toInt y.toInt imm = (x &&& y).toInt := bits_and_bv x y
    rw [e1]
    exact rmade_and x y (x &&& y) imm w (fun k _ => BitVec.getLsbD_and)
  · obtain ⟨x, rfl⟩ := bv_of ha
    obtain ⟨y, rfl⟩ := bv_of hb
    have e1 : mk 7 x.toInt y.toInt imm = (x ||| y).toInt := bits_or_bv x y
    rw [e1]
    exact rmade_or x y (x ||| y) imm w (fun k _ => BitVec.getLsbD_or)
  · obtain ⟨x, rfl⟩ := bv_of ha
    obtain ⟨y, rfl⟩ := bv_of hb
    have e1 : mk 8 x.toInt y.toInt imm = (x ^^^ y).toInt := bits_xor_bv x y
    rw [e1]
    exact rmade_xor x y (x ^^^ y) imm w (fun k _ => by rw [BitVec.getLsbD_xor])
  · obtain ⟨x, rfl⟩ := bv_of ha
    obtain ⟨y, rfl⟩ := bv_of hb
    have e1 : mk 9 x.toInt y.toInt imm = (x <<< low6 y 6).toInt := by rw [mk9, ← low6_last, shl_toInt]
    rw [e1]
    refine rmade_shl x y (x <<< low6 y 6) imm w (fun k hk => ?_)
    rw [BitVec.getLsbD_shiftLeft]
    by_cases h : k < low6 y 6
    · simp [h]
    · simp [h, hk]
  · obtain ⟨x, rfl⟩ := bv_of ha
    obtain ⟨y, rfl⟩ := bv_of hb
    have e1 : mk 10 x.toInt y.toInt imm = (x.sshiftRight (low6 y 6)).toInt := by rw [mk10, ← low6_last, shr_toInt]
    rw [e1]
    refine rmade_sar x y (x.sshiftRight (low6 y 6)) imm w (fun k hk => ?_)
    rw [BitVec.getLsbD_sshiftRight, Nat.add_comm (low6 y 6) k]
    have hm : x.msb = x.getLsbD 63 := by rw [BitVec.msb_eq_getLsbD_last]
    have h64 : ¬ 64 ≤ k := by omega
    simp [h64, hm]
  · have e1 : mk op a b imm = 0 := by
      unfold mk
      repeat rw [if_neg (by omega)]
    have e2 : mkE op b = 3 := by unfold mkE; rw [if_pos h]
    rw [e1, e2]
    exact rmade_none op a b imm w h

end Go.Proofs.YtndogdojcbcjgaaDoor
