/- The walk of tierlinekeep.RvBits: at all raw numbers it says true, and nothing that was there has turned (written by gen/mkrvbits.py). -/
import Derived.Test.YthlljbifijodeaaDoorLawRvBack
namespace Go.Proofs.YthlljbifijodeaaDoor
open Go Go.RowKit

theorem and_lit (n : Int) (b : Nat) (hb : b < 63) (M : Int) (hM : M = ((2 ^ b - 1 : Nat) : Int)) : bits .and .i64 n M = n % 2 ^ b := by
  have h := and_mask n b hb
  have hp := pow_lt63 b hb
  have hq : 0 < 2 ^ b := Nat.pow_pos (by decide)
  rw [wrap64_pow b hb, wrap64_small _ (by omega) (by omega)] at h
  rw [hM, ← h]
  congr 1
  omega
theorem sA_cases (k : Nat) (h0 : 1 ≤ k) (h1 : k ≤ 29) : (k ≤ 11 → sA k = 51) ∧ (12 ≤ k → k ≤ 19 → sA k = 19) ∧ (k = 20 → sA k = 3) ∧ (k = 27 → sA k = 103) ∧ (k = 21 → sA k = 35) ∧ (22 ≤ k → k ≤ 25 → sA k = 99) ∧ (k = 26 → sA k = 111) ∧ (k = 28 → sA k = 55) ∧ (k = 29 → sA k = 115) :=
  ops29 (Q := fun k => (k ≤ 11 → sA k = 51) ∧ (12 ≤ k → k ≤ 19 → sA k = 19) ∧ (k = 20 → sA k = 3) ∧ (k = 27 → sA k = 103) ∧ (k = 21 → sA k = 35) ∧ (22 ≤ k → k ≤ 25 → sA k = 99) ∧ (k = 26 → sA k = 111) ∧ (k = 28 → sA k = 55) ∧ (k = 29 → sA k = 115)) (by decide +kernel) k h0 h1
/-- What the tests see of a word. -/
theorem word_tests (V : Int) (h0 : 0 < V) (h1 : V < 4294967296) : bits .and .i64 V 127 = V % 128 ∧ bits .and .i64 (V / 128) 31 = V / 128 % 32 ∧ bits .and .i64 (V / 32768) 31 = V / 32768 % 32 ∧ bits .and .i64 (V / 1048576) 31 = V / 1048576 % 32 :=
  ⟨and_full 7 (by decide) V 127 rfl (by omega) h1, and_full 5 (by decide) (V / 128) 31 rfl (by omega) (by omega), and_full 5 (by decide) (V / 32768) 31 rfl (by omega) (by omega), and_full 5 (by decide) (V / 1048576) 31 rfl (by omega) (by omega)⟩
theorem imm_tests (i : Int) : bits .and .i64 i 4095 = i % 4096 ∧ bits .and .i64 (i / 4096) 1 = i / 4096 % 2 ∧ bits .and .i64 (i / 1048576) 1 = i / 1048576 % 2 ∧ bits .and .i64 i 1048575 = i % 1048576 :=
  ⟨and_lit i 12 (by decide) _ rfl, and_lit (i / 4096) 1 (by decide) _ rfl, and_lit (i / 1048576) 1 (by decide) _ rfl, and_lit i 20 (by decide) _ rfl⟩

set_option maxRecDepth 100000 in
set_option maxHeartbeats 4000000 in
theorem rvBits_walk (x : Mi) (h : MiFits x) (w : World) (ht : RvTab w) :
    Calls Tryd.prog 9 #[x.val] w fun e w' => e = .returned (.bool true) ∧ Below w.heap.size w w' := by
  have HK : Hid (∀ W, Calls Tryd.prog 18 #[x.val] W fun e w' => e = .returned (mkRv x).val ∧ Below W.heap.size W w') := fun W => keep_rv x h W
  have hok := mkRv_ok x
  have HE : Hid (∀ W, Below w.heap.size w W → Calls Tryd.prog 14 #[(mkRv x).val] W fun e w' => e = .returned (.tuple #[.int .i64 (wordI (mkRv x)), .int .i64 0]) ∧ Below W.heap.size W w') := fun W hW => enc_ok _ hok W (ht.below hW)
  obtain ⟨-, -, p0, p1, hp, -⟩ := dec_word _ hok
  obtain ⟨t0, t1, t2, t3⟩ := word_tests _ p0 p1
  obtain ⟨b0, b1⟩ := opK_bounds x
  have hop := mkRv_op x
  have hA := sA_cases _ b0 b1
  have hcs := shape_cases _ b0 b1
  have hnum := num_partsOf (wordI (mkRv x))
  clear h hok ht
  generalize mkRv x = X at *
  generalize wordI X = V at *
  generalize opK x = k at *
  obtain ⟨op, rd, rs1, rs2, imm⟩ := X
  obtain ⟨i0, i1, i2, i3⟩ := imm_tests imm
  dsimp only at hop
  subst hop
  have hP : wordP ⟨(k : Int), rd, rs1, rs2, imm⟩ = wordQ (shOf k) (sA k) (sB k) (sC k) ⟨(k : Int), rd, rs1, rs2, imm⟩ := rfl
  rw [hP] at hp
  clear hP
  generalize sA k = A at *
  generalize sB k = SB at *
  generalize sC k = SC at *
  have qa := congrArg Pts.a hp
  have ql := congrArg Pts.l hp
  have qm := congrArg Pts.m hp
  have qn := congrArg Pts.n hp
  have qb := congrArg Pts.b hp
  have qc := congrArg Pts.c hp
  dsimp only [partsOf] at qa ql qm qn qb qc
  clear hp
  obtain ⟨xo, xd, xa, xb, xi⟩ := x
  unfold Mi.val at *
  dsimp only at *
  rcases hcs with ⟨hka, hs⟩ | ⟨rfl, hs⟩ | ⟨rfl, hs⟩ | ⟨hka, hkb, hs⟩ | ⟨rfl, hs⟩ | ⟨rfl, hs⟩ | ⟨rfl, hs⟩ | ⟨hka, hkb, hs⟩ | ⟨rfl, hs⟩ | ⟨rfl, hs⟩ | ⟨rfl, hs⟩
  · -- k ≤ 11
    rw [hs] at qa ql qm qn qb qc
    obtain rfl := hA.1 hka
    replace qa : V % 128 = 51 := qa
    replace ql : V / 128 % 32 = rd := ql
    replace qm : V / 32768 % 32 = rs1 := qm
    replace qn : V / 1048576 % 32 = rs2 := qn
    have f0 : bits .and .i64 V 127 = 51 := by rw [t0, qa]
    have f1 : bits .and .i64 (V / 128) 31 = rd := by rw [t1, ql]
    have f2 : bits .and .i64 (V / 32768) 31 = rs1 := by rw [t2, qm]
    have f3 : bits .and .i64 (V / 1048576) 31 = rs2 := by rw [t3, qn]
    have kk : (k : Int) ≤ 11 := by omega
    clear qa ql qm qn qb qc t0 t1 t2 t3 i0 i1 i2 i3 hnum hs hA
    go_enter Tryd.func9, Tryd.ntmps9
    go_wp2_with (first
      | (go_at_call 18; refine (HK.out _).mono ?_; rintro e w1 ⟨rfl, hb1⟩; have HB1 : Hid (Below w.heap.size w w1) := ((Below.refl _ _).alloc (Nat.le_refl _) _).trans (hb1.mono (by simp)); clear hb1; have HB1a := fun o => HB1.out.alloc HB1.out.size o)
      | (go_at_call 14; refine (HE.out _ (HB1a _)).mono ?_; rintro e w2 ⟨rfl, hb2⟩; have HB2 : Hid (Below w.heap.size w w2) := (HB1a _).trans (hb2.mono (by have := HB1.out.size; simp; omega)); have hz2 : w1.heap.size < w2.heap.size := Nat.lt_of_lt_of_le (by simp) hb2.size; have c := cells5 ((hb2.block w1.heap.size (by simp)).trans (heap_alloc_last w1 _)); obtain ⟨c0, c1, c2, c3, c4⟩ := c; clear hb2))
    all_goals
      go_ret
      exact ⟨by simp, HB2.out⟩
  · -- 18
    rw [hs] at qa ql qm qn qb qc
    obtain rfl := hA.2.1 (by omega) (by omega)
    replace qa : V % 128 = 19 := qa
    replace ql : V / 128 % 32 = rd := ql
    replace qm : V / 32768 % 32 = rs1 := qm
    have f0 : bits .and .i64 V 127 = 19 := by rw [t0, qa]
    have f1 : bits .and .i64 (V / 128) 31 = rd := by rw [t1, ql]
    have f2 : bits .and .i64 (V / 32768) 31 = rs1 := by rw [t2, qm]
    clear qa ql qm qn qb qc t0 t1 t2 t3 i0 i1 i2 i3 hnum hs hA
    go_enter Tryd.func9, Tryd.ntmps9
    go_wp2_with (first
      | (go_at_call 18; refine (HK.out _).mono ?_; rintro e w1 ⟨rfl, hb1⟩; have HB1 : Hid (Below w.heap.size w w1) := ((Below.refl _ _).alloc (Nat.le_refl _) _).trans (hb1.mono (by simp)); clear hb1; have HB1a := fun o => HB1.out.alloc HB1.out.size o)
      | (go_at_call 14; refine (HE.out _ (HB1a _)).mono ?_; rintro e w2 ⟨rfl, hb2⟩; have HB2 : Hid (Below w.heap.size w w2) := (HB1a _).trans (hb2.mono (by have := HB1.out.size; simp; omega)); have hz2 : w1.heap.size < w2.heap.size := Nat.lt_of_lt_of_le (by simp) hb2.size; have c := cells5 ((hb2.block w1.heap.size (by simp)).trans (heap_alloc_last w1 _)); obtain ⟨c0, c1, c2, c3, c4⟩ := c; clear hb2))
    all_goals
      go_ret
      exact ⟨by simp, HB2.out⟩
  · -- 19
    rw [hs] at qa ql qm qn qb qc
    obtain rfl := hA.2.1 (by omega) (by omega)
    replace qa : V % 128 = 19 := qa
    replace ql : V / 128 % 32 = rd := ql
    replace qm : V / 32768 % 32 = rs1 := qm
    have f0 : bits .and .i64 V 127 = 19 := by rw [t0, qa]
    have f1 : bits .and .i64 (V / 128) 31 = rd := by rw [t1, ql]
    have f2 : bits .and .i64 (V / 32768) 31 = rs1 := by rw [t2, qm]
    clear qa ql qm qn qb qc t0 t1 t2 t3 i0 i1 i2 i3 hnum hs hA
    go_enter Tryd.func9, Tryd.ntmps9
    go_wp2_with (first
      | (go_at_call 18; refine (HK.out _).mono ?_; rintro e w1 ⟨rfl, hb1⟩; have HB1 : Hid (Below w.heap.size w w1) := ((Below.refl _ _).alloc (Nat.le_refl _) _).trans (hb1.mono (by simp)); clear hb1; have HB1a := fun o => HB1.out.alloc HB1.out.size o)
      | (go_at_call 14; refine (HE.out _ (HB1a _)).mono ?_; rintro e w2 ⟨rfl, hb2⟩; have HB2 : Hid (Below w.heap.size w w2) := (HB1a _).trans (hb2.mono (by have := HB1.out.size; simp; omega)); have hz2 : w1.heap.size < w2.heap.size := Nat.lt_of_lt_of_le (by simp) hb2.size; have c := cells5 ((hb2.block w1.heap.size (by simp)).trans (heap_alloc_last w1 _)); obtain ⟨c0, c1, c2, c3, c4⟩ := c; clear hb2))
    all_goals
      go_ret
      exact ⟨by simp, HB2.out⟩
  · -- 12..17
    rw [hs] at qa ql qm qn qb qc
    obtain rfl := hA.2.1 (by omega) (by omega)
    replace qa : V % 128 = 19 := qa
    replace ql : V / 128 % 32 = rd := ql
    replace qm : V / 32768 % 32 = rs1 := qm
    replace qn : V / 1048576 % 32 = imm % 32 := qn
    replace qc : V / 33554432 = imm / 32 % 128 := qc
    have f0 : bits .and .i64 V 127 = 19 := by rw [t0, qa]
    have f1 : bits .and .i64 (V / 128) 31 = rd := by rw [t1, ql]
    have f2 : bits .and .i64 (V / 32768) 31 = rs1 := by rw [t2, qm]
    have f3 : (V / 1048576 == bits .and .i64 imm 4095) = true := by rw [i0, beq_iff_eq]; omega
    have k18 : ((k : Int) == 18) = false := by rw [beq_eq_false_iff_ne]; omega
    have k19 : ((k : Int) == 19) = false := by rw [beq_eq_false_iff_ne]; omega
    have k11 : ¬ (k : Int) ≤ 11 := by omega
    have kk : (k : Int) ≤ 19 := by omega
    clear qa ql qm qn qb qc t0 t1 t2 t3 i0 i1 i2 i3 hnum hs hA
    go_enter Tryd.func9, Tryd.ntmps9
    go_wp2_with (first
      | (go_at_call 18; refine (HK.out _).mono ?_; rintro e w1 ⟨rfl, hb1⟩; have HB1 : Hid (Below w.heap.size w w1) := ((Below.refl _ _).alloc (Nat.le_refl _) _).trans (hb1.mono (by simp)); clear hb1; have HB1a := fun o => HB1.out.alloc HB1.out.size o)
      | (go_at_call 14; refine (HE.out _ (HB1a _)).mono ?_; rintro e w2 ⟨rfl, hb2⟩; have HB2 : Hid (Below w.heap.size w w2) := (HB1a _).trans (hb2.mono (by have := HB1.out.size; simp; omega)); have hz2 : w1.heap.size < w2.heap.size := Nat.lt_of_lt_of_le (by simp) hb2.size; have c := cells5 ((hb2.block w1.heap.size (by simp)).trans (heap_alloc_last w1 _)); obtain ⟨c0, c1, c2, c3, c4⟩ := c; clear hb2))
    all_goals
      go_ret
      exact ⟨by simp, HB2.out⟩
  · -- 20
    rw [hs] at qa ql qm qn qb qc
    obtain rfl := hA.2.2.1 rfl
    replace qa : V % 128 = 3 := qa
    replace ql : V / 128 % 32 = rd := ql
    replace qm : V / 32768 % 32 = rs1 := qm
    replace qn : V / 1048576 % 32 = imm % 32 := qn
    replace qc : V / 33554432 = imm / 32 % 128 := qc
    have f0 : bits .and .i64 V 127 = 3 := by rw [t0, qa]
    have f1 : bits .and .i64 (V / 128) 31 = rd := by rw [t1, ql]
    have f2 : bits .and .i64 (V / 32768) 31 = rs1 := by rw [t2, qm]
    have f3 : (V / 1048576 == bits .and .i64 imm 4095) = true := by rw [i0, beq_iff_eq]; omega
    clear qa ql qm qn qb qc t0 t1 t2 t3 i0 i1 i2 i3 hnum hs hA
    go_enter Tryd.func9, Tryd.ntmps9
    go_wp2_with (first
      | (go_at_call 18; refine (HK.out _).mono ?_; rintro e w1 ⟨rfl, hb1⟩; have HB1 : Hid (Below w.heap.size w w1) := ((Below.refl _ _).alloc (Nat.le_refl _) _).trans (hb1.mono (by simp)); clear hb1; have HB1a := fun o => HB1.out.alloc HB1.out.size o)
      | (go_at_call 14; refine (HE.out _ (HB1a _)).mono ?_; rintro e w2 ⟨rfl, hb2⟩; have HB2 : Hid (Below w.heap.size w w2) := (HB1a _).trans (hb2.mono (by have := HB1.out.size; simp; omega)); have hz2 : w1.heap.size < w2.heap.size := Nat.lt_of_lt_of_le (by simp) hb2.size; have c := cells5 ((hb2.block w1.heap.size (by simp)).trans (heap_alloc_last w1 _)); obtain ⟨c0, c1, c2, c3, c4⟩ := c; clear hb2))
    all_goals
      go_ret
      exact ⟨by simp, HB2.out⟩
  · -- 27
    rw [hs] at qa ql qm qn qb qc
    obtain rfl := hA.2.2.2.1 rfl
    replace qa : V % 128 = 103 := qa
    replace ql : V / 128 % 32 = rd := ql
    replace qm : V / 32768 % 32 = rs1 := qm
    replace qn : V / 1048576 % 32 = imm % 32 := qn
    replace qc : V / 33554432 = imm / 32 % 128 := qc
    have f0 : bits .and .i64 V 127 = 103 := by rw [t0, qa]
    have f1 : bits .and .i64 (V / 128) 31 = rd := by rw [t1, ql]
    have f2 : bits .and .i64 (V / 32768) 31 = rs1 := by rw [t2, qm]
    have f3 : (V / 1048576 == bits .and .i64 imm 4095) = true := by rw [i0, beq_iff_eq]; omega
    clear qa ql qm qn qb qc t0 t1 t2 t3 i0 i1 i2 i3 hnum hs hA
    go_enter Tryd.func9, Tryd.ntmps9
    go_wp2_with (first
      | (go_at_call 18; refine (HK.out _).mono ?_; rintro e w1 ⟨rfl, hb1⟩; have HB1 : Hid (Below w.heap.size w w1) := ((Below.refl _ _).alloc (Nat.le_refl _) _).trans (hb1.mono (by simp)); clear hb1; have HB1a := fun o => HB1.out.alloc HB1.out.size o)
      | (go_at_call 14; refine (HE.out _ (HB1a _)).mono ?_; rintro e w2 ⟨rfl, hb2⟩; have HB2 : Hid (Below w.heap.size w w2) := (HB1a _).trans (hb2.mono (by have := HB1.out.size; simp; omega)); have hz2 : w1.heap.size < w2.heap.size := Nat.lt_of_lt_of_le (by simp) hb2.size; have c := cells5 ((hb2.block w1.heap.size (by simp)).trans (heap_alloc_last w1 _)); obtain ⟨c0, c1, c2, c3, c4⟩ := c; clear hb2))
    all_goals
      go_ret
      exact ⟨by simp, HB2.out⟩
  · -- 21
    rw [hs] at qa ql qm qn qb qc
    obtain rfl := hA.2.2.2.2.1 rfl
    replace qa : V % 128 = 35 := qa
    replace qm : V / 32768 % 32 = rs1 := qm
    replace qn : V / 1048576 % 32 = rs2 := qn
    have f0 : bits .and .i64 V 127 = 35 := by rw [t0, qa]
    have f2 : bits .and .i64 (V / 32768) 31 = rs1 := by rw [t2, qm]
    have f3 : bits .and .i64 (V / 1048576) 31 = rs2 := by rw [t3, qn]
    clear qa ql qm qn qb qc t0 t1 t2 t3 i0 i1 i2 i3 hnum hs hA
    go_enter Tryd.func9, Tryd.ntmps9
    go_wp2_with (first
      | (go_at_call 18; refine (HK.out _).mono ?_; rintro e w1 ⟨rfl, hb1⟩; have HB1 : Hid (Below w.heap.size w w1) := ((Below.refl _ _).alloc (Nat.le_refl _) _).trans (hb1.mono (by simp)); clear hb1; have HB1a := fun o => HB1.out.alloc HB1.out.size o)
      | (go_at_call 14; refine (HE.out _ (HB1a _)).mono ?_; rintro e w2 ⟨rfl, hb2⟩; have HB2 : Hid (Below w.heap.size w w2) := (HB1a _).trans (hb2.mono (by have := HB1.out.size; simp; omega)); have hz2 : w1.heap.size < w2.heap.size := Nat.lt_of_lt_of_le (by simp) hb2.size; have c := cells5 ((hb2.block w1.heap.size (by simp)).trans (heap_alloc_last w1 _)); obtain ⟨c0, c1, c2, c3, c4⟩ := c; clear hb2))
    all_goals
      go_ret
      exact ⟨by simp, HB2.out⟩
  · -- 22..25
    rw [hs] at qa ql qm qn qb qc
    obtain rfl := hA.2.2.2.2.2.1 hka hkb
    replace qa : V % 128 = 99 := qa
    replace qm : V / 32768 % 32 = rs1 := qm
    replace qn : V / 1048576 % 32 = rs2 := qn
    replace qc : V / 33554432 = imm / 32 % 64 + 64 * (imm / 4096 % 2) := qc
    have f0 : bits .and .i64 V 127 = 99 := by rw [t0, qa]
    have f2 : bits .and .i64 (V / 32768) 31 = rs1 := by rw [t2, qm]
    have f3 : bits .and .i64 (V / 1048576) 31 = rs2 := by rw [t3, qn]
    have f4 : (V / 2147483648 == bits .and .i64 (imm / 4096) 1) = true := by rw [i1, beq_iff_eq]; omega
    have k20 : ((k : Int) == 20) = false := by rw [beq_eq_false_iff_ne]; omega
    have k27 : ((k : Int) == 27) = false := by rw [beq_eq_false_iff_ne]; omega
    have k21 : ((k : Int) == 21) = false := by rw [beq_eq_false_iff_ne]; omega
    have k11 : ¬ (k : Int) ≤ 11 := by omega
    have k19 : ¬ (k : Int) ≤ 19 := by omega
    have kk : (k : Int) ≤ 25 := by omega
    clear qa ql qm qn qb qc t0 t1 t2 t3 i0 i1 i2 i3 hnum hs hA
    go_enter Tryd.func9, Tryd.ntmps9
    go_wp2_with (first
      | (go_at_call 18; refine (HK.out _).mono ?_; rintro e w1 ⟨rfl, hb1⟩; have HB1 : Hid (Below w.heap.size w w1) := ((Below.refl _ _).alloc (Nat.le_refl _) _).trans (hb1.mono (by simp)); clear hb1; have HB1a := fun o => HB1.out.alloc HB1.out.size o)
      | (go_at_call 14; refine (HE.out _ (HB1a _)).mono ?_; rintro e w2 ⟨rfl, hb2⟩; have HB2 : Hid (Below w.heap.size w w2) := (HB1a _).trans (hb2.mono (by have := HB1.out.size; simp; omega)); have hz2 : w1.heap.size < w2.heap.size := Nat.lt_of_lt_of_le (by simp) hb2.size; have c := cells5 ((hb2.block w1.heap.size (by simp)).trans (heap_alloc_last w1 _)); obtain ⟨c0, c1, c2, c3, c4⟩ := c; clear hb2))
    all_goals
      go_ret
      exact ⟨by simp, HB2.out⟩
  · -- 26
    rw [hs] at qa ql qm qn qb qc
    obtain rfl := hA.2.2.2.2.2.2.1 rfl
    replace qa : V % 128 = 111 := qa
    replace ql : V / 128 % 32 = rd := ql
    replace qc : V / 33554432 = imm / 32 % 64 + 64 * (imm / 1048576 % 2) := qc
    have f0 : bits .and .i64 V 127 = 111 := by rw [t0, qa]
    have f1 : bits .and .i64 (V / 128) 31 = rd := by rw [t1, ql]
    have f4 : (V / 2147483648 == bits .and .i64 (imm / 1048576) 1) = true := by rw [i2, beq_iff_eq]; omega
    clear qa ql qm qn qb qc t0 t1 t2 t3 i0 i1 i2 i3 hnum hs hA
    go_enter Tryd.func9, Tryd.ntmps9
    go_wp2_with (first
      | (go_at_call 18; refine (HK.out _).mono ?_; rintro e w1 ⟨rfl, hb1⟩; have HB1 : Hid (Below w.heap.size w w1) := ((Below.refl _ _).alloc (Nat.le_refl _) _).trans (hb1.mono (by simp)); clear hb1; have HB1a := fun o => HB1.out.alloc HB1.out.size o)
      | (go_at_call 14; refine (HE.out _ (HB1a _)).mono ?_; rintro e w2 ⟨rfl, hb2⟩; have HB2 : Hid (Below w.heap.size w w2) := (HB1a _).trans (hb2.mono (by have := HB1.out.size; simp; omega)); have hz2 : w1.heap.size < w2.heap.size := Nat.lt_of_lt_of_le (by simp) hb2.size; have c := cells5 ((hb2.block w1.heap.size (by simp)).trans (heap_alloc_last w1 _)); obtain ⟨c0, c1, c2, c3, c4⟩ := c; clear hb2))
    all_goals
      go_ret
      exact ⟨by simp, HB2.out⟩
  · -- 28
    rw [hs] at qa ql qm qn qb qc
    obtain rfl := hA.2.2.2.2.2.2.2.1 rfl
    replace qa : V % 128 = 55 := qa
    replace ql : V / 128 % 32 = rd := ql
    replace qb : V / 4096 % 8 = imm % 8 := qb
    replace qm : V / 32768 % 32 = imm / 8 % 32 := qm
    replace qn : V / 1048576 % 32 = imm / 256 % 32 := qn
    replace qc : V / 33554432 = imm / 8192 % 128 := qc
    have f0 : bits .and .i64 V 127 = 55 := by rw [t0, qa]
    have f1 : bits .and .i64 (V / 128) 31 = rd := by rw [t1, ql]
    have f4 : (V / 4096 == bits .and .i64 imm 1048575) = true := by rw [i3, beq_iff_eq]; omega
    clear qa ql qm qn qb qc t0 t1 t2 t3 i0 i1 i2 i3 hnum hs hA
    go_enter Tryd.func9, Tryd.ntmps9
    go_wp2_with (first
      | (go_at_call 18; refine (HK.out _).mono ?_; rintro e w1 ⟨rfl, hb1⟩; have HB1 : Hid (Below w.heap.size w w1) := ((Below.refl _ _).alloc (Nat.le_refl _) _).trans (hb1.mono (by simp)); clear hb1; have HB1a := fun o => HB1.out.alloc HB1.out.size o)
      | (go_at_call 14; refine (HE.out _ (HB1a _)).mono ?_; rintro e w2 ⟨rfl, hb2⟩; have HB2 : Hid (Below w.heap.size w w2) := (HB1a _).trans (hb2.mono (by have := HB1.out.size; simp; omega)); have hz2 : w1.heap.size < w2.heap.size := Nat.lt_of_lt_of_le (by simp) hb2.size; have c := cells5 ((hb2.block w1.heap.size (by simp)).trans (heap_alloc_last w1 _)); obtain ⟨c0, c1, c2, c3, c4⟩ := c; clear hb2))
    all_goals
      go_ret
      exact ⟨by simp, HB2.out⟩
  · -- 29
    rw [hs] at qa ql qm qn qb qc
    obtain rfl := hA.2.2.2.2.2.2.2.2 rfl
    replace qa : V % 128 = 115 := qa
    replace ql : V / 128 % 32 = 0 := ql
    replace qb : V / 4096 % 8 = 0 := qb
    replace qm : V / 32768 % 32 = 0 := qm
    replace qn : V / 1048576 % 32 = 0 := qn
    replace qc : V / 33554432 = 0 := qc
    have hV : V = 115 := by rw [← hnum]; simp only [Pts.num, partsOf]; omega
    subst hV
    clear qa ql qm qn qb qc t0 t1 t2 t3 i0 i1 i2 i3 hnum hs hA
    go_enter Tryd.func9, Tryd.ntmps9
    go_wp2_with (first
      | (go_at_call 18; refine (HK.out _).mono ?_; rintro e w1 ⟨rfl, hb1⟩; have HB1 : Hid (Below w.heap.size w w1) := ((Below.refl _ _).alloc (Nat.le_refl _) _).trans (hb1.mono (by simp)); clear hb1; have HB1a := fun o => HB1.out.alloc HB1.out.size o)
      | (go_at_call 14; refine (HE.out _ (HB1a _)).mono ?_; rintro e w2 ⟨rfl, hb2⟩; have HB2 : Hid (Below w.heap.size w w2) := (HB1a _).trans (hb2.mono (by have := HB1.out.size; simp; omega)); have hz2 : w1.heap.size < w2.heap.size := Nat.lt_of_lt_of_le (by simp) hb2.size; have c := cells5 ((hb2.block w1.heap.size (by simp)).trans (heap_alloc_last w1 _)); obtain ⟨c0, c1, c2, c3, c4⟩ := c; clear hb2))
    all_goals
      go_ret
      exact ⟨by simp, HB2.out⟩
end Go.Proofs.YthlljbifijodeaaDoor
