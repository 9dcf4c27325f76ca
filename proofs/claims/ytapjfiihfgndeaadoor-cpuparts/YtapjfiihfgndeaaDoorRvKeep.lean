/- tierlinekeep.Rv: raw numbers made an instruction that may be; what Decode answers to an instruction's word (written by gen/mkrvk.py). -/
import Derived.Test.YtapjfiihfgndeaaDoorRvDec
import Derived.Test.YtapjfiihfgndeaaDoorPickBig
namespace Go.Proofs.YtapjfiihfgndeaaDoor
open Go Go.RowKit

/-- Which ops have which shape. -/
theorem shape_cases (k : Nat) (h0 : 1 ≤ k) (h1 : k ≤ 29) : (k ≤ 11 ∧ shOf k = 0) ∨ (k = 18 ∧ shOf k = 2) ∨ (k = 19 ∧ shOf k = 2) ∨ (12 ≤ k ∧ k ≤ 17 ∧ shOf k = 1) ∨ (k = 20 ∧ shOf k = 1) ∨ (k = 27 ∧ shOf k = 1) ∨ (k = 21 ∧ shOf k = 3) ∨ (22 ≤ k ∧ k ≤ 25 ∧ shOf k = 4) ∨ (k = 26 ∧ shOf k = 5) ∨ (k = 28 ∧ shOf k = 6) ∨ (k = 29 ∧ shOf k = 7) :=
  ops29 (Q := fun k => (k ≤ 11 ∧ shOf k = 0) ∨ (k = 18 ∧ shOf k = 2) ∨ (k = 19 ∧ shOf k = 2) ∨ (12 ≤ k ∧ k ≤ 17 ∧ shOf k = 1) ∨ (k = 20 ∧ shOf k = 1) ∨ (k = 27 ∧ shOf k = 1) ∨ (k = 21 ∧ shOf k = 3) ∨ (22 ≤ k ∧ k ≤ 25 ∧ shOf k = 4) ∨ (k = 26 ∧ shOf k = 5) ∨ (k = 28 ∧ shOf k = 6) ∨ (k = 29 ∧ shOf k = 7)) (by decide) k h0 h1
/-- The instruction that is made of raw numbers. -/
def mkQ (s : Nat) (op d a b i : Int) : Mi :=
  match s with
  | 0 => ⟨op, d, a, b, 0⟩
  | 1 => ⟨op, d, a, 0, pickB i 4096 - 2048⟩
  | 2 => ⟨op, d, a, 0, pickB i 64⟩
  | 3 => ⟨op, 0, a, b, pickB i 4096 - 2048⟩
  | 4 => ⟨op, 0, a, b, 4 * pickB i 2048 - 4096⟩
  | 5 => ⟨op, d, 0, 0, 4 * pickB i 524288 - 1048576⟩
  | 6 => ⟨op, d, 0, 0, pickB i 1048576 - 524288⟩
  | _ => ⟨op, 0, 0, 0, 0⟩
def opK (x : Mi) : Nat := 1 + (pickB x.op 29).toNat
def mkRv (x : Mi) : Mi := mkQ (shOf (opK x)) (opK x) (pickB x.rd 32) (pickB x.rs1 32) (pickB x.rs2 32) x.imm
theorem opK_bounds (x : Mi) : 1 ≤ opK x ∧ opK x ≤ 29 := by
  have := pickB_bounds x.op 29 (by decide)
  unfold opK; omega
theorem mkRv_op (x : Mi) : (mkRv x).op = opK x := by
  unfold mkRv
  have hs := shOf_lt _ (opK_bounds x).1 (opK_bounds x).2
  rcases eight _ hs with h | h | h | h | h | h | h | h <;> rw [h] <;> rfl
theorem mkRv_ok (x : Mi) : MiOk (mkRv x) := by
  have hop := mkRv_op x
  obtain ⟨b0, b1⟩ := opK_bounds x
  refine ⟨by omega, by omega, ?_⟩
  rw [hop, Int.toNat_natCast]
  have d := pickB_bounds x.rd 32 (by decide)
  have a := pickB_bounds x.rs1 32 (by decide)
  have b := pickB_bounds x.rs2 32 (by decide)
  have i1 := pickB_bounds x.imm 4096 (by decide)
  have i2 := pickB_bounds x.imm 64 (by decide)
  have i4 := pickB_bounds x.imm 2048 (by decide)
  have i5 := pickB_bounds x.imm 524288 (by decide)
  have i6 := pickB_bounds x.imm 1048576 (by decide)
  have hs := shOf_lt _ b0 b1
  unfold mkRv
  rw [fits_iff]
  generalize pickB x.rd 32 = d at *
  generalize pickB x.rs1 32 = a at *
  generalize pickB x.rs2 32 = b at *
  rcases eight _ hs with h | h | h | h | h | h | h | h <;> rw [h] <;> simp only [mkQ, shF, shL] <;> simp
  all_goals first | omega | (refine ⟨by omega, by omega, by omega, by omega, by omega, by omega, ?_⟩; exact tmod4' _ (by omega)) | (refine ⟨by omega, by omega, by omega, by omega, ?_⟩; exact tmod4' _ (by omega))

/-- What Decode answers to an instruction's word. -/
theorem dec_word (x : Mi) (h : MiOk x) : decX (wordI x) = x ∧ decE (wordI x) = 0 ∧ 0 < wordI x ∧ wordI x < 4294967296 ∧ partsOf (wordI x) = wordP x ∧ wordI x % 4 = 3 := by
  obtain ⟨ok, hit, inst⟩ := word_parts x h
  have hp : partsOf (wordI x) = wordP x := partsOf_num _ ok
  have hb := ok.num
  have hf := find_hit (wordP x) x.op.toNat (by have := h.op1; omega) (by have := h.op2; omega) hit
  have hn : ¬ (wordI x < 0 ∨ 4294967295 < wordI x) := by unfold wordI; omega
  have ha : (wordP x).a % 4 = 3 := by
    have hS := sett_of x.op.toNat (by have := h.op1; omega) (by have := h.op2; omega)
    have hs := shOf_lt x.op.toNat (by have := h.op1; omega) (by have := h.op2; omega)
    have h3 := hS.a3
    unfold wordP
    rcases eight _ hs with e | e | e | e | e | e | e | e <;> rw [e] <;> exact h3
  have h3 : wordI x % 4 = 3 := by unfold wordI Pts.num; omega
  refine ⟨?_, ?_, ?_, by unfold wordI; omega, hp, h3⟩
  · unfold decX
    rw [if_neg hn, hp, hf]
    dsimp only
    rw [inst, if_pos h.fits]
  · unfold decE
    rw [if_neg hn, hp, hf]
    dsimp only
    rw [inst, if_pos h.fits]
  · have : 0 ≤ wordI x := by unfold wordI; omega
    omega
/-- An instruction that Decode has told has the word that it was told of. -/
theorem word_dec (w : Int) (h : decE w = 0) : MiOk (decX w) ∧ wordI (decX w) = w := by
  unfold decE at h
  by_cases h1 : w < 0 ∨ 4294967295 < w
  · rw [if_pos h1] at h; omega
  rw [if_neg h1] at h
  unfold decX
  rw [if_neg h1]
  cases hf : findOp (partsOf w) 1 with
  | none => rw [hf] at h; simp at h
  | some k =>
    rw [hf] at h
    dsimp only at h ⊢
    obtain ⟨k0, k1, hk⟩ := find_some _ _ hf
    by_cases hfit : fitsB (shOf k) (instR k (partsOf w)) = true
    · rw [if_pos hfit]
      have hop : (instR k (partsOf w)).op = (k : Int) := rfl
      refine ⟨⟨by rw [hop]; omega, by rw [hop]; omega, by rw [hop]; simpa using hfit⟩, ?_⟩
      unfold wordI wordP
      rw [hop, Int.toNat_natCast]
      have := parts_wordQ (shOf k) (shOf_lt k k0 k1) (sA k) (sB k) (sC k) (sett_of k k0 k1) k (partsOf w) (partsOf_ok w (by omega) (by omega)) hk hfit
      unfold instR
      rw [this]
      exact num_partsOf w
    · rw [if_neg hfit] at h; omega
theorem dec_bad (w : Int) (h : decE w ≠ 0) : decX w = zeroMi ∧ (decE w = 2 ↔ (w < 0 ∨ 4294967295 < w)) := by
  unfold decE at h ⊢
  unfold decX
  by_cases h1 : w < 0 ∨ 4294967295 < w
  · rw [if_pos h1, if_pos h1]; simp [h1]
  rw [if_neg h1] at h ⊢
  rw [if_neg h1]
  cases hf : findOp (partsOf w) 1 with
  | none => exact ⟨rfl, by simp [h1]⟩
  | some k =>
    rw [hf] at h
    dsimp only at h ⊢
    by_cases hfit : fitsB (shOf k) (instR k (partsOf w)) = true
    · rw [if_pos hfit] at h; exact absurd rfl h
    · rw [if_neg hfit, if_neg hfit]; exact ⟨rfl, by simp [h1]⟩

set_option maxRecDepth 100000 in
set_option maxHeartbeats 4000000 in
theorem krv_any (x : Mi) (w : World) (ho : Fits x.op) (hd : Fits x.rd) (ha : Fits x.rs1) (hb : Fits x.rs2) (hi : Fits x.imm) :
    Calls Tryd.prog 23 #[x.val] w fun e w' => e = .returned (mkRv x).val ∧ Below w.heap.size w w' := by
  obtain ⟨b0, b1⟩ := opK_bounds x
  have hop : pickB x.op 29 = (opK x : Int) - 1 := by
    have := pickB_bounds x.op 29 (by decide)
    unfold opK; omega
  have g0 := fun w => picked_big x.op 29 w ho (by decide)
  have g1 := fun w => picked_big x.rd 32 w hd (by decide)
  have g2 := fun w => picked_big x.rs1 32 w ha (by decide)
  have g3 := fun w => picked_big x.rs2 32 w hb (by decide)
  have g4 := fun m w (h : (0 : Int) < m) => picked_big x.imm m w hi h
  have h60 : ∀ o, ((w.alloc o).alloc (.cells #[.int .i64 0, .int .i64 0, .int .i64 0, .int .i64 0, .int .i64 0] 41)).heap[w.heap.size + 1]? = some (.cells #[.int .i64 0, .int .i64 0, .int .i64 0, .int .i64 0, .int .i64 0] 41 (0, 0)) := fun o => heap_alloc2_new _ _ _
  have hpb := pickB_bounds x.op 29 (by decide)
  unfold mkRv opK
  obtain ⟨op, rd, rs1, rs2, imm⟩ := x
  dsimp only at *
  generalize pickB op 29 = p at *
  generalize pickB rd 32 = d at *
  generalize pickB rs1 32 = a at *
  generalize pickB rs2 32 = b at *
  clear ho hd ha hb hi hop b0 b1
  rw [← miC_val]
  unfold Mi.val
  rcases (show p = 0 ∨ p = 1 ∨ p = 2 ∨ p = 3 ∨ p = 4 ∨ p = 5 ∨ p = 6 ∨ p = 7 ∨ p = 8 ∨ p = 9 ∨ p = 10 ∨ p = 11 ∨ p = 12 ∨ p = 13 ∨ p = 14 ∨ p = 15 ∨ p = 16 ∨ p = 17 ∨ p = 18 ∨ p = 19 ∨ p = 20 ∨ p = 21 ∨ p = 22 ∨ p = 23 ∨ p = 24 ∨ p = 25 ∨ p = 26 ∨ p = 27 ∨ p = 28 by omega) with rfl | rfl | rfl | rfl | rfl | rfl | rfl | rfl | rfl | rfl | rfl | rfl | rfl | rfl | rfl | rfl | rfl | rfl | rfl | rfl | rfl | rfl | rfl | rfl | rfl | rfl | rfl | rfl | rfl
  · -- the op 1
    rw [show mkQ (shOf (1 + (0 : Int).toNat)) ((1 + (0 : Int).toNat : Nat) : Int) d a b imm = ⟨1, d, a, b, 0⟩ from rfl]
    clear g4 hpb
    unfold miC
    dsimp only
    go_enter Tryd.func23, Tryd.ntmps23
    go_wp2_with (go_at_call 19; first | (with_reducible refine (g0 _).mono ?_; rintro e w' ⟨rfl, rfl⟩) | (with_reducible refine (g1 _).mono ?_; rintro e w' ⟨rfl, rfl⟩) | (with_reducible refine (g2 _).mono ?_; rintro e w' ⟨rfl, rfl⟩) | (with_reducible refine (g3 _).mono ?_; rintro e w' ⟨rfl, rfl⟩))
    try simp only [Exit.inBlock, Exit.then]
    exact bodyPost_ret (results_cell_row rfl _ _ (w.heap.size + 1) 41 _ (0, 0) _ rfl (heap_alloc2_new _ _ _) Tryd.underlying41 rfl infoRv) rfl ⟨rfl, ((Below.refl _ _).alloc (Nat.le_refl _) _).alloc (by simp) _⟩
  · -- the op 2
    rw [show mkQ (shOf (1 + (1 : Int).toNat)) ((1 + (1 : Int).toNat : Nat) : Int) d a b imm = ⟨2, d, a, b, 0⟩ from rfl]
    clear g4 hpb
    unfold miC
    dsimp only
    go_enter Tryd.func23, Tryd.ntmps23
    go_wp2_with (go_at_call 19; first | (with_reducible refine (g0 _).mono ?_; rintro e w' ⟨rfl, rfl⟩) | (with_reducible refine (g1 _).mono ?_; rintro e w' ⟨rfl, rfl⟩) | (with_reducible refine (g2 _).mono ?_; rintro e w' ⟨rfl, rfl⟩) | (with_reducible refine (g3 _).mono ?_; rintro e w' ⟨rfl, rfl⟩))
    try simp only [Exit.inBlock, Exit.then]
    exact bodyPost_ret (results_cell_row rfl _ _ (w.heap.size + 1) 41 _ (0, 0) _ rfl (heap_alloc2_new _ _ _) Tryd.underlying41 rfl infoRv) rfl ⟨rfl, ((Below.refl _ _).alloc (Nat.le_refl _) _).alloc (by simp) _⟩
  · -- the op 3
    rw [show mkQ (shOf (1 + (2 : Int).toNat)) ((1 + (2 : Int).toNat : Nat) : Int) d a b imm = ⟨3, d, a, b, 0⟩ from rfl]
    clear g4 hpb
    unfold miC
    dsimp only
    go_enter Tryd.func23, Tryd.ntmps23
    go_wp2_with (go_at_call 19; first | (with_reducible refine (g0 _).mono ?_; rintro e w' ⟨rfl, rfl⟩) | (with_reducible refine (g1 _).mono ?_; rintro e w' ⟨rfl, rfl⟩) | (with_reducible refine (g2 _).mono ?_; rintro e w' ⟨rfl, rfl⟩) | (with_reducible refine (g3 _).mono ?_; rintro e w' ⟨rfl, rfl⟩))
    try simp only [Exit.inBlock, Exit.then]
    exact bodyPost_ret (results_cell_row rfl _ _ (w.heap.size + 1) 41 _ (0, 0) _ rfl (heap_alloc2_new _ _ _) Tryd.underlying41 rfl infoRv) rfl ⟨rfl, ((Below.refl _ _).alloc (Nat.le_refl _) _).alloc (by simp) _⟩
  · -- the op 4
    rw [show mkQ (shOf (1 + (3 : Int).toNat)) ((1 + (3 : Int).toNat : Nat) : Int) d a b imm = ⟨4, d, a, b, 0⟩ from rfl]
    clear g4 hpb
    unfold miC
    dsimp only
    go_enter Tryd.func23, Tryd.ntmps23
    go_wp2_with (go_at_call 19; first | (with_reducible refine (g0 _).mono ?_; rintro e w' ⟨rfl, rfl⟩) | (with_reducible refine (g1 _).mono ?_; rintro e w' ⟨rfl, rfl⟩) | (with_reducible refine (g2 _).mono ?_; rintro e w' ⟨rfl, rfl⟩) | (with_reducible refine (g3 _).mono ?_; rintro e w' ⟨rfl, rfl⟩))
    try simp only [Exit.inBlock, Exit.then]
    exact bodyPost_ret (results_cell_row rfl _ _ (w.heap.size + 1) 41 _ (0, 0) _ rfl (heap_alloc2_new _ _ _) Tryd.underlying41 rfl infoRv) rfl ⟨rfl, ((Below.refl _ _).alloc (Nat.le_refl _) _).alloc (by simp) _⟩
  · -- the op 5
    rw [show mkQ (shOf (1 + (4 : Int).toNat)) ((1 + (4 : Int).toNat : Nat) : Int) d a b imm = ⟨5, d, a, b, 0⟩ from rfl]
    clear g4 hpb
    unfold miC
    dsimp only
    go_enter Tryd.func23, Tryd.ntmps23
    go_wp2_with (go_at_call 19; first | (with_reducible refine (g0 _).mono ?_; rintro e w' ⟨rfl, rfl⟩) | (with_reducible refine (g1 _).mono ?_; rintro e w' ⟨rfl, rfl⟩) | (with_reducible refine (g2 _).mono ?_; rintro e w' ⟨rfl, rfl⟩) | (with_reducible refine (g3 _).mono ?_; rintro e w' ⟨rfl, rfl⟩))
    try simp only [Exit.inBlock, Exit.then]
    exact bodyPost_ret (results_cell_row rfl _ _ (w.heap.size + 1) 41 _ (0, 0) _ rfl (heap_alloc2_new _ _ _) Tryd.underlying41 rfl infoRv) rfl ⟨rfl, ((Below.refl _ _).alloc (Nat.le_refl _) _).alloc (by simp) _⟩
  · -- the op 6
    rw [show mkQ (shOf (1 + (5 : Int).toNat)) ((1 + (5 : Int).toNat : Nat) : Int) d a b imm = ⟨6, d, a, b, 0⟩ from rfl]
    clear g4 hpb
    unfold miC
    dsimp only
    go_enter Tryd.func23, Tryd.ntmps23
    go_wp2_with (go_at_call 19; first | (with_reducible refine (g0 _).mono ?_; rintro e w' ⟨rfl, rfl⟩) | (with_reducible refine (g1 _).mono ?_; rintro e w' ⟨rfl, rfl⟩) | (with_reducible refine (g2 _).mono ?_; rintro e w' ⟨rfl, rfl⟩) | (with_reducible refine (g3 _).mono ?_; rintro e w' ⟨rfl, rfl⟩))
    try simp only [Exit.inBlock, Exit.then]
    exact bodyPost_ret (results_cell_row rfl _ _ (w.heap.size + 1) 41 _ (0, 0) _ rfl (heap_alloc2_new _ _ _) Tryd.underlying41 rfl infoRv) rfl ⟨rfl, ((Below.refl _ _).alloc (Nat.le_refl _) _).alloc (by simp) _⟩
  · -- the op 7
    rw [show mkQ (shOf (1 + (6 : Int).toNat)) ((1 + (6 : Int).toNat : Nat) : Int) d a b imm = ⟨7, d, a, b, 0⟩ from rfl]
    clear g4 hpb
    unfold miC
    dsimp only
    go_enter Tryd.func23, Tryd.ntmps23
    go_wp2_with (go_at_call 19; first | (with_reducible refine (g0 _).mono ?_; rintro e w' ⟨rfl, rfl⟩) | (with_reducible refine (g1 _).mono ?_; rintro e w' ⟨rfl, rfl⟩) | (with_reducible refine (g2 _).mono ?_; rintro e w' ⟨rfl, rfl⟩) | (with_reducible refine (g3 _).mono ?_; rintro e w' ⟨rfl, rfl⟩))
    try simp only [Exit.inBlock, Exit.then]
    exact bodyPost_ret (results_cell_row rfl _ _ (w.heap.size + 1) 41 _ (0, 0) _ rfl (heap_alloc2_new _ _ _) Tryd.underlying41 rfl infoRv) rfl ⟨rfl, ((Below.refl _ _).alloc (Nat.le_refl _) _).alloc (by simp) _⟩
  · -- the op 8
    rw [show mkQ (shOf (1 + (7 : Int).toNat)) ((1 + (7 : Int).toNat : Nat) : Int) d a b imm = ⟨8, d, a, b, 0⟩ from rfl]
    clear g4 hpb
    unfold miC
    dsimp only
    go_enter Tryd.func23, Tryd.ntmps23
    go_wp2_with (go_at_call 19; first | (with_reducible refine (g0 _).mono ?_; rintro e w' ⟨rfl, rfl⟩) | (with_reducible refine (g1 _).mono ?_; rintro e w' ⟨rfl, rfl⟩) | (with_reducible refine (g2 _).mono ?_; rintro e w' ⟨rfl, rfl⟩) | (with_reducible refine (g3 _).mono ?_; rintro e w' ⟨rfl, rfl⟩))
    try simp only [Exit.inBlock, Exit.then]
    exact bodyPost_ret (results_cell_row rfl _ _ (w.heap.size + 1) 41 _ (0, 0) _ rfl (heap_alloc2_new _ _ _) Tryd.underlying41 rfl infoRv) rfl ⟨rfl, ((Below.refl _ _).alloc (Nat.le_refl _) _).alloc (by simp) _⟩
  · -- the op 9
    rw [show mkQ (shOf (1 + (8 : Int).toNat)) ((1 + (8 : Int).toNat : Nat) : Int) d a b imm = ⟨9, d, a, b, 0⟩ from rfl]
    clear g4 hpb
    unfold miC
    dsimp only
    go_enter Tryd.func23, Tryd.ntmps23
    go_wp2_with (go_at_call 19; first | (with_reducible refine (g0 _).mono ?_; rintro e w' ⟨rfl, rfl⟩) | (with_reducible refine (g1 _).mono ?_; rintro e w' ⟨rfl, rfl⟩) | (with_reducible refine (g2 _).mono ?_; rintro e w' ⟨rfl, rfl⟩) | (with_reducible refine (g3 _).mono ?_; rintro e w' ⟨rfl, rfl⟩))
    try simp only [Exit.inBlock, Exit.then]
    exact bodyPost_ret (results_cell_row rfl _ _ (w.heap.size + 1) 41 _ (0, 0) _ rfl (heap_alloc2_new _ _ _) Tryd.underlying41 rfl infoRv) rfl ⟨rfl, ((Below.refl _ _).alloc (Nat.le_refl _) _).alloc (by simp) _⟩
  · -- the op 10
    rw [show mkQ (shOf (1 + (9 : Int).toNat)) ((1 + (9 : Int).toNat : Nat) : Int) d a b imm = ⟨10, d, a, b, 0⟩ from rfl]
    clear g4 hpb
    unfold miC
    dsimp only
    go_enter Tryd.func23, Tryd.ntmps23
    go_wp2_with (go_at_call 19; first | (with_reducible refine (g0 _).mono ?_; rintro e w' ⟨rfl, rfl⟩) | (with_reducible refine (g1 _).mono ?_; rintro e w' ⟨rfl, rfl⟩) | (with_reducible refine (g2 _).mono ?_; rintro e w' ⟨rfl, rfl⟩) | (with_reducible refine (g3 _).mono ?_; rintro e w' ⟨rfl, rfl⟩))
    try simp only [Exit.inBlock, Exit.then]
    exact bodyPost_ret (results_cell_row rfl _ _ (w.heap.size + 1) 41 _ (0, 0) _ rfl (heap_alloc2_new _ _ _) Tryd.underlying41 rfl infoRv) rfl ⟨rfl, ((Below.refl _ _).alloc (Nat.le_refl _) _).alloc (by simp) _⟩
  · -- the op 11
    rw [show mkQ (shOf (1 + (10 : Int).toNat)) ((1 + (10 : Int).toNat : Nat) : Int) d a b imm = ⟨11, d, a, b, 0⟩ from rfl]
    clear g4 hpb
    unfold miC
    dsimp only
    go_enter Tryd.func23, Tryd.ntmps23
    go_wp2_with (go_at_call 19; first | (with_reducible refine (g0 _).mono ?_; rintro e w' ⟨rfl, rfl⟩) | (with_reducible refine (g1 _).mono ?_; rintro e w' ⟨rfl, rfl⟩) | (with_reducible refine (g2 _).mono ?_; rintro e w' ⟨rfl, rfl⟩) | (with_reducible refine (g3 _).mono ?_; rintro e w' ⟨rfl, rfl⟩))
    try simp only [Exit.inBlock, Exit.then]
    exact bodyPost_ret (results_cell_row rfl _ _ (w.heap.size + 1) 41 _ (0, 0) _ rfl (heap_alloc2_new _ _ _) Tryd.underlying41 rfl infoRv) rfl ⟨rfl, ((Below.refl _ _).alloc (Nat.le_refl _) _).alloc (by simp) _⟩
  · -- the op 12
    have p := pickB_bounds imm 4096 (by decide)
    have g5 := fun w => g4 4096 w (by decide)
    rw [show mkQ (shOf (1 + (11 : Int).toNat)) ((1 + (11 : Int).toNat : Nat) : Int) d a b imm = ⟨12, d, a, 0, pickB imm 4096 - 2048⟩ from rfl]
    generalize pickB imm 4096 = pi at *
    clear g4 hpb
    unfold miC
    dsimp only
    go_enter Tryd.func23, Tryd.ntmps23
    go_wp2_with (go_at_call 19; first | (with_reducible refine (g0 _).mono ?_; rintro e w' ⟨rfl, rfl⟩) | (with_reducible refine (g1 _).mono ?_; rintro e w' ⟨rfl, rfl⟩) | (with_reducible refine (g2 _).mono ?_; rintro e w' ⟨rfl, rfl⟩) | (with_reducible refine (g3 _).mono ?_; rintro e w' ⟨rfl, rfl⟩) | (with_reducible refine (g5 _).mono ?_; rintro e w' ⟨rfl, rfl⟩))
    try simp only [Exit.inBlock, Exit.then]
    exact bodyPost_ret (results_cell_row rfl _ _ (w.heap.size + 1) 41 _ (0, 0) _ rfl (heap_alloc2_new _ _ _) Tryd.underlying41 rfl infoRv) rfl ⟨rfl, ((Below.refl _ _).alloc (Nat.le_refl _) _).alloc (by simp) _⟩
  · -- the op 13
    have p := pickB_bounds imm 4096 (by decide)
    have g5 := fun w => g4 4096 w (by decide)
    rw [show mkQ (shOf (1 + (12 : Int).toNat)) ((1 + (12 : Int).toNat : Nat) : Int) d a b imm = ⟨13, d, a, 0, pickB imm 4096 - 2048⟩ from rfl]
    generalize pickB imm 4096 = pi at *
    clear g4 hpb
    unfold miC
    dsimp only
    go_enter Tryd.func23, Tryd.ntmps23
    go_wp2_with (go_at_call 19; first | (with_reducible refine (g0 _).mono ?_; rintro e w' ⟨rfl, rfl⟩) | (with_reducible refine (g1 _).mono ?_; rintro e w' ⟨rfl, rfl⟩) | (with_reducible refine (g2 _).mono ?_; rintro e w' ⟨rfl, rfl⟩) | (with_reducible refine (g3 _).mono ?_; rintro e w' ⟨rfl, rfl⟩) | (with_reducible refine (g5 _).mono ?_; rintro e w' ⟨rfl, rfl⟩))
    try simp only [Exit.inBlock, Exit.then]
    exact bodyPost_ret (results_cell_row rfl _ _ (w.heap.size + 1) 41 _ (0, 0) _ rfl (heap_alloc2_new _ _ _) Tryd.underlying41 rfl infoRv) rfl ⟨rfl, ((Below.refl _ _).alloc (Nat.le_refl _) _).alloc (by simp) _⟩
  · -- the op 14
    have p := pickB_bounds imm 4096 (by decide)
    have g5 := fun w => g4 4096 w (by decide)
    rw [show mkQ (shOf (1 + (13 : Int).toNat)) ((1 + (13 : Int).toNat : Nat) : Int) d a b imm = ⟨14, d, a, 0, pickB imm 4096 - 2048⟩ from rfl]
    generalize pickB imm 4096 = pi at *
    clear g4 hpb
    unfold miC
    dsimp only
    go_enter Tryd.func23, Tryd.ntmps23
    go_wp2_with (go_at_call 19; first | (with_reducible refine (g0 _).mono ?_; rintro e w' ⟨rfl, rfl⟩) | (with_reducible refine (g1 _).mono ?_; rintro e w' ⟨rfl, rfl⟩) | (with_reducible refine (g2 _).mono ?_; rintro e w' ⟨rfl, rfl⟩) | (with_reducible refine (g3 _).mono ?_; rintro e w' ⟨rfl, rfl⟩) | (with_reducible refine (g5 _).mono ?_; rintro e w' ⟨rfl, rfl⟩))
    try simp only [Exit.inBlock, Exit.then]
    exact bodyPost_ret (results_cell_row rfl _ _ (w.heap.size + 1) 41 _ (0, 0) _ rfl (heap_alloc2_new _ _ _) Tryd.underlying41 rfl infoRv) rfl ⟨rfl, ((Below.refl _ _).alloc (Nat.le_refl _) _).alloc (by simp) _⟩
  · -- the op 15
    have p := pickB_bounds imm 4096 (by decide)
    have g5 := fun w => g4 4096 w (by decide)
    rw [show mkQ (shOf (1 + (14 : Int).toNat)) ((1 + (14 : Int).toNat : Nat) : Int) d a b imm = ⟨15, d, a, 0, pickB imm 4096 - 2048⟩ from rfl]
    generalize pickB imm 4096 = pi at *
    clear g4 hpb
    unfold miC
    dsimp only
    go_enter Tryd.func23, Tryd.ntmps23
    go_wp2_with (go_at_call 19; first | (with_reducible refine (g0 _).mono ?_; rintro e w' ⟨rfl, rfl⟩) | (with_reducible refine (g1 _).mono ?_; rintro e w' ⟨rfl, rfl⟩) | (with_reducible refine (g2 _).mono ?_; rintro e w' ⟨rfl, rfl⟩) | (with_reducible refine (g3 _).mono ?_; rintro e w' ⟨rfl, rfl⟩) | (with_reducible refine (g5 _).mono ?_; rintro e w' ⟨rfl, rfl⟩))
    try simp only [Exit.inBlock, Exit.then]
    exact bodyPost_ret (results_cell_row rfl _ _ (w.heap.size + 1) 41 _ (0, 0) _ rfl (heap_alloc2_new _ _ _) Tryd.underlying41 rfl infoRv) rfl ⟨rfl, ((Below.refl _ _).alloc (Nat.le_refl _) _).alloc (by simp) _⟩
  · -- the op 16
    have p := pickB_bounds imm 4096 (by decide)
    have g5 := fun w => g4 4096 w (by decide)
    rw [show mkQ (shOf (1 + (15 : Int).toNat)) ((1 + (15 : Int).toNat : Nat) : Int) d a b imm = ⟨16, d, a, 0, pickB imm 4096 - 2048⟩ from rfl]
    generalize pickB imm 4096 = pi at *
    clear g4 hpb
    unfold miC
    dsimp only
    go_enter Tryd.func23, Tryd.ntmps23
    go_wp2_with (go_at_call 19; first | (with_reducible refine (g0 _).mono ?_; rintro e w' ⟨rfl, rfl⟩) | (with_reducible refine (g1 _).mono ?_; rintro e w' ⟨rfl, rfl⟩) | (with_reducible refine (g2 _).mono ?_; rintro e w' ⟨rfl, rfl⟩) | (with_reducible refine (g3 _).mono ?_; rintro e w' ⟨rfl, rfl⟩) | (with_reducible refine (g5 _).mono ?_; rintro e w' ⟨rfl, rfl⟩))
    try simp only [Exit.inBlock, Exit.then]
    exact bodyPost_ret (results_cell_row rfl _ _ (w.heap.size + 1) 41 _ (0, 0) _ rfl (heap_alloc2_new _ _ _) Tryd.underlying41 rfl infoRv) rfl ⟨rfl, ((Below.refl _ _).alloc (Nat.le_refl _) _).alloc (by simp) _⟩
  · -- the op 17
    have p := pickB_bounds imm 4096 (by decide)
    have g5 := fun w => g4 4096 w (by decide)
    rw [show mkQ (shOf (1 + (16 : Int).toNat)) ((1 + (16 : Int).toNat : Nat) : Int) d a b imm = ⟨17, d, a, 0, pickB imm 4096 - 2048⟩ from rfl]
    generalize pickB imm 4096 = pi at *
    clear g4 hpb
    unfold miC
    dsimp only
    go_enter Tryd.func23, Tryd.ntmps23
    go_wp2_with (go_at_call 19; first | (with_reducible refine (g0 _).mono ?_; rintro e w' ⟨rfl, rfl⟩) | (with_reducible refine (g1 _).mono ?_; rintro e w' ⟨rfl, rfl⟩) | (with_reducible refine (g2 _).mono ?_; rintro e w' ⟨rfl, rfl⟩) | (with_reducible refine (g3 _).mono ?_; rintro e w' ⟨rfl, rfl⟩) | (with_reducible refine (g5 _).mono ?_; rintro e w' ⟨rfl, rfl⟩))
    try simp only [Exit.inBlock, Exit.then]
    exact bodyPost_ret (results_cell_row rfl _ _ (w.heap.size + 1) 41 _ (0, 0) _ rfl (heap_alloc2_new _ _ _) Tryd.underlying41 rfl infoRv) rfl ⟨rfl, ((Below.refl _ _).alloc (Nat.le_refl _) _).alloc (by simp) _⟩
  · -- the op 18
    have p := pickB_bounds imm 64 (by decide)
    have g5 := fun w => g4 64 w (by decide)
    rw [show mkQ (shOf (1 + (17 : Int).toNat)) ((1 + (17 : Int).toNat : Nat) : Int) d a b imm = ⟨18, d, a, 0, pickB imm 64⟩ from rfl]
    generalize pickB imm 64 = pi at *
    clear g4 hpb
    unfold miC
    dsimp only
    go_enter Tryd.func23, Tryd.ntmps23
    go_wp2_with (go_at_call 19; first | (with_reducible refine (g0 _).mono ?_; rintro e w' ⟨rfl, rfl⟩) | (with_reducible refine (g1 _).mono ?_; rintro e w' ⟨rfl, rfl⟩) | (with_reducible refine (g2 _).mono ?_; rintro e w' ⟨rfl, rfl⟩) | (with_reducible refine (g3 _).mono ?_; rintro e w' ⟨rfl, rfl⟩) | (with_reducible refine (g5 _).mono ?_; rintro e w' ⟨rfl, rfl⟩))
    try simp only [Exit.inBlock, Exit.then]
    exact bodyPost_ret (results_cell_row rfl _ _ (w.heap.size + 1) 41 _ (0, 0) _ rfl (heap_alloc2_new _ _ _) Tryd.underlying41 rfl infoRv) rfl ⟨rfl, ((Below.refl _ _).alloc (Nat.le_refl _) _).alloc (by simp) _⟩
  · -- the op 19
    have p := pickB_bounds imm 64 (by decide)
    have g5 := fun w => g4 64 w (by decide)
    rw [show mkQ (shOf (1 + (18 : Int).toNat)) ((1 + (18 : Int).toNat : Nat) : Int) d a b imm = ⟨19, d, a, 0, pickB imm 64⟩ from rfl]
    generalize pickB imm 64 = pi at *
    clear g4 hpb
    unfold miC
    dsimp only
    go_enter Tryd.func23, Tryd.ntmps23
    go_wp2_with (go_at_call 19; first | (with_reducible refine (g0 _).mono ?_; rintro e w' ⟨rfl, rfl⟩) | (with_reducible refine (g1 _).mono ?_; rintro e w' ⟨rfl, rfl⟩) | (with_reducible refine (g2 _).mono ?_; rintro e w' ⟨rfl, rfl⟩) | (with_reducible refine (g3 _).mono ?_; rintro e w' ⟨rfl, rfl⟩) | (with_reducible refine (g5 _).mono ?_; rintro e w' ⟨rfl, rfl⟩))
    try simp only [Exit.inBlock, Exit.then]
    exact bodyPost_ret (results_cell_row rfl _ _ (w.heap.size + 1) 41 _ (0, 0) _ rfl (heap_alloc2_new _ _ _) Tryd.underlying41 rfl infoRv) rfl ⟨rfl, ((Below.refl _ _).alloc (Nat.le_refl _) _).alloc (by simp) _⟩
  · -- the op 20
    have p := pickB_bounds imm 4096 (by decide)
    have g5 := fun w => g4 4096 w (by decide)
    rw [show mkQ (shOf (1 + (19 : Int).toNat)) ((1 + (19 : Int).toNat : Nat) : Int) d a b imm = ⟨20, d, a, 0, pickB imm 4096 - 2048⟩ from rfl]
    generalize pickB imm 4096 = pi at *
    clear g4 hpb
    unfold miC
    dsimp only
    go_enter Tryd.func23, Tryd.ntmps23
    go_wp2_with (go_at_call 19; first | (with_reducible refine (g0 _).mono ?_; rintro e w' ⟨rfl, rfl⟩) | (with_reducible refine (g1 _).mono ?_; rintro e w' ⟨rfl, rfl⟩) | (with_reducible refine (g2 _).mono ?_; rintro e w' ⟨rfl, rfl⟩) | (with_reducible refine (g3 _).mono ?_; rintro e w' ⟨rfl, rfl⟩) | (with_reducible refine (g5 _).mono ?_; rintro e w' ⟨rfl, rfl⟩))
    try simp only [Exit.inBlock, Exit.then]
    exact bodyPost_ret (results_cell_row rfl _ _ (w.heap.size + 1) 41 _ (0, 0) _ rfl (heap_alloc2_new _ _ _) Tryd.underlying41 rfl infoRv) rfl ⟨rfl, ((Below.refl _ _).alloc (Nat.le_refl _) _).alloc (by simp) _⟩
  · -- the op 21
    have p := pickB_bounds imm 4096 (by decide)
    have g5 := fun w => g4 4096 w (by decide)
    rw [show mkQ (shOf (1 + (20 : Int).toNat)) ((1 + (20 : Int).toNat : Nat) : Int) d a b imm = ⟨21, 0, a, b, pickB imm 4096 - 2048⟩ from rfl]
    generalize pickB imm 4096 = pi at *
    clear g4 hpb
    unfold miC
    dsimp only
    go_enter Tryd.func23, Tryd.ntmps23
    go_wp2_with (go_at_call 19; first | (with_reducible refine (g0 _).mono ?_; rintro e w' ⟨rfl, rfl⟩) | (with_reducible refine (g1 _).mono ?_; rintro e w' ⟨rfl, rfl⟩) | (with_reducible refine (g2 _).mono ?_; rintro e w' ⟨rfl, rfl⟩) | (with_reducible refine (g3 _).mono ?_; rintro e w' ⟨rfl, rfl⟩) | (with_reducible refine (g5 _).mono ?_; rintro e w' ⟨rfl, rfl⟩))
    try simp only [Exit.inBlock, Exit.then]
    exact bodyPost_ret (results_cell_row rfl _ _ (w.heap.size + 1) 41 _ (0, 0) _ rfl (heap_alloc2_new _ _ _) Tryd.underlying41 rfl infoRv) rfl ⟨rfl, ((Below.refl _ _).alloc (Nat.le_refl _) _).alloc (by simp) _⟩
  · -- the op 22
    have p := pickB_bounds imm 2048 (by decide)
    have g5 := fun w => g4 2048 w (by decide)
    rw [show mkQ (shOf (1 + (21 : Int).toNat)) ((1 + (21 : Int).toNat : Nat) : Int) d a b imm = ⟨22, 0, a, b, 4 * pickB imm 2048 - 4096⟩ from rfl]
    generalize pickB imm 2048 = pi at *
    clear g4 hpb
    unfold miC
    dsimp only
    go_enter Tryd.func23, Tryd.ntmps23
    go_wp2_with (go_at_call 19; first | (with_reducible refine (g0 _).mono ?_; rintro e w' ⟨rfl, rfl⟩) | (with_reducible refine (g1 _).mono ?_; rintro e w' ⟨rfl, rfl⟩) | (with_reducible refine (g2 _).mono ?_; rintro e w' ⟨rfl, rfl⟩) | (with_reducible refine (g3 _).mono ?_; rintro e w' ⟨rfl, rfl⟩) | (with_reducible refine (g5 _).mono ?_; rintro e w' ⟨rfl, rfl⟩))
    try simp only [Exit.inBlock, Exit.then]
    exact bodyPost_ret (results_cell_row rfl _ _ (w.heap.size + 1) 41 _ (0, 0) _ rfl (heap_alloc2_new _ _ _) Tryd.underlying41 rfl infoRv) rfl ⟨rfl, ((Below.refl _ _).alloc (Nat.le_refl _) _).alloc (by simp) _⟩
  · -- the op 23
    have p := pickB_bounds imm 2048 (by decide)
    have g5 := fun w => g4 2048 w (by decide)
    rw [show mkQ (shOf (1 + (22 : Int).toNat)) ((1 + (22 : Int).toNat : Nat) : Int) d a b imm = ⟨23, 0, a, b, 4 * pickB imm 2048 - 4096⟩ from rfl]
    generalize pickB imm 2048 = pi at *
    clear g4 hpb
    unfold miC
    dsimp only
    go_enter Tryd.func23, Tryd.ntmps23
    go_wp2_with (go_at_call 19; first | (with_reducible refine (g0 _).mono ?_; rintro e w' ⟨rfl, rfl⟩) | (with_reducible refine (g1 _).mono ?_; rintro e w' ⟨rfl, rfl⟩) | (with_reducible refine (g2 _).mono ?_; rintro e w' ⟨rfl, rfl⟩) | (with_reducible refine (g3 _).mono ?_; rintro e w' ⟨rfl, rfl⟩) | (with_reducible refine (g5 _).mono ?_; rintro e w' ⟨rfl, rfl⟩))
    try simp only [Exit.inBlock, Exit.then]
    exact bodyPost_ret (results_cell_row rfl _ _ (w.heap.size + 1) 41 _ (0, 0) _ rfl (heap_alloc2_new _ _ _) Tryd.underlying41 rfl infoRv) rfl ⟨rfl, ((Below.refl _ _).alloc (Nat.le_refl _) _).alloc (by simp) _⟩
  · -- the op 24
    have p := pickB_bounds imm 2048 (by decide)
    have g5 := fun w => g4 2048 w (by decide)
    rw [show mkQ (shOf (1 + (23 : Int).toNat)) ((1 + (23 : Int).toNat : Nat) : Int) d a b imm = ⟨24, 0, a, b, 4 * pickB imm 2048 - 4096⟩ from rfl]
    generalize pickB imm 2048 = pi at *
    clear g4 hpb
    unfold miC
    dsimp only
    go_enter Tryd.func23, Tryd.ntmps23
    go_wp2_with (go_at_call 19; first | (with_reducible refine (g0 _).mono ?_; rintro e w' ⟨rfl, rfl⟩) | (with_reducible refine (g1 _).mono ?_; rintro e w' ⟨rfl, rfl⟩) | (with_reducible refine (g2 _).mono ?_; rintro e w' ⟨rfl, rfl⟩) | (with_reducible refine (g3 _).mono ?_; rintro e w' ⟨rfl, rfl⟩) | (with_reducible refine (g5 _).mono ?_; rintro e w' ⟨rfl, rfl⟩))
    try simp only [Exit.inBlock, Exit.then]
    exact bodyPost_ret (results_cell_row rfl _ _ (w.heap.size + 1) 41 _ (0, 0) _ rfl (heap_alloc2_new _ _ _) Tryd.underlying41 rfl infoRv) rfl ⟨rfl, ((Below.refl _ _).alloc (Nat.le_refl _) _).alloc (by simp) _⟩
  · -- the op 25
    have p := pickB_bounds imm 2048 (by decide)
    have g5 := fun w => g4 2048 w (by decide)
    rw [show mkQ (shOf (1 + (24 : Int).toNat)) ((1 + (24 : Int).toNat : Nat) : Int) d a b imm = ⟨25, 0, a, b, 4 * pickB imm 2048 - 4096⟩ from rfl]
    generalize pickB imm 2048 = pi at *
    clear g4 hpb
    unfold miC
    dsimp only
    go_enter Tryd.func23, Tryd.ntmps23
    go_wp2_with (go_at_call 19; first | (with_reducible refine (g0 _).mono ?_; rintro e w' ⟨rfl, rfl⟩) | (with_reducible refine (g1 _).mono ?_; rintro e w' ⟨rfl, rfl⟩) | (with_reducible refine (g2 _).mono ?_; rintro e w' ⟨rfl, rfl⟩) | (with_reducible refine (g3 _).mono ?_; rintro e w' ⟨rfl, rfl⟩) | (with_reducible refine (g5 _).mono ?_; rintro e w' ⟨rfl, rfl⟩))
    try simp only [Exit.inBlock, Exit.then]
    exact bodyPost_ret (results_cell_row rfl _ _ (w.heap.size + 1) 41 _ (0, 0) _ rfl (heap_alloc2_new _ _ _) Tryd.underlying41 rfl infoRv) rfl ⟨rfl, ((Below.refl _ _).alloc (Nat.le_refl _) _).alloc (by simp) _⟩
  · -- the op 26
    have p := pickB_bounds imm 524288 (by decide)
    have g5 := fun w => g4 524288 w (by decide)
    rw [show mkQ (shOf (1 + (25 : Int).toNat)) ((1 + (25 : Int).toNat : Nat) : Int) d a b imm = ⟨26, d, 0, 0, 4 * pickB imm 524288 - 1048576⟩ from rfl]
    generalize pickB imm 524288 = pi at *
    clear g4 hpb
    unfold miC
    dsimp only
    go_enter Tryd.func23, Tryd.ntmps23
    go_wp2_with (go_at_call 19; first | (with_reducible refine (g0 _).mono ?_; rintro e w' ⟨rfl, rfl⟩) | (with_reducible refine (g1 _).mono ?_; rintro e w' ⟨rfl, rfl⟩) | (with_reducible refine (g2 _).mono ?_; rintro e w' ⟨rfl, rfl⟩) | (with_reducible refine (g3 _).mono ?_; rintro e w' ⟨rfl, rfl⟩) | (with_reducible refine (g5 _).mono ?_; rintro e w' ⟨rfl, rfl⟩))
    try simp only [Exit.inBlock, Exit.then]
    exact bodyPost_ret (results_cell_row rfl _ _ (w.heap.size + 1) 41 _ (0, 0) _ rfl (heap_alloc2_new _ _ _) Tryd.underlying41 rfl infoRv) rfl ⟨rfl, ((Below.refl _ _).alloc (Nat.le_refl _) _).alloc (by simp) _⟩
  · -- the op 27
    have p := pickB_bounds imm 4096 (by decide)
    have g5 := fun w => g4 4096 w (by decide)
    rw [show mkQ (shOf (1 + (26 : Int).toNat)) ((1 + (26 : Int).toNat : Nat) : Int) d a b imm = ⟨27, d, a, 0, pickB imm 4096 - 2048⟩ from rfl]
    generalize pickB imm 4096 = pi at *
    clear g4 hpb
    unfold miC
    dsimp only
    go_enter Tryd.func23, Tryd.ntmps23
    go_wp2_with (go_at_call 19; first | (with_reducible refine (g0 _).mono ?_; rintro e w' ⟨rfl, rfl⟩) | (with_reducible refine (g1 _).mono ?_; rintro e w' ⟨rfl, rfl⟩) | (with_reducible refine (g2 _).mono ?_; rintro e w' ⟨rfl, rfl⟩) | (with_reducible refine (g3 _).mono ?_; rintro e w' ⟨rfl, rfl⟩) | (with_reducible refine (g5 _).mono ?_; rintro e w' ⟨rfl, rfl⟩))
    try simp only [Exit.inBlock, Exit.then]
    exact bodyPost_ret (results_cell_row rfl _ _ (w.heap.size + 1) 41 _ (0, 0) _ rfl (heap_alloc2_new _ _ _) Tryd.underlying41 rfl infoRv) rfl ⟨rfl, ((Below.refl _ _).alloc (Nat.le_refl _) _).alloc (by simp) _⟩
  · -- the op 28
    have p := pickB_bounds imm 1048576 (by decide)
    have g5 := fun w => g4 1048576 w (by decide)
    rw [show mkQ (shOf (1 + (27 : Int).toNat)) ((1 + (27 : Int).toNat : Nat) : Int) d a b imm = ⟨28, d, 0, 0, pickB imm 1048576 - 524288⟩ from rfl]
    generalize pickB imm 1048576 = pi at *
    clear g4 hpb
    unfold miC
    dsimp only
    go_enter Tryd.func23, Tryd.ntmps23
    go_wp2_with (go_at_call 19; first | (with_reducible refine (g0 _).mono ?_; rintro e w' ⟨rfl, rfl⟩) | (with_reducible refine (g1 _).mono ?_; rintro e w' ⟨rfl, rfl⟩) | (with_reducible refine (g2 _).mono ?_; rintro e w' ⟨rfl, rfl⟩) | (with_reducible refine (g3 _).mono ?_; rintro e w' ⟨rfl, rfl⟩) | (with_reducible refine (g5 _).mono ?_; rintro e w' ⟨rfl, rfl⟩))
    try simp only [Exit.inBlock, Exit.then]
    exact bodyPost_ret (results_cell_row rfl _ _ (w.heap.size + 1) 41 _ (0, 0) _ rfl (heap_alloc2_new _ _ _) Tryd.underlying41 rfl infoRv) rfl ⟨rfl, ((Below.refl _ _).alloc (Nat.le_refl _) _).alloc (by simp) _⟩
  · -- the op 29
    rw [show mkQ (shOf (1 + (28 : Int).toNat)) ((1 + (28 : Int).toNat : Nat) : Int) d a b imm = ⟨29, 0, 0, 0, 0⟩ from rfl]
    clear g4 hpb
    unfold miC
    dsimp only
    go_enter Tryd.func23, Tryd.ntmps23
    go_wp2_with (go_at_call 19; first | (with_reducible refine (g0 _).mono ?_; rintro e w' ⟨rfl, rfl⟩) | (with_reducible refine (g1 _).mono ?_; rintro e w' ⟨rfl, rfl⟩) | (with_reducible refine (g2 _).mono ?_; rintro e w' ⟨rfl, rfl⟩) | (with_reducible refine (g3 _).mono ?_; rintro e w' ⟨rfl, rfl⟩))
    try simp only [Exit.inBlock, Exit.then]
    exact bodyPost_ret (results_cell_row rfl _ _ (w.heap.size + 1) 41 _ (0, 0) _ rfl (heap_alloc2_new _ _ _) Tryd.underlying41 rfl infoRv) rfl ⟨rfl, ((Below.refl _ _).alloc (Nat.le_refl _) _).alloc (by simp) _⟩

end Go.Proofs.YtapjfiihfgndeaaDoor
