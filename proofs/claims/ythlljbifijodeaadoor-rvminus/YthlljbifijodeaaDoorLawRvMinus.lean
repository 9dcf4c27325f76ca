/- The walk of tierlinekeep.RvMinus: at all numbers it says true, and nothing that was there has turned. -/
import Derived.Test.YthlljbifijodeaaDoorLawRvBack
namespace Go.Proofs.YthlljbifijodeaaDoor
open Go Go.RowKit

theorem minus_ok (k i r : Int) (hk : k = 12 ∨ k = 20 ∨ k = 21 ∨ k = 22 ∨ k = 26 ∨ k = 28) (h0 : -2000 ≤ i) (h1 : i ≤ -4) (h4 : i % 4 = 0) (r0 : 0 ≤ r) (r1 : r < 32) (hr : k = 21 ∨ k = 22 → r = 0) : MiOk ⟨k, r, 0, 0, i⟩ := by
  rcases hk with rfl | rfl | rfl | rfl | rfl | rfl <;> refine ⟨by dsimp only; omega, by dsimp only; omega, ?_⟩ <;> rw [fits_iff] <;> simp [shOf, ptL, shF, shL] <;> simp at hr
  all_goals first | omega | (refine ⟨by omega, by omega, by omega, by omega, ?_⟩; exact tmod4' _ h4)
theorem minus_top (k i r : Int) (hk : k = 12 ∨ k = 20 ∨ k = 21 ∨ k = 22 ∨ k = 26 ∨ k = 28) (h0 : -2000 ≤ i) (h1 : i ≤ -4) (h4 : i % 4 = 0) (r0 : 0 ≤ r) (r1 : r < 32) (hr : k = 21 ∨ k = 22 → r = 0) : wordI ⟨k, r, 0, 0, i⟩ / 2147483648 = 1 := by
  have hok := minus_ok k i r hk h0 h1 h4 r0 r1 hr
  obtain ⟨-, -, p0, p1, hp, -⟩ := dec_word _ hok
  have hc : (partsOf (wordI ⟨k, r, 0, 0, i⟩)).c = (wordP ⟨k, r, 0, 0, i⟩).c := by rw [hp]
  have hc' : (partsOf (wordI ⟨k, r, 0, 0, i⟩)).c = wordI ⟨k, r, 0, 0, i⟩ / 33554432 := rfl
  rw [hc'] at hc
  generalize wordI ⟨k, r, 0, 0, i⟩ = V at *
  have : 64 ≤ (wordP ⟨k, r, 0, 0, i⟩).c := by
    rcases hk with rfl | rfl | rfl | rfl | rfl | rfl <;> simp [wordP, wordQ, shOf, ptL] <;> omega
  omega

set_option maxRecDepth 100000 in
set_option maxHeartbeats 2000000 in
theorem rvMinus_walk (op n r : Int) (h0 : Fits op) (h1 : Fits n) (h2 : Fits r) (w : World) (ht : RvTab w) :
    Calls Tryd.prog 11 #[.int .i64 op, .int .i64 n, .int .i64 r] w fun e w' => e = .returned (.bool true) ∧ Below w.heap.size w w' := by
  have g6 := fun W => picked_big op 6 W h0 (by decide)
  have g5 := fun W => picked_big n 500 W h1 (by decide)
  have g3 := fun W => picked_big r 32 W h2 (by decide)
  have p6 := pickB_bounds op 6 (by decide)
  have p5 := pickB_bounds n 500 (by decide)
  have p3 := pickB_bounds r 32 (by decide)
  generalize pickB op 6 = q at *
  generalize pickB n 500 = p at *
  generalize pickB r 32 = m at *
  clear h0 h1 h2
  rcases (show q = 0 ∨ q = 1 ∨ q = 2 ∨ q = 3 ∨ q = 4 ∨ q = 5 by omega) with rfl | rfl | rfl | rfl | rfl | rfl
  · have hok := minus_ok 12 (-4 * (1 + p)) m (by omega) (by omega) (by omega) (by omega) (by omega) (by omega) (by omega)
    have htop := minus_top 12 (-4 * (1 + p)) m (by omega) (by omega) (by omega) (by omega) (by omega) (by omega) (by omega)
    have HE : Hid (∀ W, Below w.heap.size w W → Calls Tryd.prog 14 #[(⟨12, m, 0, 0, -4 * (1 + p)⟩ : Mi).val] W fun e w' => e = .returned (.tuple #[.int .i64 (wordI ⟨12, m, 0, 0, -4 * (1 + p)⟩), .int .i64 0]) ∧ Below W.heap.size W w') := fun W hW => enc_ok _ hok W (ht.below hW)
    have HD : Hid (∀ W, Below w.heap.size w W → Calls Tryd.prog 16 #[.int .i64 (wordI ⟨12, m, 0, 0, -4 * (1 + p)⟩)] W fun e w' => e = .returned (.tuple #[(⟨12, m, 0, 0, -4 * (1 + p)⟩ : Mi).val, .int .i64 0]) ∧ Below W.heap.size W w') := fun W hW => dec_ok _ hok W (ht.below hW)
    generalize wordI ⟨12, m, 0, 0, -4 * (1 + p)⟩ = V at *
    unfold Mi.val at HE HD
    dsimp only at HE HD
    clear hok ht
    go_enter Tryd.func11, Tryd.ntmps11
    go_wp2_with (first
      | (go_at_call 19; first | (with_reducible refine (g6 _).mono ?_; rintro e w' ⟨rfl, rfl⟩) | (with_reducible refine (g5 _).mono ?_; rintro e w' ⟨rfl, rfl⟩) | (with_reducible refine (g3 _).mono ?_; rintro e w' ⟨rfl, rfl⟩))
      | (go_at_call 14; refine (HE.out _ (((Below.refl _ _).alloc (Nat.le_refl _) _).alloc (by simp) _)).mono ?_; rintro e w2 ⟨rfl, hb2⟩; have HB2 : Hid (Below w.heap.size w w2) := (((Below.refl _ _).alloc (Nat.le_refl _) _).alloc (by simp) _).trans (hb2.mono (by simp; omega)); have hz2 : w.heap.size + 1 < w2.heap.size := Nat.lt_of_lt_of_le (by simp) hb2.size; have HC0 : Hid _ := (hb2.block (w.heap.size + 1) (by simp)).trans (heap_alloc2_new w _ _); clear hb2)
      | (go_at_call 16; refine (HD.out _ HB2.out).mono ?_; rintro e w3 ⟨rfl, hb3⟩; have HB3 : Hid (Below w.heap.size w w3) := HB2.out.trans (hb3.mono HB2.out.size); have c3 := cells5 ((hb3.block (w.heap.size + 1) hz2).trans HC0.out); have hz3 : w.heap.size + 1 < w3.heap.size := Nat.lt_of_lt_of_le hz2 hb3.size; have d0 := fun o => cell_alloc c3.1 o; have d1 := fun o => cell_alloc c3.2.1 o; have d2 := fun o => cell_alloc c3.2.2.1 o; have d3 := fun o => cell_alloc c3.2.2.2.1 o; have d4 := fun o => cell_alloc c3.2.2.2.2 o; clear hb3 c3))
    go_ret
    exact ⟨by simp, HB3.out.alloc HB3.out.size _⟩
  · have hok := minus_ok 20 (-4 * (1 + p)) m (by omega) (by omega) (by omega) (by omega) (by omega) (by omega) (by omega)
    have htop := minus_top 20 (-4 * (1 + p)) m (by omega) (by omega) (by omega) (by omega) (by omega) (by omega) (by omega)
    have HE : Hid (∀ W, Below w.heap.size w W → Calls Tryd.prog 14 #[(⟨20, m, 0, 0, -4 * (1 + p)⟩ : Mi).val] W fun e w' => e = .returned (.tuple #[.int .i64 (wordI ⟨20, m, 0, 0, -4 * (1 + p)⟩), .int .i64 0]) ∧ Below W.heap.size W w') := fun W hW => enc_ok _ hok W (ht.below hW)
    have HD : Hid (∀ W, Below w.heap.size w W → Calls Tryd.prog 16 #[.int .i64 (wordI ⟨20, m, 0, 0, -4 * (1 + p)⟩)] W fun e w' => e = .returned (.tuple #[(⟨20, m, 0, 0, -4 * (1 + p)⟩ : Mi).val, .int .i64 0]) ∧ Below W.heap.size W w') := fun W hW => dec_ok _ hok W (ht.below hW)
    generalize wordI ⟨20, m, 0, 0, -4 * (1 + p)⟩ = V at *
    unfold Mi.val at HE HD
    dsimp only at HE HD
    clear hok ht
    go_enter Tryd.func11, Tryd.ntmps11
    go_wp2_with (first
      | (go_at_call 19; first | (with_reducible refine (g6 _).mono ?_; rintro e w' ⟨rfl, rfl⟩) | (with_reducible refine (g5 _).mono ?_; rintro e w' ⟨rfl, rfl⟩) | (with_reducible refine (g3 _).mono ?_; rintro e w' ⟨rfl, rfl⟩))
      | (go_at_call 14; refine (HE.out _ (((Below.refl _ _).alloc (Nat.le_refl _) _).alloc (by simp) _)).mono ?_; rintro e w2 ⟨rfl, hb2⟩; have HB2 : Hid (Below w.heap.size w w2) := (((Below.refl _ _).alloc (Nat.le_refl _) _).alloc (by simp) _).trans (hb2.mono (by simp; omega)); have hz2 : w.heap.size + 1 < w2.heap.size := Nat.lt_of_lt_of_le (by simp) hb2.size; have HC0 : Hid _ := (hb2.block (w.heap.size + 1) (by simp)).trans (heap_alloc2_new w _ _); clear hb2)
      | (go_at_call 16; refine (HD.out _ HB2.out).mono ?_; rintro e w3 ⟨rfl, hb3⟩; have HB3 : Hid (Below w.heap.size w w3) := HB2.out.trans (hb3.mono HB2.out.size); have c3 := cells5 ((hb3.block (w.heap.size + 1) hz2).trans HC0.out); have hz3 : w.heap.size + 1 < w3.heap.size := Nat.lt_of_lt_of_le hz2 hb3.size; have d0 := fun o => cell_alloc c3.1 o; have d1 := fun o => cell_alloc c3.2.1 o; have d2 := fun o => cell_alloc c3.2.2.1 o; have d3 := fun o => cell_alloc c3.2.2.2.1 o; have d4 := fun o => cell_alloc c3.2.2.2.2 o; clear hb3 c3))
    go_ret
    exact ⟨by simp, HB3.out.alloc HB3.out.size _⟩
  · have hok := minus_ok 21 (-4 * (1 + p)) 0 (by omega) (by omega) (by omega) (by omega) (by omega) (by omega) (by omega)
    have htop := minus_top 21 (-4 * (1 + p)) 0 (by omega) (by omega) (by omega) (by omega) (by omega) (by omega) (by omega)
    have HE : Hid (∀ W, Below w.heap.size w W → Calls Tryd.prog 14 #[(⟨21, 0, 0, 0, -4 * (1 + p)⟩ : Mi).val] W fun e w' => e = .returned (.tuple #[.int .i64 (wordI ⟨21, 0, 0, 0, -4 * (1 + p)⟩), .int .i64 0]) ∧ Below W.heap.size W w') := fun W hW => enc_ok _ hok W (ht.below hW)
    have HD : Hid (∀ W, Below w.heap.size w W → Calls Tryd.prog 16 #[.int .i64 (wordI ⟨21, 0, 0, 0, -4 * (1 + p)⟩)] W fun e w' => e = .returned (.tuple #[(⟨21, 0, 0, 0, -4 * (1 + p)⟩ : Mi).val, .int .i64 0]) ∧ Below W.heap.size W w') := fun W hW => dec_ok _ hok W (ht.below hW)
    generalize wordI ⟨21, 0, 0, 0, -4 * (1 + p)⟩ = V at *
    unfold Mi.val at HE HD
    dsimp only at HE HD
    clear hok ht
    go_enter Tryd.func11, Tryd.ntmps11
    go_wp2_with (first
      | (go_at_call 19; first | (with_reducible refine (g6 _).mono ?_; rintro e w' ⟨rfl, rfl⟩) | (with_reducible refine (g5 _).mono ?_; rintro e w' ⟨rfl, rfl⟩) | (with_reducible refine (g3 _).mono ?_; rintro e w' ⟨rfl, rfl⟩))
      | (go_at_call 14; refine (HE.out _ (((Below.refl _ _).alloc (Nat.le_refl _) _).alloc (by simp) _)).mono ?_; rintro e w2 ⟨rfl, hb2⟩; have HB2 : Hid (Below w.heap.size w w2) := (((Below.refl _ _).alloc (Nat.le_refl _) _).alloc (by simp) _).trans (hb2.mono (by simp; omega)); have hz2 : w.heap.size + 1 < w2.heap.size := Nat.lt_of_lt_of_le (by simp) hb2.size; have HC0 : Hid _ := (hb2.block (w.heap.size + 1) (by simp)).trans (heap_alloc2_new w _ _); clear hb2)
      | (go_at_call 16; refine (HD.out _ HB2.out).mono ?_; rintro e w3 ⟨rfl, hb3⟩; have HB3 : Hid (Below w.heap.size w w3) := HB2.out.trans (hb3.mono HB2.out.size); have c3 := cells5 ((hb3.block (w.heap.size + 1) hz2).trans HC0.out); have hz3 : w.heap.size + 1 < w3.heap.size := Nat.lt_of_lt_of_le hz2 hb3.size; have d0 := fun o => cell_alloc c3.1 o; have d1 := fun o => cell_alloc c3.2.1 o; have d2 := fun o => cell_alloc c3.2.2.1 o; have d3 := fun o => cell_alloc c3.2.2.2.1 o; have d4 := fun o => cell_alloc c3.2.2.2.2 o; clear hb3 c3))
    go_ret
    exact ⟨by simp, HB3.out.alloc HB3.out.size _⟩
  · have hok := minus_ok 22 (-4 * (1 + p)) 0 (by omega) (by omega) (by omega) (by omega) (by omega) (by omega) (by omega)
    have htop := minus_top 22 (-4 * (1 + p)) 0 (by omega) (by omega) (by omega) (by omega) (by omega) (by omega) (by omega)
    have HE : Hid (∀ W, Below w.heap.size w W → Calls Tryd.prog 14 #[(⟨22, 0, 0, 0, -4 * (1 + p)⟩ : Mi).val] W fun e w' => e = .returned (.tuple #[.int .i64 (wordI ⟨22, 0, 0, 0, -4 * (1 + p)⟩), .int .i64 0]) ∧ Below W.heap.size W w') := fun W hW => enc_ok _ hok W (ht.below hW)
    have HD : Hid (∀ W, Below w.heap.size w W → Calls Tryd.prog 16 #[.int .i64 (wordI ⟨22, 0, 0, 0, -4 * (1 + p)⟩)] W fun e w' => e = .returned (.tuple #[(⟨22, 0, 0, 0, -4 * (1 + p)⟩ : Mi).val, .int .i64 0]) ∧ Below W.heap.size W w') := fun W hW => dec_ok _ hok W (ht.below hW)
    generalize wordI ⟨22, 0, 0, 0, -4 * (1 + p)⟩ = V at *
    unfold Mi.val at HE HD
    dsimp only at HE HD
    clear hok ht
    go_enter Tryd.func11, Tryd.ntmps11
    go_wp2_with (first
      | (go_at_call 19; first | (with_reducible refine (g6 _).mono ?_; rintro e w' ⟨rfl, rfl⟩) | (with_reducible refine (g5 _).mono ?_; rintro e w' ⟨rfl, rfl⟩) | (with_reducible refine (g3 _).mono ?_; rintro e w' ⟨rfl, rfl⟩))
      | (go_at_call 14; refine (HE.out _ (((Below.refl _ _).alloc (Nat.le_refl _) _).alloc (by simp) _)).mono ?_; rintro e w2 ⟨rfl, hb2⟩; have HB2 : Hid (Below w.heap.size w w2) := (((Below.refl _ _).alloc (Nat.le_refl _) _).alloc (by simp) _).trans (hb2.mono (by simp; omega)); have hz2 : w.heap.size + 1 < w2.heap.size := Nat.lt_of_lt_of_le (by simp) hb2.size; have HC0 : Hid _ := (hb2.block (w.heap.size + 1) (by simp)).trans (heap_alloc2_new w _ _); clear hb2)
      | (go_at_call 16; refine (HD.out _ HB2.out).mono ?_; rintro e w3 ⟨rfl, hb3⟩; have HB3 : Hid (Below w.heap.size w w3) := HB2.out.trans (hb3.mono HB2.out.size); have c3 := cells5 ((hb3.block (w.heap.size + 1) hz2).trans HC0.out); have hz3 : w.heap.size + 1 < w3.heap.size := Nat.lt_of_lt_of_le hz2 hb3.size; have d0 := fun o => cell_alloc c3.1 o; have d1 := fun o => cell_alloc c3.2.1 o; have d2 := fun o => cell_alloc c3.2.2.1 o; have d3 := fun o => cell_alloc c3.2.2.2.1 o; have d4 := fun o => cell_alloc c3.2.2.2.2 o; clear hb3 c3))
    go_ret
    exact ⟨by simp, HB3.out.alloc HB3.out.size _⟩
  · have hok := minus_ok 26 (-4 * (1 + p)) 0 (by omega) (by omega) (by omega) (by omega) (by omega) (by omega) (by omega)
    have htop := minus_top 26 (-4 * (1 + p)) 0 (by omega) (by omega) (by omega) (by omega) (by omega) (by omega) (by omega)
    have HE : Hid (∀ W, Below w.heap.size w W → Calls Tryd.prog 14 #[(⟨26, 0, 0, 0, -4 * (1 + p)⟩ : Mi).val] W fun e w' => e = .returned (.tuple #[.int .i64 (wordI ⟨26, 0, 0, 0, -4 * (1 + p)⟩), .int .i64 0]) ∧ Below W.heap.size W w') := fun W hW => enc_ok _ hok W (ht.below hW)
    have HD : Hid (∀ W, Below w.heap.size w W → Calls Tryd.prog 16 #[.int .i64 (wordI ⟨26, 0, 0, 0, -4 * (1 + p)⟩)] W fun e w' => e = .returned (.tuple #[(⟨26, 0, 0, 0, -4 * (1 + p)⟩ : Mi).val, .int .i64 0]) ∧ Below W.heap.size W w') := fun W hW => dec_ok _ hok W (ht.below hW)
    generalize wordI ⟨26, 0, 0, 0, -4 * (1 + p)⟩ = V at *
    unfold Mi.val at HE HD
    dsimp only at HE HD
    clear hok ht
    go_enter Tryd.func11, Tryd.ntmps11
    go_wp2_with (first
      | (go_at_call 19; first | (with_reducible refine (g6 _).mono ?_; rintro e w' ⟨rfl, rfl⟩) | (with_reducible refine (g5 _).mono ?_; rintro e w' ⟨rfl, rfl⟩) | (with_reducible refine (g3 _).mono ?_; rintro e w' ⟨rfl, rfl⟩))
      | (go_at_call 14; refine (HE.out _ (((Below.refl _ _).alloc (Nat.le_refl _) _).alloc (by simp) _)).mono ?_; rintro e w2 ⟨rfl, hb2⟩; have HB2 : Hid (Below w.heap.size w w2) := (((Below.refl _ _).alloc (Nat.le_refl _) _).alloc (by simp) _).trans (hb2.mono (by simp; omega)); have hz2 : w.heap.size + 1 < w2.heap.size := Nat.lt_of_lt_of_le (by simp) hb2.size; have HC0 : Hid _ := (hb2.block (w.heap.size + 1) (by simp)).trans (heap_alloc2_new w _ _); clear hb2)
      | (go_at_call 16; refine (HD.out _ HB2.out).mono ?_; rintro e w3 ⟨rfl, hb3⟩; have HB3 : Hid (Below w.heap.size w w3) := HB2.out.trans (hb3.mono HB2.out.size); have c3 := cells5 ((hb3.block (w.heap.size + 1) hz2).trans HC0.out); have hz3 : w.heap.size + 1 < w3.heap.size := Nat.lt_of_lt_of_le hz2 hb3.size; have d0 := fun o => cell_alloc c3.1 o; have d1 := fun o => cell_alloc c3.2.1 o; have d2 := fun o => cell_alloc c3.2.2.1 o; have d3 := fun o => cell_alloc c3.2.2.2.1 o; have d4 := fun o => cell_alloc c3.2.2.2.2 o; clear hb3 c3))
    go_ret
    exact ⟨by simp, HB3.out.alloc HB3.out.size _⟩
  · have hok := minus_ok 28 (-4 * (1 + p)) 0 (by omega) (by omega) (by omega) (by omega) (by omega) (by omega) (by omega)
    have htop := minus_top 28 (-4 * (1 + p)) 0 (by omega) (by omega) (by omega) (by omega) (by omega) (by omega) (by omega)
    have HE : Hid (∀ W, Below w.heap.size w W → Calls Tryd.prog 14 #[(⟨28, 0, 0, 0, -4 * (1 + p)⟩ : Mi).val] W fun e w' => e = .returned (.tuple #[.int .i64 (wordI ⟨28, 0, 0, 0, -4 * (1 + p)⟩), .int .i64 0]) ∧ Below W.heap.size W w') := fun W hW => enc_ok _ hok W (ht.below hW)
    have HD : Hid (∀ W, Below w.heap.size w W → Calls Tryd.prog 16 #[.int .i64 (wordI ⟨28, 0, 0, 0, -4 * (1 + p)⟩)] W fun e w' => e = .returned (.tuple #[(⟨28, 0, 0, 0, -4 * (1 + p)⟩ : Mi).val, .int .i64 0]) ∧ Below W.heap.size W w') := fun W hW => dec_ok _ hok W (ht.below hW)
    generalize wordI ⟨28, 0, 0, 0, -4 * (1 + p)⟩ = V at *
    unfold Mi.val at HE HD
    dsimp only at HE HD
    clear hok ht
    go_enter Tryd.func11, Tryd.ntmps11
    go_wp2_with (first
      | (go_at_call 19; first | (with_reducible refine (g6 _).mono ?_; rintro e w' ⟨rfl, rfl⟩) | (with_reducible refine (g5 _).mono ?_; rintro e w' ⟨rfl, rfl⟩) | (with_reducible refine (g3 _).mono ?_; rintro e w' ⟨rfl, rfl⟩))
      | (go_at_call 14; refine (HE.out _ (((Below.refl _ _).alloc (Nat.le_refl _) _).alloc (by simp) _)).mono ?_; rintro e w2 ⟨rfl, hb2⟩; have HB2 : Hid (Below w.heap.size w w2) := (((Below.refl _ _).alloc (Nat.le_refl _) _).alloc (by simp) _).trans (hb2.mono (by simp; omega)); have hz2 : w.heap.size + 1 < w2.heap.size := Nat.lt_of_lt_of_le (by simp) hb2.size; have HC0 : Hid _ := (hb2.block (w.heap.size + 1) (by simp)).trans (heap_alloc2_new w _ _); clear hb2)
      | (go_at_call 16; refine (HD.out _ HB2.out).mono ?_; rintro e w3 ⟨rfl, hb3⟩; have HB3 : Hid (Below w.heap.size w w3) := HB2.out.trans (hb3.mono HB2.out.size); have c3 := cells5 ((hb3.block (w.heap.size + 1) hz2).trans HC0.out); have hz3 : w.heap.size + 1 < w3.heap.size := Nat.lt_of_lt_of_le hz2 hb3.size; have d0 := fun o => cell_alloc c3.1 o; have d1 := fun o => cell_alloc c3.2.1 o; have d2 := fun o => cell_alloc c3.2.2.1 o; have d3 := fun o => cell_alloc c3.2.2.2.1 o; have d4 := fun o => cell_alloc c3.2.2.2.2 o; clear hb3 c3))
    go_ret
    exact ⟨by simp, HB3.out.alloc HB3.out.size _⟩
end Go.Proofs.YthlljbifijodeaaDoor
