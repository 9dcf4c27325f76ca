/- The walk of tierlinekeep.RvApart: at all raw numbers it says true, and nothing that was there has turned. -/
import Derived.Test.YthlljbifijodeaaDoorLawRvBack
namespace Go.Proofs.YthlljbifijodeaaDoor
open Go Go.RowKit

theorem word_inj (x y : Mi) (hx : MiOk x) (hy : MiOk y) : wordI x = wordI y ↔ x = y := by
  constructor
  · intro h
    rw [← (dec_word x hx).1, h, (dec_word y hy).1]
  · rintro rfl; rfl
theorem and3 (v : Int) (h0 : 0 < v) (h1 : v < 4294967296) (h3 : v % 4 = 3) : bits .and .i64 v 3 = 3 := by
  rw [and_full 2 (by decide) v 3 rfl (by omega) h1]; simp; omega

set_option maxRecDepth 100000 in
set_option maxHeartbeats 2000000 in
theorem rvApart_walk (x y : Mi) (h : MiFits x) (k : MiFits y) (w : World) (ht : RvTab w) :
    Calls Tryd.prog 8 #[x.val, y.val] w fun e w' => e = .returned (.bool true) ∧ Below w.heap.size w w' := by
  have hK : ∀ W, Calls Tryd.prog 18 #[x.val] W fun e w' => e = .returned (mkRv x).val ∧ Below W.heap.size W w' := fun W => keep_rv x h W
  have hL : ∀ W, Calls Tryd.prog 18 #[y.val] W fun e w' => e = .returned (mkRv y).val ∧ Below W.heap.size W w' := fun W => keep_rv y k W
  have hx := mkRv_ok x
  have hy := mkRv_ok y
  have hE : (∀ W, Below w.heap.size w W → Calls Tryd.prog 14 #[(mkRv x).val] W fun e w' => e = .returned (.tuple #[.int .i64 (wordI (mkRv x)), .int .i64 0]) ∧ Below W.heap.size W w') := fun W hW => enc_ok _ hx W (ht.below hW)
  have hF : (∀ W, Below w.heap.size w W → Calls Tryd.prog 14 #[(mkRv y).val] W fun e w' => e = .returned (.tuple #[.int .i64 (wordI (mkRv y)), .int .i64 0]) ∧ Below W.heap.size W w') := fun W hW => enc_ok _ hy W (ht.below hW)
  have hinj := word_inj _ _ hx hy
  obtain ⟨-, -, p0, p1, -, p2⟩ := dec_word _ hx
  have h3 := and3 _ p0 p1 p2
  clear h k hx hy ht p0 p1 p2
  generalize mkRv x = X at *
  generalize mkRv y = Y at *
  generalize wordI X = V at *
  generalize wordI Y = U at *
  obtain ⟨op, rd, rs1, rs2, imm⟩ := X
  obtain ⟨op', rd', rs1', rs2', imm'⟩ := Y
  obtain ⟨xo, xd, xa, xb, xi⟩ := x
  obtain ⟨yo, yd, ya, yb, yi⟩ := y
  unfold Mi.val at *
  dsimp only at *
  have HI : Hid ((V = U) ↔ (op = op' ∧ rd = rd' ∧ rs1 = rs1' ∧ rs2 = rs2' ∧ imm = imm')) := by
    show _ ↔ _
    rw [hinj]; simp
  clear hinj
  by_cases hq : op = op' ∧ rd = rd' ∧ rs1 = rs1' ∧ rs2 = rs2' ∧ imm = imm'
  · obtain rfl := HI.out.2 hq
    obtain ⟨rfl, rfl, rfl, rfl, rfl⟩ := hq
    go_enter Tryd.func8, Tryd.ntmps8
    go_wp2_with (first
      | (go_at_call 18; (with_reducible refine (hK _).mono ?_); rintro e w1 ⟨rfl, hb1⟩; have HB1 : Hid (Below w.heap.size w w1) := (((Below.refl _ _).alloc (Nat.le_refl _) _).alloc (by simp) _).trans (hb1.mono (by simp; omega)); have hz1 : w.heap.size + 1 < w1.heap.size := Nat.lt_of_lt_of_le (by simp) hb1.size; have q := cells5 ((hb1.block (w.heap.size + 1) (by simp)).trans (heap_alloc2_new w _ _)); have q0 := fun o => cell_alloc q.1 o; have q1 := fun o => cell_alloc q.2.1 o; have q2 := fun o => cell_alloc q.2.2.1 o; have q3 := fun o => cell_alloc q.2.2.2.1 o; have q4 := fun o => cell_alloc q.2.2.2.2 o; clear hb1 q)
      | (go_at_call 18; (with_reducible refine (hL _).mono ?_); rintro e w2 ⟨rfl, hb2⟩; have HB2 : Hid (Below w.heap.size w w2) := (HB1.out.alloc HB1.out.size _).trans (hb2.mono (by have := HB1.out.size; simp; omega)); have hz2 : w1.heap.size < w2.heap.size := Nat.lt_of_lt_of_le (by simp) hb2.size; have HC0 : Hid _ := (hb2.block w1.heap.size (by simp)).trans (heap_alloc_last w1 _); have r := cells5 HC0.out; have r0 := fun o => cell_alloc r.1 o; have r1 := fun o => cell_alloc r.2.1 o; have r2 := fun o => cell_alloc r.2.2.1 o; have r3 := fun o => cell_alloc r.2.2.2.1 o; have r4 := fun o => cell_alloc r.2.2.2.2 o; clear hb2 r q0 q1 q2 q3 q4)
      | (go_at_call 14; (with_reducible refine (hE _ (HB2.out.alloc HB2.out.size _)).mono ?_); rintro e w3 ⟨rfl, hb3⟩; have HB3 : Hid (Below w.heap.size w w3) := (HB2.out.alloc HB2.out.size _).trans (hb3.mono (by have := HB2.out.size; simp; omega)); have hz3 : w2.heap.size < w3.heap.size := Nat.lt_of_lt_of_le (by simp) hb3.size; have HC3 : Hid _ := (hb3.block w1.heap.size (by simp; omega)).trans ((((Below.refl _ w2).alloc (Nat.le_refl _) _).block w1.heap.size hz2).trans HC0.out); have HD3 : Hid _ := (hb3.block w2.heap.size (by simp)).trans (heap_alloc_last w2 _); have s := cells5 HD3.out; obtain ⟨s0, s1, s2, s3, s4⟩ := s; clear hb3 r0 r1 r2 r3 r4)
      | (go_at_call 14; (with_reducible refine (hF _ HB3.out).mono ?_); rintro e w4 ⟨rfl, hb4⟩; have HB4 : Hid (Below w.heap.size w w4) := HB3.out.trans (hb4.mono HB3.out.size); have u := cells5 ((hb4.block w1.heap.size (by omega)).trans HC3.out); obtain ⟨u0, u1, u2, u3, u4⟩ := u; have v := cells5 ((hb4.block w2.heap.size hz3).trans HD3.out); obtain ⟨v0, v1, v2, v3, v4⟩ := v; clear hb4 s0 s1 s2 s3 s4))
    all_goals
      go_ret
      exact ⟨by simp, HB4.out⟩
  · have hv : (V == U) = false := by
      rw [beq_eq_false_iff_ne]
      exact fun h => hq (HI.out.1 h)
    go_enter Tryd.func8, Tryd.ntmps8
    go_wp2_with (first
      | (go_at_call 18; (with_reducible refine (hK _).mono ?_); rintro e w1 ⟨rfl, hb1⟩; have HB1 : Hid (Below w.heap.size w w1) := (((Below.refl _ _).alloc (Nat.le_refl _) _).alloc (by simp) _).trans (hb1.mono (by simp; omega)); have hz1 : w.heap.size + 1 < w1.heap.size := Nat.lt_of_lt_of_le (by simp) hb1.size; have q := cells5 ((hb1.block (w.heap.size + 1) (by simp)).trans (heap_alloc2_new w _ _)); have q0 := fun o => cell_alloc q.1 o; have q1 := fun o => cell_alloc q.2.1 o; have q2 := fun o => cell_alloc q.2.2.1 o; have q3 := fun o => cell_alloc q.2.2.2.1 o; have q4 := fun o => cell_alloc q.2.2.2.2 o; clear hb1 q)
      | (go_at_call 18; (with_reducible refine (hL _).mono ?_); rintro e w2 ⟨rfl, hb2⟩; have HB2 : Hid (Below w.heap.size w w2) := (HB1.out.alloc HB1.out.size _).trans (hb2.mono (by have := HB1.out.size; simp; omega)); have hz2 : w1.heap.size < w2.heap.size := Nat.lt_of_lt_of_le (by simp) hb2.size; have HC0 : Hid _ := (hb2.block w1.heap.size (by simp)).trans (heap_alloc_last w1 _); have r := cells5 HC0.out; have r0 := fun o => cell_alloc r.1 o; have r1 := fun o => cell_alloc r.2.1 o; have r2 := fun o => cell_alloc r.2.2.1 o; have r3 := fun o => cell_alloc r.2.2.2.1 o; have r4 := fun o => cell_alloc r.2.2.2.2 o; clear hb2 r q0 q1 q2 q3 q4)
      | (go_at_call 14; (with_reducible refine (hE _ (HB2.out.alloc HB2.out.size _)).mono ?_); rintro e w3 ⟨rfl, hb3⟩; have HB3 : Hid (Below w.heap.size w w3) := (HB2.out.alloc HB2.out.size _).trans (hb3.mono (by have := HB2.out.size; simp; omega)); have hz3 : w2.heap.size < w3.heap.size := Nat.lt_of_lt_of_le (by simp) hb3.size; have HC3 : Hid _ := (hb3.block w1.heap.size (by simp; omega)).trans ((((Below.refl _ w2).alloc (Nat.le_refl _) _).block w1.heap.size hz2).trans HC0.out); have HD3 : Hid _ := (hb3.block w2.heap.size (by simp)).trans (heap_alloc_last w2 _); have s := cells5 HD3.out; obtain ⟨s0, s1, s2, s3, s4⟩ := s; clear hb3 r0 r1 r2 r3 r4)
      | (go_at_call 14; (with_reducible refine (hF _ HB3.out).mono ?_); rintro e w4 ⟨rfl, hb4⟩; have HB4 : Hid (Below w.heap.size w w4) := HB3.out.trans (hb4.mono HB3.out.size); have u := cells5 ((hb4.block w1.heap.size (by omega)).trans HC3.out); obtain ⟨u0, u1, u2, u3, u4⟩ := u; have v := cells5 ((hb4.block w2.heap.size hz3).trans HD3.out); obtain ⟨v0, v1, v2, v3, v4⟩ := v; clear hb4 s0 s1 s2 s3 s4))
    all_goals
      go_ret
      first
        | exact ⟨rfl, HB4.out⟩
        | (exfalso; simp_all)
end Go.Proofs.YthlljbifijodeaaDoor
