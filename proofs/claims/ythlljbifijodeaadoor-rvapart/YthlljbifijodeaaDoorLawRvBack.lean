/- The walk of tierlinekeep.RvBack: at all raw numbers it says true, and nothing that was there has turned. -/
import Derived.Test.YthlljbifijodeaaDoorRvKeep
namespace Go.Proofs.YthlljbifijodeaaDoor
open Go Go.RowKit

/-- Raw numbers that can be handed in. -/
structure MiFits (x : Mi) : Prop where
  op : Fits x.op
  rd : Fits x.rd
  rs1 : Fits x.rs1
  rs2 : Fits x.rs2
  imm : Fits x.imm
theorem cells5 {w : World} {g : Nat} {a b c d e : Int} {t : TypeId} {fr : Nat × Nat} (h : w.heap[g]? = some (.cells #[.int .i64 a, .int .i64 b, .int .i64 c, .int .i64 d, .int .i64 e] t fr)) :
    w.cell? ⟨g, 0, none⟩ = some (.int .i64 a) ∧ w.cell? ⟨g, 1, none⟩ = some (.int .i64 b) ∧ w.cell? ⟨g, 2, none⟩ = some (.int .i64 c) ∧ w.cell? ⟨g, 3, none⟩ = some (.int .i64 d) ∧ w.cell? ⟨g, 4, none⟩ = some (.int .i64 e) := by
  refine ⟨?_, ?_, ?_, ?_, ?_⟩ <;> rw [cell_of_row _ _ _ _ _ _ h] <;> rfl
theorem keep_rv (x : Mi) (h : MiFits x) (w : World) : Calls Tryd.prog 18 #[x.val] w fun e w' => e = .returned (mkRv x).val ∧ Below w.heap.size w w' := krv_any x w h.op h.rd h.rs1 h.rs2 h.imm
theorem enc_ok (x : Mi) (h : MiOk x) (w : World) (ht : RvTab w) : Calls Tryd.prog 14 #[x.val] w fun e w' => e = .returned (.tuple #[.int .i64 (wordI x), .int .i64 0]) ∧ Below w.heap.size w w' := by
  have := rencode_any x w ht
  rwa [show encI x = wordI x from if_pos h.e, h.e] at this
theorem dec_ok (x : Mi) (h : MiOk x) (w : World) (ht : RvTab w) : Calls Tryd.prog 16 #[.int .i64 (wordI x)] w fun e w' => e = .returned (.tuple #[x.val, .int .i64 0]) ∧ Below w.heap.size w w' := by
  have := rdecode_any (wordI x) w ht
  rwa [(dec_word x h).1, (dec_word x h).2.1] at this
theorem check_ok (x : Mi) (h : MiOk x) (w : World) (ht : RvTab w) : Calls Tryd.prog 12 #[x.val] w fun e w' => e = .returned (.int .i64 0) ∧ Below w.heap.size w w' := by
  have := rcheck_any x w ht
  rwa [h.e] at this

set_option maxRecDepth 100000 in
set_option maxHeartbeats 2000000 in
theorem rvBack_walk (x : Mi) (h : MiFits x) (w : World) (ht : RvTab w) :
    Calls Tryd.prog 6 #[x.val] w fun e w' => e = .returned (.bool true) ∧ Below w.heap.size w w' := by
  have HK : Hid (∀ W, Calls Tryd.prog 18 #[x.val] W fun e w' => e = .returned (mkRv x).val ∧ Below W.heap.size W w') := fun W => keep_rv x h W
  have hok := mkRv_ok x
  have HE : Hid (∀ W, Below w.heap.size w W → Calls Tryd.prog 14 #[(mkRv x).val] W fun e w' => e = .returned (.tuple #[.int .i64 (wordI (mkRv x)), .int .i64 0]) ∧ Below W.heap.size W w') := fun W hW => enc_ok _ hok W (ht.below hW)
  have HD : Hid (∀ W, Below w.heap.size w W → Calls Tryd.prog 16 #[.int .i64 (wordI (mkRv x))] W fun e w' => e = .returned (.tuple #[(mkRv x).val, .int .i64 0]) ∧ Below W.heap.size W w') := fun W hW => dec_ok _ hok W (ht.below hW)
  have HC : Hid (∀ W, Below w.heap.size w W → Calls Tryd.prog 12 #[(mkRv x).val] W fun e w' => e = .returned (.int .i64 0) ∧ Below W.heap.size W w') := fun W hW => check_ok _ hok W (ht.below hW)
  obtain ⟨-, -, p0, p1, -, -⟩ := dec_word _ hok
  clear h hok ht
  generalize mkRv x = X at *
  generalize wordI X = V at *
  obtain ⟨op, rd, rs1, rs2, imm⟩ := X
  obtain ⟨xo, xd, xa, xb, xi⟩ := x
  unfold Mi.val at *
  dsimp only at *
  go_enter Tryd.func6, Tryd.ntmps6
  go_wp2_with (first
    | (go_at_call 18; refine (HK.out _).mono ?_; rintro e w1 ⟨rfl, hb1⟩; have HB1 : Hid (Below w.heap.size w w1) := ((Below.refl _ _).alloc (Nat.le_refl _) _).trans (hb1.mono (by simp)); clear hb1; have HB1a := fun o => HB1.out.alloc HB1.out.size o)
    | (go_at_call 14; refine (HE.out _ (HB1a _)).mono ?_; rintro e w2 ⟨rfl, hb2⟩; have HB2 : Hid (Below w.heap.size w w2) := (HB1a _).trans (hb2.mono (by have := HB1.out.size; simp; omega)); have hz2 : w1.heap.size < w2.heap.size := Nat.lt_of_lt_of_le (by simp) hb2.size; have c0 := (hb2.block w1.heap.size (by simp)).trans (heap_alloc_last w1 _); clear hb2)
    | (go_at_call 16; refine (HD.out _ HB2.out).mono ?_; rintro e w3 ⟨rfl, hb3⟩; have HB3 : Hid (Below w.heap.size w w3) := HB2.out.trans (hb3.mono HB2.out.size); have c3 := cells5 ((hb3.block w1.heap.size hz2).trans c0); have hz3 : w1.heap.size < w3.heap.size := Nat.lt_of_lt_of_le hz2 hb3.size; have d0 := fun o => cell_alloc c3.1 o; have d1 := fun o => cell_alloc c3.2.1 o; have d2 := fun o => cell_alloc c3.2.2.1 o; have d3 := fun o => cell_alloc c3.2.2.2.1 o; have d4 := fun o => cell_alloc c3.2.2.2.2 o; clear hb3 c3 c0)
    | (go_at_call 12; refine (HC.out _ (HB3.out.alloc HB3.out.size _)).mono ?_; rintro e w4 ⟨rfl, hb4⟩; have HB4 : Hid (Below w.heap.size w w4) := (HB3.out.alloc HB3.out.size _).trans (hb4.mono (by have := HB3.out.size; simp; omega)); clear hb4))
  go_ret
  exact ⟨by simp, HB4.out⟩
end Go.Proofs.YthlljbifijodeaaDoor
