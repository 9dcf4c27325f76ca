/- tierlineref.Made at the op sar: bit by bit. -/
import Derived.Test.YtiaammieldfkcaaDoorXRMade
namespace Go.Proofs.YtiaammieldfkcaaDoor
open Go Go.RowKit

set_option maxRecDepth 100000 in
set_option maxHeartbeats 1000000 in
theorem rmade_sar (x y r : BitVec 64) (imm : Int) (w : World) (hr : ∀ k, k < 64 → r.getLsbD k = if k + low6 y 6 < 64 then x.getLsbD (k + low6 y 6) else x.getLsbD 63) :
    Calls Tryd.prog 37 #[.int .i64 10, .int .i64 x.toInt, .int .i64 y.toInt, .int .i64 imm] w fun e w' => e = .returned (.tuple #[.int .i64 r.toInt, .int .i64 0]) ∧ Below w.heap.size w w' := by
  have hz := zeros64 x
  have hBx := rbits_any x
  have hBy := rbits_any y
  have hO := ofBits_any r
  have hsx : (Tryd.prog.info? 80).map (·.size) = some (bitsAll x).size := by rw [show bitsAll x = bitsPart x 64 from rfl, bitsPart_size]; exact sizes64
  have hsy : (Tryd.prog.info? 80).map (·.size) = some (bitsAll y).size := by rw [show bitsAll y = bitsPart y 64 from rfl, bitsPart_size]; exact sizes64
  have hox : (List.replicate 64 (Value.bool false)).toArray.size = (bitsAll x).size := by rw [show bitsAll x = bitsPart x 64 from rfl, bitsPart_size]; rfl
  have hoy : (List.replicate 64 (Value.bool false)).toArray.size = (bitsAll y).size := by rw [show bitsAll y = bitsPart y 64 from rfl, bitsPart_size]; rfl
  have h1x : (bitsAll x).all (·.oneCell') = true := bitsPart_one x 64
  have h1y : (bitsAll y).all (·.oneCell') = true := bitsPart_one y 64
  have HR0 : Hid (∀ k, k < 64 → r.getLsbD k = if k + low6 y 6 < 64 then x.getLsbD (k + low6 y 6) else x.getLsbD 63) := hr
  have HXI : Hid (∀ k, k < 64 → (bitsAll x)[k]? = some (.bool (x.getLsbD k))) := fun k hk => by rw [show bitsAll x = bitsPart x 64 from rfl, bitsPart_get x 64 k hk]; simp; omega
  have HYI : Hid (∀ k, k < 64 → (bitsAll y)[k]? = some (.bool (y.getLsbD k))) := fun k hk => by rw [show bitsAll y = bitsPart y 64 from rfl, bitsPart_get y 64 k hk]; simp; omega
  clear hr
  go_enter Tryd.func37, Tryd.ntmps37
  go_wp2_with (first
    | (go_at_call 36; refine (rin_any _ _ _ _).mono ?_; rintro e w' ⟨rfl, hw'⟩; replace hw' := hw'.symm; subst hw')
    | (go_at_call 51; refine (hBx _).mono ?_; rintro e w1 ⟨rfl, hb1⟩; clear hBx)
    | (go_at_call 51; refine (hBy _).mono ?_; rintro e w2 ⟨rfl, hb2⟩; clear hBy)
    | (refine wpList_store_row rfl _ _ _ rfl _ _ rfl rfl _ _ (heap_alloc_last _ _) hsx hox h1x ?_; clear hsx)
    | (refine wpList_store_row rfl _ _ _ rfl _ _ rfl rfl _ _ (heap_alloc_last _ _) hsy hoy h1y ?_; clear hsy))
  rw [World.setRow_alloc_new] at hb2 ⊢
  have h12 : w1.heap.size < w2.heap.size := by have := hb2.size; simp at this; omega
  have h01 : w.heap.size ≤ w1.heap.size := hb1.size
  have HX2 : Hid (w2.heap[w1.heap.size]? = some (.cells (bitsAll x) 80 (0, 0))) := by
    show _ = _
    rw [hb2.block w1.heap.size (by simp)]
    exact heap_alloc_last _ _
  have HW2 : Hid (Below w.heap.size w w2) := (hb1.alloc h01 _).trans (hb2.mono (by simp; omega))
  clear hb1 hb2 hox hoy h1x h1y
  go_loopw [13, 14] (fun s i wr => ∃ k : Nat, k ≤ 6 ∧ i = .int .i64 (5 - (k : Int)) ∧ s = .int .i64 (low6 y k : Nat) ∧ wr.heap[w2.heap.size + 1]? = some (.cells (bitsPart r 0) 80 (0, 0)) ∧ wr.heap[w1.heap.size]? = some (.cells (bitsAll x) 80 (0, 0)) ∧ wr.heap[w2.heap.size]? = some (.cells (bitsAll y) 80 (0, 0)) ∧ Below w.heap.size w wr) (fun _ i _ => (intOf i + 1).toNat)
  case atStart => exact ⟨0, by omega, by go_num, by rw [low6_zero]; rfl, by rw [zeros64 r]; exact heap_alloc2_new _ _ _, by rw [heap_alloc_old _ _ (by simp; omega), heap_alloc_old _ _ h12]; exact HX2.out, heap_alloc2_old _ _ _, (HW2.out.alloc (by omega) _).alloc (by simp; omega) _⟩
  case round =>
    obtain ⟨k, hk, rfl, rfl, h3, h1, h2, hb⟩ := hrel
    have H1 : Hid (wr.heap[w1.heap.size]? = some (.cells (bitsAll x) 80 (0, 0))) := h1
    have H2 : Hid (wr.heap[w2.heap.size]? = some (.cells (bitsAll y) 80 (0, 0))) := h2
    have H3 : Hid (wr.heap[w2.heap.size + 1]? = some (.cells (bitsPart r 0) 80 (0, 0))) := h3
    have HB : Hid (Below w.heap.size w wr) := hb
    clear h1 h2 h3 hb
    by_cases hlt : k < 6
    · obtain ⟨l1, l2⟩ := low6_step y k hlt
      have c0 : wr.cell? ⟨w2.heap.size, 5 - k, none⟩ = some (.bool (y.getLsbD (5 - k))) := by rw [cell_of_row _ _ _ _ _ _ H2.out]; exact HYI.out _ (by omega)
      have e1 : (5 - (k : Int)) = ((5 - k : Nat) : Int) := by omega
      have hj : ((5 - k : Nat) : Int) < 64 := by omega
      have HE : Hid (∀ z : Int, z = ((5 - k : Nat) : Int) - 1 → z = 5 - ((k + 1 : Nat) : Int)) := fun z hz => by omega
      rw [e1]
      have HL : Hid (low6 y (k + 1) = low6 y k * 2 + (if y.getLsbD (5 - k) then 1 else 0)) := l1
      clear l1 e1
      generalize low6 y k = s at l2 HL
      generalize 5 - k = j at c0 hj HE HL
      have sI : (s : Int) < 64 := by omega
      cases hbv : y.getLsbD j
      · rw [hbv] at c0
        have HL2 : Hid ((low6 y (k + 1) : Int) = (s : Int) * 2) := by show _ = _; rw [HL.out, hbv]; simp
        clear hbv HL
        go_wp2
        go_roundw
        case rel => exact ⟨k + 1, by omega, by rw [HE.out _ rfl], by rw [HL2.out], H3.out, H1.out, H2.out, HB.out⟩
        case measure => simp [intOf]
      · rw [hbv] at c0
        have HL2 : Hid ((low6 y (k + 1) : Int) = (s : Int) * 2 + 1) := by show _ = _; rw [HL.out, hbv]; simp
        clear hbv HL
        go_wp2
        go_roundw
        case rel => exact ⟨k + 1, by omega, by rw [HE.out _ rfl], by rw [HL2.out], H3.out, H1.out, H2.out, HB.out⟩
        case measure => simp [intOf]
    · obtain rfl : k = 6 := by omega
      have e6 : 5 - ((6 : Nat) : Int) = -1 := by decide
      have hS : low6 y 6 < 64 := by unfold low6; exact Nat.lt_of_le_of_lt (Nat.div_le_self _ _) (Nat.mod_lt _ (by decide))
      rw [e6]
      clear e6 hk hlt HX2 HW2 hz
      generalize low6 y 6 = S at hS HR0
      have hSI : (S : Int) < 64 := by omega
      go_wp2
      go_loopw [15] (fun i wr => ∃ k : Nat, k ≤ 64 ∧ i = .int .i64 k ∧ wr.heap[w2.heap.size + 1]? = some (.cells (bitsPart r k) 80 (0, 0)) ∧ wr.heap[w1.heap.size]? = some (.cells (bitsAll x) 80 (0, 0)) ∧ wr.heap[w2.heap.size]? = some (.cells (bitsAll y) 80 (0, 0)) ∧ Below w.heap.size w wr) (fun i _ => 64 - (intOf i).toNat)
      case atStart => exact ⟨0, by omega, rfl, H3.out, H1.out, H2.out, HB.out⟩
      case round =>
        clear H1 H2 H3 HB
        obtain ⟨k, hk, rfl, h3, h1, h2, hb⟩ := hrel
        have H1 : Hid (wr.heap[w1.heap.size]? = some (.cells (bitsAll x) 80 (0, 0))) := h1
        have H2 : Hid (wr.heap[w2.heap.size]? = some (.cells (bitsAll y) 80 (0, 0))) := h2
        have H3 : Hid (wr.heap[w2.heap.size + 1]? = some (.cells (bitsPart r k) 80 (0, 0))) := h3
        have HB : Hid (Below w.heap.size w wr) := hb
        clear h1 h2 h3 hb
        generalize hg1 : w1.heap.size = g1 at *
        generalize hg2 : w2.heap.size = g2 at *
        clear hg1 hg2
        by_cases hlt : k < 64
        · have hX : ∀ i, i < 64 → wr.cell? ⟨g1, i, none⟩ = some (.bool (x.getLsbD i)) := fun i hi => by rw [cell_of_row _ _ _ _ _ _ H1.out]; exact HXI.out i hi
          have hY : ∀ i, i < 64 → wr.cell? ⟨g2, i, none⟩ = some (.bool (y.getLsbD i)) := fun i hi => by rw [cell_of_row _ _ _ _ _ _ H2.out]; exact HYI.out i hi
          have hR := HR0.out
          have hk64 : (k : Int) < 64 := by omega
          have C0 : wr.cell? ⟨g2 + 1, k, none⟩ = some (.bool false) := by rw [cell_of_row _ _ _ _ _ _ H3.out, bitsPart_get r k k hlt]; simp
          have F0 : wr.frozen? ⟨g2 + 1, k, none⟩ = false := frozen_of_row _ _ _ _ _ H3.out
          have hr := hR k hlt
          have M := hX 63 (by omega)
          by_cases hs : k + S < 64
          · have X := hX (k + S) hs
            have HR : Hid (r.getLsbD k = x.getLsbD (k + S)) := by show _ = _; rw [hr, if_pos hs]
            clear hr
            have HX2 : Hid (∀ W : World, ∀ u, wr.cell? ⟨g1, k + S, none⟩ = some u → True) := fun _ _ _ => trivial
            have X2 : ∀ u, (wr.setCell ⟨g2 + 1, k, none⟩ u).cell? ⟨g1, k + S, none⟩ = some (.bool (x.getLsbD (k + S))) := fun u => by rw [cell_of_row _ _ _ _ _ _ (by rw [heap_setCell_other _ _ _ _ (by dsimp only; omega)]; exact H1.out), show bitsAll x = bitsPart x 64 from rfl, bitsPart_get x 64 (k + S) hs]; simp; omega
            have C2 : ∀ u, (wr.setCell ⟨g2 + 1, k, none⟩ u).cell? ⟨g2 + 1, k, none⟩ = some u := fun u => by rw [cell_of_row _ _ _ _ _ _ (heap_setCell_same _ _ _ _ _ _ H3.out)]; simp [bitsPart_size, hlt]
            have F2 : ∀ u, (wr.setCell ⟨g2 + 1, k, none⟩ u).frozen? ⟨g2 + 1, k, none⟩ = false := fun u => frozen_of_row _ _ _ _ _ (heap_setCell_same _ _ _ _ _ _ H3.out)
            clear HX2 hX hY hR
            obtain ⟨j, hj⟩ : ∃ j, j = k + S := ⟨_, rfl⟩
            rw [← hj] at X X2 HR
            have hjI : (k : Int) + S = j := by omega
            have hj64 : (j : Int) < 64 := by omega
            clear hj
            generalize x.getLsbD j = xb at X X2 HR
            generalize x.getLsbD 63 = xm at M
            go_wp2
            go_roundw
            case rel => exact ⟨k + 1, by omega, by go_num, by rw [heap_setCell_same _ _ _ _ _ _ (heap_setCell_same _ _ _ _ _ _ H3.out), Array.setIfInBounds_setIfInBounds, ← bitsPart_succ r k hlt, HR.out], by rw [heap_setCell_other _ _ _ _ (by dsimp only; omega), heap_setCell_other _ _ _ _ (by dsimp only; omega)]; exact H1.out, by rw [heap_setCell_other _ _ _ _ (by dsimp only; omega), heap_setCell_other _ _ _ _ (by dsimp only; omega)]; exact H2.out, (HB.out.setCell (by dsimp only; omega) _).setCell (by dsimp only; omega) _⟩
            case measure => simp [intOf]; omega
          · have HR : Hid (r.getLsbD k = x.getLsbD 63) := by show _ = _; rw [hr, if_neg hs]
            clear hr hX hY hR
            have hsI : 64 ≤ (k : Int) + S := by omega
            generalize x.getLsbD 63 = xm at M HR
            go_wp2
            go_roundw
            case rel => exact ⟨k + 1, by omega, by go_num, by rw [heap_setCell_same _ _ _ _ _ _ H3.out, ← bitsPart_succ r k hlt, HR.out], by rw [heap_setCell_other _ _ _ _ (by dsimp only; omega)]; exact H1.out, by rw [heap_setCell_other _ _ _ _ (by dsimp only; omega)]; exact H2.out, HB.out.setCell (by dsimp only; omega) _⟩
            case measure => simp [intOf]; omega
        · obtain rfl : k = 64 := by omega
          have e64 : ((64 : Nat) : Int) = 64 := rfl
          rw [e64]
          have hs : (Tryd.prog.info? 80).map (·.size) = some (bitsPart r 64).size := by rw [bitsPart_size]; exact sizes64
          go_wp2_with (first
            | (refine wpList_load_row rfl _ _ rfl _ rfl _ _ _ _ H3.out Tryd.underlying80 rfl hs ?_)
            | (go_at_call 52; refine (hO _).mono ?_; rintro e w3 ⟨rfl, hb3⟩))
          go_ret2
          exact ⟨rfl, HB.out.trans (hb3.mono HB.out.size)⟩
end Go.Proofs.YtiaammieldfkcaaDoor
