/- Contract of tierlinekeep.Begin: a run of a right program begins (written by gen/mkkb.py). -/
import Derived.Test.YtgoefojdggblpaaDoorXStAt
import Derived.Test.YtgoefojdggblpaaDoorGroupR
import Derived.Test.YtgoefojdggblpaaDoorGroupB
import Derived.Test.YtgoefojdggblpaaDoorGroupD
import Derived.Test.YtgoefojdggblpaaDoorXEngWalk
import Derived.Test.YtgoefojdggblpaaDoorGroupF
namespace Go.Proofs.YtgoefojdggblpaaDoor
open Go Go.RowKit

theorem ints_cut {w : World} {a : Option Addr} {n c m : Nat} {l : List Int} (h : IntsVal w (.slice a n c) l) (hm : m ≤ n) : IntsVal w (.slice a m c) (l.take m) := by
  obtain ⟨ao, b, off, n', cap, e, hl, ha, hc, hcp, hx⟩ := h
  simp only [Value.slice.injEq] at e
  obtain ⟨rfl, rfl, rfl⟩ := e
  refine ⟨a, b, off, m, c, rfl, by rw [List.length_take]; omega, fun h0 => ha (by omega), fun k hk => ?_, ⟨by omega, hcp.2⟩, hx⟩
  have hk' : k < m ∧ k < l.length := by rw [List.length_take] at hk; omega
  rw [hc k hk'.2]
  simp

set_option maxRecDepth 100000 in
set_option maxHeartbeats 8000000 in
theorem kbegin_any (P : List Fn) (pv : Value) (a0 a1 fuel : Int) (nv : Value) (l : List Int) (w : World) (ht : TabOk w) (hc : CallOk w) (hR : ProofAns P 0) (hv : ProgVal w pv P) (hn : IntsVal w nv l) (hfu : I64 fuel) :
    Calls Tryd.prog 15 #[.agg #[pv], inVal a0 a1 nv fuel] w fun e w' => ∃ v', e = .returned (.tuple #[v', .bool true]) ∧ StAt w' w.heap.size v' (beginSt ([a0, a1].take (par0 P).toNat) (l.take 10) (pickI fuel 300)) ∧ Below w.heap.size w w' := by
  have hpb := pickI_bounds fuel 300 (by omega)
  obtain ⟨b, off, cap, rfl, d0, hp1, hpc, hpm, q0, q2⟩ := right_head hR hv
  obtain ⟨na, nc, rfl⟩ := hn.shape
  obtain ⟨p, hp⟩ := Int.eq_ofNat_of_zero_le q0
  have hp2 : p ≤ 2 := by omega
  have hpI : (p : Int) ≤ 2 := by omega
  rw [hp] at d0 ⊢
  rw [Int.toNat_natCast]
  unfold maxLen at hpm
  unfold inVal
  have hP0 : (0 : Int) < P.length := by omega
  have hP0n : 0 < P.length := by omega
  have HBA : Hid (Below w.heap.size w (((w.alloc (.cells #[.slice (some ⟨b, off, none⟩) P.length cap] 29)).alloc (.cells #[.int .i64 a0, .int .i64 a1, .slice na l.length nc, .int .i64 fuel] 26)).alloc (.cells #[.int .i64 0, .int .i64 0, .slice none 0 0, .int .i64 0, .int .i64 0, .int .i64 0, .int .i64 0, .int .i64 0, .int .i64 0, .int .i64 0, .int .i64 0, .int .i64 0, .int .i64 0, .int .i64 0, .int .i64 0, .int .i64 0, .int .i64 0, .int .i64 0, .int .i64 0, .int .i64 0, .slice none 0 0, .slice none 0 0] 34))) := (((Below.refl _ _).alloc (Nat.le_refl _) _).alloc (by simp) _).alloc (by simp; omega) _
  have D0 := keeps_below HBA.out _ _ d0
  have P0 : (((w.alloc (.cells #[.slice (some ⟨b, off, none⟩) P.length cap] 29)).alloc (.cells #[.int .i64 a0, .int .i64 a1, .slice na l.length nc, .int .i64 fuel] 26)).alloc (.cells #[.int .i64 0, .int .i64 0, .slice none 0 0, .int .i64 0, .int .i64 0, .int .i64 0, .int .i64 0, .int .i64 0, .int .i64 0, .int .i64 0, .int .i64 0, .int .i64 0, .int .i64 0, .int .i64 0, .int .i64 0, .int .i64 0, .int .i64 0, .int .i64 0, .int .i64 0, .int .i64 0, .slice none 0 0, .slice none 0 0] 34)).cell? ⟨w.heap.size, 0, none⟩ = some (.slice (some ⟨b, off, none⟩) P.length cap) := by
    rw [cell_of_row _ _ _ _ _ _ ((heap_alloc_old _ _ (by simp; omega)).trans (heap_alloc2_old _ _ _))]; rfl
  have I0 : (((w.alloc (.cells #[.slice (some ⟨b, off, none⟩) P.length cap] 29)).alloc (.cells #[.int .i64 a0, .int .i64 a1, .slice na l.length nc, .int .i64 fuel] 26)).alloc (.cells #[.int .i64 0, .int .i64 0, .slice none 0 0, .int .i64 0, .int .i64 0, .int .i64 0, .int .i64 0, .int .i64 0, .int .i64 0, .int .i64 0, .int .i64 0, .int .i64 0, .int .i64 0, .int .i64 0, .int .i64 0, .int .i64 0, .int .i64 0, .int .i64 0, .int .i64 0, .int .i64 0, .slice none 0 0, .slice none 0 0] 34)).heap[w.heap.size + 1]? = some (.cells #[.int .i64 a0, .int .i64 a1, .slice na l.length nc, .int .i64 fuel] 26 (0, 0)) := (heap_alloc_old _ _ (by simp)).trans (heap_alloc2_new _ _ _)
  have I2 : (((w.alloc (.cells #[.slice (some ⟨b, off, none⟩) P.length cap] 29)).alloc (.cells #[.int .i64 a0, .int .i64 a1, .slice na l.length nc, .int .i64 fuel] 26)).alloc (.cells #[.int .i64 0, .int .i64 0, .slice none 0 0, .int .i64 0, .int .i64 0, .int .i64 0, .int .i64 0, .int .i64 0, .int .i64 0, .int .i64 0, .int .i64 0, .int .i64 0, .int .i64 0, .int .i64 0, .int .i64 0, .int .i64 0, .int .i64 0, .int .i64 0, .int .i64 0, .int .i64 0, .slice none 0 0, .slice none 0 0] 34)).cell? ⟨w.heap.size + 1, 2, none⟩ = some (.slice na l.length nc) := by rw [cell_of_row _ _ _ _ _ _ I0]; rfl
  have I3 : (((w.alloc (.cells #[.slice (some ⟨b, off, none⟩) P.length cap] 29)).alloc (.cells #[.int .i64 a0, .int .i64 a1, .slice na l.length nc, .int .i64 fuel] 26)).alloc (.cells #[.int .i64 0, .int .i64 0, .slice none 0 0, .int .i64 0, .int .i64 0, .int .i64 0, .int .i64 0, .int .i64 0, .int .i64 0, .int .i64 0, .int .i64 0, .int .i64 0, .int .i64 0, .int .i64 0, .int .i64 0, .int .i64 0, .int .i64 0, .int .i64 0, .int .i64 0, .int .i64 0, .slice none 0 0, .slice none 0 0] 34)).cell? ⟨w.heap.size + 1, 3, none⟩ = some (.int .i64 fuel) := by rw [cell_of_row _ _ _ _ _ _ I0]; rfl
  have Z0 : (((w.alloc (.cells #[.slice (some ⟨b, off, none⟩) P.length cap] 29)).alloc (.cells #[.int .i64 a0, .int .i64 a1, .slice na l.length nc, .int .i64 fuel] 26)).alloc (.cells #[.int .i64 0, .int .i64 0, .slice none 0 0, .int .i64 0, .int .i64 0, .int .i64 0, .int .i64 0, .int .i64 0, .int .i64 0, .int .i64 0, .int .i64 0, .int .i64 0, .int .i64 0, .int .i64 0, .int .i64 0, .int .i64 0, .int .i64 0, .int .i64 0, .int .i64 0, .int .i64 0, .slice none 0 0, .slice none 0 0] 34)).heap[w.heap.size + 1 + 1]? = some (.cells zeroStCells 34 (0, 0)) := heap_alloc3_new _ _ _ _
  obtain ⟨m, hm⟩ : ∃ m : Nat, m = min l.length 10 := ⟨_, rfl⟩
  have hml : m ≤ l.length := by omega
  have hmI : (m : Int) ≤ l.length := by omega
  have hmin : (if (10 : Int) < (l.length : Int) then (10 : Int) else (l.length : Int)) = (m : Int) := by split <;> omega
  have HIA : Hid (IntsVal (((w.alloc (.cells #[.slice (some ⟨b, off, none⟩) P.length cap] 29)).alloc (.cells #[.int .i64 a0, .int .i64 a1, .slice na l.length nc, .int .i64 fuel] 26)).alloc (.cells #[.int .i64 0, .int .i64 0, .slice none 0 0, .int .i64 0, .int .i64 0, .int .i64 0, .int .i64 0, .int .i64 0, .int .i64 0, .int .i64 0, .int .i64 0, .int .i64 0, .int .i64 0, .int .i64 0, .int .i64 0, .int .i64 0, .int .i64 0, .int .i64 0, .int .i64 0, .int .i64 0, .slice none 0 0, .slice none 0 0] 34)) (.slice (some ⟨w.heap.size + 1, 0, none⟩) p 2) ([a0, a1].take p)) := by
    refine ⟨_, w.heap.size + 1, 0, p, 2, rfl, by rw [List.length_take]; simp; omega, fun _ => rfl, fun k hk => ?_, ⟨hp2, fun e => by cases e⟩, by simp [maxLen]⟩
    rw [cell_of_row _ _ _ _ _ _ I0]
    rcases (show p = 0 ∨ p = 1 ∨ p = 2 by omega) with rfl | rfl | rfl
    · exact absurd hk (by simp)
    · obtain rfl : k = 0 := by have : k < 1 := hk; omega
      rfl
    · rcases (show k = 0 ∨ k = 1 by have : k < 2 := hk; omega) with rfl | rfl <;> rfl
  have HIN : Hid (IntsVal w (.slice na m nc) (l.take m)) := ints_cut hn hml
  have hnc : l.length ≤ nc ∧ nc ≤ 9223372036854775807 := by
    obtain ⟨ao, b', off', n', cap', e, hl, ha, hcc, hcp, hx⟩ := hn
    simp only [Value.slice.injEq] at e
    unfold maxLen at hx
    omega
  have hmc : m ≤ nc := by omega
  have elm : l.take m = l.take 10 := by
    rw [hm]
    rcases Nat.le_total l.length 10 with h | h
    · rw [Nat.min_eq_left h, List.take_of_length_le (Nat.le_refl _), List.take_of_length_le h]
    · rw [Nat.min_eq_right h]
  rw [← elm]
  have HP : Hid (par0 P = p) := hp
  have HPK : Hid (∀ W, Calls Tryd.prog 21 #[.int .i64 fuel, .int .i64 300] W fun e w' => e = .returned (.int .i64 (pickI fuel 300)) ∧ w' = W) := fun W => picked_any fuel 300 W hfu (by omega) (by omega)
  have HBG : Hid (∀ W, Below (w.heap.size + 3) (((w.alloc (.cells #[.slice (some ⟨b, off, none⟩) P.length cap] 29)).alloc (.cells #[.int .i64 a0, .int .i64 a1, .slice na l.length nc, .int .i64 fuel] 26)).alloc (.cells #[.int .i64 0, .int .i64 0, .slice none 0 0, .int .i64 0, .int .i64 0, .int .i64 0, .int .i64 0, .int .i64 0, .int .i64 0, .int .i64 0, .int .i64 0, .int .i64 0, .int .i64 0, .int .i64 0, .int .i64 0, .int .i64 0, .int .i64 0, .int .i64 0, .int .i64 0, .int .i64 0, .slice none 0 0, .slice none 0 0] 34)) W → Calls Tryd.prog 49 #[.agg #[.slice (some ⟨b, off, none⟩) P.length cap], .slice (some ⟨w.heap.size + 1, 0, none⟩) p 2, .slice na m nc, .int .i64 (pickI fuel 300)] W fun e w' => ∃ cs fr fc, e = .returned (.tuple #[.agg cs, .int .i64 0]) ∧ (Tryd.prog.info? 34).map (·.size) = some cs.size ∧ zeroStCells.size = cs.size ∧ cs.all (·.oneCell') = true ∧ cs[2]? = some (.slice fr 1 fc) ∧ StAt w' W.heap.size (.agg cs) (beginSt ([a0, a1].take p) (l.take m) (pickI fuel 300)) ∧ Below W.heap.size W w') := fun W hW => by
    have hWb : Below w.heap.size w W := HBA.out.trans (hW.mono (by omega))
    refine (begin_at P _ _ _ ([a0, a1].take p) (l.take m) (pickI fuel 300) W (ht.below hWb) (hc.below hWb) (hv.keeps (keeps_below hWb)) (HIA.out.keeps (fun ad u hu => (World.cell?_of_block (hW.block _ (by have := World.block_lt_of_cell? _ _ hu; simpa using this))).trans hu)) (HIN.out.keeps (keeps_below hWb))).mono ?_
    rintro e w' ⟨E, v', hE, rfl, hst, hb⟩
    obtain rfl := proofAns_unique hE hR
    have e0 : beginE 0 P ([a0, a1].take p) (l.take m) (pickI fuel 300) = 0 := by
      unfold beginE
      rw [if_neg (by simp), if_neg, if_neg (by omega)]
      rw [List.length_take, List.length_take]
      simp only [List.length_cons, List.length_nil]
      omega
    rw [e0, beginS_zero] at hst
    rw [e0]
    obtain ⟨cs, hcs, h1, h2, h3⟩ := hst.val.cells
    obtain ⟨fv, ev, av, e1, -, hf, -⟩ := hst.val
    obtain ⟨fr, fc, rfl⟩ := hf.shape
    refine ⟨cs, fr, fc, by rw [← hcs], h1, h2, h3, ?_, by rw [← hcs]; exact hst, hb⟩
    rw [hcs] at e1
    obtain rfl : cs = _ := by simpa using e1
    rfl
  have HT : Hid (TabOk w ∧ CallOk w ∧ ProgVal w (.slice (some ⟨b, off, none⟩) P.length cap) P) := ⟨ht, hc, hv⟩
  have HL10 : Hid ((l.take m).length ≤ 100) := by rw [List.length_take]; show _ ≤ _; omega
  clear hn hm elm ht hc hv d0 hp q0 q2
  go_enter Tryd.func15, Tryd.ntmps15
  go_upto_region 1 with fail
  refine wp_region_held_drew (S := fun W => Below (w.heap.size + 3) (((w.alloc (.cells #[.slice (some ⟨b, off, none⟩) P.length cap] 29)).alloc (.cells #[.int .i64 a0, .int .i64 a1, .slice na l.length nc, .int .i64 fuel] 26)).alloc (.cells #[.int .i64 0, .int .i64 0, .slice none 0 0, .int .i64 0, .int .i64 0, .int .i64 0, .int .i64 0, .int .i64 0, .int .i64 0, .int .i64 0, .int .i64 0, .int .i64 0, .int .i64 0, .int .i64 0, .int .i64 0, .int .i64 0, .int .i64 0, .int .i64 0, .int .i64 0, .int .i64 0, .slice none 0 0, .slice none 0 0] 34)) W) (by kernel_rfl) ((Below.refl _ _).drew) (fun hHeld => ?_)
  show wpAnyH _ _ _ _ _ 25 _ _ _
  have HKP : Hid (∀ (W : World), Below (w.heap.size + 3) (((w.alloc (.cells #[.slice (some ⟨b, off, none⟩) P.length cap] 29)).alloc (.cells #[.int .i64 a0, .int .i64 a1, .slice na l.length nc, .int .i64 fuel] 26)).alloc (.cells #[.int .i64 0, .int .i64 0, .slice none 0 0, .int .i64 0, .int .i64 0, .int .i64 0, .int .i64 0, .int .i64 0, .int .i64 0, .int .i64 0, .int .i64 0, .int .i64 0, .int .i64 0, .int .i64 0, .int .i64 0, .int .i64 0, .int .i64 0, .int .i64 0, .int .i64 0, .int .i64 0, .slice none 0 0, .slice none 0 0] 34)) W → ∀ (ad : Addr) (u : Value), (((w.alloc (.cells #[.slice (some ⟨b, off, none⟩) P.length cap] 29)).alloc (.cells #[.int .i64 a0, .int .i64 a1, .slice na l.length nc, .int .i64 fuel] 26)).alloc (.cells #[.int .i64 0, .int .i64 0, .slice none 0 0, .int .i64 0, .int .i64 0, .int .i64 0, .int .i64 0, .int .i64 0, .int .i64 0, .int .i64 0, .int .i64 0, .int .i64 0, .int .i64 0, .int .i64 0, .int .i64 0, .int .i64 0, .int .i64 0, .int .i64 0, .int .i64 0, .int .i64 0, .slice none 0 0, .slice none 0 0] 34)).cell? ad = some u → W.cell? ad = some u) := fun W hW ad u hu => (World.cell?_of_block (hW.block _ (by have := World.block_lt_of_cell? _ _ hu; simpa using this))).trans hu
  refine wpAnyH_take (i := 0) (v := ?_) rfl (by kernel_rfl) (by kernel_rfl) (by kernel_rfl) (fun _ _ _ h => h) (Or.inl ⟨by rfl, ?_⟩) (by assumption) ?_
  rotate_left
  · (intro W hSW; have z0 := HKP.out _ hSW _ _ P0; go_simp; try (with_reducible rfl))
  (try simp only [Act.put, List.setIfInBounds_toArray])
  refine wpAnyH_take (i := 1) (v := ?_) rfl (by kernel_rfl) (by kernel_rfl) (by kernel_rfl) (fun _ _ _ h => h) (Or.inl ⟨by rfl, ?_⟩) (by assumption) ?_
  rotate_left
  · (intro W hSW; go_simp; try (with_reducible rfl))
  (try simp only [Act.put])
  refine wpAnyH_take (i := 2) (v := ?_) rfl (by kernel_rfl) (by kernel_rfl) (by kernel_rfl) (fun _ _ _ h => h) (Or.inl ⟨by rfl, ?_⟩) (by assumption) ?_
  rotate_left
  · (intro W hSW; go_simp; try (with_reducible rfl))
  (try simp only [Act.put])
  refine wpAnyH_take (i := 3) (v := ?_) rfl (by kernel_rfl) (by kernel_rfl) (by kernel_rfl) (fun _ _ _ h => h) (Or.inl ⟨by rfl, ?_⟩) (by assumption) ?_
  rotate_left
  · (intro W hSW; have z0 := HKP.out _ hSW _ _ P0; go_simp; try (with_reducible rfl))
  (try simp only [Act.put])
  refine wpAnyH_take (i := 4) (v := ?_) rfl (by kernel_rfl) (by kernel_rfl) (by kernel_rfl) (fun _ _ _ h => h) (Or.inl ⟨by rfl, ?_⟩) (by assumption) ?_
  rotate_left
  · (intro W hSW; go_simp; try (with_reducible rfl))
  (try simp only [Act.put])
  refine wpAnyH_take (i := 5) (v := ?_) rfl (by kernel_rfl) (by kernel_rfl) (by kernel_rfl) (fun _ _ _ h => h) (Or.inl ⟨by rfl, ?_⟩) (by assumption) ?_
  rotate_left
  · (intro W hSW; go_simp; try (with_reducible rfl))
  (try simp only [Act.put])
  refine wpAnyH_take (i := 6) (v := ?_) rfl (by kernel_rfl) (by kernel_rfl) (by kernel_rfl) (fun _ _ _ h => h) (Or.inl ⟨by rfl, ?_⟩) (by assumption) ?_
  rotate_left
  · (intro W hSW; have z0 := HKP.out _ hSW _ _ D0; go_simp; try (with_reducible rfl))
  (try simp only [Act.put])
  refine wpAnyH_take (i := 7) (v := ?_) rfl (by kernel_rfl) (by kernel_rfl) (by kernel_rfl) (fun _ _ _ h => h) (Or.inl ⟨by rfl, ?_⟩) (by assumption) ?_
  rotate_left
  · (intro W hSW; go_simp; try (with_reducible rfl))
  (try simp only [Act.put])
  refine wpAnyH_take (i := 8) (v := ?_) rfl (by kernel_rfl) (by kernel_rfl) (by kernel_rfl) (fun _ _ _ h => h) (Or.inl ⟨by rfl, ?_⟩) (by assumption) ?_
  rotate_left
  · (intro W hSW; go_simp; try (with_reducible rfl))
  (try simp only [Act.put])
  refine wpAnyH_take (i := 9) (v := ?_) rfl (by kernel_rfl) (by kernel_rfl) (by kernel_rfl) (fun _ _ _ h => h) (Or.inl ⟨by rfl, ?_⟩) (by assumption) ?_
  rotate_left
  · (intro W hSW; have z0 := HKP.out _ hSW _ _ I2; go_simp; try (with_reducible rfl))
  (try simp only [Act.put])
  refine wpAnyH_take (i := 10) (v := ?_) rfl (by kernel_rfl) (by kernel_rfl) (by kernel_rfl) (fun _ _ _ h => h) (Or.inl ⟨by rfl, ?_⟩) (by assumption) ?_
  rotate_left
  · (intro W hSW; go_simp; try (with_reducible rfl))
  (try simp only [Act.put])
  refine wpAnyH_take (i := 11) (v := ?_) rfl (by kernel_rfl) (by kernel_rfl) (by kernel_rfl) (fun _ _ _ h => h) (Or.inl ⟨by rfl, ?_⟩) (by assumption) ?_
  rotate_left
  · (intro W hSW; have z0 := HKP.out _ hSW _ _ I2; go_simp; try (with_reducible rfl))
  (try simp only [Act.put])
  refine wpAnyH_take (i := 12) (v := ?_) rfl (by kernel_rfl) (by kernel_rfl) (by kernel_rfl) (fun _ _ _ h => h) (Or.inl ⟨by rfl, ?_⟩) (by assumption) ?_
  rotate_left
  · (intro W hSW; go_simp; try (with_reducible rfl))
  (try simp only [Act.put])
  refine wpAnyH_take (i := 13) (v := ?_) rfl (by kernel_rfl) (by kernel_rfl) (by kernel_rfl) (fun _ _ _ h => h) (Or.inl ⟨by rfl, ?_⟩) (by assumption) ?_
  rotate_left
  · (intro W hSW; go_simp; try (with_reducible rfl))
  (try simp only [Act.put])
  refine wpAnyH_take (i := 14) (v := ?_) rfl (by kernel_rfl) (by kernel_rfl) (by kernel_rfl) (fun _ _ _ h => h) (Or.inl ⟨by rfl, ?_⟩) (by assumption) ?_
  rotate_left
  · (intro W hSW; go_simp; try (with_reducible rfl))
  (try simp only [Act.put])
  refine wpAnyH_take (i := 15) (v := ?_) rfl (by kernel_rfl) (by kernel_rfl) (by kernel_rfl) (fun _ _ _ h => h) (Or.inl ⟨by rfl, ?_⟩) (by assumption) ?_
  rotate_left
  · (intro W hSW; go_simp; try (with_reducible rfl))
  (try simp only [Act.put])
  refine wpAnyH_take (i := 16) (v := ?_) rfl (by kernel_rfl) (by kernel_rfl) (by kernel_rfl) (fun _ _ _ h => h) (Or.inl ⟨by rfl, ?_⟩) (by assumption) ?_
  rotate_left
  · (intro W hSW; have z0 := HKP.out _ hSW _ _ I3; go_simp; try (with_reducible rfl))
  (try simp only [Act.put])
  refine wpAnyH_ready (rs := [17, 22]) (by kernel_rfl) (by simp) ?_
  refine AllReadyH.cons rfl (fun K hK => ?_) (AllReadyH.cons rfl (fun K hK => ?_) AllReadyH.nil)
  · -- picked first
    go_simp
    go_at_call 21
    refine (HPK.out _).mono ?_
    rintro e wp ⟨rfl, hwp⟩
    replace hwp := hwp.symm
    subst hwp
    dsimp only
    refine hK.out _ _ (by assumption) (fun _ => ?_)
    clear hK K
    (try simp only [Act.put, List.setIfInBounds_toArray, List.set_cons_zero, List.set_cons_succ])
    refine wpAnyH_ready (rs := [18, 22]) (by kernel_rfl) (by simp) ?_
    refine AllReadyH.cons rfl (fun K hK => ?_) (AllReadyH.cons rfl (fun K hK => ?_) AllReadyH.nil)
    · -- Begin, then the box
      go_simp
      go_at_call 49
      refine (HBG.out _ hHeld).mono ?_
      rintro e w2 ⟨cs, fr, fc, rfl, hs1, hs2, hs3, hs4, hst, hb2⟩
      have HB2 : Hid (Below (w.heap.size + 3) (((w.alloc (.cells #[.slice (some ⟨b, off, none⟩) P.length cap] 29)).alloc (.cells #[.int .i64 a0, .int .i64 a1, .slice na l.length nc, .int .i64 fuel] 26)).alloc (.cells #[.int .i64 0, .int .i64 0, .slice none 0 0, .int .i64 0, .int .i64 0, .int .i64 0, .int .i64 0, .int .i64 0, .int .i64 0, .int .i64 0, .int .i64 0, .int .i64 0, .int .i64 0, .int .i64 0, .int .i64 0, .int .i64 0, .int .i64 0, .int .i64 0, .int .i64 0, .int .i64 0, .slice none 0 0, .slice none 0 0] 34)) w2) := Below.trans hHeld (hb2.mono (by simp; try omega))
      dsimp only
      refine hK.out _ _ HB2.out (fun _ => ?_)
      clear hK K
      (try simp only [Act.put, List.setIfInBounds_toArray, List.set_cons_zero, List.set_cons_succ])
      refine wpAnyH_take (i := 19) (v := ?_) rfl (by kernel_rfl) (by kernel_rfl) (by kernel_rfl) (fun _ _ _ h => h) (Or.inl ⟨by rfl, ?_⟩) HB2.out ?_
      rotate_left
      · (intro W hSW; go_simp; try (with_reducible rfl))
      (try simp only [Act.put, List.setIfInBounds_toArray])
      refine wpAnyH_take (i := 20) (v := ?_) rfl (by kernel_rfl) (by kernel_rfl) (by kernel_rfl) (fun _ _ _ h => h) (Or.inl ⟨by rfl, ?_⟩) HB2.out ?_
      rotate_left
      · (intro W hSW; go_simp; try (with_reducible rfl))
      (try simp only [Act.put])
      refine wpAnyH_take (i := 21) (v := ?_) rfl (by kernel_rfl) (by kernel_rfl) (by kernel_rfl) (fun _ _ _ h => h) (Or.inl ⟨by rfl, ?_⟩) HB2.out ?_
      rotate_left
      · (intro W hSW; go_simp; try (with_reducible rfl))
      (try simp only [Act.put])
      refine wpAnyH_ready (rs := [22]) (by kernel_rfl) (by simp) ?_
      refine AllReadyH.cons rfl (fun K hK => ?_) AllReadyH.nil
      go_simp
      refine hK.out _ _ (HB2.out.alloc (by have := HB2.out.size; simpa using this) _) (fun hHeld2 => ?_)
      clear hK K
      (try simp only [Act.put, List.setIfInBounds_toArray, List.set_cons_zero, List.set_cons_succ])
      have hz2 := HB2.out.size
      simp only [World.size_alloc] at hz2
      refine wpAnyH_ready (rs := [23]) (by kernel_rfl) (by simp) ?_
      refine AllReadyH.cons rfl (fun K hK => ?_) AllReadyH.nil
      refine wp_store_row 34 _ _ rfl w2.heap.size cs rfl rfl 34 zeroStCells (heap_alloc_last w2 _) hs1 hs2 hs3 ?_
      have HBN : Hid (Below (w.heap.size + 3) (((w.alloc (.cells #[.slice (some ⟨b, off, none⟩) P.length cap] 29)).alloc (.cells #[.int .i64 a0, .int .i64 a1, .slice na l.length nc, .int .i64 fuel] 26)).alloc (.cells #[.int .i64 0, .int .i64 0, .slice none 0 0, .int .i64 0, .int .i64 0, .int .i64 0, .int .i64 0, .int .i64 0, .int .i64 0, .int .i64 0, .int .i64 0, .int .i64 0, .int .i64 0, .int .i64 0, .int .i64 0, .int .i64 0, .int .i64 0, .int .i64 0, .int .i64 0, .int .i64 0, .slice none 0 0, .slice none 0 0] 34)) (World.setRow (w2.alloc (.cells #[.int .i64 0, .int .i64 0, .slice none 0 0, .int .i64 0, .int .i64 0, .int .i64 0, .int .i64 0, .int .i64 0, .int .i64 0, .int .i64 0, .int .i64 0, .int .i64 0, .int .i64 0, .int .i64 0, .int .i64 0, .int .i64 0, .int .i64 0, .int .i64 0, .int .i64 0, .int .i64 0, .slice none 0 0, .slice none 0 0] 34)) w2.heap.size cs)) := below_setRow (HB2.out.alloc (by omega) _) (by first | omega | (simp; done) | (simp; omega)) _
      have HGN : Hid ((World.setRow (w2.alloc (.cells #[.int .i64 0, .int .i64 0, .slice none 0 0, .int .i64 0, .int .i64 0, .int .i64 0, .int .i64 0, .int .i64 0, .int .i64 0, .int .i64 0, .int .i64 0, .int .i64 0, .int .i64 0, .int .i64 0, .int .i64 0, .int .i64 0, .int .i64 0, .int .i64 0, .int .i64 0, .int .i64 0, .slice none 0 0, .slice none 0 0] 34)) w2.heap.size cs).heap[w2.heap.size]? = some (.cells cs 34 (0, 0))) := setRow_heap _ _ _ _ _ _ (heap_alloc_last w2 _)
      have HSN : Hid (StAt (World.setRow (w2.alloc (.cells #[.int .i64 0, .int .i64 0, .slice none 0 0, .int .i64 0, .int .i64 0, .int .i64 0, .int .i64 0, .int .i64 0, .int .i64 0, .int .i64 0, .int .i64 0, .int .i64 0, .int .i64 0, .int .i64 0, .int .i64 0, .int .i64 0, .int .i64 0, .int .i64 0, .int .i64 0, .int .i64 0, .slice none 0 0, .slice none 0 0] 34)) w2.heap.size cs) (w.heap.size + 3) (.agg cs) (beginSt ([a0, a1].take p) (l.take m) (pickI fuel 300))) := StAt.mono (hst.moved (fun ad u ha hu => (World.cell?_of_block (setRow_other _ _ _ _ (by have := World.block_lt_of_cell? _ _ hu; omega))).trans (cell_alloc hu _))) (by first | omega | (simp; done) | (simp; omega))
      have HGE : Hid (w.heap.size + 3 ≤ w2.heap.size) := by show _ ≤ _; first | omega | (simp; done) | (simp; omega)
      refine hK.out _ _ HBN.out (fun _ => ?_)
      clear hK K
      generalize World.setRow (w2.alloc (.cells #[.int .i64 0, .int .i64 0, .slice none 0 0, .int .i64 0, .int .i64 0, .int .i64 0, .int .i64 0, .int .i64 0, .int .i64 0, .int .i64 0, .int .i64 0, .int .i64 0, .int .i64 0, .int .i64 0, .int .i64 0, .int .i64 0, .int .i64 0, .int .i64 0, .int .i64 0, .int .i64 0, .slice none 0 0, .slice none 0 0] 34)) w2.heap.size cs = WW at HBN HGN HSN ⊢
      clear hst hb2
      (try simp only [Act.put, List.setIfInBounds_toArray])
      refine wpAnyH_ready (rs := [24]) (by kernel_rfl) (by simp) ?_
      refine AllReadyH.cons rfl (fun K hK => ?_) AllReadyH.nil
      go_simp
      refine hK.out _ _ HBN.out (fun _ => ?_)
      clear hK K
      (try simp only [Act.put, List.setIfInBounds_toArray, List.set_cons_zero, List.set_cons_succ])
      refine wpAnyH_done (by kernel_rfl) ?_ _
      have ZW : WW.heap[w.heap.size + 1 + 1]? = some (.cells zeroStCells 34 (0, 0)) := (HBN.out.block _ (by omega)).trans Z0
      have C2 : ∀ W : World, W.heap[w2.heap.size]? = some (.cells cs 34 (0, 0)) → W.cell? ⟨w2.heap.size, 2, none⟩ = some (.slice fr 1 fc) := fun W hW => by rw [cell_of_row _ _ _ _ _ _ hW]; exact hs4
      have HC2 : Hid _ := C2
      clear C2 D0 P0 I0 I2 I3 Z0 hHeld hmin hml hmI hmc hnc hpI hp2 hP0 hP0n hpm hpc hp1 hpb hfu
      go_wp2_with fail
      refine wp_region_held_drew (S := fun W => W.heap[w2.heap.size]? = some (.cells cs 34 (0, 0))) (by kernel_rfl) HGN.out (fun hHeld => ?_)
      show wpAnyH _ _ _ _ _ 11 _ _ _
      refine wpAnyH_take (i := 0) (v := .agg cs.toList.toArray) rfl (by kernel_rfl) (by kernel_rfl) (by kernel_rfl) (fun _ _ _ h => h) (yieldsIf_load_mid (by rfl) 34 (.tmp 6) rfl w2.heap.size 0 rfl cs.toList _ (fun W hSW j u hu => by rw [cell_of_row _ _ _ _ _ _ hSW]; simpa using hu) Tryd.underlying34 rfl (by simpa using hs1)) (by assumption) ?_
      simp only [Array.toArray_toList]
      (try simp only [List.getElem_toArray, List.getElem_cons_zero])
      (try simp only [Act.put, List.setIfInBounds_toArray, List.set_cons_zero, List.set_cons_succ])
      refine wpAnyH_take (i := 1) (v := ?_) rfl (by kernel_rfl) (by kernel_rfl) (by kernel_rfl) (fun _ _ _ h => h) (Or.inl ⟨by rfl, ?_⟩) (by assumption) ?_
      rotate_left
      · (intro W hSW; go_simp; try (with_reducible rfl))
      (try simp only [List.getElem_toArray, List.getElem_cons_succ, List.getElem_cons_zero])
      (try simp only [Act.put, List.setIfInBounds_toArray, List.set_cons_zero, List.set_cons_succ])
      refine wpAnyH_take (i := 2) (v := ?_) rfl (by kernel_rfl) (by kernel_rfl) (by kernel_rfl) (fun _ _ _ h => h) (Or.inl ⟨by rfl, ?_⟩) (by assumption) ?_
      rotate_left
      · (intro W hSW; go_simp; try (with_reducible rfl))
      (try simp only [List.getElem_toArray, List.getElem_cons_succ, List.getElem_cons_zero])
      (try simp only [Act.put, List.setIfInBounds_toArray, List.set_cons_zero, List.set_cons_succ])
      refine wpAnyH_take (i := 3) (v := ?_) rfl (by kernel_rfl) (by kernel_rfl) (by kernel_rfl) (fun _ _ _ h => h) (Or.inl ⟨by rfl, ?_⟩) (by assumption) ?_
      rotate_left
      · (intro W hSW; go_simp; try (with_reducible rfl))
      (try simp only [List.getElem_toArray, List.getElem_cons_succ, List.getElem_cons_zero])
      (try simp only [Act.put, List.setIfInBounds_toArray, List.set_cons_zero, List.set_cons_succ])
      refine wpAnyH_take (i := 4) (v := ?_) rfl (by kernel_rfl) (by kernel_rfl) (by kernel_rfl) (fun _ _ _ h => h) (Or.inl ⟨by rfl, ?_⟩) (by assumption) ?_
      rotate_left
      · (intro W hSW; go_simp; try (with_reducible rfl))
      (try simp only [List.getElem_toArray, List.getElem_cons_succ, List.getElem_cons_zero])
      (try simp only [Act.put, List.setIfInBounds_toArray, List.set_cons_zero, List.set_cons_succ])
      refine wpAnyH_take (i := 5) (v := ?_) rfl (by kernel_rfl) (by kernel_rfl) (by kernel_rfl) (fun _ _ _ h => h) (Or.inl ⟨by rfl, ?_⟩) (by assumption) ?_
      rotate_left
      · (intro W hSW; have zz := HC2.out W hSW; go_simp; try (with_reducible rfl))
      (try simp only [List.getElem_toArray, List.getElem_cons_succ, List.getElem_cons_zero])
      (try simp only [Act.put, List.setIfInBounds_toArray, List.set_cons_zero, List.set_cons_succ])
      refine wpAnyH_take (i := 6) (v := ?_) rfl (by kernel_rfl) (by kernel_rfl) (by kernel_rfl) (fun _ _ _ h => h) (Or.inl ⟨by rfl, ?_⟩) (by assumption) ?_
      rotate_left
      · (intro W hSW; go_simp; try (with_reducible rfl))
      (try simp only [List.getElem_toArray, List.getElem_cons_succ, List.getElem_cons_zero])
      (try simp only [Act.put, List.setIfInBounds_toArray, List.set_cons_zero, List.set_cons_succ])
      refine wpAnyH_take (i := 7) (v := ?_) rfl (by kernel_rfl) (by kernel_rfl) (by kernel_rfl) (fun _ _ _ h => h) (Or.inl ⟨by rfl, ?_⟩) (by assumption) ?_
      rotate_left
      · (intro W hSW; go_simp; try (with_reducible rfl))
      (try simp only [List.getElem_toArray, List.getElem_cons_succ, List.getElem_cons_zero])
      (try simp only [Act.put, List.setIfInBounds_toArray, List.set_cons_zero, List.set_cons_succ])
      refine wpAnyH_take (i := 8) (v := ?_) rfl (by kernel_rfl) (by kernel_rfl) (by kernel_rfl) (fun _ _ _ h => h) (Or.inl ⟨by rfl, ?_⟩) (by assumption) ?_
      rotate_left
      · (intro W hSW; go_simp; try (with_reducible rfl))
      (try simp only [List.getElem_toArray, List.getElem_cons_succ, List.getElem_cons_zero])
      (try simp only [Act.put, List.setIfInBounds_toArray, List.set_cons_zero, List.set_cons_succ])
      refine wpAnyH_ready (rs := [9]) (by kernel_rfl) (by simp) ?_
      refine AllReadyH.cons rfl (fun K hK => ?_) AllReadyH.nil
      refine wp_store_row 34 _ _ rfl (w.heap.size + 1 + 1) cs rfl rfl 34 zeroStCells ZW hs1 hs2 hs3 ?_
      have HG2 : (World.setRow WW.drew (w.heap.size + 1 + 1) cs).heap[w2.heap.size]? = some (.cells cs 34 (0, 0)) := (setRow_other _ _ _ _ (by have := HGE.out; omega)).trans HGN.out
      refine hK.out _ _ HG2 (fun _ => ?_)
      clear hK K
      (try simp only [Act.put, List.setIfInBounds_toArray])
      refine wpAnyH_ready (rs := [10]) (by kernel_rfl) (by simp) ?_
      refine AllReadyH.cons rfl (fun K hK => ?_) AllReadyH.nil
      go_simp
      refine hK.out _ _ HG2 (fun _ => ?_)
      clear hK K
      (try simp only [Act.put, List.setIfInBounds_toArray, List.set_cons_zero, List.set_cons_succ])
      refine wpAnyH_done (by kernel_rfl) ?_ _
      go_wp2_with fail
      try simp only [Exit.inBlock, Exit.then]
      exact bodyPost_ret (results_row_tmp rfl _ _ (w.heap.size + 1 + 1) 34 _ (0, 0) _ rfl (setRow_heap _ _ _ _ _ _ ZW) Tryd.underlying34 rfl hs1) rfl ⟨_, rfl, (HSN.out.below ((Below.refl _ _).drew) |>.setRow (by omega) _).mono (by omega), below_setRow ((HBA.out.trans (HBN.out.mono (by omega))).drew) (by omega) _⟩
    · -- the box, then Begin
      go_simp
      refine hK.out _ _ (hHeld.alloc (by simp) _) (fun hHeld2 => ?_)
      clear hK K
      (try simp only [Act.put, List.setIfInBounds_toArray, List.set_cons_zero, List.set_cons_succ])
      refine wpAnyH_ready (rs := [18]) (by kernel_rfl) (by simp) ?_
      refine AllReadyH.cons rfl (fun K hK => ?_) AllReadyH.nil
      go_simp
      go_at_call 49
      refine (HBG.out _ hHeld2).mono ?_
      rintro e w2 ⟨cs, fr, fc, rfl, hs1, hs2, hs3, hs4, hst, hb2⟩
      have HB2 : Hid (Below (w.heap.size + 3) (((w.alloc (.cells #[.slice (some ⟨b, off, none⟩) P.length cap] 29)).alloc (.cells #[.int .i64 a0, .int .i64 a1, .slice na l.length nc, .int .i64 fuel] 26)).alloc (.cells #[.int .i64 0, .int .i64 0, .slice none 0 0, .int .i64 0, .int .i64 0, .int .i64 0, .int .i64 0, .int .i64 0, .int .i64 0, .int .i64 0, .int .i64 0, .int .i64 0, .int .i64 0, .int .i64 0, .int .i64 0, .int .i64 0, .int .i64 0, .int .i64 0, .int .i64 0, .int .i64 0, .slice none 0 0, .slice none 0 0] 34)) w2) := Below.trans hHeld2 (hb2.mono (by simp; try omega))
      dsimp only
      refine hK.out _ _ HB2.out (fun _ => ?_)
      clear hK K
      (try simp only [Act.put, List.setIfInBounds_toArray, List.set_cons_zero, List.set_cons_succ])
      have hz2 := HB2.out.size
      simp only [World.size_alloc] at hz2
      have hgz : w2.heap[w.heap.size + 1 + 1 + 1]? = some (.cells zeroStCells 34 (0, 0)) := (hb2.block _ (by simp)).trans (by have := heap_alloc_last (((w.alloc (.cells #[.slice (some ⟨b, off, none⟩) P.length cap] 29)).alloc (.cells #[.int .i64 a0, .int .i64 a1, .slice na l.length nc, .int .i64 fuel] 26)).alloc (.cells #[.int .i64 0, .int .i64 0, .slice none 0 0, .int .i64 0, .int .i64 0, .int .i64 0, .int .i64 0, .int .i64 0, .int .i64 0, .int .i64 0, .int .i64 0, .int .i64 0, .int .i64 0, .int .i64 0, .int .i64 0, .int .i64 0, .int .i64 0, .int .i64 0, .int .i64 0, .int .i64 0, .slice none 0 0, .slice none 0 0] 34)) (.cells #[.int .i64 0, .int .i64 0, .slice none 0 0, .int .i64 0, .int .i64 0, .int .i64 0, .int .i64 0, .int .i64 0, .int .i64 0, .int .i64 0, .int .i64 0, .int .i64 0, .int .i64 0, .int .i64 0, .int .i64 0, .int .i64 0, .int .i64 0, .int .i64 0, .int .i64 0, .int .i64 0, .slice none 0 0, .slice none 0 0] 34); simp only [World.size_alloc] at this; exact this)
      refine wpAnyH_take (i := 19) (v := ?_) rfl (by kernel_rfl) (by kernel_rfl) (by kernel_rfl) (fun _ _ _ h => h) (Or.inl ⟨by rfl, ?_⟩) HB2.out ?_
      rotate_left
      · (intro W hSW; go_simp; try (with_reducible rfl))
      (try simp only [Act.put, List.setIfInBounds_toArray])
      refine wpAnyH_take (i := 20) (v := ?_) rfl (by kernel_rfl) (by kernel_rfl) (by kernel_rfl) (fun _ _ _ h => h) (Or.inl ⟨by rfl, ?_⟩) HB2.out ?_
      rotate_left
      · (intro W hSW; go_simp; try (with_reducible rfl))
      (try simp only [Act.put])
      refine wpAnyH_take (i := 21) (v := ?_) rfl (by kernel_rfl) (by kernel_rfl) (by kernel_rfl) (fun _ _ _ h => h) (Or.inl ⟨by rfl, ?_⟩) HB2.out ?_
      rotate_left
      · (intro W hSW; go_simp; try (with_reducible rfl))
      (try simp only [Act.put])
      refine wpAnyH_ready (rs := [23]) (by kernel_rfl) (by simp) ?_
      refine AllReadyH.cons rfl (fun K hK => ?_) AllReadyH.nil
      refine wp_store_row 34 _ _ rfl (w.heap.size + 1 + 1 + 1) cs rfl rfl 34 zeroStCells hgz hs1 hs2 hs3 ?_
      have HBN : Hid (Below (w.heap.size + 3) (((w.alloc (.cells #[.slice (some ⟨b, off, none⟩) P.length cap] 29)).alloc (.cells #[.int .i64 a0, .int .i64 a1, .slice na l.length nc, .int .i64 fuel] 26)).alloc (.cells #[.int .i64 0, .int .i64 0, .slice none 0 0, .int .i64 0, .int .i64 0, .int .i64 0, .int .i64 0, .int .i64 0, .int .i64 0, .int .i64 0, .int .i64 0, .int .i64 0, .int .i64 0, .int .i64 0, .int .i64 0, .int .i64 0, .int .i64 0, .int .i64 0, .int .i64 0, .int .i64 0, .slice none 0 0, .slice none 0 0] 34)) (World.setRow w2 (w.heap.size + 1 + 1 + 1) cs)) := below_setRow HB2.out (by first | omega | (simp; done) | (simp; omega)) _
      have HGN : Hid ((World.setRow w2 (w.heap.size + 1 + 1 + 1) cs).heap[(w.heap.size + 1 + 1 + 1)]? = some (.cells cs 34 (0, 0))) := setRow_heap _ _ _ _ _ _ hgz
      have HSN : Hid (StAt (World.setRow w2 (w.heap.size + 1 + 1 + 1) cs) (w.heap.size + 3) (.agg cs) (beginSt ([a0, a1].take p) (l.take m) (pickI fuel 300))) := StAt.mono (hst.setRow (by simp) _) (by first | omega | (simp; done) | (simp; omega))
      have HGE : Hid (w.heap.size + 3 ≤ (w.heap.size + 1 + 1 + 1)) := by show _ ≤ _; first | omega | (simp; done) | (simp; omega)
      refine hK.out _ _ HBN.out (fun _ => ?_)
      clear hK K
      generalize World.setRow w2 (w.heap.size + 1 + 1 + 1) cs = WW at HBN HGN HSN ⊢
      clear hst hb2
      (try simp only [Act.put])
      refine wpAnyH_ready (rs := [24]) (by kernel_rfl) (by simp) ?_
      refine AllReadyH.cons rfl (fun K hK => ?_) AllReadyH.nil
      go_simp
      refine hK.out _ _ HBN.out (fun _ => ?_)
      clear hK K
      (try simp only [Act.put, List.setIfInBounds_toArray, List.set_cons_zero, List.set_cons_succ])
      refine wpAnyH_done (by kernel_rfl) ?_ _
      have ZW : WW.heap[w.heap.size + 1 + 1]? = some (.cells zeroStCells 34 (0, 0)) := (HBN.out.block _ (by omega)).trans Z0
      have C2 : ∀ W : World, W.heap[(w.heap.size + 1 + 1 + 1)]? = some (.cells cs 34 (0, 0)) → W.cell? ⟨(w.heap.size + 1 + 1 + 1), 2, none⟩ = some (.slice fr 1 fc) := fun W hW => by rw [cell_of_row _ _ _ _ _ _ hW]; exact hs4
      have HC2 : Hid _ := C2
      clear C2 D0 P0 I0 I2 I3 Z0 hHeld hmin hml hmI hmc hnc hpI hp2 hP0 hP0n hpm hpc hp1 hpb hfu
      go_wp2_with fail
      refine wp_region_held_drew (S := fun W => W.heap[(w.heap.size + 1 + 1 + 1)]? = some (.cells cs 34 (0, 0))) (by kernel_rfl) HGN.out (fun hHeld => ?_)
      show wpAnyH _ _ _ _ _ 11 _ _ _
      refine wpAnyH_take (i := 0) (v := .agg cs.toList.toArray) rfl (by kernel_rfl) (by kernel_rfl) (by kernel_rfl) (fun _ _ _ h => h) (yieldsIf_load_mid (by rfl) 34 (.tmp 6) rfl (w.heap.size + 1 + 1 + 1) 0 rfl cs.toList _ (fun W hSW j u hu => by rw [cell_of_row _ _ _ _ _ _ hSW]; simpa using hu) Tryd.underlying34 rfl (by simpa using hs1)) (by assumption) ?_
      simp only [Array.toArray_toList]
      (try simp only [List.getElem_toArray, List.getElem_cons_zero])
      (try simp only [Act.put, List.setIfInBounds_toArray, List.set_cons_zero, List.set_cons_succ])
      refine wpAnyH_take (i := 1) (v := ?_) rfl (by kernel_rfl) (by kernel_rfl) (by kernel_rfl) (fun _ _ _ h => h) (Or.inl ⟨by rfl, ?_⟩) (by assumption) ?_
      rotate_left
      · (intro W hSW; go_simp; try (with_reducible rfl))
      (try simp only [List.getElem_toArray, List.getElem_cons_succ, List.getElem_cons_zero])
      (try simp only [Act.put, List.setIfInBounds_toArray, List.set_cons_zero, List.set_cons_succ])
      refine wpAnyH_take (i := 2) (v := ?_) rfl (by kernel_rfl) (by kernel_rfl) (by kernel_rfl) (fun _ _ _ h => h) (Or.inl ⟨by rfl, ?_⟩) (by assumption) ?_
      rotate_left
      · (intro W hSW; go_simp; try (with_reducible rfl))
      (try simp only [List.getElem_toArray, List.getElem_cons_succ, List.getElem_cons_zero])
      (try simp only [Act.put, List.setIfInBounds_toArray, List.set_cons_zero, List.set_cons_succ])
      refine wpAnyH_take (i := 3) (v := ?_) rfl (by kernel_rfl) (by kernel_rfl) (by kernel_rfl) (fun _ _ _ h => h) (Or.inl ⟨by rfl, ?_⟩) (by assumption) ?_
      rotate_left
      · (intro W hSW; go_simp; try (with_reducible rfl))
      (try simp only [List.getElem_toArray, List.getElem_cons_succ, List.getElem_cons_zero])
      (try simp only [Act.put, List.setIfInBounds_toArray, List.set_cons_zero, List.set_cons_succ])
      refine wpAnyH_take (i := 4) (v := ?_) rfl (by kernel_rfl) (by kernel_rfl) (by kernel_rfl) (fun _ _ _ h => h) (Or.inl ⟨by rfl, ?_⟩) (by assumption) ?_
      rotate_left
      · (intro W hSW; go_simp; try (with_reducible rfl))
      (try simp only [List.getElem_toArray, List.getElem_cons_succ, List.getElem_cons_zero])
      (try simp only [Act.put, List.setIfInBounds_toArray, List.set_cons_zero, List.set_cons_succ])
      refine wpAnyH_take (i := 5) (v := ?_) rfl (by kernel_rfl) (by kernel_rfl) (by kernel_rfl) (fun _ _ _ h => h) (Or.inl ⟨by rfl, ?_⟩) (by assumption) ?_
      rotate_left
      · (intro W hSW; have zz := HC2.out W hSW; go_simp; try (with_reducible rfl))
      (try simp only [List.getElem_toArray, List.getElem_cons_succ, List.getElem_cons_zero])
      (try simp only [Act.put, List.setIfInBounds_toArray, List.set_cons_zero, List.set_cons_succ])
      refine wpAnyH_take (i := 6) (v := ?_) rfl (by kernel_rfl) (by kernel_rfl) (by kernel_rfl) (fun _ _ _ h => h) (Or.inl ⟨by rfl, ?_⟩) (by assumption) ?_
      rotate_left
      · (intro W hSW; go_simp; try (with_reducible rfl))
      (try simp only [List.getElem_toArray, List.getElem_cons_succ, List.getElem_cons_zero])
      (try simp only [Act.put, List.setIfInBounds_toArray, List.set_cons_zero, List.set_cons_succ])
      refine wpAnyH_take (i := 7) (v := ?_) rfl (by kernel_rfl) (by kernel_rfl) (by kernel_rfl) (fun _ _ _ h => h) (Or.inl ⟨by rfl, ?_⟩) (by assumption) ?_
      rotate_left
      · (intro W hSW; go_simp; try (with_reducible rfl))
      (try simp only [List.getElem_toArray, List.getElem_cons_succ, List.getElem_cons_zero])
      (try simp only [Act.put, List.setIfInBounds_toArray, List.set_cons_zero, List.set_cons_succ])
      refine wpAnyH_take (i := 8) (v := ?_) rfl (by kernel_rfl) (by kernel_rfl) (by kernel_rfl) (fun _ _ _ h => h) (Or.inl ⟨by rfl, ?_⟩) (by assumption) ?_
      rotate_left
      · (intro W hSW; go_simp; try (with_reducible rfl))
      (try simp only [List.getElem_toArray, List.getElem_cons_succ, List.getElem_cons_zero])
      (try simp only [Act.put, List.setIfInBounds_toArray, List.set_cons_zero, List.set_cons_succ])
      refine wpAnyH_ready (rs := [9]) (by kernel_rfl) (by simp) ?_
      refine AllReadyH.cons rfl (fun K hK => ?_) AllReadyH.nil
      refine wp_store_row 34 _ _ rfl (w.heap.size + 1 + 1) cs rfl rfl 34 zeroStCells ZW hs1 hs2 hs3 ?_
      have HG2 : (World.setRow WW.drew (w.heap.size + 1 + 1) cs).heap[(w.heap.size + 1 + 1 + 1)]? = some (.cells cs 34 (0, 0)) := (setRow_other _ _ _ _ (by have := HGE.out; omega)).trans HGN.out
      refine hK.out _ _ HG2 (fun _ => ?_)
      clear hK K
      (try simp only [Act.put, List.setIfInBounds_toArray])
      refine wpAnyH_ready (rs := [10]) (by kernel_rfl) (by simp) ?_
      refine AllReadyH.cons rfl (fun K hK => ?_) AllReadyH.nil
      go_simp
      refine hK.out _ _ HG2 (fun _ => ?_)
      clear hK K
      (try simp only [Act.put, List.setIfInBounds_toArray, List.set_cons_zero, List.set_cons_succ])
      refine wpAnyH_done (by kernel_rfl) ?_ _
      go_wp2_with fail
      try simp only [Exit.inBlock, Exit.then]
      exact bodyPost_ret (results_row_tmp rfl _ _ (w.heap.size + 1 + 1) 34 _ (0, 0) _ rfl (setRow_heap _ _ _ _ _ _ ZW) Tryd.underlying34 rfl hs1) rfl ⟨_, rfl, (HSN.out.below ((Below.refl _ _).drew) |>.setRow (by omega) _).mono (by omega), below_setRow ((HBA.out.trans (HBN.out.mono (by omega))).drew) (by omega) _⟩
  · -- the box first
    go_simp
    refine hK.out _ _ (hHeld.alloc (by simp) _) (fun hHeld2 => ?_)
    clear hK K
    (try simp only [Act.put, List.setIfInBounds_toArray, List.set_cons_zero, List.set_cons_succ])
    refine wpAnyH_ready (rs := [17]) (by kernel_rfl) (by simp) ?_
    refine AllReadyH.cons rfl (fun K hK => ?_) AllReadyH.nil
    go_simp
    go_at_call 21
    refine (HPK.out _).mono ?_
    rintro e wp ⟨rfl, hwp⟩
    replace hwp := hwp.symm
    subst hwp
    dsimp only
    refine hK.out _ _ hHeld2 (fun _ => ?_)
    clear hK K
    (try simp only [Act.put, List.setIfInBounds_toArray, List.set_cons_zero, List.set_cons_succ])
    refine wpAnyH_ready (rs := [18]) (by kernel_rfl) (by simp) ?_
    refine AllReadyH.cons rfl (fun K hK => ?_) AllReadyH.nil
    go_simp
    go_at_call 49
    refine (HBG.out _ hHeld2).mono ?_
    rintro e w2 ⟨cs, fr, fc, rfl, hs1, hs2, hs3, hs4, hst, hb2⟩
    have HB2 : Hid (Below (w.heap.size + 3) (((w.alloc (.cells #[.slice (some ⟨b, off, none⟩) P.length cap] 29)).alloc (.cells #[.int .i64 a0, .int .i64 a1, .slice na l.length nc, .int .i64 fuel] 26)).alloc (.cells #[.int .i64 0, .int .i64 0, .slice none 0 0, .int .i64 0, .int .i64 0, .int .i64 0, .int .i64 0, .int .i64 0, .int .i64 0, .int .i64 0, .int .i64 0, .int .i64 0, .int .i64 0, .int .i64 0, .int .i64 0, .int .i64 0, .int .i64 0, .int .i64 0, .int .i64 0, .int .i64 0, .slice none 0 0, .slice none 0 0] 34)) w2) := Below.trans hHeld2 (hb2.mono (by simp; try omega))
    dsimp only
    refine hK.out _ _ HB2.out (fun _ => ?_)
    clear hK K
    (try simp only [Act.put, List.setIfInBounds_toArray, List.set_cons_zero, List.set_cons_succ])
    have hz2 := HB2.out.size
    simp only [World.size_alloc] at hz2
    have hgz : w2.heap[w.heap.size + 1 + 1 + 1]? = some (.cells zeroStCells 34 (0, 0)) := (hb2.block _ (by simp)).trans (by have := heap_alloc_last (((w.alloc (.cells #[.slice (some ⟨b, off, none⟩) P.length cap] 29)).alloc (.cells #[.int .i64 a0, .int .i64 a1, .slice na l.length nc, .int .i64 fuel] 26)).alloc (.cells #[.int .i64 0, .int .i64 0, .slice none 0 0, .int .i64 0, .int .i64 0, .int .i64 0, .int .i64 0, .int .i64 0, .int .i64 0, .int .i64 0, .int .i64 0, .int .i64 0, .int .i64 0, .int .i64 0, .int .i64 0, .int .i64 0, .int .i64 0, .int .i64 0, .int .i64 0, .int .i64 0, .slice none 0 0, .slice none 0 0] 34)) (.cells #[.int .i64 0, .int .i64 0, .slice none 0 0, .int .i64 0, .int .i64 0, .int .i64 0, .int .i64 0, .int .i64 0, .int .i64 0, .int .i64 0, .int .i64 0, .int .i64 0, .int .i64 0, .int .i64 0, .int .i64 0, .int .i64 0, .int .i64 0, .int .i64 0, .int .i64 0, .int .i64 0, .slice none 0 0, .slice none 0 0] 34); simp only [World.size_alloc] at this; exact this)
    refine wpAnyH_take (i := 19) (v := ?_) rfl (by kernel_rfl) (by kernel_rfl) (by kernel_rfl) (fun _ _ _ h => h) (Or.inl ⟨by rfl, ?_⟩) HB2.out ?_
    rotate_left
    · (intro W hSW; go_simp; try (with_reducible rfl))
    (try simp only [Act.put, List.setIfInBounds_toArray])
    refine wpAnyH_take (i := 20) (v := ?_) rfl (by kernel_rfl) (by kernel_rfl) (by kernel_rfl) (fun _ _ _ h => h) (Or.inl ⟨by rfl, ?_⟩) HB2.out ?_
    rotate_left
    · (intro W hSW; go_simp; try (with_reducible rfl))
    (try simp only [Act.put])
    refine wpAnyH_take (i := 21) (v := ?_) rfl (by kernel_rfl) (by kernel_rfl) (by kernel_rfl) (fun _ _ _ h => h) (Or.inl ⟨by rfl, ?_⟩) HB2.out ?_
    rotate_left
    · (intro W hSW; go_simp; try (with_reducible rfl))
    (try simp only [Act.put])
    refine wpAnyH_ready (rs := [23]) (by kernel_rfl) (by simp) ?_
    refine AllReadyH.cons rfl (fun K hK => ?_) AllReadyH.nil
    refine wp_store_row 34 _ _ rfl (w.heap.size + 1 + 1 + 1) cs rfl rfl 34 zeroStCells hgz hs1 hs2 hs3 ?_
    have HBN : Hid (Below (w.heap.size + 3) (((w.alloc (.cells #[.slice (some ⟨b, off, none⟩) P.length cap] 29)).alloc (.cells #[.int .i64 a0, .int .i64 a1, .slice na l.length nc, .int .i64 fuel] 26)).alloc (.cells #[.int .i64 0, .int .i64 0, .slice none 0 0, .int .i64 0, .int .i64 0, .int .i64 0, .int .i64 0, .int .i64 0, .int .i64 0, .int .i64 0, .int .i64 0, .int .i64 0, .int .i64 0, .int .i64 0, .int .i64 0, .int .i64 0, .int .i64 0, .int .i64 0, .int .i64 0, .int .i64 0, .slice none 0 0, .slice none 0 0] 34)) (World.setRow w2 (w.heap.size + 1 + 1 + 1) cs)) := below_setRow HB2.out (by first | omega | (simp; done) | (simp; omega)) _
    have HGN : Hid ((World.setRow w2 (w.heap.size + 1 + 1 + 1) cs).heap[(w.heap.size + 1 + 1 + 1)]? = some (.cells cs 34 (0, 0))) := setRow_heap _ _ _ _ _ _ hgz
    have HSN : Hid (StAt (World.setRow w2 (w.heap.size + 1 + 1 + 1) cs) (w.heap.size + 3) (.agg cs) (beginSt ([a0, a1].take p) (l.take m) (pickI fuel 300))) := StAt.mono (hst.setRow (by simp) _) (by first | omega | (simp; done) | (simp; omega))
    have HGE : Hid (w.heap.size + 3 ≤ (w.heap.size + 1 + 1 + 1)) := by show _ ≤ _; first | omega | (simp; done) | (simp; omega)
    refine hK.out _ _ HBN.out (fun _ => ?_)
    clear hK K
    generalize World.setRow w2 (w.heap.size + 1 + 1 + 1) cs = WW at HBN HGN HSN ⊢
    clear hst hb2
    (try simp only [Act.put])
    refine wpAnyH_ready (rs := [24]) (by kernel_rfl) (by simp) ?_
    refine AllReadyH.cons rfl (fun K hK => ?_) AllReadyH.nil
    go_simp
    refine hK.out _ _ HBN.out (fun _ => ?_)
    clear hK K
    (try simp only [Act.put, List.setIfInBounds_toArray, List.set_cons_zero, List.set_cons_succ])
    refine wpAnyH_done (by kernel_rfl) ?_ _
    have ZW : WW.heap[w.heap.size + 1 + 1]? = some (.cells zeroStCells 34 (0, 0)) := (HBN.out.block _ (by omega)).trans Z0
    have C2 : ∀ W : World, W.heap[(w.heap.size + 1 + 1 + 1)]? = some (.cells cs 34 (0, 0)) → W.cell? ⟨(w.heap.size + 1 + 1 + 1), 2, none⟩ = some (.slice fr 1 fc) := fun W hW => by rw [cell_of_row _ _ _ _ _ _ hW]; exact hs4
    have HC2 : Hid _ := C2
    clear C2 D0 P0 I0 I2 I3 Z0 hHeld hmin hml hmI hmc hnc hpI hp2 hP0 hP0n hpm hpc hp1 hpb hfu
    go_wp2_with fail
    refine wp_region_held_drew (S := fun W => W.heap[(w.heap.size + 1 + 1 + 1)]? = some (.cells cs 34 (0, 0))) (by kernel_rfl) HGN.out (fun hHeld => ?_)
    show wpAnyH _ _ _ _ _ 11 _ _ _
    refine wpAnyH_take (i := 0) (v := .agg cs.toList.toArray) rfl (by kernel_rfl) (by kernel_rfl) (by kernel_rfl) (fun _ _ _ h => h) (yieldsIf_load_mid (by rfl) 34 (.tmp 6) rfl (w.heap.size + 1 + 1 + 1) 0 rfl cs.toList _ (fun W hSW j u hu => by rw [cell_of_row _ _ _ _ _ _ hSW]; simpa using hu) Tryd.underlying34 rfl (by simpa using hs1)) (by assumption) ?_
    simp only [Array.toArray_toList]
    (try simp only [List.getElem_toArray, List.getElem_cons_zero])
    (try simp only [Act.put, List.setIfInBounds_toArray, List.set_cons_zero, List.set_cons_succ])
    refine wpAnyH_take (i := 1) (v := ?_) rfl (by kernel_rfl) (by kernel_rfl) (by kernel_rfl) (fun _ _ _ h => h) (Or.inl ⟨by rfl, ?_⟩) (by assumption) ?_
    rotate_left
    · (intro W hSW; go_simp; try (with_reducible rfl))
    (try simp only [List.getElem_toArray, List.getElem_cons_succ, List.getElem_cons_zero])
    (try simp only [Act.put, List.setIfInBounds_toArray, List.set_cons_zero, List.set_cons_succ])
    refine wpAnyH_take (i := 2) (v := ?_) rfl (by kernel_rfl) (by kernel_rfl) (by kernel_rfl) (fun _ _ _ h => h) (Or.inl ⟨by rfl, ?_⟩) (by assumption) ?_
    rotate_left
    · (intro W hSW; go_simp; try (with_reducible rfl))
    (try simp only [List.getElem_toArray, List.getElem_cons_succ, List.getElem_cons_zero])
    (try simp only [Act.put, List.setIfInBounds_toArray, List.set_cons_zero, List.set_cons_succ])
    refine wpAnyH_take (i := 3) (v := ?_) rfl (by kernel_rfl) (by kernel_rfl) (by kernel_rfl) (fun _ _ _ h => h) (Or.inl ⟨by rfl, ?_⟩) (by assumption) ?_
    rotate_left
    · (intro W hSW; go_simp; try (with_reducible rfl))
    (try simp only [List.getElem_toArray, List.getElem_cons_succ, List.getElem_cons_zero])
    (try simp only [Act.put, List.setIfInBounds_toArray, List.set_cons_zero, List.set_cons_succ])
    refine wpAnyH_take (i := 4) (v := ?_) rfl (by kernel_rfl) (by kernel_rfl) (by kernel_rfl) (fun _ _ _ h => h) (Or.inl ⟨by rfl, ?_⟩) (by assumption) ?_
    rotate_left
    · (intro W hSW; go_simp; try (with_reducible rfl))
    (try simp only [List.getElem_toArray, List.getElem_cons_succ, List.getElem_cons_zero])
    (try simp only [Act.put, List.setIfInBounds_toArray, List.set_cons_zero, List.set_cons_succ])
    refine wpAnyH_take (i := 5) (v := ?_) rfl (by kernel_rfl) (by kernel_rfl) (by kernel_rfl) (fun _ _ _ h => h) (Or.inl ⟨by rfl, ?_⟩) (by assumption) ?_
    rotate_left
    · (intro W hSW; have zz := HC2.out W hSW; go_simp; try (with_reducible rfl))
    (try simp only [List.getElem_toArray, List.getElem_cons_succ, List.getElem_cons_zero])
    (try simp only [Act.put, List.setIfInBounds_toArray, List.set_cons_zero, List.set_cons_succ])
    refine wpAnyH_take (i := 6) (v := ?_) rfl (by kernel_rfl) (by kernel_rfl) (by kernel_rfl) (fun _ _ _ h => h) (Or.inl ⟨by rfl, ?_⟩) (by assumption) ?_
    rotate_left
    · (intro W hSW; go_simp; try (with_reducible rfl))
    (try simp only [List.getElem_toArray, List.getElem_cons_succ, List.getElem_cons_zero])
    (try simp only [Act.put, List.setIfInBounds_toArray, List.set_cons_zero, List.set_cons_succ])
    refine wpAnyH_take (i := 7) (v := ?_) rfl (by kernel_rfl) (by kernel_rfl) (by kernel_rfl) (fun _ _ _ h => h) (Or.inl ⟨by rfl, ?_⟩) (by assumption) ?_
    rotate_left
    · (intro W hSW; go_simp; try (with_reducible rfl))
    (try simp only [List.getElem_toArray, List.getElem_cons_succ, List.getElem_cons_zero])
    (try simp only [Act.put, List.setIfInBounds_toArray, List.set_cons_zero, List.set_cons_succ])
    refine wpAnyH_take (i := 8) (v := ?_) rfl (by kernel_rfl) (by kernel_rfl) (by kernel_rfl) (fun _ _ _ h => h) (Or.inl ⟨by rfl, ?_⟩) (by assumption) ?_
    rotate_left
    · (intro W hSW; go_simp; try (with_reducible rfl))
    (try simp only [List.getElem_toArray, List.getElem_cons_succ, List.getElem_cons_zero])
    (try simp only [Act.put, List.setIfInBounds_toArray, List.set_cons_zero, List.set_cons_succ])
    refine wpAnyH_ready (rs := [9]) (by kernel_rfl) (by simp) ?_
    refine AllReadyH.cons rfl (fun K hK => ?_) AllReadyH.nil
    refine wp_store_row 34 _ _ rfl (w.heap.size + 1 + 1) cs rfl rfl 34 zeroStCells ZW hs1 hs2 hs3 ?_
    have HG2 : (World.setRow WW.drew (w.heap.size + 1 + 1) cs).heap[(w.heap.size + 1 + 1 + 1)]? = some (.cells cs 34 (0, 0)) := (setRow_other _ _ _ _ (by have := HGE.out; omega)).trans HGN.out
    refine hK.out _ _ HG2 (fun _ => ?_)
    clear hK K
    (try simp only [Act.put, List.setIfInBounds_toArray])
    refine wpAnyH_ready (rs := [10]) (by kernel_rfl) (by simp) ?_
    refine AllReadyH.cons rfl (fun K hK => ?_) AllReadyH.nil
    go_simp
    refine hK.out _ _ HG2 (fun _ => ?_)
    clear hK K
    (try simp only [Act.put, List.setIfInBounds_toArray, List.set_cons_zero, List.set_cons_succ])
    refine wpAnyH_done (by kernel_rfl) ?_ _
    go_wp2_with fail
    try simp only [Exit.inBlock, Exit.then]
    exact bodyPost_ret (results_row_tmp rfl _ _ (w.heap.size + 1 + 1) 34 _ (0, 0) _ rfl (setRow_heap _ _ _ _ _ _ ZW) Tryd.underlying34 rfl hs1) rfl ⟨_, rfl, (HSN.out.below ((Below.refl _ _).drew) |>.setRow (by omega) _).mono (by omega), below_setRow ((HBA.out.trans (HBN.out.mono (by omega))).drew) (by omega) _⟩
end Go.Proofs.YtgoefojdggblpaaDoor
