/- Texts put together: KBegin, SameStK, KRun, MoreMath, StepTop, TopKit. -/
import Derived.Test.YtgdmdlkhnokieaaDoorGroupE
import Derived.Test.YtgdmdlkhnokieaaDoorGroupR
import Derived.Test.YtgdmdlkhnokieaaDoorGroupB
import Derived.Test.YtgdmdlkhnokieaaDoorGroupD
import Derived.Test.YtgdmdlkhnokieaaDoorGroupF
import Derived.Test.YtgdmdlkhnokieaaDoorGroupC
import Derived.ChangeKeysEq
import Derived.Laws.StructEq
import Derived.Test.YtgdmdlkhnokieaaDoorGroupA
import Derived.BigQuiet
import Derived.Deep.QuietTactic
import Derived.Test.YtgdmdlkhnokieaaDoorXStValAt
/- Contract of tierlinekeep.Begin: a run of a right program begins (written by gen/mkkb.py). -/
namespace Go.Proofs.YtgdmdlkhnokieaaDoor
open Go Go.RowKit

theorem ints_cut {w : World} {a : Option Addr} {n c m : Nat} {l : List Int} (h : IntsVal w (.slice a n c) l) (hm : m ≤ n) : IntsVal w (.slice a m c) (l.take m) := by
  obtain ⟨ao, b, off, n', cap, e, hl, ha, hc, hcp, hx⟩ := h
  simp only [Value.slice.injEq] at e
  obtain ⟨rfl, rfl, rfl⟩ := e
  refine ⟨a, b, off, m, c, rfl, by rw [List.length_take]; omega, fun h0 => ha (by omega), fun k hk => ?_, ⟨by omega, hcp.2⟩, hx⟩
  have hk' : k < m ∧ k < l.length := by rw [List.length_take] at hk; omega
  rw [hc k hk'.2]
  simp

set_option maxRecDepth 100000 in
set_option maxHeartbeats 8000000 in
theorem kbegin_any (P : List Fn) (pv : Value) (a0 a1 fuel : Int) (nv : Value) (l : List Int) (w : World) (ht : TabOk w) (hc : CallOk w) (hR : ProofAns P 0) (hv : ProgVal w pv P) (hn : IntsVal w nv l) (hfu : I64 fuel) :
    Calls Tryd.prog 14 #[.agg #[pv], inVal a0 a1 nv fuel] w fun e w' => ∃ v', e = .returned (.tuple #[v', .bool true]) ∧ StAt w' w.heap.size v' (beginSt ([a0, a1].take (par0 P).toNat) (l.take 10) (pickI fuel 300)) ∧ Below w.heap.size w w' := by
  have hpb := pickI_bounds fuel 300 (by omega)
  obtain ⟨b, off, cap, rfl, d0, hp1, hpc, hpm, q0, q2⟩ := right_head hR hv
  obtain ⟨na, nc, rfl⟩ := hn.shape
  obtain ⟨p, hp⟩ := Int.eq_ofNat_of_zero_le q0
  have hp2 : p ≤ 2 := by omega
  have hpI : (p : Int) ≤ 2 := by omega
  rw [hp] at d0 ⊢
  rw [Int.toNat_natCast]
  unfold maxLen at hpm
  unfold inVal
  have hP0 : (0 : Int) < P.length := by omega
  have hP0n : 0 < P.length := by omega
  have HBA : Hid (Below w.heap.size w (((w.alloc (.cells #[.slice (some ⟨b, off, none⟩) P.length cap] 29)).alloc (.cells #[.int .i64 a0, .int .i64 a1, .slice na l.length nc, .int .i64 fuel] 26)).alloc (.cells #[.int .i64 0, .int .i64 0, .slice none 0 0, .int .i64 0, .int .i64 0, .int .i64 0, .int .i64 0, .int .i64 0, .int .i64 0, .int .i64 0, .int .i64 0, .int .i64 0, .int .i64 0, .int .i64 0, .int .i64 0, .int .i64 0, .int .i64 0, .int .i64 0, .int .i64 0, .int .i64 0, .slice none 0 0, .slice none 0 0] 34))) := (((Below.refl _ _).alloc (Nat.le_refl _) _).alloc (by simp) _).alloc (by simp; omega) _
  have D0 := keeps_below HBA.out _ _ d0
  have P0 : (((w.alloc (.cells #[.slice (some ⟨b, off, none⟩) P.length cap] 29)).alloc (.cells #[.int .i64 a0, .int .i64 a1, .slice na l.length nc, .int .i64 fuel] 26)).alloc (.cells #[.int .i64 0, .int .i64 0, .slice none 0 0, .int .i64 0, .int .i64 0, .int .i64 0, .int .i64 0, .int .i64 0, .int .i64 0, .int .i64 0, .int .i64 0, .int .i64 0, .int .i64 0, .int .i64 0, .int .i64 0, .int .i64 0, .int .i64 0, .int .i64 0, .int .i64 0, .int .i64 0, .slice none 0 0, .slice none 0 0] 34)).cell? ⟨w.heap.size, 0, none⟩ = some (.slice (some ⟨b, off, none⟩) P.length cap) := by
    rw [cell_of_row _ _ _ _ _ _ ((heap_alloc_old _ _ (by simp; omega)).trans (heap_alloc2_old _ _ _))]; rfl
  have I0 : (((w.alloc (.cells #[.slice (some ⟨b, off, none⟩) P.length cap] 29)).alloc (.cells #[.int .i64 a0, .int .i64 a1, .slice na l.length nc, .int .i64 fuel] 26)).alloc (.cells #[.int .i64 0, .int .i64 0, .slice none 0 0, .int .i64 0, .int .i64 0, .int .i64 0, .int .i64 0, .int .i64 0, .int .i64 0, .int .i64 0, .int .i64 0, .int .i64 0, .int .i64 0, .int .i64 0, .int .i64 0, .int .i64 0, .int .i64 0, .int .i64 0, .int .i64 0, .int .i64 0, .slice none 0 0, .slice none 0 0] 34)).heap[w.heap.size + 1]? = some (.cells #[.int .i64 a0, .int .i64 a1, .slice na l.length nc, .int .i64 fuel] 26 (0, 0)) := (heap_alloc_old _ _ (by simp)).trans (heap_alloc2_new _ _ _)
  have I2 : (((w.alloc (.cells #[.slice (some ⟨b, off, none⟩) P.length cap] 29)).alloc (.cells #[.int .i64 a0, .int .i64 a1, .slice na l.length nc, .int .i64 fuel] 26)).alloc (.cells #[.int .i64 0, .int .i64 0, .slice none 0 0, .int .i64 0, .int .i64 0, .int .i64 0, .int .i64 0, .int .i64 0, .int .i64 0, .int .i64 0, .int .i64 0, .int .i64 0, .int .i64 0, .int .i64 0, .int .i64 0, .int .i64 0, .int .i64 0, .int .i64 0, .int .i64 0, .int .i64 0, .slice none 0 0, .slice none 0 0] 34)).cell? ⟨w.heap.size + 1, 2, none⟩ = some (.slice na l.length nc) := by rw [cell_of_row _ _ _ _ _ _ I0]; rfl
  have I3 : (((w.alloc (.cells #[.slice (some ⟨b, off, none⟩) P.length cap] 29)).alloc (.cells #[.int .i64 a0, .int .i64 a1, .slice na l.length nc, .int .i64 fuel] 26)).alloc (.cells #[.int .i64 0, .int .i64 0, .slice none 0 0, .int .i64 0, .int .i64 0, .int .i64 0, .int .i64 0, .int .i64 0, .int .i64 0, .int .i64 0, .int .i64 0, .int .i64 0, .int .i64 0, .int .i64 0, .int .i64 0, .int .i64 0, .int .i64 0, .int .i64 0, .int .i64 0, .int .i64 0, .slice none 0 0, .slice none 0 0] 34)).cell? ⟨w.heap.size + 1, 3, none⟩ = some (.int .i64 fuel) := by rw [cell_of_row _ _ _ _ _ _ I0]; rfl
  have Z0 : (((w.alloc (.cells #[.slice (some ⟨b, off, none⟩) P.length cap] 29)).alloc (.cells #[.int .i64 a0, .int .i64 a1, .slice na l.length nc, .int .i64 fuel] 26)).alloc (.cells #[.int .i64 0, .int .i64 0, .slice none 0 0, .int .i64 0, .int .i64 0, .int .i64 0, .int .i64 0, .int .i64 0, .int .i64 0, .int .i64 0, .int .i64 0, .int .i64 0, .int .i64 0, .int .i64 0, .int .i64 0, .int .i64 0, .int .i64 0, .int .i64 0, .int .i64 0, .int .i64 0, .slice none 0 0, .slice none 0 0] 34)).heap[w.heap.size + 1 + 1]? = some (.cells zeroStCells 34 (0, 0)) := heap_alloc3_new _ _ _ _
  obtain ⟨m, hm⟩ : ∃ m : Nat, m = min l.length 10 := ⟨_, rfl⟩
  have hml : m ≤ l.length := by omega
  have hmI : (m : Int) ≤ l.length := by omega
  have hmin : (if (10 : Int) < (l.length : Int) then (10 : Int) else (l.length : Int)) = (m : Int) := by split <;> omega
  have HIA : Hid (IntsVal (((w.alloc (.cells #[.slice (some ⟨b, off, none⟩) P.length cap] 29)).alloc (.cells #[.int .i64 a0, .int .i64 a1, .slice na l.length nc, .int .i64 fuel] 26)).alloc (.cells #[.int .i64 0, .int .i64 0, .slice none 0 0, .int .i64 0, .int .i64 0, .int .i64 0, .int .i64 0, .int .i64 0, .int .i64 0, .int .i64 0, .int .i64 0, .int .i64 0, .int .i64 0, .int .i64 0, .int .i64 0, .int .i64 0, .int .i64 0, .int .i64 0, .int .i64 0, .int .i64 0, .slice none 0 0, .slice none 0 0] 34)) (.slice (some ⟨w.heap.size + 1, 0, none⟩) p 2) ([a0, a1].take p)) := by
    refine ⟨_, w.heap.size + 1, 0, p, 2, rfl, by rw [List.length_take]; simp; omega, fun _ => rfl, fun k hk => ?_, ⟨hp2, fun e => by cases e⟩, by simp [maxLen]⟩
    rw [cell_of_row _ _ _ _ _ _ I0]
    rcases (show p = 0 ∨ p = 1 ∨ p = 2 by omega) with rfl | rfl | rfl
    · exact absurd hk (by simp)
    · obtain rfl : k = 0 := by have : k < 1 := hk; omega
      rfl
    · rcases (show k = 0 ∨ k = 1 by have : k < 2 := hk; omega) with rfl | rfl <;> rfl
  have HIN : Hid (IntsVal w (.slice na m nc) (l.take m)) := ints_cut hn hml
  have hnc : l.length ≤ nc ∧ nc ≤ 9223372036854775807 := by
    obtain ⟨ao, b', off', n', cap', e, hl, ha, hcc, hcp, hx⟩ := hn
    simp only [Value.slice.injEq] at e
    unfold maxLen at hx
    omega
  have hmc : m ≤ nc := by omega
  have elm : l.take m = l.take 10 := by
    rw [hm]
    rcases Nat.le_total l.length 10 with h | h
    · rw [Nat.min_eq_left h, List.take_of_length_le (Nat.le_refl _), List.take_of_length_le h]
    · rw [Nat.min_eq_right h]
  rw [← elm]
  have HP : Hid (par0 P = p) := hp
  have HPK : Hid (∀ W, Calls Tryd.prog 11 #[.int .i64 fuel, .int .i64 300] W fun e w' => e = .returned (.int .i64 (pickI fuel 300)) ∧ w' = W) := fun W => picked_any fuel 300 W hfu (by omega) (by omega)
  have HBG : Hid (∀ W, Below (w.heap.size + 3) (((w.alloc (.cells #[.slice (some ⟨b, off, none⟩) P.length cap] 29)).alloc (.cells #[.int .i64 a0, .int .i64 a1, .slice na l.length nc, .int .i64 fuel] 26)).alloc (.cells #[.int .i64 0, .int .i64 0, .slice none 0 0, .int .i64 0, .int .i64 0, .int .i64 0, .int .i64 0, .int .i64 0, .int .i64 0, .int .i64 0, .int .i64 0, .int .i64 0, .int .i64 0, .int .i64 0, .int .i64 0, .int .i64 0, .int .i64 0, .int .i64 0, .int .i64 0, .int .i64 0, .slice none 0 0, .slice none 0 0] 34)) W → Calls Tryd.prog 29 #[.agg #[.slice (some ⟨b, off, none⟩) P.length cap], .slice (some ⟨w.heap.size + 1, 0, none⟩) p 2, .slice na m nc, .int .i64 (pickI fuel 300)] W fun e w' => ∃ cs fr fc, e = .returned (.tuple #[.agg cs, .int .i64 0]) ∧ (Tryd.prog.info? 34).map (·.size) = some cs.size ∧ zeroStCells.size = cs.size ∧ cs.all (·.oneCell') = true ∧ cs[2]? = some (.slice fr 1 fc) ∧ StAt w' W.heap.size (.agg cs) (beginSt ([a0, a1].take p) (l.take m) (pickI fuel 300)) ∧ Below W.heap.size W w') := fun W hW => by
    have hWb : Below w.heap.size w W := HBA.out.trans (hW.mono (by omega))
    refine (begin_at P _ _ _ ([a0, a1].take p) (l.take m) (pickI fuel 300) W (ht.below hWb) (hc.below hWb) (hv.keeps (keeps_below hWb)) (HIA.out.keeps (fun ad u hu => (World.cell?_of_block (hW.block _ (by have := World.block_lt_of_cell? _ _ hu; simpa using this))).trans hu)) (HIN.out.keeps (keeps_below hWb))).mono ?_
    rintro e w' ⟨E, v', hE, rfl, hst, hb⟩
    obtain rfl := proofAns_unique hE hR
    have e0 : beginE 0 P ([a0, a1].take p) (l.take m) (pickI fuel 300) = 0 := by
      unfold beginE
      rw [if_neg (by simp), if_neg, if_neg (by omega)]
      rw [List.length_take, List.length_take]
      simp only [List.length_cons, List.length_nil]
      omega
    rw [e0, beginS_zero] at hst
    rw [e0]
    obtain ⟨cs, hcs, h1, h2, h3⟩ := hst.val.cells
    obtain ⟨fv, ev, av, e1, -, hf, -⟩ := hst.val
    obtain ⟨fr, fc, rfl⟩ := hf.shape
    refine ⟨cs, fr, fc, by rw [← hcs], h1, h2, h3, ?_, by rw [← hcs]; exact hst, hb⟩
    rw [hcs] at e1
    obtain rfl : cs = _ := by simpa using e1
    rfl
  have HT : Hid (TabOk w ∧ CallOk w ∧ ProgVal w (.slice (some ⟨b, off, none⟩) P.length cap) P) := ⟨ht, hc, hv⟩
  have HL10 : Hid ((l.take m).length ≤ 100) := by rw [List.length_take]; show _ ≤ _; omega
  clear hn hm elm ht hc hv d0 hp q0 q2
  go_enter Tryd.func14, Tryd.ntmps14
  go_upto_region 1 with fail
  refine wp_region_held_drew (S := fun W => Below (w.heap.size + 3) (((w.alloc (.cells #[.slice (some ⟨b, off, none⟩) P.length cap] 29)).alloc (.cells #[.int .i64 a0, .int .i64 a1, .slice na l.length nc, .int .i64 fuel] 26)).alloc (.cells #[.int .i64 0, .int .i64 0, .slice none 0 0, .int .i64 0, .int .i64 0, .int .i64 0, .int .i64 0, .int .i64 0, .int .i64 0, .int .i64 0, .int .i64 0, .int .i64 0, .int .i64 0, .int .i64 0, .int .i64 0, .int .i64 0, .int .i64 0, .int .i64 0, .int .i64 0, .int .i64 0, .slice none 0 0, .slice none 0 0] 34)) W) (by kernel_rfl) ((Below.refl _ _).drew) (fun hHeld => ?_)
  show wpAnyH _ _ _ _ _ 25 _ _ _
  have HKP : Hid (∀ (W : World), Below (w.heap.size + 3) (((w.alloc (.cells #[.slice (some ⟨b, off, none⟩) P.length cap] 29)).alloc (.cells #[.int .i64 a0, .int .i64 a1, .slice na l.length nc, .int .i64 fuel] 26)).alloc (.cells #[.int .i64 0, .int .i64 0, .slice none 0 0, .int .i64 0, .int .i64 0, .int .i64 0, .int .i64 0, .int .i64 0, .int .i64 0, .int .i64 0, .int .i64 0, .int .i64 0, .int .i64 0, .int .i64 0, .int .i64 0, .int .i64 0, .int .i64 0, .int .i64 0, .int .i64 0, .int .i64 0, .slice none 0 0, .slice none 0 0] 34)) W → ∀ (ad : Addr) (u : Value), (((w.alloc (.cells #[.slice (some ⟨b, off, none⟩) P.length cap] 29)).alloc (.cells #[.int .i64 a0, .int .i64 a1, .slice na l.length nc, .int .i64 fuel] 26)).alloc (.cells #[.int .i64 0, .int .i64 0, .slice none 0 0, .int .i64 0, .int .i64 0, .int .i64 0, .int .i64 0, .int .i64 0, .int .i64 0, .int .i64 0, .int .i64 0, .int .i64 0, .int .i64 0, .int .i64 0, .int .i64 0, .int .i64 0, .int .i64 0, .int .i64 0, .int .i64 0, .int .i64 0, .slice none 0 0, .slice none 0 0] 34)).cell? ad = some u → W.cell? ad = some u) := fun W hW ad u hu => (World.cell?_of_block (hW.block _ (by have := World.block_lt_of_cell? _ _ hu; simpa using this))).trans hu
  refine wpAnyH_take (i := 0) (v := ?_) rfl (by kernel_rfl) (by kernel_rfl) (by kernel_rfl) (fun _ _ _ h => h) (Or.inl ⟨by rfl, ?_⟩) (by assumption) ?_
  rotate_left
  · (intro W hSW; have z0 := HKP.out _ hSW _ _ P0; go_simp; try (with_reducible rfl))
  (try simp only [Act.put, List.setIfInBounds_toArray])
  refine wpAnyH_take (i := 1) (v := ?_) rfl (by kernel_rfl) (by kernel_rfl) (by kernel_rfl) (fun _ _ _ h => h) (Or.inl ⟨by rfl, ?_⟩) (by assumption) ?_
  rotate_left
  · (intro W hSW; go_simp; try (with_reducible rfl))
  (try simp only [Act.put])
  refine wpAnyH_take (i := 2) (v := ?_) rfl (by kernel_rfl) (by kernel_rfl) (by kernel_rfl) (fun _ _ _ h => h) (Or.inl ⟨by rfl, ?_⟩) (by assumption) ?_
  rotate_left
  · (intro W hSW; go_simp; try (with_reducible rfl))
  (try simp only [Act.put])
  refine wpAnyH_take (i := 3) (v := ?_) rfl (by kernel_rfl) (by kernel_rfl) (by kernel_rfl) (fun _ _ _ h => h) (Or.inl ⟨by rfl, ?_⟩) (by assumption) ?_
  rotate_left
  · (intro W hSW; have z0 := HKP.out _ hSW _ _ P0; go_simp; try (with_reducible rfl))
  (try simp only [Act.put])
  refine wpAnyH_take (i := 4) (v := ?_) rfl (by kernel_rfl) (by kernel_rfl) (by kernel_rfl) (fun _ _ _ h => h) (Or.inl ⟨by rfl, ?_⟩) (by assumption) ?_
  rotate_left
  · (intro W hSW; go_simp; try (with_reducible rfl))
  (try simp only [Act.put])
  refine wpAnyH_take (i := 5) (v := ?_) rfl (by kernel_rfl) (by kernel_rfl) (by kernel_rfl) (fun _ _ _ h => h) (Or.inl ⟨by rfl, ?_⟩) (by assumption) ?_
  rotate_left
  · (intro W hSW; go_simp; try (with_reducible rfl))
  (try simp only [Act.put])
  refine wpAnyH_take (i := 6) (v := ?_) rfl (by kernel_rfl) (by kernel_rfl) (by kernel_rfl) (fun _ _ _ h => h) (Or.inl ⟨by rfl, ?_⟩) (by assumption) ?_
  rotate_left
  · (intro W hSW; have z0 := HKP.out _ hSW _ _ D0; go_simp; try (with_reducible rfl))
  (try simp only [Act.put])
  refine wpAnyH_take (i := 7) (v := ?_) rfl (by kernel_rfl) (by kernel_rfl) (by kernel_rfl) (fun _ _ _ h => h) (Or.inl ⟨by rfl, ?_⟩) (by assumption) ?_
  rotate_left
  · (intro W hSW; go_simp; try (with_reducible rfl))
  (try simp only [Act.put])
  refine wpAnyH_take (i := 8) (v := ?_) rfl (by kernel_rfl) (by kernel_rfl) (by kernel_rfl) (fun _ _ _ h => h) (Or.inl ⟨by rfl, ?_⟩) (by assumption) ?_
  rotate_left
  · (intro W hSW; go_simp; try (with_reducible rfl))
  (try simp only [Act.put])
  refine wpAnyH_take (i := 9) (v := ?_) rfl (by kernel_rfl) (by kernel_rfl) (by kernel_rfl) (fun _ _ _ h => h) (Or.inl ⟨by rfl, ?_⟩) (by assumption) ?_
  rotate_left
  · (intro W hSW; have z0 := HKP.out _ hSW _ _ I2; go_simp; try (with_reducible rfl))
  (try simp only [Act.put])
  refine wpAnyH_take (i := 10) (v := ?_) rfl (by kernel_rfl) (by kernel_rfl) (by kernel_rfl) (fun _ _ _ h => h) (Or.inl ⟨by rfl, ?_⟩) (by assumption) ?_
  rotate_left
  · (intro W hSW; go_simp; try (with_reducible rfl))
  (try simp only [Act.put])
  refine wpAnyH_take (i := 11) (v := ?_) rfl (by kernel_rfl) (by kernel_rfl) (by kernel_rfl) (fun _ _ _ h => h) (Or.inl ⟨by rfl, ?_⟩) (by assumption) ?_
  rotate_left
  · (intro W hSW; have z0 := HKP.out _ hSW _ _ I2; go_simp; try (with_reducible rfl))
  (try simp only [Act.put])
  refine wpAnyH_take (i := 12) (v := ?_) rfl (by kernel_rfl) (by kernel_rfl) (by kernel_rfl) (fun _ _ _ h => h) (Or.inl ⟨by rfl, ?_⟩) (by assumption) ?_
  rotate_left
  · (intro W hSW; go_simp; try (with_reducible rfl))
  (try simp only [Act.put])
  refine wpAnyH_take (i := 13) (v := ?_) rfl (by kernel_rfl) (by kernel_rfl) (by kernel_rfl) (fun _ _ _ h => h) (Or.inl ⟨by rfl, ?_⟩) (by assumption) ?_
  rotate_left
  · (intro W hSW; go_simp; try (with_reducible rfl))
  (try simp only [Act.put])
  refine wpAnyH_take (i := 14) (v := ?_) rfl (by kernel_rfl) (by kernel_rfl) (by kernel_rfl) (fun _ _ _ h => h) (Or.inl ⟨by rfl, ?_⟩) (by assumption) ?_
  rotate_left
  · (intro W hSW; go_simp; try (with_reducible rfl))
  (try simp only [Act.put])
  refine wpAnyH_take (i := 15) (v := ?_) rfl (by kernel_rfl) (by kernel_rfl) (by kernel_rfl) (fun _ _ _ h => h) (Or.inl ⟨by rfl, ?_⟩) (by assumption) ?_
  rotate_left
  · (intro W hSW; go_simp; try (with_reducible rfl))
  (try simp only [Act.put])
  refine wpAnyH_take (i := 16) (v := ?_) rfl (by kernel_rfl) (by kernel_rfl) (by kernel_rfl) (fun _ _ _ h => h) (Or.inl ⟨by rfl, ?_⟩) (by assumption) ?_
  rotate_left
  · (intro W hSW; have z0 := HKP.out _ hSW _ _ I3; go_simp; try (with_reducible rfl))
  (try simp only [Act.put])
  refine wpAnyH_ready (rs := [17, 22]) (by kernel_rfl) (by simp) ?_
  refine AllReadyH.cons rfl (fun K hK => ?_) (AllReadyH.cons rfl (fun K hK => ?_) AllReadyH.nil)
  · -- picked first
    go_simp
    go_at_call 11
    refine (HPK.out _).mono ?_
    rintro e wp ⟨rfl, hwp⟩
    replace hwp := hwp.symm
    subst hwp
    dsimp only
    refine hK.out _ _ (by assumption) (fun _ => ?_)
    clear hK K
    (try simp only [Act.put, List.setIfInBounds_toArray, List.set_cons_zero, List.set_cons_succ])
    refine wpAnyH_ready (rs := [18, 22]) (by kernel_rfl) (by simp) ?_
    refine AllReadyH.cons rfl (fun K hK => ?_) (AllReadyH.cons rfl (fun K hK => ?_) AllReadyH.nil)
    · -- Begin, then the box
      go_simp
      go_at_call 29
      refine (HBG.out _ hHeld).mono ?_
      rintro e w2 ⟨cs, fr, fc, rfl, hs1, hs2, hs3, hs4, hst, hb2⟩
      have HB2 : Hid (Below (w.heap.size + 3) (((w.alloc (.cells #[.slice (some ⟨b, off, none⟩) P.length cap] 29)).alloc (.cells #[.int .i64 a0, .int .i64 a1, .slice na l.length nc, .int .i64 fuel] 26)).alloc (.cells #[.int .i64 0, .int .i64 0, .slice none 0 0, .int .i64 0, .int .i64 0, .int .i64 0, .int .i64 0, .int .i64 0, .int .i64 0, .int .i64 0, .int .i64 0, .int .i64 0, .int .i64 0, .int .i64 0, .int .i64 0, .int .i64 0, .int .i64 0, .int .i64 0, .int .i64 0, .int .i64 0, .slice none 0 0, .slice none 0 0] 34)) w2) := Below.trans hHeld (hb2.mono (by simp; try omega))
      dsimp only
      refine hK.out _ _ HB2.out (fun _ => ?_)
      clear hK K
      (try simp only [Act.put, List.setIfInBounds_toArray, List.set_cons_zero, List.set_cons_succ])
      refine wpAnyH_take (i := 19) (v := ?_) rfl (by kernel_rfl) (by kernel_rfl) (by kernel_rfl) (fun _ _ _ h => h) (Or.inl ⟨by rfl, ?_⟩) HB2.out ?_
      rotate_left
      · (intro W hSW; go_simp; try (with_reducible rfl))
      (try simp only [Act.put, List.setIfInBounds_toArray])
      refine wpAnyH_take (i := 20) (v := ?_) rfl (by kernel_rfl) (by kernel_rfl) (by kernel_rfl) (fun _ _ _ h => h) (Or.inl ⟨by rfl, ?_⟩) HB2.out ?_
      rotate_left
      · (intro W hSW; go_simp; try (with_reducible rfl))
      (try simp only [Act.put])
      refine wpAnyH_take (i := 21) (v := ?_) rfl (by kernel_rfl) (by kernel_rfl) (by kernel_rfl) (fun _ _ _ h => h) (Or.inl ⟨by rfl, ?_⟩) HB2.out ?_
      rotate_left
      · (intro W hSW; go_simp; try (with_reducible rfl))
      (try simp only [Act.put])
      refine wpAnyH_ready (rs := [22]) (by kernel_rfl) (by simp) ?_
      refine AllReadyH.cons rfl (fun K hK => ?_) AllReadyH.nil
      go_simp
      refine hK.out _ _ (HB2.out.alloc (by have := HB2.out.size; simpa using this) _) (fun hHeld2 => ?_)
      clear hK K
      (try simp only [Act.put, List.setIfInBounds_toArray, List.set_cons_zero, List.set_cons_succ])
      have hz2 := HB2.out.size
      simp only [World.size_alloc] at hz2
      refine wpAnyH_ready (rs := [23]) (by kernel_rfl) (by simp) ?_
      refine AllReadyH.cons rfl (fun K hK => ?_) AllReadyH.nil
      refine wp_store_row 34 _ _ rfl w2.heap.size cs rfl rfl 34 zeroStCells (heap_alloc_last w2 _) hs1 hs2 hs3 ?_
      have HBN : Hid (Below (w.heap.size + 3) (((w.alloc (.cells #[.slice (some ⟨b, off, none⟩) P.length cap] 29)).alloc (.cells #[.int .i64 a0, .int .i64 a1, .slice na l.length nc, .int .i64 fuel] 26)).alloc (.cells #[.int .i64 0, .int .i64 0, .slice none 0 0, .int .i64 0, .int .i64 0, .int .i64 0, .int .i64 0, .int .i64 0, .int .i64 0, .int .i64 0, .int .i64 0, .int .i64 0, .int .i64 0, .int .i64 0, .int .i64 0, .int .i64 0, .int .i64 0, .int .i64 0, .int .i64 0, .int .i64 0, .slice none 0 0, .slice none 0 0] 34)) (World.setRow (w2.alloc (.cells #[.int .i64 0, .int .i64 0, .slice none 0 0, .int .i64 0, .int .i64 0, .int .i64 0, .int .i64 0, .int .i64 0, .int .i64 0, .int .i64 0, .int .i64 0, .int .i64 0, .int .i64 0, .int .i64 0, .int .i64 0, .int .i64 0, .int .i64 0, .int .i64 0, .int .i64 0, .int .i64 0, .slice none 0 0, .slice none 0 0] 34)) w2.heap.size cs)) := below_setRow (HB2.out.alloc (by omega) _) (by first | omega | (simp; done) | (simp; omega)) _
      have HGN : Hid ((World.setRow (w2.alloc (.cells #[.int .i64 0, .int .i64 0, .slice none 0 0, .int .i64 0, .int .i64 0, .int .i64 0, .int .i64 0, .int .i64 0, .int .i64 0, .int .i64 0, .int .i64 0, .int .i64 0, .int .i64 0, .int .i64 0, .int .i64 0, .int .i64 0, .int .i64 0, .int .i64 0, .int .i64 0, .int .i64 0, .slice none 0 0, .slice none 0 0] 34)) w2.heap.size cs).heap[w2.heap.size]? = some (.cells cs 34 (0, 0))) := setRow_heap _ _ _ _ _ _ (heap_alloc_last w2 _)
      have HSN : Hid (StAt (World.setRow (w2.alloc (.cells #[.int .i64 0, .int .i64 0, .slice none 0 0, .int .i64 0, .int .i64 0, .int .i64 0, .int .i64 0, .int .i64 0, .int .i64 0, .int .i64 0, .int .i64 0, .int .i64 0, .int .i64 0, .int .i64 0, .int .i64 0, .int .i64 0, .int .i64 0, .int .i64 0, .int .i64 0, .int .i64 0, .slice none 0 0, .slice none 0 0] 34)) w2.heap.size cs) (w.heap.size + 3) (.agg cs) (beginSt ([a0, a1].take p) (l.take m) (pickI fuel 300))) := StAt.mono (hst.moved (fun ad u ha hu => (World.cell?_of_block (setRow_other _ _ _ _ (by have := World.block_lt_of_cell? _ _ hu; omega))).trans (cell_alloc hu _))) (by first | omega | (simp; done) | (simp; omega))
      have HGE : Hid (w.heap.size + 3 ≤ w2.heap.size) := by show _ ≤ _; first | omega | (simp; done) | (simp; omega)
      refine hK.out _ _ HBN.out (fun _ => ?_)
      clear hK K
      generalize World.setRow (w2.alloc (.cells #[.int .i64 0, .int .i64 0, .slice none 0 0, .int .i64 0, .int .i64 0, .int .i64 0, .int .i64 0, .int .i64 0, .int .i64 0, .int .i64 0, .int .i64 0, .int .i64 0, .int .i64 0, .int .i64 0, .int .i64 0, .int .i64 0, .int .i64 0, .int .i64 0, .int .i64 0, .int .i64 0, .slice none 0 0, .slice none 0 0] 34)) w2.heap.size cs = WW at HBN HGN HSN ⊢
      clear hst hb2
      (try simp only [Act.put, List.setIfInBounds_toArray])
      refine wpAnyH_ready (rs := [24]) (by kernel_rfl) (by simp) ?_
      refine AllReadyH.cons rfl (fun K hK => ?_) AllReadyH.nil
      go_simp
      refine hK.out _ _ HBN.out (fun _ => ?_)
      clear hK K
      (try simp only [Act.put, List.setIfInBounds_toArray, List.set_cons_zero, List.set_cons_succ])
      refine wpAnyH_done (by kernel_rfl) ?_ _
      have ZW : WW.heap[w.heap.size + 1 + 1]? = some (.cells zeroStCells 34 (0, 0)) := (HBN.out.block _ (by omega)).trans Z0
      have C2 : ∀ W : World, W.heap[w2.heap.size]? = some (.cells cs 34 (0, 0)) → W.cell? ⟨w2.heap.size, 2, none⟩ = some (.slice fr 1 fc) := fun W hW => by rw [cell_of_row _ _ _ _ _ _ hW]; exact hs4
      have HC2 : Hid _ := C2
      clear C2 D0 P0 I0 I2 I3 Z0 hHeld hmin hml hmI hmc hnc hpI hp2 hP0 hP0n hpm hpc hp1 hpb hfu
      go_wp2_with fail
      refine wp_region_held_drew (S := fun W => W.heap[w2.heap.size]? = some (.cells cs 34 (0, 0))) (by kernel_rfl) HGN.out (fun hHeld => ?_)
      show wpAnyH _ _ _ _ _ 11 _ _ _
      refine wpAnyH_take (i := 0) (v := .agg cs.toList.toArray) rfl (by kernel_rfl) (by kernel_rfl) (by kernel_rfl) (fun _ _ _ h => h) (yieldsIf_load_mid (by rfl) 34 (.tmp 6) rfl w2.heap.size 0 rfl cs.toList _ (fun W hSW j u hu => by rw [cell_of_row _ _ _ _ _ _ hSW]; simpa using hu) Tryd.underlying34 rfl (by simpa using hs1)) (by assumption) ?_
      simp only [Array.toArray_toList]
      (try simp only [List.getElem_toArray, List.getElem_cons_zero])
      (try simp only [Act.put, List.setIfInBounds_toArray, List.set_cons_zero, List.set_cons_succ])
      refine wpAnyH_take (i := 1) (v := ?_) rfl (by kernel_rfl) (by kernel_rfl) (by kernel_rfl) (fun _ _ _ h => h) (Or.inl ⟨by rfl, ?_⟩) (by assumption) ?_
      rotate_left
      · (intro W hSW; go_simp; try (with_reducible rfl))
      (try simp only [List.getElem_toArray, List.getElem_cons_succ, List.getElem_cons_zero])
      (try simp only [Act.put, List.setIfInBounds_toArray, List.set_cons_zero, List.set_cons_succ])
      refine wpAnyH_take (i := 2) (v := ?_) rfl (by kernel_rfl) (by kernel_rfl) (by kernel_rfl) (fun _ _ _ h => h) (Or.inl ⟨by rfl, ?_⟩) (by assumption) ?_
      rotate_left
      · (intro W hSW; go_simp; try (with_reducible rfl))
      (try simp only [List.getElem_toArray, List.getElem_cons_succ, List.getElem_cons_zero])
      (try simp only [Act.put, List.setIfInBounds_toArray, List.set_cons_zero, List.set_cons_succ])
      refine wpAnyH_take (i := 3) (v := ?_) rfl (by kernel_rfl) (by kernel_rfl) (by kernel_rfl) (fun _ _ _ h => h) (Or.inl ⟨by rfl, ?_⟩) (by assumption) ?_
      rotate_left
      · (intro W hSW; go_simp; try (with_reducible rfl))
      (try simp only [List.getElem_toArray, List.getElem_cons_succ, List.getElem_cons_zero])
      (try simp only [Act.put, List.setIfInBounds_toArray, List.set_cons_zero, List.set_cons_succ])
      refine wpAnyH_take (i := 4) (v := ?_) rfl (by kernel_rfl) (by kernel_rfl) (by kernel_rfl) (fun _ _ _ h => h) (Or.inl ⟨by rfl, ?_⟩) (by assumption) ?_
      rotate_left
      · (intro W hSW; go_simp; try (with_reducible rfl))
      (try simp only [List.getElem_toArray, List.getElem_cons_succ, List.getElem_cons_zero])
      (try simp only [Act.put, List.setIfInBounds_toArray, List.set_cons_zero, List.set_cons_succ])
      refine wpAnyH_take (i := 5) (v := ?_) rfl (by kernel_rfl) (by kernel_rfl) (by kernel_rfl) (fun _ _ _ h => h) (Or.inl ⟨by rfl, ?_⟩) (by assumption) ?_
      rotate_left
      · (intro W hSW; have zz := HC2.out W hSW; go_simp; try (with_reducible rfl))
      (try simp only [List.getElem_toArray, List.getElem_cons_succ, List.getElem_cons_zero])
      (try simp only [Act.put, List.setIfInBounds_toArray, List.set_cons_zero, List.set_cons_succ])
      refine wpAnyH_take (i := 6) (v := ?_) rfl (by kernel_rfl) (by kernel_rfl) (by kernel_rfl) (fun _ _ _ h => h) (Or.inl ⟨by rfl, ?_⟩) (by assumption) ?_
      rotate_left
      · (intro W hSW; go_simp; try (with_reducible rfl))
      (try simp only [List.getElem_toArray, List.getElem_cons_succ, List.getElem_cons_zero])
      (try simp only [Act.put, List.setIfInBounds_toArray, List.set_cons_zero, List.set_cons_succ])
      refine wpAnyH_take (i := 7) (v := ?_) rfl (by kernel_rfl) (by kernel_rfl) (by kernel_rfl) (fun _ _ _ h => h) (Or.inl ⟨by rfl, ?_⟩) (by assumption) ?_
      rotate_left
      · (intro W hSW; go_simp; try (with_reducible rfl))
      (try simp only [List.getElem_toArray, List.getElem_cons_succ, List.getElem_cons_zero])
      (try simp only [Act.put, List.setIfInBounds_toArray, List.set_cons_zero, List.set_cons_succ])
      refine wpAnyH_take (i := 8) (v := ?_) rfl (by kernel_rfl) (by kernel_rfl) (by kernel_rfl) (fun _ _ _ h => h) (Or.inl ⟨by rfl, ?_⟩) (by assumption) ?_
      rotate_left
      · (intro W hSW; go_simp; try (with_reducible rfl))
      (try simp only [List.getElem_toArray, List.getElem_cons_succ, List.getElem_cons_zero])
      (try simp only [Act.put, List.setIfInBounds_toArray, List.set_cons_zero, List.set_cons_succ])
      refine wpAnyH_ready (rs := [9]) (by kernel_rfl) (by simp) ?_
      refine AllReadyH.cons rfl (fun K hK => ?_) AllReadyH.nil
      refine wp_store_row 34 _ _ rfl (w.heap.size + 1 + 1) cs rfl rfl 34 zeroStCells ZW hs1 hs2 hs3 ?_
      have HG2 : (World.setRow WW.drew (w.heap.size + 1 + 1) cs).heap[w2.heap.size]? = some (.cells cs 34 (0, 0)) := (setRow_other _ _ _ _ (by have := HGE.out; omega)).trans HGN.out
      refine hK.out _ _ HG2 (fun _ => ?_)
      clear hK K
      (try simp only [Act.put, List.setIfInBounds_toArray])
      refine wpAnyH_ready (rs := [10]) (by kernel_rfl) (by simp) ?_
      refine AllReadyH.cons rfl (fun K hK => ?_) AllReadyH.nil
      go_simp
      refine hK.out _ _ HG2 (fun _ => ?_)
      clear hK K
      (try simp only [Act.put, List.setIfInBounds_toArray, List.set_cons_zero, List.set_cons_succ])
      refine wpAnyH_done (by kernel_rfl) ?_ _
      go_wp2_with fail
      try simp only [Exit.inBlock, Exit.then]
      exact bodyPost_ret (results_row_tmp rfl _ _ (w.heap.size + 1 + 1) 34 _ (0, 0) _ rfl (setRow_heap _ _ _ _ _ _ ZW) Tryd.underlying34 rfl hs1) rfl ⟨_, rfl, (HSN.out.below ((Below.refl _ _).drew) |>.setRow (by omega) _).mono (by omega), below_setRow ((HBA.out.trans (HBN.out.mono (by omega))).drew) (by omega) _⟩
    · -- the box, then Begin
      go_simp
      refine hK.out _ _ (hHeld.alloc (by simp) _) (fun hHeld2 => ?_)
      clear hK K
      (try simp only [Act.put, List.setIfInBounds_toArray, List.set_cons_zero, List.set_cons_succ])
      refine wpAnyH_ready (rs := [18]) (by kernel_rfl) (by simp) ?_
      refine AllReadyH.cons rfl (fun K hK => ?_) AllReadyH.nil
      go_simp
      go_at_call 29
      refine (HBG.out _ hHeld2).mono ?_
      rintro e w2 ⟨cs, fr, fc, rfl, hs1, hs2, hs3, hs4, hst, hb2⟩
      have HB2 : Hid (Below (w.heap.size + 3) (((w.alloc (.cells #[.slice (some ⟨b, off, none⟩) P.length cap] 29)).alloc (.cells #[.int .i64 a0, .int .i64 a1, .slice na l.length nc, .int .i64 fuel] 26)).alloc (.cells #[.int .i64 0, .int .i64 0, .slice none 0 0, .int .i64 0, .int .i64 0, .int .i64 0, .int .i64 0, .int .i64 0, .int .i64 0, .int .i64 0, .int .i64 0, .int .i64 0, .int .i64 0, .int .i64 0, .int .i64 0, .int .i64 0, .int .i64 0, .int .i64 0, .int .i64 0, .int .i64 0, .slice none 0 0, .slice none 0 0] 34)) w2) := Below.trans hHeld2 (hb2.mono (by simp; try omega))
      dsimp only
      refine hK.out _ _ HB2.out (fun _ => ?_)
      clear hK K
      (try simp only [Act.put, List.setIfInBounds_toArray, List.set_cons_zero, List.set_cons_succ])
      have hz2 := HB2.out.size
      simp only [World.size_alloc] at hz2
      have hgz : w2.heap[w.heap.size + 1 + 1 + 1]? = some (.cells zeroStCells 34 (0, 0)) := (hb2.block _ (by simp)).trans (by have := heap_alloc_last (((w.alloc (.cells #[.slice (some ⟨b, off, none⟩) P.length cap] 29)).alloc (.cells #[.int .i64 a0, .int .i64 a1, .slice na l.length nc, .int .i64 fuel] 26)).alloc (.cells #[.int .i64 0, .int .i64 0, .slice none 0 0, .int .i64 0, .int .i64 0, .int .i64 0, .int .i64 0, .int .i64 0, .int .i64 0, .int .i64 0, .int .i64 0, .int .i64 0, .int .i64 0, .int .i64 0, .int .i64 0, .int .i64 0, .int .i64 0, .int .i64 0, .int .i64 0, .int .i64 0, .slice none 0 0, .slice none 0 0] 34)) (.cells #[.int .i64 0, .int .i64 0, .slice none 0 0, .int .i64 0, .int .i64 0, .int .i64 0, .int .i64 0, .int .i64 0, .int .i64 0, .int .i64 0, .int .i64 0, .int .i64 0, .int .i64 0, .int .i64 0, .int .i64 0, .int .i64 0, .int .i64 0, .int .i64 0, .int .i64 0, .int .i64 0, .slice none 0 0, .slice none 0 0] 34); simp only [World.size_alloc] at this; exact this)
      refine wpAnyH_take (i := 19) (v := ?_) rfl (by kernel_rfl) (by kernel_rfl) (by kernel_rfl) (fun _ _ _ h => h) (Or.inl ⟨by rfl, ?_⟩) HB2.out ?_
      rotate_left
      · (intro W hSW; go_simp; try (with_reducible rfl))
      (try simp only [Act.put, List.setIfInBounds_toArray])
      refine wpAnyH_take (i := 20) (v := ?_) rfl (by kernel_rfl) (by kernel_rfl) (by kernel_rfl) (fun _ _ _ h => h) (Or.inl ⟨by rfl, ?_⟩) HB2.out ?_
      rotate_left
      · (intro W hSW; go_simp; try (with_reducible rfl))
      (try simp only [Act.put])
      refine wpAnyH_take (i := 21) (v := ?_) rfl (by kernel_rfl) (by kernel_rfl) (by kernel_rfl) (fun _ _ _ h => h) (Or.inl ⟨by rfl, ?_⟩) HB2.out ?_
      rotate_left
      · (intro W hSW; go_simp; try (with_reducible rfl))
      (try simp only [Act.put])
      refine wpAnyH_ready (rs := [23]) (by kernel_rfl) (by simp) ?_
      refine AllReadyH.cons rfl (fun K hK => ?_) AllReadyH.nil
      refine wp_store_row 34 _ _ rfl (w.heap.size + 1 + 1 + 1) cs rfl rfl 34 zeroStCells hgz hs1 hs2 hs3 ?_
      have HBN : Hid (Below (w.heap.size + 3) (((w.alloc (.cells #[.slice (some ⟨b, off, none⟩) P.length cap] 29)).alloc (.cells #[.int .i64 a0, .int .i64 a1, .slice na l.length nc, .int .i64 fuel] 26)).alloc (.cells #[.int .i64 0, .int .i64 0, .slice none 0 0, .int .i64 0, .int .i64 0, .int .i64 0, .int .i64 0, .int .i64 0, .int .i64 0, .int .i64 0, .int .i64 0, .int .i64 0, .int .i64 0, .int .i64 0, .int .i64 0, .int .i64 0, .int .i64 0, .int .i64 0, .int .i64 0, .int .i64 0, .slice none 0 0, .slice none 0 0] 34)) (World.setRow w2 (w.heap.size + 1 + 1 + 1) cs)) := below_setRow HB2.out (by first | omega | (simp; done) | (simp; omega)) _
      have HGN : Hid ((World.setRow w2 (w.heap.size + 1 + 1 + 1) cs).heap[(w.heap.size + 1 + 1 + 1)]? = some (.cells cs 34 (0, 0))) := setRow_heap _ _ _ _ _ _ hgz
      have HSN : Hid (StAt (World.setRow w2 (w.heap.size + 1 + 1 + 1) cs) (w.heap.size + 3) (.agg cs) (beginSt ([a0, a1].take p) (l.take m) (pickI fuel 300))) := StAt.mono (hst.setRow (by simp) _) (by first | omega | (simp; done) | (simp; omega))
      have HGE : Hid (w.heap.size + 3 ≤ (w.heap.size + 1 + 1 + 1)) := by show _ ≤ _; first | omega | (simp; done) | (simp; omega)
      refine hK.out _ _ HBN.out (fun _ => ?_)
      clear hK K
      generalize World.setRow w2 (w.heap.size + 1 + 1 + 1) cs = WW at HBN HGN HSN ⊢
      clear hst hb2
      (try simp only [Act.put])
      refine wpAnyH_ready (rs := [24]) (by kernel_rfl) (by simp) ?_
      refine AllReadyH.cons rfl (fun K hK => ?_) AllReadyH.nil
      go_simp
      refine hK.out _ _ HBN.out (fun _ => ?_)
      clear hK K
      (try simp only [Act.put, List.setIfInBounds_toArray, List.set_cons_zero, List.set_cons_succ])
      refine wpAnyH_done (by kernel_rfl) ?_ _
      have ZW : WW.heap[w.heap.size + 1 + 1]? = some (.cells zeroStCells 34 (0, 0)) := (HBN.out.block _ (by omega)).trans Z0
      have C2 : ∀ W : World, W.heap[(w.heap.size + 1 + 1 + 1)]? = some (.cells cs 34 (0, 0)) → W.cell? ⟨(w.heap.size + 1 + 1 + 1), 2, none⟩ = some (.slice fr 1 fc) := fun W hW => by rw [cell_of_row _ _ _ _ _ _ hW]; exact hs4
      have HC2 : Hid _ := C2
      clear C2 D0 P0 I0 I2 I3 Z0 hHeld hmin hml hmI hmc hnc hpI hp2 hP0 hP0n hpm hpc hp1 hpb hfu
      go_wp2_with fail
      refine wp_region_held_drew (S := fun W => W.heap[(w.heap.size + 1 + 1 + 1)]? = some (.cells cs 34 (0, 0))) (by kernel_rfl) HGN.out (fun hHeld => ?_)
      show wpAnyH _ _ _ _ _ 11 _ _ _
      refine wpAnyH_take (i := 0) (v := .agg cs.toList.toArray) rfl (by kernel_rfl) (by kernel_rfl) (by kernel_rfl) (fun _ _ _ h => h) (yieldsIf_load_mid (by rfl) 34 (.tmp 6) rfl (w.heap.size + 1 + 1 + 1) 0 rfl cs.toList _ (fun W hSW j u hu => by rw [cell_of_row _ _ _ _ _ _ hSW]; simpa using hu) Tryd.underlying34 rfl (by simpa using hs1)) (by assumption) ?_
      simp only [Array.toArray_toList]
      (try simp only [List.getElem_toArray, List.getElem_cons_zero])
      (try simp only [Act.put, List.setIfInBounds_toArray, List.set_cons_zero, List.set_cons_succ])
      refine wpAnyH_take (i := 1) (v := ?_) rfl (by kernel_rfl) (by kernel_rfl) (by kernel_rfl) (fun _ _ _ h => h) (Or.inl ⟨by rfl, ?_⟩) (by assumption) ?_
      rotate_left
      · (intro W hSW; go_simp; try (with_reducible rfl))
      (try simp only [List.getElem_toArray, List.getElem_cons_succ, List.getElem_cons_zero])
      (try simp only [Act.put, List.setIfInBounds_toArray, List.set_cons_zero, List.set_cons_succ])
      refine wpAnyH_take (i := 2) (v := ?_) rfl (by kernel_rfl) (by kernel_rfl) (by kernel_rfl) (fun _ _ _ h => h) (Or.inl ⟨by rfl, ?_⟩) (by assumption) ?_
      rotate_left
      · (intro W hSW; go_simp; try (with_reducible rfl))
      (try simp only [List.getElem_toArray, List.getElem_cons_succ, List.getElem_cons_zero])
      (try simp only [Act.put, List.setIfInBounds_toArray, List.set_cons_zero, List.set_cons_succ])
      refine wpAnyH_take (i := 3) (v := ?_) rfl (by kernel_rfl) (by kernel_rfl) (by kernel_rfl) (fun _ _ _ h => h) (Or.inl ⟨by rfl, ?_⟩) (by assumption) ?_
      rotate_left
      · (intro W hSW; go_simp; try (with_reducible rfl))
      (try simp only [List.getElem_toArray, List.getElem_cons_succ, List.getElem_cons_zero])
      (try simp only [Act.put, List.setIfInBounds_toArray, List.set_cons_zero, List.set_cons_succ])
      refine wpAnyH_take (i := 4) (v := ?_) rfl (by kernel_rfl) (by kernel_rfl) (by kernel_rfl) (fun _ _ _ h => h) (Or.inl ⟨by rfl, ?_⟩) (by assumption) ?_
      rotate_left
      · (intro W hSW; go_simp; try (with_reducible rfl))
      (try simp only [List.getElem_toArray, List.getElem_cons_succ, List.getElem_cons_zero])
      (try simp only [Act.put, List.setIfInBounds_toArray, List.set_cons_zero, List.set_cons_succ])
      refine wpAnyH_take (i := 5) (v := ?_) rfl (by kernel_rfl) (by kernel_rfl) (by kernel_rfl) (fun _ _ _ h => h) (Or.inl ⟨by rfl, ?_⟩) (by assumption) ?_
      rotate_left
      · (intro W hSW; have zz := HC2.out W hSW; go_simp; try (with_reducible rfl))
      (try simp only [List.getElem_toArray, List.getElem_cons_succ, List.getElem_cons_zero])
      (try simp only [Act.put, List.setIfInBounds_toArray, List.set_cons_zero, List.set_cons_succ])
      refine wpAnyH_take (i := 6) (v := ?_) rfl (by kernel_rfl) (by kernel_rfl) (by kernel_rfl) (fun _ _ _ h => h) (Or.inl ⟨by rfl, ?_⟩) (by assumption) ?_
      rotate_left
      · (intro W hSW; go_simp; try (with_reducible rfl))
      (try simp only [List.getElem_toArray, List.getElem_cons_succ, List.getElem_cons_zero])
      (try simp only [Act.put, List.setIfInBounds_toArray, List.set_cons_zero, List.set_cons_succ])
      refine wpAnyH_take (i := 7) (v := ?_) rfl (by kernel_rfl) (by kernel_rfl) (by kernel_rfl) (fun _ _ _ h => h) (Or.inl ⟨by rfl, ?_⟩) (by assumption) ?_
      rotate_left
      · (intro W hSW; go_simp; try (with_reducible rfl))
      (try simp only [List.getElem_toArray, List.getElem_cons_succ, List.getElem_cons_zero])
      (try simp only [Act.put, List.setIfInBounds_toArray, List.set_cons_zero, List.set_cons_succ])
      refine wpAnyH_take (i := 8) (v := ?_) rfl (by kernel_rfl) (by kernel_rfl) (by kernel_rfl) (fun _ _ _ h => h) (Or.inl ⟨by rfl, ?_⟩) (by assumption) ?_
      rotate_left
      · (intro W hSW; go_simp; try (with_reducible rfl))
      (try simp only [List.getElem_toArray, List.getElem_cons_succ, List.getElem_cons_zero])
      (try simp only [Act.put, List.setIfInBounds_toArray, List.set_cons_zero, List.set_cons_succ])
      refine wpAnyH_ready (rs := [9]) (by kernel_rfl) (by simp) ?_
      refine AllReadyH.cons rfl (fun K hK => ?_) AllReadyH.nil
      refine wp_store_row 34 _ _ rfl (w.heap.size + 1 + 1) cs rfl rfl 34 zeroStCells ZW hs1 hs2 hs3 ?_
      have HG2 : (World.setRow WW.drew (w.heap.size + 1 + 1) cs).heap[(w.heap.size + 1 + 1 + 1)]? = some (.cells cs 34 (0, 0)) := (setRow_other _ _ _ _ (by have := HGE.out; omega)).trans HGN.out
      refine hK.out _ _ HG2 (fun _ => ?_)
      clear hK K
      (try simp only [Act.put, List.setIfInBounds_toArray])
      refine wpAnyH_ready (rs := [10]) (by kernel_rfl) (by simp) ?_
      refine AllReadyH.cons rfl (fun K hK => ?_) AllReadyH.nil
      go_simp
      refine hK.out _ _ HG2 (fun _ => ?_)
      clear hK K
      (try simp only [Act.put, List.setIfInBounds_toArray, List.set_cons_zero, List.set_cons_succ])
      refine wpAnyH_done (by kernel_rfl) ?_ _
      go_wp2_with fail
      try simp only [Exit.inBlock, Exit.then]
      exact bodyPost_ret (results_row_tmp rfl _ _ (w.heap.size + 1 + 1) 34 _ (0, 0) _ rfl (setRow_heap _ _ _ _ _ _ ZW) Tryd.underlying34 rfl hs1) rfl ⟨_, rfl, (HSN.out.below ((Below.refl _ _).drew) |>.setRow (by omega) _).mono (by omega), below_setRow ((HBA.out.trans (HBN.out.mono (by omega))).drew) (by omega) _⟩
  · -- the box first
    go_simp
    refine hK.out _ _ (hHeld.alloc (by simp) _) (fun hHeld2 => ?_)
    clear hK K
    (try simp only [Act.put, List.setIfInBounds_toArray, List.set_cons_zero, List.set_cons_succ])
    refine wpAnyH_ready (rs := [17]) (by kernel_rfl) (by simp) ?_
    refine AllReadyH.cons rfl (fun K hK => ?_) AllReadyH.nil
    go_simp
    go_at_call 11
    refine (HPK.out _).mono ?_
    rintro e wp ⟨rfl, hwp⟩
    replace hwp := hwp.symm
    subst hwp
    dsimp only
    refine hK.out _ _ hHeld2 (fun _ => ?_)
    clear hK K
    (try simp only [Act.put, List.setIfInBounds_toArray, List.set_cons_zero, List.set_cons_succ])
    refine wpAnyH_ready (rs := [18]) (by kernel_rfl) (by simp) ?_
    refine AllReadyH.cons rfl (fun K hK => ?_) AllReadyH.nil
    go_simp
    go_at_call 29
    refine (HBG.out _ hHeld2).mono ?_
    rintro e w2 ⟨cs, fr, fc, rfl, hs1, hs2, hs3, hs4, hst, hb2⟩
    have HB2 : Hid (Below (w.heap.size + 3) (((w.alloc (.cells #[.slice (some ⟨b, off, none⟩) P.length cap] 29)).alloc (.cells #[.int .i64 a0, .int .i64 a1, .slice na l.length nc, .int .i64 fuel] 26)).alloc (.cells #[.int .i64 0, .int .i64 0, .slice none 0 0, .int .i64 0, .int .i64 0, .int .i64 0, .int .i64 0, .int .i64 0, .int .i64 0, .int .i64 0, .int .i64 0, .int .i64 0, .int .i64 0, .int .i64 0, .int .i64 0, .int .i64 0, .int .i64 0, .int .i64 0, .int .i64 0, .int .i64 0, .slice none 0 0, .slice none 0 0] 34)) w2) := Below.trans hHeld2 (hb2.mono (by simp; try omega))
    dsimp only
    refine hK.out _ _ HB2.out (fun _ => ?_)
    clear hK K
    (try simp only [Act.put, List.setIfInBounds_toArray, List.set_cons_zero, List.set_cons_succ])
    have hz2 := HB2.out.size
    simp only [World.size_alloc] at hz2
    have hgz : w2.heap[w.heap.size + 1 + 1 + 1]? = some (.cells zeroStCells 34 (0, 0)) := (hb2.block _ (by simp)).trans (by have := heap_alloc_last (((w.alloc (.cells #[.slice (some ⟨b, off, none⟩) P.length cap] 29)).alloc (.cells #[.int .i64 a0, .int .i64 a1, .slice na l.length nc, .int .i64 fuel] 26)).alloc (.cells #[.int .i64 0, .int .i64 0, .slice none 0 0, .int .i64 0, .int .i64 0, .int .i64 0, .int .i64 0, .int .i64 0, .int .i64 0, .int .i64 0, .int .i64 0, .int .i64 0, .int .i64 0, .int .i64 0, .int .i64 0, .int .i64 0, .int .i64 0, .int .i64 0, .int .i64 0, .int .i64 0, .slice none 0 0, .slice none 0 0] 34)) (.cells #[.int .i64 0, .int .i64 0, .slice none 0 0, .int .i64 0, .int .i64 0, .int .i64 0, .int .i64 0, .int .i64 0, .int .i64 0, .int .i64 0, .int .i64 0, .int .i64 0, .int .i64 0, .int .i64 0, .int .i64 0, .int .i64 0, .int .i64 0, .int .i64 0, .int .i64 0, .int .i64 0, .slice none 0 0, .slice none 0 0] 34); simp only [World.size_alloc] at this; exact this)
    refine wpAnyH_take (i := 19) (v := ?_) rfl (by kernel_rfl) (by kernel_rfl) (by kernel_rfl) (fun _ _ _ h => h) (Or.inl ⟨by rfl, ?_⟩) HB2.out ?_
    rotate_left
    · (intro W hSW; go_simp; try (with_reducible rfl))
    (try simp only [Act.put, List.setIfInBounds_toArray])
    refine wpAnyH_take (i := 20) (v := ?_) rfl (by kernel_rfl) (by kernel_rfl) (by kernel_rfl) (fun _ _ _ h => h) (Or.inl ⟨by rfl, ?_⟩) HB2.out ?_
    rotate_left
    · (intro W hSW; go_simp; try (with_reducible rfl))
    (try simp only [Act.put])
    refine wpAnyH_take (i := 21) (v := ?_) rfl (by kernel_rfl) (by kernel_rfl) (by kernel_rfl) (fun _ _ _ h => h) (Or.inl ⟨by rfl, ?_⟩) HB2.out ?_
    rotate_left
    · (intro W hSW; go_simp; try (with_reducible rfl))
    (try simp only [Act.put])
    refine wpAnyH_ready (rs := [23]) (by kernel_rfl) (by simp) ?_
    refine AllReadyH.cons rfl (fun K hK => ?_) AllReadyH.nil
    refine wp_store_row 34 _ _ rfl (w.heap.size + 1 + 1 + 1) cs rfl rfl 34 zeroStCells hgz hs1 hs2 hs3 ?_
    have HBN : Hid (Below (w.heap.size + 3) (((w.alloc (.cells #[.slice (some ⟨b, off, none⟩) P.length cap] 29)).alloc (.cells #[.int .i64 a0, .int .i64 a1, .slice na l.length nc, .int .i64 fuel] 26)).alloc (.cells #[.int .i64 0, .int .i64 0, .slice none 0 0, .int .i64 0, .int .i64 0, .int .i64 0, .int .i64 0, .int .i64 0, .int .i64 0, .int .i64 0, .int .i64 0, .int .i64 0, .int .i64 0, .int .i64 0, .int .i64 0, .int .i64 0, .int .i64 0, .int .i64 0, .int .i64 0, .int .i64 0, .slice none 0 0, .slice none 0 0] 34)) (World.setRow w2 (w.heap.size + 1 + 1 + 1) cs)) := below_setRow HB2.out (by first | omega | (simp; done) | (simp; omega)) _
    have HGN : Hid ((World.setRow w2 (w.heap.size + 1 + 1 + 1) cs).heap[(w.heap.size + 1 + 1 + 1)]? = some (.cells cs 34 (0, 0))) := setRow_heap _ _ _ _ _ _ hgz
    have HSN : Hid (StAt (World.setRow w2 (w.heap.size + 1 + 1 + 1) cs) (w.heap.size + 3) (.agg cs) (beginSt ([a0, a1].take p) (l.take m) (pickI fuel 300))) := StAt.mono (hst.setRow (by simp) _) (by first | omega | (simp; done) | (simp; omega))
    have HGE : Hid (w.heap.size + 3 ≤ (w.heap.size + 1 + 1 + 1)) := by show _ ≤ _; first | omega | (simp; done) | (simp; omega)
    refine hK.out _ _ HBN.out (fun _ => ?_)
    clear hK K
    generalize World.setRow w2 (w.heap.size + 1 + 1 + 1) cs = WW at HBN HGN HSN ⊢
    clear hst hb2
    (try simp only [Act.put])
    refine wpAnyH_ready (rs := [24]) (by kernel_rfl) (by simp) ?_
    refine AllReadyH.cons rfl (fun K hK => ?_) AllReadyH.nil
    go_simp
    refine hK.out _ _ HBN.out (fun _ => ?_)
    clear hK K
    (try simp only [Act.put, List.setIfInBounds_toArray, List.set_cons_zero, List.set_cons_succ])
    refine wpAnyH_done (by kernel_rfl) ?_ _
    have ZW : WW.heap[w.heap.size + 1 + 1]? = some (.cells zeroStCells 34 (0, 0)) := (HBN.out.block _ (by omega)).trans Z0
    have C2 : ∀ W : World, W.heap[(w.heap.size + 1 + 1 + 1)]? = some (.cells cs 34 (0, 0)) → W.cell? ⟨(w.heap.size + 1 + 1 + 1), 2, none⟩ = some (.slice fr 1 fc) := fun W hW => by rw [cell_of_row _ _ _ _ _ _ hW]; exact hs4
    have HC2 : Hid _ := C2
    clear C2 D0 P0 I0 I2 I3 Z0 hHeld hmin hml hmI hmc hnc hpI hp2 hP0 hP0n hpm hpc hp1 hpb hfu
    go_wp2_with fail
    refine wp_region_held_drew (S := fun W => W.heap[(w.heap.size + 1 + 1 + 1)]? = some (.cells cs 34 (0, 0))) (by kernel_rfl) HGN.out (fun hHeld => ?_)
    show wpAnyH _ _ _ _ _ 11 _ _ _
    refine wpAnyH_take (i := 0) (v := .agg cs.toList.toArray) rfl (by kernel_rfl) (by kernel_rfl) (by kernel_rfl) (fun _ _ _ h => h) (yieldsIf_load_mid (by rfl) 34 (.tmp 6) rfl (w.heap.size + 1 + 1 + 1) 0 rfl cs.toList _ (fun W hSW j u hu => by rw [cell_of_row _ _ _ _ _ _ hSW]; simpa using hu) Tryd.underlying34 rfl (by simpa using hs1)) (by assumption) ?_
    simp only [Array.toArray_toList]
    (try simp only [List.getElem_toArray, List.getElem_cons_zero])
    (try simp only [Act.put, List.setIfInBounds_toArray, List.set_cons_zero, List.set_cons_succ])
    refine wpAnyH_take (i := 1) (v := ?_) rfl (by kernel_rfl) (by kernel_rfl) (by kernel_rfl) (fun _ _ _ h => h) (Or.inl ⟨by rfl, ?_⟩) (by assumption) ?_
    rotate_left
    · (intro W hSW; go_simp; try (with_reducible rfl))
    (try simp only [List.getElem_toArray, List.getElem_cons_succ, List.getElem_cons_zero])
    (try simp only [Act.put, List.setIfInBounds_toArray, List.set_cons_zero, List.set_cons_succ])
    refine wpAnyH_take (i := 2) (v := ?_) rfl (by kernel_rfl) (by kernel_rfl) (by kernel_rfl) (fun _ _ _ h => h) (Or.inl ⟨by rfl, ?_⟩) (by assumption) ?_
    rotate_left
    · (intro W hSW; go_simp; try (with_reducible rfl))
    (try simp only [List.getElem_toArray, List.getElem_cons_succ, List.getElem_cons_zero])
    (try simp only [Act.put, List.setIfInBounds_toArray, List.set_cons_zero, List.set_cons_succ])
    refine wpAnyH_take (i := 3) (v := ?_) rfl (by kernel_rfl) (by kernel_rfl) (by kernel_rfl) (fun _ _ _ h => h) (Or.inl ⟨by rfl, ?_⟩) (by assumption) ?_
    rotate_left
    · (intro W hSW; go_simp; try (with_reducible rfl))
    (try simp only [List.getElem_toArray, List.getElem_cons_succ, List.getElem_cons_zero])
    (try simp only [Act.put, List.setIfInBounds_toArray, List.set_cons_zero, List.set_cons_succ])
    refine wpAnyH_take (i := 4) (v := ?_) rfl (by kernel_rfl) (by kernel_rfl) (by kernel_rfl) (fun _ _ _ h => h) (Or.inl ⟨by rfl, ?_⟩) (by assumption) ?_
    rotate_left
    · (intro W hSW; go_simp; try (with_reducible rfl))
    (try simp only [List.getElem_toArray, List.getElem_cons_succ, List.getElem_cons_zero])
    (try simp only [Act.put, List.setIfInBounds_toArray, List.set_cons_zero, List.set_cons_succ])
    refine wpAnyH_take (i := 5) (v := ?_) rfl (by kernel_rfl) (by kernel_rfl) (by kernel_rfl) (fun _ _ _ h => h) (Or.inl ⟨by rfl, ?_⟩) (by assumption) ?_
    rotate_left
    · (intro W hSW; have zz := HC2.out W hSW; go_simp; try (with_reducible rfl))
    (try simp only [List.getElem_toArray, List.getElem_cons_succ, List.getElem_cons_zero])
    (try simp only [Act.put, List.setIfInBounds_toArray, List.set_cons_zero, List.set_cons_succ])
    refine wpAnyH_take (i := 6) (v := ?_) rfl (by kernel_rfl) (by kernel_rfl) (by kernel_rfl) (fun _ _ _ h => h) (Or.inl ⟨by rfl, ?_⟩) (by assumption) ?_
    rotate_left
    · (intro W hSW; go_simp; try (with_reducible rfl))
    (try simp only [List.getElem_toArray, List.getElem_cons_succ, List.getElem_cons_zero])
    (try simp only [Act.put, List.setIfInBounds_toArray, List.set_cons_zero, List.set_cons_succ])
    refine wpAnyH_take (i := 7) (v := ?_) rfl (by kernel_rfl) (by kernel_rfl) (by kernel_rfl) (fun _ _ _ h => h) (Or.inl ⟨by rfl, ?_⟩) (by assumption) ?_
    rotate_left
    · (intro W hSW; go_simp; try (with_reducible rfl))
    (try simp only [List.getElem_toArray, List.getElem_cons_succ, List.getElem_cons_zero])
    (try simp only [Act.put, List.setIfInBounds_toArray, List.set_cons_zero, List.set_cons_succ])
    refine wpAnyH_take (i := 8) (v := ?_) rfl (by kernel_rfl) (by kernel_rfl) (by kernel_rfl) (fun _ _ _ h => h) (Or.inl ⟨by rfl, ?_⟩) (by assumption) ?_
    rotate_left
    · (intro W hSW; go_simp; try (with_reducible rfl))
    (try simp only [List.getElem_toArray, List.getElem_cons_succ, List.getElem_cons_zero])
    (try simp only [Act.put, List.setIfInBounds_toArray, List.set_cons_zero, List.set_cons_succ])
    refine wpAnyH_ready (rs := [9]) (by kernel_rfl) (by simp) ?_
    refine AllReadyH.cons rfl (fun K hK => ?_) AllReadyH.nil
    refine wp_store_row 34 _ _ rfl (w.heap.size + 1 + 1) cs rfl rfl 34 zeroStCells ZW hs1 hs2 hs3 ?_
    have HG2 : (World.setRow WW.drew (w.heap.size + 1 + 1) cs).heap[(w.heap.size + 1 + 1 + 1)]? = some (.cells cs 34 (0, 0)) := (setRow_other _ _ _ _ (by have := HGE.out; omega)).trans HGN.out
    refine hK.out _ _ HG2 (fun _ => ?_)
    clear hK K
    (try simp only [Act.put, List.setIfInBounds_toArray])
    refine wpAnyH_ready (rs := [10]) (by kernel_rfl) (by simp) ?_
    refine AllReadyH.cons rfl (fun K hK => ?_) AllReadyH.nil
    go_simp
    refine hK.out _ _ HG2 (fun _ => ?_)
    clear hK K
    (try simp only [Act.put, List.setIfInBounds_toArray, List.set_cons_zero, List.set_cons_succ])
    refine wpAnyH_done (by kernel_rfl) ?_ _
    go_wp2_with fail
    try simp only [Exit.inBlock, Exit.then]
    exact bodyPost_ret (results_row_tmp rfl _ _ (w.heap.size + 1 + 1) 34 _ (0, 0) _ rfl (setRow_heap _ _ _ _ _ _ ZW) Tryd.underlying34 rfl hs1) rfl ⟨_, rfl, (HSN.out.below ((Below.refl _ _).drew) |>.setRow (by omega) _).mono (by omega), below_setRow ((HBA.out.trans (HBN.out.mono (by omega))).drew) (by omega) _⟩
end Go.Proofs.YtgdmdlkhnokieaaDoor

/- Contract of tierlinekeep.sameState: two states that are the same. -/
namespace Go.Proofs.YtgdmdlkhnokieaaDoor
open Go Go.RowKit

theorem list16_keep {l : List Int} (h : l.length = 16) : ∃ m0 m1 m2 m3 m4 m5 m6 m7 m8 m9 m10 m11 m12 m13 m14 m15, l = [m0, m1, m2, m3, m4, m5, m6, m7, m8, m9, m10, m11, m12, m13, m14, m15] := by
  match l, h with
  | [m0, m1, m2, m3, m4, m5, m6, m7, m8, m9, m10, m11, m12, m13, m14, m15], _ => exact ⟨m0, m1, m2, m3, m4, m5, m6, m7, m8, m9, m10, m11, m12, m13, m14, m15, rfl⟩
theorem plain_int_keep : Tryd.prog.plainKey 3 = true := by kernel_rfl
theorem cells_int_keep : Tryd.prog.cellsOf 3 = 1 := by kernel_rfl
theorem equal_items_keep (d : Nat) (l : List Int) (w : World) : ∀ is : List Nat, (∀ i ∈ is, i < l.length) → (Op.eqItems (d + 1) 3 1 (i64s l).toArray (i64s l).toArray is).run Tryd.prog w = .ok true w := by
  intro is
  induction is with
  | nil => intro _; simp [Op.eqItems]
  | cons i is ih =>
    intro h
    have hi : i < l.length := h i (List.mem_cons_self)
    have hg : (i64s l).toArray[i * 1]? = some (.int .i64 l[i]) := by simp [i64s, hi]
    simp only [Op.eqItems, Sem.run_bind, run_part_plain w plain_int_keep hg, Result.andThen_ok, run_equalIn_int w d 3 .i64 .i64 l[i] l[i] Tryd.underlying3]
    simp
    exact ih (fun j hj => h j (List.mem_cons_of_mem _ hj))
theorem equal_ints_keep (t : TypeId) (l : List Int) (d : Nat) (w : World) (hu : Tryd.prog.underlying t = some (.array l.length 3)) : (Op.equalIn (d + 2) t (.agg (i64s l).toArray) (.agg (i64s l).toArray)).run Tryd.prog w = .ok true w := by
  obtain ⟨i, hi, _⟩ := info_parts info64
  rw [run_equalIn_array w (d + 1) _ _ hu hi, cells_int_keep]
  exact equal_items_keep d l w _ (fun j hj => by simpa using hj)
set_option maxRecDepth 100000 in
set_option maxHeartbeats 400000 in
theorem sameInts_keep (l : List Int) (v1 v2 : Value) (w : World) (h1 : IntsVal w v1 l) (h2 : IntsVal w v2 l) :
    Calls Tryd.prog 23 #[v1, v2] w fun e w' => e = .returned (.bool true) ∧ Below w.heap.size w w' := by
  obtain ⟨ao1, b1, off1, n1, cap1, rfl, hl1, ha1, hc1, hcp1, hm1⟩ := h1
  obtain ⟨ao2, b2, off2, n2, cap2, rfl, hl2, ha2, hc2, hcp2, hm2⟩ := h2
  obtain rfl : n1 = n2 := by omega
  have HL : Hid (l.length = n1) := hl1
  have HC1 : Hid (∀ k (h : k < l.length), w.cell? ⟨b1, off1 + k, none⟩ = some (.int .i64 l[k])) := hc1
  have HC2 : Hid (∀ k (h : k < l.length), w.cell? ⟨b2, off2 + k, none⟩ = some (.int .i64 l[k])) := hc2
  have hcp := hcp1.1
  unfold maxLen at hm1
  clear hl1 hl2 hc1 hc2 hm2 hcp1 hcp2
  go_enter Tryd.func23, Tryd.ntmps23
  go_wp2
  go_loopw [5] (fun i wr => ∃ k : Nat, k ≤ n1 ∧ i = .int .i64 k ∧ Below w.heap.size w wr) (fun i _ => n1 - (intOf i).toNat)
  case atStart => exact ⟨0, Nat.zero_le _, rfl, Below.refl _ _⟩
  case round =>
    obtain ⟨k, hk, rfl, hb⟩ := hrel
    by_cases hlt : k < n1
    · obtain rfl := ha1 (by omega)
      obtain rfl := ha2 (by omega)
      have hkl : k < l.length := by rw [HL.out]; exact hlt
      have c1 := keeps_below hb _ _ (HC1.out k hkl)
      have c2 := keeps_below hb _ _ (HC2.out k hkl)
      have hkI : (k : Int) < n1 := by omega
      generalize l[k] = z at c1 c2
      clear ha1 ha2
      go_wp2
      go_quiet (fail)
      go_wp2
      go_roundw
      case rel => exact ⟨k + 1, by omega, by go_num, below_drewN hb _⟩
      case measure => simp [intOf]; omega
    · clear ha1 ha2
      go_wp2
      go_ret
      exact ⟨rfl, hb⟩

set_option maxRecDepth 100000 in
set_option maxHeartbeats 2000000 in
theorem sameState_keep (s : St) (v1 v2 : Value) (w : World) (h1 : StVal w v1 s) (h2 : StVal w v2 s) :
    Calls Tryd.prog 9 #[v1, v2] w fun e w' => e = .returned (.bool true) ∧ Below w.heap.size w w' := by
  obtain ⟨status, value, frames, mem, fuel, events, answers⟩ := s
  obtain ⟨fv1, ev1, av1, rfl, hm, hf1, he1, ha1⟩ := h1
  obtain ⟨fv2, ev2, av2, rfl, _, hf2, he2, ha2⟩ := h2
  dsimp only at hm hf1 hf2 he1 he2 ha1 ha2
  obtain ⟨m0, m1, m2, m3, m4, m5, m6, m7, m8, m9, m10, m11, m12, m13, m14, m15, rfl⟩ := list16_keep hm
  obtain ⟨eo1, ec1, rfl⟩ := he1.shape
  obtain ⟨eo2, ec2, rfl⟩ := he2.shape
  obtain ⟨ao1, ac1, rfl⟩ := ha1.shape
  obtain ⟨ao2, ac2, rfl⟩ := ha2.shape
  obtain ⟨hwf, fo1, b1, off1, n1, cap1, rfl, hl1, hp1, hr1, hc1, hx1⟩ := hf1
  obtain ⟨_, fo2, b2, off2, n2, cap2, rfl, hl2, hp2, hr2, hc2, hx2⟩ := hf2
  obtain rfl : n2 = n1 := hl2.symm.trans hl1
  have HL : Hid (frames.length = n2) := hl1
  have HR1 : Hid (∀ k (h : k < frames.length), w.rangeAt b1 (off1 + k * 14) (frCells frames[k])) := hr1
  have HR2 : Hid (∀ k (h : k < frames.length), w.rangeAt b2 (off2 + k * 14) (frCells frames[k])) := hr2
  have HP1 : Hid (0 < n2 → fo1 = some ⟨b1, off1, none⟩) := hp1
  have HP2 : Hid (0 < n2 → fo2 = some ⟨b2, off2, none⟩) := hp2
  have HW : Hid (FrsWf frames) := hwf
  have hcap := hc1.1
  unfold maxLen at hx1
  have HE1 : Hid (IntsVal w (.slice eo1 events.length ec1) events) := he1
  have HE2 : Hid (IntsVal w (.slice eo2 events.length ec2) events) := he2
  have HA1 : Hid (IntsVal w (.slice ao1 answers.length ac1) answers) := ha1
  have HA2 : Hid (IntsVal w (.slice ao2 answers.length ac2) answers) := ha2
  have hbx : ∀ o o', Below w.heap.size w ((w.alloc o).alloc o') := fun o o' => ((Below.refl _ _).alloc (Nat.le_refl _) _).alloc (by simp) _
  clear hl1 hl2 hr1 hr2 hp1 hp2 hwf hc1 hc2 hx2 he1 he2 ha1 ha2 hm
  simp only [stCells, i64s, List.map_cons, List.map_nil, List.cons_append, List.nil_append]
  have hq16 : ∀ w, (Op.equalIn 10000 32 (.agg #[.int .i64 m0, .int .i64 m1, .int .i64 m2, .int .i64 m3, .int .i64 m4, .int .i64 m5, .int .i64 m6, .int .i64 m7, .int .i64 m8, .int .i64 m9, .int .i64 m10, .int .i64 m11, .int .i64 m12, .int .i64 m13, .int .i64 m14, .int .i64 m15]) (.agg #[.int .i64 m0, .int .i64 m1, .int .i64 m2, .int .i64 m3, .int .i64 m4, .int .i64 m5, .int .i64 m6, .int .i64 m7, .int .i64 m8, .int .i64 m9, .int .i64 m10, .int .i64 m11, .int .i64 m12, .int .i64 m13, .int .i64 m14, .int .i64 m15])).run Tryd.prog w = .ok true w := fun w => equal_ints_keep 32 [m0, m1, m2, m3, m4, m5, m6, m7, m8, m9, m10, m11, m12, m13, m14, m15] 9998 w Tryd.underlying32
  go_enter Tryd.func9, Tryd.ntmps9
  go_wp2_with (first
    | (go_at_call 23; refine (sameInts_keep events _ _ _ (HE1.out.keeps (keeps_below (hbx _ _))) (HE2.out.keeps (keeps_below (hbx _ _)))).mono ?_; rintro e w1 ⟨rfl, hb1⟩; have a6 := keeps_below hb1 ⟨w.heap.size, 21, none⟩ _ (by rw [cell_of_row _ _ _ _ _ _ (heap_alloc2_old _ _ _)]; rfl); have b6 := keeps_below hb1 ⟨w.heap.size + 1, 21, none⟩ _ (by rw [cell_of_row _ _ _ _ _ _ (heap_alloc2_new _ _ _)]; rfl); have a2 := keeps_below hb1 ⟨w.heap.size, 2, none⟩ _ (by rw [cell_of_row _ _ _ _ _ _ (heap_alloc2_old _ _ _)]; rfl); have b2' := keeps_below hb1 ⟨w.heap.size + 1, 2, none⟩ _ (by rw [cell_of_row _ _ _ _ _ _ (heap_alloc2_new _ _ _)]; rfl); have HB1 : Hid (Below w.heap.size w w1) := (hbx _ _).trans (hb1.mono (by simp; omega)); have hz1 : w.heap.size + 2 ≤ w1.heap.size := (by have := hb1.size; simpa using this); clear HE1)
    | (go_at_call 23; refine (sameInts_keep answers _ _ _ (HA1.out.keeps (keeps_below HB1.out)) (HA2.out.keeps (keeps_below HB1.out))).mono ?_; rintro e w2 ⟨rfl, hb2⟩; have a2' := keeps_below hb2 _ _ a2; have b2'' := keeps_below hb2 _ _ b2'; have HB2 : Hid (Below w.heap.size w w2) := HB1.out.trans (hb2.mono (by omega)); have hz2 : w.heap.size + 2 ≤ w2.heap.size := (by have := hb2.size; omega); clear hb2 a6 b6 a2 b2'))
  have HK : Hid (∀ k (h : k < frames.length), ∃ fn pc r0 r1 r2 r3 r4 r5 r6 r7 r8 r9 r10 r11, (∀ j v, ([.int .i64 fn, .int .i64 pc, .int .i64 r0, .int .i64 r1, .int .i64 r2, .int .i64 r3, .int .i64 r4, .int .i64 r5, .int .i64 r6, .int .i64 r7, .int .i64 r8, .int .i64 r9, .int .i64 r10, .int .i64 r11] : List Value)[j]? = some v → w.cell? ⟨b1, off1 + k * 14 + j, none⟩ = some v) ∧ (∀ j v, ([.int .i64 fn, .int .i64 pc, .int .i64 r0, .int .i64 r1, .int .i64 r2, .int .i64 r3, .int .i64 r4, .int .i64 r5, .int .i64 r6, .int .i64 r7, .int .i64 r8, .int .i64 r9, .int .i64 r10, .int .i64 r11] : List Value)[j]? = some v → w.cell? ⟨b2, off2 + k * 14 + j, none⟩ = some v)) := by
    intro k h
    obtain ⟨r0, r1, r2, r3, r4, r5, r6, r7, r8, r9, r10, r11, hr⟩ := list12 (HW.out _ (List.getElem_mem h))
    have e : frCells frames[k] = [.int .i64 frames[k].fn, .int .i64 frames[k].pc, .int .i64 r0, .int .i64 r1, .int .i64 r2, .int .i64 r3, .int .i64 r4, .int .i64 r5, .int .i64 r6, .int .i64 r7, .int .i64 r8, .int .i64 r9, .int .i64 r10, .int .i64 r11] := by unfold frCells; rw [hr]; rfl
    refine ⟨frames[k].fn, frames[k].pc, r0, r1, r2, r3, r4, r5, r6, r7, r8, r9, r10, r11, ?_, ?_⟩
    · rw [← e]; exact HR1.out k h
    · rw [← e]; exact HR2.out k h
  clear HR1 HR2 HW hbx hq16
  go_loopw [5] (fun i wr => ∃ k : Nat, k ≤ n2 ∧ i = .int .i64 k ∧ Below w2.heap.size w2 wr) (fun i _ => n2 - (intOf i).toNat)
  case atStart => exact ⟨0, Nat.zero_le _, rfl, Below.refl _ _⟩
  case round =>
    obtain ⟨k, hk, rfl, hb⟩ := hrel
    have x2 := keeps_below hb _ _ a2'
    have y2 := keeps_below hb _ _ b2''
    have HB : Hid (Below w.heap.size w wr) := HB2.out.trans (hb.mono (by omega))
    by_cases hlt : k < n2
    · obtain rfl := HP1.out (by omega)
      obtain rfl := HP2.out (by omega)
      have hkl : k < frames.length := by rw [HL.out]; exact hlt
      obtain ⟨fn, pc, r0, r1, r2, r3, r4, r5, r6, r7, r8, r9, r10, r11, g1, g2⟩ := HK.out k hkl
      have c0 := keeps_below HB.out _ _ (g1 0 _ rfl)
      have d0 := keeps_below HB.out _ _ (g2 0 _ rfl)
      have c1 := keeps_below HB.out _ _ (g1 1 _ rfl)
      have d1 := keeps_below HB.out _ _ (g2 1 _ rfl)
      have c2 := keeps_below HB.out _ _ (g1 2 _ rfl)
      have d2 := keeps_below HB.out _ _ (g2 2 _ rfl)
      have c3 := keeps_below HB.out _ _ (g1 3 _ rfl)
      have d3 := keeps_below HB.out _ _ (g2 3 _ rfl)
      have c4 := keeps_below HB.out _ _ (g1 4 _ rfl)
      have d4 := keeps_below HB.out _ _ (g2 4 _ rfl)
      have c5 := keeps_below HB.out _ _ (g1 5 _ rfl)
      have d5 := keeps_below HB.out _ _ (g2 5 _ rfl)
      have c6 := keeps_below HB.out _ _ (g1 6 _ rfl)
      have d6 := keeps_below HB.out _ _ (g2 6 _ rfl)
      have c7 := keeps_below HB.out _ _ (g1 7 _ rfl)
      have d7 := keeps_below HB.out _ _ (g2 7 _ rfl)
      have c8 := keeps_below HB.out _ _ (g1 8 _ rfl)
      have d8 := keeps_below HB.out _ _ (g2 8 _ rfl)
      have c9 := keeps_below HB.out _ _ (g1 9 _ rfl)
      have d9 := keeps_below HB.out _ _ (g2 9 _ rfl)
      have c10 := keeps_below HB.out _ _ (g1 10 _ rfl)
      have d10 := keeps_below HB.out _ _ (g2 10 _ rfl)
      have c11 := keeps_below HB.out _ _ (g1 11 _ rfl)
      have d11 := keeps_below HB.out _ _ (g2 11 _ rfl)
      have c12 := keeps_below HB.out _ _ (g1 12 _ rfl)
      have d12 := keeps_below HB.out _ _ (g2 12 _ rfl)
      have c13 := keeps_below HB.out _ _ (g1 13 _ rfl)
      have d13 := keeps_below HB.out _ _ (g2 13 _ rfl)
      simp only [Nat.add_zero] at c0 d0
      have hkI : (k : Int) < n2 := by omega
      have hq12 : ∀ w, (Op.equalIn 9999 43 (.agg #[.int .i64 r0, .int .i64 r1, .int .i64 r2, .int .i64 r3, .int .i64 r4, .int .i64 r5, .int .i64 r6, .int .i64 r7, .int .i64 r8, .int .i64 r9, .int .i64 r10, .int .i64 r11]) (.agg #[.int .i64 r0, .int .i64 r1, .int .i64 r2, .int .i64 r3, .int .i64 r4, .int .i64 r5, .int .i64 r6, .int .i64 r7, .int .i64 r8, .int .i64 r9, .int .i64 r10, .int .i64 r11])).run Tryd.prog w = .ok true w := fun w => equal_ints_keep 43 [r0, r1, r2, r3, r4, r5, r6, r7, r8, r9, r10, r11] 9997 w Tryd.underlying43
      have HBB : Hid (Below w2.heap.size w2 wr) := hb
      clear g1 g2 hb HK HP1 HP2 a2' b2''
      go_wp2
      go_quiet (fail)
      go_wp2
      go_roundw
      case rel => exact ⟨k + 1, by omega, by go_num, below_drewN HBB.out _⟩
      case measure => simp [intOf]; omega
    · clear a2' b2''
      go_wp2
      go_ret
      exact ⟨rfl, HB.out⟩
end Go.Proofs.YtgdmdlkhnokieaaDoor

/- What the laws of tierlinekeep on runs begin with: a program, a state, and what Walk and Next answer of it. -/
namespace Go.Proofs.YtgdmdlkhnokieaaDoor
open Go Go.RowKit

theorem wpList_load_wanted_k {P : Program} {ops : Array Oper} {rest : List Oper} {o : Oper} {a : Act} {w : World} {Q : Exit → Act → World → Prop} (hw : Region.wanted o (yielded ops a.tmps) = true) (ty : TypeId) (x : Operand) (ho : o.op = .load ty x)
    (g : Nat) (hx : a.eval x = .pointer (some ⟨g, 0, none⟩)) (t : TypeId) (cs : Array Value) (fr : Nat × Nat) (d : TypeDesc) (hg : w.heap[g]? = some (.cells cs t fr))
    (hu : P.underlying ty = some d) (hd : (match d with | .struct _ | .array _ _ => true | _ => false) = true) (hi : (P.info? ty).map (·.size) = some cs.size)
    (h : wpList P ops Q rest (a.put o.dst (.agg cs)) w) : wpList P ops Q (o :: rest) a w := by
  simp only [wpList, hw, if_true]
  exact Or.inl (wp_load_row ty x ho g hx t cs fr d hg hu hd hi h)
/-- What a state's cells hold. -/
theorem out_exists (f : Fn) (q : Nat) : ∀ r, r ≤ 12 → ∃ v, OutOk f r q v := by
  intro r
  induction r with
  | zero =>
    intro _
    by_cases h : Way f 63 q
    · exact ⟨0, out_zero_yes h⟩
    · exact ⟨-1, out_zero_no h⟩
  | succ r ih =>
    intro hr
    obtain ⟨v, hv⟩ := ih (by omega)
    by_cases h : Way f 63 q
    · by_cases h2 : Way f r q
      · exact ⟨v, out_same hv (fun _ => h2)⟩
      · exact ⟨_, (out_add hv (by omega) h h2).1⟩
    · exact ⟨v, out_same hv (fun h3 => absurd h3 h)⟩
/-- There is a row that tells what is surely set. -/
theorem sure_exists (f : Fn) : ∃ L, SureSpec f L := by
  have h : ∀ q, ∃ v, OutOk f 12 q v := fun q => out_exists f q 12 (Nat.le_refl _)
  refine ⟨(List.range (f.code.length + 1)).map fun q => Classical.choose (h q), spec_of_out (by simp) fun q hq => ?_⟩
  have e : ((List.range (f.code.length + 1)).map fun q => Classical.choose (h q)).getD q 0 = Classical.choose (h q) := by simp [List.getD, hq]
  rw [e]
  exact Classical.choose_spec (h q)
theorem checksTo_zero_of {P : List Fn} (h : codeProg P = 0) (hz : ∀ f ∈ P, ∀ L, SureSpec f L → proveE P f L = 0) : ProofAns P 0 := by
  refine Or.inr ⟨h, ?_⟩
  have : ∀ fs : List Fn, (∀ f ∈ fs, f ∈ P) → ChecksTo P fs 0 := by
    intro fs
    induction fs with
    | nil => intro _; rfl
    | cons f fs ih =>
      intro hf
      obtain ⟨L, hL⟩ := sure_exists f
      exact ⟨0, ⟨L, hL, (hz f (hf f (by simp)) L hL).symm⟩, Or.inr ⟨rfl, ih (fun g hg => hf g (by simp [hg]))⟩⟩
  exact this P (fun f hf => hf)
/-- A run of a program that is grown from raw numbers: where it begins. -/
structure KRunAt (P : List Fn) (S : St) : Prop where
  right : ProofAns P 0
  inv : RunInv P S
  ev : S.events = []
theorem krun_begin {P : List Fn} (hR : ProofAns P 0) (a0 a1 fuel : Int) (l : List Int) : KRunAt P (beginSt ([a0, a1].take (par0 P).toNat) (l.take 10) (pickI fuel 300)) := by
  have hb := pickI_bounds fuel 300 (by omega)
  exact ⟨hR, runInv_begin hR _ _ _ (by rw [List.length_take]; simp; omega) (by rw [List.length_take]; omega) (by omega) (by omega), rfl⟩
/-- So many steps from where a run begins. -/
theorem krun_walk {P : List Fn} {S : St} (h : KRunAt P S) (k : Nat) : RunInv P (walkS P k S) ∧ (walkS P k S).events.length ≤ k := by
  refine ⟨runInv_walk h.right k h.inv, ?_⟩
  have := walkS_events_len P k S
  rw [h.ev] at this
  simpa using this
/-- Walk, at a state to which a run has come. -/
theorem kwalk {P : List Fn} {S : St} (hK : KRunAt P S) (k N : Nat) (hk : k ≤ 10000) (hN : N ≤ 10000) (v sv : Value) (w : World) (ht : TabOk w) (hc : CallOk w) (hv : ProgVal w v P) (hs : StVal w sv (walkS P k S)) :
    Calls Tryd.prog 8 #[.agg #[v], sv, .int .i64 N] w fun e w' => ∃ cs, e = .returned (.tuple #[.agg cs, .int .i64 0]) ∧ (Tryd.prog.info? 34).map (·.size) = some cs.size ∧ zeroStCells.size = cs.size ∧ cs.all (·.oneCell') = true ∧ StAt w' w.heap.size (.agg cs) (walkS P (k + N) S) ∧ Below w.heap.size w w' := by
  obtain ⟨h1, h2⟩ := krun_walk hK k
  refine (walk_any P v sv (walkS P k S) N w ht hc hK.right hv hs (stays_of_run hK.right h1 N) (by omega) (by omega)).mono ?_
  rintro e w' ⟨v', rfl, hst, hb⟩
  obtain ⟨cs, rfl, c1, c2, c3⟩ := hst.val.cells
  rw [walkS_add]
  exact ⟨cs, rfl, c1, c2, c3, hst, hb⟩
/-- Begin, with the cells laid open. -/
theorem kbegin (P : List Fn) (pv : Value) (a0 a1 fuel : Int) (nv : Value) (l : List Int) (w : World) (ht : TabOk w) (hc : CallOk w) (hR : ProofAns P 0) (hv : ProgVal w pv P) (hn : IntsVal w nv l) (hfu : I64 fuel) :
    Calls Tryd.prog 14 #[.agg #[pv], inVal a0 a1 nv fuel] w fun e w' => ∃ cs S, e = .returned (.tuple #[.agg cs, .bool true]) ∧ KRunAt P S ∧ (S.fuel ≤ 299 ∧ S.answers.length ≤ 10 ∧ S.status = 0) ∧ (Tryd.prog.info? 34).map (·.size) = some cs.size ∧ zeroStCells.size = cs.size ∧ cs.all (·.oneCell') = true ∧ StAt w' w.heap.size (.agg cs) S ∧ Below w.heap.size w w' := by
  refine (kbegin_any P pv a0 a1 fuel nv l w ht hc hR hv hn hfu).mono ?_
  rintro e w' ⟨v', rfl, hst, hb⟩
  obtain ⟨cs, rfl, c1, c2, c3⟩ := hst.val.cells
  have hpb := pickI_bounds fuel 300 (by omega)
  refine ⟨cs, _, rfl, krun_begin hR a0 a1 fuel l, ⟨?_, ?_, rfl⟩, c1, c2, c3, hst, hb⟩
  · show pickI fuel 300 ≤ 299; omega
  · show (l.take 10).length ≤ 10; rw [List.length_take]; omega
/-- Program, with what is right of it. -/
theorem kprog (l : List Fn) (v : Value) (w : World) (ht : TabOk w) (hc : CallOk w) (hv : ProgVal w v l) (hwf : ∀ f ∈ l, f.wf) :
    Calls Tryd.prog 5 #[v] w fun e w' => ∃ ao n cap P, e = .returned (.agg #[.slice ao n cap]) ∧ ProofAns P 0 ∧ ProgVal w' (.slice ao n cap) P ∧ Below w.heap.size w w' := by
  refine (program_raw l v w ht hc hv hwf).mono ?_
  rintro e w' ⟨v', P, us, rfl, hpi, hbt, hb⟩
  have hp := hbt.prog
  obtain ⟨ao, n, cap, rfl⟩ := hp.shape
  refine ⟨ao, n, cap, P, rfl, ?_, hp, hb⟩
  rcases hpi with ⟨h1, rfl⟩ | ⟨_, rfl⟩
  · exact h1
  · exact checksTo_zero_of (full_ok l) (fun f hf L hL => proves_full l hf hL)
end Go.Proofs.YtgdmdlkhnokieaaDoor

/- Runs and their fuel: plain mathematics. -/
namespace Go.Proofs.YtgdmdlkhnokieaaDoor
open Go Go.RowKit

theorem retS_status (P : List Fn) (S : St) (fs : List Fr) (a : Int) : (retS P S fs a).status = S.status ∨ (retS P S fs a).status = 1 := by
  unfold retS; split
  · exact Or.inr rfl
  · exact Or.inl rfl
theorem doS_status (P : List Fn) (S : St) (fs : List Fr) (f : Fr) (x : Ins) (h : S.status = 0) : (doS P S fs f x).status = 0 ∨ (doS P S fs f x).status = 1 ∨ (doS P S fs f x).status = 5 := by
  unfold doS
  repeat' split
  all_goals first
    | exact Or.inl h
    | exact Or.inr (Or.inr rfl)
    | (rcases retS_status P S fs (regD f x.a) with e | e
       · exact Or.inl (e.trans h)
       · exact Or.inr (Or.inl e))
theorem barredI_cases (x : Ins) (a b : Int) : barredI x a b = 0 ∨ barredI x a b = 3 ∨ barredI x a b = 4 := by
  unfold barredI
  repeat' split
  all_goals simp
/-- What a step leads to: one from the fuel, or an end that has kept it. -/
theorem stepS_cases (P : List Fn) (S : St) (hf : S.frames ≠ []) :
    (S.fuel ≠ 0 ∧ (stepS P S).fuel = S.fuel - 1 ∧ ((stepS P S).status = 0 ∨ (stepS P S).status = 1 ∨ (stepS P S).status = 5)) ∨
    (S.fuel = 0 ∧ stepS P S = { S with status := 2 }) ∨ (S.fuel ≠ 0 ∧ (stepS P S).fuel = S.fuel ∧ ((stepS P S).status = 3 ∨ (stepS P S).status = 4)) := by
  unfold stepS
  by_cases h0 : S.fuel = 0
  · rw [if_pos h0]; exact Or.inr (Or.inl ⟨h0, rfl⟩)
  rw [if_neg h0]
  cases hl : S.frames.getLast? with
  | none => exact absurd (List.getLast?_eq_none_iff.1 hl) hf
  | some f =>
    dsimp only
    by_cases hb : barredI (insOfFr P f) (regD f (insOfFr P f).a) (regD f (insOfFr P f).b) = 0
    · rw [if_pos hb]; exact Or.inl ⟨h0, doS_fuel _ _ _ _ _, doS_status _ _ _ _ _ rfl⟩
    · rw [if_neg hb]
      refine Or.inr (Or.inr ⟨h0, rfl, ?_⟩)
      rcases barredI_cases (insOfFr P f) (regD f (insOfFr P f).a) (regD f (insOfFr P f).b) with e | e
      · exact absurd e hb
      · exact e
/-- The same, in numbers alone. -/
theorem stepS_cases2 (P : List Fn) (S : St) (hf : S.frames ≠ []) :
    (S.fuel ≠ 0 ∧ (stepS P S).fuel = S.fuel - 1 ∧ ((stepS P S).status = 0 ∨ (stepS P S).status = 1 ∨ (stepS P S).status = 5)) ∨
    (S.fuel = 0 ∧ (stepS P S).fuel = 0 ∧ (stepS P S).status = 2) ∨ (S.fuel ≠ 0 ∧ (stepS P S).fuel = S.fuel ∧ ((stepS P S).status = 3 ∨ (stepS P S).status = 4)) := by
  rcases stepS_cases P S hf with h | ⟨h, e⟩ | h
  · exact Or.inl h
  · exact Or.inr (Or.inl ⟨h, by rw [e]; exact h, by rw [e]⟩)
  · exact Or.inr (Or.inr h)
theorem run_frames {P : List Fn} {S : St} (h : RunInv P S) (h0 : S.status = 0) : S.frames ≠ [] := by
  intro e
  have := ((mayB_iff _).1 h.may).2.2.2.2.2.2.1.2 (by rw [e]; rfl)
  omega
/-- A state that runs has taken one from the fuel for each step. -/
theorem run_fuel {P : List Fn} (hR : ProofAns P 0) {S : St} (h : RunInv P S) : ∀ k : Nat, (walkS P k S).status = 0 → (walkS P k S).fuel = S.fuel - k := by
  intro k
  induction k with
  | zero => intro _; show S.fuel = S.fuel - 0; omega
  | succ k ih =>
    intro hs
    by_cases h0 : (walkS P k S).status = 0
    · rw [walkS_succ P k S h0] at hs ⊢
      rcases stepS_cases P (walkS P k S) (run_frames (runInv_walk hR k h) h0) with ⟨_, e, _⟩ | ⟨_, e⟩ | ⟨_, _, e⟩
      · rw [e, ih h0]; omega
      · rw [e] at hs; cases hs
      · omega
    · rw [walkS_ended P k (k + 1) S (by omega) h0] at hs; exact absurd hs h0
/-- Each run ends. -/
theorem run_ended {P : List Fn} (hR : ProofAns P 0) {S : St} (h : RunInv P S) (k : Nat) (hk : S.fuel < k) : (walkS P k S).status ≠ 0 := by
  intro hs
  have e := run_fuel hR h k hs
  have := ((mayB_iff _).1 (runInv_walk hR k h).may).2.2.1
  omega
def addF (d : Int) (S : St) : St := { S with fuel := S.fuel + d }
theorem retS_addF (P : List Fn) (S : St) (fs : List Fr) (a n : Int) : retS P { S with fuel := n } fs a = { retS P S fs a with fuel := n } := by
  unfold retS; split <;> rfl
theorem doS_addF (P : List Fn) (S : St) (fs : List Fr) (f : Fr) (x : Ins) (n : Int) : doS P { S with fuel := n } fs f x = { doS P S fs f x with fuel := n } := by
  unfold doS
  repeat' split
  all_goals first | rfl | exact retS_addF _ _ _ _ _
theorem stepS_addF (P : List Fn) (S : St) (d : Int) (h0 : S.fuel ≠ 0) (h1 : S.fuel + d ≠ 0) : stepS P (addF d S) = addF d (stepS P S) := by
  unfold stepS addF
  rw [if_neg h0, if_neg h1]
  dsimp only
  cases S.frames.getLast? with
  | none => rfl
  | some f =>
    dsimp only
    split
    · have e : ∀ n, doS P { S with fuel := n, status := 0 } S.frames.dropLast f (insOfFr P f) = { doS P { S with status := 0 } S.frames.dropLast f (insOfFr P f) with fuel := n } := fun n => doS_addF P { S with status := 0 } _ _ _ n
      have e1 := e (S.fuel + d - 1)
      have e2 := e (S.fuel - 1)
      show doS P { S with fuel := S.fuel + d - 1, status := 0 } _ _ _ = _
      rw [e1, e2]
      show _ = { doS P { S with status := 0 } S.frames.dropLast f (insOfFr P f) with fuel := S.fuel - 1 + d }
      rw [show S.fuel + d - 1 = S.fuel - 1 + d by omega]
    · rfl
/-- With more fuel a run goes the same way, as far as it does not end for want of it. -/
theorem walk_addF {P : List Fn} (hR : ProofAns P 0) {S : St} (h : RunInv P S) (d : Int) (hd : 0 ≤ d) : ∀ k : Nat, (walkS P k S).status ≠ 2 → walkS P k (addF d S) = addF d (walkS P k S) := by
  intro k
  induction k with
  | zero => intro _; rfl
  | succ k ih =>
    intro hs
    by_cases h0 : (walkS P k S).status = 0
    · have e := ih (by omega)
      have h0' : (walkS P k (addF d S)).status = 0 := by rw [e]; exact h0
      rw [walkS_succ P k S h0] at hs ⊢
      rw [walkS_succ P k (addF d S) h0', e]
      have hf := ((mayB_iff _).1 (runInv_walk hR k h).may).2.2.1
      rcases stepS_cases P (walkS P k S) (run_frames (runInv_walk hR k h) h0) with ⟨n, _⟩ | ⟨_, e2⟩ | ⟨n, _⟩
      · exact stepS_addF P _ d n (by omega)
      · rw [e2] at hs; exact absurd rfl hs
      · exact stepS_addF P _ d n (by omega)
    · have e2 := walkS_ended P k (k + 1) S (by omega) h0
      rw [e2] at hs ⊢
      have e := ih hs
      have h0' : (walkS P k (addF d S)).status ≠ 0 := by rw [e]; exact h0
      rw [walkS_ended P k (k + 1) (addF d S) (by omega) h0', e]
/-- A run that ends for want of fuel has used it all. -/
theorem run_empty {P : List Fn} (hR : ProofAns P 0) {S : St} (h : RunInv P S) (h00 : S.status = 0) (f : Nat) (hf : S.fuel = f) : ∀ k : Nat, (walkS P k S).status = 2 → (walkS P f S).status = 0 ∧ (walkS P f S).fuel = 0 ∧ walkS P k S = { walkS P f S with status := 2 } := by
  intro k
  induction k with
  | zero => intro hs; rw [show walkS P 0 S = S from rfl] at hs; omega
  | succ k ih =>
    intro hs
    by_cases h0 : (walkS P k S).status = 0
    · have e := run_fuel hR h k h0
      rw [walkS_succ P k S h0] at hs ⊢
      rcases stepS_cases P (walkS P k S) (run_frames (runInv_walk hR k h) h0) with ⟨_, _, n⟩ | ⟨n, e2⟩ | ⟨_, _, n⟩
      · omega
      · have : k = f := by omega
        subst this
        exact ⟨h0, n, e2⟩
      · omega
    · have e2 := walkS_ended P k (k + 1) S (by omega) h0
      rw [e2] at hs ⊢
      exact ih hs
end Go.Proofs.YtgdmdlkhnokieaaDoor

/- What a step does to the frames, where the run goes on: plain mathematics. -/
namespace Go.Proofs.YtgdmdlkhnokieaaDoor
open Go Go.RowKit

/-- The step of a state that runs, and has a last frame. -/
theorem stepS_snoc {P : List Fn} {S : St} {fs : List Fr} {f : Fr} (hS : S.frames = fs ++ [f]) : stepS P S = if S.fuel = 0 then { S with status := 2 } else
    if barredI (insOfFr P f) (regD f (insOfFr P f).a) (regD f (insOfFr P f).b) = 0 then doS P { S with fuel := S.fuel - 1, status := 0 } fs f (insOfFr P f)
    else { S with status := barredI (insOfFr P f) (regD f (insOfFr P f).a) (regD f (insOfFr P f).b) } := by
  have hl : S.frames.getLast? = some f := by rw [hS]; simp
  have hd : S.frames.dropLast = fs := by rw [hS]; simp
  unfold stepS
  rw [hl, hd]
/-- What only reckons changes one register, and the place. -/
theorem step_pure {P : List Fn} {S : St} {fs : List Fr} {f : Fr} (hS : S.frames = fs ++ [f]) (h0 : (stepS P S).status = 0) (h1 : 1 ≤ (insOfFr P f).op) (h2 : (insOfFr P f).op ≤ 12) :
    (stepS P S).frames = fs ++ [putF f (insOfFr P f).dst (mk (insOfFr P f).op (regD f (insOfFr P f).a) (regD f (insOfFr P f).b) (insOfFr P f).imm)] ∧ (stepS P S).mem = S.mem ∧ (stepS P S).events = S.events ∧ mkE (insOfFr P f).op (regD f (insOfFr P f).b) = 0 := by
  rw [stepS_snoc hS] at h0 ⊢
  by_cases hf : S.fuel = 0
  · rw [if_pos hf] at h0; exact absurd h0 (by show ¬ (2 : Int) = 0; decide)
  rw [if_neg hf] at h0 ⊢
  by_cases hb : barredI (insOfFr P f) (regD f (insOfFr P f).a) (regD f (insOfFr P f).b) = 0
  · rw [if_pos hb]
    unfold doS
    rw [if_neg (by omega), if_neg (by omega), if_neg (by omega), if_neg (by omega), if_neg (by omega), if_neg (by omega), if_neg (by omega)]
    refine ⟨rfl, rfl, rfl, ?_⟩
    unfold mkE
    rw [if_neg (by omega)]
    unfold barredI at hb
    by_cases h5 : (insOfFr P f).op = 5
    · rw [if_pos h5] at hb
      by_cases hz : regD f (insOfFr P f).b = 0
      · rw [if_pos hz] at hb; cases hb
      · rw [if_neg (fun h => hz h.2)]
    · rw [if_neg (fun h => h5 h.1)]
  · rw [if_neg hb] at h0; exact absurd h0 hb
/-- The frames behind a step that goes on, or that is the last one. -/
theorem step_frames {P : List Fn} {S : St} {fs : List Fr} {f : Fr} (hS : S.frames = fs ++ [f]) (h0 : (stepS P S).status = 0 ∨ (stepS P S).status = 1) :
    ((insOfFr P f).op = 17 ∧ (stepS P S).frames = fs ++ [f, begunFr (insOfFr P f).imm ([regD f (insOfFr P f).a, regD f (insOfFr P f).b].take (fnD P (insOfFr P f).imm).params.toNat)]) ∨
    ((insOfFr P f).op = 19 ∧ fs = [] ∧ (stepS P S).frames = [] ∧ (stepS P S).value = regD f (insOfFr P f).a) ∨
    ((insOfFr P f).op = 19 ∧ ∃ gs h, fs = gs ++ [h] ∧ (stepS P S).frames = gs ++ [putF h (insOfFr P h).dst (regD f (insOfFr P f).a)]) ∨
    ((insOfFr P f).op ≠ 17 ∧ (insOfFr P f).op ≠ 19 ∧ (stepS P S).frames.length = fs.length + 1) := by
  rw [stepS_snoc hS] at h0 ⊢
  by_cases hf : S.fuel = 0
  · rw [if_pos hf] at h0; exact absurd h0 (by show ¬ ((2 : Int) = 0 ∨ (2 : Int) = 1); decide)
  rw [if_neg hf] at h0 ⊢
  by_cases hb : barredI (insOfFr P f) (regD f (insOfFr P f).a) (regD f (insOfFr P f).b) = 0
  · rw [if_pos hb] at h0 ⊢
    generalize insOfFr P f = x at h0 hb ⊢
    by_cases h17 : x.op = 17
    · left
      refine ⟨h17, ?_⟩
      unfold doS at h0 ⊢
      rw [if_neg (by omega), if_neg (by omega), if_neg (by omega), if_neg (by omega), if_pos h17] at h0 ⊢
      split at h0
      · exact absurd h0 (by show ¬ ((5 : Int) = 0 ∨ (5 : Int) = 1); decide)
      · rename_i h8; rw [if_neg h8]
    by_cases h19 : x.op = 19
    · right
      have e : doS P { S with fuel := S.fuel - 1, status := 0 } fs f x = retS P { S with fuel := S.fuel - 1, status := 0 } fs (regD f x.a) := by
        unfold doS
        rw [if_neg (by omega), if_neg (by omega), if_neg (by omega), if_neg (by omega), if_neg (by omega), if_neg (by omega), if_pos h19]
      rw [e]
      unfold retS
      rcases List.eq_nil_or_concat fs with rfl | ⟨gs, h, rfl⟩
      · exact Or.inl ⟨h19, rfl, rfl, rfl⟩
      · rw [List.concat_eq_append]
        refine Or.inr (Or.inl ⟨h19, gs, h, rfl, ?_⟩)
        simp
    · right; right; right
      refine ⟨h17, h19, ?_⟩
      unfold doS
      rw [if_neg h17, if_neg h19]
      repeat' split
      all_goals simp
  · rw [if_neg hb] at h0
    rcases barredI_cases (insOfFr P f) (regD f (insOfFr P f).a) (regD f (insOfFr P f).b) with e | e | e
    · exact absurd e hb
    all_goals (rw [e] at h0; dsimp only at h0; omega)
/-- A step that ends the run otherwise has kept the frames. -/
theorem step_ends {P : List Fn} {S : St} {fs : List Fr} {f : Fr} (hS : S.frames = fs ++ [f]) (h0 : (stepS P S).status ≠ 0) (h1 : (stepS P S).status ≠ 1) : (stepS P S).frames.length = S.frames.length := by
  rw [stepS_snoc hS] at h0 h1 ⊢
  by_cases hf : S.fuel = 0
  · rw [if_pos hf]
  rw [if_neg hf] at h0 h1 ⊢
  by_cases hb : barredI (insOfFr P f) (regD f (insOfFr P f).a) (regD f (insOfFr P f).b) = 0
  · rw [if_pos hb] at h0 h1 ⊢
    generalize insOfFr P f = x at h0 h1 hb ⊢
    unfold doS at h0 h1 ⊢
    by_cases h19 : x.op = 19
    · rw [if_neg (by omega), if_neg (by omega), if_neg (by omega), if_neg (by omega), if_neg (by omega), if_neg (by omega), if_pos h19] at h0 h1
      rcases retS_status P { S with fuel := S.fuel - 1, status := 0 } fs (regD f x.a) with e | e
      · exact absurd e h0
      · exact absurd e h1
    rw [if_neg h19] at h0 h1 ⊢
    repeat' split
    all_goals first
      | rfl
      | (exfalso; simp_all)
      | (rw [hS]; simp)
  · rw [if_neg hb]
end Go.Proofs.YtgdmdlkhnokieaaDoor

/- Small facts for laws that look at the last frame. -/
namespace Go.Proofs.YtgdmdlkhnokieaaDoor
open Go Go.RowKit

theorem setRow_alloc2m (w : World) (o : Obj) (old cs : Array Value) (t : TypeId) : ((w.alloc o).alloc (.cells old t)).setRow (w.heap.size + 1) cs = (w.alloc o).alloc (.cells cs t) := by
  have := World.setRow_alloc_new (w.alloc o) old cs t
  rw [World.size_alloc] at this
  exact this
theorem StVal.memAt {w : World} {cs : Array Value} {S : St} (h : StVal w (.agg cs) S) (i : Nat) (hi : i < 16) : cs[3 + i]? = some (.int .i64 (S.mem.getD i 0)) := by
  obtain ⟨fv, ev, av, e, hm, -⟩ := h
  obtain rfl := Value.agg.inj e
  rw [List.getElem?_toArray]
  unfold stCells
  rw [List.append_assoc, List.getElem?_append_right (by simp), List.getElem?_append_left (by simp [i64s, hm]; exact hi)]
  simp [i64s, hm, hi, List.getD]
theorem StVal.framesAt {w : World} {cs : Array Value} {S : St} (h : StVal w (.agg cs) S) {fs : List Fr} {f : Fr} (hS : S.frames = fs ++ [f]) : ∃ b off cap, cs[2]? = some (.slice (some ⟨b, off, none⟩) (fs.length + 1) cap) ∧ w.rangeAt b (off + fs.length * 14) (frCells f) ∧ f.regs.length = 12 ∧ fs.length + 1 ≤ cap ∧ cap ≤ 9223372036854775807 := by
  obtain ⟨fv, ev, av, e, hm, hf, -⟩ := h
  obtain rfl := Value.agg.inj e
  obtain ⟨hw, ao, b, off, n, cap, rfl, hl, ha, hc, hcp, hx⟩ := hf
  have hn : n = fs.length + 1 := by rw [← hl, hS]; simp
  subst hn
  obtain rfl := ha (by omega)
  unfold maxLen at hx
  refine ⟨b, off, cap, rfl, ?_, hw f (by rw [hS]; simp), hcp.1, by omega⟩
  have h1 := hc fs.length (by omega)
  have e1 : S.frames[fs.length]'(by omega) = f := by simp [hS]
  rw [e1] at h1
  exact h1

theorem frCells_reg12 (f : Fr) (h : f.regs.length = 12) (r : Nat) (hr : r < 12) : (frCells f).toArray[2 + r]? = some (.int .i64 (f.regs.getD r 0)) := by
  rw [List.getElem?_toArray, show 2 + r = r + 1 + 1 by omega]
  simp [frCells, i64s, List.getD, h, hr]
end Go.Proofs.YtgdmdlkhnokieaaDoor
