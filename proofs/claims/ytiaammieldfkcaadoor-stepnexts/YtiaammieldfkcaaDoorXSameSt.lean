/- Contract of tierlinelaw.sameState: two states that are the same. -/
import Derived.Test.YtiaammieldfkcaaDoorGroupC
import Derived.ChangeKeysEq
import Derived.Laws.StructEq
import Derived.Test.YtiaammieldfkcaaDoorXLawSures
import Derived.BigQuiet
import Derived.Deep.QuietTactic
namespace Go.Proofs.YtiaammieldfkcaaDoor
open Go Go.RowKit

theorem list16_law {l : List Int} (h : l.length = 16) : ∃ m0 m1 m2 m3 m4 m5 m6 m7 m8 m9 m10 m11 m12 m13 m14 m15, l = [m0, m1, m2, m3, m4, m5, m6, m7, m8, m9, m10, m11, m12, m13, m14, m15] := by
  match l, h with
  | [m0, m1, m2, m3, m4, m5, m6, m7, m8, m9, m10, m11, m12, m13, m14, m15], _ => exact ⟨m0, m1, m2, m3, m4, m5, m6, m7, m8, m9, m10, m11, m12, m13, m14, m15, rfl⟩
theorem plain_int_law : Tryd.prog.plainKey 3 = true := by kernel_rfl
theorem cells_int_law : Tryd.prog.cellsOf 3 = 1 := by kernel_rfl
theorem equal_items_law (d : Nat) (l : List Int) (w : World) : ∀ is : List Nat, (∀ i ∈ is, i < l.length) → (Op.eqItems (d + 1) 3 1 (i64s l).toArray (i64s l).toArray is).run Tryd.prog w = .ok true w := by
  intro is
  induction is with
  | nil => intro _; simp [Op.eqItems]
  | cons i is ih =>
    intro h
    have hi : i < l.length := h i (List.mem_cons_self)
    have hg : (i64s l).toArray[i * 1]? = some (.int .i64 l[i]) := by simp [i64s, hi]
    simp only [Op.eqItems, Sem.run_bind, run_part_plain w plain_int_law hg, Result.andThen_ok, run_equalIn_int w d 3 .i64 .i64 l[i] l[i] Tryd.underlying3]
    simp
    exact ih (fun j hj => h j (List.mem_cons_of_mem _ hj))
theorem equal_ints_law (t : TypeId) (l : List Int) (d : Nat) (w : World) (hu : Tryd.prog.underlying t = some (.array l.length 3)) : (Op.equalIn (d + 2) t (.agg (i64s l).toArray) (.agg (i64s l).toArray)).run Tryd.prog w = .ok true w := by
  obtain ⟨i, hi, _⟩ := info_parts info64
  rw [run_equalIn_array w (d + 1) _ _ hu hi, cells_int_law]
  exact equal_items_law d l w _ (fun j hj => by simpa using hj)

set_option maxRecDepth 100000 in
set_option maxHeartbeats 2000000 in
theorem sameState_law (s : St) (v1 v2 : Value) (w : World) (h1 : StVal w v1 s) (h2 : StVal w v2 s) :
    Calls Tryd.prog 11 #[v1, v2] w fun e w' => e = .returned (.bool true) ∧ Below w.heap.size w w' := by
  obtain ⟨status, value, frames, mem, fuel, events, answers⟩ := s
  obtain ⟨fv1, ev1, av1, rfl, hm, hf1, he1, ha1⟩ := h1
  obtain ⟨fv2, ev2, av2, rfl, _, hf2, he2, ha2⟩ := h2
  dsimp only at hm hf1 hf2 he1 he2 ha1 ha2
  obtain ⟨m0, m1, m2, m3, m4, m5, m6, m7, m8, m9, m10, m11, m12, m13, m14, m15, rfl⟩ := list16_law hm
  obtain ⟨eo1, ec1, rfl⟩ := he1.shape
  obtain ⟨eo2, ec2, rfl⟩ := he2.shape
  obtain ⟨ao1, ac1, rfl⟩ := ha1.shape
  obtain ⟨ao2, ac2, rfl⟩ := ha2.shape
  obtain ⟨hwf, fo1, b1, off1, n1, cap1, rfl, hl1, hp1, hr1, hc1, hx1⟩ := hf1
  obtain ⟨_, fo2, b2, off2, n2, cap2, rfl, hl2, hp2, hr2, hc2, hx2⟩ := hf2
  obtain rfl : n2 = n1 := hl2.symm.trans hl1
  have HL : Hid (frames.length = n2) := hl1
  have HR1 : Hid (∀ k (h : k < frames.length), w.rangeAt b1 (off1 + k * 14) (frCells frames[k])) := hr1
  have HR2 : Hid (∀ k (h : k < frames.length), w.rangeAt b2 (off2 + k * 14) (frCells frames[k])) := hr2
  have HP1 : Hid (0 < n2 → fo1 = some ⟨b1, off1, none⟩) := hp1
  have HP2 : Hid (0 < n2 → fo2 = some ⟨b2, off2, none⟩) := hp2
  have HW : Hid (FrsWf frames) := hwf
  have hcap := hc1.1
  unfold maxLen at hx1
  have HE1 : Hid (IntsVal w (.slice eo1 events.length ec1) events) := he1
  have HE2 : Hid (IntsVal w (.slice eo2 events.length ec2) events) := he2
  have HA1 : Hid (IntsVal w (.slice ao1 answers.length ac1) answers) := ha1
  have HA2 : Hid (IntsVal w (.slice ao2 answers.length ac2) answers) := ha2
  have hbx : ∀ o o', Below w.heap.size w ((w.alloc o).alloc o') := fun o o' => ((Below.refl _ _).alloc (Nat.le_refl _) _).alloc (by simp) _
  clear hl1 hl2 hr1 hr2 hp1 hp2 hwf hc1 hc2 hx2 he1 he2 ha1 ha2 hm
  simp only [stCells, i64s, List.map_cons, List.map_nil, List.cons_append, List.nil_append]
  have hq16 : ∀ w, (Op.equalIn 10000 26 (.agg #[.int .i64 m0, .int .i64 m1, .int .i64 m2, .int .i64 m3, .int .i64 m4, .int .i64 m5, .int .i64 m6, .int .i64 m7, .int .i64 m8, .int .i64 m9, .int .i64 m10, .int .i64 m11, .int .i64 m12, .int .i64 m13, .int .i64 m14, .int .i64 m15]) (.agg #[.int .i64 m0, .int .i64 m1, .int .i64 m2, .int .i64 m3, .int .i64 m4, .int .i64 m5, .int .i64 m6, .int .i64 m7, .int .i64 m8, .int .i64 m9, .int .i64 m10, .int .i64 m11, .int .i64 m12, .int .i64 m13, .int .i64 m14, .int .i64 m15])).run Tryd.prog w = .ok true w := fun w => equal_ints_law 26 [m0, m1, m2, m3, m4, m5, m6, m7, m8, m9, m10, m11, m12, m13, m14, m15] 9998 w Tryd.underlying26
  go_enter Tryd.func11, Tryd.ntmps11
  go_wp2_with (first
    | (go_at_call 24; refine (sameInts_true events _ _ _ (HE1.out.keeps (keeps_below (hbx _ _))) (HE2.out.keeps (keeps_below (hbx _ _)))).mono ?_; rintro e w1 ⟨rfl, hb1⟩; have a6 := keeps_below hb1 ⟨w.heap.size, 21, none⟩ _ (by rw [cell_of_row _ _ _ _ _ _ (heap_alloc2_old _ _ _)]; rfl); have b6 := keeps_below hb1 ⟨w.heap.size + 1, 21, none⟩ _ (by rw [cell_of_row _ _ _ _ _ _ (heap_alloc2_new _ _ _)]; rfl); have a2 := keeps_below hb1 ⟨w.heap.size, 2, none⟩ _ (by rw [cell_of_row _ _ _ _ _ _ (heap_alloc2_old _ _ _)]; rfl); have b2' := keeps_below hb1 ⟨w.heap.size + 1, 2, none⟩ _ (by rw [cell_of_row _ _ _ _ _ _ (heap_alloc2_new _ _ _)]; rfl); have HB1 : Hid (Below w.heap.size w w1) := (hbx _ _).trans (hb1.mono (by simp; omega)); have hz1 : w.heap.size + 2 ≤ w1.heap.size := (by have := hb1.size; simpa using this); clear HE1)
    | (go_at_call 24; refine (sameInts_true answers _ _ _ (HA1.out.keeps (keeps_below HB1.out)) (HA2.out.keeps (keeps_below HB1.out))).mono ?_; rintro e w2 ⟨rfl, hb2⟩; have a2' := keeps_below hb2 _ _ a2; have b2'' := keeps_below hb2 _ _ b2'; have HB2 : Hid (Below w.heap.size w w2) := HB1.out.trans (hb2.mono (by omega)); have hz2 : w.heap.size + 2 ≤ w2.heap.size := (by have := hb2.size; omega); clear hb2 a6 b6 a2 b2'))
  have HK : Hid (∀ k (h : k < frames.length), ∃ fn pc r0 r1 r2 r3 r4 r5 r6 r7 r8 r9 r10 r11, (∀ j v, ([.int .i64 fn, .int .i64 pc, .int .i64 r0, .int .i64 r1, .int .i64 r2, .int .i64 r3, .int .i64 r4, .int .i64 r5, .int .i64 r6, .int .i64 r7, .int .i64 r8, .int .i64 r9, .int .i64 r10, .int .i64 r11] : List Value)[j]? = some v → w.cell? ⟨b1, off1 + k * 14 + j, none⟩ = some v) ∧ (∀ j v, ([.int .i64 fn, .int .i64 pc, .int .i64 r0, .int .i64 r1, .int .i64 r2, .int .i64 r3, .int .i64 r4, .int .i64 r5, .int .i64 r6, .int .i64 r7, .int .i64 r8, .int .i64 r9, .int .i64 r10, .int .i64 r11] : List Value)[j]? = some v → w.cell? ⟨b2, off2 + k * 14 + j, none⟩ = some v)) := by
    intro k h
    obtain ⟨r0, r1, r2, r3, r4, r5, r6, r7, r8, r9, r10, r11, hr⟩ := list12 (HW.out _ (List.getElem_mem h))
    have e : frCells frames[k] = [.int .i64 frames[k].fn, .int .i64 frames[k].pc, .int .i64 r0, .int .i64 r1, .int .i64 r2, .int .i64 r3, .int .i64 r4, .int .i64 r5, .int .i64 r6, .int .i64 r7, .int .i64 r8, .int .i64 r9, .int .i64 r10, .int .i64 r11] := by unfold frCells; rw [hr]; rfl
    refine ⟨frames[k].fn, frames[k].pc, r0, r1, r2, r3, r4, r5, r6, r7, r8, r9, r10, r11, ?_, ?_⟩
    · rw [← e]; exact HR1.out k h
    · rw [← e]; exact HR2.out k h
  clear HR1 HR2 HW hbx hq16
  go_loopw [5] (fun i wr => ∃ k : Nat, k ≤ n2 ∧ i = .int .i64 k ∧ Below w2.heap.size w2 wr) (fun i _ => n2 - (intOf i).toNat)
  case atStart => exact ⟨0, Nat.zero_le _, rfl, Below.refl _ _⟩
  case round =>
    obtain ⟨k, hk, rfl, hb⟩ := hrel
    have x2 := keeps_below hb _ _ a2'
    have y2 := keeps_below hb _ _ b2''
    have HB : Hid (Below w.heap.size w wr) := HB2.out.trans (hb.mono (by omega))
    by_cases hlt : k < n2
    · obtain rfl := HP1.out (by omega)
      obtain rfl := HP2.out (by omega)
      have hkl : k < frames.length := by rw [HL.out]; exact hlt
      obtain ⟨fn, pc, r0, r1, r2, r3, r4, r5, r6, r7, r8, r9, r10, r11, g1, g2⟩ := HK.out k hkl
      have c0 := keeps_below HB.out _ _ (g1 0 _ rfl)
      have d0 := keeps_below HB.out _ _ (g2 0 _ rfl)
      have c1 := keeps_below HB.out _ _ (g1 1 _ rfl)
      have d1 := keeps_below HB.out _ _ (g2 1 _ rfl)
      have c2 := keeps_below HB.out _ _ (g1 2 _ rfl)
      have d2 := keeps_below HB.out _ _ (g2 2 _ rfl)
      have c3 := keeps_below HB.out _ _ (g1 3 _ rfl)
      have d3 := keeps_below HB.out _ _ (g2 3 _ rfl)
      have c4 := keeps_below HB.out _ _ (g1 4 _ rfl)
      have d4 := keeps_below HB.out _ _ (g2 4 _ rfl)
      have c5 := keeps_below HB.out _ _ (g1 5 _ rfl)
      have d5 := keeps_below HB.out _ _ (g2 5 _ rfl)
      have c6 := keeps_below HB.out _ _ (g1 6 _ rfl)
      have d6 := keeps_below HB.out _ _ (g2 6 _ rfl)
      have c7 := keeps_below HB.out _ _ (g1 7 _ rfl)
      have d7 := keeps_below HB.out _ _ (g2 7 _ rfl)
      have c8 := keeps_below HB.out _ _ (g1 8 _ rfl)
      have d8 := keeps_below HB.out _ _ (g2 8 _ rfl)
      have c9 := keeps_below HB.out _ _ (g1 9 _ rfl)
      have d9 := keeps_below HB.out _ _ (g2 9 _ rfl)
      have c10 := keeps_below HB.out _ _ (g1 10 _ rfl)
      have d10 := keeps_below HB.out _ _ (g2 10 _ rfl)
      have c11 := keeps_below HB.out _ _ (g1 11 _ rfl)
      have d11 := keeps_below HB.out _ _ (g2 11 _ rfl)
      have c12 := keeps_below HB.out _ _ (g1 12 _ rfl)
      have d12 := keeps_below HB.out _ _ (g2 12 _ rfl)
      have c13 := keeps_below HB.out _ _ (g1 13 _ rfl)
      have d13 := keeps_below HB.out _ _ (g2 13 _ rfl)
      simp only [Nat.add_zero] at c0 d0
      have hkI : (k : Int) < n2 := by omega
      have hq12 : ∀ w, (Op.equalIn 9999 53 (.agg #[.int .i64 r0, .int .i64 r1, .int .i64 r2, .int .i64 r3, .int .i64 r4, .int .i64 r5, .int .i64 r6, .int .i64 r7, .int .i64 r8, .int .i64 r9, .int .i64 r10, .int .i64 r11]) (.agg #[.int .i64 r0, .int .i64 r1, .int .i64 r2, .int .i64 r3, .int .i64 r4, .int .i64 r5, .int .i64 r6, .int .i64 r7, .int .i64 r8, .int .i64 r9, .int .i64 r10, .int .i64 r11])).run Tryd.prog w = .ok true w := fun w => equal_ints_law 53 [r0, r1, r2, r3, r4, r5, r6, r7, r8, r9, r10, r11] 9997 w Tryd.underlying53
      have HBB : Hid (Below w2.heap.size w2 wr) := hb
      clear g1 g2 hb HK HP1 HP2 a2' b2''
      go_wp2
      go_quiet (fail)
      go_wp2
      go_roundw
      case rel => exact ⟨k + 1, by omega, by go_num, below_drewN HBB.out _⟩
      case measure => simp [intOf]; omega
    · clear a2' b2''
      go_wp2
      go_ret
      exact ⟨rfl, HB.out⟩
end Go.Proofs.YtiaammieldfkcaaDoor
