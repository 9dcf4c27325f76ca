import Derived.Test.YtldbmdgpdolaaaaGreatDoorPXFoldKit
namespace Go.Proofs.YtldbmdgpdolaaaaGreatDoor
open Go Go.RowKit

set_option maxRecDepth 100000 in
theorem either_any (a b : FV) (w : World) (hG : KnowG w) :
    Calls Tryz.prog 110 #[.agg #[.int .i64 a.kind, .int .i64 a.num], .agg #[.int .i64 b.kind, .int .i64 b.num]] w fun e w' => e = .returned (.agg #[.int .i64 (eitherF a b).kind, .int .i64 (eitherF a b).num]) ∧ Below w.heap.size w w' := by
  have HB : Hid (Below w.heap.size w (((w.alloc (.cells #[.int .i64 a.kind, .int .i64 a.num] 65)).alloc (.cells #[.int .i64 b.kind, .int .i64 b.num] 65)).alloc (.cells #[.int .i64 0, .int .i64 0] 65))) := (((Below.refl _ _).alloc (Nat.le_refl _) _).alloc (by simp) _).alloc (by simp <;> omega) _
  obtain ⟨hn, hm⟩ := hG.below HB.out
  have r2 : (((w.alloc (.cells #[.int .i64 a.kind, .int .i64 a.num] 65)).alloc (.cells #[.int .i64 b.kind, .int .i64 b.num] 65)).alloc (.cells #[.int .i64 0, .int .i64 0] 65)).heap[w.heap.size]? = some (.cells #[.int .i64 a.kind, .int .i64 a.num] 65 (0, 0)) := heap_alloc_old _ _ (by simp <;> omega) |>.trans (heap_alloc2_old _ _ _)
  have r3 : (((w.alloc (.cells #[.int .i64 a.kind, .int .i64 a.num] 65)).alloc (.cells #[.int .i64 b.kind, .int .i64 b.num] 65)).alloc (.cells #[.int .i64 0, .int .i64 0] 65)).heap[w.heap.size + 1]? = some (.cells #[.int .i64 b.kind, .int .i64 b.num] 65 (0, 0)) := heap_alloc_old _ _ (by simp <;> omega) |>.trans (heap_alloc2_new _ _ _)
  have r4 : (((w.alloc (.cells #[.int .i64 a.kind, .int .i64 a.num] 65)).alloc (.cells #[.int .i64 b.kind, .int .i64 b.num] 65)).alloc (.cells #[.int .i64 0, .int .i64 0] 65)).heap[w.heap.size + 1 + 1]? = some (.cells #[.int .i64 0, .int .i64 0] 65 (0, 0)) := heap_alloc3_newS _ _ _ _
  have hea := fun W => equal_fact a.kind a.num 0 0 W
  have heab := fun W => equal_fact a.kind a.num b.kind b.num W
  have heb := fun W => equal_fact b.kind b.num 0 0 W
  have e1 : ((a.kind == 0) && (a.num == 0)) = decide (a = .never) := fv_eq a .never
  have e2 : ((a.kind == b.kind) && (a.num == b.num)) = decide (a = b) := fv_eq a b
  have e3 : ((b.kind == 0) && (b.num == 0)) = decide (b = .never) := fv_eq b .never
  have HE : Hid (eitherF a b = if a = .never ∨ a = b then b else if b = .never then a else .many) := rfl
  have hl0 : (#[.int .i64 0, .int .i64 0] : Array Value).size = 2 := rfl
  rw [e1] at hea
  rw [e2] at heab
  rw [e3] at heb
  clear e1 e2 e3 hG
  go_enter Tryz.func110, Tryz.ntmps110
  go_upto_region 1 with fail
  generalize (((w.alloc (.cells #[.int .i64 a.kind, .int .i64 a.num] 65)).alloc (.cells #[.int .i64 b.kind, .int .i64 b.num] 65)).alloc (.cells #[.int .i64 0, .int .i64 0] 65)) = V at *
  obtain ⟨ak, hak⟩ : ∃ x, x = a.kind := ⟨_, rfl⟩
  obtain ⟨an, han⟩ : ∃ x, x = a.num := ⟨_, rfl⟩
  obtain ⟨bk, hbk⟩ : ∃ x, x = b.kind := ⟨_, rfl⟩
  obtain ⟨bn, hbn⟩ : ∃ x, x = b.num := ⟨_, rfl⟩
  have HL : Hid (ak = a.kind ∧ an = a.num ∧ bk = b.kind ∧ bn = b.num) := ⟨hak, han, hbk, hbn⟩
  rw [← hak, ← han] at r2 hea heab
  rw [← hbk, ← hbn] at r3 heab heb
  clear hak han hbk hbn
  have hz2 := lt_of_block r2
  by_cases hA : a = .never
  · have hd : decide (a = FV.never) = true := by simpa using hA
    rw [hd] at hea
    have HR : Hid (eitherF a b = b) := by show _ = _; rw [HE.out, if_pos (Or.inl hA)]
    clear hA hd heab heb
    go_wp2_with (first | (refine wpList_load_row rfl 65 (.tmp 2) rfl _ rfl _ _ _ _ r2 Tryz.underlying65 rfl infoFact ?_) | (refine wpList_load_row rfl 65 (.tmp 3) rfl _ rfl _ _ _ _ r3 Tryz.underlying65 rfl infoFact ?_) | (refine wpList_load_mid rfl 65 (.global 1) rfl 1 0 rfl _ _ hn Tryz.underlying65 rfl infoFact ?_) | (refine wpList_load_mid rfl 65 (.global 0) rfl 0 0 rfl _ _ hm Tryz.underlying65 rfl infoFact ?_) | (refine wpList_store_row rfl _ _ _ rfl _ #[.int .i64 bk, .int .i64 bn] rfl rfl _ _ r4 infoFact rfl (by simp [Value.oneCell']) ?_))
    (try simp only [Exit.inBlock, Exit.then])
    exact bodyPost_ret (results_cell_row rfl _ _ (w.heap.size + 1 + 1) 65 #[.int .i64 bk, .int .i64 bn] (0, 0) _ rfl (setRow_heap _ _ _ _ _ _ r4) Tryz.underlying65 rfl infoFact) rfl ⟨by rw [HR.out, HL.out.2.2.1, HL.out.2.2.2], belowSK HB.out (by omega) _⟩
  have hd : decide (a = FV.never) = false := by simpa using hA
  rw [hd] at hea
  by_cases hAB : a = b
  · have hd2 : decide (a = b) = true := by simpa using hAB
    rw [hd2] at heab
    have HR : Hid (eitherF a b = b) := by show _ = _; rw [HE.out, if_pos (Or.inr hAB)]
    clear hA hd hd2 hAB heb
    go_wp2_with (first | (refine wpList_load_row rfl 65 (.tmp 2) rfl _ rfl _ _ _ _ r2 Tryz.underlying65 rfl infoFact ?_) | (refine wpList_load_row rfl 65 (.tmp 3) rfl _ rfl _ _ _ _ r3 Tryz.underlying65 rfl infoFact ?_) | (refine wpList_load_mid rfl 65 (.global 1) rfl 1 0 rfl _ _ hn Tryz.underlying65 rfl infoFact ?_) | (refine wpList_load_mid rfl 65 (.global 0) rfl 0 0 rfl _ _ hm Tryz.underlying65 rfl infoFact ?_) | (refine wpList_store_row rfl _ _ _ rfl _ #[.int .i64 bk, .int .i64 bn] rfl rfl _ _ r4 infoFact rfl (by simp [Value.oneCell']) ?_))
    (try simp only [Exit.inBlock, Exit.then])
    exact bodyPost_ret (results_cell_row rfl _ _ (w.heap.size + 1 + 1) 65 #[.int .i64 bk, .int .i64 bn] (0, 0) _ rfl (setRow_heap _ _ _ _ _ _ r4) Tryz.underlying65 rfl infoFact) rfl ⟨by rw [HR.out, HL.out.2.2.1, HL.out.2.2.2], belowSK HB.out (by omega) _⟩
  have hd2 : decide (a = b) = false := by simpa using hAB
  rw [hd2] at heab
  by_cases hB : b = .never
  · have hd3 : decide (b = FV.never) = true := by simpa using hB
    rw [hd3] at heb
    have HR : Hid (eitherF a b = a) := by show _ = _; rw [HE.out, if_neg (fun h => h.elim hA hAB), if_pos hB]
    clear hA hd hd2 hAB hB hd3
    go_wp2_with (first | (refine wpList_load_row rfl 65 (.tmp 2) rfl _ rfl _ _ _ _ r2 Tryz.underlying65 rfl infoFact ?_) | (refine wpList_load_row rfl 65 (.tmp 3) rfl _ rfl _ _ _ _ r3 Tryz.underlying65 rfl infoFact ?_) | (refine wpList_load_mid rfl 65 (.global 1) rfl 1 0 rfl _ _ hn Tryz.underlying65 rfl infoFact ?_) | (refine wpList_load_mid rfl 65 (.global 0) rfl 0 0 rfl _ _ hm Tryz.underlying65 rfl infoFact ?_) | (refine wpList_store_row rfl _ _ _ rfl _ #[.int .i64 ak, .int .i64 an] rfl rfl _ _ r4 infoFact rfl (by simp [Value.oneCell']) ?_))
    (try simp only [Exit.inBlock, Exit.then])
    exact bodyPost_ret (results_cell_row rfl _ _ (w.heap.size + 1 + 1) 65 #[.int .i64 ak, .int .i64 an] (0, 0) _ rfl (setRow_heap _ _ _ _ _ _ r4) Tryz.underlying65 rfl infoFact) rfl ⟨by rw [HR.out, HL.out.1, HL.out.2.1], belowSK HB.out (by omega) _⟩
  · have hd3 : decide (b = FV.never) = false := by simpa using hB
    rw [hd3] at heb
    have HR : Hid (eitherF a b = .many) := by show _ = _; rw [HE.out, if_neg (fun h => h.elim hA hAB), if_neg hB]
    clear hA hd hd2 hAB hB hd3
    go_wp2_with (first | (refine wpList_load_row rfl 65 (.tmp 2) rfl _ rfl _ _ _ _ r2 Tryz.underlying65 rfl infoFact ?_) | (refine wpList_load_row rfl 65 (.tmp 3) rfl _ rfl _ _ _ _ r3 Tryz.underlying65 rfl infoFact ?_) | (refine wpList_load_mid rfl 65 (.global 1) rfl 1 0 rfl _ _ hn Tryz.underlying65 rfl infoFact ?_) | (refine wpList_load_mid rfl 65 (.global 0) rfl 0 0 rfl _ _ hm Tryz.underlying65 rfl infoFact ?_) | (refine wpList_store_row rfl _ _ _ rfl _ #[.int .i64 2, .int .i64 0] rfl rfl _ _ r4 infoFact rfl (by simp [Value.oneCell']) ?_))
    (try simp only [Exit.inBlock, Exit.then])
    exact bodyPost_ret (results_cell_row rfl _ _ (w.heap.size + 1 + 1) 65 #[.int .i64 2, .int .i64 0] (0, 0) _ rfl (setRow_heap _ _ _ _ _ _ r4) Tryz.underlying65 rfl infoFact) rfl ⟨by rw [HR.out]; rfl, belowSK HB.out (by omega) _⟩
end Go.Proofs.YtldbmdgpdolaaaaGreatDoor
