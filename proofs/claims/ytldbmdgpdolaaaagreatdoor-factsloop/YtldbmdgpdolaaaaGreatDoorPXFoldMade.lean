import Derived.Test.YtldbmdgpdolaaaaGreatDoorPXBrief
import Derived.Test.YtldbmdgpdolaaaaGreatDoorPXSsaMath
namespace Go.Proofs.YtldbmdgpdolaaaaGreatDoor
open Go Go.RowKit

def madeF (x : InsD) (a b : FV) : FV := if a = .never ∨ b = .never ∨ (x.op = 5 ∧ b = .known 0) then .never else if 12 < x.op ∨ a = .many ∨ b = .many then .many else .known (mk x.op a.num b.num x.imm)
set_option maxRecDepth 100000 in
set_option maxHeartbeats 4000000 in
theorem madeF_any (x : InsD) (a b : FV) (w : World) (hG : KnowG w) :
    Calls Tryz.prog 86 #[.agg (inC x).toArray, .agg #[.int .i64 a.kind, .int .i64 a.num], .agg #[.int .i64 b.kind, .int .i64 b.num]] w fun e w' => e = .returned (.agg #[.int .i64 (madeF x a b).kind, .int .i64 (madeF x a b).num]) ∧ Below w.heap.size w w' := by
  have HB : Hid (Below w.heap.size w ((((w.alloc (.cells (inC x).toArray 67)).alloc (.cells #[.int .i64 a.kind, .int .i64 a.num] 65)).alloc (.cells #[.int .i64 b.kind, .int .i64 b.num] 65)).alloc (.cells #[.int .i64 0, .int .i64 0] 65))) := ((((Below.refl _ _).alloc (Nat.le_refl _) _).alloc (by simp) _).alloc (by simp <;> omega) _).alloc (by simp <;> omega) _
  obtain ⟨hn, hm⟩ := hG.below HB.out
  have r3 : ((((w.alloc (.cells (inC x).toArray 67)).alloc (.cells #[.int .i64 a.kind, .int .i64 a.num] 65)).alloc (.cells #[.int .i64 b.kind, .int .i64 b.num] 65)).alloc (.cells #[.int .i64 0, .int .i64 0] 65)).heap[w.heap.size]? = some (.cells (inC x).toArray 67 (0, 0)) := heap_alloc_old _ _ (by simp <;> omega) |>.trans (heap_alloc_old _ _ (by simp <;> omega) |>.trans (heap_alloc2_old _ _ _))
  have r4 : ((((w.alloc (.cells (inC x).toArray 67)).alloc (.cells #[.int .i64 a.kind, .int .i64 a.num] 65)).alloc (.cells #[.int .i64 b.kind, .int .i64 b.num] 65)).alloc (.cells #[.int .i64 0, .int .i64 0] 65)).heap[w.heap.size + 1]? = some (.cells #[.int .i64 a.kind, .int .i64 a.num] 65 (0, 0)) := heap_alloc_old _ _ (by simp <;> omega) |>.trans (heap_alloc_old _ _ (by simp <;> omega) |>.trans (heap_alloc2_new _ _ _))
  have r5 : ((((w.alloc (.cells (inC x).toArray 67)).alloc (.cells #[.int .i64 a.kind, .int .i64 a.num] 65)).alloc (.cells #[.int .i64 b.kind, .int .i64 b.num] 65)).alloc (.cells #[.int .i64 0, .int .i64 0] 65)).heap[w.heap.size + 1 + 1]? = some (.cells #[.int .i64 b.kind, .int .i64 b.num] 65 (0, 0)) := heap_alloc_old _ _ (by simp <;> omega) |>.trans (heap_alloc3_newS _ _ _ _)
  have r6 : ((((w.alloc (.cells (inC x).toArray 67)).alloc (.cells #[.int .i64 a.kind, .int .i64 a.num] 65)).alloc (.cells #[.int .i64 b.kind, .int .i64 b.num] 65)).alloc (.cells #[.int .i64 0, .int .i64 0] 65)).heap[w.heap.size + 1 + 1 + 1]? = some (.cells #[.int .i64 0, .int .i64 0] 65 (0, 0)) := by have := heap_alloc_last (((w.alloc (.cells (inC x).toArray 67)).alloc (.cells #[.int .i64 a.kind, .int .i64 a.num] 65)).alloc (.cells #[.int .i64 b.kind, .int .i64 b.num] 65)) (.cells #[.int .i64 0, .int .i64 0] 65 (0, 0)); simpa using this
  have hea := fun W => equal_fact a.kind a.num 0 0 W
  have heb := fun W => equal_fact b.kind b.num 0 0 W
  have hek := fun W => equal_fact b.kind b.num 1 0 W
  have heam := fun W => equal_fact a.kind a.num 2 0 W
  have hebm := fun W => equal_fact b.kind b.num 2 0 W
  have e1 : ((a.kind == 0) && (a.num == 0)) = decide (a = .never) := fv_eq a .never
  have e2 : ((b.kind == 0) && (b.num == 0)) = decide (b = .never) := fv_eq b .never
  have e3 : ((b.kind == 1) && (b.num == 0)) = decide (b = .known 0) := fv_eq b (.known 0)
  have e4 : ((a.kind == 2) && (a.num == 0)) = decide (a = .many) := fv_eq a .many
  have e5 : ((b.kind == 2) && (b.num == 0)) = decide (b = .many) := fv_eq b .many
  have HE : Hid (madeF x a b = if a = .never ∨ b = .never ∨ (x.op = 5 ∧ b = .known 0) then .never else if 12 < x.op ∨ a = .many ∨ b = .many then .many else .known (mk x.op a.num b.num x.imm)) := rfl
  rw [e1] at hea
  rw [e2] at heb
  rw [e3] at hek
  rw [e4] at heam
  rw [e5] at hebm
  obtain ⟨ak, hak⟩ : ∃ x, x = a.kind := ⟨_, rfl⟩
  obtain ⟨an, han⟩ : ∃ x, x = a.num := ⟨_, rfl⟩
  obtain ⟨bk, hbk⟩ : ∃ x, x = b.kind := ⟨_, rfl⟩
  obtain ⟨bn, hbn⟩ : ∃ x, x = b.num := ⟨_, rfl⟩
  have HL : Hid (ak = a.kind ∧ an = a.num ∧ bk = b.kind ∧ bn = b.num) := ⟨hak, han, hbk, hbn⟩
  have c0 : ((((w.alloc (.cells (inC x).toArray 67)).alloc (.cells #[.int .i64 a.kind, .int .i64 a.num] 65)).alloc (.cells #[.int .i64 b.kind, .int .i64 b.num] 65)).alloc (.cells #[.int .i64 0, .int .i64 0] 65)).cell? ⟨w.heap.size, 0, none⟩ = some (.int .i64 x.op) := by rw [cell_of_row _ _ _ _ _ _ r3]; rfl
  have c4 : ((((w.alloc (.cells (inC x).toArray 67)).alloc (.cells #[.int .i64 a.kind, .int .i64 a.num] 65)).alloc (.cells #[.int .i64 b.kind, .int .i64 b.num] 65)).alloc (.cells #[.int .i64 0, .int .i64 0] 65)).cell? ⟨w.heap.size, 4, none⟩ = some (.int .i64 x.imm) := by rw [cell_of_row _ _ _ _ _ _ r3]; rfl
  clear e1 e2 e3 e4 e5 hG r3
  rw [← hak, ← han] at hea heam
  rw [← hbk, ← hbn] at heb hek hebm
  go_enter Tryz.func86, Tryz.ntmps86
  go_upto_region 1 with fail
  generalize ((((w.alloc (.cells (inC x).toArray 67)).alloc (.cells #[.int .i64 a.kind, .int .i64 a.num] 65)).alloc (.cells #[.int .i64 b.kind, .int .i64 b.num] 65)).alloc (.cells #[.int .i64 0, .int .i64 0] 65)) = V at *
  rw [← hak, ← han] at r4
  rw [← hbk, ← hbn] at r5
  clear hak han hbk hbn
  have hz4 := lt_of_block r4
  have hz5 := lt_of_block r5
  have hz6 := lt_of_block r6
  obtain ⟨xo, hxo⟩ : ∃ xo, xo = x.op := ⟨_, rfl⟩
  obtain ⟨xm, hxm⟩ : ∃ xm, xm = x.imm := ⟨_, rfl⟩
  rw [← hxo] at c0
  rw [← hxm] at c4
  have HXO : Hid (xo = x.op) := hxo
  have HXM : Hid (xm = x.imm) := hxm
  clear hxo hxm
  by_cases hA : a = .never
  · have hd : decide (a = FV.never) = true := by simpa using hA
    rw [hd] at hea
    have HR : Hid (madeF x a b = .never) := by show _ = _; rw [HE.out, if_pos (Or.inl hA)]
    clear hA hd
    refine wp_region_held_drew (S := fun W => Below V.heap.size V W) (by kernel_rfl) ((Below.refl _ _).drew) (fun hHeld => ?_)
    show wpAnyH _ _ _ _ _ 18 _ _ _
    refine wpAnyH_take (i := 0) (v := .agg [.int .i64 ak, .int .i64 an].toArray) rfl (by kernel_rfl) (by kernel_rfl) (by kernel_rfl) (fun _ _ _ h => h) (yieldsIf_load_mid (by rfl) 65 _ rfl (w.heap.size + 1) 0 rfl [.int .i64 ak, .int .i64 an] _ (fun W hSW j u hu => by rw [cell_of_row _ _ _ _ _ _ ((hSW.block _ hz4).trans r4)]; simpa using hu) Tryz.underlying65 rfl infoFact) (by assumption) ?_
    (try simp only [zB])
    (try simp only [zA])
    refine wpAnyH_take (i := 1) (v := .agg [.int .i64 0, .int .i64 0].toArray) rfl (by kernel_rfl) (by kernel_rfl) (by kernel_rfl) (fun _ _ _ h => h) (yieldsIf_load_mid (by rfl) 65 _ rfl (1) 0 rfl [.int .i64 0, .int .i64 0] _ (fun W hSW j u hu => keeps_below hSW _ _ (hn j u hu)) Tryz.underlying65 rfl infoFact) (by assumption) ?_
    (try simp only [zB])
    (try simp only [zA])
    refine wpAnyH_take (i := 2) (v := ?_) rfl (by kernel_rfl) (by kernel_rfl) (by kernel_rfl) (fun _ _ _ h => h) (Or.inl ⟨by rfl, ?_⟩) (by assumption) ?_
    rotate_left
    · (intro W hSW; go_simp; try (with_reducible rfl))
    (try simp only [zB])
    (try simp only [zA])
    refine wpAnyH_take (i := 3) (v := ?_) rfl (by kernel_rfl) (by kernel_rfl) (by kernel_rfl) (fun _ _ _ h => h) (Or.inl ⟨by rfl, ?_⟩) (by assumption) ?_
    rotate_left
    · (intro W hSW; go_simp; try (with_reducible rfl))
    (try simp only [zB])
    (try simp only [zA])
    refine wpAnyH_take (i := 4) (v := undef) rfl (by kernel_rfl) (by kernel_rfl) (by kernel_rfl) (fun _ _ _ h => h) (Or.inr ⟨by kernel_rfl, rfl⟩) (by assumption) ?_
    (try simp only [zA, zB])
    refine wpAnyH_take (i := 5) (v := undef) rfl (by kernel_rfl) (by kernel_rfl) (by kernel_rfl) (fun _ _ _ h => h) (Or.inr ⟨by kernel_rfl, rfl⟩) (by assumption) ?_
    (try simp only [zA, zB])
    refine wpAnyH_take (i := 6) (v := undef) rfl (by kernel_rfl) (by kernel_rfl) (by kernel_rfl) (fun _ _ _ h => h) (Or.inr ⟨by kernel_rfl, rfl⟩) (by assumption) ?_
    (try simp only [zA, zB])
    refine wpAnyH_take (i := 7) (v := ?_) rfl (by kernel_rfl) (by kernel_rfl) (by kernel_rfl) (fun _ _ _ h => h) (Or.inl ⟨by rfl, ?_⟩) (by assumption) ?_
    rotate_left
    · (intro W hSW; go_simp; try (with_reducible rfl))
    (try simp only [zB])
    (try simp only [zA])
    refine wpAnyH_take (i := 8) (v := ?_) rfl (by kernel_rfl) (by kernel_rfl) (by kernel_rfl) (fun _ _ _ h => h) (Or.inl ⟨by rfl, ?_⟩) (by assumption) ?_
    rotate_left
    · (intro W hSW; go_simp; try (with_reducible rfl))
    (try simp only [zB])
    (try simp only [zA])
    refine wpAnyH_take (i := 9) (v := undef) rfl (by kernel_rfl) (by kernel_rfl) (by kernel_rfl) (fun _ _ _ h => h) (Or.inr ⟨by kernel_rfl, rfl⟩) (by assumption) ?_
    (try simp only [zA, zB])
    refine wpAnyH_take (i := 10) (v := undef) rfl (by kernel_rfl) (by kernel_rfl) (by kernel_rfl) (fun _ _ _ h => h) (Or.inr ⟨by kernel_rfl, rfl⟩) (by assumption) ?_
    (try simp only [zA, zB])
    refine wpAnyH_take (i := 11) (v := undef) rfl (by kernel_rfl) (by kernel_rfl) (by kernel_rfl) (fun _ _ _ h => h) (Or.inr ⟨by kernel_rfl, rfl⟩) (by assumption) ?_
    (try simp only [zA, zB])
    refine wpAnyH_take (i := 12) (v := undef) rfl (by kernel_rfl) (by kernel_rfl) (by kernel_rfl) (fun _ _ _ h => h) (Or.inr ⟨by kernel_rfl, rfl⟩) (by assumption) ?_
    (try simp only [zA, zB])
    refine wpAnyH_take (i := 13) (v := undef) rfl (by kernel_rfl) (by kernel_rfl) (by kernel_rfl) (fun _ _ _ h => h) (Or.inr ⟨by kernel_rfl, rfl⟩) (by assumption) ?_
    (try simp only [zA, zB])
    refine wpAnyH_take (i := 14) (v := undef) rfl (by kernel_rfl) (by kernel_rfl) (by kernel_rfl) (fun _ _ _ h => h) (Or.inr ⟨by kernel_rfl, rfl⟩) (by assumption) ?_
    (try simp only [zA, zB])
    refine wpAnyH_take (i := 15) (v := undef) rfl (by kernel_rfl) (by kernel_rfl) (by kernel_rfl) (fun _ _ _ h => h) (Or.inr ⟨by kernel_rfl, rfl⟩) (by assumption) ?_
    (try simp only [zA, zB])
    refine wpAnyH_take (i := 16) (v := undef) rfl (by kernel_rfl) (by kernel_rfl) (by kernel_rfl) (fun _ _ _ h => h) (Or.inr ⟨by kernel_rfl, rfl⟩) (by assumption) ?_
    (try simp only [zA, zB])
    refine wpAnyH_take (i := 17) (v := ?_) rfl (by kernel_rfl) (by kernel_rfl) (by kernel_rfl) (fun _ _ _ h => h) (Or.inl ⟨by rfl, ?_⟩) (by assumption) ?_
    rotate_left
    · (intro W hSW; go_simp; try (with_reducible rfl))
    (try simp only [zB])
    (try simp only [zA])
    refine wpAnyH_done (by kernel_rfl) ?_ _
    generalize V.drew = V9 at hHeld ⊢
    replace r4 := (hHeld.block _ hz4).trans r4
    replace r5 := (hHeld.block _ hz5).trans r5
    replace r6 := (hHeld.block _ hz6).trans r6
    obtain ⟨hn, hm⟩ := KnowG.below ⟨hn, hm⟩ hHeld
    replace c0 := keeps_below hHeld _ _ c0
    replace c4 := keeps_below hHeld _ _ c4
    have HB9 : Hid (Below w.heap.size w V9) := HB.out.trans (Below.mono hHeld HB.out.size)
    clear hHeld
    go_wp2_with (first | (refine wpList_load_wantedF rfl 65 (.tmp 4) rfl _ rfl _ _ _ _ r4 Tryz.underlying65 rfl infoFact ?_) | (refine wpList_load_wantedF rfl 65 (.tmp 5) rfl _ rfl _ _ _ _ r5 Tryz.underlying65 rfl infoFact ?_) | (refine wpList_load_mid rfl 65 (.global 1) rfl 1 0 rfl _ _ hn Tryz.underlying65 rfl infoFact ?_) | (refine wpList_load_mid rfl 65 (.global 0) rfl 0 0 rfl _ _ hm Tryz.underlying65 rfl infoFact ?_) | (refine wpList_load_mid_wantedF rfl 65 (.global 0) rfl 0 0 rfl _ _ hm Tryz.underlying65 rfl infoFact ?_) | (refine wpList_store_row rfl _ _ _ rfl _ #[.int .i64 0, .int .i64 0] rfl rfl _ _ r6 infoFact rfl (by simp [Value.oneCell']) ?_))
    (try simp only [Exit.inBlock, Exit.then])
    exact bodyPost_ret (results_cell_row rfl _ _ (w.heap.size + 1 + 1 + 1) 65 #[.int .i64 0, .int .i64 0] (0, 0) _ rfl (setRow_heap _ _ _ _ _ _ r6) Tryz.underlying65 rfl infoFact) rfl ⟨by rw [HR.out]; rfl, belowSK HB9.out (by omega) _⟩
  have hd : decide (a = FV.never) = false := by simpa using hA
  rw [hd] at hea
  by_cases hB : b = .never
  · have hd2 : decide (b = FV.never) = true := by simpa using hB
    rw [hd2] at heb
    have HR : Hid (madeF x a b = .never) := by show _ = _; rw [HE.out, if_pos (Or.inr (Or.inl hB))]
    clear hA hd hB hd2
    refine wp_region_held_drew (S := fun W => Below V.heap.size V W) (by kernel_rfl) ((Below.refl _ _).drew) (fun hHeld => ?_)
    show wpAnyH _ _ _ _ _ 18 _ _ _
    refine wpAnyH_take (i := 0) (v := .agg [.int .i64 ak, .int .i64 an].toArray) rfl (by kernel_rfl) (by kernel_rfl) (by kernel_rfl) (fun _ _ _ h => h) (yieldsIf_load_mid (by rfl) 65 _ rfl (w.heap.size + 1) 0 rfl [.int .i64 ak, .int .i64 an] _ (fun W hSW j u hu => by rw [cell_of_row _ _ _ _ _ _ ((hSW.block _ hz4).trans r4)]; simpa using hu) Tryz.underlying65 rfl infoFact) (by assumption) ?_
    (try simp only [zB])
    (try simp only [zA])
    refine wpAnyH_take (i := 1) (v := .agg [.int .i64 0, .int .i64 0].toArray) rfl (by kernel_rfl) (by kernel_rfl) (by kernel_rfl) (fun _ _ _ h => h) (yieldsIf_load_mid (by rfl) 65 _ rfl (1) 0 rfl [.int .i64 0, .int .i64 0] _ (fun W hSW j u hu => keeps_below hSW _ _ (hn j u hu)) Tryz.underlying65 rfl infoFact) (by assumption) ?_
    (try simp only [zB])
    (try simp only [zA])
    refine wpAnyH_take (i := 2) (v := ?_) rfl (by kernel_rfl) (by kernel_rfl) (by kernel_rfl) (fun _ _ _ h => h) (Or.inl ⟨by rfl, ?_⟩) (by assumption) ?_
    rotate_left
    · (intro W hSW; go_simp; try (with_reducible rfl))
    (try simp only [zB])
    (try simp only [zA])
    refine wpAnyH_take (i := 3) (v := ?_) rfl (by kernel_rfl) (by kernel_rfl) (by kernel_rfl) (fun _ _ _ h => h) (Or.inl ⟨by rfl, ?_⟩) (by assumption) ?_
    rotate_left
    · (intro W hSW; go_simp; try (with_reducible rfl))
    (try simp only [zB])
    (try simp only [zA])
    refine wpAnyH_take (i := 4) (v := .agg [.int .i64 bk, .int .i64 bn].toArray) rfl (by kernel_rfl) (by kernel_rfl) (by kernel_rfl) (fun _ _ _ h => h) (yieldsIf_load_mid (by kernel_rfl) 65 _ rfl (w.heap.size + 1 + 1) 0 rfl [.int .i64 bk, .int .i64 bn] _ (fun W hSW j u hu => by rw [cell_of_row _ _ _ _ _ _ ((hSW.block _ hz5).trans r5)]; simpa using hu) Tryz.underlying65 rfl infoFact) (by assumption) ?_
    (try simp only [zB])
    (try simp only [zA])
    refine wpAnyH_take (i := 5) (v := .agg [.int .i64 0, .int .i64 0].toArray) rfl (by kernel_rfl) (by kernel_rfl) (by kernel_rfl) (fun _ _ _ h => h) (yieldsIf_load_mid (by kernel_rfl) 65 _ rfl (1) 0 rfl [.int .i64 0, .int .i64 0] _ (fun W hSW j u hu => keeps_below hSW _ _ (hn j u hu)) Tryz.underlying65 rfl infoFact) (by assumption) ?_
    (try simp only [zB])
    (try simp only [zA])
    refine wpAnyH_take (i := 6) (v := ?_) rfl (by kernel_rfl) (by kernel_rfl) (by kernel_rfl) (fun _ _ _ h => h) (Or.inl ⟨by kernel_rfl, ?_⟩) (by assumption) ?_
    rotate_left
    · (intro W hSW; go_simp; try (with_reducible rfl))
    (try simp only [zB])
    (try simp only [zA])
    refine wpAnyH_take (i := 7) (v := ?_) rfl (by kernel_rfl) (by kernel_rfl) (by kernel_rfl) (fun _ _ _ h => h) (Or.inl ⟨by rfl, ?_⟩) (by assumption) ?_
    rotate_left
    · (intro W hSW; go_simp; try (with_reducible rfl))
    (try simp only [zB])
    (try simp only [zA])
    refine wpAnyH_take (i := 8) (v := ?_) rfl (by kernel_rfl) (by kernel_rfl) (by kernel_rfl) (fun _ _ _ h => h) (Or.inl ⟨by rfl, ?_⟩) (by assumption) ?_
    rotate_left
    · (intro W hSW; go_simp; try (with_reducible rfl))
    (try simp only [zB])
    (try simp only [zA])
    refine wpAnyH_take (i := 9) (v := undef) rfl (by kernel_rfl) (by kernel_rfl) (by kernel_rfl) (fun _ _ _ h => h) (Or.inr ⟨by kernel_rfl, rfl⟩) (by assumption) ?_
    (try simp only [zA, zB])
    refine wpAnyH_take (i := 10) (v := undef) rfl (by kernel_rfl) (by kernel_rfl) (by kernel_rfl) (fun _ _ _ h => h) (Or.inr ⟨by kernel_rfl, rfl⟩) (by assumption) ?_
    (try simp only [zA, zB])
    refine wpAnyH_take (i := 11) (v := undef) rfl (by kernel_rfl) (by kernel_rfl) (by kernel_rfl) (fun _ _ _ h => h) (Or.inr ⟨by kernel_rfl, rfl⟩) (by assumption) ?_
    (try simp only [zA, zB])
    refine wpAnyH_take (i := 12) (v := undef) rfl (by kernel_rfl) (by kernel_rfl) (by kernel_rfl) (fun _ _ _ h => h) (Or.inr ⟨by kernel_rfl, rfl⟩) (by assumption) ?_
    (try simp only [zA, zB])
    refine wpAnyH_take (i := 13) (v := undef) rfl (by kernel_rfl) (by kernel_rfl) (by kernel_rfl) (fun _ _ _ h => h) (Or.inr ⟨by kernel_rfl, rfl⟩) (by assumption) ?_
    (try simp only [zA, zB])
    refine wpAnyH_take (i := 14) (v := undef) rfl (by kernel_rfl) (by kernel_rfl) (by kernel_rfl) (fun _ _ _ h => h) (Or.inr ⟨by kernel_rfl, rfl⟩) (by assumption) ?_
    (try simp only [zA, zB])
    refine wpAnyH_take (i := 15) (v := undef) rfl (by kernel_rfl) (by kernel_rfl) (by kernel_rfl) (fun _ _ _ h => h) (Or.inr ⟨by kernel_rfl, rfl⟩) (by assumption) ?_
    (try simp only [zA, zB])
    refine wpAnyH_take (i := 16) (v := undef) rfl (by kernel_rfl) (by kernel_rfl) (by kernel_rfl) (fun _ _ _ h => h) (Or.inr ⟨by kernel_rfl, rfl⟩) (by assumption) ?_
    (try simp only [zA, zB])
    refine wpAnyH_take (i := 17) (v := ?_) rfl (by kernel_rfl) (by kernel_rfl) (by kernel_rfl) (fun _ _ _ h => h) (Or.inl ⟨by rfl, ?_⟩) (by assumption) ?_
    rotate_left
    · (intro W hSW; go_simp; try (with_reducible rfl))
    (try simp only [zB])
    (try simp only [zA])
    refine wpAnyH_done (by kernel_rfl) ?_ _
    generalize V.drew = V9 at hHeld ⊢
    replace r4 := (hHeld.block _ hz4).trans r4
    replace r5 := (hHeld.block _ hz5).trans r5
    replace r6 := (hHeld.block _ hz6).trans r6
    obtain ⟨hn, hm⟩ := KnowG.below ⟨hn, hm⟩ hHeld
    replace c0 := keeps_below hHeld _ _ c0
    replace c4 := keeps_below hHeld _ _ c4
    have HB9 : Hid (Below w.heap.size w V9) := HB.out.trans (Below.mono hHeld HB.out.size)
    clear hHeld
    go_wp2_with (first | (refine wpList_load_wantedF rfl 65 (.tmp 4) rfl _ rfl _ _ _ _ r4 Tryz.underlying65 rfl infoFact ?_) | (refine wpList_load_wantedF rfl 65 (.tmp 5) rfl _ rfl _ _ _ _ r5 Tryz.underlying65 rfl infoFact ?_) | (refine wpList_load_mid rfl 65 (.global 1) rfl 1 0 rfl _ _ hn Tryz.underlying65 rfl infoFact ?_) | (refine wpList_load_mid rfl 65 (.global 0) rfl 0 0 rfl _ _ hm Tryz.underlying65 rfl infoFact ?_) | (refine wpList_load_mid_wantedF rfl 65 (.global 0) rfl 0 0 rfl _ _ hm Tryz.underlying65 rfl infoFact ?_) | (refine wpList_store_row rfl _ _ _ rfl _ #[.int .i64 0, .int .i64 0] rfl rfl _ _ r6 infoFact rfl (by simp [Value.oneCell']) ?_))
    (try simp only [Exit.inBlock, Exit.then])
    exact bodyPost_ret (results_cell_row rfl _ _ (w.heap.size + 1 + 1 + 1) 65 #[.int .i64 0, .int .i64 0] (0, 0) _ rfl (setRow_heap _ _ _ _ _ _ r6) Tryz.underlying65 rfl infoFact) rfl ⟨by rw [HR.out]; rfl, belowSK HB9.out (by omega) _⟩
  have hd2 : decide (b = FV.never) = false := by simpa using hB
  rw [hd2] at heb
  by_cases h5 : x.op = 5
  · have ho5 : (xo == 5) = true := by rw [HXO.out]; simpa using h5
    by_cases hK : b = .known 0
    · have hd3 : decide (b = FV.known 0) = true := by simpa using hK
      rw [hd3] at hek
      have HR : Hid (madeF x a b = .never) := by show _ = _; rw [HE.out, if_pos (Or.inr (Or.inr ⟨h5, hK⟩))]
      clear hA hd hB hd2 h5 hK hd3
      refine wp_region_held_drew (S := fun W => Below V.heap.size V W) (by kernel_rfl) ((Below.refl _ _).drew) (fun hHeld => ?_)
      show wpAnyH _ _ _ _ _ 18 _ _ _
      refine wpAnyH_take (i := 0) (v := .agg [.int .i64 ak, .int .i64 an].toArray) rfl (by kernel_rfl) (by kernel_rfl) (by kernel_rfl) (fun _ _ _ h => h) (yieldsIf_load_mid (by rfl) 65 _ rfl (w.heap.size + 1) 0 rfl [.int .i64 ak, .int .i64 an] _ (fun W hSW j u hu => by rw [cell_of_row _ _ _ _ _ _ ((hSW.block _ hz4).trans r4)]; simpa using hu) Tryz.underlying65 rfl infoFact) (by assumption) ?_
      (try simp only [zB])
      (try simp only [zA])
      refine wpAnyH_take (i := 1) (v := .agg [.int .i64 0, .int .i64 0].toArray) rfl (by kernel_rfl) (by kernel_rfl) (by kernel_rfl) (fun _ _ _ h => h) (yieldsIf_load_mid (by rfl) 65 _ rfl (1) 0 rfl [.int .i64 0, .int .i64 0] _ (fun W hSW j u hu => keeps_below hSW _ _ (hn j u hu)) Tryz.underlying65 rfl infoFact) (by assumption) ?_
      (try simp only [zB])
      (try simp only [zA])
      refine wpAnyH_take (i := 2) (v := ?_) rfl (by kernel_rfl) (by kernel_rfl) (by kernel_rfl) (fun _ _ _ h => h) (Or.inl ⟨by rfl, ?_⟩) (by assumption) ?_
      rotate_left
      · (intro W hSW; go_simp; try (with_reducible rfl))
      (try simp only [zB])
      (try simp only [zA])
      refine wpAnyH_take (i := 3) (v := ?_) rfl (by kernel_rfl) (by kernel_rfl) (by kernel_rfl) (fun _ _ _ h => h) (Or.inl ⟨by rfl, ?_⟩) (by assumption) ?_
      rotate_left
      · (intro W hSW; go_simp; try (with_reducible rfl))
      (try simp only [zB])
      (try simp only [zA])
      refine wpAnyH_take (i := 4) (v := .agg [.int .i64 bk, .int .i64 bn].toArray) rfl (by kernel_rfl) (by kernel_rfl) (by kernel_rfl) (fun _ _ _ h => h) (yieldsIf_load_mid (by kernel_rfl) 65 _ rfl (w.heap.size + 1 + 1) 0 rfl [.int .i64 bk, .int .i64 bn] _ (fun W hSW j u hu => by rw [cell_of_row _ _ _ _ _ _ ((hSW.block _ hz5).trans r5)]; simpa using hu) Tryz.underlying65 rfl infoFact) (by assumption) ?_
      (try simp only [zB])
      (try simp only [zA])
      refine wpAnyH_take (i := 5) (v := .agg [.int .i64 0, .int .i64 0].toArray) rfl (by kernel_rfl) (by kernel_rfl) (by kernel_rfl) (fun _ _ _ h => h) (yieldsIf_load_mid (by kernel_rfl) 65 _ rfl (1) 0 rfl [.int .i64 0, .int .i64 0] _ (fun W hSW j u hu => keeps_below hSW _ _ (hn j u hu)) Tryz.underlying65 rfl infoFact) (by assumption) ?_
      (try simp only [zB])
      (try simp only [zA])
      refine wpAnyH_take (i := 6) (v := ?_) rfl (by kernel_rfl) (by kernel_rfl) (by kernel_rfl) (fun _ _ _ h => h) (Or.inl ⟨by kernel_rfl, ?_⟩) (by assumption) ?_
      rotate_left
      · (intro W hSW; go_simp; try (with_reducible rfl))
      (try simp only [zB])
      (try simp only [zA])
      refine wpAnyH_take (i := 7) (v := ?_) rfl (by kernel_rfl) (by kernel_rfl) (by kernel_rfl) (fun _ _ _ h => h) (Or.inl ⟨by rfl, ?_⟩) (by assumption) ?_
      rotate_left
      · (intro W hSW; go_simp; try (with_reducible rfl))
      (try simp only [zB])
      (try simp only [zA])
      refine wpAnyH_take (i := 8) (v := ?_) rfl (by kernel_rfl) (by kernel_rfl) (by kernel_rfl) (fun _ _ _ h => h) (Or.inl ⟨by rfl, ?_⟩) (by assumption) ?_
      rotate_left
      · (intro W hSW; go_simp; try (with_reducible rfl))
      (try simp only [zB])
      (try simp only [zA])
      refine wpAnyH_take (i := 9) (v := ?_) rfl (by kernel_rfl) (by kernel_rfl) (by kernel_rfl) (fun _ _ _ h => h) (Or.inl ⟨by kernel_rfl, ?_⟩) (by assumption) ?_
      rotate_left
      · (intro W hSW; go_simp; try (with_reducible rfl))
      (try simp only [zB])
      (try simp only [zA])
      refine wpAnyH_take (i := 10) (v := ?_) rfl (by kernel_rfl) (by kernel_rfl) (by kernel_rfl) (fun _ _ _ h => h) (Or.inl ⟨by kernel_rfl, ?_⟩) (by assumption) ?_
      rotate_left
      · (intro W hSW; have z0 := keeps_below hSW _ _ c0; go_simp; try (with_reducible rfl))
      (try simp only [zB])
      (try simp only [zA])
      refine wpAnyH_take (i := 11) (v := ?_) rfl (by kernel_rfl) (by kernel_rfl) (by kernel_rfl) (fun _ _ _ h => h) (Or.inl ⟨by kernel_rfl, ?_⟩) (by assumption) ?_
      rotate_left
      · (intro W hSW; go_simp; try (with_reducible rfl))
      (try simp only [zB])
      (try simp only [zA])
      refine wpAnyH_take (i := 12) (v := ?_) rfl (by kernel_rfl) (by kernel_rfl) (by kernel_rfl) (fun _ _ _ h => h) (Or.inl ⟨by kernel_rfl, ?_⟩) (by assumption) ?_
      rotate_left
      · (intro W hSW; go_simp; try (with_reducible rfl))
      (try simp only [zB])
      (try simp only [zA])
      refine wpAnyH_take (i := 13) (v := .agg [.int .i64 bk, .int .i64 bn].toArray) rfl (by kernel_rfl) (by kernel_rfl) (by kernel_rfl) (fun _ _ _ h => h) (yieldsIf_load_mid (by kernel_rfl) 65 _ rfl (w.heap.size + 1 + 1) 0 rfl [.int .i64 bk, .int .i64 bn] _ (fun W hSW j u hu => by rw [cell_of_row _ _ _ _ _ _ ((hSW.block _ hz5).trans r5)]; simpa using hu) Tryz.underlying65 rfl infoFact) (by assumption) ?_
      (try simp only [zB])
      (try simp only [zA])
      refine wpAnyH_ready (rs := [14]) (by kernel_rfl) (by simp) ?_
      refine AllReadyH.cons rfl (fun K hK => ?_) AllReadyH.nil
      go_simp
      go_at_call 111
      refine (known_any 0 _).mono ?_
      rintro e V9 ⟨rfl, hbc⟩
      have HBV9 : Below V.heap.size V V9 := Below.trans hHeld (Below.mono hbc (Below.size hHeld))
      dsimp only
      refine hK.out _ _ HBV9 (fun _ => ?_)
      clear hK K hbc hHeld
      have hHeld := HBV9
      (try simp only [zA])
      refine wpAnyH_take (i := 15) (v := ?_) rfl (by kernel_rfl) (by kernel_rfl) (by kernel_rfl) (fun _ _ _ h => h) (Or.inl ⟨by kernel_rfl, ?_⟩) (by assumption) ?_
      rotate_left
      · (intro W hSW; go_simp; try (with_reducible rfl))
      (try simp only [zB])
      (try simp only [zA])
      refine wpAnyH_take (i := 16) (v := ?_) rfl (by kernel_rfl) (by kernel_rfl) (by kernel_rfl) (fun _ _ _ h => h) (Or.inl ⟨by kernel_rfl, ?_⟩) (by assumption) ?_
      rotate_left
      · (intro W hSW; go_simp; try (with_reducible rfl))
      (try simp only [zB])
      (try simp only [zA])
      refine wpAnyH_take (i := 17) (v := ?_) rfl (by kernel_rfl) (by kernel_rfl) (by kernel_rfl) (fun _ _ _ h => h) (Or.inl ⟨by rfl, ?_⟩) (by assumption) ?_
      rotate_left
      · (intro W hSW; go_simp; try (with_reducible rfl))
      (try simp only [zB])
      (try simp only [zA])
      refine wpAnyH_done (by kernel_rfl) ?_ _
      replace r4 := (hHeld.block _ hz4).trans r4
      replace r5 := (hHeld.block _ hz5).trans r5
      replace r6 := (hHeld.block _ hz6).trans r6
      obtain ⟨hn, hm⟩ := KnowG.below ⟨hn, hm⟩ hHeld
      replace c0 := keeps_below hHeld _ _ c0
      replace c4 := keeps_below hHeld _ _ c4
      have HB9 : Hid (Below w.heap.size w V9) := HB.out.trans (Below.mono hHeld HB.out.size)
      clear hHeld
      go_wp2_with (first | (refine wpList_load_wantedF rfl 65 (.tmp 4) rfl _ rfl _ _ _ _ r4 Tryz.underlying65 rfl infoFact ?_) | (refine wpList_load_wantedF rfl 65 (.tmp 5) rfl _ rfl _ _ _ _ r5 Tryz.underlying65 rfl infoFact ?_) | (refine wpList_load_mid rfl 65 (.global 1) rfl 1 0 rfl _ _ hn Tryz.underlying65 rfl infoFact ?_) | (refine wpList_load_mid rfl 65 (.global 0) rfl 0 0 rfl _ _ hm Tryz.underlying65 rfl infoFact ?_) | (refine wpList_load_mid_wantedF rfl 65 (.global 0) rfl 0 0 rfl _ _ hm Tryz.underlying65 rfl infoFact ?_) | (refine wpList_store_row rfl _ _ _ rfl _ #[.int .i64 0, .int .i64 0] rfl rfl _ _ r6 infoFact rfl (by simp [Value.oneCell']) ?_))
      (try simp only [Exit.inBlock, Exit.then])
      exact bodyPost_ret (results_cell_row rfl _ _ (w.heap.size + 1 + 1 + 1) 65 #[.int .i64 0, .int .i64 0] (0, 0) _ rfl (setRow_heap _ _ _ _ _ _ r6) Tryz.underlying65 rfl infoFact) rfl ⟨by rw [HR.out]; rfl, belowSK HB9.out (by omega) _⟩
    · have hd3 : decide (b = FV.known 0) = false := by simpa using hK
      rw [hd3] at hek
      have HNN : Hid (¬ (a = .never ∨ b = .never ∨ (x.op = 5 ∧ b = .known 0))) := fun h => h.elim hA (fun h => h.elim hB (fun h => hK h.2))
      clear hA hd hB hd2 h5 hK hd3
      refine wp_region_held_drew (S := fun W => Below V.heap.size V W) (by kernel_rfl) ((Below.refl _ _).drew) (fun hHeld => ?_)
      show wpAnyH _ _ _ _ _ 18 _ _ _
      refine wpAnyH_take (i := 0) (v := .agg [.int .i64 ak, .int .i64 an].toArray) rfl (by kernel_rfl) (by kernel_rfl) (by kernel_rfl) (fun _ _ _ h => h) (yieldsIf_load_mid (by rfl) 65 _ rfl (w.heap.size + 1) 0 rfl [.int .i64 ak, .int .i64 an] _ (fun W hSW j u hu => by rw [cell_of_row _ _ _ _ _ _ ((hSW.block _ hz4).trans r4)]; simpa using hu) Tryz.underlying65 rfl infoFact) (by assumption) ?_
      (try simp only [zB])
      (try simp only [zA])
      refine wpAnyH_take (i := 1) (v := .agg [.int .i64 0, .int .i64 0].toArray) rfl (by kernel_rfl) (by kernel_rfl) (by kernel_rfl) (fun _ _ _ h => h) (yieldsIf_load_mid (by rfl) 65 _ rfl (1) 0 rfl [.int .i64 0, .int .i64 0] _ (fun W hSW j u hu => keeps_below hSW _ _ (hn j u hu)) Tryz.underlying65 rfl infoFact) (by assumption) ?_
      (try simp only [zB])
      (try simp only [zA])
      refine wpAnyH_take (i := 2) (v := ?_) rfl (by kernel_rfl) (by kernel_rfl) (by kernel_rfl) (fun _ _ _ h => h) (Or.inl ⟨by rfl, ?_⟩) (by assumption) ?_
      rotate_left
      · (intro W hSW; go_simp; try (with_reducible rfl))
      (try simp only [zB])
      (try simp only [zA])
      refine wpAnyH_take (i := 3) (v := ?_) rfl (by kernel_rfl) (by kernel_rfl) (by kernel_rfl) (fun _ _ _ h => h) (Or.inl ⟨by rfl, ?_⟩) (by assumption) ?_
      rotate_left
      · (intro W hSW; go_simp; try (with_reducible rfl))
      (try simp only [zB])
      (try simp only [zA])
      refine wpAnyH_take (i := 4) (v := .agg [.int .i64 bk, .int .i64 bn].toArray) rfl (by kernel_rfl) (by kernel_rfl) (by kernel_rfl) (fun _ _ _ h => h) (yieldsIf_load_mid (by kernel_rfl) 65 _ rfl (w.heap.size + 1 + 1) 0 rfl [.int .i64 bk, .int .i64 bn] _ (fun W hSW j u hu => by rw [cell_of_row _ _ _ _ _ _ ((hSW.block _ hz5).trans r5)]; simpa using hu) Tryz.underlying65 rfl infoFact) (by assumption) ?_
      (try simp only [zB])
      (try simp only [zA])
      refine wpAnyH_take (i := 5) (v := .agg [.int .i64 0, .int .i64 0].toArray) rfl (by kernel_rfl) (by kernel_rfl) (by kernel_rfl) (fun _ _ _ h => h) (yieldsIf_load_mid (by kernel_rfl) 65 _ rfl (1) 0 rfl [.int .i64 0, .int .i64 0] _ (fun W hSW j u hu => keeps_below hSW _ _ (hn j u hu)) Tryz.underlying65 rfl infoFact) (by assumption) ?_
      (try simp only [zB])
      (try simp only [zA])
      refine wpAnyH_take (i := 6) (v := ?_) rfl (by kernel_rfl) (by kernel_rfl) (by kernel_rfl) (fun _ _ _ h => h) (Or.inl ⟨by kernel_rfl, ?_⟩) (by assumption) ?_
      rotate_left
      · (intro W hSW; go_simp; try (with_reducible rfl))
      (try simp only [zB])
      (try simp only [zA])
      refine wpAnyH_take (i := 7) (v := ?_) rfl (by kernel_rfl) (by kernel_rfl) (by kernel_rfl) (fun _ _ _ h => h) (Or.inl ⟨by rfl, ?_⟩) (by assumption) ?_
      rotate_left
      · (intro W hSW; go_simp; try (with_reducible rfl))
      (try simp only [zB])
      (try simp only [zA])
      refine wpAnyH_take (i := 8) (v := ?_) rfl (by kernel_rfl) (by kernel_rfl) (by kernel_rfl) (fun _ _ _ h => h) (Or.inl ⟨by rfl, ?_⟩) (by assumption) ?_
      rotate_left
      · (intro W hSW; go_simp; try (with_reducible rfl))
      (try simp only [zB])
      (try simp only [zA])
      refine wpAnyH_take (i := 9) (v := ?_) rfl (by kernel_rfl) (by kernel_rfl) (by kernel_rfl) (fun _ _ _ h => h) (Or.inl ⟨by kernel_rfl, ?_⟩) (by assumption) ?_
      rotate_left
      · (intro W hSW; go_simp; try (with_reducible rfl))
      (try simp only [zB])
      (try simp only [zA])
      refine wpAnyH_take (i := 10) (v := ?_) rfl (by kernel_rfl) (by kernel_rfl) (by kernel_rfl) (fun _ _ _ h => h) (Or.inl ⟨by kernel_rfl, ?_⟩) (by assumption) ?_
      rotate_left
      · (intro W hSW; have z0 := keeps_below hSW _ _ c0; go_simp; try (with_reducible rfl))
      (try simp only [zB])
      (try simp only [zA])
      refine wpAnyH_take (i := 11) (v := ?_) rfl (by kernel_rfl) (by kernel_rfl) (by kernel_rfl) (fun _ _ _ h => h) (Or.inl ⟨by kernel_rfl, ?_⟩) (by assumption) ?_
      rotate_left
      · (intro W hSW; go_simp; try (with_reducible rfl))
      (try simp only [zB])
      (try simp only [zA])
      refine wpAnyH_take (i := 12) (v := ?_) rfl (by kernel_rfl) (by kernel_rfl) (by kernel_rfl) (fun _ _ _ h => h) (Or.inl ⟨by kernel_rfl, ?_⟩) (by assumption) ?_
      rotate_left
      · (intro W hSW; go_simp; try (with_reducible rfl))
      (try simp only [zB])
      (try simp only [zA])
      refine wpAnyH_take (i := 13) (v := .agg [.int .i64 bk, .int .i64 bn].toArray) rfl (by kernel_rfl) (by kernel_rfl) (by kernel_rfl) (fun _ _ _ h => h) (yieldsIf_load_mid (by kernel_rfl) 65 _ rfl (w.heap.size + 1 + 1) 0 rfl [.int .i64 bk, .int .i64 bn] _ (fun W hSW j u hu => by rw [cell_of_row _ _ _ _ _ _ ((hSW.block _ hz5).trans r5)]; simpa using hu) Tryz.underlying65 rfl infoFact) (by assumption) ?_
      (try simp only [zB])
      (try simp only [zA])
      refine wpAnyH_ready (rs := [14]) (by kernel_rfl) (by simp) ?_
      refine AllReadyH.cons rfl (fun K hK => ?_) AllReadyH.nil
      go_simp
      go_at_call 111
      refine (known_any 0 _).mono ?_
      rintro e V9 ⟨rfl, hbc⟩
      have HBV9 : Below V.heap.size V V9 := Below.trans hHeld (Below.mono hbc (Below.size hHeld))
      dsimp only
      refine hK.out _ _ HBV9 (fun _ => ?_)
      clear hK K hbc hHeld
      have hHeld := HBV9
      (try simp only [zA])
      refine wpAnyH_take (i := 15) (v := ?_) rfl (by kernel_rfl) (by kernel_rfl) (by kernel_rfl) (fun _ _ _ h => h) (Or.inl ⟨by kernel_rfl, ?_⟩) (by assumption) ?_
      rotate_left
      · (intro W hSW; go_simp; try (with_reducible rfl))
      (try simp only [zB])
      (try simp only [zA])
      refine wpAnyH_take (i := 16) (v := ?_) rfl (by kernel_rfl) (by kernel_rfl) (by kernel_rfl) (fun _ _ _ h => h) (Or.inl ⟨by kernel_rfl, ?_⟩) (by assumption) ?_
      rotate_left
      · (intro W hSW; go_simp; try (with_reducible rfl))
      (try simp only [zB])
      (try simp only [zA])
      refine wpAnyH_take (i := 17) (v := ?_) rfl (by kernel_rfl) (by kernel_rfl) (by kernel_rfl) (fun _ _ _ h => h) (Or.inl ⟨by rfl, ?_⟩) (by assumption) ?_
      rotate_left
      · (intro W hSW; go_simp; try (with_reducible rfl))
      (try simp only [zB])
      (try simp only [zA])
      refine wpAnyH_done (by kernel_rfl) ?_ _
      replace r4 := (hHeld.block _ hz4).trans r4
      replace r5 := (hHeld.block _ hz5).trans r5
      replace r6 := (hHeld.block _ hz6).trans r6
      obtain ⟨hn, hm⟩ := KnowG.below ⟨hn, hm⟩ hHeld
      replace c0 := keeps_below hHeld _ _ c0
      replace c4 := keeps_below hHeld _ _ c4
      have HB9 : Hid (Below w.heap.size w V9) := HB.out.trans (Below.mono hHeld HB.out.size)
      clear hHeld
      by_cases h12 : 12 < x.op
      · have hop : decide (12 < xo) = true := by rw [HXO.out]; simpa using h12
        have HR : Hid (madeF x a b = .many) := by show _ = _; rw [HE.out, if_neg HNN.out, if_pos (Or.inl h12)]
        clear h12
        go_wp2_with (first | (refine wpList_load_wantedF rfl 65 (.tmp 4) rfl _ rfl _ _ _ _ r4 Tryz.underlying65 rfl infoFact ?_) | (refine wpList_load_wantedF rfl 65 (.tmp 5) rfl _ rfl _ _ _ _ r5 Tryz.underlying65 rfl infoFact ?_) | (refine wpList_load_mid rfl 65 (.global 1) rfl 1 0 rfl _ _ hn Tryz.underlying65 rfl infoFact ?_) | (refine wpList_load_mid rfl 65 (.global 0) rfl 0 0 rfl _ _ hm Tryz.underlying65 rfl infoFact ?_) | (refine wpList_load_mid_wantedF rfl 65 (.global 0) rfl 0 0 rfl _ _ hm Tryz.underlying65 rfl infoFact ?_) | (refine wpList_store_row rfl _ _ _ rfl _ #[.int .i64 2, .int .i64 0] rfl rfl _ _ r6 infoFact rfl (by simp [Value.oneCell']) ?_))
        (try simp only [Exit.inBlock, Exit.then])
        exact bodyPost_ret (results_cell_row rfl _ _ (w.heap.size + 1 + 1 + 1) 65 #[.int .i64 2, .int .i64 0] (0, 0) _ rfl (setRow_heap _ _ _ _ _ _ r6) Tryz.underlying65 rfl infoFact) rfl ⟨by rw [HR.out]; rfl, belowSK HB9.out (by omega) _⟩
      have hop : decide (12 < xo) = false := by rw [HXO.out]; simpa using h12
      by_cases hAM : a = .many
      · have hd4 : decide (a = FV.many) = true := by simpa using hAM
        rw [hd4] at heam
        have HR : Hid (madeF x a b = .many) := by show _ = _; rw [HE.out, if_neg HNN.out, if_pos (Or.inr (Or.inl hAM))]
        clear h12 hAM hd4
        go_wp2_with (first | (refine wpList_load_wantedF rfl 65 (.tmp 4) rfl _ rfl _ _ _ _ r4 Tryz.underlying65 rfl infoFact ?_) | (refine wpList_load_wantedF rfl 65 (.tmp 5) rfl _ rfl _ _ _ _ r5 Tryz.underlying65 rfl infoFact ?_) | (refine wpList_load_mid rfl 65 (.global 1) rfl 1 0 rfl _ _ hn Tryz.underlying65 rfl infoFact ?_) | (refine wpList_load_mid rfl 65 (.global 0) rfl 0 0 rfl _ _ hm Tryz.underlying65 rfl infoFact ?_) | (refine wpList_load_mid_wantedF rfl 65 (.global 0) rfl 0 0 rfl _ _ hm Tryz.underlying65 rfl infoFact ?_) | (refine wpList_store_row rfl _ _ _ rfl _ #[.int .i64 2, .int .i64 0] rfl rfl _ _ r6 infoFact rfl (by simp [Value.oneCell']) ?_))
        (try simp only [Exit.inBlock, Exit.then])
        exact bodyPost_ret (results_cell_row rfl _ _ (w.heap.size + 1 + 1 + 1) 65 #[.int .i64 2, .int .i64 0] (0, 0) _ rfl (setRow_heap _ _ _ _ _ _ r6) Tryz.underlying65 rfl infoFact) rfl ⟨by rw [HR.out]; rfl, belowSK HB9.out (by omega) _⟩
      have hd4 : decide (a = FV.many) = false := by simpa using hAM
      rw [hd4] at heam
      by_cases hBM : b = .many
      · have hd5 : decide (b = FV.many) = true := by simpa using hBM
        rw [hd5] at hebm
        have HR : Hid (madeF x a b = .many) := by show _ = _; rw [HE.out, if_neg HNN.out, if_pos (Or.inr (Or.inr hBM))]
        clear h12 hAM hBM hd4 hd5
        go_wp2_with (first | (refine wpList_load_wantedF rfl 65 (.tmp 4) rfl _ rfl _ _ _ _ r4 Tryz.underlying65 rfl infoFact ?_) | (refine wpList_load_wantedF rfl 65 (.tmp 5) rfl _ rfl _ _ _ _ r5 Tryz.underlying65 rfl infoFact ?_) | (refine wpList_load_mid rfl 65 (.global 1) rfl 1 0 rfl _ _ hn Tryz.underlying65 rfl infoFact ?_) | (refine wpList_load_mid rfl 65 (.global 0) rfl 0 0 rfl _ _ hm Tryz.underlying65 rfl infoFact ?_) | (refine wpList_load_mid_wantedF rfl 65 (.global 0) rfl 0 0 rfl _ _ hm Tryz.underlying65 rfl infoFact ?_) | (refine wpList_store_row rfl _ _ _ rfl _ #[.int .i64 2, .int .i64 0] rfl rfl _ _ r6 infoFact rfl (by simp [Value.oneCell']) ?_))
        (try simp only [Exit.inBlock, Exit.then])
        exact bodyPost_ret (results_cell_row rfl _ _ (w.heap.size + 1 + 1 + 1) 65 #[.int .i64 2, .int .i64 0] (0, 0) _ rfl (setRow_heap _ _ _ _ _ _ r6) Tryz.underlying65 rfl infoFact) rfl ⟨by rw [HR.out]; rfl, belowSK HB9.out (by omega) _⟩
      have hd5 : decide (b = FV.many) = false := by simpa using hBM
      rw [hd5] at hebm
      have HR : Hid (madeF x a b = .known (mk x.op a.num b.num x.imm)) := by show _ = _; rw [HE.out, if_neg HNN.out, if_neg (fun h => h.elim h12 (fun h => h.elim hAM hBM))]
      clear h12 hAM hBM hd4 hd5
      have a1 : V9.cell? ⟨w.heap.size + 1, 1, none⟩ = some (.int .i64 an) := by rw [cell_of_row _ _ _ _ _ _ r4]; rfl
      have b1 : V9.cell? ⟨w.heap.size + 1 + 1, 1, none⟩ = some (.int .i64 bn) := by rw [cell_of_row _ _ _ _ _ _ r5]; rfl
      obtain ⟨mv, hmv⟩ : ∃ mv, mv = mk xo an bn xm := ⟨_, rfl⟩
      have hmk := fun W => make_any xo an bn xm W
      rw [← hmv] at hmk
      have HMV : Hid (mv = mk x.op a.num b.num x.imm) := by show _ = _; rw [hmv, HXO.out, HXM.out, HL.out.2.1, HL.out.2.2.2]
      clear hmv
      go_wp2_with (first | (refine wpList_load_wantedF rfl 65 (.tmp 4) rfl _ rfl _ _ _ _ r4 Tryz.underlying65 rfl infoFact ?_) | (refine wpList_load_wantedF rfl 65 (.tmp 5) rfl _ rfl _ _ _ _ r5 Tryz.underlying65 rfl infoFact ?_) | (refine wpList_load_mid rfl 65 (.global 1) rfl 1 0 rfl _ _ hn Tryz.underlying65 rfl infoFact ?_) | (refine wpList_load_mid rfl 65 (.global 0) rfl 0 0 rfl _ _ hm Tryz.underlying65 rfl infoFact ?_) | (refine wpList_load_mid_wantedF rfl 65 (.global 0) rfl 0 0 rfl _ _ hm Tryz.underlying65 rfl infoFact ?_) | (go_at_call 112; refine (hmk _).mono ?_; rintro e w2 ⟨rfl, hw2⟩; replace hw2 := hw2.symm; subst hw2) | (go_at_call 111; refine (known_any mv _).mono ?_; rintro e w3 ⟨rfl, hb3⟩; have r6 := (hb3.block _ (lt_of_block r6)).trans r6; have HB3 : Hid (Below w.heap.size w w3) := HB9.out.trans (hb3.mono HB9.out.size)) | (refine wpList_store_row rfl _ _ _ rfl _ #[.int .i64 1, .int .i64 mv] rfl rfl _ _ r6 infoFact rfl (by simp [Value.oneCell']) ?_))
      (try simp only [Exit.inBlock, Exit.then])
      exact bodyPost_ret (results_cell_row rfl _ _ (w.heap.size + 1 + 1 + 1) 65 #[.int .i64 1, .int .i64 mv] (0, 0) _ rfl (setRow_heap _ _ _ _ _ _ r6) Tryz.underlying65 rfl infoFact) rfl ⟨by rw [HR.out, HMV.out]; rfl, belowSK HB3.out (by omega) _⟩
  · have ho5 : (xo == 5) = false := by rw [HXO.out]; simpa using h5
    have HNN : Hid (¬ (a = .never ∨ b = .never ∨ (x.op = 5 ∧ b = .known 0))) := fun h => h.elim hA (fun h => h.elim hB (fun h => h5 h.1))
    clear hA hd hB hd2 h5
    refine wp_region_held_drew (S := fun W => Below V.heap.size V W) (by kernel_rfl) ((Below.refl _ _).drew) (fun hHeld => ?_)
    show wpAnyH _ _ _ _ _ 18 _ _ _
    refine wpAnyH_take (i := 0) (v := .agg [.int .i64 ak, .int .i64 an].toArray) rfl (by kernel_rfl) (by kernel_rfl) (by kernel_rfl) (fun _ _ _ h => h) (yieldsIf_load_mid (by rfl) 65 _ rfl (w.heap.size + 1) 0 rfl [.int .i64 ak, .int .i64 an] _ (fun W hSW j u hu => by rw [cell_of_row _ _ _ _ _ _ ((hSW.block _ hz4).trans r4)]; simpa using hu) Tryz.underlying65 rfl infoFact) (by assumption) ?_
    (try simp only [zB])
    (try simp only [zA])
    refine wpAnyH_take (i := 1) (v := .agg [.int .i64 0, .int .i64 0].toArray) rfl (by kernel_rfl) (by kernel_rfl) (by kernel_rfl) (fun _ _ _ h => h) (yieldsIf_load_mid (by rfl) 65 _ rfl (1) 0 rfl [.int .i64 0, .int .i64 0] _ (fun W hSW j u hu => keeps_below hSW _ _ (hn j u hu)) Tryz.underlying65 rfl infoFact) (by assumption) ?_
    (try simp only [zB])
    (try simp only [zA])
    refine wpAnyH_take (i := 2) (v := ?_) rfl (by kernel_rfl) (by kernel_rfl) (by kernel_rfl) (fun _ _ _ h => h) (Or.inl ⟨by rfl, ?_⟩) (by assumption) ?_
    rotate_left
    · (intro W hSW; go_simp; try (with_reducible rfl))
    (try simp only [zB])
    (try simp only [zA])
    refine wpAnyH_take (i := 3) (v := ?_) rfl (by kernel_rfl) (by kernel_rfl) (by kernel_rfl) (fun _ _ _ h => h) (Or.inl ⟨by rfl, ?_⟩) (by assumption) ?_
    rotate_left
    · (intro W hSW; go_simp; try (with_reducible rfl))
    (try simp only [zB])
    (try simp only [zA])
    refine wpAnyH_take (i := 4) (v := .agg [.int .i64 bk, .int .i64 bn].toArray) rfl (by kernel_rfl) (by kernel_rfl) (by kernel_rfl) (fun _ _ _ h => h) (yieldsIf_load_mid (by kernel_rfl) 65 _ rfl (w.heap.size + 1 + 1) 0 rfl [.int .i64 bk, .int .i64 bn] _ (fun W hSW j u hu => by rw [cell_of_row _ _ _ _ _ _ ((hSW.block _ hz5).trans r5)]; simpa using hu) Tryz.underlying65 rfl infoFact) (by assumption) ?_
    (try simp only [zB])
    (try simp only [zA])
    refine wpAnyH_take (i := 5) (v := .agg [.int .i64 0, .int .i64 0].toArray) rfl (by kernel_rfl) (by kernel_rfl) (by kernel_rfl) (fun _ _ _ h => h) (yieldsIf_load_mid (by kernel_rfl) 65 _ rfl (1) 0 rfl [.int .i64 0, .int .i64 0] _ (fun W hSW j u hu => keeps_below hSW _ _ (hn j u hu)) Tryz.underlying65 rfl infoFact) (by assumption) ?_
    (try simp only [zB])
    (try simp only [zA])
    refine wpAnyH_take (i := 6) (v := ?_) rfl (by kernel_rfl) (by kernel_rfl) (by kernel_rfl) (fun _ _ _ h => h) (Or.inl ⟨by kernel_rfl, ?_⟩) (by assumption) ?_
    rotate_left
    · (intro W hSW; go_simp; try (with_reducible rfl))
    (try simp only [zB])
    (try simp only [zA])
    refine wpAnyH_take (i := 7) (v := ?_) rfl (by kernel_rfl) (by kernel_rfl) (by kernel_rfl) (fun _ _ _ h => h) (Or.inl ⟨by rfl, ?_⟩) (by assumption) ?_
    rotate_left
    · (intro W hSW; go_simp; try (with_reducible rfl))
    (try simp only [zB])
    (try simp only [zA])
    refine wpAnyH_take (i := 8) (v := ?_) rfl (by kernel_rfl) (by kernel_rfl) (by kernel_rfl) (fun _ _ _ h => h) (Or.inl ⟨by rfl, ?_⟩) (by assumption) ?_
    rotate_left
    · (intro W hSW; go_simp; try (with_reducible rfl))
    (try simp only [zB])
    (try simp only [zA])
    refine wpAnyH_take (i := 9) (v := ?_) rfl (by kernel_rfl) (by kernel_rfl) (by kernel_rfl) (fun _ _ _ h => h) (Or.inl ⟨by kernel_rfl, ?_⟩) (by assumption) ?_
    rotate_left
    · (intro W hSW; go_simp; try (with_reducible rfl))
    (try simp only [zB])
    (try simp only [zA])
    refine wpAnyH_take (i := 10) (v := ?_) rfl (by kernel_rfl) (by kernel_rfl) (by kernel_rfl) (fun _ _ _ h => h) (Or.inl ⟨by kernel_rfl, ?_⟩) (by assumption) ?_
    rotate_left
    · (intro W hSW; have z0 := keeps_below hSW _ _ c0; go_simp; try (with_reducible rfl))
    (try simp only [zB])
    (try simp only [zA])
    refine wpAnyH_take (i := 11) (v := ?_) rfl (by kernel_rfl) (by kernel_rfl) (by kernel_rfl) (fun _ _ _ h => h) (Or.inl ⟨by kernel_rfl, ?_⟩) (by assumption) ?_
    rotate_left
    · (intro W hSW; go_simp; try (with_reducible rfl))
    (try simp only [zB])
    (try simp only [zA])
    refine wpAnyH_take (i := 12) (v := ?_) rfl (by kernel_rfl) (by kernel_rfl) (by kernel_rfl) (fun _ _ _ h => h) (Or.inl ⟨by kernel_rfl, ?_⟩) (by assumption) ?_
    rotate_left
    · (intro W hSW; go_simp; try (with_reducible rfl))
    (try simp only [zB])
    (try simp only [zA])
    refine wpAnyH_take (i := 13) (v := undef) rfl (by kernel_rfl) (by kernel_rfl) (by kernel_rfl) (fun _ _ _ h => h) (Or.inr ⟨by kernel_rfl, rfl⟩) (by assumption) ?_
    (try simp only [zA, zB])
    refine wpAnyH_take (i := 14) (v := undef) rfl (by kernel_rfl) (by kernel_rfl) (by kernel_rfl) (fun _ _ _ h => h) (Or.inr ⟨by kernel_rfl, rfl⟩) (by assumption) ?_
    (try simp only [zA, zB])
    refine wpAnyH_take (i := 15) (v := undef) rfl (by kernel_rfl) (by kernel_rfl) (by kernel_rfl) (fun _ _ _ h => h) (Or.inr ⟨by kernel_rfl, rfl⟩) (by assumption) ?_
    (try simp only [zA, zB])
    refine wpAnyH_take (i := 16) (v := ?_) rfl (by kernel_rfl) (by kernel_rfl) (by kernel_rfl) (fun _ _ _ h => h) (Or.inl ⟨by kernel_rfl, ?_⟩) (by assumption) ?_
    rotate_left
    · (intro W hSW; go_simp; try (with_reducible rfl))
    (try simp only [zB])
    (try simp only [zA])
    refine wpAnyH_take (i := 17) (v := ?_) rfl (by kernel_rfl) (by kernel_rfl) (by kernel_rfl) (fun _ _ _ h => h) (Or.inl ⟨by rfl, ?_⟩) (by assumption) ?_
    rotate_left
    · (intro W hSW; go_simp; try (with_reducible rfl))
    (try simp only [zB])
    (try simp only [zA])
    refine wpAnyH_done (by kernel_rfl) ?_ _
    generalize V.drew = V9 at hHeld ⊢
    replace r4 := (hHeld.block _ hz4).trans r4
    replace r5 := (hHeld.block _ hz5).trans r5
    replace r6 := (hHeld.block _ hz6).trans r6
    obtain ⟨hn, hm⟩ := KnowG.below ⟨hn, hm⟩ hHeld
    replace c0 := keeps_below hHeld _ _ c0
    replace c4 := keeps_below hHeld _ _ c4
    have HB9 : Hid (Below w.heap.size w V9) := HB.out.trans (Below.mono hHeld HB.out.size)
    clear hHeld
    by_cases h12 : 12 < x.op
    · have hop : decide (12 < xo) = true := by rw [HXO.out]; simpa using h12
      have HR : Hid (madeF x a b = .many) := by show _ = _; rw [HE.out, if_neg HNN.out, if_pos (Or.inl h12)]
      clear h12
      go_wp2_with (first | (refine wpList_load_wantedF rfl 65 (.tmp 4) rfl _ rfl _ _ _ _ r4 Tryz.underlying65 rfl infoFact ?_) | (refine wpList_load_wantedF rfl 65 (.tmp 5) rfl _ rfl _ _ _ _ r5 Tryz.underlying65 rfl infoFact ?_) | (refine wpList_load_mid rfl 65 (.global 1) rfl 1 0 rfl _ _ hn Tryz.underlying65 rfl infoFact ?_) | (refine wpList_load_mid rfl 65 (.global 0) rfl 0 0 rfl _ _ hm Tryz.underlying65 rfl infoFact ?_) | (refine wpList_load_mid_wantedF rfl 65 (.global 0) rfl 0 0 rfl _ _ hm Tryz.underlying65 rfl infoFact ?_) | (refine wpList_store_row rfl _ _ _ rfl _ #[.int .i64 2, .int .i64 0] rfl rfl _ _ r6 infoFact rfl (by simp [Value.oneCell']) ?_))
      (try simp only [Exit.inBlock, Exit.then])
      exact bodyPost_ret (results_cell_row rfl _ _ (w.heap.size + 1 + 1 + 1) 65 #[.int .i64 2, .int .i64 0] (0, 0) _ rfl (setRow_heap _ _ _ _ _ _ r6) Tryz.underlying65 rfl infoFact) rfl ⟨by rw [HR.out]; rfl, belowSK HB9.out (by omega) _⟩
    have hop : decide (12 < xo) = false := by rw [HXO.out]; simpa using h12
    by_cases hAM : a = .many
    · have hd4 : decide (a = FV.many) = true := by simpa using hAM
      rw [hd4] at heam
      have HR : Hid (madeF x a b = .many) := by show _ = _; rw [HE.out, if_neg HNN.out, if_pos (Or.inr (Or.inl hAM))]
      clear h12 hAM hd4
      go_wp2_with (first | (refine wpList_load_wantedF rfl 65 (.tmp 4) rfl _ rfl _ _ _ _ r4 Tryz.underlying65 rfl infoFact ?_) | (refine wpList_load_wantedF rfl 65 (.tmp 5) rfl _ rfl _ _ _ _ r5 Tryz.underlying65 rfl infoFact ?_) | (refine wpList_load_mid rfl 65 (.global 1) rfl 1 0 rfl _ _ hn Tryz.underlying65 rfl infoFact ?_) | (refine wpList_load_mid rfl 65 (.global 0) rfl 0 0 rfl _ _ hm Tryz.underlying65 rfl infoFact ?_) | (refine wpList_load_mid_wantedF rfl 65 (.global 0) rfl 0 0 rfl _ _ hm Tryz.underlying65 rfl infoFact ?_) | (refine wpList_store_row rfl _ _ _ rfl _ #[.int .i64 2, .int .i64 0] rfl rfl _ _ r6 infoFact rfl (by simp [Value.oneCell']) ?_))
      (try simp only [Exit.inBlock, Exit.then])
      exact bodyPost_ret (results_cell_row rfl _ _ (w.heap.size + 1 + 1 + 1) 65 #[.int .i64 2, .int .i64 0] (0, 0) _ rfl (setRow_heap _ _ _ _ _ _ r6) Tryz.underlying65 rfl infoFact) rfl ⟨by rw [HR.out]; rfl, belowSK HB9.out (by omega) _⟩
    have hd4 : decide (a = FV.many) = false := by simpa using hAM
    rw [hd4] at heam
    by_cases hBM : b = .many
    · have hd5 : decide (b = FV.many) = true := by simpa using hBM
      rw [hd5] at hebm
      have HR : Hid (madeF x a b = .many) := by show _ = _; rw [HE.out, if_neg HNN.out, if_pos (Or.inr (Or.inr hBM))]
      clear h12 hAM hBM hd4 hd5
      go_wp2_with (first | (refine wpList_load_wantedF rfl 65 (.tmp 4) rfl _ rfl _ _ _ _ r4 Tryz.underlying65 rfl infoFact ?_) | (refine wpList_load_wantedF rfl 65 (.tmp 5) rfl _ rfl _ _ _ _ r5 Tryz.underlying65 rfl infoFact ?_) | (refine wpList_load_mid rfl 65 (.global 1) rfl 1 0 rfl _ _ hn Tryz.underlying65 rfl infoFact ?_) | (refine wpList_load_mid rfl 65 (.global 0) rfl 0 0 rfl _ _ hm Tryz.underlying65 rfl infoFact ?_) | (refine wpList_load_mid_wantedF rfl 65 (.global 0) rfl 0 0 rfl _ _ hm Tryz.underlying65 rfl infoFact ?_) | (refine wpList_store_row rfl _ _ _ rfl _ #[.int .i64 2, .int .i64 0] rfl rfl _ _ r6 infoFact rfl (by simp [Value.oneCell']) ?_))
      (try simp only [Exit.inBlock, Exit.then])
      exact bodyPost_ret (results_cell_row rfl _ _ (w.heap.size + 1 + 1 + 1) 65 #[.int .i64 2, .int .i64 0] (0, 0) _ rfl (setRow_heap _ _ _ _ _ _ r6) Tryz.underlying65 rfl infoFact) rfl ⟨by rw [HR.out]; rfl, belowSK HB9.out (by omega) _⟩
    have hd5 : decide (b = FV.many) = false := by simpa using hBM
    rw [hd5] at hebm
    have HR : Hid (madeF x a b = .known (mk x.op a.num b.num x.imm)) := by show _ = _; rw [HE.out, if_neg HNN.out, if_neg (fun h => h.elim h12 (fun h => h.elim hAM hBM))]
    clear h12 hAM hBM hd4 hd5
    have a1 : V9.cell? ⟨w.heap.size + 1, 1, none⟩ = some (.int .i64 an) := by rw [cell_of_row _ _ _ _ _ _ r4]; rfl
    have b1 : V9.cell? ⟨w.heap.size + 1 + 1, 1, none⟩ = some (.int .i64 bn) := by rw [cell_of_row _ _ _ _ _ _ r5]; rfl
    obtain ⟨mv, hmv⟩ : ∃ mv, mv = mk xo an bn xm := ⟨_, rfl⟩
    have hmk := fun W => make_any xo an bn xm W
    rw [← hmv] at hmk
    have HMV : Hid (mv = mk x.op a.num b.num x.imm) := by show _ = _; rw [hmv, HXO.out, HXM.out, HL.out.2.1, HL.out.2.2.2]
    clear hmv
    go_wp2_with (first | (refine wpList_load_wantedF rfl 65 (.tmp 4) rfl _ rfl _ _ _ _ r4 Tryz.underlying65 rfl infoFact ?_) | (refine wpList_load_wantedF rfl 65 (.tmp 5) rfl _ rfl _ _ _ _ r5 Tryz.underlying65 rfl infoFact ?_) | (refine wpList_load_mid rfl 65 (.global 1) rfl 1 0 rfl _ _ hn Tryz.underlying65 rfl infoFact ?_) | (refine wpList_load_mid rfl 65 (.global 0) rfl 0 0 rfl _ _ hm Tryz.underlying65 rfl infoFact ?_) | (refine wpList_load_mid_wantedF rfl 65 (.global 0) rfl 0 0 rfl _ _ hm Tryz.underlying65 rfl infoFact ?_) | (go_at_call 112; refine (hmk _).mono ?_; rintro e w2 ⟨rfl, hw2⟩; replace hw2 := hw2.symm; subst hw2) | (go_at_call 111; refine (known_any mv _).mono ?_; rintro e w3 ⟨rfl, hb3⟩; have r6 := (hb3.block _ (lt_of_block r6)).trans r6; have HB3 : Hid (Below w.heap.size w w3) := HB9.out.trans (hb3.mono HB9.out.size)) | (refine wpList_store_row rfl _ _ _ rfl _ #[.int .i64 1, .int .i64 mv] rfl rfl _ _ r6 infoFact rfl (by simp [Value.oneCell']) ?_))
    (try simp only [Exit.inBlock, Exit.then])
    exact bodyPost_ret (results_cell_row rfl _ _ (w.heap.size + 1 + 1 + 1) 65 #[.int .i64 1, .int .i64 mv] (0, 0) _ rfl (setRow_heap _ _ _ _ _ _ r6) Tryz.underlying65 rfl infoFact) rfl ⟨by rw [HR.out, HMV.out]; rfl, belowSK HB3.out (by omega) _⟩
end Go.Proofs.YtldbmdgpdolaaaaGreatDoor
