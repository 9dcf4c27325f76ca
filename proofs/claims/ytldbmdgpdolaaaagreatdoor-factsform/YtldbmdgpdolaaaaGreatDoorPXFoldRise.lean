import Derived.Test.YtldbmdgpdolaaaaGreatDoorPXFoldMet
import Derived.Test.YtldbmdgpdolaaaaGreatDoorPXSsaPartM
namespace Go.Proofs.YtldbmdgpdolaaaaGreatDoor
open Go Go.RowKit

theorem KnAt.there {w : World} {K gp n gB VN FB MB : Nat} {F : Facts} {G : Ways} (h : KnAt w K gp n gB VN FB MB F G) {v : Nat} (hv : v < VN) : w.there FB (v * 2) 2 := by
  intro j hj
  have h1 : (gC (fun v => factC (F v)) VN)[v * 2 + j]? = (factC (F v))[j]? := gC_get (s := 2) (C := fun v => factC (F v)) (fun i _ => factC_len _) v j hv hj
  have h2 : w.cell? ⟨FB, v * 2 + j, none⟩ = (factC (F v))[j]? := by rw [cell_of_row _ _ _ _ _ _ h.facts, List.getElem?_toArray, h1]
  refine ⟨by rw [h2, List.getElem?_eq_getElem (by rw [factC_len]; exact hj)]; rfl, frozen_of_row _ _ _ _ _ h.facts⟩
theorem KnAt.set {w : World} {K gp n gB VN FB MB : Nat} {F : Facts} {G : Ways} (h : KnAt w K gp n gB VN FB MB F G) {v : Nat} (hv : v < VN) (hne : K ≠ FB) (a : FV) : KnAt (w.setCells FB (v * 2) [.int .i64 a.kind, .int .i64 a.num]) K gp n gB VN FB MB (updF F v a) G ∧ w.grownBy (w.setCells FB (v * 2) [.int .i64 a.kind, .int .i64 a.num]) (some FB) := by
  have hg := gb_setCells FB [.int .i64 a.kind, .int .i64 a.num] (v * 2) w
  obtain ⟨D, ⟨es, cl, hh, r⟩, hD⟩ := h.ways
  have hmf : MB ≠ FB := fun e => by rw [e, h.facts] at hh; cases hh
  refine ⟨⟨?_, ?_, D, ⟨es, cl, (hg.block MB (lt_of_block hh) (by simpa using hmf)).trans hh, r⟩, hD⟩, hg⟩
  · exact (hg.block K (lt_of_block h.box) (by simpa using hne)).trans h.box
  · have s1 := heap_setCell_same w FB (v * 2) _ _ (.int .i64 a.kind) h.facts
    have s2 := heap_setCell_same _ FB (v * 2 + 1) _ _ (.int .i64 a.num) s1
    have hl : ∀ i, i < VN → ((fun v => factC (F v)) i).length = 2 := fun i _ => factC_len _
    have e1 : (gC (fun v => factC (F v)) VN).set (v * 2 + 0) (.int .i64 a.kind) = gC (upd (fun v => factC (F v)) v ((factC (F v)).set 0 (.int .i64 a.kind))) VN := gC_set hl hv (by omega) _
    have hl2 : ∀ i, i < VN → (upd (fun v => factC (F v)) v ((factC (F v)).set 0 (.int .i64 a.kind)) i).length = 2 := fun i _ => by
      by_cases e : i = v
      · rw [e, upd_same]; rfl
      · rw [upd_other _ e]; rfl
    have e2 := gC_set hl2 hv (c := 1) (by omega) (.int .i64 a.num)
    rw [upd_same] at e2
    have e3 : gC (upd (upd (fun v => factC (F v)) v ((factC (F v)).set 0 (.int .i64 a.kind))) v (((factC (F v)).set 0 (.int .i64 a.kind)).set 1 (.int .i64 a.num))) VN = gC (fun u => factC (updF F v a u)) VN := gC_same fun i _ => by
      by_cases e : i = v
      · rw [e, upd_same, updF_same]; rfl
      · rw [upd_other _ e, upd_other _ e, updF_other _ _ e]
    show (World.setCell (w.setCell ⟨FB, v * 2, none⟩ (.int .i64 a.kind)) ⟨FB, v * 2 + 1, none⟩ (.int .i64 a.num)).heap[FB]? = _
    rw [s2, List.setIfInBounds_toArray, List.setIfInBounds_toArray]
    rw [Nat.add_zero] at e1
    rw [e1, e2, e3]
theorem below_grownK {B : Nat} {w0 w w' : World} {row : Nat} (hb : Below B w0 w) (hg : w.grownBy w' (some row)) (hr : B ≤ row) (hs : B ≤ w.heap.size) : Below B w0 w' :=
  hb.grown hg hs (fun k e => by have e := Option.some.inj e; omega)
def RisePost (w : World) (K gp n gB VN FB MB : Nat) (F : Facts) (G : Ways) (v : Nat) (a : FV) (e : Ending) (w' : World) : Prop :=
  e = .returned (.bool (decide (F v ≠ a))) ∧ KnAt w' K gp n gB VN FB MB (updF F v a) G ∧ w.grownBy w' (some FB)
set_option maxRecDepth 100000 in
set_option maxHeartbeats 4000000 in
theorem rise_any {K gp n gB VN FB MB : Nat} {F : Facts} {G : Ways} (w : World) (h : KnAt w K gp n gB VN FB MB F G) (v : Nat) (hv : v < VN) (hne : K ≠ FB) (a : FV) :
    Calls Tryz.prog 84 #[.pointer (some ⟨K, 0, none⟩), .int .i64 v, .agg #[.int .i64 a.kind, .int .i64 a.num]] w (RisePost w K gp n gB VN FB MB F G v a) := by
  have HP : Hid (∀ e w', (e = .returned (.bool (decide (F v ≠ a))) ∧ KnAt w' K gp n gB VN FB MB (updF F v a) G ∧ w.grownBy w' (some FB)) → RisePost w K gp n gB VN FB MB F G v a e w') := fun _ _ h => h
  have HB0 : Below w.heap.size w (w.alloc (.cells #[.int .i64 a.kind, .int .i64 a.num] 65)) := (Below.refl _ _).alloc (Nat.le_refl _) _
  have HBH : Hid (Below w.heap.size w (w.alloc (.cells #[.int .i64 a.kind, .int .i64 a.num] 65))) := HB0
  have r5 : (w.alloc (.cells #[.int .i64 a.kind, .int .i64 a.num] 65)).heap[w.heap.size]? = some (.cells #[.int .i64 a.kind, .int .i64 a.num] 65 (0, 0)) := heap_alloc_last _ _
  have HK : Hid (KnAt (w.alloc (.cells #[.int .i64 a.kind, .int .i64 a.num] 65)) K gp n gB VN FB MB F G) := h.below HB0
  have hq := fun W => equal_fact (F v).kind (F v).num a.kind a.num W
  rw [fv_eq] at hq
  obtain ⟨B, hB⟩ : ∃ B, B = decide (F v = a) := ⟨_, rfl⟩
  have HBB : Hid ((!B) = decide (F v ≠ a)) := by show _ = _; rw [hB]; simp
  rw [← hB] at hq
  have hvI : (v : Int) < (VN : Int) := by omega
  have HV : Hid (v < VN ∧ K ≠ FB) := ⟨hv, hne⟩
  clear h hB HB0 hv hne
  go_enter Tryz.func84, Tryz.ntmps84
  go_upto_region 1 with fail
  generalize (w.alloc (.cells #[.int .i64 a.kind, .int .i64 a.num] 65)) = V at *
  have hf := HK.out.fact HV.out.1
  have k2 : V.cell? ⟨K, 2, none⟩ = some (.slice (some ⟨FB, 0, none⟩) VN VN) := by rw [cell_of_row _ _ _ _ _ _ HK.out.box]; rfl
  obtain ⟨ak, hak⟩ : ∃ x, x = a.kind := ⟨_, rfl⟩
  obtain ⟨an, han⟩ : ∃ x, x = a.num := ⟨_, rfl⟩
  have HAK : Hid (ak = a.kind ∧ an = a.num) := ⟨hak, han⟩
  rw [← hak, ← han] at r5 hq
  clear hak han
  generalize (F v).kind = fk at *
  generalize (F v).num = fn at *
  refine wp_region_held_drew (S := fun W => Below V.heap.size V W) (by kernel_rfl) ((Below.refl _ _).drew) (fun hHeld => ?_)
  show wpAnyH _ _ _ _ _ 10 _ _ _
  refine wpAnyH_take (i := 0) (v := ?_) rfl (by kernel_rfl) (by kernel_rfl) (by kernel_rfl) (fun _ _ _ h => h) (Or.inl ⟨by rfl, ?_⟩) (by assumption) ?_
  rotate_left
  · (intro W hSW; go_simp; try (with_reducible rfl))
  (try simp only [List.getElem_toArray, List.getElem_cons_zero])
  (try simp only [Act.put, List.setIfInBounds_toArray, List.set_cons_zero, List.set_cons_succ])
  refine wpAnyH_take (i := 1) (v := ?_) rfl (by kernel_rfl) (by kernel_rfl) (by kernel_rfl) (fun _ _ _ h => h) (Or.inl ⟨by rfl, ?_⟩) (by assumption) ?_
  rotate_left
  · (intro W hSW; go_simp; try (with_reducible rfl))
  (try simp only [List.getElem_toArray, List.getElem_cons_succ, List.getElem_cons_zero])
  (try simp only [Act.put, List.setIfInBounds_toArray, List.set_cons_zero, List.set_cons_succ])
  refine wpAnyH_take (i := 2) (v := ?_) rfl (by kernel_rfl) (by kernel_rfl) (by kernel_rfl) (fun _ _ _ h => h) (Or.inl ⟨by rfl, ?_⟩) (by assumption) ?_
  rotate_left
  · (intro W hSW; go_simp; try (with_reducible rfl))
  (try simp only [List.getElem_toArray, List.getElem_cons_succ, List.getElem_cons_zero])
  (try simp only [Act.put, List.setIfInBounds_toArray, List.set_cons_zero, List.set_cons_succ])
  refine wpAnyH_take (i := 3) (v := ?_) rfl (by kernel_rfl) (by kernel_rfl) (by kernel_rfl) (fun _ _ _ h => h) (Or.inl ⟨by rfl, ?_⟩) (by assumption) ?_
  rotate_left
  · (intro W hSW; have z0 := keeps_below hSW _ _ k2; go_simp; try (with_reducible rfl))
  (try simp only [List.getElem_toArray, List.getElem_cons_succ, List.getElem_cons_zero])
  (try simp only [Act.put, List.setIfInBounds_toArray, List.set_cons_zero, List.set_cons_succ])
  refine wpAnyH_take (i := 4) (v := ?_) rfl (by kernel_rfl) (by kernel_rfl) (by kernel_rfl) (fun _ _ _ h => h) (Or.inl ⟨by rfl, ?_⟩) (by assumption) ?_
  rotate_left
  · (intro W hSW; go_simp; try (with_reducible rfl))
  (try simp only [List.getElem_toArray, List.getElem_cons_succ, List.getElem_cons_zero])
  (try simp only [Act.put, List.setIfInBounds_toArray, List.set_cons_zero, List.set_cons_succ])
  refine wpAnyH_take (i := 5) (v := ?_) rfl (by kernel_rfl) (by kernel_rfl) (by kernel_rfl) (fun _ _ _ h => h) (Or.inl ⟨by rfl, ?_⟩) (by assumption) ?_
  rotate_left
  · (intro W hSW; go_simp; try (with_reducible rfl))
  (try simp only [List.getElem_toArray, List.getElem_cons_succ, List.getElem_cons_zero])
  (try simp only [Act.put, List.setIfInBounds_toArray, List.set_cons_zero, List.set_cons_succ])
  refine wpAnyH_take (i := 6) (v := .agg [.int .i64 fk, .int .i64 fn].toArray) rfl (by kernel_rfl) (by kernel_rfl) (by kernel_rfl) (fun _ _ _ h => h) (yieldsIf_load_mid (by rfl) 65 _ rfl (FB) (v * 2) rfl [.int .i64 fk, .int .i64 fn] _ (fun W hSW j u hu => keeps_below hSW _ _ (hf j u hu)) Tryz.underlying65 rfl infoFact) (by assumption) ?_
  (try simp only [List.getElem_toArray, List.getElem_cons_succ, List.getElem_cons_zero])
  (try simp only [Act.put, List.setIfInBounds_toArray, List.set_cons_zero, List.set_cons_succ])
  refine wpAnyH_take (i := 7) (v := .agg [.int .i64 ak, .int .i64 an].toArray) rfl (by kernel_rfl) (by kernel_rfl) (by kernel_rfl) (fun _ _ _ h => h) (yieldsIf_load_mid (by rfl) 65 _ rfl (w.heap.size) 0 rfl [.int .i64 ak, .int .i64 an] _ (fun W hSW j u hu => by rw [cell_of_row _ _ _ _ _ _ ((hSW.block _ (lt_of_block r5)).trans r5)]; simpa using hu) Tryz.underlying65 rfl infoFact) (by assumption) ?_
  (try simp only [List.getElem_toArray, List.getElem_cons_succ, List.getElem_cons_zero])
  (try simp only [Act.put, List.setIfInBounds_toArray, List.set_cons_zero, List.set_cons_succ])
  refine wpAnyH_take (i := 8) (v := ?_) rfl (by kernel_rfl) (by kernel_rfl) (by kernel_rfl) (fun _ _ _ h => h) (Or.inl ⟨by rfl, ?_⟩) (by assumption) ?_
  rotate_left
  · (intro W hSW; go_simp; try (with_reducible rfl))
  (try simp only [List.getElem_toArray, List.getElem_cons_succ, List.getElem_cons_zero])
  (try simp only [Act.put, List.setIfInBounds_toArray, List.set_cons_zero, List.set_cons_succ])
  refine wpAnyH_take (i := 9) (v := ?_) rfl (by kernel_rfl) (by kernel_rfl) (by kernel_rfl) (fun _ _ _ h => h) (Or.inl ⟨by rfl, ?_⟩) (by assumption) ?_
  rotate_left
  · (intro W hSW; go_simp; try (with_reducible rfl))
  (try simp only [List.getElem_toArray, List.getElem_cons_succ, List.getElem_cons_zero])
  (try simp only [Act.put, List.setIfInBounds_toArray, List.set_cons_zero, List.set_cons_succ])
  refine wpAnyH_done (by kernel_rfl) ?_ _
  obtain ⟨V1, hV1⟩ : ∃ V1, V1 = V.drew := ⟨_, rfl⟩
  have HB1 : Hid (Below V.heap.size V V1) := by show Below _ _ _; rw [hV1]; exact hHeld
  rw [← hV1]
  replace r5 := (HB1.out.block _ (lt_of_block r5)).trans r5
  replace k2 := keeps_below HB1.out _ _ k2
  have HK1 : Hid (KnAt V1 K gp n gB VN FB MB F G) := HK.out.below HB1.out
  have HTH : Hid (∀ W, Below V1.heap.size V1 W → W.there FB (v * 2) 2) := fun W hW => (HK1.out.below hW).there HV.out.1
  clear hV1 hf hq hHeld
  go_upto_region 2 with fail
  refine wp_region_last (S := fun W => Below V1.heap.size V1 W) _ 7 (by kernel_rfl) (by kernel_rfl) rfl ((Below.refl _ _).drew) (fun hHeld => ?_)
  simp only [List.pop_toArray, List.dropLast]
  refine wpAnyH_take (i := 0) (v := ?_) rfl (by kernel_rfl) (by kernel_rfl) (by kernel_rfl) (fun _ _ _ h => h) (Or.inl ⟨by rfl, ?_⟩) (by assumption) ?_
  rotate_left
  · (intro W hSW; go_simp; try (with_reducible rfl))
  (try simp only [List.getElem_toArray, List.getElem_cons_succ, List.getElem_cons_zero])
  (try simp only [Act.put, List.setIfInBounds_toArray, List.set_cons_zero, List.set_cons_succ])
  refine wpAnyH_take (i := 1) (v := ?_) rfl (by kernel_rfl) (by kernel_rfl) (by kernel_rfl) (fun _ _ _ h => h) (Or.inl ⟨by rfl, ?_⟩) (by assumption) ?_
  rotate_left
  · (intro W hSW; go_simp; try (with_reducible rfl))
  (try simp only [List.getElem_toArray, List.getElem_cons_succ, List.getElem_cons_zero])
  (try simp only [Act.put, List.setIfInBounds_toArray, List.set_cons_zero, List.set_cons_succ])
  refine wpAnyH_take (i := 2) (v := ?_) rfl (by kernel_rfl) (by kernel_rfl) (by kernel_rfl) (fun _ _ _ h => h) (Or.inl ⟨by rfl, ?_⟩) (by assumption) ?_
  rotate_left
  · (intro W hSW; go_simp; try (with_reducible rfl))
  (try simp only [List.getElem_toArray, List.getElem_cons_succ, List.getElem_cons_zero])
  (try simp only [Act.put, List.setIfInBounds_toArray, List.set_cons_zero, List.set_cons_succ])
  refine wpAnyH_take (i := 3) (v := ?_) rfl (by kernel_rfl) (by kernel_rfl) (by kernel_rfl) (fun _ _ _ h => h) (Or.inl ⟨by rfl, ?_⟩) (by assumption) ?_
  rotate_left
  · (intro W hSW; have z0 := keeps_below hSW _ _ k2; go_simp; try (with_reducible rfl))
  (try simp only [List.getElem_toArray, List.getElem_cons_succ, List.getElem_cons_zero])
  (try simp only [Act.put, List.setIfInBounds_toArray, List.set_cons_zero, List.set_cons_succ])
  refine wpAnyH_take (i := 4) (v := ?_) rfl (by kernel_rfl) (by kernel_rfl) (by kernel_rfl) (fun _ _ _ h => h) (Or.inl ⟨by rfl, ?_⟩) (by assumption) ?_
  rotate_left
  · (intro W hSW; go_simp; try (with_reducible rfl))
  (try simp only [List.getElem_toArray, List.getElem_cons_succ, List.getElem_cons_zero])
  (try simp only [Act.put, List.setIfInBounds_toArray, List.set_cons_zero, List.set_cons_succ])
  refine wpAnyH_take (i := 5) (v := .agg [.int .i64 ak, .int .i64 an].toArray) rfl (by kernel_rfl) (by kernel_rfl) (by kernel_rfl) (fun _ _ _ h => h) (yieldsIf_load_mid (by rfl) 65 _ rfl (w.heap.size) 0 rfl [.int .i64 ak, .int .i64 an] _ (fun W hSW j u hu => by rw [cell_of_row _ _ _ _ _ _ ((hSW.block _ (lt_of_block r5)).trans r5)]; simpa using hu) Tryz.underlying65 rfl infoFact) (by assumption) ?_
  (try simp only [List.getElem_toArray, List.getElem_cons_succ, List.getElem_cons_zero])
  (try simp only [Act.put, List.setIfInBounds_toArray, List.set_cons_zero, List.set_cons_succ])
  refine wpAnyH_take (i := 6) (v := ?_) rfl (by kernel_rfl) (by kernel_rfl) (by kernel_rfl) (fun _ _ _ h => h) (Or.inl ⟨by rfl, ?_⟩) (by assumption) ?_
  rotate_left
  · (intro W hSW; go_simp; try (with_reducible rfl))
  (try simp only [List.getElem_toArray, List.getElem_cons_succ, List.getElem_cons_zero])
  (try simp only [Act.put, List.setIfInBounds_toArray, List.set_cons_zero, List.set_cons_succ])
  refine wpAnyH_done (by kernel_rfl) ?_ _
  refine Or.inl ?_
  refine wp_store_mid 65 _ _ rfl FB (v * 2) #[.int .i64 ak, .int .i64 an] rfl rfl (HTH.out _ hHeld) infoFact (by simp [Value.oneCell']) ?_
  (try simp only [Act.put])
  have HKW := ((HK1.out.below hHeld).set HV.out.1 HV.out.2 a)
  rw [← HAK.out.1, ← HAK.out.2] at HKW
  have HW : Hid (Below w.heap.size w V1) := HBH.out.trans (HB1.out.mono HBH.out.size)
  have HW2 := HW.out.trans (hHeld.mono HW.out.size)
  have HFIN := fun e (h : e = Ending.returned (.bool (decide (F v ≠ a)))) => HP.out e _ ⟨h, HKW.1, gb_trans (gb_below (some FB) HW2) HKW.2⟩
  have HFIN : Hid (∀ e, e = Ending.returned (.bool (decide (F v ≠ a))) → _) := HFIN
  clear HKW HW2 hHeld
  go_wp2
  go_ret
  exact HFIN.out _ (by rw [← HBB.out]; rfl)
end Go.Proofs.YtldbmdgpdolaaaaGreatDoor
