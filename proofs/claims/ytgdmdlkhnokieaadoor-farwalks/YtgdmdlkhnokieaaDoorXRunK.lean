/- Contract of tierlinekeep.running: a state to which a run has come (written by gen/mkrunk.py). -/
import Derived.Test.YtgdmdlkhnokieaaDoorGroupK
import Derived.Test.YtgdmdlkhnokieaaDoorXEmitRun
namespace Go.Proofs.YtgdmdlkhnokieaaDoor
open Go Go.RowKit

theorem kbegin1 (P : List Fn) (pv : Value) (a0 a1 fuel : Int) (nv : Value) (l : List Int) (w : World) (ht : TabOk w) (hc : CallOk w) (hR : ProofAns P 0) (hv : ProgVal w pv P) (hn : IntsVal w nv l) (hfu : I64 fuel) :
    Calls Tryd.prog 14 #[.agg #[pv], inVal a0 a1 nv fuel] w fun e w' => ∃ cs S, e = .returned (.tuple #[.agg cs, .bool true]) ∧ KRunAt P S ∧ (S.fuel ≤ 299 ∧ S.answers.length ≤ 10 ∧ S.status = 0 ∧ S.frames.length = 1) ∧ (Tryd.prog.info? 34).map (·.size) = some cs.size ∧ zeroStCells.size = cs.size ∧ cs.all (·.oneCell') = true ∧ StAt w' w.heap.size (.agg cs) S ∧ Below w.heap.size w w' := by
  refine (kbegin_any P pv a0 a1 fuel nv l w ht hc hR hv hn hfu).mono ?_
  rintro e w' ⟨v', rfl, hst, hb⟩
  obtain ⟨cs, rfl, c1, c2, c3⟩ := hst.val.cells
  have hpb := pickI_bounds fuel 300 (by omega)
  refine ⟨cs, _, rfl, krun_begin hR a0 a1 fuel l, ⟨?_, ?_, rfl, rfl⟩, c1, c2, c3, hst, hb⟩
  · show pickI fuel 300 ≤ 299; omega
  · show (l.take 10).length ≤ 10; rw [List.length_take]; omega
theorem results_row_two {P : Program} {fn : Func} {p u q : Tmp} {ty : TypeId} (h : fn.results = #[.cell p ty, .tmp u, .tmp q]) (tmps : Array Value) (w : World) (g : Nat) (t : TypeId) (cs : Array Value) (fr : Nat × Nat) (d : TypeDesc)
    (hp : tmps.getD p undef = .pointer (some ⟨g, 0, none⟩)) (hg : w.heap[g]? = some (.cells cs t fr))
    (hu : P.underlying ty = some d) (hd : (match d with | .struct _ | .array _ _ => true | _ => false) = true) (hi : (P.info? ty).map (·.size) = some cs.size) :
    (results fn tmps).run P w = .ok (.tuple #[.agg cs, tmps.getD u undef, tmps.getD q undef]) w := by
  simp only [results, h]
  simp [Sem.run_bind, Result.andThen]
  rw [← Array.getD_eq_getD_getElem?, hp]
  simp only [asAddr, Sem.run_pure, run_loadVar_row w g t ty cs fr d hg hu hd hi]
/-- What running answers. -/
def RunningPost (P : List Fn) (w : World) (e : Ending) (w' : World) : Prop :=
  ∃ cs S, ∃ x : Nat, e = .returned (.tuple #[.agg cs, .bool true, .bool (decide ((walkS P x S).status = 0))]) ∧ KRunAt P S ∧ (S.fuel ≤ 299 ∧ S.answers.length ≤ 10 ∧ S.status = 0) ∧ x < 200 ∧ StAt w' w.heap.size (.agg cs) (walkS P x S) ∧ Below w.heap.size w w'

set_option maxRecDepth 100000 in
set_option maxHeartbeats 8000000 in
theorem runningK_any (P : List Fn) (pv : Value) (a0 a1 fuel : Int) (nv : Value) (l : List Int) (a : Int) (w : World) (ht : TabOk w) (hc : CallOk w) (hR : ProofAns P 0) (hv : ProgVal w pv P) (hn : IntsVal w nv l) (hfu : I64 fuel) (ha : I64 a) :
    Calls Tryd.prog 6 #[.agg #[pv], inVal a0 a1 nv fuel, .int .i64 a] w fun e w' => RunningPost P w e w' := by
  obtain ⟨x, hx, ex⟩ : ∃ x : Nat, x < 200 ∧ pickI a 200 = x := by have b := pickI_bounds a 200 (by omega); obtain ⟨k, hk⟩ := Int.eq_ofNat_of_zero_le b.1; exact ⟨k, by omega, hk⟩
  have hPX : Hid (∀ W, Calls Tryd.prog 11 #[.int .i64 a, .int .i64 200] W fun e w' => e = .returned (.int .i64 (x : Int)) ∧ w' = W) := fun W => by have := picked_any a 200 W ha (by omega) (by omega); rw [ex] at this; exact this
  have HV : Hid (∀ W, Below w.heap.size w W → ProgVal W pv P ∧ TabOk W ∧ CallOk W) := fun W hb => ⟨hv.keeps (keeps_below hb), ht.below hb, hc.below hb⟩
  have HKB : Hid (∀ W, Below w.heap.size w W → Calls Tryd.prog 14 #[.agg #[pv], inVal a0 a1 nv fuel] W _) := fun W hb => kbegin1 P pv a0 a1 fuel nv l W (ht.below hb) (hc.below hb) hR (hv.keeps (keeps_below hb)) (hn.keeps (keeps_below hb)) hfu
  have infoIn : (Tryd.prog.info? 26).map (·.size) = some 4 := by kernel_rfl
  obtain ⟨ao, n0, cap0, rfl⟩ := hv.shape
  obtain ⟨nao, nc, rfl⟩ := hn.shape
  unfold inVal at *
  clear ht hc hR hv hn hfu ha ex
  generalize hnv : (Value.slice nao l.length nc) = nv at *
  clear hnv
  go_enter Tryd.func6, Tryd.ntmps6
  go_upto_region 1 with fail
  rw [show (#[.int .i64 0, .int .i64 0, .slice none 0 0, .int .i64 0, .int .i64 0, .int .i64 0, .int .i64 0, .int .i64 0, .int .i64 0, .int .i64 0, .int .i64 0, .int .i64 0, .int .i64 0, .int .i64 0, .int .i64 0, .int .i64 0, .int .i64 0, .int .i64 0, .int .i64 0, .int .i64 0, .slice none 0 0, .slice none 0 0] : Array Value) = zeroStCells from rfl]
  have r0 : (((w.alloc (.cells #[.slice ao n0 cap0] 29)).alloc (.cells #[.int .i64 a0, .int .i64 a1, nv, .int .i64 fuel] 26)).alloc (.cells zeroStCells 34)).heap[w.heap.size]? = some (.cells #[.slice ao n0 cap0] 29 (0, 0)) := heap_alloc_old _ _ (by simp <;> omega) |>.trans (heap_alloc2_old _ _ _)
  have r1 : (((w.alloc (.cells #[.slice ao n0 cap0] 29)).alloc (.cells #[.int .i64 a0, .int .i64 a1, nv, .int .i64 fuel] 26)).alloc (.cells zeroStCells 34)).heap[w.heap.size + 1]? = some (.cells #[.int .i64 a0, .int .i64 a1, nv, .int .i64 fuel] 26 (0, 0)) := heap_alloc_old _ _ (by simp <;> omega) |>.trans (heap_alloc2_new _ _ _)
  have r3 : (((w.alloc (.cells #[.slice ao n0 cap0] 29)).alloc (.cells #[.int .i64 a0, .int .i64 a1, nv, .int .i64 fuel] 26)).alloc (.cells zeroStCells 34)).heap[w.heap.size + 1 + 1]? = some (.cells zeroStCells 34 (0, 0)) := heap_alloc3_new _ _ _ _
  have HB0 : Hid (Below w.heap.size w (((w.alloc (.cells #[.slice ao n0 cap0] 29)).alloc (.cells #[.int .i64 a0, .int .i64 a1, nv, .int .i64 fuel] 26)).alloc (.cells zeroStCells 34))) := (((Below.refl _ _).alloc (Nat.le_refl _) _).alloc (by simp) _).alloc (by simp <;> omega) _
  generalize (((w.alloc (.cells #[.slice ao n0 cap0] 29)).alloc (.cells #[.int .i64 a0, .int .i64 a1, nv, .int .i64 fuel] 26)).alloc (.cells zeroStCells 34)) = W0 at *
  have hz0 := lt_of_block r3
  have kp0 : W0.cell? ⟨w.heap.size, 0, none⟩ = some (.slice ao n0 cap0) := by rw [cell_of_row _ _ _ _ _ _ r0]; rfl
  go_upto_region 2 with (first
    | (refine wpList_load_row rfl _ _ rfl _ rfl _ _ _ _ r1 Tryd.underlying26 rfl infoIn ?_)
    | (go_at_call 14; refine (HKB.out _ HB0.out).mono ?_; rintro e w2 ⟨cs2, S, rfl, hk, hs0, c1, c2, c3, hst, hb2⟩)
    | (refine wpList_store_row rfl _ _ _ rfl _ _ rfl rfl _ _ (heap_alloc_last w2 _) c1 c2 c3 ?_; rw [World.setRow_alloc_new]))
  have HK : Hid (KRunAt P S) := hk
  have HS0 : Hid (S.fuel ≤ 299 ∧ S.answers.length ≤ 10 ∧ S.status = 0 ∧ S.frames.length = 1) := hs0
  have HBW : Hid (Below W0.heap.size W0 (w2.alloc (.cells cs2 34))) := hb2.alloc hb2.size _
  have r2 : (w2.alloc (.cells cs2 34)).heap[w2.heap.size]? = some (.cells cs2 34 (0, 0)) := heap_alloc_last _ _
  have HS2 : Hid (StVal (w2.alloc (.cells cs2 34)) (.agg cs2) S) := hst.val.keeps (keeps_below ((Below.refl _ _).alloc (Nat.le_refl _) _))
  have q2 : (Tryd.prog.info? 34).map (·.size) = some cs2.size := c1
  have hg2 : W0.heap.size ≤ w2.heap.size := hb2.size
  clear hk hs0 c1 c2 c3 hst hb2 HKB
  generalize (w2.alloc (.cells cs2 34)) = W2 at *
  generalize w2.heap.size = g2 at *
  have kp := keeps_below HBW.out _ _ kp0
  have x3 := (HBW.out.block _ hz0).trans r3
  have HB2 : Hid (Below w.heap.size w W2) := HB0.out.trans (HBW.out.mono HB0.out.size)
  have hz2 : g2 < W2.heap.size := lt_of_block r2
  clear kp0 r0 r1 r3 HBW
  have HWX : Hid (∀ W, Below W2.heap.size W2 W → Calls Tryd.prog 8 #[.agg #[.slice ao n0 cap0], .agg cs2, .int .i64 ((x : Nat) : Int)] W _) := fun W hb => kwalk HK.out 0 x (by omega) (by omega) _ _ W (HV.out _ (HB2.out.trans (hb.mono HB2.out.size))).2.1 (HV.out _ (HB2.out.trans (hb.mono HB2.out.size))).2.2 (HV.out _ (HB2.out.trans (hb.mono HB2.out.size))).1 (HS2.out.keeps (keeps_below hb))
  (try simp only [Act.put])
  go_cut [11, 12] from 19 to 26 (fun t e wx => ∃ (Gx : Nat) (csn : Array Value), t = .pointer (some ⟨Gx, 0, none⟩) ∧ e = .int .i64 0 ∧ wx.heap[Gx]? = some (.cells csn 34 (0, 0)) ∧ (Tryd.prog.info? 34).map (·.size) = some csn.size ∧ zeroStCells.size = csn.size ∧ csn.all (·.oneCell') = true ∧ Below W2.heap.size W2 wx ∧ W2.heap.size ≤ Gx ∧ StAt wx W2.heap.size (.agg csn) (walkS P (0 + x) S))
  case first =>
    refine wp_region_held_drew (S := fun W => Below W2.heap.size W2 W) (by kernel_rfl) ((Below.refl _ _).drew) (fun hHeld => ?_)
    show wpAnyH _ _ _ _ _ 11 _ _ _
    refine wpAnyH_take (i := 0) (v := ?_) rfl (by kernel_rfl) (by kernel_rfl) (by kernel_rfl) (fun _ _ _ h => h) (Or.inl ⟨by rfl, ?_⟩) (by assumption) ?_
    rotate_left
    · (intro W hSW; have zz := keeps_below hSW _ _ kp; go_simp; try (with_reducible rfl))
    (try simp only [List.getElem_toArray, List.getElem_cons_zero])
    (try simp only [Act.put, List.setIfInBounds_toArray, List.set_cons_zero, List.set_cons_succ])
    refine wpAnyH_take (i := 1) (v := .agg cs2.toList.toArray) rfl (by kernel_rfl) (by kernel_rfl) (by kernel_rfl) (fun _ _ _ h => h) (yieldsIf_load_mid (by rfl) 34 _ rfl _ 0 rfl cs2.toList _ (fun W hSW j u hu => by rw [cell_of_row _ _ _ _ _ _ ((hSW.block _ hz2).trans r2)]; simpa using hu) Tryd.underlying34 rfl (by simpa using q2)) (by assumption) ?_
    simp only [Array.toArray_toList]
    (try simp only [List.getElem_toArray, List.getElem_cons_succ, List.getElem_cons_zero])
    (try simp only [Act.put, List.setIfInBounds_toArray, List.set_cons_zero, List.set_cons_succ])
    refine wpAnyH_take (i := 2) (v := ?_) rfl (by kernel_rfl) (by kernel_rfl) (by kernel_rfl) (fun _ _ _ h => h) (Or.inl ⟨by rfl, ?_⟩) (by assumption) ?_
    rotate_left
    · (intro W hSW; go_simp; try (with_reducible rfl))
    (try simp only [List.getElem_toArray, List.getElem_cons_succ, List.getElem_cons_zero])
    (try simp only [Act.put, List.setIfInBounds_toArray, List.set_cons_zero, List.set_cons_succ])
    refine wpAnyH_ready (rs := [3, 8]) (by kernel_rfl) (by simp) ?_
    refine AllReadyH.cons rfl (fun K hK => ?_) (AllReadyH.cons rfl (fun K hK => ?_) AllReadyH.nil)
    · go_simp
      go_at_call 11
      refine (hPX.out _).mono ?_
      rintro e wp ⟨rfl, hwp⟩
      have hbp : Below W2.drew.heap.size W2.drew wp := by rw [hwp]; exact Below.refl _ _
      clear hwp
      have HBp : Below W2.heap.size W2 wp := Below.trans hHeld (Below.mono hbp (Below.size hHeld))
      dsimp only
      refine hK.out _ _ HBp (fun _ => ?_)
      clear hK K
      (try simp only [Act.put, List.setIfInBounds_toArray, List.set_cons_zero, List.set_cons_succ])
      refine wpAnyH_ready (rs := [4, 8]) (by kernel_rfl) (by simp) ?_
      refine AllReadyH.cons rfl (fun K hK => ?_) (AllReadyH.cons rfl (fun K hK => ?_) AllReadyH.nil)
      · go_simp
        go_at_call 8
        refine (HWX.out _ HBp).mono ?_
        rintro e wn ⟨csn, rfl, e1, e2, e3, hsn, hbn⟩
        have HBn : Below W2.heap.size W2 wn := Below.trans HBp (Below.mono hbn (Below.size HBp))
        dsimp only
        refine hK.out _ _ HBn (fun _ => ?_)
        clear hK K
        (try simp only [Act.put, List.setIfInBounds_toArray, List.set_cons_zero, List.set_cons_succ])
        refine wpAnyH_take (i := 5) (v := ?_) rfl (by kernel_rfl) (by kernel_rfl) (by kernel_rfl) (fun _ _ _ h => h) (Or.inl ⟨by rfl, ?_⟩) (by assumption) ?_
        rotate_left
        · (intro W hSW; go_simp; try (with_reducible rfl))
        (try simp only [List.getElem_toArray, List.getElem_cons_succ, List.getElem_cons_zero])
        (try simp only [Act.put, List.setIfInBounds_toArray, List.set_cons_zero, List.set_cons_succ])
        refine wpAnyH_take (i := 6) (v := ?_) rfl (by kernel_rfl) (by kernel_rfl) (by kernel_rfl) (fun _ _ _ h => h) (Or.inl ⟨by rfl, ?_⟩) (by assumption) ?_
        rotate_left
        · (intro W hSW; go_simp; try (with_reducible rfl))
        (try simp only [List.getElem_toArray, List.getElem_cons_succ, List.getElem_cons_zero])
        (try simp only [Act.put, List.setIfInBounds_toArray, List.set_cons_zero, List.set_cons_succ])
        refine wpAnyH_take (i := 7) (v := ?_) rfl (by kernel_rfl) (by kernel_rfl) (by kernel_rfl) (fun _ _ _ h => h) (Or.inl ⟨by rfl, ?_⟩) (by assumption) ?_
        rotate_left
        · (intro W hSW; go_simp; try (with_reducible rfl))
        (try simp only [List.getElem_toArray, List.getElem_cons_succ, List.getElem_cons_zero])
        (try simp only [Act.put, List.setIfInBounds_toArray, List.set_cons_zero, List.set_cons_succ])
        refine wpAnyH_ready (rs := [8]) (by kernel_rfl) (by simp) ?_
        refine AllReadyH.cons rfl (fun K hK => ?_) AllReadyH.nil
        go_simp
        have HBA2 : Below W2.heap.size W2 (wn.alloc (.cells zeroStCells 34)) := Below.alloc HBn (Below.size HBn) _
        refine hK.out _ _ HBA2 (fun _ => ?_)
        clear hK K
        (try simp only [Act.put, List.setIfInBounds_toArray, List.set_cons_zero, List.set_cons_succ])
        have rowA : (wn.alloc (.cells zeroStCells 34)).heap[wn.heap.size]? = some (.cells zeroStCells 34 (0, 0)) := heap_alloc_last wn _
        refine wpAnyH_ready (rs := [9]) (by kernel_rfl) (by simp) ?_
        refine AllReadyH.cons rfl (fun K hK => ?_) AllReadyH.nil
        refine wp_store_row 34 _ _ rfl (wn.heap.size) csn rfl rfl 34 zeroStCells rowA e1 e2 e3 ?_
        have BN : Below W2.heap.size W2 (World.setRow (wn.alloc (.cells zeroStCells 34)) (wn.heap.size) csn) := belowSR HBA2 (Below.size HBn) _
        refine hK.out _ _ BN (fun _ => ?_)
        clear hK K
        (try simp only [Act.put, List.setIfInBounds_toArray])
        refine wpAnyH_ready (rs := [10]) (by kernel_rfl) (by simp) ?_
        refine AllReadyH.cons rfl (fun K hK => ?_) AllReadyH.nil
        go_simp
        refine hK.out _ _ BN (fun _ => ?_)
        clear hK K
        (try simp only [Act.put, List.setIfInBounds_toArray, List.set_cons_zero, List.set_cons_succ])
        refine wpAnyH_done (by kernel_rfl) ?_ _
        go_wp2_with fail
        go_meet
        exact ⟨_, csn, rfl, rfl, setRow_heap _ _ _ _ _ _ rowA, e1, e2, e3, BN, (by first | exact Nat.le_refl _ | exact (Below.size HBn)), by first | exact ((hsn.setRow (lt_of_block rowB0) _).mono (Below.size HBp)) | exact ((hsn.setRow (lt_of_block rowA) _).mono (Below.size HBp)) | exact ((hsn.setRow (lt_of_block rowA) _).mono (Nat.le_trans (Below.size HBp) (by simp))) | exact ((hsn.moved (fun ad u ha hu => (World.cell?_of_block (setRow_other _ _ _ _ (by have := World.block_lt_of_cell? _ _ hu; omega))).trans (cell_alloc hu _))).mono (Below.size HBp))⟩
      · go_simp
        have HBA1 : Below W2.heap.size W2 (wp.alloc (.cells zeroStCells 34)) := Below.alloc HBp (Below.size HBp) _
        refine hK.out _ _ HBA1 (fun _ => ?_)
        clear hK K
        (try simp only [Act.put, List.setIfInBounds_toArray, List.set_cons_zero, List.set_cons_succ])
        have rowA : (wp.alloc (.cells zeroStCells 34)).heap[wp.heap.size]? = some (.cells zeroStCells 34 (0, 0)) := heap_alloc_last wp _
        refine wpAnyH_ready (rs := [4]) (by kernel_rfl) (by simp) ?_
        refine AllReadyH.cons rfl (fun K hK => ?_) AllReadyH.nil
        go_simp
        go_at_call 8
        refine (HWX.out _ HBA1).mono ?_
        rintro e wn ⟨csn, rfl, e1, e2, e3, hsn, hbn⟩
        have HBn : Below W2.heap.size W2 wn := Below.trans HBA1 (Below.mono hbn (Below.size HBA1))
        dsimp only
        refine hK.out _ _ HBn (fun _ => ?_)
        clear hK K
        (try simp only [Act.put, List.setIfInBounds_toArray, List.set_cons_zero, List.set_cons_succ])
        have rowB1 : wn.heap[wp.heap.size]? = some (.cells zeroStCells 34 (0, 0)) := (Below.block hbn _ (lt_of_block rowA)).trans rowA
        refine wpAnyH_take (i := 5) (v := ?_) rfl (by kernel_rfl) (by kernel_rfl) (by kernel_rfl) (fun _ _ _ h => h) (Or.inl ⟨by rfl, ?_⟩) (by assumption) ?_
        rotate_left
        · (intro W hSW; go_simp; try (with_reducible rfl))
        (try simp only [List.getElem_toArray, List.getElem_cons_succ, List.getElem_cons_zero])
        (try simp only [Act.put, List.setIfInBounds_toArray, List.set_cons_zero, List.set_cons_succ])
        refine wpAnyH_take (i := 6) (v := ?_) rfl (by kernel_rfl) (by kernel_rfl) (by kernel_rfl) (fun _ _ _ h => h) (Or.inl ⟨by rfl, ?_⟩) (by assumption) ?_
        rotate_left
        · (intro W hSW; go_simp; try (with_reducible rfl))
        (try simp only [List.getElem_toArray, List.getElem_cons_succ, List.getElem_cons_zero])
        (try simp only [Act.put, List.setIfInBounds_toArray, List.set_cons_zero, List.set_cons_succ])
        refine wpAnyH_take (i := 7) (v := ?_) rfl (by kernel_rfl) (by kernel_rfl) (by kernel_rfl) (fun _ _ _ h => h) (Or.inl ⟨by rfl, ?_⟩) (by assumption) ?_
        rotate_left
        · (intro W hSW; go_simp; try (with_reducible rfl))
        (try simp only [List.getElem_toArray, List.getElem_cons_succ, List.getElem_cons_zero])
        (try simp only [Act.put, List.setIfInBounds_toArray, List.set_cons_zero, List.set_cons_succ])
        refine wpAnyH_ready (rs := [9]) (by kernel_rfl) (by simp) ?_
        refine AllReadyH.cons rfl (fun K hK => ?_) AllReadyH.nil
        refine wp_store_row 34 _ _ rfl (wp.heap.size) csn rfl rfl 34 zeroStCells rowB1 e1 e2 e3 ?_
        have BN : Below W2.heap.size W2 (World.setRow wn (wp.heap.size) csn) := belowSR HBn (Below.size HBp) _
        refine hK.out _ _ BN (fun _ => ?_)
        clear hK K
        (try simp only [Act.put, List.setIfInBounds_toArray])
        refine wpAnyH_ready (rs := [10]) (by kernel_rfl) (by simp) ?_
        refine AllReadyH.cons rfl (fun K hK => ?_) AllReadyH.nil
        go_simp
        refine hK.out _ _ BN (fun _ => ?_)
        clear hK K
        (try simp only [Act.put, List.setIfInBounds_toArray, List.set_cons_zero, List.set_cons_succ])
        refine wpAnyH_done (by kernel_rfl) ?_ _
        go_wp2_with fail
        go_meet
        exact ⟨_, csn, rfl, rfl, setRow_heap _ _ _ _ _ _ rowB1, e1, e2, e3, BN, (by first | exact Nat.le_refl _ | exact (Below.size HBp)), by first | exact ((hsn.setRow (lt_of_block rowB0) _).mono (Below.size HBp)) | exact ((hsn.setRow (lt_of_block rowA) _).mono (Below.size HBp)) | exact ((hsn.setRow (lt_of_block rowA) _).mono (Nat.le_trans (Below.size HBp) (by simp))) | exact ((hsn.moved (fun ad u ha hu => (World.cell?_of_block (setRow_other _ _ _ _ (by have := World.block_lt_of_cell? _ _ hu; omega))).trans (cell_alloc hu _))).mono (Below.size HBp))⟩
    · go_simp
      have HBA0 : Below W2.heap.size W2 (W2.drew.alloc (.cells zeroStCells 34)) := Below.alloc hHeld (Below.size hHeld) _
      refine hK.out _ _ HBA0 (fun _ => ?_)
      clear hK K
      (try simp only [Act.put, List.setIfInBounds_toArray, List.set_cons_zero, List.set_cons_succ])
      have rowA : (W2.drew.alloc (.cells zeroStCells 34)).heap[W2.drew.heap.size]? = some (.cells zeroStCells 34 (0, 0)) := heap_alloc_last W2.drew _
      refine wpAnyH_ready (rs := [3]) (by kernel_rfl) (by simp) ?_
      refine AllReadyH.cons rfl (fun K hK => ?_) AllReadyH.nil
      go_simp
      go_at_call 11
      refine (hPX.out _).mono ?_
      rintro e wp ⟨rfl, hwp⟩
      have hbp : Below (W2.drew.alloc (.cells zeroStCells 34)).heap.size (W2.drew.alloc (.cells zeroStCells 34)) wp := by rw [hwp]; exact Below.refl _ _
      clear hwp
      have HBp : Below W2.heap.size W2 wp := Below.trans HBA0 (Below.mono hbp (Below.size HBA0))
      dsimp only
      refine hK.out _ _ HBp (fun _ => ?_)
      clear hK K
      (try simp only [Act.put, List.setIfInBounds_toArray, List.set_cons_zero, List.set_cons_succ])
      have rowB0 : wp.heap[W2.drew.heap.size]? = some (.cells zeroStCells 34 (0, 0)) := (Below.block hbp _ (lt_of_block rowA)).trans rowA
      refine wpAnyH_ready (rs := [4]) (by kernel_rfl) (by simp) ?_
      refine AllReadyH.cons rfl (fun K hK => ?_) AllReadyH.nil
      go_simp
      go_at_call 8
      refine (HWX.out _ HBp).mono ?_
      rintro e wn ⟨csn, rfl, e1, e2, e3, hsn, hbn⟩
      have HBn : Below W2.heap.size W2 wn := Below.trans HBp (Below.mono hbn (Below.size HBp))
      dsimp only
      refine hK.out _ _ HBn (fun _ => ?_)
      clear hK K
      (try simp only [Act.put, List.setIfInBounds_toArray, List.set_cons_zero, List.set_cons_succ])
      have rowB1 : wn.heap[W2.drew.heap.size]? = some (.cells zeroStCells 34 (0, 0)) := (Below.block hbn _ (lt_of_block rowB0)).trans rowB0
      refine wpAnyH_take (i := 5) (v := ?_) rfl (by kernel_rfl) (by kernel_rfl) (by kernel_rfl) (fun _ _ _ h => h) (Or.inl ⟨by rfl, ?_⟩) (by assumption) ?_
      rotate_left
      · (intro W hSW; go_simp; try (with_reducible rfl))
      (try simp only [List.getElem_toArray, List.getElem_cons_succ, List.getElem_cons_zero])
      (try simp only [Act.put, List.setIfInBounds_toArray, List.set_cons_zero, List.set_cons_succ])
      refine wpAnyH_take (i := 6) (v := ?_) rfl (by kernel_rfl) (by kernel_rfl) (by kernel_rfl) (fun _ _ _ h => h) (Or.inl ⟨by rfl, ?_⟩) (by assumption) ?_
      rotate_left
      · (intro W hSW; go_simp; try (with_reducible rfl))
      (try simp only [List.getElem_toArray, List.getElem_cons_succ, List.getElem_cons_zero])
      (try simp only [Act.put, List.setIfInBounds_toArray, List.set_cons_zero, List.set_cons_succ])
      refine wpAnyH_take (i := 7) (v := ?_) rfl (by kernel_rfl) (by kernel_rfl) (by kernel_rfl) (fun _ _ _ h => h) (Or.inl ⟨by rfl, ?_⟩) (by assumption) ?_
      rotate_left
      · (intro W hSW; go_simp; try (with_reducible rfl))
      (try simp only [List.getElem_toArray, List.getElem_cons_succ, List.getElem_cons_zero])
      (try simp only [Act.put, List.setIfInBounds_toArray, List.set_cons_zero, List.set_cons_succ])
      refine wpAnyH_ready (rs := [9]) (by kernel_rfl) (by simp) ?_
      refine AllReadyH.cons rfl (fun K hK => ?_) AllReadyH.nil
      refine wp_store_row 34 _ _ rfl (W2.drew.heap.size) csn rfl rfl 34 zeroStCells rowB1 e1 e2 e3 ?_
      have BN : Below W2.heap.size W2 (World.setRow wn (W2.drew.heap.size) csn) := belowSR HBn (Below.size hHeld) _
      refine hK.out _ _ BN (fun _ => ?_)
      clear hK K
      (try simp only [Act.put, List.setIfInBounds_toArray])
      refine wpAnyH_ready (rs := [10]) (by kernel_rfl) (by simp) ?_
      refine AllReadyH.cons rfl (fun K hK => ?_) AllReadyH.nil
      go_simp
      refine hK.out _ _ BN (fun _ => ?_)
      clear hK K
      (try simp only [Act.put, List.setIfInBounds_toArray, List.set_cons_zero, List.set_cons_succ])
      refine wpAnyH_done (by kernel_rfl) ?_ _
      go_wp2_with fail
      go_meet
      exact ⟨_, csn, rfl, rfl, setRow_heap _ _ _ _ _ _ rowB1, e1, e2, e3, BN, (by first | exact Nat.le_refl _ | exact (Below.size hHeld)), by first | exact ((hsn.setRow (lt_of_block rowB0) _).mono (Below.size HBp)) | exact ((hsn.setRow (lt_of_block rowA) _).mono (Below.size HBp)) | exact ((hsn.setRow (lt_of_block rowA) _).mono (Nat.le_trans (Below.size HBp) (by simp))) | exact ((hsn.moved (fun ad u ha hu => (World.cell?_of_block (setRow_other _ _ _ _ (by have := World.block_lt_of_cell? _ _ hu; omega))).trans (cell_alloc hu _))).mono (Below.size HBp))⟩
  case rest =>
    obtain ⟨Gx, csn, rfl, rfl, rowG, q1, q1b, q1c, hbc, hGx, hsx⟩ := hcut
    have HBC : Hid (Below w.heap.size w wc) := HB2.out.trans (hbc.mono HB2.out.size)
    have s2 := (hbc.block _ hz2).trans r2
    have y3 := (hbc.block _ (lt_of_block x3)).trans x3
    obtain ⟨fr, fc, kfr⟩ : ∃ fr fc, cs2[2]? = some (.slice fr 1 fc) := by
      obtain ⟨-, -, -, fr, fc, er, ec, ar, ac, e2, -⟩ := HS2.out.at
      rw [HS0.out.2.2.2] at e2
      exact ⟨fr, fc, e2⟩
    have HSX : Hid (StAt wc W2.heap.size (.agg csn) (walkS P x S)) := by rw [Nat.zero_add] at hsx; exact hsx
    have kst : csn[0]? = some (.int .i64 (walkS P x S).status) := HSX.out.val.at.1
    have HZZ : Hid (w.heap.size + 1 + 1 < g2 ∧ w.heap.size + 1 + 1 < Gx ∧ w.heap.size + 1 + 1 < W2.heap.size) := ⟨by omega, by omega, by omega⟩
    clear hbc hsx kp r2 x3 hPX HWX
    have HSTV : Hid (∀ W : World, (∀ b, w.heap.size + 1 + 1 < b → W.heap[b]? = wc.heap[b]?) → StAt W W2.heap.size (.agg csn) (walkS P x S)) := fun W hW => HSX.out.moved (fun ad u hlo hu => (World.cell?_of_block (hW _ (by have := HZZ.out; omega))).trans hu)
    generalize hstt : (walkS P x S).status = st at *
    have HST : Hid _ := hstt
    clear hstt
    go_upto_region 3 with fail
    refine wp_region_held_drew (S := fun W => W.heap[g2]? = some (.cells cs2 34 (0, 0)) ∧ W.heap[Gx]? = some (.cells csn 34 (0, 0))) (by kernel_rfl) ⟨s2, rowG⟩ (fun hHeld => ?_)
    show wpAnyH _ _ _ _ _ 18 _ _ _
    refine wpAnyH_take (i := 0) (v := .agg csn.toList.toArray) rfl (by kernel_rfl) (by kernel_rfl) (by kernel_rfl) (fun _ _ _ h => h) (yieldsIf_load_mid (by rfl) 34 _ rfl _ 0 rfl csn.toList _ (fun W hSW j u hu => by rw [cell_of_row _ _ _ _ _ _ hSW.2]; simpa using hu) Tryd.underlying34 rfl (by simpa using q1)) (by assumption) ?_
    simp only [Array.toArray_toList]
    (try simp only [List.getElem_toArray, List.getElem_cons_zero])
    (try simp only [Act.put, List.setIfInBounds_toArray, List.set_cons_zero, List.set_cons_succ])
    refine wpAnyH_take (i := 1) (v := ?_) rfl (by kernel_rfl) (by kernel_rfl) (by kernel_rfl) (fun _ _ _ h => h) (Or.inl ⟨by rfl, ?_⟩) (by assumption) ?_
    rotate_left
    · (intro W hSW; go_simp; try (with_reducible rfl))
    (try simp only [List.getElem_toArray, List.getElem_cons_succ, List.getElem_cons_zero])
    (try simp only [Act.put, List.setIfInBounds_toArray, List.set_cons_zero, List.set_cons_succ])
    refine wpAnyH_take (i := 2) (v := ?_) rfl (by kernel_rfl) (by kernel_rfl) (by kernel_rfl) (fun _ _ _ h => h) (Or.inl ⟨by rfl, ?_⟩) (by assumption) ?_
    rotate_left
    · (intro W hSW; go_simp; try (with_reducible rfl))
    (try simp only [List.getElem_toArray, List.getElem_cons_succ, List.getElem_cons_zero])
    (try simp only [Act.put, List.setIfInBounds_toArray, List.set_cons_zero, List.set_cons_succ])
    refine wpAnyH_take (i := 3) (v := ?_) rfl (by kernel_rfl) (by kernel_rfl) (by kernel_rfl) (fun _ _ _ h => h) (Or.inl ⟨by rfl, ?_⟩) (by assumption) ?_
    rotate_left
    · (intro W hSW; go_simp; try (with_reducible rfl))
    (try simp only [List.getElem_toArray, List.getElem_cons_succ, List.getElem_cons_zero])
    (try simp only [Act.put, List.setIfInBounds_toArray, List.set_cons_zero, List.set_cons_succ])
    refine wpAnyH_take (i := 4) (v := ?_) rfl (by kernel_rfl) (by kernel_rfl) (by kernel_rfl) (fun _ _ _ h => h) (Or.inl ⟨by rfl, ?_⟩) (by assumption) ?_
    rotate_left
    · (intro W hSW; go_simp; try (with_reducible rfl))
    (try simp only [List.getElem_toArray, List.getElem_cons_succ, List.getElem_cons_zero])
    (try simp only [Act.put, List.setIfInBounds_toArray, List.set_cons_zero, List.set_cons_succ])
    refine wpAnyH_take (i := 5) (v := ?_) rfl (by kernel_rfl) (by kernel_rfl) (by kernel_rfl) (fun _ _ _ h => h) (Or.inl ⟨by rfl, ?_⟩) (by assumption) ?_
    rotate_left
    · (intro W hSW; go_simp; try (with_reducible rfl))
    (try simp only [List.getElem_toArray, List.getElem_cons_succ, List.getElem_cons_zero])
    (try simp only [Act.put, List.setIfInBounds_toArray, List.set_cons_zero, List.set_cons_succ])
    refine wpAnyH_take (i := 6) (v := ?_) rfl (by kernel_rfl) (by kernel_rfl) (by kernel_rfl) (fun _ _ _ h => h) (Or.inl ⟨by rfl, ?_⟩) (by assumption) ?_
    rotate_left
    · (intro W hSW; go_simp; try (with_reducible rfl))
    (try simp only [List.getElem_toArray, List.getElem_cons_succ, List.getElem_cons_zero])
    (try simp only [Act.put, List.setIfInBounds_toArray, List.set_cons_zero, List.set_cons_succ])
    refine wpAnyH_take (i := 7) (v := ?_) rfl (by kernel_rfl) (by kernel_rfl) (by kernel_rfl) (fun _ _ _ h => h) (Or.inl ⟨by rfl, ?_⟩) (by assumption) ?_
    rotate_left
    · (intro W hSW; go_simp; try (with_reducible rfl))
    (try simp only [List.getElem_toArray, List.getElem_cons_succ, List.getElem_cons_zero])
    (try simp only [Act.put, List.setIfInBounds_toArray, List.set_cons_zero, List.set_cons_succ])
    refine wpAnyH_take (i := 8) (v := ?_) rfl (by kernel_rfl) (by kernel_rfl) (by kernel_rfl) (fun _ _ _ h => h) (Or.inl ⟨by rfl, ?_⟩) (by assumption) ?_
    rotate_left
    · (intro W hSW; have z0 : W.cell? ⟨g2, 2, none⟩ = some (.slice fr 1 fc) := (by rw [cell_of_row _ _ _ _ _ _ hSW.1]; exact kfr); go_simp; try (with_reducible rfl))
    (try simp only [List.getElem_toArray, List.getElem_cons_succ, List.getElem_cons_zero])
    (try simp only [Act.put, List.setIfInBounds_toArray, List.set_cons_zero, List.set_cons_succ])
    refine wpAnyH_take (i := 9) (v := ?_) rfl (by kernel_rfl) (by kernel_rfl) (by kernel_rfl) (fun _ _ _ h => h) (Or.inl ⟨by rfl, ?_⟩) (by assumption) ?_
    rotate_left
    · (intro W hSW; go_simp; try (with_reducible rfl))
    (try simp only [List.getElem_toArray, List.getElem_cons_succ, List.getElem_cons_zero])
    (try simp only [Act.put, List.setIfInBounds_toArray, List.set_cons_zero, List.set_cons_succ])
    refine wpAnyH_take (i := 10) (v := ?_) rfl (by kernel_rfl) (by kernel_rfl) (by kernel_rfl) (fun _ _ _ h => h) (Or.inl ⟨by rfl, ?_⟩) (by assumption) ?_
    rotate_left
    · (intro W hSW; go_simp; try (with_reducible rfl))
    (try simp only [List.getElem_toArray, List.getElem_cons_succ, List.getElem_cons_zero])
    (try simp only [Act.put, List.setIfInBounds_toArray, List.set_cons_zero, List.set_cons_succ])
    refine wpAnyH_take (i := 11) (v := ?_) rfl (by kernel_rfl) (by kernel_rfl) (by kernel_rfl) (fun _ _ _ h => h) (Or.inl ⟨by rfl, ?_⟩) (by assumption) ?_
    rotate_left
    · (intro W hSW; go_simp; try (with_reducible rfl))
    (try simp only [List.getElem_toArray, List.getElem_cons_succ, List.getElem_cons_zero])
    (try simp only [Act.put, List.setIfInBounds_toArray, List.set_cons_zero, List.set_cons_succ])
    refine wpAnyH_take (i := 12) (v := ?_) rfl (by kernel_rfl) (by kernel_rfl) (by kernel_rfl) (fun _ _ _ h => h) (Or.inl ⟨by rfl, ?_⟩) (by assumption) ?_
    rotate_left
    · (intro W hSW; go_simp; try (with_reducible rfl))
    (try simp only [List.getElem_toArray, List.getElem_cons_succ, List.getElem_cons_zero])
    (try simp only [Act.put, List.setIfInBounds_toArray, List.set_cons_zero, List.set_cons_succ])
    refine wpAnyH_take (i := 13) (v := ?_) rfl (by kernel_rfl) (by kernel_rfl) (by kernel_rfl) (fun _ _ _ h => h) (Or.inl ⟨by rfl, ?_⟩) (by assumption) ?_
    rotate_left
    · (intro W hSW; have z0 : W.cell? ⟨Gx, 0, none⟩ = some (.int .i64 st) := (by rw [cell_of_row _ _ _ _ _ _ hSW.2]; exact kst); go_simp; try (with_reducible rfl))
    (try simp only [List.getElem_toArray, List.getElem_cons_succ, List.getElem_cons_zero])
    (try simp only [Act.put, List.setIfInBounds_toArray, List.set_cons_zero, List.set_cons_succ])
    refine wpAnyH_take (i := 14) (v := ?_) rfl (by kernel_rfl) (by kernel_rfl) (by kernel_rfl) (fun _ _ _ h => h) (Or.inl ⟨by rfl, ?_⟩) (by assumption) ?_
    rotate_left
    · (intro W hSW; go_simp; try (with_reducible rfl))
    (try simp only [List.getElem_toArray, List.getElem_cons_succ, List.getElem_cons_zero])
    (try simp only [Act.put, List.setIfInBounds_toArray, List.set_cons_zero, List.set_cons_succ])
    have hgg : g2 ≠ w.heap.size + 1 + 1 := by have := HZZ.out; omega
    have hgx : Gx ≠ w.heap.size + 1 + 1 := by have := HZZ.out; omega
    have hSN : (World.setRow wc.drew (w.heap.size + 1 + 1) csn).heap[g2]? = some (.cells cs2 34 (0, 0)) ∧ (World.setRow wc.drew (w.heap.size + 1 + 1) csn).heap[Gx]? = some (.cells csn 34 (0, 0)) := ⟨(setRow_other _ _ _ _ hgg).trans s2, (setRow_other _ _ _ _ hgx).trans rowG⟩
    have y3d : wc.drew.heap[w.heap.size + 1 + 1]? = some (.cells zeroStCells 34 (0, 0)) := y3
    refine wpAnyH_ready (rs := [15]) (by kernel_rfl) (by simp) ?_
    refine AllReadyH.cons rfl (fun K hK => ?_) AllReadyH.nil
    refine wp_store_row 34 _ _ rfl (w.heap.size + 1 + 1) csn rfl rfl 34 zeroStCells y3d q1 q1b q1c ?_
    refine hK.out _ _ hSN (fun _ => ?_)
    clear hK K
    (try simp only [Act.put, List.setIfInBounds_toArray])
    refine wpAnyH_ready (rs := [16]) (by kernel_rfl) (by simp) ?_
    refine AllReadyH.cons rfl (fun K hK => ?_) AllReadyH.nil
    go_simp
    refine hK.out _ _ hSN (fun _ => ?_)
    clear hK K
    (try simp only [Act.put, List.setIfInBounds_toArray, List.set_cons_zero, List.set_cons_succ])
    refine wpAnyH_ready (rs := [17]) (by kernel_rfl) (by simp) ?_
    refine AllReadyH.cons rfl (fun K hK => ?_) AllReadyH.nil
    go_simp
    refine hK.out _ _ hSN (fun _ => ?_)
    clear hK K
    (try simp only [Act.put, List.setIfInBounds_toArray, List.set_cons_zero, List.set_cons_succ])
    refine wpAnyH_done (by kernel_rfl) ?_ _
    (try simp only [Act.put])
    have HSF : Hid (StAt (World.setRow wc.drew (w.heap.size + 1 + 1) csn) W2.heap.size (.agg csn) (walkS P x S)) := HSTV.out _ (fun b hb => setRow_other _ _ _ _ (by omega))
    have hrr := setRow_heap wc.drew (w.heap.size + 1 + 1) _ csn _ _ y3d
    have HBF : Hid (Below w.heap.size w (World.setRow wc.drew (w.heap.size + 1 + 1) csn)) := belowSR HBC.out.drew (by omega) _
    go_wp2
    try simp only [Exit.inBlock, Exit.then]
    refine bodyPost_ret (results_row_two rfl _ _ (w.heap.size + 1 + 1) 34 csn (0, 0) _ rfl hrr Tryd.underlying34 rfl q1) rfl ⟨csn, S, x, ?_, HK.out, ⟨HS0.out.1, HS0.out.2.1, HS0.out.2.2.1⟩, hx, HSF.out.mono (by have := HZZ.out; omega), HBF.out⟩
    rw [HST.out]
    rfl
end Go.Proofs.YtgdmdlkhnokieaaDoor
