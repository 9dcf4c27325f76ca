/- The walk of tierlinelaw.TiersTidies: at every program and state it says true, and nothing that was there has turned (written by gen/mksnexts.py, names changed). -/
import Derived.Test.YteabbanjjdmjkaaDoorXTidAns
import Derived.Test.YteabbanjjdmjkaaDoorXCheckNum
import Derived.Test.YteabbanjjdmjkaaDoorXLawSChecks
import Derived.Test.YteabbanjjdmjkaaDoorGroupW
namespace Go.Proofs.YteabbanjjdmjkaaDoor
open Go Go.RowKit

theorem wpList_load_wantedT {P : Program} {ops : Array Oper} {rest : List Oper} {o : Oper} {a : Act} {w : World} {Q : Exit → Act → World → Prop} (hw : Region.wanted o (yielded ops a.tmps) = true) (ty : TypeId) (x : Operand) (ho : o.op = .load ty x)
    (g : Nat) (hx : a.eval x = .pointer (some ⟨g, 0, none⟩)) (t : TypeId) (cs : Array Value) (fr : Nat × Nat) (d : TypeDesc) (hg : w.heap[g]? = some (.cells cs t fr))
    (hu : P.underlying ty = some d) (hd : (match d with | .struct _ | .array _ _ => true | _ => false) = true) (hi : (P.info? ty).map (·.size) = some cs.size)
    (h : wpList P ops Q rest (a.put o.dst (.agg cs)) w) : wpList P ops Q (o :: rest) a w := by
  simp only [wpList, hw, if_true]
  exact Or.inl (wp_load_row ty x ho g hx t cs fr d hg hu hd hi h)
set_option maxRecDepth 100000 in
set_option maxHeartbeats 8000000 in
theorem tiersTidies_walk (p : List Fn) (v sv : Value) (s : St) (w : World) (ht : TabOk w) (hc : CallOk w) (hv : ProgVal w v p) (hst : StVal w sv s) (hs : p.length * 40 ≤ 140737488355328) (hs' : ∀ f ∈ p, f.code.length * 40 ≤ 140737488355328) (h1 : s.frames.length * 112 ≤ 140737488351232) (h2 : s.events.length * 8 ≤ 140737488351232) (h3 : s.answers.length * 8 ≤ 140737488351232) :
    Calls Tryd.prog 7 #[.agg #[v], sv] w fun e w' => e = .returned (.bool true) ∧ Below w.heap.size w w' := by
  obtain ⟨c, hE, hc0⟩ := check_num p s
  obtain ⟨ao, n0, cap0, rfl⟩ := hv.shape
  obtain ⟨cs, rfl, c1, c2, c3⟩ := hst.cells
  have hbx : ∀ o o', Below w.heap.size w ((w.alloc o).alloc o') := fun o o' => ((Below.refl _ _).alloc (Nat.le_refl _) _).alloc (by simp) _
  have HB0 : Hid (Below w.heap.size w ((w.alloc (.cells #[.slice ao n0 cap0] 24)).alloc (.cells cs 29))) := hbx _ _
  have HKP : Hid (((w.alloc (.cells #[.slice ao n0 cap0] 24)).alloc (.cells cs 29)).heap[w.heap.size]? = some (.cells #[.slice ao n0 cap0] 24 (0, 0))) := heap_alloc2_old _ _ _
  have rs : ((w.alloc (.cells #[.slice ao n0 cap0] 24)).alloc (.cells cs 29)).heap[w.heap.size + 1]? = some (.cells cs 29 (0, 0)) := heap_alloc2_new _ _ _
  have HV : Hid (∀ W, Below w.heap.size w W → ProgVal W (.slice ao n0 cap0) p ∧ StVal W (.agg cs) s ∧ TabOk W ∧ CallOk W) := fun W hW => ⟨hv.keeps (keeps_below hW), hst.keeps (keeps_below hW), ht.below hW, hc.below hW⟩
  have HPG : Hid (∀ W, Below w.heap.size w W → Calls Tryd.prog 11 #[.agg #[.slice ao n0 cap0]] W _) := fun W hW => programs_any p (.slice ao n0 cap0) W (HV.out W hW).1 hs hs'
  have HSG : Hid (∀ W, Below w.heap.size w W → Calls Tryd.prog 12 #[.agg cs] W _) := fun W hW => states_any s (.agg cs) W (HV.out W hW).2.1 h1 h2 h3
  have HNX : Hid (∀ W vp vs, Below w.heap.size w W → ProgVal W vp p → StVal W vs s → Calls Tryd.prog 24 #[.agg #[vp], vs] W _) := fun W vp vs hW hp hvs => tidyF_all p vp vs s c W (HV.out W hW).2.2.1 (HV.out W hW).2.2.2 hp hvs hE hc0 h2
  have HND : Hid (∀ W, Below w.heap.size w W → Calls Tryd.prog 25 #[.agg #[.slice ao n0 cap0], .agg cs] W _) := fun W hW => tidied_all p _ _ s c W (HV.out W hW).1 (HV.out W hW).2.1 hE hc0 h1 h2 h3
  have HSS : Hid (∀ (x : St) W va vb, StVal W va x → StVal W vb x → Calls Tryd.prog 14 #[va, vb] W fun e w' => e = .returned (.bool true) ∧ Below W.heap.size W w') := fun x W va vb ha hb => sameState_law x va vb W ha hb
  generalize tidA p s c = R at *
  clear hv hst ht hc hs hs' h1 h2 h3 hbx hE hc0
  go_enter Tryd.func7, Tryd.ntmps7
  go_upto_region 1 with fail
  generalize ((w.alloc (.cells #[.slice ao n0 cap0] 24)).alloc (.cells cs 29)) = W0 at *
  go_upto_region 2 with (first
    | (refine wpList_load_row rfl _ _ rfl _ rfl _ _ _ _ rs Tryd.underlying29 rfl c1 ?_)
    | (go_at_call 12; refine (HSG.out _ HB0.out).mono ?_; rintro e wa ⟨va, rfl, hva, hba⟩; obtain ⟨ca, rfl, a1, a2, a3⟩ := hva.cells; have HBA : Hid (Below W0.heap.size W0 wa) := hba; have HVA : Hid (StVal wa (.agg ca) s) := hva; clear hba hva)
    | (refine wpList_store_row rfl _ _ _ rfl _ _ rfl rfl _ _ (heap_alloc_last wa _) a1 a2 a3 ?_; rw [World.setRow_alloc_new]))
  have hzz : W0.heap.size ≤ wa.heap.size := HBA.out.size
  have HW1 : Hid (Below W0.heap.size W0 (wa.alloc (.cells ca 29))) := HBA.out.alloc hzz _
  have ra : (wa.alloc (.cells ca 29)).heap[wa.heap.size]? = some (.cells ca 29 (0, 0)) := heap_alloc_last wa _
  have HVA1 : Hid (StVal (wa.alloc (.cells ca 29)) (.agg ca) s) := HVA.out.keeps (keeps_below ((Below.refl _ _).alloc (Nat.le_refl _) _))
  have hza : wa.heap.size < (wa.alloc (.cells ca 29)).heap.size := by simp
  generalize wa.alloc (.cells ca 29) = W1 at *
  generalize wa.heap.size = ba at *
  have HB1 : Hid (Below w.heap.size w W1) := HB0.out.trans (HW1.out.mono HB0.out.size)
  have kp : W1.cell? ⟨w.heap.size, 0, none⟩ = some (.slice ao n0 cap0) := by rw [cell_of_row _ _ _ _ _ _ ((HW1.out.block _ (lt_of_block HKP.out)).trans HKP.out)]; rfl
  have rs1 := (HW1.out.block _ (lt_of_block rs)).trans rs
  clear rs
  (try simp only [Act.put])
  go_cut [6, 7] from 12 to 18 (fun t e wx => ∃ (Gx : Nat) (csn : Array Value), t = .pointer (some ⟨Gx, 0, none⟩) ∧ e = .int .i64 c ∧ wx.heap[Gx]? = some (.cells csn 29 (0, 0)) ∧ (Tryd.prog.info? 29).map (·.size) = some csn.size ∧ Below W1.heap.size W1 wx ∧ Gx < wx.heap.size ∧ StVal wx (.agg csn) R)
  case first =>
    refine wp_region_held_drew (S := fun W => Below W1.heap.size W1 W) (by kernel_rfl) ((Below.refl _ _).drew) (fun hHeld => ?_)
    show wpAnyH _ _ _ _ _ 10 _ _ _
    refine wpAnyH_take (i := 0) (v := ?_) rfl (by kernel_rfl) (by kernel_rfl) (by kernel_rfl) (fun _ _ _ h => h) (Or.inl ⟨by rfl, ?_⟩) (by assumption) ?_
    rotate_left
    · (intro W hSW; have zz := keeps_below hSW _ _ kp; go_simp; try (with_reducible rfl))
    (try simp only [List.getElem_toArray, List.getElem_cons_zero])
    (try simp only [Act.put, List.setIfInBounds_toArray, List.set_cons_zero, List.set_cons_succ])
    refine wpAnyH_take (i := 2) (v := .agg ca.toList.toArray) rfl (by kernel_rfl) (by kernel_rfl) (by kernel_rfl) (fun _ _ _ h => h) (yieldsIf_load_mid (by rfl) 29 _ rfl _ 0 rfl ca.toList _ (fun W hSW j u hu => by rw [cell_of_row _ _ _ _ _ _ ((hSW.block _ hza).trans ra)]; simpa using hu) Tryd.underlying29 rfl (by simpa using a1)) (by assumption) ?_
    simp only [Array.toArray_toList]
    (try simp only [List.getElem_toArray, List.getElem_cons_succ, List.getElem_cons_zero])
    (try simp only [Act.put, List.setIfInBounds_toArray, List.set_cons_zero, List.set_cons_succ])
    refine wpAnyH_ready (rs := [1, 7]) (by kernel_rfl) (by simp) ?_
    refine AllReadyH.cons rfl (fun K hK => ?_) (AllReadyH.cons rfl (fun K hK => ?_) AllReadyH.nil)
    · go_simp
      go_at_call 11
      refine (HPG.out _ (HB1.out.trans (Below.mono hHeld (HB1.out.size)))).mono ?_
      rintro e wp ⟨vp, rfl, hvp, hbp⟩
      obtain ⟨ap, np, cp, rfl⟩ := hvp.shape
      have hbw : Below W1.heap.size W1 wp := Below.trans hHeld (hbp.mono (Below.size hHeld))
      dsimp only
      refine hK.out _ _ hbw (fun _ => ?_)
      clear hK K
      (try simp only [Act.put, List.setIfInBounds_toArray, List.set_cons_zero, List.set_cons_succ])
      refine wpAnyH_ready (rs := [3, 7]) (by kernel_rfl) (by simp) ?_
      refine AllReadyH.cons rfl (fun K hK => ?_) (AllReadyH.cons rfl (fun K hK => ?_) AllReadyH.nil)
      · go_simp
        go_at_call 24
        refine (HNX.out _ _ _ (HB1.out.trans (Below.mono hbw (HB1.out.size))) (hvp.keeps (keeps_below (Below.refl _ _))) (HVA1.out.keeps (keeps_below hbw))).mono ?_
        rintro e wn ⟨csn, rfl, n1, n2, n3, hst, hb⟩
        have hbn : Below W1.heap.size W1 wn := Below.trans hbw (hb.mono (Below.size hbw))
        dsimp only
        refine hK.out _ _ hbn (fun _ => ?_)
        clear hK K
        (try simp only [Act.put, List.setIfInBounds_toArray, List.set_cons_zero, List.set_cons_succ])
        refine wpAnyH_take (i := 4) (v := ?_) rfl (by kernel_rfl) (by kernel_rfl) (by kernel_rfl) (fun _ _ _ h => h) (Or.inl ⟨by rfl, ?_⟩) hbn ?_
        rotate_left
        · (intro W hSW; go_simp; try (with_reducible rfl))
        (try simp only [List.getElem_toArray, List.getElem_cons_succ, List.getElem_cons_zero])
        (try simp only [Act.put, List.setIfInBounds_toArray, List.set_cons_zero, List.set_cons_succ])
        refine wpAnyH_take (i := 5) (v := ?_) rfl (by kernel_rfl) (by kernel_rfl) (by kernel_rfl) (fun _ _ _ h => h) (Or.inl ⟨by rfl, ?_⟩) hbn ?_
        rotate_left
        · (intro W hSW; go_simp; try (with_reducible rfl))
        (try simp only [List.getElem_toArray, List.getElem_cons_succ, List.getElem_cons_zero])
        (try simp only [Act.put, List.setIfInBounds_toArray, List.set_cons_zero, List.set_cons_succ])
        refine wpAnyH_take (i := 6) (v := ?_) rfl (by kernel_rfl) (by kernel_rfl) (by kernel_rfl) (fun _ _ _ h => h) (Or.inl ⟨by rfl, ?_⟩) hbn ?_
        rotate_left
        · (intro W hSW; go_simp; try (with_reducible rfl))
        (try simp only [List.getElem_toArray, List.getElem_cons_succ, List.getElem_cons_zero])
        (try simp only [Act.put, List.setIfInBounds_toArray, List.set_cons_zero, List.set_cons_succ])
        refine wpAnyH_ready (rs := [7]) (by kernel_rfl) (by simp) ?_
        refine AllReadyH.cons rfl (fun K hK => ?_) AllReadyH.nil
        go_simp
        refine hK.out _ _ (hbn.alloc hbn.size _) (fun hHeld2 => ?_)
        clear hK K
        (try simp only [Act.put, List.setIfInBounds_toArray, List.set_cons_zero, List.set_cons_succ])
        refine wpAnyH_ready (rs := [8]) (by kernel_rfl) (by simp) ?_
        refine AllReadyH.cons rfl (fun K hK => ?_) AllReadyH.nil
        refine wp_store_row 29 _ _ rfl wn.heap.size csn rfl rfl 29 zeroStCells (heap_alloc_last wn _) n1 n2 n3 ?_
        have BN : Below W1.heap.size W1 (World.setRow (wn.alloc (.cells #[.int .i64 0, .int .i64 0, .slice none 0 0, .int .i64 0, .int .i64 0, .int .i64 0, .int .i64 0, .int .i64 0, .int .i64 0, .int .i64 0, .int .i64 0, .int .i64 0, .int .i64 0, .int .i64 0, .int .i64 0, .int .i64 0, .int .i64 0, .int .i64 0, .int .i64 0, .int .i64 0, .slice none 0 0, .slice none 0 0] 29)) wn.heap.size csn) := belowSR (hbn.alloc hbn.size _) (by first | exact hbn.size | exact hbw.size | exact Nat.le_refl _) _
        refine hK.out _ _ BN (fun _ => ?_)
        clear hK K
        (try simp only [Act.put, List.setIfInBounds_toArray])
        refine wpAnyH_ready (rs := [9]) (by kernel_rfl) (by simp) ?_
        refine AllReadyH.cons rfl (fun K hK => ?_) AllReadyH.nil
        go_simp
        refine hK.out _ _ BN (fun _ => ?_)
        clear hK K
        (try simp only [Act.put, List.setIfInBounds_toArray, List.set_cons_zero, List.set_cons_succ])
        refine wpAnyH_done (by kernel_rfl) ?_ _
        go_wp2_with fail
        go_meet
        exact ⟨_, csn, rfl, rfl, setRow_heap _ _ _ _ _ _ (heap_alloc_last wn _), n1, BN, lt_of_block (setRow_heap _ _ _ _ _ _ (heap_alloc_last wn _)), (hst.moved (fun ad u ha hu => (World.cell?_of_block (setRow_other _ _ _ _ (by have := World.block_lt_of_cell? _ _ hu; omega))).trans (cell_alloc hu _))).val⟩
      · go_simp
        refine hK.out _ _ (hbw.alloc hbw.size _) (fun hHeld2 => ?_)
        clear hK K
        (try simp only [Act.put, List.setIfInBounds_toArray, List.set_cons_zero, List.set_cons_succ])
        refine wpAnyH_ready (rs := [3]) (by kernel_rfl) (by simp) ?_
        refine AllReadyH.cons rfl (fun K hK => ?_) AllReadyH.nil
        go_simp
        go_at_call 24
        refine (HNX.out _ _ _ (HB1.out.trans (Below.mono hHeld2 (HB1.out.size))) (hvp.keeps (keeps_below ((Below.refl _ _).alloc (Nat.le_refl _) _))) (HVA1.out.keeps (keeps_below hHeld2))).mono ?_
        rintro e wn ⟨csn, rfl, n1, n2, n3, hst, hb⟩
        have hbn : Below W1.heap.size W1 wn := Below.trans hHeld2 (hb.mono (Below.size hHeld2))
        dsimp only
        refine hK.out _ _ hbn (fun _ => ?_)
        clear hK K
        (try simp only [Act.put, List.setIfInBounds_toArray, List.set_cons_zero, List.set_cons_succ])
        have hgz : wn.heap[wp.heap.size]? = some (.cells zeroStCells 29 (0, 0)) := (hb.block _ (by simp)).trans (heap_alloc_last wp _)
        refine wpAnyH_take (i := 4) (v := ?_) rfl (by kernel_rfl) (by kernel_rfl) (by kernel_rfl) (fun _ _ _ h => h) (Or.inl ⟨by rfl, ?_⟩) hbn ?_
        rotate_left
        · (intro W hSW; go_simp; try (with_reducible rfl))
        (try simp only [List.getElem_toArray, List.getElem_cons_succ, List.getElem_cons_zero])
        (try simp only [Act.put, List.setIfInBounds_toArray, List.set_cons_zero, List.set_cons_succ])
        refine wpAnyH_take (i := 5) (v := ?_) rfl (by kernel_rfl) (by kernel_rfl) (by kernel_rfl) (fun _ _ _ h => h) (Or.inl ⟨by rfl, ?_⟩) hbn ?_
        rotate_left
        · (intro W hSW; go_simp; try (with_reducible rfl))
        (try simp only [List.getElem_toArray, List.getElem_cons_succ, List.getElem_cons_zero])
        (try simp only [Act.put, List.setIfInBounds_toArray, List.set_cons_zero, List.set_cons_succ])
        refine wpAnyH_take (i := 6) (v := ?_) rfl (by kernel_rfl) (by kernel_rfl) (by kernel_rfl) (fun _ _ _ h => h) (Or.inl ⟨by rfl, ?_⟩) hbn ?_
        rotate_left
        · (intro W hSW; go_simp; try (with_reducible rfl))
        (try simp only [List.getElem_toArray, List.getElem_cons_succ, List.getElem_cons_zero])
        (try simp only [Act.put, List.setIfInBounds_toArray, List.set_cons_zero, List.set_cons_succ])
        refine wpAnyH_ready (rs := [8]) (by kernel_rfl) (by simp) ?_
        refine AllReadyH.cons rfl (fun K hK => ?_) AllReadyH.nil
        refine wp_store_row 29 _ _ rfl wp.heap.size csn rfl rfl 29 zeroStCells hgz n1 n2 n3 ?_
        have BN : Below W1.heap.size W1 (World.setRow wn wp.heap.size csn) := belowSR hbn (by first | exact hbn.size | exact hbw.size | exact Nat.le_refl _) _
        refine hK.out _ _ BN (fun _ => ?_)
        clear hK K
        (try simp only [Act.put, List.setIfInBounds_toArray])
        refine wpAnyH_ready (rs := [9]) (by kernel_rfl) (by simp) ?_
        refine AllReadyH.cons rfl (fun K hK => ?_) AllReadyH.nil
        go_simp
        refine hK.out _ _ BN (fun _ => ?_)
        clear hK K
        (try simp only [Act.put, List.setIfInBounds_toArray, List.set_cons_zero, List.set_cons_succ])
        refine wpAnyH_done (by kernel_rfl) ?_ _
        go_wp2_with fail
        go_meet
        exact ⟨_, csn, rfl, rfl, setRow_heap _ _ _ _ _ _ hgz, n1, BN, lt_of_block (setRow_heap _ _ _ _ _ _ hgz), (hst.setRow (by simp) _).val⟩
    · go_simp
      refine hK.out _ _ ((Below.refl _ _).alloc (Nat.le_refl _) _).drew (fun hHeld2 => ?_)
      clear hK K
      (try simp only [Act.put, List.setIfInBounds_toArray, List.set_cons_zero, List.set_cons_succ])
      refine wpAnyH_ready (rs := [1]) (by kernel_rfl) (by simp) ?_
      refine AllReadyH.cons rfl (fun K hK => ?_) AllReadyH.nil
      go_simp
      go_at_call 11
      refine (HPG.out _ (HB1.out.trans (Below.mono hHeld2 (HB1.out.size)))).mono ?_
      rintro e wp ⟨vp, rfl, hvp, hbp⟩
      obtain ⟨ap, np, cp, rfl⟩ := hvp.shape
      have hbw : Below W1.heap.size W1 wp := Below.trans hHeld2 (hbp.mono (Below.size hHeld2))
      dsimp only
      refine hK.out _ _ hbw (fun _ => ?_)
      clear hK K
      (try simp only [Act.put, List.setIfInBounds_toArray, List.set_cons_zero, List.set_cons_succ])
      refine wpAnyH_ready (rs := [3]) (by kernel_rfl) (by simp) ?_
      refine AllReadyH.cons rfl (fun K hK => ?_) AllReadyH.nil
      go_simp
      go_at_call 24
      refine (HNX.out _ _ _ (HB1.out.trans (Below.mono hbw (HB1.out.size))) (hvp.keeps (keeps_below (Below.refl _ _))) (HVA1.out.keeps (keeps_below hbw))).mono ?_
      rintro e wn ⟨csn, rfl, n1, n2, n3, hst, hb⟩
      have hbn : Below W1.heap.size W1 wn := Below.trans hbw (hb.mono (Below.size hbw))
      dsimp only
      refine hK.out _ _ hbn (fun _ => ?_)
      clear hK K
      (try simp only [Act.put, List.setIfInBounds_toArray, List.set_cons_zero, List.set_cons_succ])
      have hgz : wn.heap[W1.heap.size]? = some (.cells zeroStCells 29 (0, 0)) := (hb.block _ (by have := hbp.size; simp at this; omega)).trans ((hbp.block _ (by simp)).trans (heap_alloc_last W1 _))
      refine wpAnyH_take (i := 4) (v := ?_) rfl (by kernel_rfl) (by kernel_rfl) (by kernel_rfl) (fun _ _ _ h => h) (Or.inl ⟨by rfl, ?_⟩) hbn ?_
      rotate_left
      · (intro W hSW; go_simp; try (with_reducible rfl))
      (try simp only [List.getElem_toArray, List.getElem_cons_succ, List.getElem_cons_zero])
      (try simp only [Act.put, List.setIfInBounds_toArray, List.set_cons_zero, List.set_cons_succ])
      refine wpAnyH_take (i := 5) (v := ?_) rfl (by kernel_rfl) (by kernel_rfl) (by kernel_rfl) (fun _ _ _ h => h) (Or.inl ⟨by rfl, ?_⟩) hbn ?_
      rotate_left
      · (intro W hSW; go_simp; try (with_reducible rfl))
      (try simp only [List.getElem_toArray, List.getElem_cons_succ, List.getElem_cons_zero])
      (try simp only [Act.put, List.setIfInBounds_toArray, List.set_cons_zero, List.set_cons_succ])
      refine wpAnyH_take (i := 6) (v := ?_) rfl (by kernel_rfl) (by kernel_rfl) (by kernel_rfl) (fun _ _ _ h => h) (Or.inl ⟨by rfl, ?_⟩) hbn ?_
      rotate_left
      · (intro W hSW; go_simp; try (with_reducible rfl))
      (try simp only [List.getElem_toArray, List.getElem_cons_succ, List.getElem_cons_zero])
      (try simp only [Act.put, List.setIfInBounds_toArray, List.set_cons_zero, List.set_cons_succ])
      refine wpAnyH_ready (rs := [8]) (by kernel_rfl) (by simp) ?_
      refine AllReadyH.cons rfl (fun K hK => ?_) AllReadyH.nil
      refine wp_store_row 29 _ _ rfl W1.heap.size csn rfl rfl 29 zeroStCells hgz n1 n2 n3 ?_
      have BN : Below W1.heap.size W1 (World.setRow wn W1.heap.size csn) := belowSR hbn (by first | exact hbn.size | exact hbw.size | exact Nat.le_refl _) _
      refine hK.out _ _ BN (fun _ => ?_)
      clear hK K
      (try simp only [Act.put, List.setIfInBounds_toArray])
      refine wpAnyH_ready (rs := [9]) (by kernel_rfl) (by simp) ?_
      refine AllReadyH.cons rfl (fun K hK => ?_) AllReadyH.nil
      go_simp
      refine hK.out _ _ BN (fun _ => ?_)
      clear hK K
      (try simp only [Act.put, List.setIfInBounds_toArray, List.set_cons_zero, List.set_cons_succ])
      refine wpAnyH_done (by kernel_rfl) ?_ _
      go_wp2_with fail
      go_meet
      exact ⟨_, csn, rfl, rfl, setRow_heap _ _ _ _ _ _ hgz, n1, BN, lt_of_block (setRow_heap _ _ _ _ _ _ hgz), (hst.setRow (by have := hbp.size; simp at this; omega) _).val⟩
  case rest =>
    obtain ⟨Gx, csn, rfl, rfl, rowG, q1, hbc, hG, stv⟩ := hcut
    have HBC : Hid (Below W1.heap.size W1 wc) := hbc
    have HBW : Hid (Below w.heap.size w wc) := HB1.out.trans (hbc.mono HB1.out.size)
    have HSV : Hid (StVal wc (.agg csn) R) := stv
    have kp2 := keeps_below hbc _ _ kp
    have rs2 := (hbc.block _ (lt_of_block rs1)).trans rs1
    have ra2 := (hbc.block _ hza).trans ra
    have HVA2 : Hid (StVal wc (.agg ca) s) := HVA1.out.keeps (keeps_below hbc)
    have HST2 : Hid (StVal wc (.agg cs) s) := (HV.out _ HBW.out).2.1
    clear hbc stv kp rs1 ra HNX HPG HSG
    go_wp2_with (first
      | (refine wpList_load_row rfl 29 (.tmp 3) rfl _ rfl _ _ _ _ rs2 Tryd.underlying29 rfl c1 ?_)
      | (go_at_call 25; refine (HND.out _ HBW.out).mono ?_; rintro e wz ⟨cz, rfl, z1, z2, z3, hsz, hbz⟩; have HBZ : Hid (Below wc.heap.size wc wz) := hbz; have HSZ : Hid (StVal wz (.agg cz) R) := hsz; clear hbz hsz)
      | (refine wpList_store_row rfl _ _ _ rfl _ _ rfl rfl _ _ (heap_alloc_last wz _) z1 z2 z3 ?_; rw [World.setRow_alloc_new]; have HA3 : Hid (Below wc.heap.size wc (wz.alloc (.cells cz 29))) := HBZ.out.alloc HBZ.out.size _; have rG3 := (HA3.out.block _ hG).trans rowG; have rz3 : (wz.alloc (.cells cz 29)).heap[wz.heap.size]? = some (.cells cz 29 (0, 0)) := heap_alloc_last wz _; have ra3 := (HA3.out.block _ (lt_of_block ra2)).trans ra2; have rs3 := (HA3.out.block _ (lt_of_block rs2)).trans rs2; have HQ : Hid (StVal (wz.alloc (.cells cz 29)) (.agg csn) R ∧ StVal (wz.alloc (.cells cz 29)) (.agg cz) R ∧ StVal (wz.alloc (.cells cz 29)) (.agg ca) s ∧ StVal (wz.alloc (.cells cz 29)) (.agg cs) s) := ⟨HSV.out.keeps (keeps_below HA3.out), HSZ.out.keeps (keeps_below ((Below.refl _ _).alloc (Nat.le_refl _) _)), HVA2.out.keeps (keeps_below HA3.out), HST2.out.keeps (keeps_below HA3.out)⟩)
      | (refine wpList_load_wantedT rfl _ _ rfl Gx rfl _ _ _ _ rG3 Tryd.underlying29 rfl q1 ?_)
      | (refine wpList_load_wantedT rfl _ _ rfl wz.heap.size rfl _ _ _ _ rz3 Tryd.underlying29 rfl z1 ?_)
      | (go_at_call 14; refine (HSS.out R _ _ _ HQ.out.1 HQ.out.2.1).mono ?_; rintro e w8 ⟨rfl, hb8⟩; have ra8 := (hb8.block _ (lt_of_block ra3)).trans ra3; have rs8 := (hb8.block _ (lt_of_block rs3)).trans rs3; have HQ8 : Hid (StVal w8 (.agg ca) s ∧ StVal w8 (.agg cs) s) := ⟨HQ.out.2.2.1.keeps (keeps_below hb8), HQ.out.2.2.2.keeps (keeps_below hb8)⟩; have HB8 : Hid (Below wc.heap.size wc w8) := HA3.out.trans (hb8.mono HA3.out.size); clear hb8 rG3 rz3 HQ)
      | (refine wpList_load_wantedT rfl _ _ rfl ba rfl _ _ _ _ ra8 Tryd.underlying29 rfl a1 ?_)
      | (refine wpList_load_wantedT rfl _ _ rfl (w.heap.size + 1) rfl _ _ _ _ rs8 Tryd.underlying29 rfl c1 ?_)
      | (go_at_call 14; refine (HSS.out s _ _ _ HQ8.out.1 HQ8.out.2).mono ?_; rintro e w9 ⟨rfl, hb9⟩; have HB9 : Hid (Below wc.heap.size wc w9) := HB8.out.trans (hb9.mono HB8.out.size); clear hb9))
    go_ret
    exact ⟨rfl, HBW.out.trans (HB9.out.mono HBW.out.size)⟩
end Go.Proofs.YteabbanjjdmjkaaDoor
