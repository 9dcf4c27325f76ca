/- The walk of tierlinelaw.EmitLeaves: at every program, state and machine it says true, and nothing that was there has turned (written by gen/mkleaves.py). -/
import Derived.Test.YteabbanjjdmjkaaDoorXLeaveAns
import Derived.Test.YteabbanjjdmjkaaDoorXCheckNum
import Derived.Test.YteabbanjjdmjkaaDoorXLawSChecks
import Derived.Test.YteabbanjjdmjkaaDoorGroupW
namespace Go.Proofs.YteabbanjjdmjkaaDoor
open Go Go.RowKit

theorem wpList_load_wantedL {P : Program} {ops : Array Oper} {rest : List Oper} {o : Oper} {a : Act} {w : World} {Q : Exit → Act → World → Prop} (hw : Region.wanted o (yielded ops a.tmps) = true) (ty : TypeId) (x : Operand) (ho : o.op = .load ty x)
    (g : Nat) (hx : a.eval x = .pointer (some ⟨g, 0, none⟩)) (t : TypeId) (cs : Array Value) (fr : Nat × Nat) (d : TypeDesc) (hg : w.heap[g]? = some (.cells cs t fr))
    (hu : P.underlying ty = some d) (hd : (match d with | .struct _ | .array _ _ => true | _ => false) = true) (hi : (P.info? ty).map (·.size) = some cs.size)
    (h : wpList P ops Q rest (a.put o.dst (.agg cs)) w) : wpList P ops Q (o :: rest) a w := by
  simp only [wpList, hw, if_true]
  exact Or.inl (wp_load_row ty x ho g hx t cs fr d hg hu hd hi h)
set_option maxRecDepth 100000 in
set_option maxHeartbeats 8000000 in
theorem emitLeaves_walk (p : List Fn) (v sv : Value) (s : St) (cp : Cp) (w : World) (ht : TabOk w) (hc : CallOk w) (hv : ProgVal w v p) (hst : StVal w sv s) (hcp : cp.Ok) (hs : p.length * 40 ≤ 140737488355328) (hs' : ∀ f ∈ p, f.code.length * 40 ≤ 140737488355328) (h1 : s.frames.length * 112 ≤ 140737488351232) (h2 : s.events.length * 8 ≤ 140737488351232) (h3 : s.answers.length * 8 ≤ 140737488351232) :
    Calls Tryd.prog 3 #[.agg #[v], sv, cp.val] w fun e w' => e = .returned (.bool true) ∧ Below w.heap.size w w' := by
  obtain ⟨d, hE, hc0⟩ := check_num p s
  obtain ⟨ao, n0, cap0, rfl⟩ := hv.shape
  obtain ⟨cs, rfl, c1, c2, c3⟩ := hst.cells
  have HV : Hid (∀ W, Below w.heap.size w W → ProgVal W (.slice ao n0 cap0) p ∧ StVal W (.agg cs) s ∧ TabOk W ∧ CallOk W) := fun W hW => ⟨hv.keeps (keeps_below hW), hst.keeps (keeps_below hW), ht.below hW, hc.below hW⟩
  have HPG : Hid (∀ W, Below w.heap.size w W → Calls Tryd.prog 11 #[.agg #[.slice ao n0 cap0]] W _) := fun W hW => programs_any p (.slice ao n0 cap0) W (HV.out W hW).1 hs hs'
  have HSG : Hid (∀ W, Below w.heap.size w W → Calls Tryd.prog 12 #[.agg cs] W _) := fun W hW => states_any s (.agg cs) W (HV.out W hW).2.1 h1 h2 h3
  have HNX : Hid (∀ W vp vs, Below w.heap.size w W → ProgVal W vp p → StVal W vs s → Calls Tryd.prog 10 #[.agg #[vp], vs, cp.val] W _) := fun W vp vs hW hp hvs => leave_all p vp vs s d cp W (HV.out W hW).2.2.1 (HV.out W hW).2.2.2 hp hvs hE hc0 h2 hcp
  have HND : Hid (∀ W, Below w.heap.size w W → Calls Tryd.prog 13 #[.agg #[.slice ao n0 cap0], .agg cs, cp.val] W _) := fun W hW => left_all p _ _ s d cp W (HV.out W hW).1 (HV.out W hW).2.1 hE hc0 h1 h2 h3 hcp
  have HSS : Hid (∀ (x : St) W va vb, StVal W va x → StVal W vb x → Calls Tryd.prog 14 #[va, vb] W fun e w' => e = .returned (.bool true) ∧ Below W.heap.size W w') := fun x W va vb ha hb => sameState_law x va vb W ha hb
  have i0 : (Tryd.prog.info? 33).map (·.size) = some (cpuCells cp).toArray.size := infoCpC hcp
  have i0L : (Tryd.prog.info? 33).map (·.size) = some (cpuCells cp).length := by simpa using i0
  generalize leE p s d cp = RE at *
  generalize leA p s d cp = R at *
  unfold Cp.val at *
  generalize cpuCells cp = CC at *
  clear hv hst ht hc hs hs' h1 h2 h3 hE hc0 hcp
  go_enter Tryd.func3, Tryd.ntmps3
  go_upto_region 1 with fail
  have HB0 : Hid (Below w.heap.size w (((w.alloc (.cells #[.slice ao n0 cap0] 24)).alloc (.cells cs 29)).alloc (.cells CC.toArray 33))) := (((Below.refl _ _).alloc (Nat.le_refl _) _).alloc (by simp) _).alloc (by simp <;> omega) _
  have kp : (((w.alloc (.cells #[.slice ao n0 cap0] 24)).alloc (.cells cs 29)).alloc (.cells CC.toArray 33)).cell? ⟨w.heap.size, 0, none⟩ = some (.slice ao n0 cap0) := by rw [cell_of_row _ _ _ _ _ _ (heap_alloc_old _ _ (by simp <;> omega) |>.trans (heap_alloc2_old _ _ _))]; rfl
  have rs : (((w.alloc (.cells #[.slice ao n0 cap0] 24)).alloc (.cells cs 29)).alloc (.cells CC.toArray 33)).heap[w.heap.size + 1]? = some (.cells cs 29 (0, 0)) := heap_alloc_old _ _ (by simp <;> omega) |>.trans (heap_alloc2_new _ _ _)
  have rc : (((w.alloc (.cells #[.slice ao n0 cap0] 24)).alloc (.cells cs 29)).alloc (.cells CC.toArray 33)).heap[w.heap.size + 1 + 1]? = some (.cells CC.toArray 33 (0, 0)) := heap_alloc3_new _ _ _ _
  generalize (((w.alloc (.cells #[.slice ao n0 cap0] 24)).alloc (.cells cs 29)).alloc (.cells CC.toArray 33)) = W0 at *
  have hzs : w.heap.size + 1 < W0.heap.size := lt_of_block rs
  have hzc : w.heap.size + 1 + 1 < W0.heap.size := lt_of_block rc
  (try simp only [Act.put])
  go_cut [7, 8] from 11 to 19 (fun t e wx => ∃ (Gx : Nat) (csn : Array Value), t = .pointer (some ⟨Gx, 0, none⟩) ∧ e = .int .i64 RE ∧ wx.heap[Gx]? = some (.cells csn 29 (0, 0)) ∧ (Tryd.prog.info? 29).map (·.size) = some csn.size ∧ Below W0.heap.size W0 wx ∧ StVal wx (.agg csn) R)
  case first =>
    refine wp_region_held_drew (S := fun W => Below W0.heap.size W0 W) (by kernel_rfl) ((Below.refl _ _).drew) (fun hHeld => ?_)
    show wpAnyH _ _ _ _ _ 12 _ _ _
    refine wpAnyH_take (i := 0) (v := ?_) rfl (by kernel_rfl) (by kernel_rfl) (by kernel_rfl) (fun _ _ _ h => h) (Or.inl ⟨by rfl, ?_⟩) (by assumption) ?_
    rotate_left
    · (intro W hSW; have zz := keeps_below hSW _ _ kp; go_simp; try (with_reducible rfl))
    (try simp only [List.getElem_toArray, List.getElem_cons_zero])
    (try simp only [Act.put, List.setIfInBounds_toArray, List.set_cons_zero, List.set_cons_succ])
    refine wpAnyH_take (i := 2) (v := .agg cs.toList.toArray) rfl (by kernel_rfl) (by kernel_rfl) (by kernel_rfl) (fun _ _ _ h => h) (yieldsIf_load_mid (by rfl) 29 _ rfl _ 0 rfl cs.toList _ (fun W hSW j u hu => by rw [cell_of_row _ _ _ _ _ _ ((hSW.block _ hzs).trans rs)]; simpa using hu) Tryd.underlying29 rfl (by simpa using c1)) (by assumption) ?_
    (try simp only [Array.toArray_toList])
    (try simp only [List.getElem_toArray, List.getElem_cons_succ, List.getElem_cons_zero])
    (try simp only [Act.put, List.setIfInBounds_toArray, List.set_cons_zero, List.set_cons_succ])
    refine wpAnyH_take (i := 4) (v := .agg CC.toArray) rfl (by kernel_rfl) (by kernel_rfl) (by kernel_rfl) (fun _ _ _ h => h) (yieldsIf_load_mid (by rfl) 33 _ rfl _ 0 rfl CC _ (fun W hSW j u hu => by rw [cell_of_row _ _ _ _ _ _ ((hSW.block _ hzc).trans rc)]; simpa using hu) Tryd.underlying33 rfl i0L) (by assumption) ?_
    (try simp only [Array.toArray_toList])
    (try simp only [List.getElem_toArray, List.getElem_cons_succ, List.getElem_cons_zero])
    (try simp only [Act.put, List.setIfInBounds_toArray, List.set_cons_zero, List.set_cons_succ])
    refine wpAnyH_ready (rs := [1, 9]) (by kernel_rfl) (by simp) ?_
    refine AllReadyH.cons rfl (fun K hK => ?_) (AllReadyH.cons rfl (fun K hK => ?_) AllReadyH.nil)
    · go_simp
      go_at_call 11
      refine (HPG.out _ (HB0.out.trans (Below.mono hHeld HB0.out.size))).mono ?_
      rintro e wp ⟨vp, rfl, hvp, hbp⟩
      obtain ⟨ap, np, cp, rfl⟩ := hvp.shape
      have HBp : Below W0.heap.size W0 wp := Below.trans hHeld (Below.mono hbp (Below.size hHeld))
      dsimp only
      refine hK.out _ _ HBp (fun _ => ?_)
      clear hK K
      (try simp only [Act.put, List.setIfInBounds_toArray, List.set_cons_zero, List.set_cons_succ])
      refine wpAnyH_ready (rs := [3, 9]) (by kernel_rfl) (by simp) ?_
      refine AllReadyH.cons rfl (fun K hK => ?_) (AllReadyH.cons rfl (fun K hK => ?_) AllReadyH.nil)
      · go_simp
        go_at_call 12
        refine (HSG.out _ (HB0.out.trans (Below.mono HBp HB0.out.size))).mono ?_
        rintro e ws ⟨vs, rfl, hvs, hbs⟩
        obtain ⟨ca, rfl, a1, a2, a3⟩ := hvs.cells
        have HBs : Below W0.heap.size W0 ws := Below.trans HBp (Below.mono hbs (Below.size HBp))
        dsimp only
        refine hK.out _ _ HBs (fun _ => ?_)
        clear hK K
        (try simp only [Act.put, List.setIfInBounds_toArray, List.set_cons_zero, List.set_cons_succ])
        have hvp := hvp.keeps (keeps_below hbs)
        refine wpAnyH_ready (rs := [5, 9]) (by kernel_rfl) (by simp) ?_
        refine AllReadyH.cons rfl (fun K hK => ?_) (AllReadyH.cons rfl (fun K hK => ?_) AllReadyH.nil)
        · go_simp
          go_at_call 10
          refine (HNX.out _ _ _ (HB0.out.trans (Below.mono HBs HB0.out.size)) hvp hvs).mono ?_
          rintro e wn ⟨csn, rfl, e1, e2, e3, hsn, hbn⟩
          have HBn : Below W0.heap.size W0 wn := Below.trans HBs (Below.mono hbn (Below.size HBs))
          dsimp only
          refine hK.out _ _ HBn (fun _ => ?_)
          clear hK K
          (try simp only [Act.put, List.setIfInBounds_toArray, List.set_cons_zero, List.set_cons_succ])
          have hvp := hvp.keeps (keeps_below hbn)
          have hvs := hvs.keeps (keeps_below hbn)
          refine wpAnyH_take (i := 6) (v := ?_) rfl (by kernel_rfl) (by kernel_rfl) (by kernel_rfl) (fun _ _ _ h => h) (Or.inl ⟨by rfl, ?_⟩) (by assumption) ?_
          rotate_left
          · (intro W hSW; go_simp; try (with_reducible rfl))
          (try simp only [List.getElem_toArray, List.getElem_cons_succ, List.getElem_cons_zero])
          (try simp only [Act.put, List.setIfInBounds_toArray, List.set_cons_zero, List.set_cons_succ])
          refine wpAnyH_take (i := 7) (v := ?_) rfl (by kernel_rfl) (by kernel_rfl) (by kernel_rfl) (fun _ _ _ h => h) (Or.inl ⟨by rfl, ?_⟩) (by assumption) ?_
          rotate_left
          · (intro W hSW; go_simp; try (with_reducible rfl))
          (try simp only [List.getElem_toArray, List.getElem_cons_succ, List.getElem_cons_zero])
          (try simp only [Act.put, List.setIfInBounds_toArray, List.set_cons_zero, List.set_cons_succ])
          refine wpAnyH_take (i := 8) (v := ?_) rfl (by kernel_rfl) (by kernel_rfl) (by kernel_rfl) (fun _ _ _ h => h) (Or.inl ⟨by rfl, ?_⟩) (by assumption) ?_
          rotate_left
          · (intro W hSW; go_simp; try (with_reducible rfl))
          (try simp only [List.getElem_toArray, List.getElem_cons_succ, List.getElem_cons_zero])
          (try simp only [Act.put, List.setIfInBounds_toArray, List.set_cons_zero, List.set_cons_succ])
          refine wpAnyH_ready (rs := [9]) (by kernel_rfl) (by simp) ?_
          refine AllReadyH.cons rfl (fun K hK => ?_) AllReadyH.nil
          go_simp
          have HBA3 : Below W0.heap.size W0 (wn.alloc (.cells zeroStCells 29)) := Below.alloc HBn (Below.size HBn) _
          refine hK.out _ _ HBA3 (fun _ => ?_)
          clear hK K
          (try simp only [Act.put, List.setIfInBounds_toArray, List.set_cons_zero, List.set_cons_succ])
          have rowA : (wn.alloc (.cells zeroStCells 29)).heap[wn.heap.size]? = some (.cells zeroStCells 29 (0, 0)) := heap_alloc_last wn _
          have hvp := hvp.keeps (keeps_below ((Below.refl _ _).alloc (Nat.le_refl _) (.cells zeroStCells 29)))
          have hvs := hvs.keeps (keeps_below ((Below.refl _ _).alloc (Nat.le_refl _) (.cells zeroStCells 29)))
          refine wpAnyH_ready (rs := [10]) (by kernel_rfl) (by simp) ?_
          refine AllReadyH.cons rfl (fun K hK => ?_) AllReadyH.nil
          refine wp_store_row 29 _ _ rfl (wn.heap.size) csn rfl rfl 29 zeroStCells rowA e1 e2 e3 ?_
          have BN : Below W0.heap.size W0 (World.setRow (wn.alloc (.cells zeroStCells 29)) (wn.heap.size) csn) := belowSR HBA3 (Below.size HBn) _
          refine hK.out _ _ BN (fun _ => ?_)
          clear hK K
          (try simp only [Act.put, List.setIfInBounds_toArray])
          refine wpAnyH_ready (rs := [11]) (by kernel_rfl) (by simp) ?_
          refine AllReadyH.cons rfl (fun K hK => ?_) AllReadyH.nil
          go_simp
          refine hK.out _ _ BN (fun _ => ?_)
          clear hK K
          (try simp only [Act.put, List.setIfInBounds_toArray, List.set_cons_zero, List.set_cons_succ])
          refine wpAnyH_done (by kernel_rfl) ?_ _
          go_wp2_with fail
          go_meet
          exact ⟨_, csn, rfl, rfl, setRow_heap _ _ _ _ _ _ rowA, e1, BN, by first | exact (hsn.setRow (lt_of_block rowB1) _).val | exact (hsn.setRow (lt_of_block rowB0) _).val | exact (hsn.setRow (lt_of_block rowA) _).val | exact (hsn.moved (fun ad u ha hu => (World.cell?_of_block (setRow_other _ _ _ _ (by have := World.block_lt_of_cell? _ _ hu; omega))).trans (cell_alloc hu _))).val⟩
        · go_simp
          have HBA2 : Below W0.heap.size W0 (ws.alloc (.cells zeroStCells 29)) := Below.alloc HBs (Below.size HBs) _
          refine hK.out _ _ HBA2 (fun _ => ?_)
          clear hK K
          (try simp only [Act.put, List.setIfInBounds_toArray, List.set_cons_zero, List.set_cons_succ])
          have rowA : (ws.alloc (.cells zeroStCells 29)).heap[ws.heap.size]? = some (.cells zeroStCells 29 (0, 0)) := heap_alloc_last ws _
          have hvp := hvp.keeps (keeps_below ((Below.refl _ _).alloc (Nat.le_refl _) (.cells zeroStCells 29)))
          have hvs := hvs.keeps (keeps_below ((Below.refl _ _).alloc (Nat.le_refl _) (.cells zeroStCells 29)))
          refine wpAnyH_ready (rs := [5]) (by kernel_rfl) (by simp) ?_
          refine AllReadyH.cons rfl (fun K hK => ?_) AllReadyH.nil
          go_simp
          go_at_call 10
          refine (HNX.out _ _ _ (HB0.out.trans (Below.mono HBA2 HB0.out.size)) hvp hvs).mono ?_
          rintro e wn ⟨csn, rfl, e1, e2, e3, hsn, hbn⟩
          have HBn : Below W0.heap.size W0 wn := Below.trans HBA2 (Below.mono hbn (Below.size HBA2))
          dsimp only
          refine hK.out _ _ HBn (fun _ => ?_)
          clear hK K
          (try simp only [Act.put, List.setIfInBounds_toArray, List.set_cons_zero, List.set_cons_succ])
          have hvp := hvp.keeps (keeps_below hbn)
          have hvs := hvs.keeps (keeps_below hbn)
          have rowB2 : wn.heap[ws.heap.size]? = some (.cells zeroStCells 29 (0, 0)) := (Below.block hbn _ (lt_of_block rowA)).trans rowA
          refine wpAnyH_take (i := 6) (v := ?_) rfl (by kernel_rfl) (by kernel_rfl) (by kernel_rfl) (fun _ _ _ h => h) (Or.inl ⟨by rfl, ?_⟩) (by assumption) ?_
          rotate_left
          · (intro W hSW; go_simp; try (with_reducible rfl))
          (try simp only [List.getElem_toArray, List.getElem_cons_succ, List.getElem_cons_zero])
          (try simp only [Act.put, List.setIfInBounds_toArray, List.set_cons_zero, List.set_cons_succ])
          refine wpAnyH_take (i := 7) (v := ?_) rfl (by kernel_rfl) (by kernel_rfl) (by kernel_rfl) (fun _ _ _ h => h) (Or.inl ⟨by rfl, ?_⟩) (by assumption) ?_
          rotate_left
          · (intro W hSW; go_simp; try (with_reducible rfl))
          (try simp only [List.getElem_toArray, List.getElem_cons_succ, List.getElem_cons_zero])
          (try simp only [Act.put, List.setIfInBounds_toArray, List.set_cons_zero, List.set_cons_succ])
          refine wpAnyH_take (i := 8) (v := ?_) rfl (by kernel_rfl) (by kernel_rfl) (by kernel_rfl) (fun _ _ _ h => h) (Or.inl ⟨by rfl, ?_⟩) (by assumption) ?_
          rotate_left
          · (intro W hSW; go_simp; try (with_reducible rfl))
          (try simp only [List.getElem_toArray, List.getElem_cons_succ, List.getElem_cons_zero])
          (try simp only [Act.put, List.setIfInBounds_toArray, List.set_cons_zero, List.set_cons_succ])
          refine wpAnyH_ready (rs := [10]) (by kernel_rfl) (by simp) ?_
          refine AllReadyH.cons rfl (fun K hK => ?_) AllReadyH.nil
          refine wp_store_row 29 _ _ rfl (ws.heap.size) csn rfl rfl 29 zeroStCells rowB2 e1 e2 e3 ?_
          have BN : Below W0.heap.size W0 (World.setRow wn (ws.heap.size) csn) := belowSR HBn (Below.size HBs) _
          refine hK.out _ _ BN (fun _ => ?_)
          clear hK K
          (try simp only [Act.put, List.setIfInBounds_toArray])
          refine wpAnyH_ready (rs := [11]) (by kernel_rfl) (by simp) ?_
          refine AllReadyH.cons rfl (fun K hK => ?_) AllReadyH.nil
          go_simp
          refine hK.out _ _ BN (fun _ => ?_)
          clear hK K
          (try simp only [Act.put, List.setIfInBounds_toArray, List.set_cons_zero, List.set_cons_succ])
          refine wpAnyH_done (by kernel_rfl) ?_ _
          go_wp2_with fail
          go_meet
          exact ⟨_, csn, rfl, rfl, setRow_heap _ _ _ _ _ _ rowB2, e1, BN, by first | exact (hsn.setRow (lt_of_block rowB1) _).val | exact (hsn.setRow (lt_of_block rowB0) _).val | exact (hsn.setRow (lt_of_block rowA) _).val | exact (hsn.moved (fun ad u ha hu => (World.cell?_of_block (setRow_other _ _ _ _ (by have := World.block_lt_of_cell? _ _ hu; omega))).trans (cell_alloc hu _))).val⟩
      · go_simp
        have HBA1 : Below W0.heap.size W0 (wp.alloc (.cells zeroStCells 29)) := Below.alloc HBp (Below.size HBp) _
        refine hK.out _ _ HBA1 (fun _ => ?_)
        clear hK K
        (try simp only [Act.put, List.setIfInBounds_toArray, List.set_cons_zero, List.set_cons_succ])
        have rowA : (wp.alloc (.cells zeroStCells 29)).heap[wp.heap.size]? = some (.cells zeroStCells 29 (0, 0)) := heap_alloc_last wp _
        have hvp := hvp.keeps (keeps_below ((Below.refl _ _).alloc (Nat.le_refl _) (.cells zeroStCells 29)))
        refine wpAnyH_ready (rs := [3]) (by kernel_rfl) (by simp) ?_
        refine AllReadyH.cons rfl (fun K hK => ?_) AllReadyH.nil
        go_simp
        go_at_call 12
        refine (HSG.out _ (HB0.out.trans (Below.mono HBA1 HB0.out.size))).mono ?_
        rintro e ws ⟨vs, rfl, hvs, hbs⟩
        obtain ⟨ca, rfl, a1, a2, a3⟩ := hvs.cells
        have HBs : Below W0.heap.size W0 ws := Below.trans HBA1 (Below.mono hbs (Below.size HBA1))
        dsimp only
        refine hK.out _ _ HBs (fun _ => ?_)
        clear hK K
        (try simp only [Act.put, List.setIfInBounds_toArray, List.set_cons_zero, List.set_cons_succ])
        have hvp := hvp.keeps (keeps_below hbs)
        have rowB1 : ws.heap[wp.heap.size]? = some (.cells zeroStCells 29 (0, 0)) := (Below.block hbs _ (lt_of_block rowA)).trans rowA
        refine wpAnyH_ready (rs := [5]) (by kernel_rfl) (by simp) ?_
        refine AllReadyH.cons rfl (fun K hK => ?_) AllReadyH.nil
        go_simp
        go_at_call 10
        refine (HNX.out _ _ _ (HB0.out.trans (Below.mono HBs HB0.out.size)) hvp hvs).mono ?_
        rintro e wn ⟨csn, rfl, e1, e2, e3, hsn, hbn⟩
        have HBn : Below W0.heap.size W0 wn := Below.trans HBs (Below.mono hbn (Below.size HBs))
        dsimp only
        refine hK.out _ _ HBn (fun _ => ?_)
        clear hK K
        (try simp only [Act.put, List.setIfInBounds_toArray, List.set_cons_zero, List.set_cons_succ])
        have hvp := hvp.keeps (keeps_below hbn)
        have hvs := hvs.keeps (keeps_below hbn)
        have rowB2 : wn.heap[wp.heap.size]? = some (.cells zeroStCells 29 (0, 0)) := (Below.block hbn _ (lt_of_block rowB1)).trans rowB1
        refine wpAnyH_take (i := 6) (v := ?_) rfl (by kernel_rfl) (by kernel_rfl) (by kernel_rfl) (fun _ _ _ h => h) (Or.inl ⟨by rfl, ?_⟩) (by assumption) ?_
        rotate_left
        · (intro W hSW; go_simp; try (with_reducible rfl))
        (try simp only [List.getElem_toArray, List.getElem_cons_succ, List.getElem_cons_zero])
        (try simp only [Act.put, List.setIfInBounds_toArray, List.set_cons_zero, List.set_cons_succ])
        refine wpAnyH_take (i := 7) (v := ?_) rfl (by kernel_rfl) (by kernel_rfl) (by kernel_rfl) (fun _ _ _ h => h) (Or.inl ⟨by rfl, ?_⟩) (by assumption) ?_
        rotate_left
        · (intro W hSW; go_simp; try (with_reducible rfl))
        (try simp only [List.getElem_toArray, List.getElem_cons_succ, List.getElem_cons_zero])
        (try simp only [Act.put, List.setIfInBounds_toArray, List.set_cons_zero, List.set_cons_succ])
        refine wpAnyH_take (i := 8) (v := ?_) rfl (by kernel_rfl) (by kernel_rfl) (by kernel_rfl) (fun _ _ _ h => h) (Or.inl ⟨by rfl, ?_⟩) (by assumption) ?_
        rotate_left
        · (intro W hSW; go_simp; try (with_reducible rfl))
        (try simp only [List.getElem_toArray, List.getElem_cons_succ, List.getElem_cons_zero])
        (try simp only [Act.put, List.setIfInBounds_toArray, List.set_cons_zero, List.set_cons_succ])
        refine wpAnyH_ready (rs := [10]) (by kernel_rfl) (by simp) ?_
        refine AllReadyH.cons rfl (fun K hK => ?_) AllReadyH.nil
        refine wp_store_row 29 _ _ rfl (wp.heap.size) csn rfl rfl 29 zeroStCells rowB2 e1 e2 e3 ?_
        have BN : Below W0.heap.size W0 (World.setRow wn (wp.heap.size) csn) := belowSR HBn (Below.size HBp) _
        refine hK.out _ _ BN (fun _ => ?_)
        clear hK K
        (try simp only [Act.put, List.setIfInBounds_toArray])
        refine wpAnyH_ready (rs := [11]) (by kernel_rfl) (by simp) ?_
        refine AllReadyH.cons rfl (fun K hK => ?_) AllReadyH.nil
        go_simp
        refine hK.out _ _ BN (fun _ => ?_)
        clear hK K
        (try simp only [Act.put, List.setIfInBounds_toArray, List.set_cons_zero, List.set_cons_succ])
        refine wpAnyH_done (by kernel_rfl) ?_ _
        go_wp2_with fail
        go_meet
        exact ⟨_, csn, rfl, rfl, setRow_heap _ _ _ _ _ _ rowB2, e1, BN, by first | exact (hsn.setRow (lt_of_block rowB1) _).val | exact (hsn.setRow (lt_of_block rowB0) _).val | exact (hsn.setRow (lt_of_block rowA) _).val | exact (hsn.moved (fun ad u ha hu => (World.cell?_of_block (setRow_other _ _ _ _ (by have := World.block_lt_of_cell? _ _ hu; omega))).trans (cell_alloc hu _))).val⟩
    · go_simp
      have HBA0 : Below W0.heap.size W0 (W0.drew.alloc (.cells zeroStCells 29)) := Below.alloc hHeld (Below.size hHeld) _
      refine hK.out _ _ HBA0 (fun _ => ?_)
      clear hK K
      (try simp only [Act.put, List.setIfInBounds_toArray, List.set_cons_zero, List.set_cons_succ])
      have rowA : (W0.drew.alloc (.cells zeroStCells 29)).heap[W0.drew.heap.size]? = some (.cells zeroStCells 29 (0, 0)) := heap_alloc_last W0.drew _
      refine wpAnyH_ready (rs := [1]) (by kernel_rfl) (by simp) ?_
      refine AllReadyH.cons rfl (fun K hK => ?_) AllReadyH.nil
      go_simp
      go_at_call 11
      refine (HPG.out _ (HB0.out.trans (Below.mono HBA0 HB0.out.size))).mono ?_
      rintro e wp ⟨vp, rfl, hvp, hbp⟩
      obtain ⟨ap, np, cp, rfl⟩ := hvp.shape
      have HBp : Below W0.heap.size W0 wp := Below.trans HBA0 (Below.mono hbp (Below.size HBA0))
      dsimp only
      refine hK.out _ _ HBp (fun _ => ?_)
      clear hK K
      (try simp only [Act.put, List.setIfInBounds_toArray, List.set_cons_zero, List.set_cons_succ])
      have rowB0 : wp.heap[W0.drew.heap.size]? = some (.cells zeroStCells 29 (0, 0)) := (Below.block hbp _ (lt_of_block rowA)).trans rowA
      refine wpAnyH_ready (rs := [3]) (by kernel_rfl) (by simp) ?_
      refine AllReadyH.cons rfl (fun K hK => ?_) AllReadyH.nil
      go_simp
      go_at_call 12
      refine (HSG.out _ (HB0.out.trans (Below.mono HBp HB0.out.size))).mono ?_
      rintro e ws ⟨vs, rfl, hvs, hbs⟩
      obtain ⟨ca, rfl, a1, a2, a3⟩ := hvs.cells
      have HBs : Below W0.heap.size W0 ws := Below.trans HBp (Below.mono hbs (Below.size HBp))
      dsimp only
      refine hK.out _ _ HBs (fun _ => ?_)
      clear hK K
      (try simp only [Act.put, List.setIfInBounds_toArray, List.set_cons_zero, List.set_cons_succ])
      have hvp := hvp.keeps (keeps_below hbs)
      have rowB1 : ws.heap[W0.drew.heap.size]? = some (.cells zeroStCells 29 (0, 0)) := (Below.block hbs _ (lt_of_block rowB0)).trans rowB0
      refine wpAnyH_ready (rs := [5]) (by kernel_rfl) (by simp) ?_
      refine AllReadyH.cons rfl (fun K hK => ?_) AllReadyH.nil
      go_simp
      go_at_call 10
      refine (HNX.out _ _ _ (HB0.out.trans (Below.mono HBs HB0.out.size)) hvp hvs).mono ?_
      rintro e wn ⟨csn, rfl, e1, e2, e3, hsn, hbn⟩
      have HBn : Below W0.heap.size W0 wn := Below.trans HBs (Below.mono hbn (Below.size HBs))
      dsimp only
      refine hK.out _ _ HBn (fun _ => ?_)
      clear hK K
      (try simp only [Act.put, List.setIfInBounds_toArray, List.set_cons_zero, List.set_cons_succ])
      have hvp := hvp.keeps (keeps_below hbn)
      have hvs := hvs.keeps (keeps_below hbn)
      have rowB2 : wn.heap[W0.drew.heap.size]? = some (.cells zeroStCells 29 (0, 0)) := (Below.block hbn _ (lt_of_block rowB1)).trans rowB1
      refine wpAnyH_take (i := 6) (v := ?_) rfl (by kernel_rfl) (by kernel_rfl) (by kernel_rfl) (fun _ _ _ h => h) (Or.inl ⟨by rfl, ?_⟩) (by assumption) ?_
      rotate_left
      · (intro W hSW; go_simp; try (with_reducible rfl))
      (try simp only [List.getElem_toArray, List.getElem_cons_succ, List.getElem_cons_zero])
      (try simp only [Act.put, List.setIfInBounds_toArray, List.set_cons_zero, List.set_cons_succ])
      refine wpAnyH_take (i := 7) (v := ?_) rfl (by kernel_rfl) (by kernel_rfl) (by kernel_rfl) (fun _ _ _ h => h) (Or.inl ⟨by rfl, ?_⟩) (by assumption) ?_
      rotate_left
      · (intro W hSW; go_simp; try (with_reducible rfl))
      (try simp only [List.getElem_toArray, List.getElem_cons_succ, List.getElem_cons_zero])
      (try simp only [Act.put, List.setIfInBounds_toArray, List.set_cons_zero, List.set_cons_succ])
      refine wpAnyH_take (i := 8) (v := ?_) rfl (by kernel_rfl) (by kernel_rfl) (by kernel_rfl) (fun _ _ _ h => h) (Or.inl ⟨by rfl, ?_⟩) (by assumption) ?_
      rotate_left
      · (intro W hSW; go_simp; try (with_reducible rfl))
      (try simp only [List.getElem_toArray, List.getElem_cons_succ, List.getElem_cons_zero])
      (try simp only [Act.put, List.setIfInBounds_toArray, List.set_cons_zero, List.set_cons_succ])
      refine wpAnyH_ready (rs := [10]) (by kernel_rfl) (by simp) ?_
      refine AllReadyH.cons rfl (fun K hK => ?_) AllReadyH.nil
      refine wp_store_row 29 _ _ rfl (W0.drew.heap.size) csn rfl rfl 29 zeroStCells rowB2 e1 e2 e3 ?_
      have BN : Below W0.heap.size W0 (World.setRow wn (W0.drew.heap.size) csn) := belowSR HBn (Below.size hHeld) _
      refine hK.out _ _ BN (fun _ => ?_)
      clear hK K
      (try simp only [Act.put, List.setIfInBounds_toArray])
      refine wpAnyH_ready (rs := [11]) (by kernel_rfl) (by simp) ?_
      refine AllReadyH.cons rfl (fun K hK => ?_) AllReadyH.nil
      go_simp
      refine hK.out _ _ BN (fun _ => ?_)
      clear hK K
      (try simp only [Act.put, List.setIfInBounds_toArray, List.set_cons_zero, List.set_cons_succ])
      refine wpAnyH_done (by kernel_rfl) ?_ _
      go_wp2_with fail
      go_meet
      exact ⟨_, csn, rfl, rfl, setRow_heap _ _ _ _ _ _ rowB2, e1, BN, by first | exact (hsn.setRow (lt_of_block rowB1) _).val | exact (hsn.setRow (lt_of_block rowB0) _).val | exact (hsn.setRow (lt_of_block rowA) _).val | exact (hsn.moved (fun ad u ha hu => (World.cell?_of_block (setRow_other _ _ _ _ (by have := World.block_lt_of_cell? _ _ hu; omega))).trans (cell_alloc hu _))).val⟩
  case rest =>
    obtain ⟨Gx, csn, rfl, rfl, rowG, q1, hbc, stv⟩ := hcut
    have HBW : Hid (Below w.heap.size w wc) := HB0.out.trans (hbc.mono HB0.out.size)
    have HSV : Hid (StVal wc (.agg csn) R) := stv
    have kp2 := keeps_below hbc _ _ kp
    have rs2 := (hbc.block _ (lt_of_block rs)).trans rs
    have rc2 := (hbc.block _ (lt_of_block rc)).trans rc
    clear hbc stv kp rs rc HNX HPG HSG
    go_wp2_with (first
      | (refine wpList_load_row rfl 29 (.tmp 4) rfl _ rfl _ _ _ _ rs2 Tryd.underlying29 rfl c1 ?_)
      | (refine wpList_load_row rfl 33 (.tmp 5) rfl _ rfl _ _ _ _ rc2 Tryd.underlying33 rfl i0 ?_)
      | (go_at_call 13; refine (HND.out _ HBW.out).mono ?_; rintro e wz ⟨cz, rfl, z1, z2, z3, hsz, hbz⟩; have HBZ : Hid (Below wc.heap.size wc wz) := hbz; have HSZ : Hid (StVal wz (.agg cz) R) := hsz; clear hbz hsz)
      | (refine wpList_store_row rfl _ _ _ rfl _ _ rfl rfl _ _ (heap_alloc_last wz _) z1 z2 z3 ?_; rw [World.setRow_alloc_new]; have HA3 : Hid (Below wc.heap.size wc (wz.alloc (.cells cz 29))) := HBZ.out.alloc HBZ.out.size _; have rG3 := (HA3.out.block _ (lt_of_block rowG)).trans rowG; have rz3 : (wz.alloc (.cells cz 29)).heap[wz.heap.size]? = some (.cells cz 29 (0, 0)) := heap_alloc_last wz _; have HQ : Hid (StVal (wz.alloc (.cells cz 29)) (.agg csn) R ∧ StVal (wz.alloc (.cells cz 29)) (.agg cz) R) := ⟨HSV.out.keeps (keeps_below HA3.out), HSZ.out.keeps (keeps_below ((Below.refl _ _).alloc (Nat.le_refl _) _))⟩)
      | (refine wpList_load_wantedL rfl _ _ rfl Gx rfl _ _ _ _ rG3 Tryd.underlying29 rfl q1 ?_)
      | (refine wpList_load_wantedL rfl _ _ rfl wz.heap.size rfl _ _ _ _ rz3 Tryd.underlying29 rfl z1 ?_)
      | (go_at_call 14; refine (HSS.out R _ _ _ HQ.out.1 HQ.out.2).mono ?_; rintro e w8 ⟨rfl, hb8⟩; have HB8 : Hid (Below wc.heap.size wc w8) := HA3.out.trans (hb8.mono HA3.out.size); clear hb8))
    go_ret
    exact ⟨rfl, HBW.out.trans (HB8.out.mono HBW.out.size)⟩
end Go.Proofs.YteabbanjjdmjkaaDoor
