/- The walk of tierlinekeep.SsaSays: at all raw numbers it says true, and nothing that was there has turned. -/
import Derived.Test.YtdpaohmaafngkaaDoorXSsaSay
import Derived.Test.YtdpaohmaafngkaaDoorXRightRaw
namespace Go.Proofs.YtdpaohmaafngkaaDoor
open Go Go.RowKit

theorem infoPhi3p : (Tryd.prog.info? 53).map (·.size) = some 3 := by kernel_rfl
set_option maxHeartbeats 8000000 in
set_option maxRecDepth 100000 in
theorem ssaSays_walk (l : List Fn) (v : Value) (fn : Int) (w : World) (ht : TabOk w) (hc : CallOk w) (hv : ProgVal w v l) (hwf : ∀ f ∈ l, f.wf) (hfn : I64 fn) :
    Calls Tryd.prog 5 #[v, .int .i64 fn] w fun e w' => e = .returned (.bool true) ∧ Below w.heap.size w w' := by
  have hSh := program_raw l v w ht hc hv hwf
  obtain ⟨aol, nl, capl, rfl⟩ := hv.shape
  have HT : Hid (TabOk w) := ht
  have HCO : Hid (CallOk w) := hc
  clear hv hwf ht hc
  go_enter Tryd.func5, Tryd.ntmps5
  go_upto_region 2 with (go_at_call 9; refine hSh.mono ?_; rintro e w1 ⟨v1, P, us, rfl, hpi, hbt, hb1⟩; have hp1 := hbt.prog; have hcp := progIs_code hpi; obtain ⟨hn1, hn4, -⟩ := codeProg_zero hcp; obtain ⟨k, hk, ek⟩ := pick_some fn P.length hn1; obtain ⟨b, off, cap, u, rfl, d0, d1, d2, hcv, hm, hcc⟩ := prog_fn hp1 hk)
  have hRi := progIs_ans hpi
  have OK : Hid (FlowOk P P[k]) := flowOk_of hRi (List.getElem_mem hk)
  have hl1 := OK.out.ok.len1
  have hl2 := OK.out.ok.len2
  have hfe := fnErr_ok hcp hk
  have hca : codeAt P k = P[k].code := by simp [codeAt, List.getD, hk]
  have HBD : Hid (∀ W, Below w1.heap.size w1 W → Calls Tryd.prog 11 #[.agg #[.slice (some ⟨b, off, none⟩) P.length cap], .int .i64 k] W (BuildPost W P P[k])) := fun W hb => Build_right P hRi k hk _ W ((HT.out.below hb1).below hb) ((HCO.out.below hb1).below hb) (hp1.keeps (keeps_below hb))
  have HUR : Hid (∀ q, q < P[k].code.length → Way P[k] 63 q → ∀ r, r < 12 → (rdMask P (insD P[k] q)).testBit r = true → ¬ Way P[k] r q) := right_reads hRi (List.getElem_mem hk)
  obtain ⟨ao2, b2, off2, n, cap2, rfl, ⟨hlen2, haddr2, hat2⟩, hcap2, hmx2⟩ := hcv
  obtain rfl := haddr2 (by omega)
  have HIN : Hid (∀ W, Below w1.heap.size w1 W → ∀ q, q < n → W.cell? ⟨b2, off2 + q * 5, none⟩ = some (.int .i64 (insD P[k] q).op)) := fun W hW q hq => by
    have hqf : q < P[k].code.length := by rw [hlen2]; exact hq
    rw [insD_eq hqf]
    exact keeps_below hW _ _ (hat2 q hqf).1
  have HB1 : Hid (Below w.heap.size w w1) := hb1
  have hz1 := hb1.size
  have hkI : (k : Int) < P.length := by omega
  have hcc2 := hcap2.1
  have HN : Hid (P[k].code.length = n) := hlen2
  clear hfe hRi hpi hcp hbt hp1 hb1 hSh hca hat2 haddr2 hcap2
  rw [hlen2] at hl1 hl2
  generalize P[k] = f at *
  clear hlen2
  unfold maxLen at hmx2
  have d0' := fun o => cell_alloc d0 o
  have d1' := fun o => cell_alloc d1 o
  have t2 := fun o => cell_alloc d2 o
  generalize hNN : P.length = N at *
  clear hNN
  obtain ⟨i64i, hi64, hzz0, hzz1, hzz2⟩ := info_parts info64
  have HWA : Hid (Below w1.heap.size w1 (w1.alloc (.cells #[.slice (some ⟨b, off, none⟩) N cap] 25))) := (Below.refl _ _).alloc (Nat.le_refl _) _
  have q0 : (w1.alloc (.cells #[.slice (some ⟨b, off, none⟩) N cap] 25)).cell? ⟨w1.heap.size, 0, none⟩ = some (.slice (some ⟨b, off, none⟩) N cap) := by simp
  generalize (w1.alloc (.cells #[.slice (some ⟨b, off, none⟩) N cap] 25)) = V at *
  (try simp only [Act.put])
  go_cut [6, 7] from 15 to 24 (fun t e wx => ∃ (G : Nat) (S : List Nat) (T : Nat → Nat) (L : List Int) (pn : Nat) (g0 : List (Int × Int)) (D : PDat) (ar : Nat → List Int) (gp : Nat) (Ly : PLay) (B0 : Nat), t = .pointer (some ⟨G, 0, none⟩) ∧ e = .int .i64 0 ∧ wx.heap[G]? = some (.cells #[.int .i64 (pn : Int), .int .i64 ((idsD pn S.length D).length : Int), .slice (some ⟨gp, 0, none⟩) S.length S.length] 36 (0, 0)) ∧ SsaIs P f S T L pn g0 D ∧ PartsAt wx B0 gp S.length (finD pn S.length g0 D ar) Ly ∧ Below V.heap.size V wx)
  case first =>
    refine wp_region_held_drew (S := fun W => Below V.heap.size V W) (by kernel_rfl) ((Below.refl _ _).drew) (fun hHeld => ?_)
    show wpAnyH _ _ _ _ _ 13 _ _ _
    refine wpAnyH_take (i := 0) (v := ?_) rfl (by kernel_rfl) (by kernel_rfl) (by kernel_rfl) (fun _ _ _ h => h) (Or.inl ⟨by rfl, ?_⟩) (by assumption) ?_
    rotate_left
    · (intro W hSW; have zz := keeps_below hSW _ _ q0; go_simp; try (with_reducible rfl))
    (try simp only [List.getElem_toArray, List.getElem_cons_zero])
    (try simp only [Act.put, List.setIfInBounds_toArray, List.set_cons_zero, List.set_cons_succ])
    refine wpAnyH_take (i := 1) (v := ?_) rfl (by kernel_rfl) (by kernel_rfl) (by kernel_rfl) (fun _ _ _ h => h) (Or.inl ⟨by rfl, ?_⟩) (by assumption) ?_
    rotate_left
    · (intro W hSW; go_simp; try (with_reducible rfl))
    (try simp only [List.getElem_toArray, List.getElem_cons_succ, List.getElem_cons_zero])
    (try simp only [Act.put, List.setIfInBounds_toArray, List.set_cons_zero, List.set_cons_succ])
    refine wpAnyH_take (i := 2) (v := ?_) rfl (by kernel_rfl) (by kernel_rfl) (by kernel_rfl) (fun _ _ _ h => h) (Or.inl ⟨by rfl, ?_⟩) (by assumption) ?_
    rotate_left
    · (intro W hSW; go_simp; try (with_reducible rfl))
    (try simp only [List.getElem_toArray, List.getElem_cons_succ, List.getElem_cons_zero])
    (try simp only [Act.put, List.setIfInBounds_toArray, List.set_cons_zero, List.set_cons_succ])
    refine wpAnyH_take (i := 3) (v := ?_) rfl (by kernel_rfl) (by kernel_rfl) (by kernel_rfl) (fun _ _ _ h => h) (Or.inl ⟨by rfl, ?_⟩) (by assumption) ?_
    rotate_left
    · (intro W hSW; have zz := keeps_below hSW _ _ q0; go_simp; try (with_reducible rfl))
    (try simp only [List.getElem_toArray, List.getElem_cons_succ, List.getElem_cons_zero])
    (try simp only [Act.put, List.setIfInBounds_toArray, List.set_cons_zero, List.set_cons_succ])
    refine wpAnyH_take (i := 4) (v := ?_) rfl (by kernel_rfl) (by kernel_rfl) (by kernel_rfl) (fun _ _ _ h => h) (Or.inl ⟨by rfl, ?_⟩) (by assumption) ?_
    rotate_left
    · (intro W hSW; go_simp; try (with_reducible rfl))
    (try simp only [List.getElem_toArray, List.getElem_cons_succ, List.getElem_cons_zero])
    (try simp only [Act.put, List.setIfInBounds_toArray, List.set_cons_zero, List.set_cons_succ])
    refine wpAnyH_ready (rs := [5, 10]) (by kernel_rfl) (by simp) ?_
    refine AllReadyH.cons rfl (fun K hK => ?_) (AllReadyH.cons rfl (fun K hK => ?_) AllReadyH.nil)
    · go_simp
      go_at_call 12
      refine (picked_any _ _ _ hfn (by omega) (by omega)).mono ?_
      rintro e wa ⟨rfl, hwa⟩
      have hba : Below V.drew.heap.size V.drew wa := by rw [hwa]; exact Below.refl _ _
      clear hwa
      have HBa : Below V.heap.size V wa := Below.trans hHeld (Below.mono hba (Below.size hHeld))
      dsimp only
      refine hK.out _ _ HBa (fun _ => ?_)
      clear hK K
      (try simp only [Act.put, List.setIfInBounds_toArray, List.set_cons_zero, List.set_cons_succ])
      rw [ek]
      refine wpAnyH_ready (rs := [6, 10]) (by kernel_rfl) (by simp) ?_
      refine AllReadyH.cons rfl (fun K hK => ?_) (AllReadyH.cons rfl (fun K hK => ?_) AllReadyH.nil)
      · go_simp
        go_at_call 11
        refine (HBD.out _ (HWA.out.trans (Below.mono HBa HWA.out.size))).mono ?_
        rintro e wc hp
        obtain ⟨S, T, L, pn, g0, D, ar, gp, Ly, rfl, hIS, hPA, hbc⟩ := hp
        have HBc : Below V.heap.size V wc := Below.trans HBa (Below.mono hbc (Below.size HBa))
        dsimp only
        refine hK.out _ _ HBc (fun _ => ?_)
        clear hK K
        (try simp only [Act.put, List.setIfInBounds_toArray, List.set_cons_zero, List.set_cons_succ])
        refine wpAnyH_take (i := 7) (v := ?_) rfl (by kernel_rfl) (by kernel_rfl) (by kernel_rfl) (fun _ _ _ h => h) (Or.inl ⟨by rfl, ?_⟩) (by assumption) ?_
        rotate_left
        · (intro W hSW; go_simp; try (with_reducible rfl))
        (try simp only [List.getElem_toArray, List.getElem_cons_succ, List.getElem_cons_zero])
        (try simp only [Act.put, List.setIfInBounds_toArray, List.set_cons_zero, List.set_cons_succ])
        refine wpAnyH_take (i := 8) (v := ?_) rfl (by kernel_rfl) (by kernel_rfl) (by kernel_rfl) (fun _ _ _ h => h) (Or.inl ⟨by rfl, ?_⟩) (by assumption) ?_
        rotate_left
        · (intro W hSW; go_simp; try (with_reducible rfl))
        (try simp only [List.getElem_toArray, List.getElem_cons_succ, List.getElem_cons_zero])
        (try simp only [Act.put, List.setIfInBounds_toArray, List.set_cons_zero, List.set_cons_succ])
        refine wpAnyH_take (i := 9) (v := ?_) rfl (by kernel_rfl) (by kernel_rfl) (by kernel_rfl) (fun _ _ _ h => h) (Or.inl ⟨by rfl, ?_⟩) (by assumption) ?_
        rotate_left
        · (intro W hSW; go_simp; try (with_reducible rfl))
        (try simp only [List.getElem_toArray, List.getElem_cons_succ, List.getElem_cons_zero])
        (try simp only [Act.put, List.setIfInBounds_toArray, List.set_cons_zero, List.set_cons_succ])
        refine wpAnyH_ready (rs := [10]) (by kernel_rfl) (by simp) ?_
        refine AllReadyH.cons rfl (fun K hK => ?_) AllReadyH.nil
        go_simp
        have HBA2 : Below V.heap.size V (wc.alloc (.cells #[.int .i64 0, .int .i64 0, .slice none 0 0] 36)) := Below.alloc HBc (Below.size HBc) _
        refine hK.out _ _ HBA2 (fun _ => ?_)
        clear hK K
        (try simp only [Act.put, List.setIfInBounds_toArray, List.set_cons_zero, List.set_cons_succ])
        have rowA : (wc.alloc (.cells #[.int .i64 0, .int .i64 0, .slice none 0 0] 36)).heap[wc.heap.size]? = some (.cells #[.int .i64 0, .int .i64 0, .slice none 0 0] 36 (0, 0)) := heap_alloc_last wc _
        have hPA := hPA.below (Below.alloc (Below.refl _ _) (Nat.le_refl _) (.cells #[.int .i64 0, .int .i64 0, .slice none 0 0] 36))
        refine wpAnyH_ready (rs := [11]) (by kernel_rfl) (by simp) ?_
        refine AllReadyH.cons rfl (fun K hK => ?_) AllReadyH.nil
        refine wp_store_row 36 _ _ rfl (wc.heap.size) #[.int .i64 (pn : Int), .int .i64 ((idsD pn S.length D).length : Int), .slice (some ⟨gp, 0, none⟩) S.length S.length] rfl rfl 36 #[.int .i64 0, .int .i64 0, .slice none 0 0] rowA infoSsa rfl (by simp [Value.oneCell']) ?_
        have BN : Below V.heap.size V (World.setRow (wc.alloc (.cells #[.int .i64 0, .int .i64 0, .slice none 0 0] 36)) (wc.heap.size) #[.int .i64 (pn : Int), .int .i64 ((idsD pn S.length D).length : Int), .slice (some ⟨gp, 0, none⟩) S.length S.length]) := belowSK HBA2 (Below.size HBc) _
        refine hK.out _ _ BN (fun _ => ?_)
        clear hK K
        (try simp only [Act.put, List.setIfInBounds_toArray])
        refine wpAnyH_ready (rs := [12]) (by kernel_rfl) (by simp) ?_
        refine AllReadyH.cons rfl (fun K hK => ?_) AllReadyH.nil
        go_simp
        refine hK.out _ _ BN (fun _ => ?_)
        clear hK K
        (try simp only [Act.put, List.setIfInBounds_toArray, List.set_cons_zero, List.set_cons_succ])
        refine wpAnyH_done (by kernel_rfl) ?_ _
        go_wp2_with fail
        go_meet
        exact ⟨_, S, T, L, pn, g0, D, ar, gp, Ly, _, rfl, rfl, setRow_heap _ _ _ _ _ _ rowA, hIS, hPA.kept (gb_setRow _ _ _) (fun q cs t e hh => by have e := Option.some.inj e; rw [← e] at hh; have hh := hh.symm.trans rowA; simp at hh; right; rw [hh.2]; decide), BN⟩
      · go_simp
        have HBA1 : Below V.heap.size V (wa.alloc (.cells #[.int .i64 0, .int .i64 0, .slice none 0 0] 36)) := Below.alloc HBa (Below.size HBa) _
        refine hK.out _ _ HBA1 (fun _ => ?_)
        clear hK K
        (try simp only [Act.put, List.setIfInBounds_toArray, List.set_cons_zero, List.set_cons_succ])
        have rowA : (wa.alloc (.cells #[.int .i64 0, .int .i64 0, .slice none 0 0] 36)).heap[wa.heap.size]? = some (.cells #[.int .i64 0, .int .i64 0, .slice none 0 0] 36 (0, 0)) := heap_alloc_last wa _
        refine wpAnyH_ready (rs := [6]) (by kernel_rfl) (by simp) ?_
        refine AllReadyH.cons rfl (fun K hK => ?_) AllReadyH.nil
        go_simp
        go_at_call 11
        refine (HBD.out _ (HWA.out.trans (Below.mono HBA1 HWA.out.size))).mono ?_
        rintro e wc hp
        obtain ⟨S, T, L, pn, g0, D, ar, gp, Ly, rfl, hIS, hPA, hbc⟩ := hp
        have HBc : Below V.heap.size V wc := Below.trans HBA1 (Below.mono hbc (Below.size HBA1))
        dsimp only
        refine hK.out _ _ HBc (fun _ => ?_)
        clear hK K
        (try simp only [Act.put, List.setIfInBounds_toArray, List.set_cons_zero, List.set_cons_succ])
        have rowB1 : wc.heap[wa.heap.size]? = some (.cells #[.int .i64 0, .int .i64 0, .slice none 0 0] 36 (0, 0)) := (Below.block hbc _ (lt_of_block rowA)).trans rowA
        refine wpAnyH_take (i := 7) (v := ?_) rfl (by kernel_rfl) (by kernel_rfl) (by kernel_rfl) (fun _ _ _ h => h) (Or.inl ⟨by rfl, ?_⟩) (by assumption) ?_
        rotate_left
        · (intro W hSW; go_simp; try (with_reducible rfl))
        (try simp only [List.getElem_toArray, List.getElem_cons_succ, List.getElem_cons_zero])
        (try simp only [Act.put, List.setIfInBounds_toArray, List.set_cons_zero, List.set_cons_succ])
        refine wpAnyH_take (i := 8) (v := ?_) rfl (by kernel_rfl) (by kernel_rfl) (by kernel_rfl) (fun _ _ _ h => h) (Or.inl ⟨by rfl, ?_⟩) (by assumption) ?_
        rotate_left
        · (intro W hSW; go_simp; try (with_reducible rfl))
        (try simp only [List.getElem_toArray, List.getElem_cons_succ, List.getElem_cons_zero])
        (try simp only [Act.put, List.setIfInBounds_toArray, List.set_cons_zero, List.set_cons_succ])
        refine wpAnyH_take (i := 9) (v := ?_) rfl (by kernel_rfl) (by kernel_rfl) (by kernel_rfl) (fun _ _ _ h => h) (Or.inl ⟨by rfl, ?_⟩) (by assumption) ?_
        rotate_left
        · (intro W hSW; go_simp; try (with_reducible rfl))
        (try simp only [List.getElem_toArray, List.getElem_cons_succ, List.getElem_cons_zero])
        (try simp only [Act.put, List.setIfInBounds_toArray, List.set_cons_zero, List.set_cons_succ])
        refine wpAnyH_ready (rs := [11]) (by kernel_rfl) (by simp) ?_
        refine AllReadyH.cons rfl (fun K hK => ?_) AllReadyH.nil
        refine wp_store_row 36 _ _ rfl (wa.heap.size) #[.int .i64 (pn : Int), .int .i64 ((idsD pn S.length D).length : Int), .slice (some ⟨gp, 0, none⟩) S.length S.length] rfl rfl 36 #[.int .i64 0, .int .i64 0, .slice none 0 0] rowB1 infoSsa rfl (by simp [Value.oneCell']) ?_
        have BN : Below V.heap.size V (World.setRow wc (wa.heap.size) #[.int .i64 (pn : Int), .int .i64 ((idsD pn S.length D).length : Int), .slice (some ⟨gp, 0, none⟩) S.length S.length]) := belowSK HBc (Below.size HBa) _
        refine hK.out _ _ BN (fun _ => ?_)
        clear hK K
        (try simp only [Act.put, List.setIfInBounds_toArray])
        refine wpAnyH_ready (rs := [12]) (by kernel_rfl) (by simp) ?_
        refine AllReadyH.cons rfl (fun K hK => ?_) AllReadyH.nil
        go_simp
        refine hK.out _ _ BN (fun _ => ?_)
        clear hK K
        (try simp only [Act.put, List.setIfInBounds_toArray, List.set_cons_zero, List.set_cons_succ])
        refine wpAnyH_done (by kernel_rfl) ?_ _
        go_wp2_with fail
        go_meet
        exact ⟨_, S, T, L, pn, g0, D, ar, gp, Ly, _, rfl, rfl, setRow_heap _ _ _ _ _ _ rowB1, hIS, hPA.kept (gb_setRow _ _ _) (fun q cs t e hh => by have e := Option.some.inj e; rw [← e] at hh; have hh := hh.symm.trans rowB1; simp at hh; right; rw [hh.2]; decide), BN⟩
    · go_simp
      have HBA0 : Below V.heap.size V (V.drew.alloc (.cells #[.int .i64 0, .int .i64 0, .slice none 0 0] 36)) := Below.alloc hHeld (Below.size hHeld) _
      refine hK.out _ _ HBA0 (fun _ => ?_)
      clear hK K
      (try simp only [Act.put, List.setIfInBounds_toArray, List.set_cons_zero, List.set_cons_succ])
      have rowA : (V.drew.alloc (.cells #[.int .i64 0, .int .i64 0, .slice none 0 0] 36)).heap[V.drew.heap.size]? = some (.cells #[.int .i64 0, .int .i64 0, .slice none 0 0] 36 (0, 0)) := heap_alloc_last V.drew _
      refine wpAnyH_ready (rs := [5]) (by kernel_rfl) (by simp) ?_
      refine AllReadyH.cons rfl (fun K hK => ?_) AllReadyH.nil
      go_simp
      go_at_call 12
      refine (picked_any _ _ _ hfn (by omega) (by omega)).mono ?_
      rintro e wa ⟨rfl, hwa⟩
      have hba : Below (V.drew.alloc (.cells #[.int .i64 0, .int .i64 0, .slice none 0 0] 36)).heap.size (V.drew.alloc (.cells #[.int .i64 0, .int .i64 0, .slice none 0 0] 36)) wa := by rw [hwa]; exact Below.refl _ _
      clear hwa
      have HBa : Below V.heap.size V wa := Below.trans HBA0 (Below.mono hba (Below.size HBA0))
      dsimp only
      refine hK.out _ _ HBa (fun _ => ?_)
      clear hK K
      (try simp only [Act.put, List.setIfInBounds_toArray, List.set_cons_zero, List.set_cons_succ])
      have rowB0 : wa.heap[V.drew.heap.size]? = some (.cells #[.int .i64 0, .int .i64 0, .slice none 0 0] 36 (0, 0)) := (Below.block hba _ (lt_of_block rowA)).trans rowA
      rw [ek]
      refine wpAnyH_ready (rs := [6]) (by kernel_rfl) (by simp) ?_
      refine AllReadyH.cons rfl (fun K hK => ?_) AllReadyH.nil
      go_simp
      go_at_call 11
      refine (HBD.out _ (HWA.out.trans (Below.mono HBa HWA.out.size))).mono ?_
      rintro e wc hp
      obtain ⟨S, T, L, pn, g0, D, ar, gp, Ly, rfl, hIS, hPA, hbc⟩ := hp
      have HBc : Below V.heap.size V wc := Below.trans HBa (Below.mono hbc (Below.size HBa))
      dsimp only
      refine hK.out _ _ HBc (fun _ => ?_)
      clear hK K
      (try simp only [Act.put, List.setIfInBounds_toArray, List.set_cons_zero, List.set_cons_succ])
      have rowB1 : wc.heap[V.drew.heap.size]? = some (.cells #[.int .i64 0, .int .i64 0, .slice none 0 0] 36 (0, 0)) := (Below.block hbc _ (lt_of_block rowB0)).trans rowB0
      refine wpAnyH_take (i := 7) (v := ?_) rfl (by kernel_rfl) (by kernel_rfl) (by kernel_rfl) (fun _ _ _ h => h) (Or.inl ⟨by rfl, ?_⟩) (by assumption) ?_
      rotate_left
      · (intro W hSW; go_simp; try (with_reducible rfl))
      (try simp only [List.getElem_toArray, List.getElem_cons_succ, List.getElem_cons_zero])
      (try simp only [Act.put, List.setIfInBounds_toArray, List.set_cons_zero, List.set_cons_succ])
      refine wpAnyH_take (i := 8) (v := ?_) rfl (by kernel_rfl) (by kernel_rfl) (by kernel_rfl) (fun _ _ _ h => h) (Or.inl ⟨by rfl, ?_⟩) (by assumption) ?_
      rotate_left
      · (intro W hSW; go_simp; try (with_reducible rfl))
      (try simp only [List.getElem_toArray, List.getElem_cons_succ, List.getElem_cons_zero])
      (try simp only [Act.put, List.setIfInBounds_toArray, List.set_cons_zero, List.set_cons_succ])
      refine wpAnyH_take (i := 9) (v := ?_) rfl (by kernel_rfl) (by kernel_rfl) (by kernel_rfl) (fun _ _ _ h => h) (Or.inl ⟨by rfl, ?_⟩) (by assumption) ?_
      rotate_left
      · (intro W hSW; go_simp; try (with_reducible rfl))
      (try simp only [List.getElem_toArray, List.getElem_cons_succ, List.getElem_cons_zero])
      (try simp only [Act.put, List.setIfInBounds_toArray, List.set_cons_zero, List.set_cons_succ])
      refine wpAnyH_ready (rs := [11]) (by kernel_rfl) (by simp) ?_
      refine AllReadyH.cons rfl (fun K hK => ?_) AllReadyH.nil
      refine wp_store_row 36 _ _ rfl (V.drew.heap.size) #[.int .i64 (pn : Int), .int .i64 ((idsD pn S.length D).length : Int), .slice (some ⟨gp, 0, none⟩) S.length S.length] rfl rfl 36 #[.int .i64 0, .int .i64 0, .slice none 0 0] rowB1 infoSsa rfl (by simp [Value.oneCell']) ?_
      have BN : Below V.heap.size V (World.setRow wc (V.drew.heap.size) #[.int .i64 (pn : Int), .int .i64 ((idsD pn S.length D).length : Int), .slice (some ⟨gp, 0, none⟩) S.length S.length]) := belowSK HBc (Below.size hHeld) _
      refine hK.out _ _ BN (fun _ => ?_)
      clear hK K
      (try simp only [Act.put, List.setIfInBounds_toArray])
      refine wpAnyH_ready (rs := [12]) (by kernel_rfl) (by simp) ?_
      refine AllReadyH.cons rfl (fun K hK => ?_) AllReadyH.nil
      go_simp
      refine hK.out _ _ BN (fun _ => ?_)
      clear hK K
      (try simp only [Act.put, List.setIfInBounds_toArray, List.set_cons_zero, List.set_cons_succ])
      refine wpAnyH_done (by kernel_rfl) ?_ _
      go_wp2_with fail
      go_meet
      exact ⟨_, S, T, L, pn, g0, D, ar, gp, Ly, _, rfl, rfl, setRow_heap _ _ _ _ _ _ rowB1, hIS, hPA.kept (gb_setRow _ _ _) (fun q cs t e hh => by have e := Option.some.inj e; rw [← e] at hh; have hh := hh.symm.trans rowB1; simp at hh; right; rw [hh.2]; decide), BN⟩
  case rest =>
    rename World => w2
    obtain ⟨G, S, T, L, pn, g0, D, ar, gp, Ly, B0, rfl, rfl, rowG, hIS, hPA, hbc⟩ := hcut
    have HB2 : Hid (Below w.heap.size w w2) := HB1.out.trans ((HWA.out.trans (hbc.mono HWA.out.size)).mono HB1.out.size)
    have hkn : S.length ≤ 40 := blocks40 OK.out hIS.ok
    obtain ⟨hk0, -⟩ := hIS.ok.starts.first
    have HOF : Hid (∀ i, i < S.length → ∃ (ao : Option Addr) (q c np : Nat), np ≤ 12 ∧ np ≤ c ∧ (0 < np → ao = some ⟨q, 0, none⟩) ∧ (∀ W, Below w2.heap.size w2 W → W.cell? ⟨gp, i * 15 + 1, none⟩ = some (.slice ao np c)) ∧
      ∀ j, j < np → ∃ (r : Nat) (id : Int) (aA : Option Addr) (qA oA nA cA : Nat) (A : List Int), A.length = nA ∧ nA ≤ 1000 ∧ nA ≤ cA ∧ (0 < nA → aA = some ⟨qA, oA, none⟩) ∧ (∀ k, k < nA → 0 ≤ A.getD k 0 ∧ A.getD k 0 < ((idsD pn S.length D).length : Int)) ∧ 2 ≤ (othT id A nA).length ∧ (∀ W, Below w2.heap.size w2 W → W.rangeAt q (j * 3) [.int .i64 (r : Int), .int .i64 id, .slice aA nA cA]) ∧ ∀ W, Below w2.heap.size w2 W → ∀ k, k < nA → W.cell? ⟨qA, oA + k, none⟩ = some (.int .i64 (A.getD k 0))) := hIS.says OK.out HUR.out hPA
    have s1 : w2.cell? ⟨G, 1, none⟩ = some (.int .i64 ((idsD pn S.length D).length : Int)) := by rw [cell_of_row _ _ _ _ _ _ rowG]; rfl
    have s2 : w2.cell? ⟨G, 2, none⟩ = some (.slice (some ⟨gp, 0, none⟩) S.length S.length) := by rw [cell_of_row _ _ _ _ _ _ rowG]; rfl
    have HQQ : Hid (∀ W, Below w2.heap.size w2 W → W.cell? ⟨G, 1, none⟩ = some (.int .i64 ((idsD pn S.length D).length : Int)) ∧ W.cell? ⟨G, 2, none⟩ = some (.slice (some ⟨gp, 0, none⟩) S.length S.length)) := fun W hW => ⟨keeps_below hW _ _ s1, keeps_below hW _ _ s2⟩
    have HK0 : Hid (decide (0 < (S.length : Int)) = true ∧ decide (0 < S.length) = true) := ⟨by simp only [decide_eq_true_eq]; omega, by simp only [decide_eq_true_eq]; omega⟩
    clear rowG hIS hPA hbc s1 s2 q0 HBD HIN d0' d1' t2 d0 d1 d2 hk0
    generalize ((idsD pn S.length D).length) = VL at *
    generalize S.length = K at *
    go_upto_region 4 with fail
    go_loopw [8] (fun i wr => ∃ q : Nat, q ≤ K ∧ i = .int .i64 q ∧ Below w2.heap.size w2 wr) (fun i _ => K - (intOf i).toNat)
    case atStart => exact ⟨0, Nat.zero_le _, rfl, Below.refl _ _⟩
    case round =>
      obtain ⟨i, hi, rfl, hbo⟩ := hrel
      rename World => wo
      have HBO : Hid (Below w2.heap.size w2 wo) := hbo
      obtain ⟨-, u2⟩ := HQQ.out wo hbo
      clear hbo
      by_cases hlt : i < K
      · have hiI : (i : Int) < K := by omega
        obtain ⟨ao, q, c, np, hnp, hnc, hao, hcp, hj⟩ := HOF.out i hlt
        have HCP : Hid (∀ W, Below w2.heap.size w2 W → W.cell? ⟨gp, i * 15 + 1, none⟩ = some (.slice ao np c)) := hcp
        have HAO : Hid (0 < np → ao = some ⟨q, 0, none⟩) := hao
        have HJ : Hid (∀ j, j < np → ∃ (r : Nat) (id : Int) (aA : Option Addr) (qA oA nA cA : Nat) (A : List Int), A.length = nA ∧ nA ≤ 1000 ∧ nA ≤ cA ∧ (0 < nA → aA = some ⟨qA, oA, none⟩) ∧ (∀ k, k < nA → 0 ≤ A.getD k 0 ∧ A.getD k 0 < (VL : Int)) ∧ 2 ≤ (othT id A nA).length ∧ (∀ W, Below w2.heap.size w2 W → W.rangeAt q (j * 3) [.int .i64 (r : Int), .int .i64 id, .slice aA nA cA]) ∧ ∀ W, Below w2.heap.size w2 W → ∀ k, k < nA → W.cell? ⟨qA, oA + k, none⟩ = some (.int .i64 (A.getD k 0))) := hj
        have c1 := hcp wo HBO.out
        clear hao hcp hj
        go_wp2
        go_loopw [9] (fun j wr => ∃ z : Nat, z ≤ np ∧ j = .int .i64 z ∧ Below w2.heap.size w2 wr) (fun j _ => np - (intOf j).toNat)
        case atStart => exact ⟨0, Nat.zero_le _, rfl, HBO.out⟩
        case round =>
          clear c1 u2
          obtain ⟨j, hj, rfl, hbi⟩ := hrel
          rename World => wi
          have HBI : Hid (Below w2.heap.size w2 wi) := hbi
          obtain ⟨-, u2⟩ := HQQ.out wi hbi
          have c1 := HCP.out wi hbi
          clear hbi
          by_cases hlj : j < np
          · have hjI : (j : Int) < np := by omega
            obtain ⟨r, id, aA, qA, oA, nA, cA, A, hAl, hA1, hAc, hAa, hAv, hA2, hw, hwA⟩ := HJ.out j hlj
            have hao := HAO.out (by omega)
            subst hao
            have hrk := hw wi HBI.out
            have HAA : Hid (0 < nA → aA = some ⟨qA, oA, none⟩) := hAa
            have HAV : Hid (∀ k, k < nA → 0 ≤ A.getD k 0 ∧ A.getD k 0 < (VL : Int)) := hAv
            have HA2 : Hid (2 ≤ (othT id A nA).length) := hA2
            have HWC : Hid (∀ W, Below w2.heap.size w2 W → ∀ k, k < nA → W.cell? ⟨qA, oA + k, none⟩ = some (.int .i64 (A.getD k 0))) := hwA
            clear hw hwA hAa hAv hA2 hAl
            go_upto_region 11 with (refine wpList_load_mid rfl 53 _ rfl q (j * 3) rfl _ _ hrk Tryd.underlying53 rfl infoPhi3p ?_)
            have HBA : Hid (Below w2.heap.size w2 (wi.alloc (.cells #[.int .i64 (r : Int), .int .i64 id, .slice aA nA cA] 53))) := HBI.out.alloc HBI.out.size _
            have r14 : (wi.alloc (.cells #[.int .i64 (r : Int), .int .i64 id, .slice aA nA cA] 53)).heap[wi.heap.size]? = some (.cells #[.int .i64 (r : Int), .int .i64 id, .slice aA nA cA] 53 (0, 0)) := heap_alloc_last wi _
            clear c1 u2 hrk
            generalize (wi.alloc (.cells #[.int .i64 (r : Int), .int .i64 id, .slice aA nA cA] 53)) = V at *
            have hxb := lt_of_block r14
            generalize wi.heap.size = XB at *
            have x1 : V.cell? ⟨XB, 1, none⟩ = some (.int .i64 id) := by rw [cell_of_row _ _ _ _ _ _ r14]; rfl
            have x2 : V.cell? ⟨XB, 2, none⟩ = some (.slice aA nA cA) := by rw [cell_of_row _ _ _ _ _ _ r14]; rfl
            have HX : Hid (∀ W, Below V.heap.size V W → W.cell? ⟨XB, 1, none⟩ = some (.int .i64 id) ∧ W.cell? ⟨XB, 2, none⟩ = some (.slice aA nA cA) ∧ W.cell? ⟨G, 1, none⟩ = some (.int .i64 (VL : Int))) := fun W hW => ⟨keeps_below hW _ _ x1, keeps_below hW _ _ x2, (HQQ.out W (HBA.out.trans (hW.mono HBA.out.size))).1⟩
            clear r14 x1 x2
            go_upto_region 12 with fail
            go_loopw [11, 12] (fun o k wr => ∃ (z : Nat) (fv : Value), z ≤ nA ∧ k = .int .i64 z ∧ o = fv ∧ wr.ownsRow V.heap.size 3 1 fv (othT id A z).length (i64s (othT id A z)) ∧ Below V.heap.size V wr) (fun _ k _ => nA - (intOf k).toNat)
            case atStart => exact ⟨0, _, Nat.zero_le _, rfl, rfl, ⟨rfl, Or.inl ⟨rfl, rfl⟩⟩, Below.refl _ _⟩
            case round =>
              obtain ⟨z, fv, hz, rfl, efv, hown, hbr⟩ := hrel
              replace efv := efv.symm
              subst efv
              rename World => wr
              have HBR : Hid (Below V.heap.size V wr) := hbr
              have HOW : Hid (wr.ownsRow V.heap.size 3 1 fv (othT id A z).length (i64s (othT id A z))) := hown
              obtain ⟨x1, x2, x3⟩ := HX.out wr hbr
              have hol := othT_len id A z
              have HFV : Hid (IntsVal wr fv (othT id A z)) := ints_of_own hown
              obtain ⟨aof, capf, efv⟩ := own_shape hown
              subst efv
              by_cases hlz : z < nA
              · have hzI : (z : Int) < nA := by omega
                have hAe := HAA.out (by omega)
                subst hAe
                obtain ⟨hv1, hv2⟩ := HAV.out z hlz
                have hd1 : decide (A.getD z 0 < 0) = false := by simp only [decide_eq_false_iff_not]; omega
                have hd2 : decide ((VL : Int) ≤ A.getD z 0) = false := by simp only [decide_eq_false_iff_not]; omega
                have HST : Hid (othT id A (z + 1) = oth1 id (A.getD z 0) (othT id A z)) := rfl
                have HAC : Hid (∀ W, Below w2.heap.size w2 W → W.cell? ⟨qA, oA + z, none⟩ = some (.int .i64 (A.getD z 0))) := fun W hW => HWC.out W hW z hlz
                have k1 := HAC.out wr (HBA.out.trans (hbr.mono HBA.out.size))
                clear hown hbr hv1 hv2
                generalize A.getD z 0 = a at *
                generalize hO : othT id A z = O at *
                clear hO
                go_upto_region 14 with fail
                go_quiet (fail)
                obtain ⟨w5, hw5⟩ : ∃ w5, w5 = wr.drewN nq := ⟨_, rfl⟩
                have HB5 : Hid (Below wr.heap.size wr w5) := by show Below _ _ _; rw [hw5]; exact below_drewN (Below.refl _ _) nq
                rw [← hw5]
                have HF5 : Hid (IntsVal w5 (.slice aof O.length capf) O) := HFV.out.keeps (keeps_below HB5.out)
                have HOW5 : Hid (w5.ownsRow V.heap.size 3 1 (.slice aof O.length capf) O.length (i64s O)) := ownsRow_below HOW.out HB5.out
                have HBR5 : Hid (Below V.heap.size V w5) := HBR.out.trans (HB5.out.mono HBR.out.size)
                clear hw5 x1 x2 x3 k1
                obtain ⟨x1, x2, x3⟩ := HX.out w5 HBR5.out
                have k1 := HAC.out w5 (HBA.out.trans (HBR5.out.mono HBA.out.size))
                by_cases hai : a = id
                · have hne : (a != id) = false := by simpa using hai
                  have HS2 : Hid (othT id A (z + 1) = O) := by show _ = _; rw [HST.out]; unfold oth1; rw [if_pos (Or.inl hai)]
                  clear hai
                  go_wp2
                  go_quiet (fail)
                  go_wp2
                  go_roundw
                  case rel => exact ⟨z + 1, _, by omega, by go_num, rfl, by rw [HS2.out]; exact ownsRow_below HOW5.out (below_drewN (Below.refl _ _) _), below_drewN HBR5.out _⟩
                  case measure => simp [intOf]; omega
                · have hne : (a != id) = true := by simpa using hai
                  have hH := fun m => hasList_any O (.slice aof O.length capf) a (w5.drewN m) (HF5.out.keeps (fun _ _ e => e))
                  by_cases hao : a ∈ O
                  · have hd : decide (a ∈ O) = true := by simpa using hao
                    have HS2 : Hid (othT id A (z + 1) = O) := by show _ = _; rw [HST.out]; unfold oth1; rw [if_pos (Or.inr hao)]
                    rw [hd] at hH
                    clear hai hao hd
                    go_wp2
                    go_quiet ((go_at_call 14; exact (hH _).mono fun _ _ h => ⟨h.1, _, h.2⟩))
                    go_wp2
                    go_roundw
                    case rel => exact ⟨z + 1, _, by omega, by go_num, rfl, by rw [HS2.out]; exact ownsRow_below HOW5.out (below_drewN (Below.refl _ _) _), below_drewN HBR5.out _⟩
                    case measure => simp [intOf]; omega
                  · have hd : decide (a ∈ O) = false := by simpa using hao
                    have HS2 : Hid (othT id A (z + 1) = O ++ [a]) := by show _ = _; rw [HST.out]; unfold oth1; rw [if_neg (fun h => h.elim hai hao)]
                    rw [hd] at hH
                    clear hai hao hd
                    go_upto_region 16 with fail
                    go_quiet ((go_at_call 14; exact (hH _).mono fun _ _ h => ⟨h.1, _, h.2⟩))
                    obtain ⟨w6, hw6⟩ : ∃ w6, w6 = w5.drewN nq := ⟨_, rfl⟩
                    have HB6 : Hid (Below w5.heap.size w5 w6) := by show Below _ _ _; rw [hw6]; exact below_drewN (Below.refl _ _) nq
                    rw [← hw6]
                    have HOW6 : Hid (w6.ownsRow V.heap.size 3 1 (.slice aof O.length capf) O.length (i64s O)) := ownsRow_below HOW5.out HB6.out
                    have HBR6 : Hid (Below V.heap.size V w6) := HBR5.out.trans (HB6.out.mono HBR5.out.size)
                    clear hw6 x1 x2 x3 k1 hH
                    obtain ⟨x1, x2, x3⟩ := HX.out w6 HBR6.out
                    have k1 := HAC.out w6 (HBA.out.trans (HBR6.out.mono HBA.out.size))
                    have hVz := HBR6.out.size
                    go_wp2_with (at_builtin; refine wpList_append_own _ rfl (.tmp 93) (.tmp 99) 49 rfl V.heap.size 3 i64i _ 1 8 Tryd.underlying49 hi64 hzz0 hzz1 hzz2 rfl (by decide) _ _ _ rfl (HOW6.out.alloc _) ⟨_, 0, none⟩ 1 1 (i64s [a]) rfl rfl (news_list _ _ _ _ rfl) (i64s_one _) (by unfold maxLen; omega) (by omega) (by simp; omega) ?_; intro v2 w4 hown2 hg2 _; rw [← i64s_append] at hown2; have hb4 : Below V.heap.size (w6.alloc (.cells (i64s [a]).toArray 3)) w4 := grown_base (HOW6.out.alloc _) (by simp; omega) hg2)
                    go_roundw
                    case rel => exact ⟨z + 1, _, by omega, by go_num, rfl, by rw [HS2.out, List.length_append]; exact hown2, (HBR6.out.alloc hVz _).trans hb4⟩
                    case measure => simp [intOf]; omega
              · obtain rfl : z = nA := by omega
                have h2 := HA2.out
                have hl2 : decide (((othT id A z).length : Int) < 2) = false := by simp only [decide_eq_false_iff_not]; omega
                have hl2n : decide ((othT id A z).length < 2) = false := by simp only [decide_eq_false_iff_not]; omega
                clear h2 hown hbr HFV
                generalize (othT id A z).length = ol at *
                go_wp2
                go_roundw
                case rel => exact ⟨j + 1, by omega, by go_num, HBA.out.trans (HBR.out.mono HBA.out.size)⟩
                case measure => simp [intOf]; omega
          · go_wp2
            go_roundw
            case rel => exact ⟨i + 1, by omega, by go_num, HBI.out⟩
            case measure => simp [intOf]; omega
      · obtain ⟨k1, k2⟩ := HK0.out
        go_wp2
        go_ret
        exact ⟨rfl, HB2.out.trans (HBO.out.mono HB2.out.size)⟩
end Go.Proofs.YtdpaohmaafngkaaDoor
