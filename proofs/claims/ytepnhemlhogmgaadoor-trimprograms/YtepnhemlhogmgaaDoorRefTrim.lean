/- Contract of the document's answer to P5.3 (tierlineref.Trimmed). -/
import Derived.Test.YtepnhemlhogmgaaDoorTrimAll
import Derived.Test.YtepnhemlhogmgaaDoorRefCalled
namespace Go.Proofs.YtepnhemlhogmgaaDoor
open Go Go.RowKit

theorem three_setCell {w : World} {g t : Nat} {a b u : Value} (v : Value) (h : w.heap[g]? = some (.cells #[a, b, u] t (0, 0))) : (w.setCell ⟨g, 2, none⟩ v).heap[g]? = some (.cells #[a, b, v] t (0, 0)) := by
  have hl := lt_of_block h
  have e : w.heap[g] = .cells #[a, b, u] t (0, 0) := by
    have := Array.getElem?_eq_getElem hl
    rw [h] at this
    exact (Option.some.inj this).symm
  rw [Array.getElem?_eq_getElem (by simp [World.setCell]; exact hl)]
  simp [World.setCell, Array.getElem_modify, e]
theorem free_three {w : World} {g t : Nat} {a b u : Value} (h : w.heap[g]? = some (.cells #[a, b, u] t (0, 0))) (i : Nat) : w.frozen? ⟨g, i, none⟩ = false := by
  simp [World.frozen?, h]
theorem fbox_step {wr w5 : World} {FB tF tI : Nat} {fp fr uf v5 : Value} {M : List Ins} {x : Ins} {o1 o2 : Obj} (hFB : wr.heap[FB]? = some (.cells #[fp, fr, uf] tF (0, 0)))
    (hown : wr.ownsRow (FB + 1) tI 5 uf M.length (codeCells M)) (hg : ((wr.alloc o1).alloc o2).grownBy w5 uf.ownBlock) (hown5 : w5.ownsRow (FB + 1) tI 5 v5 (M.length + 1) (codeCells (M ++ [x]))) :
    w5.heap[FB]? = some (.cells #[fp, fr, uf] tF (0, 0)) ∧ (w5.setCell ⟨FB, 2, none⟩ v5).heap[FB]? = some (.cells #[fp, fr, v5] tF (0, 0)) ∧ (w5.setCell ⟨FB, 2, none⟩ v5).ownsRow (FB + 1) tI 5 v5 (M ++ [x]).length (codeCells (M ++ [x])) ∧
      ∀ B W0, B ≤ FB → Below B W0 wr → Below B W0 (w5.setCell ⟨FB, 2, none⟩ v5) := by
  have hz := lt_of_block hFB
  have hrow : ∀ k, uf.ownBlock = some k → FB + 1 ≤ k := fun k hk => (hown.lt k hk).1
  have h1 : w5.heap[FB]? = some (.cells #[fp, fr, uf] tF (0, 0)) :=
    (hg.block FB (by simp; omega) (fun e => by have := hrow FB e.symm; omega)).trans ((heap_alloc_old _ _ (by simp; omega)).trans ((heap_alloc_old _ _ hz).trans hFB))
  refine ⟨h1, three_setCell v5 h1, ?_, fun B W0 hB h => ?_⟩
  · have := ownsRow_setCell_below hown5 (a := ⟨FB, 2, none⟩) (by simp) v5
    simpa using this
  · exact (((h.alloc (by omega) _).alloc (by simp; omega) _).grown hg (by simp; omega) (fun k hk => by have := hrow k hk; omega)).setCell (by simpa using hB) _
theorem obox_step {wr w7 : World} {O tF tI tP : Nat} {vo v7 u : Value} {Q : List Fn} {us : List Value} {f : Fn} {oN : Obj} (ht : tI ≠ tF) (hbt : Built wr (O + 1) tF tI vo Q us) (ho : wr.heap[O]? = some (.cells #[vo] tP (0, 0)))
    (hu : wr.ownsRow (O + 1) tI 5 u f.code.length (codeCells f.code)) (hg : (wr.alloc oN).grownBy w7 vo.ownBlock) (hown7 : w7.ownsRow (O + 1) tF 3 v7 (Q.length + 1) (fnsCells Q us ++ fnCells f u)) :
    w7.heap[O]? = some (.cells #[vo] tP (0, 0)) ∧ Built (w7.setCell ⟨O, 0, none⟩ v7) (O + 1) tF tI v7 (Q ++ [f]) (us ++ [u]) ∧ (w7.setCell ⟨O, 0, none⟩ v7).heap[O]? = some (.cells #[v7] tP (0, 0)) ∧
      ∀ B W0, B ≤ O → Below B W0 wr → Below B W0 (w7.setCell ⟨O, 0, none⟩ v7) := by
  have hz := lt_of_block ho
  have hrow : ∀ k, vo.ownBlock = some k → O + 1 ≤ k := fun k hk => (hbt.row.lt k hk).1
  have h1 : w7.heap[O]? = some (.cells #[vo] tP (0, 0)) := (hg.block O (by simp; omega) (fun e => by have := hrow O e.symm; omega)).trans ((heap_alloc_old _ _ hz).trans ho)
  refine ⟨h1, ((hbt.alloc oN).snoc ht (hu.alloc oN) hown7 hg).setCell (by simp) _, one_setCell h1, fun B W0 hB h => ?_⟩
  exact ((h.alloc (by omega) _).grown hg (by simp; omega) (fun k hk => by have := hrow k hk; omega)).setCell (by simpa using hB) _
theorem called_bad {P : List Fn} (h0 : ¬ ProofAns P 0) {w w' : World} {e : Ending} (h : CalledPost P w e w') : ∃ E, (E != 0) = true ∧ e = .returned (.tuple #[.slice none 0 0, .int .i64 E]) ∧ ProofAns P E ∧ Below w.heap.size w w' := by
  rcases h with h | ⟨h1, _⟩
  · exact h
  · exact absurd h1 h0
theorem called_right {P : List Fn} (h0 : ProofAns P 0) {w w' : World} {e : Ending} (h : CalledPost P w e w') : ∃ g c, e = .returned (.tuple #[.slice (some ⟨g, 0, none⟩) P.length P.length, .int .i64 0]) ∧ CalledSpec P c ∧ BoolRow w' g P.length c ∧ Below w.heap.size w w' := by
  rcases h with ⟨E, hE, _, h1, _⟩ | ⟨_, g, c, he, hc, hr, _, hb⟩
  · rw [proofAns_unique h1 h0] at hE; cases hE
  · exact ⟨g, c, he, hc, hr, hb⟩

set_option maxRecDepth 100000 in
set_option maxHeartbeats 16000000 in
theorem trimmed_any (P : List Fn) (v : Value) (w : World) (hv : ProgVal w v P) :
    Calls Tryd.prog 17 #[.agg #[v]] w fun e w' => TrimPost P w e w' := by
  have hbx : ∀ o o', Below w.heap.size w ((w.alloc o).alloc o') := fun o o' => ((Below.refl _ _).alloc (Nat.le_refl _) _).alloc (by simp) _
  by_cases h0 : ProofAns P 0
  · have hC := fun o o' => (calledOf_any P v ((w.alloc o).alloc o') (hv.keeps (keeps_below (hbx o o')))).mono (fun e w' h => called_right h0 h)
    have hP := proof_code h0
    have hp1 := (codeProg_zero hP).1
    have hp4 := (codeProg_zero hP).2.1
    obtain ⟨iF, hiF, hzF0, hzF1, hzF2⟩ := info_parts infoF
    obtain ⟨iI, hiI, hzI0, hzI1, hzI2⟩ := info_parts infoI
    have HWO : Hid (∀ k (hk : k < P.length) W, Below w.heap.size w W → Calls Tryd.prog 11 #[.agg #[v], .int .i64 k] W fun e w' => ∃ v' s, e = .returned (.tuple #[v', .int .i64 0]) ∧ Reach P[k] s ∧ IntsVal w' v' (whereL s) ∧ Below W.heap.size W w') := fun k hk W hb => whereOf_zero P h0 k hk v W (hv.keeps (keeps_below hb))
    have HOK : Hid (∀ k (hk : k < P.length), (1 ≤ P[k].code.length ∧ P[k].code.length ≤ 40) ∧ MvOk P[k] P.length) := fun k hk => ⟨⟨(fnOk_of hP (List.getElem_mem hk)).1.len1, (fnOk_of hP (List.getElem_mem hk)).1.len2⟩, mvOk_of hP (List.getElem_mem hk)⟩
    have HAN : Hid (∀ c Q, CalledSpec P c → KeptTo P c P.length Q → TrimAns P 0 Q) := fun c Q a b => Or.inr ⟨h0, rfl, c, a, b⟩
    have HCAL : Hid (∀ c, CalledSpec P c → ∀ k (hk : k < P.length), c.getD k false = true → ∀ q (t : Nat), CallsAt P[k] q (t : Int) → c.getD t false = true) := fun c hc k hk hck q t ht => by
      obtain ⟨t', e, ht'⟩ := calls_fit hP hk ht
      have : t = t' := by omega
      subst this
      exact (hc.2 t ht').2 (Called.call ((hc.2 k hk).1 hck) hk ht)
    obtain ⟨ao, b, off, N, cap, rfl, ⟨hlen, haddr, hat⟩, hcap, hmax⟩ := hv
    obtain rfl := haddr (by omega)
    unfold maxLen at hmax
    have HAT : Hid (∀ k (h : k < P.length), ∃ u, FnAt w b (off + k * 3) P[k] u) := hat
    subst hlen
    have hcp := hcap.1
    clear h0 hP hbx hat haddr hcap
    go_enter Tryd.func17, Tryd.ntmps17
    go_wp2_with (go_at_call 14; refine (hC _ _).mono ?_; rintro e w1 ⟨g2, c, rfl, hcs, hrow, hb1⟩; have k2 := keeps_below hb1 ⟨w.heap.size, 0, none⟩ (.slice (some ⟨b, off, none⟩) P.length cap) (by simp); have k3 : w1.heap[w.heap.size + 1]? = some (.cells #[.slice none 0 0] 24 (0, 0)) := (hb1.block _ (by simp)).trans (by simpa only [World.size_alloc] using heap_alloc_new (w.alloc (.cells #[.slice (some ⟨b, off, none⟩) P.length cap] 24)) (.cells #[.slice none 0 0] 24)); have HBW1 : Hid (Below w.heap.size w w1) := (((Below.refl _ _).alloc (Nat.le_refl _) _).alloc (by simp) _).trans (hb1.mono (by simp; omega)); have hz1 : w.heap.size + 2 ≤ w1.heap.size := (by have := hb1.size; simp at this; omega); have HCS : Hid (CalledSpec P c) := hcs; have hcl := hcs.1; have HROW : Hid (BoolRow w1 g2 P.length c) := hrow; have k2a := (fun o => cell_alloc k2 o); clear hb1 hcs hrow)
    have HO : Hid ((w1.alloc (.cells #[.slice none 0 0] 24)).heap[w1.heap.size]? = some (.cells #[.slice none 0 0] 24 (0, 0))) := heap_alloc_new w1 _
    have hg2l : g2 < w1.heap.size := (HROW.out.lt g2 rfl).2
    clear hC
    go_loopw [7] (fun i wr => ∃ (k : Nat) (vo : Value) (Q : List Fn) (us : List Value), k ≤ P.length ∧ i = .int .i64 k ∧ Below w1.heap.size w1 wr ∧ wr.heap[w1.heap.size]? = some (.cells #[vo] 24 (0, 0)) ∧ Built wr (w1.heap.size + 1) 44 70 vo Q us ∧ KeptTo P c k Q) (fun i _ => P.length - (intOf i).toNat)
    case atStart => exact ⟨0, _, [], [], Nat.zero_le _, rfl, (Below.refl _ _).alloc (Nat.le_refl _) _, HO.out, built_nil _ _ _ _, KeptTo.zero⟩
    case round =>
      rename World => wa
      obtain ⟨k, vo, Q, us, hk, rfl, hbr, ho, hbt, hkt⟩ := hrel
      have j2 := keeps_below hbr _ _ k2
      have j3 := (hbr.block (w.heap.size + 1) (by omega)).trans k3
      have hzr : w1.heap.size < wa.heap.size := lt_of_block ho
      have HBR : Hid (Below w1.heap.size w1 wa) := hbr
      have HBWR : Hid (Below w.heap.size w wa) := HBW1.out.trans (hbr.mono (by omega))
      have hQl := keptTo_len hkt
      have HKT : Hid (KeptTo P c k Q) := hkt
      have HBT : Hid (Built wa (w1.heap.size + 1) 44 70 vo Q us) := hbt
      have HOO : Hid (wa.heap[w1.heap.size]? = some (.cells #[vo] 24 (0, 0))) := ho
      clear hkt ho
      by_cases hlt : k < P.length
      · have hkI : (k : Int) < P.length := by omega
        have ck := keeps_below hbr _ _ (bool_cell HROW.out hcl k hlt)
        obtain ⟨u, hfn⟩ := HAT.out k hlt
        obtain ⟨d0, d1, d2, hcv⟩ := hfn.keeps (keeps_below HBWR.out)
        have hwo := HWO.out k hlt wa HBWR.out
        obtain ⟨⟨hl1, hl2⟩, hmv⟩ := HOK.out k hlt
        have HKG : Hid (c.getD k false = false → KeptTo P c (k + 1) Q) := fun h => KeptTo.gone HKT.out h
        have HKK : Hid (c.getD k false = true → ∀ s, Reach P[k] s → KeptTo P c (k + 1) (Q ++ [keptF P[k] s c])) := fun h s hs => KeptTo.kept HKT.out hlt h hs
        have HCK : Hid (c.getD k false = true → ∀ q (t : Nat), CallsAt P[k] q (t : Int) → c.getD t false = true) := fun h q t ht => HCAL.out c HCS.out k hlt h q t ht
        generalize P[k] = f at d0 d1 hcv hwo hl1 hl2 hmv HKK HCK
        obtain ⟨ao1, b1, off1, n, cap1, rfl, ⟨hln, had1, hat1⟩, hcp1, hmx1⟩ := hcv
        obtain rfl := had1 (by omega)
        have HAT1 : Hid (∀ q (h : q < f.code.length), insAt wa b1 (off1 + q * 5) f.code[q]) := hat1
        have HLN : Hid (f.code.length = n) := hln
        have HTG : Hid (∀ pc, pc < n → (insD f pc).op = 15 ∨ (insD f pc).op = 16 → ∃ t : Nat, (insD f pc).imm = t ∧ t < n) := fun pc hp h => by have := hmv.target pc (by omega) h; rw [hln] at this; exact this
        have HCLL : Hid (∀ pc, pc < n → (insD f pc).op = 17 → ∃ t : Nat, (insD f pc).imm = t ∧ t < P.length) := fun pc hp h => hmv.call pc (by omega) h
        have HPR : Hid (∃ z, z = f.params) := ⟨_, rfl⟩
        obtain ⟨fp, hfp⟩ : ∃ z, z = f.params := ⟨_, rfl⟩
        obtain ⟨fr, hfr⟩ : ∃ z, z = f.regs := ⟨_, rfl⟩
        rw [← hfp] at d0
        rw [← hfr] at d1
        have HKF : Hid (∀ s, keptF f s c = ⟨fp, fr, movedTo f (whereL s) (whereL c) n⟩) := fun s => by unfold keptF; rw [hln, hfp, hfr]
        rw [hln] at hl1 hl2
        unfold maxLen at hmx1
        have hcpi := hcp1.1
        generalize hsb : c.getD k false = sb at ck HKG HKK HCK
        clear hsb hbr hbt hfn hmv hfp hfr hat1 had1 hcp1 hln HPR
        cases sb
        · go_wp2
          go_roundw
          case rel => exact ⟨k + 1, vo, Q, us, by omega, by go_num, HBR.out, HOO.out, HBT.out, HKG.out rfl⟩
          case measure => simp [intOf]; omega
        · go_upto_region 10 with (go_at_call 11; refine hwo.mono ?_; rintro e w3 ⟨v3, s, rfl, hre, hI, hb3⟩; have hre' := hre; unfold Reach at hre'; rw [HLN.out] at hre'; obtain ⟨ao3, b3, off3, n3, cap3, rfl, hl3, ha3, hc3, hcp3, hmx3⟩ := ints_get hI; rw [whereL_length, hre'.1] at hl3; subst hl3; obtain rfl := ha3 (by omega); have HRE : Hid (s.length = n ∧ ∀ q, q < n → (s.getD q false = true ↔ Way f 63 q)) := hre'; have HREA : Hid (Reach f s) := hre; have HC3 : Hid (∀ q, q < n → w3.cell? ⟨b3, off3 + q, none⟩ = some (.int .i64 (whereI s q))) := (fun q hq => by rw [hc3 q hq, whereL_getD s q (by rw [hre'.1]; exact hq)]); have HB3 : Hid (Below wa.heap.size wa w3) := hb3; have q0 := keeps_below hb3 _ _ d0; have q1 := keeps_below hb3 _ _ d1; have q2 := keeps_below hb3 _ _ d2; have q3 := keeps_below hb3 _ _ j2; clear hre hre' hI ha3 hc3 hb3)
          clear hwo d0 d1 d2
          have hz3 := HB3.out.size
          refine wp_region_last (S := fun W => Below w3.heap.size w3 W) _ 14 (by kernel_rfl) (by kernel_rfl) rfl ((Below.refl _ _).drew) (fun hHeld => ?_)
          simp only [List.pop_toArray, List.dropLast]
          refine wpAnyH_take (i := 0) (v := ?_) rfl (by kernel_rfl) (by kernel_rfl) (by kernel_rfl) (fun _ _ _ h => h) (Or.inl ⟨by rfl, ?_⟩) (by assumption) ?_
          rotate_left
          · (intro W hSW; go_simp; try (with_reducible rfl))
          (try simp only [Act.put, List.setIfInBounds_toArray])
          refine wpAnyH_take (i := 1) (v := ?_) rfl (by kernel_rfl) (by kernel_rfl) (by kernel_rfl) (fun _ _ _ h => h) (Or.inl ⟨by rfl, ?_⟩) (by assumption) ?_
          rotate_left
          · (intro W hSW; have zz := keeps_below hSW _ _ q3; go_simp; try (with_reducible rfl))
          (try simp only [Act.put])
          refine wpAnyH_take (i := 2) (v := ?_) rfl (by kernel_rfl) (by kernel_rfl) (by kernel_rfl) (fun _ _ _ h => h) (Or.inl ⟨by rfl, ?_⟩) (by assumption) ?_
          rotate_left
          · (intro W hSW; go_simp; try (with_reducible rfl))
          (try simp only [Act.put])
          refine wpAnyH_take (i := 3) (v := ?_) rfl (by kernel_rfl) (by kernel_rfl) (by kernel_rfl) (fun _ _ _ h => h) (Or.inl ⟨by rfl, ?_⟩) (by assumption) ?_
          rotate_left
          · (intro W hSW; go_simp; try (with_reducible rfl))
          (try simp only [Act.put])
          refine wpAnyH_take (i := 4) (v := ?_) rfl (by kernel_rfl) (by kernel_rfl) (by kernel_rfl) (fun _ _ _ h => h) (Or.inl ⟨by rfl, ?_⟩) (by assumption) ?_
          rotate_left
          · (intro W hSW; go_simp; try (with_reducible rfl))
          (try simp only [Act.put])
          refine wpAnyH_take (i := 5) (v := ?_) rfl (by kernel_rfl) (by kernel_rfl) (by kernel_rfl) (fun _ _ _ h => h) (Or.inl ⟨by rfl, ?_⟩) (by assumption) ?_
          rotate_left
          · (intro W hSW; have zz := keeps_below hSW _ _ q0; go_simp; try (with_reducible rfl))
          (try simp only [Act.put])
          refine wpAnyH_take (i := 6) (v := ?_) rfl (by kernel_rfl) (by kernel_rfl) (by kernel_rfl) (fun _ _ _ h => h) (Or.inl ⟨by rfl, ?_⟩) (by assumption) ?_
          rotate_left
          · (intro W hSW; go_simp; try (with_reducible rfl))
          (try simp only [Act.put])
          refine wpAnyH_take (i := 7) (v := ?_) rfl (by kernel_rfl) (by kernel_rfl) (by kernel_rfl) (fun _ _ _ h => h) (Or.inl ⟨by rfl, ?_⟩) (by assumption) ?_
          rotate_left
          · (intro W hSW; have zz := keeps_below hSW _ _ q3; go_simp; try (with_reducible rfl))
          (try simp only [Act.put])
          refine wpAnyH_take (i := 8) (v := ?_) rfl (by kernel_rfl) (by kernel_rfl) (by kernel_rfl) (fun _ _ _ h => h) (Or.inl ⟨by rfl, ?_⟩) (by assumption) ?_
          rotate_left
          · (intro W hSW; go_simp; try (with_reducible rfl))
          (try simp only [Act.put])
          refine wpAnyH_take (i := 9) (v := ?_) rfl (by kernel_rfl) (by kernel_rfl) (by kernel_rfl) (fun _ _ _ h => h) (Or.inl ⟨by rfl, ?_⟩) (by assumption) ?_
          rotate_left
          · (intro W hSW; go_simp; try (with_reducible rfl))
          (try simp only [Act.put])
          refine wpAnyH_take (i := 10) (v := ?_) rfl (by kernel_rfl) (by kernel_rfl) (by kernel_rfl) (fun _ _ _ h => h) (Or.inl ⟨by rfl, ?_⟩) (by assumption) ?_
          rotate_left
          · (intro W hSW; go_simp; try (with_reducible rfl))
          (try simp only [Act.put])
          refine wpAnyH_take (i := 11) (v := ?_) rfl (by kernel_rfl) (by kernel_rfl) (by kernel_rfl) (fun _ _ _ h => h) (Or.inl ⟨by rfl, ?_⟩) (by assumption) ?_
          rotate_left
          · (intro W hSW; have zz := keeps_below hSW _ _ q1; go_simp; try (with_reducible rfl))
          (try simp only [Act.put])
          refine wpAnyH_take (i := 12) (v := ?_) rfl (by kernel_rfl) (by kernel_rfl) (by kernel_rfl) (fun _ _ _ h => h) (Or.inl ⟨by rfl, ?_⟩) (by assumption) ?_
          rotate_left
          · (intro W hSW; go_simp; try (with_reducible rfl))
          (try simp only [Act.put])
          refine wpAnyH_ready (rs := [13]) (by kernel_rfl) (by simp) ?_
          refine AllReadyH.cons rfl (fun K hK => ?_) AllReadyH.nil
          go_simp
          refine hK.out _ _ ((Below.refl _ _).drew.alloc (by simp) _) (fun _ => ?_)
          clear hK K
          (try simp only [Act.put, List.setIfInBounds_toArray, List.set_cons_zero, List.set_cons_succ])
          refine wpAnyH_done (by kernel_rfl) ?_ _
          refine Or.inl ?_
          go_simp
          have HF0 : Hid ((w3.alloc (.cells #[.int .i64 fp, .int .i64 fr, .slice none 0 0] 44)).drew.heap[w3.heap.size]? = some (.cells #[.int .i64 fp, .int .i64 fr, .slice none 0 0] 44 (0, 0))) := heap_alloc_new w3 _
          have HBF : Hid (Below w3.heap.size w3 (w3.alloc (.cells #[.int .i64 fp, .int .i64 fr, .slice none 0 0] 44)).drew) := ((Below.refl _ _).alloc (Nat.le_refl _) _).drew
          have HBW3 : Hid (Below wa.heap.size wa w3) := HB3.out
          have HBU : Hid (Below w.heap.size w w3) := below_call HBWR.out (by omega) HB3.out
          go_wp2
          go_loopw [11] (fun i wr => ∃ (q : Nat) (uf : Value), q ≤ n ∧ i = .int .i64 q ∧ wr.heap[w3.heap.size]? = some (.cells #[.int .i64 fp, .int .i64 fr, uf] 44 (0, 0)) ∧ wr.ownsRow (w3.heap.size + 1) 70 5 uf (movedTo f (whereL s) (whereL c) q).length (codeCells (movedTo f (whereL s) (whereL c) q)) ∧ Below w3.heap.size w3 wr) (fun i _ => n - (intOf i).toNat)
          case atStart => exact ⟨0, _, Nat.zero_le _, rfl, HF0.out, World.ownsRow_nil _ _ _ _, HBF.out⟩
          case round =>
            obtain ⟨q, uf, hq, rfl, hfw, hown, hbx⟩ := hrel
            have HBX : Hid (Below w3.heap.size w3 wr) := hbx
            have HFW : Hid (wr.heap[w3.heap.size]? = some (.cells #[.int .i64 fp, .int .i64 fr, uf] 44 (0, 0))) := hfw
            have hzx : w3.heap.size < wr.heap.size := lt_of_block hfw
            have fc0 := cell_of_row wr _ 0 _ _ _ hfw
            have fc1 := cell_of_row wr _ 1 _ _ _ hfw
            have fc2 := cell_of_row wr _ 2 _ _ _ hfw
            simp only [List.getElem?_toArray, List.getElem?_cons_zero, List.getElem?_cons_succ] at fc0 fc1 fc2
            have r2 := keeps_below hbx _ _ q2
            have r3 := keeps_below hbx _ _ q3
            have hml := movedTo_len f (whereL s) (whereL c) q
            by_cases hqn : q < n
            · have hqx : q < f.code.length := by rw [HLN.out]; exact hqn
              have hx := ((HAT1.out q hqx).keeps (keeps_below HB3.out)).keeps (keeps_below hbx)
              have hiD : insD f q = f.code[q] := insD_eq hqx
              have cz := keeps_below hbx _ _ (HC3.out q hqn)
              have hWq := whereL_getD s q (by rw [HRE.out.1]; exact hqn)
              have htg := HTG.out q hqn
              have hcl' := HCLL.out q hqn
              have hca : s.getD q false = true → ∀ t : Nat, (insD f q).op = 17 → (insD f q).imm = t → c.getD t false = true := fun h t h1 h2 => HCK.out (by first | rfl | trivial) q t ⟨hqx, (HRE.out.2 q hqn).1 h, h1, h2⟩
              have hgone : (whereL s).getD q 0 = -1 → movedTo f (whereL s) (whereL c) (q + 1) = movedTo f (whereL s) (whereL c) q := fun h => movedTo_gone h
              have hkept : (whereL s).getD q 0 ≠ -1 → movedTo f (whereL s) (whereL c) (q + 1) = movedTo f (whereL s) (whereL c) q ++ [mvIns (insD f q) (whereL s) (whereL c)] := fun h => movedTo_kept h
              rw [hiD] at htg hcl' hca hkept
              rw [hWq] at hgone hkept
              generalize f.code[q] = x at hx htg hcl' hca hkept
              obtain ⟨op, dst, xa, xb, imm⟩ := x
              obtain ⟨e0, e1, e2, e3, e4⟩ := hx
              dsimp only at e0 e1 e2 e3 e4 htg hcl' hca
              have hqI : (q : Int) < n := by omega
              generalize hMq : movedTo f (whereL s) (whereL c) q = M at hown hml hgone hkept
              obtain ⟨aov, capv, rfl⟩ := own_shape hown
              have HOWI : Hid (wr.ownsRow (w3.heap.size + 1) 70 5 (.slice aov M.length capv) M.length (codeCells M)) := hown
              have HLW : Hid (∀ t, t < n → ∀ o, (wr.alloc o).cell? ⟨b3, off3 + t, none⟩ = some (.int .i64 (whereI s t))) := fun t h o => cell_alloc (keeps_below HBX.out _ _ (HC3.out t h)) o
              have HCW : Hid (∀ t, t < P.length → ∀ o, (wr.alloc o).cell? ⟨g2, t, none⟩ = some (.bool (c.getD t false))) := fun t h o => cell_alloc (keeps_below HBX.out _ _ (keeps_below HB3.out _ _ (keeps_below HBR.out _ _ (bool_cell HROW.out hcl t h)))) o
              have fc0a := fun o => cell_alloc fc0 o
              have fc1a := fun o => cell_alloc fc1 o
              have fc2a := fun o => cell_alloc fc2 o
              clear hfw hbx hiD hWq hMq
              cases hs : s.getD q false
              · have HM : Hid (movedTo f (whereL s) (whereL c) (q + 1) = M) := hgone (whereI_no hs)
                rw [whereI_no hs] at cz
                have cz2 := fun o => cell_alloc cz o
                clear hgone hkept htg hcl' hca hs
                go_wp2
                go_roundw
                case rel => exact ⟨q + 1, _, by omega, by go_num, (heap_alloc_old _ _ hzx).trans HFW.out, by rw [HM.out]; exact HOWI.out.alloc _, HBX.out.alloc (by omega) _⟩
                case measure => simp [intOf]; omega
              · have HM : Hid (movedTo f (whereL s) (whereL c) (q + 1) = M ++ [mvIns ⟨op, dst, xa, xb, imm⟩ (whereL s) (whereL c)]) := hkept (by rw [whereI_yes hs]; omega)
                rw [whereI_yes hs] at cz
                have hcs := hca hs
                generalize ctT s q = ctq at cz
                have cz2 := fun o => cell_alloc cz o
                clear hgone hkept hs hca
                by_cases h15 : op = 15 ∨ op = 16
                · obtain ⟨t, rfl, htn⟩ := htg h15
                  have ct := HLW.out t htn
                  have htI : (t : Int) < n := by omega
                  have HMV : Hid (mvIns ⟨op, dst, xa, xb, (t : Int)⟩ (whereL s) (whereL c) = ⟨op, dst, xa, xb, whereI s t⟩) := by
                    show _ = _
                    rw [mvIns_target h15]
                    show (⟨op, dst, xa, xb, (whereL s).getD t 0⟩ : Ins) = _
                    rw [whereL_getD s t (by rw [HRE.out.1]; exact htn)]
                  generalize whereI s t = z2 at ct HMV
                  have ho17 : (op == 17) = false := by simp; omega
                  rcases h15 with rfl | rfl
                  · clear htg hcl' hcs
                    go_wp2_with (at_builtin; (refine wpList_append_own _ rfl (.tmp 107) (.tmp 109) 42 rfl (w3.heap.size + 1) 70 iI _ 5 40 Tryd.underlying42 hiI hzI0 hzI1 hzI2 rfl (by decide) _ _ _ rfl ((hown.alloc _).alloc _) ⟨_, 0, none⟩ 1 1 (insCells ⟨15, dst, xa, xb, z2⟩) rfl rfl (news_list _ _ _ _ (by simp)) (insCells_one _) (by unfold maxLen; omega) (by omega) (by simp; omega) ?_; intro v5 w5 hown5 hg5 _; rw [← codeCells_snoc] at hown5; have R := fbox_step HFW.out HOWI.out hg5 hown5; obtain ⟨ao5, cap5, rfl⟩ := own_shape hown5; have hf5 := R.1; have g2' := cell_of_row w5 _ 2 _ _ _ hf5; have gf := free_three hf5 2))
                    have HR := R
                    go_roundw
                    case rel => exact ⟨q + 1, _, by omega, by go_num, HR.2.1, by rw [HM.out, HMV.out]; exact HR.2.2.1, HR.2.2.2 _ _ (Nat.le_refl _) HBX.out⟩
                    case measure => simp [intOf]; omega
                  · clear htg hcl' hcs
                    go_wp2_with (at_builtin; (refine wpList_append_own _ rfl (.tmp 107) (.tmp 109) 42 rfl (w3.heap.size + 1) 70 iI _ 5 40 Tryd.underlying42 hiI hzI0 hzI1 hzI2 rfl (by decide) _ _ _ rfl ((hown.alloc _).alloc _) ⟨_, 0, none⟩ 1 1 (insCells ⟨16, dst, xa, xb, z2⟩) rfl rfl (news_list _ _ _ _ (by simp)) (insCells_one _) (by unfold maxLen; omega) (by omega) (by simp; omega) ?_; intro v5 w5 hown5 hg5 _; rw [← codeCells_snoc] at hown5; have R := fbox_step HFW.out HOWI.out hg5 hown5; obtain ⟨ao5, cap5, rfl⟩ := own_shape hown5; have hf5 := R.1; have g2' := cell_of_row w5 _ 2 _ _ _ hf5; have gf := free_three hf5 2))
                    have HR := R
                    go_roundw
                    case rel => exact ⟨q + 1, _, by omega, by go_num, HR.2.1, by rw [HM.out, HMV.out]; exact HR.2.2.1, HR.2.2.2 _ _ (Nat.le_refl _) HBX.out⟩
                    case measure => simp [intOf]; omega
                · have ho15 : (op == 15) = false := by simp; omega
                  have ho16 : (op == 16) = false := by simp; omega
                  by_cases h17 : op = 17
                  · subst h17
                    obtain ⟨t, rfl, htn⟩ := hcl' rfl
                    have hct := hcs t rfl rfl
                    have HMV : Hid (mvIns ⟨17, dst, xa, xb, (t : Int)⟩ (whereL s) (whereL c) = ⟨17, dst, xa, xb, (ctT c t : Nat)⟩) := by
                      show _ = _
                      rw [mvIns_call]
                      show (⟨17, dst, xa, xb, (whereL c).getD t 0⟩ : Ins) = _
                      rw [whereL_getD c t (by omega), whereI_yes hct]
                    have HCT : Hid (ctT c 0 = 0 ∧ ∀ q, ctT c q ≤ q) := ⟨ctT_zero c, fun q => ctT_le c q⟩
                    have HY : Hid (∀ r, r < P.length → c.getD r false = true → ctT c (r + 1) = ctT c r + 1) := fun r hr h => ctT_yes (by omega) h
                    have HN : Hid (∀ r, r < P.length → c.getD r false = false → ctT c (r + 1) = ctT c r) := fun r hr h => ctT_no (by omega) h
                    clear htg hcl' hcs h15 hct
                    go_wp2
                    go_loopw [13, 14] (fun cnt j wx => ∃ r : Nat, r ≤ t ∧ j = .int .i64 r ∧ cnt = .int .i64 (ctT c r : Nat) ∧ wx = wr.alloc (.cells #[.int .i64 17, .int .i64 dst, .int .i64 xa, .int .i64 xb, .int .i64 (t : Int)] 70)) (fun _ j _ => t - (intOf j).toNat)
                    case atStart => exact ⟨0, Nat.zero_le _, rfl, by rw [HCT.out.1]; rfl, rfl⟩
                    case round =>
                      rename World => wx
                      obtain ⟨r, hr, rfl, rfl, rfl⟩ := hrel
                      have hcr := HCT.out.2 r
                      by_cases hrl : r < t
                      · have c2 := HCW.out r (by omega)
                        have hrI : (r : Int) < t := by omega
                        have hrI2 : (r : Int) < P.length := by omega
                        cases hs2 : c.getD r false
                        · have HCR : Hid (ctT c (r + 1) = ctT c r) := HN.out r (by omega) hs2
                          rw [hs2] at c2
                          clear hs2
                          generalize ctT c r = cr at hcr HCR ⊢
                          go_wp2
                          go_roundw
                          case rel => exact ⟨r + 1, by omega, by go_num, by rw [HCR.out], trivial⟩
                          case measure => simp [intOf]; omega
                        · have HCR : Hid (ctT c (r + 1) = ctT c r + 1) := HY.out r (by omega) hs2
                          rw [hs2] at c2
                          clear hs2
                          generalize ctT c r = cr at hcr HCR ⊢
                          go_wp2
                          go_roundw
                          case rel => exact ⟨r + 1, by omega, by go_num, by rw [HCR.out]; go_num, trivial⟩
                          case measure => simp [intOf]; omega
                      · obtain rfl : r = t := by omega
                        generalize ctT c r = cr at hcr HMV ⊢
                        go_wp2_with (at_builtin; (refine wpList_append_own _ rfl (.tmp 107) (.tmp 109) 42 rfl (w3.heap.size + 1) 70 iI _ 5 40 Tryd.underlying42 hiI hzI0 hzI1 hzI2 rfl (by decide) _ _ _ rfl ((hown.alloc _).alloc _) ⟨_, 0, none⟩ 1 1 (insCells ⟨17, dst, xa, xb, (cr : Int)⟩) rfl rfl (news_list _ _ _ _ (by simp)) (insCells_one _) (by unfold maxLen; omega) (by omega) (by simp; omega) ?_; intro v5 w5 hown5 hg5 _; rw [← codeCells_snoc] at hown5; have R := fbox_step HFW.out HOWI.out hg5 hown5; obtain ⟨ao5, cap5, rfl⟩ := own_shape hown5; have hf5 := R.1; have g2' := cell_of_row w5 _ 2 _ _ _ hf5; have gf := free_three hf5 2))
                        have HR := R
                        go_roundw
                        case rel => exact ⟨q + 1, _, by omega, by go_num, HR.2.1, by rw [HM.out, HMV.out]; exact HR.2.2.1, HR.2.2.2 _ _ (Nat.le_refl _) HBX.out⟩
                        case measure => simp [intOf]; omega
                  · have ho17 : (op == 17) = false := by simpa using h17
                    have HMV : Hid (mvIns ⟨op, dst, xa, xb, imm⟩ (whereL s) (whereL c) = ⟨op, dst, xa, xb, imm⟩) := mvIns_else (fun h => h15 (Or.inl h)) (fun h => h15 (Or.inr h)) h17
                    clear h15 h17 htg hcl' hcs
                    go_wp2_with (at_builtin; (refine wpList_append_own _ rfl (.tmp 107) (.tmp 109) 42 rfl (w3.heap.size + 1) 70 iI _ 5 40 Tryd.underlying42 hiI hzI0 hzI1 hzI2 rfl (by decide) _ _ _ rfl ((hown.alloc _).alloc _) ⟨_, 0, none⟩ 1 1 (insCells ⟨op, dst, xa, xb, imm⟩) rfl rfl (news_list _ _ _ _ (by simp)) (insCells_one _) (by unfold maxLen; omega) (by omega) (by simp; omega) ?_; intro v5 w5 hown5 hg5 _; rw [← codeCells_snoc] at hown5; have R := fbox_step HFW.out HOWI.out hg5 hown5; obtain ⟨ao5, cap5, rfl⟩ := own_shape hown5; have hf5 := R.1; have g2' := cell_of_row w5 _ 2 _ _ _ hf5; have gf := free_three hf5 2))
                    have HR := R
                    go_roundw
                    case rel => exact ⟨q + 1, _, by omega, by go_num, HR.2.1, by rw [HM.out, HMV.out]; exact HR.2.2.1, HR.2.2.2 _ _ (Nat.le_refl _) HBX.out⟩
                    case measure => simp [intOf]; omega
            · obtain rfl : q = n := by omega
              have HKN : Hid (KeptTo P c (k + 1) (Q ++ [⟨fp, fr, movedTo f (whereL s) (whereL c) q⟩])) := by rw [← HKF.out s]; exact HKK.out (by first | rfl | trivial) s HREA.out
              have hOb := (hbx.block w1.heap.size (by omega)).trans ((HB3.out.block w1.heap.size hzr).trans HOO.out)
              have HBTX : Hid (Built wr (w1.heap.size + 1) 44 70 vo Q us) := (HBT.out.below HB3.out).below hbx
              have HOWX : Hid (wr.ownsRow (w1.heap.size + 1) 70 5 uf (movedTo f (whereL s) (whereL c) q).length (codeCells (movedTo f (whereL s) (whereL c) q))) := own_base hown (by omega)
              have HBZ : Hid (Below w1.heap.size w1 wr) := (HBR.out.trans (HB3.out.mono (by omega))).trans (hbx.mono (by omega))
              have HOX : Hid (wr.heap[w1.heap.size]? = some (.cells #[vo] 24 (0, 0))) := hOb
              have co := cell_of_one hOb
              have cfo := free_of_one hOb
              have hzo : w1.heap.size < wr.heap.size := lt_of_block hOb
              generalize movedTo f (whereL s) (whereL c) q = M at hown HKN HOWX hml
              obtain ⟨aov, capv, rfl⟩ := own_shape hown
              clear hown hbx hOb hfw
              go_wp2_with (at_builtin; (refine wpList_append_own _ rfl (.tmp 113) (.tmp 115) 22 rfl (w1.heap.size + 1) 44 iF _ 3 40 Tryd.underlying22 hiF hzF0 hzF1 hzF2 rfl (by decide) vo Q.length (fnsCells Q us) rfl (HBTX.out.alloc _).row ⟨wr.heap.size, 0, none⟩ 1 1 (fnCells ⟨fp, fr, M⟩ (.slice aov M.length capv)) rfl rfl (news_three _ _ _ _ _ _ rfl) (fnCells_one _ _ _ _) (by unfold maxLen; omega) (by omega) (by simp; omega) ?_; intro v7 w7 hown7 hg7 _; obtain ⟨ao7, cap7, rfl⟩ := own_shape hown7; have R := obox_step (f := ⟨fp, fr, M⟩) (by decide) HBTX.out HOX.out HOWX.out hg7 hown7; have ho7 := R.1; have co7 := cell_of_one ho7; have cf7 := free_of_one ho7))
              have HR := R
              go_roundw
              case rel => exact ⟨k + 1, _, _, _, by omega, by go_num, HR.2.2.2 _ _ (Nat.le_refl _) HBZ.out, HR.2.2.1, HR.2.1, HKN.out⟩
              case measure => simp [intOf]; omega
      · obtain rfl : k = P.length := by omega
        obtain ⟨ao7, cap7, rfl⟩ := own_shape hbt.row
        have HANS : Hid (TrimAns P 0 Q) := HAN.out c Q HCS.out HKT.out
        have c1 := cell_of_one j3
        have f1 := free_of_one j3
        have co := cell_of_one HOO.out
        clear hbt hbr
        go_wp2
        exact bodyPost_ret (v := .tuple #[.agg #[.slice ao7 Q.length cap7], .int .i64 0]) (by simp [results, Tryd.results17, go_sem, c1]) rfl ⟨_, _, _, us, rfl, HANS.out, built_mono (HBT.out.setCell (by simp; omega) _) (by omega), HBWR.out.setCell (by simp) _⟩
  · have hC := fun o o' => (calledOf_any P v ((w.alloc o).alloc o') (hv.keeps (keeps_below (hbx o o')))).mono (fun e w' h => called_bad h0 h)
    have HAN : Hid (∀ E : Int, (E != 0) = true → ProofAns P E → TrimAns P E []) := fun E a b => Or.inl ⟨a, b, rfl⟩
    obtain ⟨ao, b, off, n, cap, rfl, _⟩ := hv
    clear h0 hbx
    go_enter Tryd.func17, Tryd.ntmps17
    go_wp2_with (go_at_call 14; refine (hC _ _).mono ?_; rintro e w1 ⟨E, hne, rfl, hE, hb1⟩; have k1 : w1.heap[w.heap.size + 1]? = some (.cells #[.slice none 0 0] 24 (0, 0)) := (hb1.block _ (by simp)).trans (by simpa only [World.size_alloc] using heap_alloc_new (w.alloc (.cells #[.slice ao n cap] 24)) (.cells #[.slice none 0 0] 24)); have c1 := cell_of_one k1; have f1 := free_of_one k1; have HE : Hid (ProofAns P E) := hE; clear hE)
    have hbw : Below w.heap.size w w1 := (((Below.refl _ _).alloc (Nat.le_refl _) _).alloc (by simp) _).trans (hb1.mono (by simp; omega))
    exact bodyPost_ret (v := .tuple #[.agg #[.slice none 0 0], .int .i64 E]) (by simp [results, Tryd.results17, go_sem, c1]) rfl ⟨_, _, _, _, rfl, HAN.out E hne HE.out, built_nil _ _ _ _, hbw.setCell (by simp) _⟩

end Go.Proofs.YtepnhemlhogmgaaDoor
