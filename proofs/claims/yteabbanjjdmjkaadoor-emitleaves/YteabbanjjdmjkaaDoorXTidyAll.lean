/- Contracts of tiers.tidy and tiers.Tidy (written by gen/mktidy.py). -/
import Derived.Test.YteabbanjjdmjkaaDoorXTidyKit
import Derived.Test.YteabbanjjdmjkaaDoorXLeftKit
import Derived.Test.YteabbanjjdmjkaaDoorGroupL
namespace Go.Proofs.YteabbanjjdmjkaaDoor
open Go Go.RowKit

theorem wantedT_any (regs : List Int) (n : Int) (hR : regs.length = 12) (hn : n = -1 ∨ ∃ m : Nat, m < 4096 ∧ n = m) (w : World) :
    Calls Tryd.prog 86 #[.agg (i64s regs).toArray, .int .i64 n] w fun e w' => e = .returned (.agg (i64s (tidR regs n.toNat)).toArray) ∧ Below w.heap.size w w' := by
  rcases hn with rfl | ⟨m, hm, rfl⟩
  · exact wanted_neg regs hR w
  · exact wanted_pos regs m hm hR w
/-- A frame whose registers that are not live are noughts. -/
noncomputable def tidF (P : List Fn) (f : Fr) : Fr := ⟨f.fn, f.pc, tidR f.regs ((liveL P f.fn.toNat).getD f.pc.toNat 0).toNat⟩
noncomputable def tidS (P : List Fn) (s : St) : St := { s with frames := s.frames.map (tidF P) }
noncomputable def tidQs (P : List Fn) (fs : List Fr) (q : Nat) : List Fr := (fs.take q).map (tidF P) ++ fs.drop q
theorem tidQs_zero (P : List Fn) (fs : List Fr) : tidQs P fs 0 = fs := by simp [tidQs]
theorem tidQs_all (P : List Fn) (fs : List Fr) : tidQs P fs fs.length = fs.map (tidF P) := by simp [tidQs]
theorem tidQs_len (P : List Fn) (fs : List Fr) (q : Nat) (hq : q ≤ fs.length) : (tidQs P fs q).length = fs.length := by simp [tidQs]; omega
theorem tidQs_get (P : List Fn) (fs : List Fr) (q : Nat) (hq : q < fs.length) : (tidQs P fs q)[q]? = some fs[q] := by
  unfold tidQs
  have hl : ((fs.take q).map (tidF P)).length = q := by simp; omega
  rw [List.getElem?_append_right (by omega), hl, Nat.sub_self, List.drop_eq_getElem_cons hq]; rfl
theorem tidQs_set (P : List Fn) (fs : List Fr) (q : Nat) (hq : q < fs.length) : (tidQs P fs q).set q (tidF P fs[q]) = tidQs P fs (q + 1) := by
  unfold tidQs
  have hl : ((fs.take q).map (tidF P)).length = q := by simp; omega
  rw [List.set_append_right _ _ (by omega), hl, Nat.sub_self, List.drop_eq_getElem_cons hq, List.set_cons_zero, List.take_succ_eq_append_getElem hq, List.map_append, List.append_assoc]; rfl

set_option maxRecDepth 100000 in
set_option maxHeartbeats 8000000 in
theorem tidy_any (P : List Fn) (hR : ProofAns P 0) (v : Value) (base g : Nat) (s : St) (fv ev av : Value) (w : World) (HV : ∀ W, Below base w W → ProgVal W v P ∧ TabOk W ∧ CallOk W) (hf : FOk P s.frames) (ho : OutAt w base g s fv ev av) :
    Calls Tryd.prog 54 #[.agg #[v], fv] w fun e w' => e = .returned (.tuple #[]) ∧ OutAt w' base g (tidS P s) fv ev av ∧ w.grownBy w' fv.ownBlock := by
  have hbz : base ≤ w.heap.size := ho.base
  have HLV : Hid (∀ W (k : Nat) (hk : k < P.length), Below base w W → Calls Tryd.prog 18 #[.agg #[v], .int .i64 k] W fun e w' => ∃ v', e = .returned (.tuple #[v', .int .i64 0]) ∧ IntsVal w' v' (liveL P k) ∧ LiveSpec P P[k] (liveL P k) ∧ (∀ a n c, v' = .slice (some a) n c → W.heap.size ≤ a.block) ∧ Below W.heap.size W w') := fun W k hk hb => by
    obtain ⟨h1, h2, h3⟩ := HV W hb
    refine (Live_low P hR k hk v W h2 h3 h1).mono ?_
    rintro e w' ⟨v', L, rfl, hL, hI, hlo, hb'⟩
    rw [liveL_eq hk hL] at hI hL
    exact ⟨v', rfl, hI, hL, hlo, hb'⟩
  have HPL : Hid (∀ f ∈ s.frames, ∃ (k j : Nat) (hk : k < P.length), j < P[k].code.length ∧ f.fn = k ∧ f.pc = j) := fun f hfm => by
    obtain ⟨k, j, hk, hj, e1, e2, e3, e4⟩ := place_nat (fok_all _ hf f hfm)
    exact ⟨k, j, hk, hj, e1, e2⟩
  obtain ⟨ao, n0, cap0, rfl⟩ := (HV w (Below.refl _ _)).1.shape
  obtain ⟨fa, fc, rfl⟩ : ∃ fa fc, fv = .slice fa s.frames.length fc := by
    rcases ho.frames.2 with ⟨e, h0⟩ | ⟨g', cap', cur, e, _⟩
    · exact ⟨none, 0, by rw [e, h0]⟩
    · exact ⟨_, _, e⟩
  have HO0 : Hid (OutAt w base g s (.slice fa s.frames.length fc) ev av) := ho
  have HQ0 : Hid (tidQs P s.frames 0 = s.frames) := tidQs_zero P _
  have HQA : Hid (tidQs P s.frames s.frames.length = s.frames.map (tidF P)) := tidQs_all P _
  have HQG : Hid (∀ q (hq : q < s.frames.length), (tidQs P s.frames q)[q]? = some s.frames[q]) := fun q hq => tidQs_get P _ q hq
  have HQS : Hid (∀ q (hq : q < s.frames.length), (tidQs P s.frames q).set q (tidF P s.frames[q]) = tidQs P s.frames (q + 1)) := fun q hq => tidQs_set P _ q hq
  have HQL : Hid (∀ q, q ≤ s.frames.length → (tidQs P s.frames q).length = s.frames.length) := fun q hq => tidQs_len P _ q hq
  have HGR : Hid (∀ W W', Below base w W → W.grownBy W' (Value.slice fa s.frames.length fc).ownBlock → Below base w W') := fun W W' hb hg => hb.grown hg (Nat.le_trans hbz hb.size) (fun k hk => (ho.frames.lt k hk).1)
  clear HV ho hf
  obtain ⟨N, hN⟩ : ∃ N, N = s.frames.length := ⟨_, rfl⟩
  rw [← hN] at HO0 HQL HGR ⊢
  have HN : Hid (N = s.frames.length) := hN
  clear hN
  go_enter Tryd.func54, Tryd.ntmps54
  go_upto_region 1 with fail
  have r0 : (w.alloc (.cells #[.slice ao n0 cap0] 24)).heap[w.heap.size]? = some (.cells #[.slice ao n0 cap0] 24 (0, 0)) := heap_alloc_last _ _
  have HOA : Hid (OutAt (w.alloc (.cells #[.slice ao n0 cap0] 24)) base g s (.slice fa N fc) ev av) := HO0.out.below ((Below.refl _ _).alloc (Nat.le_refl _) _)
  have HBA : Hid (Below base w (w.alloc (.cells #[.slice ao n0 cap0] 24))) := (Below.refl _ _).alloc hbz _
  have HGA : Hid (w.grownBy (w.alloc (.cells #[.slice ao n0 cap0] 24)) (Value.slice fa N fc).ownBlock) := World.grownBy_alloc _ _ _
  generalize (w.alloc (.cells #[.slice ao n0 cap0] 24)) = W0 at *
  have HFN : Hid (∀ fb, fa = some ⟨fb, 0, none⟩ → fb ≠ w.heap.size) := fun fb e => by have := (HO0.out.frames.lt fb (by rw [e]; rfl)).2; omega
  clear HO0
  go_upto_region 2 with fail
  go_loopw [10] (fun i wr => ∃ q : Nat, q ≤ N ∧ i = .int .i64 q ∧ OutAt wr base g { s with frames := tidQs P s.frames q } (.slice fa N fc) ev av ∧ wr.heap[w.heap.size]? = some (.cells #[.slice ao n0 cap0] 24 (0, 0)) ∧ W0.grownBy wr (Value.slice fa N fc).ownBlock) (fun i _ => N - (intOf i).toNat)
  case atStart => exact ⟨0, by omega, rfl, by rw [HQ0.out]; exact HOA.out, r0, World.grownBy.refl _ _⟩
  case round =>
    clear HOA r0
    obtain ⟨q, hq, rfl, hor, g0, hgr⟩ := hrel
    have HOR : Hid _ := hor
    have HGW : Hid (W0.grownBy wr (Value.slice fa N fc).ownBlock) := hgr
    have HBR : Hid (Below base w wr) := HGR.out W0 wr HBA.out hgr
    clear hor hgr
    by_cases hlt : q < N
    · have hqI : (q : Int) < N := by omega
      have hqI2 : ¬ (q : Int) < 0 := by omega
      have hqs : q < s.frames.length := by have := HN.out; omega
      have hfq := HQG.out q hqs
      obtain ⟨k, j, hk, hj, e1, e2⟩ := HPL.out s.frames[q] (List.getElem_mem hqs)
      obtain ⟨fb, cap, hfv, f1, f2, f3, f4, f5⟩ := HOR.out.box (i := q) (by show q < (tidQs P s.frames q).length; rw [HQL.out q hq]; exact hlt)
      obtain ⟨rfl, hNl, rfl⟩ : fa = some ⟨fb, 0, none⟩ ∧ N = (tidQs P s.frames q).length ∧ fc = cap := by simpa using hfv
      have hNb : N ≤ 9223372036854775807 := by rw [hNl]; exact Nat.le_trans f1 f2
      clear hfv f1 f2 hNl
      have HTF : Hid (tidF P s.frames[q] = ⟨s.frames[q].fn, s.frames[q].pc, tidR s.frames[q].regs ((liveL P k).getD j 0).toNat⟩) := by
        show _ = _
        unfold tidF
        rw [e1, e2, Int.toNat_natCast, Int.toNat_natCast]
      have HSET := HQS.out q hqs
      generalize s.frames[q] = f at *
      obtain ⟨fn, pc, regs⟩ := f
      dsimp only at e1 e2
      subst e1 e2
      have hnw := HFN.out fb rfl
      have kp : wr.cell? ⟨w.heap.size, 0, none⟩ = some (.slice ao n0 cap0) := by rw [cell_of_row _ _ _ _ _ _ g0]; rfl
      have kf : wr.cell? ⟨fb, q * 14, none⟩ = some (.int .i64 (k : Int)) := HOR.out.range hfq 0 _ rfl
      have hrl : regs.length = 12 := HOR.out.wf ⟨(k : Int), (j : Int), regs⟩ (List.mem_of_getElem? hfq)
      have hzw := lt_of_block g0
      go_upto_region 5 with fail
      refine wp_region_held_drew (S := fun W => Below wr.heap.size wr W) (by kernel_rfl) ((Below.refl _ _).drew) (fun hHeld => ?_)
      show wpAnyH _ _ _ _ _ 11 _ _ _
      refine wpAnyH_take (i := 0) (v := ?_) rfl (by kernel_rfl) (by kernel_rfl) (by kernel_rfl) (fun _ _ _ h => h) (Or.inl ⟨by rfl, ?_⟩) (by assumption) ?_
      rotate_left
      · (intro W hSW; have z0 := keeps_below hSW _ _ kp; go_simp; try (with_reducible rfl))
      (try simp only [List.getElem_toArray, List.getElem_cons_zero])
      (try simp only [Act.put, List.setIfInBounds_toArray, List.set_cons_zero, List.set_cons_succ])
      refine wpAnyH_take (i := 1) (v := ?_) rfl (by kernel_rfl) (by kernel_rfl) (by kernel_rfl) (fun _ _ _ h => h) (Or.inl ⟨by rfl, ?_⟩) (by assumption) ?_
      rotate_left
      · (intro W hSW; go_simp; try (with_reducible rfl))
      (try simp only [List.getElem_toArray, List.getElem_cons_succ, List.getElem_cons_zero])
      (try simp only [Act.put, List.setIfInBounds_toArray, List.set_cons_zero, List.set_cons_succ])
      refine wpAnyH_take (i := 2) (v := ?_) rfl (by kernel_rfl) (by kernel_rfl) (by kernel_rfl) (fun _ _ _ h => h) (Or.inl ⟨by rfl, ?_⟩) (by assumption) ?_
      rotate_left
      · (intro W hSW; go_simp; try (with_reducible rfl))
      (try simp only [List.getElem_toArray, List.getElem_cons_succ, List.getElem_cons_zero])
      (try simp only [Act.put, List.setIfInBounds_toArray, List.set_cons_zero, List.set_cons_succ])
      refine wpAnyH_take (i := 3) (v := ?_) rfl (by kernel_rfl) (by kernel_rfl) (by kernel_rfl) (fun _ _ _ h => h) (Or.inl ⟨by rfl, ?_⟩) (by assumption) ?_
      rotate_left
      · (intro W hSW; go_simp; try (with_reducible rfl))
      (try simp only [List.getElem_toArray, List.getElem_cons_succ, List.getElem_cons_zero])
      (try simp only [Act.put, List.setIfInBounds_toArray, List.set_cons_zero, List.set_cons_succ])
      refine wpAnyH_take (i := 4) (v := ?_) rfl (by kernel_rfl) (by kernel_rfl) (by kernel_rfl) (fun _ _ _ h => h) (Or.inl ⟨by rfl, ?_⟩) (by assumption) ?_
      rotate_left
      · (intro W hSW; have z0 := keeps_below hSW _ _ kf; go_simp; try (with_reducible rfl))
      (try simp only [List.getElem_toArray, List.getElem_cons_succ, List.getElem_cons_zero])
      (try simp only [Act.put, List.setIfInBounds_toArray, List.set_cons_zero, List.set_cons_succ])
      refine wpAnyH_ready (rs := [5]) (by kernel_rfl) (by simp) ?_
      refine AllReadyH.cons rfl (fun K hK => ?_) AllReadyH.nil
      go_simp
      go_at_call 18
      refine (HLV.out _ k hk HBR.out.drew).mono ?_
      rintro e w3 ⟨v3, rfl, hI3, hL3, hlo3, hb3⟩
      obtain ⟨al, b3, o3, n3, c3, rfl, hl3, hal, -, -, -⟩ := ints_get hI3
      have hjl : j < (liveL P k).length := by rw [hL3.1]; exact hj
      obtain rfl := hal (by omega)
      have hfb3n : fb ≠ b3 := Nat.ne_of_lt (Nat.lt_of_lt_of_le f4 (hlo3 _ _ _ rfl))
      clear hlo3 hal
      have hlv := live_val hL3 hj
      have hb23 : Below wr.heap.size wr w3 := Below.trans hHeld (Below.mono hb3 (Below.size hHeld))
      dsimp only
      refine hK.out _ _ hb23 (fun _ => ?_)
      clear hK K hHeld
      (try simp only [Act.put, List.setIfInBounds_toArray, List.set_cons_zero, List.set_cons_succ])
      refine wpAnyH_take (i := 6) (v := ?_) rfl (by kernel_rfl) (by kernel_rfl) (by kernel_rfl) (fun _ _ _ h => h) (Or.inl ⟨by rfl, ?_⟩) hb23 ?_
      rotate_left
      · (intro W hSW; go_simp; try (with_reducible rfl))
      (try simp only [List.getElem_toArray, List.getElem_cons_succ, List.getElem_cons_zero])
      (try simp only [Act.put, List.setIfInBounds_toArray, List.set_cons_zero, List.set_cons_succ])
      refine wpAnyH_take (i := 7) (v := ?_) rfl (by kernel_rfl) (by kernel_rfl) (by kernel_rfl) (fun _ _ _ h => h) (Or.inl ⟨by rfl, ?_⟩) hb23 ?_
      rotate_left
      · (intro W hSW; go_simp; try (with_reducible rfl))
      (try simp only [List.getElem_toArray, List.getElem_cons_succ, List.getElem_cons_zero])
      (try simp only [Act.put, List.setIfInBounds_toArray, List.set_cons_zero, List.set_cons_succ])
      refine wpAnyH_take (i := 8) (v := ?_) rfl (by kernel_rfl) (by kernel_rfl) (by kernel_rfl) (fun _ _ _ h => h) (Or.inl ⟨by rfl, ?_⟩) hb23 ?_
      rotate_left
      · (intro W hSW; go_simp; try (with_reducible rfl))
      (try simp only [List.getElem_toArray, List.getElem_cons_succ, List.getElem_cons_zero])
      (try simp only [Act.put, List.setIfInBounds_toArray, List.set_cons_zero, List.set_cons_succ])
      refine wpAnyH_take (i := 9) (v := ?_) rfl (by kernel_rfl) (by kernel_rfl) (by kernel_rfl) (fun _ _ _ h => h) (Or.inl ⟨by rfl, ?_⟩) hb23 ?_
      rotate_left
      · (intro W hSW; go_simp; try (with_reducible rfl))
      (try simp only [List.getElem_toArray, List.getElem_cons_succ, List.getElem_cons_zero])
      (try simp only [Act.put, List.setIfInBounds_toArray, List.set_cons_zero, List.set_cons_succ])
      refine wpAnyH_take (i := 10) (v := ?_) rfl (by kernel_rfl) (by kernel_rfl) (by kernel_rfl) (fun _ _ _ h => h) (Or.inl ⟨by rfl, ?_⟩) hb23 ?_
      rotate_left
      · (intro W hSW; go_simp; try (with_reducible rfl))
      (try simp only [List.getElem_toArray, List.getElem_cons_succ, List.getElem_cons_zero])
      (try simp only [Act.put, List.setIfInBounds_toArray, List.set_cons_zero, List.set_cons_succ])
      refine wpAnyH_done (by kernel_rfl) ?_ _
      (try simp only [Act.put])
      have HO3 : Hid _ := HOR.out.below hb23
      have s0 := (hb23.block _ hzw).trans g0
      have HG3 : Hid (W0.grownBy w3 (Value.slice (some ⟨fb, 0, none⟩) N fc).ownBlock) := grown_trans HGW.out (grown_below hb23 _)
      have HI3 : Hid _ := hI3
      clear hb3 hI3 hL3 kp kf HOR HGW g0 hb23
      have hjn : (j : Int) < (n3 : Int) := by omega
      have hjn2 : j < n3 := by omega
      have hj0 : ¬ (j : Int) < 0 := by omega
      have cpc : w3.cell? ⟨fb, q * 14 + 1, none⟩ = some (.int .i64 (j : Int)) := HO3.out.range hfq 1 _ rfl
      have clv : w3.cell? ⟨b3, o3 + j, none⟩ = some (.int .i64 ((liveL P k).getD j 0)) := ints_cell HI3.out j hjl
      have crg : w3.rangeAt fb (q * 14 + 2) (i64s regs) := fun i u hu => by have := HO3.out.range hfq (2 + i) u (by rw [Nat.add_comm]; exact hu); rw [Nat.add_assoc]; exact this
      have i12 : (Tryd.prog.info? 52).map (·.size) = some (i64s regs).length := by simp only [i64s, List.length_map, hrl]; exact infoR12
      have i12b : (Tryd.prog.info? 52).map (·.size) = some (i64s (tidR regs ((liveL P k).getD j 0).toNat)).toArray.size := by rw [List.size_toArray]; simp only [i64s, List.length_map, tidR_len]; exact infoR12
      have o12 : (i64s (tidR regs ((liveL P k).getD j 0).toNat)).toArray.all (·.oneCell') = true := all_oneCell_toArray (i64s_one _)
      have HWT : Hid (∀ W, Calls Tryd.prog 86 #[.agg (i64s regs).toArray, .int .i64 ((liveL P k).getD j 0)] W fun e w' => e = .returned (.agg (i64s (tidR regs ((liveL P k).getD j 0).toNat)).toArray) ∧ Below W.heap.size W w') := fun W => wantedT_any regs _ hrl hlv W
      generalize (liveL P k).getD j 0 = lv at *
      generalize hTR : tidR regs lv.toNat = TR at *
      have hTL : TR.length = 12 := by rw [← hTR]; exact tidR_len
      have e12 : (i64s TR).toArray.size = 12 := by simp [i64s, hTL]
      go_upto_region 6 with fail
      refine wp_region_last (S := fun W => Below w3.heap.size w3 W) _ 15 (by kernel_rfl) (by kernel_rfl) rfl ((Below.refl _ _).drew) (fun hHeld => ?_)
      simp only [List.pop_toArray, List.dropLast]
      refine wpAnyH_take (i := 0) (v := ?_) rfl (by kernel_rfl) (by kernel_rfl) (by kernel_rfl) (fun _ _ _ h => h) (Or.inl ⟨by rfl, ?_⟩) (by assumption) ?_
      rotate_left
      · (intro W hSW; go_simp; try (with_reducible rfl))
      (try simp only [List.getElem_toArray, List.getElem_cons_succ, List.getElem_cons_zero])
      (try simp only [Act.put, List.setIfInBounds_toArray, List.set_cons_zero, List.set_cons_succ])
      refine wpAnyH_take (i := 1) (v := ?_) rfl (by kernel_rfl) (by kernel_rfl) (by kernel_rfl) (fun _ _ _ h => h) (Or.inl ⟨by rfl, ?_⟩) (by assumption) ?_
      rotate_left
      · (intro W hSW; go_simp; try (with_reducible rfl))
      (try simp only [List.getElem_toArray, List.getElem_cons_succ, List.getElem_cons_zero])
      (try simp only [Act.put, List.setIfInBounds_toArray, List.set_cons_zero, List.set_cons_succ])
      refine wpAnyH_take (i := 2) (v := ?_) rfl (by kernel_rfl) (by kernel_rfl) (by kernel_rfl) (fun _ _ _ h => h) (Or.inl ⟨by rfl, ?_⟩) (by assumption) ?_
      rotate_left
      · (intro W hSW; go_simp; try (with_reducible rfl))
      (try simp only [List.getElem_toArray, List.getElem_cons_succ, List.getElem_cons_zero])
      (try simp only [Act.put, List.setIfInBounds_toArray, List.set_cons_zero, List.set_cons_succ])
      refine wpAnyH_take (i := 3) (v := ?_) rfl (by kernel_rfl) (by kernel_rfl) (by kernel_rfl) (fun _ _ _ h => h) (Or.inl ⟨by rfl, ?_⟩) (by assumption) ?_
      rotate_left
      · (intro W hSW; go_simp; try (with_reducible rfl))
      (try simp only [List.getElem_toArray, List.getElem_cons_succ, List.getElem_cons_zero])
      (try simp only [Act.put, List.setIfInBounds_toArray, List.set_cons_zero, List.set_cons_succ])
      refine wpAnyH_take (i := 4) (v := .agg (i64s regs).toArray) rfl (by kernel_rfl) (by kernel_rfl) (by kernel_rfl) (fun _ _ _ h => h) (yieldsIf_load_mid (by rfl) 52 _ rfl fb (q * 14 + 2) rfl (i64s regs) _ (fun W hSW i u hu => keeps_below hSW _ _ (crg i u hu)) Tryd.underlying52 rfl i12) (by assumption) ?_
      (try simp only [List.getElem_toArray, List.getElem_cons_succ, List.getElem_cons_zero])
      (try simp only [Act.put, List.setIfInBounds_toArray, List.set_cons_zero, List.set_cons_succ])
      refine wpAnyH_take (i := 5) (v := ?_) rfl (by kernel_rfl) (by kernel_rfl) (by kernel_rfl) (fun _ _ _ h => h) (Or.inl ⟨by rfl, ?_⟩) (by assumption) ?_
      rotate_left
      · (intro W hSW; go_simp; try (with_reducible rfl))
      (try simp only [List.getElem_toArray, List.getElem_cons_succ, List.getElem_cons_zero])
      (try simp only [Act.put, List.setIfInBounds_toArray, List.set_cons_zero, List.set_cons_succ])
      refine wpAnyH_take (i := 6) (v := ?_) rfl (by kernel_rfl) (by kernel_rfl) (by kernel_rfl) (fun _ _ _ h => h) (Or.inl ⟨by rfl, ?_⟩) (by assumption) ?_
      rotate_left
      · (intro W hSW; go_simp; try (with_reducible rfl))
      (try simp only [List.getElem_toArray, List.getElem_cons_succ, List.getElem_cons_zero])
      (try simp only [Act.put, List.setIfInBounds_toArray, List.set_cons_zero, List.set_cons_succ])
      refine wpAnyH_take (i := 7) (v := ?_) rfl (by kernel_rfl) (by kernel_rfl) (by kernel_rfl) (fun _ _ _ h => h) (Or.inl ⟨by rfl, ?_⟩) (by assumption) ?_
      rotate_left
      · (intro W hSW; go_simp; try (with_reducible rfl))
      (try simp only [List.getElem_toArray, List.getElem_cons_succ, List.getElem_cons_zero])
      (try simp only [Act.put, List.setIfInBounds_toArray, List.set_cons_zero, List.set_cons_succ])
      refine wpAnyH_take (i := 8) (v := ?_) rfl (by kernel_rfl) (by kernel_rfl) (by kernel_rfl) (fun _ _ _ h => h) (Or.inl ⟨by rfl, ?_⟩) (by assumption) ?_
      rotate_left
      · (intro W hSW; go_simp; try (with_reducible rfl))
      (try simp only [List.getElem_toArray, List.getElem_cons_succ, List.getElem_cons_zero])
      (try simp only [Act.put, List.setIfInBounds_toArray, List.set_cons_zero, List.set_cons_succ])
      refine wpAnyH_take (i := 9) (v := ?_) rfl (by kernel_rfl) (by kernel_rfl) (by kernel_rfl) (fun _ _ _ h => h) (Or.inl ⟨by rfl, ?_⟩) (by assumption) ?_
      rotate_left
      · (intro W hSW; have z0 := keeps_below hSW _ _ cpc; go_simp; try (with_reducible rfl))
      (try simp only [List.getElem_toArray, List.getElem_cons_succ, List.getElem_cons_zero])
      (try simp only [Act.put, List.setIfInBounds_toArray, List.set_cons_zero, List.set_cons_succ])
      refine wpAnyH_take (i := 10) (v := ?_) rfl (by kernel_rfl) (by kernel_rfl) (by kernel_rfl) (fun _ _ _ h => h) (Or.inl ⟨by rfl, ?_⟩) (by assumption) ?_
      rotate_left
      · (intro W hSW; go_simp; try (with_reducible rfl))
      (try simp only [List.getElem_toArray, List.getElem_cons_succ, List.getElem_cons_zero])
      (try simp only [Act.put, List.setIfInBounds_toArray, List.set_cons_zero, List.set_cons_succ])
      refine wpAnyH_take (i := 11) (v := ?_) rfl (by kernel_rfl) (by kernel_rfl) (by kernel_rfl) (fun _ _ _ h => h) (Or.inl ⟨by rfl, ?_⟩) (by assumption) ?_
      rotate_left
      · (intro W hSW; have z0 := keeps_below hSW _ _ clv; go_simp; try (with_reducible rfl))
      (try simp only [List.getElem_toArray, List.getElem_cons_succ, List.getElem_cons_zero])
      (try simp only [Act.put, List.setIfInBounds_toArray, List.set_cons_zero, List.set_cons_succ])
      refine wpAnyH_ready (rs := [12]) (by kernel_rfl) (by simp) ?_
      refine AllReadyH.cons rfl (fun K hK => ?_) AllReadyH.nil
      go_simp
      go_at_call 86
      refine (HWT.out _).mono ?_
      rintro e w6 ⟨rfl, hb6⟩
      have hb36 : Below w3.heap.size w3 w6 := Below.trans hHeld (Below.mono hb6 (Below.size hHeld))
      dsimp only
      refine hK.out _ _ hb36 (fun _ => ?_)
      clear hK K hHeld
      (try simp only [Act.put, List.setIfInBounds_toArray, List.set_cons_zero, List.set_cons_succ])
      refine wpAnyH_take (i := 13) (v := ?_) rfl (by kernel_rfl) (by kernel_rfl) (by kernel_rfl) (fun _ _ _ h => h) (Or.inl ⟨by rfl, ?_⟩) hb36 ?_
      rotate_left
      · (intro W hSW; go_simp; try (with_reducible rfl))
      (try simp only [List.getElem_toArray, List.getElem_cons_succ, List.getElem_cons_zero])
      (try simp only [Act.put, List.setIfInBounds_toArray, List.set_cons_zero, List.set_cons_succ])
      refine wpAnyH_take (i := 14) (v := ?_) rfl (by kernel_rfl) (by kernel_rfl) (by kernel_rfl) (fun _ _ _ h => h) (Or.inl ⟨by rfl, ?_⟩) hb36 ?_
      rotate_left
      · (intro W hSW; go_simp; try (with_reducible rfl))
      (try simp only [List.getElem_toArray, List.getElem_cons_succ, List.getElem_cons_zero])
      (try simp only [Act.put, List.setIfInBounds_toArray, List.set_cons_zero, List.set_cons_succ])
      refine wpAnyH_done (by kernel_rfl) ?_ _
      refine Or.inl ?_
      have HO6 : Hid _ := HO3.out.below hb36
      have th6 := HO6.out.there (i := q) hfq 2 12 (by omega)
      obtain ⟨HO7, hb7⟩ := OutAt.frRegs TR 0 w6 _ HO6.out q _ hfq (by omega)
      dsimp only at HO7
      rw [setRg_all (hTL.trans hrl.symm), ← HTF.out, HSET] at HO7
      have HO7H : Hid _ := HO7
      have u0 : (w6.setCells fb (q * 14 + 2 + 0) (i64s TR)).heap[w.heap.size]? = some (.cells #[.slice ao n0 cap0] 24 (0, 0)) := (((grown_setCells fb (i64s TR) (q * 14 + 2 + 0) w6).block _ (Nat.lt_of_lt_of_le (lt_of_block s0) hb36.size) (fun e => hnw (by simpa using e.symm))).trans (hb36.block _ (lt_of_block s0))).trans s0
      have HG7 : Hid (W0.grownBy (w6.setCells fb (q * 14 + 2 + 0) (i64s TR)) (Value.slice (some ⟨fb, 0, none⟩) N fc).ownBlock) := grown_trans (grown_trans HG3.out (grown_below hb36 _)) (grown_setCells fb _ _ _)
      clear HO7 hb7 hb36 hb6 HO6
      refine wp_store_mid 52 _ _ rfl fb (q * 14 + 2) (i64s TR).toArray rfl rfl (by rw [e12]; exact th6) i12b o12 ?_
      rw [List.toList_toArray]
      generalize w6.setCells fb (q * 14 + 2) (i64s TR) = w7 at *
      go_wp2
      go_roundw
      case rel => exact ⟨q + 1, by omega, by go_num, HO7H.out, u0, HG7.out⟩
      case measure => simp [intOf]; omega
    · obtain rfl : q = N := by omega
      have hn := HN.out
      have hx := HOR.out
      rw [hn, HQA.out, ← hn] at hx
      have HX : Hid _ := hx
      clear hx hn
      go_wp2
      go_end0
      exact ⟨rfl, HX.out, grown_trans HGA.out HGW.out⟩
end Go.Proofs.YteabbanjjdmjkaaDoor
