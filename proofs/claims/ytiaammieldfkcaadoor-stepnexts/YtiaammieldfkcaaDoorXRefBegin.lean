/- Contracts of tierlinelaw.ints, tierlineref.Numbers and tierlineref.Begun: the document's own beginning. -/
import Derived.Test.YtiaammieldfkcaaDoorGroupC
import Derived.Test.YtiaammieldfkcaaDoorXProven
import Derived.Test.YtiaammieldfkcaaDoorXProgs
import Derived.Test.YtiaammieldfkcaaDoorGroupB
namespace Go.Proofs.YtiaammieldfkcaaDoor
open Go Go.RowKit

theorem ints_cells {w : World} {v : Value} {l : List Int} (h : IntsVal w v l) : ∃ ao c, v = .slice ao l.length c ∧ (ao = none → l.length = 0 ∧ c = 0) ∧ ∀ ad, ao = some ad → ∀ j u, (i64s l)[j]? = some u → w.cell? (ad.add j) = some u := by
  rcases ints_some h with ⟨rfl, rfl⟩ | ⟨a, cap, rfl, hc⟩
  · exact ⟨none, 0, rfl, fun _ => ⟨rfl, rfl⟩, fun ad h => by cases h⟩
  · refine ⟨some a, cap, rfl, fun h => (by cases h), fun ad h => ?_⟩
    obtain rfl : a = ad := by simpa using h
    exact hc

set_option maxRecDepth 100000 in
theorem ints_any (v : Value) (l : List Int) (w : World) (hv : IntsVal w v l) (hs : l.length * 8 ≤ 140737488355328) :
    Calls Tryd.prog 13 #[v] w fun e w' => ∃ v', e = .returned v' ∧ w'.ownsRow w.heap.size 3 1 v' l.length (i64s l) ∧ Below w.heap.size w w' := by
  obtain ⟨i64i, hi64, hz0, hz1, hz2⟩ := info_parts info64
  obtain ⟨ao, c, rfl, hn, hc⟩ := ints_cells hv
  have hm : l.length ≤ maxLen := by unfold maxLen; omega
  have HN : Hid (ao = none → l.length = 0 ∧ c = 0) := hn
  have HC : Hid (∀ ad, ao = some ad → ∀ j u, (i64s l)[j]? = some u → w.cell? (ad.add j) = some u) := hc
  clear hn hc hv
  go_enter Tryd.func13, Tryd.ntmps13
  go_wp2_with (at_builtin; refine wpList_append_slice rfl (.const (.slice none 0 0)) (.tmp 3) 27 rfl w.heap.size 3 i64i _ 1 8 Tryd.underlying27 hi64 hz0 hz1 hz2 rfl (by decide) (.slice none 0 0) 0 [] rfl (World.ownsRow_nil _ _ _ _) ao l.length c (i64s l) rfl HN.out (by rw [i64s_length]; omega) HC.out (i64s_one _) (by omega) (by omega) (Nat.le_refl _) ?_; intro u1 w1 hown1 hg1)
  go_ret
  exact ⟨_, rfl, by simpa using hown1, below_grown hg1⟩

set_option maxRecDepth 100000 in
set_option maxHeartbeats 400000 in
theorem numbers_any (v : Value) (l : List Int) (w : World) (hv : IntsVal w v l) (hs : l.length * 8 ≤ 140737488355328) :
    Calls Tryd.prog 29 #[v] w fun e w' => ∃ v', e = .returned v' ∧ w'.ownsRow w.heap.size 3 1 v' l.length (i64s l) ∧ Below w.heap.size w w' := by
  obtain ⟨i64i, hi64, hz0, hz1, hz2⟩ := info_parts info64
  obtain ⟨ao, b, off, n, cap, rfl, hl, ha, hc, hcap, hmx⟩ := hv
  have HL : Hid (l.length = n) := hl
  have HC : Hid (∀ k (h : k < l.length), w.cell? ⟨b, off + k, none⟩ = some (.int .i64 l[k])) := hc
  have HA : Hid (0 < n → ao = some ⟨b, off, none⟩) := ha
  have hcp := hcap.1
  unfold maxLen at hmx
  rw [hl] at hs
  clear hl hc ha hcap
  go_enter Tryd.func29, Tryd.ntmps29
  go_wp2
  go_loopw [3, 4] (fun o i wr => ∃ k : Nat, k ≤ n ∧ i = .int .i64 k ∧ wr.ownsRow w.heap.size 3 1 o k (i64s (l.take k)) ∧ Below w.heap.size w wr) (fun _ i _ => n - (intOf i).toNat)
  case atStart => exact ⟨0, Nat.zero_le _, rfl, World.ownsRow_nil _ _ _ _, Below.refl _ _⟩
  case round =>
    obtain ⟨k, hk, rfl, hr, hb⟩ := hrel
    have hz : w.heap.size ≤ wr.heap.size := hb.size
    have HB : Hid (Below w.heap.size w wr) := hb
    by_cases hlt : k < n
    · obtain rfl := HA.out (by omega)
      have hkl : k < l.length := by rw [HL.out]; exact hlt
      have c0 := keeps_below hb _ _ (HC.out k hkl)
      have HT : Hid (i64s (l.take k) ++ i64s [l[k]] = i64s (l.take (k + 1))) := by show _ = _; rw [← i64s_append, List.take_succ_eq_append_getElem hkl]
      generalize l[k] = x at c0 HT
      have hkI : (k : Int) < n := by omega
      obtain ⟨ao1, cap1, rfl⟩ := own_shape hr
      have HR : Hid (wr.ownsRow w.heap.size 3 1 (.slice ao1 k cap1) k (i64s (l.take k))) := hr
      clear hb hr HA
      go_wp2_with (at_builtin; refine wpList_append_own _ rfl (.tmp 11) (.tmp 16) 27 rfl w.heap.size 3 i64i _ 1 8 Tryd.underlying27 hi64 hz0 hz1 hz2 rfl (by decide) _ _ _ rfl (HR.out.alloc _) ⟨wr.heap.size, 0, none⟩ 1 1 (i64s [x]) rfl rfl (news_list _ _ _ _ rfl) (i64s_one _) (by unfold maxLen; omega) (by omega) (by simp; omega) ?_; intro v2 w2 hown2 hg2 _)
      rw [HT.out] at hown2
      go_roundw
      case rel => exact ⟨k + 1, by omega, by go_num, hown2, (HB.out.alloc hz _).trans (grown_base (HR.out.alloc _) (by simp; omega) hg2)⟩
      case measure => simp [intOf]; omega
    · obtain rfl : k = n := by omega
      have HT : Hid (l.take k = l) := by show _ = _; rw [← HL.out]; exact List.take_length
      have HR := hr
      rw [HT.out] at HR
      obtain ⟨ao1, cap1, rfl⟩ := own_shape hr
      clear hr hb
      go_wp2
      go_ret
      exact ⟨_, rfl, by rw [HL.out]; exact HR, HB.out⟩

theorem begunFr_set (args : List Int) (k : Nat) (hk : k < args.length) (h12 : args.length ≤ 12) : (frCells (begunFr 0 (args.take k))).toArray.setIfInBounds (2 + k) (.int .i64 args[k]) = (frCells (begunFr 0 (args.take (k + 1)))).toArray := by
  have e : ∀ j, j ≤ args.length → frCells (begunFr 0 (args.take j)) = [.int .i64 0, .int .i64 0] ++ (i64s (args.take j) ++ List.replicate (12 - j) (Value.int .i64 0)) := fun j hj => by
    unfold frCells begunFr regsOf
    rw [i64s_append]
    simp only [i64s, List.map_replicate, List.length_take, Nat.min_eq_left hj]
    rfl
  rw [e k (by omega), e (k + 1) (by omega)]
  rw [List.setIfInBounds_toArray]
  congr 1
  rw [List.set_append_right _ _ (by simp)]
  congr 1
  rw [show 2 + k - ([.int .i64 0, .int .i64 0] : List Value).length = k by simp]
  rw [List.set_append_right _ _ (by rw [i64s_length, List.length_take]; omega)]
  rw [i64s_length, List.length_take, Nat.min_eq_left (by omega), Nat.sub_self, List.take_succ_eq_append_getElem hk, i64s_append, List.append_assoc]
  congr 1
  rw [show 12 - k = (12 - (k + 1)) + 1 by omega, List.replicate_succ]
  rfl

set_option maxRecDepth 100000 in
set_option maxHeartbeats 2000000 in
theorem begun_ref (P : List Fn) (v va vn : Value) (args answers : List Int) (fuel : Int) (w : World) (hv : ProgVal w v P) (hva : IntsVal w va args) (hvn : IntsVal w vn answers) :
    Calls Tryd.prog 26 #[.agg #[v], va, vn, .int .i64 fuel] w (BeginPost P args answers fuel w) := by
  have hbx : ∀ o o', Below w.heap.size w ((w.alloc o).alloc o') := fun o o' => ((Below.refl _ _).alloc (Nat.le_refl _) _).alloc (by simp) _
  have hC := fun o o' => proven_any P v ((w.alloc o).alloc o') (hv.keeps (keeps_below (hbx o o')))
  obtain ⟨aa, ca, rfl⟩ := hva.shape
  obtain ⟨an, cn, rfl⟩ := hvn.shape
  have HV : Hid (ProgVal w v P) := hv
  have HA : Hid (IntsVal w (.slice aa args.length ca) args) := hva
  have HN : Hid (IntsVal w (.slice an answers.length cn) answers) := hvn
  obtain ⟨ao, n0, cap0, rfl⟩ := hv.shape
  clear hv hva hvn
  go_enter Tryd.func26, Tryd.ntmps26
  go_upto_region 2 with (go_at_call 35; refine (hC _ _).mono ?_; rintro e w1 ⟨E, rfl, hE, hb1⟩)
  have k0 := keeps_below hb1 ⟨w.heap.size, 0, none⟩ (.slice ao n0 cap0) (by rw [cell_of_row _ _ _ _ _ _ (heap_alloc2_old _ _ _)]; rfl)
  have hz8 : w1.heap[w.heap.size + 1]? = some (.cells zeroStCells 29 (0, 0)) := (hb1.block _ (by simp)).trans (heap_alloc2_new _ _ _)
  have hsz : w.heap.size + 2 ≤ w1.heap.size := by have := hb1.size; simpa using this
  have HB1 : Hid (Below w.heap.size w w1) := (hbx _ _).trans (hb1.mono (by simp; omega))
  clear hb1 hC
  by_cases hE0 : E = 0
  · subst hE0
    obtain ⟨b, off, cap, hvs, d0, hp1, hpc, hcm, q0, q2⟩ := right_head hE (HV.out.keeps (keeps_below HB1.out))
    obtain ⟨rfl, rfl, rfl⟩ : ao = some ⟨b, off, none⟩ ∧ n0 = P.length ∧ cap0 = cap := by simpa using hvs
    clear hvs
    unfold maxLen at hcm
    have HE : Hid (ProofAns P 0) := hE
    have hI := fun w => in_any fuel 0 10000 w
    by_cases c1 : (args.length : Int) = par0 P
    · by_cases c2 : 100 < answers.length
      · have HR : Hid (beginE 0 P args answers fuel = 1) := by show _ = _; unfold beginE; rw [if_neg (by simp), if_pos (Or.inr c2)]
        have c2I : decide ((100 : Int) < answers.length) = true := by simp; omega
        clear hE hI
        go_wp2_with (first | (go_at_call 36; refine (hI _).mono ?_; rintro e w' ⟨rfl, hw'⟩; replace hw' := hw'.symm; subst hw') | (refine wpList_build_store rfl _ _ rfl zeroStCells (by simpa using built_zero) rfl _ _ rfl _ rfl rfl _ _ hz8 infoSt rfl zeroSt_one ?_) | (refine wpList_store_row rfl _ _ _ rfl _ zeroStCells rfl rfl _ _ hz8 infoSt rfl zeroSt_one ?_))
        try simp only [Exit.inBlock, Exit.then]
        refine bodyPost_ret (results_row_tmp rfl _ _ (w.heap.size + 1) 29 zeroStCells (0, 0) _ rfl (setRow_heap _ _ _ _ _ _ hz8) Tryd.underlying29 rfl infoSt) rfl ⟨_, _, HE.out, by rw [HR.out]; rfl, by rw [HR.out]; exact zero_stVal _, below_setRow HB1.out (by omega) _⟩
      · have c2I : decide ((100 : Int) < answers.length) = false := by simp; omega
        by_cases c3 : 0 ≤ fuel ∧ fuel ≤ 10000
        · have HR : Hid (beginE 0 P args answers fuel = 0) := by show _ = _; unfold beginE; rw [if_neg (by simp), if_neg (by omega), if_neg (by omega)]
          have hal : args.length ≤ 2 := by omega
          have eI : inB fuel 0 10000 = true := by unfold inB; simp; omega
          rw [eI] at hI
          obtain ⟨aa', ba, offa, na, ca', hve, hla, haa, hca, hcap, hmx⟩ := HA.out
          obtain ⟨rfl, rfl, rfl⟩ : aa = aa' ∧ args.length = na ∧ ca = ca' := by simpa using hve
          have HAA : Hid (0 < args.length → aa = some ⟨ba, offa, none⟩) := haa
          have HCA : Hid (∀ k (h : k < args.length), w.cell? ⟨ba, offa + k, none⟩ = some (.int .i64 args[k])) := hca
          have hcapa := hcap.1
          unfold maxLen at hmx
          have HC1 : Hid ((args.length : Int) = par0 P) := c1
          clear hE eI hve hla haa hca hcap
          go_wp2_with (go_at_call 36; refine (hI _).mono ?_; rintro e w' ⟨rfl, hw'⟩; replace hw' := hw'.symm; subst hw')
          go_loopw [12] (fun i wr => ∃ k : Nat, k ≤ args.length ∧ i = .int .i64 k ∧ wr.heap[w1.heap.size]? = some (.cells (frCells (begunFr 0 (args.take k))).toArray 55 (0, 0)) ∧ Below w1.heap.size w1 wr) (fun i _ => args.length - (intOf i).toNat)
          case atStart => exact ⟨0, Nat.zero_le _, rfl, heap_alloc_last _ _, (Below.refl _ _).alloc (Nat.le_refl _) _⟩
          case round =>
            obtain ⟨k, hk, rfl, hg, hb⟩ := hrel
            have HB : Hid (Below w.heap.size w wr) := HB1.out.trans (hb.mono (by omega))
            have HBB : Hid (Below w1.heap.size w1 wr) := hb
            have HG : Hid (wr.heap[w1.heap.size]? = some (.cells (frCells (begunFr 0 (args.take k))).toArray 55 (0, 0))) := hg
            by_cases hlt : k < args.length
            · obtain rfl := HAA.out (by omega)
              have c0 := keeps_below HB.out _ _ (HCA.out k hlt)
              have HSET : Hid ((frCells (begunFr 0 (args.take k))).toArray.setIfInBounds (2 + k) (.int .i64 args[k]) = (frCells (begunFr 0 (args.take (k + 1)))).toArray) := begunFr_set args k hlt (by omega)
              have hfl : (frCells (begunFr 0 (args.take k))).length = 14 := begunCells_size 0 _ (by rw [List.length_take]; omega)
              obtain ⟨u0, hu0⟩ : ∃ u, wr.cell? ⟨w1.heap.size, 2 + k, none⟩ = some u := by
                rw [cell_of_row _ _ _ _ _ _ hg]
                exact ⟨_, by rw [List.getElem?_toArray]; exact List.getElem?_eq_getElem (by omega)⟩
              have f0 : wr.frozen? ⟨w1.heap.size, 2 + k, none⟩ = false := frozen_of_row _ _ _ _ _ hg
              have hkI : (k : Int) < args.length := by omega
              have hk12 : (k : Int) < 12 := by omega
              generalize args[k] = x at c0 HSET
              clear hg hb hfl HAA
              go_wp2
              go_roundw
              case rel => exact ⟨k + 1, by omega, by go_num, by rw [heap_setCell_same _ _ _ _ _ _ HG.out, HSET.out], HBB.out.setCell (Nat.le_refl _) _⟩
              case measure => simp [intOf]; omega
            · obtain rfl : k = args.length := by omega
              have HT : Hid (args.take args.length = args) := List.take_length
              have hal12 : args.length ≤ 12 := by omega
              have h12 := regsOf_length args hal12
              obtain ⟨r0, r1, r2, r3, r4, r5, r6, r7, r8, r9, r10, r11, hrr⟩ := list12 h12
              have efc : frCells (begunFr 0 args) = [.int .i64 0, .int .i64 0, .int .i64 r0, .int .i64 r1, .int .i64 r2, .int .i64 r3, .int .i64 r4, .int .i64 r5, .int .i64 r6, .int .i64 r7, .int .i64 r8, .int .i64 r9, .int .i64 r10, .int .i64 r11] := by
                unfold frCells begunFr
                dsimp only
                rw [hrr]; rfl
              have HFC : Hid (frCells (begunFr 0 args) = [.int .i64 0, .int .i64 0, .int .i64 r0, .int .i64 r1, .int .i64 r2, .int .i64 r3, .int .i64 r4, .int .i64 r5, .int .i64 r6, .int .i64 r7, .int .i64 r8, .int .i64 r9, .int .i64 r10, .int .i64 r11]) := efc
              have H12 : Hid ((regsOf args).length = 12) := h12
              have hg' : wr.heap[w1.heap.size]? = some (.cells (#[.int .i64 0, .int .i64 0, .int .i64 r0, .int .i64 r1, .int .i64 r2, .int .i64 r3, .int .i64 r4, .int .i64 r5, .int .i64 r6, .int .i64 r7, .int .i64 r8, .int .i64 r9, .int .i64 r10, .int .i64 r11] : Array Value) 55 (0, 0)) := by
                have h := hg
                rw [HT.out, efc] at h
                exact h
              have HGC : Hid (∀ j u, ([.int .i64 0, .int .i64 0, .int .i64 r0, .int .i64 r1, .int .i64 r2, .int .i64 r3, .int .i64 r4, .int .i64 r5, .int .i64 r6, .int .i64 r7, .int .i64 r8, .int .i64 r9, .int .i64 r10, .int .i64 r11] : List Value)[j]? = some u → wr.cell? ⟨w1.heap.size, j, none⟩ = some u) := fun j u hu => by rw [cell_of_row _ _ _ _ _ _ hg']; simpa using hu
              have hzr : w1.heap.size < wr.heap.size := lt_of_block hg'
              have HNW : Hid (∀ W, Below w.heap.size w W → IntsVal W (.slice an answers.length cn) answers) := fun W hW => HN.out.keeps (keeps_below hW)
              have hbw := HB.out
              have HZR : Hid (wr.heap[w.heap.size + 1]? = some (.cells zeroStCells 29 (0, 0))) := (HBB.out.block _ (by omega)).trans hz8
              clear hg hb HAA efc hrr h12 hg'
              go_wp2
              have hsf : (Tryd.prog.info? 55).map (·.size) = some ([.int .i64 0, .int .i64 0, .int .i64 r0, .int .i64 r1, .int .i64 r2, .int .i64 r3, .int .i64 r4, .int .i64 r5, .int .i64 r6, .int .i64 r7, .int .i64 r8, .int .i64 r9, .int .i64 r10, .int .i64 r11] : List Value).length := infoFr
              have hRNG : ∀ W, Below wr.heap.size wr W → W.rangeAt w1.heap.size 0 [.int .i64 0, .int .i64 0, .int .i64 r0, .int .i64 r1, .int .i64 r2, .int .i64 r3, .int .i64 r4, .int .i64 r5, .int .i64 r6, .int .i64 r7, .int .i64 r8, .int .i64 r9, .int .i64 r10, .int .i64 r11] := fun W hW j u hu => by rw [Nat.zero_add]; exact keeps_below hW _ _ (HGC.out j u hu)
              refine wp_region_last2 (S := fun W => Below wr.heap.size wr W) _ 6 (by kernel_rfl) (by kernel_rfl) rfl (by kernel_rfl) rfl ((Below.refl _ _).drew) (fun hHeld => ?_)
              simp only [List.pop_toArray, List.dropLast]
              refine wpAnyH_take (i := 0) rfl (by kernel_rfl) (by kernel_rfl) (by kernel_rfl) (fun _ _ _ h => h) (yieldsIf_load_mid (by rfl) 55 (.tmp 11) rfl w1.heap.size 0 rfl [.int .i64 0, .int .i64 0, .int .i64 r0, .int .i64 r1, .int .i64 r2, .int .i64 r3, .int .i64 r4, .int .i64 r5, .int .i64 r6, .int .i64 r7, .int .i64 r8, .int .i64 r9, .int .i64 r10, .int .i64 r11] _ hRNG Tryd.underlying55 rfl hsf) (by assumption) ?_
              (try simp only [Act.put, List.setIfInBounds_toArray])
              refine wpAnyH_take (i := 2) (v := ?_) rfl (by kernel_rfl) (by kernel_rfl) (by kernel_rfl) (fun _ _ _ h => h) (Or.inl ⟨by rfl, ?_⟩) (by assumption) ?_
              rotate_left
              · (intro W hSW; go_simp; try (with_reducible rfl))
              (try simp only [Act.put])
              refine wpAnyH_take (i := 3) (v := ?_) rfl (by kernel_rfl) (by kernel_rfl) (by kernel_rfl) (fun _ _ _ h => h) (Or.inl ⟨by rfl, ?_⟩) (by assumption) ?_
              rotate_left
              · (intro W hSW; go_simp; try (with_reducible rfl))
              (try simp only [Act.put])
              refine wpAnyH_ready (rs := [1, 4]) (by kernel_rfl) (by simp) ?_
              refine AllReadyH.cons rfl (fun K hK => ?_) (AllReadyH.cons rfl (fun K hK => ?_) AllReadyH.nil)
              · have B0 : Below wr.heap.size wr (wr.drew.alloc (.cells #[.int .i64 0, .int .i64 0, .int .i64 r0, .int .i64 r1, .int .i64 r2, .int .i64 r3, .int .i64 r4, .int .i64 r5, .int .i64 r6, .int .i64 r7, .int .i64 r8, .int .i64 r9, .int .i64 r10, .int .i64 r11] 55)) := (Below.refl _ _).drew.alloc (Nat.le_refl _) _
                go_simp
                refine hK.out _ _ B0 (fun _ => ?_)
                clear hK K
                (try simp only [Act.put, List.setIfInBounds_toArray, List.set_cons_zero, List.set_cons_succ])
                refine wpAnyH_ready (rs := [4]) (by kernel_rfl) (by simp) ?_
                refine AllReadyH.cons rfl (fun K hK => ?_) AllReadyH.nil
                go_simp
                refine (numbers_any _ answers _ (HNW.out _ (hbw.trans (B0.mono (by omega)))) (by omega)).mono ?_
                rintro e w4 ⟨v4, rfl, ho4, hb4⟩
                obtain ⟨a4, c4, rfl⟩ := own_shape ho4
                have B4 : Below wr.heap.size wr w4 := B0.trans (hb4.mono (by simp))
                dsimp only
                refine hK.out _ _ B4 (fun _ => ?_)
                clear hK K
                (try simp only [Act.put, List.setIfInBounds_toArray, List.set_cons_zero, List.set_cons_succ])
                refine wpAnyH_ready (rs := [5]) (by kernel_rfl) (by simp) ?_
                refine AllReadyH.cons rfl (fun K hK => ?_) AllReadyH.nil
                go_simp
                refine hK.out _ _ B4 (fun _ => ?_)
                clear hK K
                (try simp only [Act.put, List.setIfInBounds_toArray, List.set_cons_zero, List.set_cons_succ])
                refine wpAnyH_done (by kernel_rfl) ?_ _
                have hz4 : w4.heap[w.heap.size + 1]? = some (.cells zeroStCells 29 (0, 0)) := (B4.block _ (by omega)).trans HZR.out
                refine Or.inl (wp_store_row _ _ _ rfl _ _ rfl rfl _ _ hz4 infoSt rfl (stCells_one ⟨0, 0, [], noMem, fuel, [], []⟩ _ _ _ rfl rfl rfl) ?_)
                refine Or.inl ?_
                go_simp
                have HF : w4.heap[wr.heap.size]? = some (.cells (frCells (begunFr 0 args)).toArray 55 (0, 0)) := by
                  rw [HFC.out]
                  exact (hb4.block _ (by simp)).trans (heap_alloc_last _ _)
                have hsz4 : wr.heap.size ≤ w4.heap.size := B4.size
                have hsi : (Tryd.prog.info? 29).map (·.size) = some (stCells ⟨0, 0, [], noMem, fuel, [], []⟩ (.slice (some ⟨wr.heap.size, 0, none⟩) 1 1) (.slice none 0 0) (.slice a4 answers.length c4)).toArray.size := infoSt
                go_wp2
                try simp only [Exit.inBlock, Exit.then]
                refine bodyPost_ret (results_row_tmp rfl _ _ (w.heap.size + 1) 29 (stCells ⟨0, 0, [], noMem, fuel, [], []⟩ (.slice (some ⟨wr.heap.size, 0, none⟩) 1 1) (.slice none 0 0) (.slice a4 answers.length c4)).toArray (0, 0) _ rfl (setRow_heap _ _ _ _ _ _ hz4) Tryd.underlying29 rfl hsi) rfl ⟨_, _, HE.out, by rw [HR.out]; rfl, ?_, ?_⟩
                · rw [HR.out, beginS_zero]
                  refine ⟨_, _, _, rfl, rfl, frames_of_own (fun f hf => ?_) (one_frame H12.out ((setRow_other _ _ _ _ (by omega)).trans HF)), ints_nil _, ints_of_own (ownsRow_setRow ho4 (by simp; omega) _)⟩
                  have hf' : f ∈ [begunFr 0 args] := hf
                  rw [List.mem_singleton] at hf'
                  rw [hf']; exact H12.out
                · exact below_setRow (hbw.trans (B4.mono (by omega))) (by omega) _
              · have B0 : Below wr.heap.size wr wr.drew := (Below.refl _ _).drew
                go_simp
                refine (numbers_any _ answers _ (HNW.out _ (hbw.trans (B0.mono (by omega)))) (by omega)).mono ?_
                rintro e w4 ⟨v4, rfl, ho4, hb4⟩
                obtain ⟨a4, c4, rfl⟩ := own_shape ho4
                have B4 : Below wr.heap.size wr w4 := B0.trans (hb4.mono (by simp))
                dsimp only
                refine hK.out _ _ B4 (fun _ => ?_)
                clear hK K
                (try simp only [Act.put, List.setIfInBounds_toArray, List.set_cons_zero, List.set_cons_succ])
                refine wpAnyH_ready (rs := [1]) (by kernel_rfl) (by simp) ?_
                refine AllReadyH.cons rfl (fun K hK => ?_) AllReadyH.nil
                go_simp
                have B5 : Below wr.heap.size wr (w4.alloc (.cells #[.int .i64 0, .int .i64 0, .int .i64 r0, .int .i64 r1, .int .i64 r2, .int .i64 r3, .int .i64 r4, .int .i64 r5, .int .i64 r6, .int .i64 r7, .int .i64 r8, .int .i64 r9, .int .i64 r10, .int .i64 r11] 55)) := B4.alloc B4.size _
                refine hK.out _ _ B5 (fun _ => ?_)
                clear hK K
                (try simp only [Act.put, List.setIfInBounds_toArray, List.set_cons_zero, List.set_cons_succ])
                refine wpAnyH_ready (rs := [5]) (by kernel_rfl) (by simp) ?_
                refine AllReadyH.cons rfl (fun K hK => ?_) AllReadyH.nil
                go_simp
                refine hK.out _ _ B5 (fun _ => ?_)
                clear hK K
                (try simp only [Act.put, List.setIfInBounds_toArray, List.set_cons_zero, List.set_cons_succ])
                refine wpAnyH_done (by kernel_rfl) ?_ _
                have hz4 : (w4.alloc (.cells #[.int .i64 0, .int .i64 0, .int .i64 r0, .int .i64 r1, .int .i64 r2, .int .i64 r3, .int .i64 r4, .int .i64 r5, .int .i64 r6, .int .i64 r7, .int .i64 r8, .int .i64 r9, .int .i64 r10, .int .i64 r11] 55)).heap[w.heap.size + 1]? = some (.cells zeroStCells 29 (0, 0)) := (B5.block _ (by omega)).trans HZR.out
                refine Or.inl (wp_store_row _ _ _ rfl _ _ rfl rfl _ _ hz4 infoSt rfl (stCells_one ⟨0, 0, [], noMem, fuel, [], []⟩ _ _ _ rfl rfl rfl) ?_)
                refine Or.inl ?_
                go_simp
                have HF : (w4.alloc (.cells #[.int .i64 0, .int .i64 0, .int .i64 r0, .int .i64 r1, .int .i64 r2, .int .i64 r3, .int .i64 r4, .int .i64 r5, .int .i64 r6, .int .i64 r7, .int .i64 r8, .int .i64 r9, .int .i64 r10, .int .i64 r11] 55)).heap[w4.heap.size]? = some (.cells (frCells (begunFr 0 args)).toArray 55 (0, 0)) := by
                  rw [HFC.out]
                  exact heap_alloc_last _ _
                have hsz4 : wr.heap.size ≤ w4.heap.size := B4.size
                have hsi : (Tryd.prog.info? 29).map (·.size) = some (stCells ⟨0, 0, [], noMem, fuel, [], []⟩ (.slice (some ⟨w4.heap.size, 0, none⟩) 1 1) (.slice none 0 0) (.slice a4 answers.length c4)).toArray.size := infoSt
                go_wp2
                try simp only [Exit.inBlock, Exit.then]
                refine bodyPost_ret (results_row_tmp rfl _ _ (w.heap.size + 1) 29 (stCells ⟨0, 0, [], noMem, fuel, [], []⟩ (.slice (some ⟨w4.heap.size, 0, none⟩) 1 1) (.slice none 0 0) (.slice a4 answers.length c4)).toArray (0, 0) _ rfl (setRow_heap _ _ _ _ _ _ hz4) Tryd.underlying29 rfl hsi) rfl ⟨_, _, HE.out, by rw [HR.out]; rfl, ?_, ?_⟩
                · rw [HR.out, beginS_zero]
                  refine ⟨_, _, _, rfl, rfl, frames_of_own (fun f hf => ?_) (one_frame H12.out ((setRow_other _ _ _ _ (by omega)).trans HF)), ints_nil _, ints_of_own (ownsRow_setRow (ho4.alloc _) (by simp; omega) _)⟩
                  have hf' : f ∈ [begunFr 0 args] := hf
                  rw [List.mem_singleton] at hf'
                  rw [hf']; exact H12.out
                · exact below_setRow (hbw.trans (B5.mono (by omega))) (by omega) _
        · have HR : Hid (beginE 0 P args answers fuel = 2) := by show _ = _; unfold beginE; rw [if_neg (by simp), if_neg (by omega), if_pos (by omega)]
          have eI : inB fuel 0 10000 = false := by unfold inB; simp; omega
          rw [eI] at hI
          clear hE eI
          go_wp2_with (first | (go_at_call 36; refine (hI _).mono ?_; rintro e w' ⟨rfl, hw'⟩; replace hw' := hw'.symm; subst hw') | (refine wpList_build_store rfl _ _ rfl zeroStCells (by simpa using built_zero) rfl _ _ rfl _ rfl rfl _ _ hz8 infoSt rfl zeroSt_one ?_) | (refine wpList_store_row rfl _ _ _ rfl _ zeroStCells rfl rfl _ _ hz8 infoSt rfl zeroSt_one ?_))
          try simp only [Exit.inBlock, Exit.then]
          refine bodyPost_ret (results_row_tmp rfl _ _ (w.heap.size + 1) 29 zeroStCells (0, 0) _ rfl (setRow_heap _ _ _ _ _ _ hz8) Tryd.underlying29 rfl infoSt) rfl ⟨_, _, HE.out, by rw [HR.out]; rfl, by rw [HR.out]; exact zero_stVal _, below_setRow HB1.out (by omega) _⟩
    · have HR : Hid (beginE 0 P args answers fuel = 1) := by show _ = _; unfold beginE; rw [if_neg (by simp), if_pos (Or.inl c1)]
      clear hE hI
      go_wp2_with (first | (go_at_call 36; refine (hI _).mono ?_; rintro e w' ⟨rfl, hw'⟩; replace hw' := hw'.symm; subst hw') | (refine wpList_build_store rfl _ _ rfl zeroStCells (by simpa using built_zero) rfl _ _ rfl _ rfl rfl _ _ hz8 infoSt rfl zeroSt_one ?_) | (refine wpList_store_row rfl _ _ _ rfl _ zeroStCells rfl rfl _ _ hz8 infoSt rfl zeroSt_one ?_))
      try simp only [Exit.inBlock, Exit.then]
      refine bodyPost_ret (results_row_tmp rfl _ _ (w.heap.size + 1) 29 zeroStCells (0, 0) _ rfl (setRow_heap _ _ _ _ _ _ hz8) Tryd.underlying29 rfl infoSt) rfl ⟨_, _, HE.out, by rw [HR.out]; rfl, by rw [HR.out]; exact zero_stVal _, below_setRow HB1.out (by omega) _⟩
  · have HE : Hid (ProofAns P E) := hE
    have HR : Hid (beginE E P args answers fuel = E) := by show _ = _; unfold beginE; rw [if_pos hE0]
    have HS : Hid (∀ a b c, beginS E a b c = zeroSt) := fun a b c => by unfold beginS; rw [if_neg hE0]
    clear hE
    go_wp2_with (first | (refine wpList_build_store rfl _ _ rfl zeroStCells (by simpa using built_zero) rfl _ _ rfl _ rfl rfl _ _ hz8 infoSt rfl zeroSt_one ?_) | (refine wpList_store_row rfl _ _ _ rfl _ zeroStCells rfl rfl _ _ hz8 infoSt rfl zeroSt_one ?_))
    try simp only [Exit.inBlock, Exit.then]
    refine bodyPost_ret (results_row_tmp rfl _ _ (w.heap.size + 1) 29 zeroStCells (0, 0) _ rfl (setRow_heap _ _ _ _ _ _ hz8) Tryd.underlying29 rfl infoSt) rfl ⟨_, _, HE.out, by rw [HR.out]; rfl, by rw [HR.out, HS.out]; exact zero_stVal _, below_setRow HB1.out (by omega) _⟩
end Go.Proofs.YtiaammieldfkcaaDoor
