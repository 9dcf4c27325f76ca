/- The walk of tierlinekeep.BlocksEnd: at all raw numbers it says true, and nothing that was there has turned. -/
import Derived.Test.YtjmafakhibekdaaDoorXBlockFacts
import Derived.Test.YtjmafakhibekdaaDoorXRightRaw
namespace Go.Proofs.YtjmafakhibekdaaDoor
open Go Go.RowKit

set_option maxHeartbeats 8000000 in
set_option maxRecDepth 100000 in
theorem blocksEnd_walk (l : List Fn) (v : Value) (fn : Int) (w : World) (ht : TabOk w) (hc : CallOk w) (hv : ProgVal w v l) (hwf : ∀ f ∈ l, f.wf) (hfn : I64 fn) :
    Calls Tryd.prog 10 #[v, .int .i64 fn] w fun e w' => e = .returned (.bool true) ∧ Below w.heap.size w w' := by
  have hSh := program_raw l v w ht hc hv hwf
  obtain ⟨aol, nl, capl, rfl⟩ := hv.shape
  have HT : Hid (TabOk w) := ht
  have HCO : Hid (CallOk w) := hc
  clear hv hwf ht hc
  go_enter Tryd.func10, Tryd.ntmps10
  go_upto_region 2 with (go_at_call 13; refine hSh.mono ?_; rintro e w1 ⟨v1, P, us, rfl, hpi, hbt, hb1⟩; have hp1 := hbt.prog; have hcp := progIs_code hpi; obtain ⟨hn1, hn4, -⟩ := codeProg_zero hcp; obtain ⟨k, hk, ek⟩ := pick_some fn P.length hn1; obtain ⟨b, off, cap, u, rfl, d0, d1, d2, hcv, hm, hcc⟩ := prog_fn hp1 hk)
  have hRi := progIs_ans hpi
  have OK : Hid (FlowOk P P[k]) := flowOk_of hRi (List.getElem_mem hk)
  have hl1 := OK.out.ok.len1
  have hl2 := OK.out.ok.len2
  have hfe := fnErr_ok hcp hk
  have hca : codeAt P k = P[k].code := by simp [codeAt, List.getD, hk]
  have HBL : Hid (∀ W, Below w1.heap.size w1 W → Calls Tryd.prog 15 #[.agg #[.slice (some ⟨b, off, none⟩) P.length cap], .int .i64 k] W fun e w' => ∃ g S T VV LL, e = .returned (.tuple #[.slice (some ⟨g, 0, none⟩) S.length S.length, .int .i64 0]) ∧ BlocksAt w' W.heap.size g P[k] S T VV LL ∧ W.heap.size ≤ g ∧ Below W.heap.size W w') := fun W hb => Blocks_right P hRi k hk _ W ((HT.out.below hb1).below hb) ((HCO.out.below hb1).below hb) (hp1.keeps (keeps_below hb))
  obtain ⟨ao2, b2, off2, n, cap2, rfl, ⟨hlen2, haddr2, hat2⟩, hcap2, hmx2⟩ := hcv
  obtain rfl := haddr2 (by omega)
  have HIN : Hid (∀ W, Below w1.heap.size w1 W → ∀ q, q < n → W.cell? ⟨b2, off2 + q * 5, none⟩ = some (.int .i64 (insD P[k] q).op)) := fun W hW q hq => by
    have hqf : q < P[k].code.length := by rw [hlen2]; exact hq
    rw [insD_eq hqf]
    exact keeps_below hW _ _ (hat2 q hqf).1
  have HB1 : Hid (Below w.heap.size w w1) := hb1
  have hz1 := hb1.size
  have hkI : (k : Int) < P.length := by omega
  have hcc2 := hcap2.1
  have HN : Hid (P[k].code.length = n) := hlen2
  clear hfe hRi hpi hcp hbt hp1 hb1 hSh hca hat2 haddr2 hcap2
  rw [hlen2] at hl1 hl2
  generalize P[k] = f at *
  clear hlen2
  unfold maxLen at hmx2
  have d0' := fun o => cell_alloc d0 o
  have d1' := fun o => cell_alloc d1 o
  have t2 := fun o => cell_alloc d2 o
  generalize hNN : P.length = N at *
  clear hNN
  obtain ⟨i64i, hi64, hzz0, hzz1, hzz2⟩ := info_parts info64
  go_upto_region 7 with (first
    | (go_at_call 14; refine (picked_any _ _ _ hfn (by omega) (by omega)).mono ?_; rintro e w' ⟨rfl, hw'⟩; replace hw' := hw'.symm; subst hw')
    | (go_at_call 15; refine (HBL.out _ ((Below.refl _ _).alloc (Nat.le_refl _) _)).mono ?_; rintro e w2 ⟨g, S, T, VV, LL, rfl, hB, hgw, hb2⟩; have q0 := keeps_below hb2 ⟨w1.heap.size, 0, none⟩ (.slice (some ⟨b, off, none⟩) N cap) (by simp); have q2 := keeps_below hb2 _ _ (t2 _); have x0 := keeps_below hb2 _ _ (d0' _); have x1 := keeps_below hb2 _ _ (d1' _)))
  have hz2 := hb2.size
  have HB2 : Hid (Below w1.heap.size w1 w2) := ((Below.refl _ _).alloc (Nat.le_refl _) _).trans (hb2.mono (by simp))
  have hz2b := HB2.out.size
  have HBA : Hid (BlocksAt w2 (w1.alloc (.cells #[.slice (some ⟨b, off, none⟩) N cap] 25)).heap.size g f S T VV LL) := hB
  have hkn : S.length ≤ 1000 := by
    have hlt : ∀ x ∈ S, x < f.code.length := fun x hx => (hB.starts.reach OK.out hx).2
    have h1 := rank_all hlt
    have h2 : ∀ j, rank S j ≤ j := fun j => by
      induction j with
      | zero => rw [rank_zero]; omega
      | succ j ih => rw [rank_next hB.starts.rises]; split <;> omega
    have := h2 f.code.length
    have := HN.out
    omega
  clear hB hb2 q0 q2 d0' d1' t2 x0 x1
  generalize hK : S.length = K at *
  have HKL : Hid (S.length = K) := hK
  have HFC : Hid (∀ i, i < K → ∃ si, S[i]? = some si) := fun i hi => ⟨S[i]'(by rw [hK]; exact hi), List.getElem?_eq_getElem _⟩
  clear hK
  have HCL : Hid (∀ W, Below w2.heap.size w2 W → ∀ i, i < K → W.cell? ⟨g, i * 4, none⟩ = some (.int .i64 ((S.getD i 0 : Nat) : Int)) ∧ W.cell? ⟨g, i * 4 + 1, none⟩ = some (.int .i64 ((T i : Nat) : Int))) := fun W hW i hi => by
    have hi' : i < S.length := by rw [HKL.out]; exact hi
    have h := (HBA.out.below hW).cells i hi'
    refine ⟨?_, h.2.1⟩
    rw [h.1]; simp [List.getD, hi']
  have HEN : Hid (∀ i, i < K → S.getD i 0 < T i ∧ T i ≤ n ∧ (15 ≤ (insD f (T i - 1)).op ∨ T i ∈ S)) := fun i hi => by
    have hi' : i < S.length := by rw [HKL.out]; exact hi
    have h := HBA.out.ends i hi'
    have e : S.getD i 0 = S[i] := by simp [List.getD, hi']
    rw [e]
    exact ⟨h.lt, by rw [← HN.out]; exact h.le, h.stops⟩
  have HZ0 : Hid (0 ∈ S) := HBA.out.starts.zero
  obtain ⟨fp, fr, fc⟩ := f
  dsimp only at *
  have W3B : Hid (Below w2.heap.size w2 (w2.alloc (.cells #[.int .i64 fp, .int .i64 fr, .slice (some ⟨b2, off2, none⟩) n cap2] 30))) := (Below.refl _ _).alloc (Nat.le_refl _) _
  have HFB : Hid ((w2.alloc (.cells #[.int .i64 fp, .int .i64 fr, .slice (some ⟨b2, off2, none⟩) n cap2] 30)).cell? ⟨w2.heap.size, 2, none⟩ = some (.slice (some ⟨b2, off2, none⟩) n cap2)) := by show _ = _; simp
  go_loopw [10, 11] (fun u10 i wr => ∃ (q : Nat) (fv : Value), q ≤ K ∧ i = .int .i64 q ∧ u10 = fv ∧ wr.ownsRow (w2.heap.size + 1) 3 1 fv q (i64s ((S.take q).map fun x => ((x : Nat) : Int))) ∧ Below (w2.heap.size + 1) (w2.alloc (.cells #[.int .i64 fp, .int .i64 fr, .slice (some ⟨b2, off2, none⟩) n cap2] 30)) wr) (fun _ i _ => K - (intOf i).toNat)
  case atStart => exact ⟨0, _, Nat.zero_le _, rfl, rfl, ⟨rfl, Or.inl ⟨rfl, rfl⟩⟩, Below.refl _ _⟩
  case round =>
    obtain ⟨q, fv, hq, rfl, e10, hown, hbr⟩ := hrel
    replace e10 := e10.symm
    subst e10
    have hzr : w2.heap.size + 1 ≤ wr.heap.size := by have := hbr.size; simpa using this
    have HBR : Hid (Below (w2.heap.size + 1) (w2.alloc (.cells #[.int .i64 fp, .int .i64 fr, .slice (some ⟨b2, off2, none⟩) n cap2] 30)) wr) := hbr
    have HB2R : Hid (Below w2.heap.size w2 wr) := W3B.out.trans (hbr.mono (Nat.le_succ _))
    have HOW : Hid (wr.ownsRow (w2.heap.size + 1) 3 1 fv q (i64s ((S.take q).map fun x => ((x : Nat) : Int)))) := hown
    by_cases hlt : q < K
    · obtain ⟨c0, -⟩ := HCL.out wr HB2R.out q hlt
      have hqS : q < S.length := by rw [HKL.out]; exact hlt
      have HTK : Hid ((S.take (q + 1)).map (fun x => ((x : Nat) : Int)) = (S.take q).map (fun x => ((x : Nat) : Int)) ++ [((S.getD q 0 : Nat) : Int)]) := by
        show _ = _
        rw [List.take_add_one, List.getElem?_eq_getElem hqS, List.map_append]
        simp [List.getD, hqS]
      have hqI : (q : Int) < K := by omega
      generalize ((S.getD q 0 : Nat) : Int) = sq at c0 HTK
      clear hbr hown hqS
      go_wp2_with (at_builtin; refine wpList_append_own _ rfl (.tmp 37) (.tmp 43) 35 rfl (w2.heap.size + 1) 3 i64i _ 1 8 Tryd.underlying35 hi64 hzz0 hzz1 hzz2 rfl (by decide) _ _ _ rfl (HOW.out.alloc _) ⟨_, 0, none⟩ 1 1 (i64s [sq]) rfl rfl (news_list _ _ _ _ rfl) (i64s_one _) (by unfold maxLen; omega) (by omega) (by simp; omega) ?_; intro v2 w4 hown2 hg2 _; rw [← i64s_append] at hown2; have hb4 : Below (w2.heap.size + 1) (wr.alloc (.cells (i64s [sq]).toArray 3)) w4 := grown_base (HOW.out.alloc _) (by simp; omega) hg2)
      go_roundw
      case rel => exact ⟨q + 1, _, by omega, by go_num, rfl, by rw [HTK.out]; exact hown2, (HBR.out.alloc (by omega) _).trans hb4⟩
      case measure => simp [intOf]; omega
    · obtain rfl : q = K := by omega
      have HFV : Hid (IntsVal wr fv (S.map fun x => ((x : Nat) : Int))) := by
        have h := HOW.out
        have e : S.take q = S := List.take_of_length_le (by rw [HKL.out]; exact Nat.le_refl _)
        rw [e] at h
        have hl : (S.map fun x => ((x : Nat) : Int)).length = q := by rw [List.length_map, HKL.out]
        exact ints_of_own (by rw [hl]; exact h)
      obtain ⟨aof, capf, hfv⟩ := own_shape hown
      subst hfv
      have HFB4 : Hid (wr.cell? ⟨w2.heap.size, 2, none⟩ = some (.slice (some ⟨b2, off2, none⟩) n cap2)) := (hbr.cell (p := ⟨w2.heap.size, 2, none⟩) (Nat.lt_succ_self _)).trans HFB.out
      have HW4 : Hid (Below w.heap.size w wr) := HB1.out.trans ((HB2.out.trans (HB2R.out.mono hz2b)).mono hz1)
      clear hbr hown HOW HBR
      rename World => w4
      go_wp2
      go_loopw [12] (fun i wr => ∃ q2 : Nat, q2 ≤ q ∧ i = .int .i64 q2 ∧ Below w.heap.size w wr ∧ Below w4.heap.size w4 wr) (fun i _ => q - (intOf i).toNat)
      case atStart => exact ⟨0, Nat.zero_le _, rfl, HW4.out, Below.refl _ _⟩
      case round =>
        obtain ⟨i, hi, rfl, hbw, hb4⟩ := hrel
        have HBW : Hid (Below w.heap.size w wr) := hbw
        have HB4 : Hid (Below w4.heap.size w4 wr) := hb4
        have HBX : Hid (Below w2.heap.size w2 wr) := HB2R.out.trans (hb4.mono HB2R.out.size)
        clear hbw hb4
        by_cases hlt2 : i < q
        · obtain ⟨c0, c1⟩ := HCL.out wr HBX.out i hlt2
          obtain ⟨e1, e2, e3⟩ := HEN.out i hlt2
          have cf := keeps_below HB4.out _ _ HFB4.out
          obtain ⟨t, ht⟩ : ∃ t, T i = t + 1 := ⟨T i - 1, by omega⟩
          have cop := HIN.out wr (HB2.out.trans (HBX.out.mono hz2b)) t (by omega)
          have HHAS : Hid (T i ∈ S → ∀ m, Calls Tryd.prog 17 #[.slice aof q capf, .int .i64 ((T i : Nat) : Int)] (wr.drewN m) fun e w' => e = .returned (.bool true) ∧ w' = wr.drewN m) := fun hm m => by
            have h := hasList_any (S.map fun x => ((x : Nat) : Int)) (.slice aof q capf) ((T i : Nat) : Int) (wr.drewN m) ((HFV.out.keeps (keeps_below HB4.out)).keeps (fun _ _ e => e))
            have hd : decide (((T i : Nat) : Int) ∈ S.map fun x => ((x : Nat) : Int)) = true := by
              simp only [decide_eq_true_eq, List.mem_map]
              exact ⟨T i, hm, rfl⟩
            rw [hd] at h
            exact h
          rw [ht, Nat.add_sub_cancel] at e3
          have hiI : (i : Int) < q := by omega
          have h1 : decide (((T i : Nat) : Int) ≤ ((S.getD i 0 : Nat) : Int)) = false := by simp only [decide_eq_false_iff_not]; omega
          have h2 : decide ((n : Int) < ((T i : Nat) : Int)) = false := by simp only [decide_eq_false_iff_not]; omega
          have hw1 : IntKind.i64.wrap (((T i : Nat) : Int) - 1) = (t : Int) := by rw [show ((T i : Nat) : Int) - 1 = t by omega]; exact wrap_signed _ (by omega) (by omega)
          have htI : (t : Int) < n := by omega
          by_cases hop : 15 ≤ (insD ⟨fp, fr, fc⟩ t).op
          · have h3 : decide ((insD ⟨fp, fr, fc⟩ t).op < 15) = false := by simp only [decide_eq_false_iff_not]; omega
            clear e3 HHAS hop e1 e2 ht
            generalize ((T i : Nat) : Int) = ti at *
            generalize ((S.getD i 0 : Nat) : Int) = si at *
            generalize (insD ⟨fp, fr, fc⟩ t).op = op at *
            go_wp2
            go_quiet (fail)
            go_wp2
            go_quiet (fail)
            go_wp2
            go_roundw
            case rel => exact ⟨i + 1, by omega, by go_num, below_drewN HBW.out _, below_drewN HB4.out _⟩
            case measure => simp [intOf]; omega
          · have h3 : decide ((insD ⟨fp, fr, fc⟩ t).op < 15) = true := by simp only [decide_eq_true_eq]; omega
            have hH := HHAS.out (by rw [ht]; exact e3.resolve_left hop)
            clear e3 HHAS hop e1 e2 ht
            generalize ((T i : Nat) : Int) = ti at *
            generalize ((S.getD i 0 : Nat) : Int) = si at *
            generalize (insD ⟨fp, fr, fc⟩ t).op = op at *
            go_wp2
            go_quiet (fail)
            go_wp2
            go_quiet ((go_at_call 17; exact (hH _).mono fun _ _ h => ⟨h.1, _, h.2⟩))
            go_wp2
            go_roundw
            case rel => exact ⟨i + 1, by omega, by go_num, below_drewN HBW.out _, below_drewN HB4.out _⟩
            case measure => simp [intOf]; omega
        · have hH0 : Calls Tryd.prog 17 #[.slice aof q capf, .int .i64 0] wr fun e w' => e = .returned (.bool true) ∧ w' = wr := by
            have h := hasList_any (S.map fun x => ((x : Nat) : Int)) (.slice aof q capf) 0 wr (HFV.out.keeps (keeps_below HB4.out))
            have hd : decide ((0 : Int) ∈ S.map fun x => ((x : Nat) : Int)) = true := by
              simp only [decide_eq_true_eq, List.mem_map]
              exact ⟨0, HZ0.out, rfl⟩
            rw [hd] at h
            exact h
          go_wp2_with (go_at_call 17; refine hH0.mono ?_; rintro e w9 ⟨rfl, hw9⟩; replace hw9 := hw9.symm; subst hw9)
          go_ret
          exact ⟨rfl, HBW.out⟩
end Go.Proofs.YtjmafakhibekdaaDoor
