/- Contracts of trim.calls, trim.called and trim.Called. -/
import Derived.Test.YtpkgibdbmmhgdaaDoorXKeptMath
import Derived.Test.YtpkgibdbmmhgdaaDoorXWhereAll
namespace Go.Proofs.YtpkgibdbmmhgdaaDoor
open Go Go.RowKit

set_option maxRecDepth 100000 in
set_option maxHeartbeats 2000000 in
theorem calls_any (P : List Fn) (hP : codeProg P = 0) (k : Nat) (hk : k < P.length) (v : Value) (w : World) (ht : TabOk w) (hv : ProgVal w v P) :
    Calls Tryd.prog 66 #[.agg #[v], .int .i64 k] w fun e w' => ∃ v' L, e = .returned v' ∧ CallsTo P[k] P[k].code.length L ∧ IntsVal w' v' L ∧ Below w.heap.size w w' := by
  obtain ⟨i64i, hi64, hz0, hz1', hz2⟩ := info_parts info64
  have hbx : ∀ o, Below w.heap.size w (w.alloc o) := fun o => (Below.refl _ _).alloc (Nat.le_refl _) _
  have hR := fun o => reached_any P hP k hk v (w.alloc o) (ht.below (hbx o)) (hv.keeps (keeps_below (hbx o)))
  have hfo := (fnOk_of hP (List.getElem_mem hk)).1
  have hl1 := hfo.len1
  have hl2 := hfo.len2
  obtain ⟨b, off, cap, u, rfl, d0, d1, d2, hcv, hm, hcc⟩ := prog_fn hv hk
  have hkI : (k : Int) < P.length := by omega
  clear hbx hfo ht hv
  generalize P[k] = f at hR hl1 hl2 d0 d1 hcv ⊢
  generalize P.length = N at *
  have hcu := hcv
  obtain ⟨ao1, b1, off1, n, cap1, rfl, ⟨hln, had1, hat1⟩, hcp1, hmx1⟩ := hcv
  obtain rfl := had1 (by omega)
  have HAT : Hid (∀ q (h : q < f.code.length), insAt w b1 (off1 + q * 5) f.code[q]) := hat1
  have HLN : Hid (f.code.length = n) := hln
  rw [hln] at hR hl1 hl2 ⊢
  unfold maxLen at hmx1
  clear hat1 had1 hln hcu d0 d1
  have t2 := fun o => cell_alloc d2 o
  go_enter Tryd.func66, Tryd.ntmps66
  go_wp2_with (go_at_call 46; refine (hR _).mono ?_; rintro e w1 ⟨g, s, rfl, hre, hrow, hg, hb1⟩; have k0 := keeps_below hb1 ⟨w.heap.size, 0, none⟩ (.slice (some ⟨b, off, none⟩) N cap) (by simp); have k2 := keeps_below hb1 _ _ (t2 _); have HB1 : Hid (Below w.heap.size w w1) := ((Below.refl _ _).alloc (Nat.le_refl _) _).trans (hb1.mono (by simp)); have HRE : Hid (s.length = n ∧ ∀ q, q < n → (s.getD q false = true ↔ Way f 63 q)) := (by have := hre; unfold Reach at this; rw [HLN.out] at this; exact this); have HC : Hid (∀ q, q < n → w1.cell? ⟨g, q, none⟩ = some (.bool (s.getD q false))) := (fun q hq => bool_cell hrow HRE.out.1 q hq); clear hre hrow hb1)
  have hz1 := HB1.out.size
  clear hR t2 d2
  go_loopw [5, 13] (fun v i wr => ∃ (q : Nat) (L : List Int), q ≤ n ∧ i = .int .i64 q ∧ CallsTo f q L ∧ wr.ownsRow w1.heap.size 3 1 v L.length (i64s L) ∧ Below w1.heap.size w1 wr) (fun _ i _ => n - (intOf i).toNat)
  case atStart => exact ⟨0, [], Nat.zero_le _, rfl, callsTo_zero f, World.ownsRow_nil _ _ _ _, Below.refl _ _⟩
  case round =>
    obtain ⟨q, L, hq, rfl, hL, hown, hbr⟩ := hrel
    have j0 := keeps_below hbr _ _ k0
    have j2 := keeps_below hbr _ _ k2
    have hzr : w1.heap.size ≤ wr.heap.size := hbr.size
    have HBR : Hid (Below w1.heap.size w1 wr) := hbr
    have HBW : Hid (Below w.heap.size w wr) := below_call HB1.out hz1 hbr
    by_cases hlt : q < n
    · have c1 := keeps_below hbr _ _ (HC.out q hlt)
      have hqx : q < f.code.length := by rw [HLN.out]; exact hlt
      have hx := (HAT.out q hqx).keeps (keeps_below HBW.out)
      have HX : Hid (insD f q = f.code[q]) := insD_eq hqx
      have hll := hL.len
      have HW : Hid (s.getD q false = true ↔ Way f 63 q) := HRE.out.2 q hlt
      have HNO : Hid ((∀ t, ¬ CallsAt f q t) → CallsTo f (q + 1) L) := fun h => callsTo_skip hL h
      have HYES : Hid (∀ t, CallsAt f q t → CallsTo f (q + 1) (L ++ [t])) := fun t h => callsTo_add hL h
      have HQX : Hid (q < f.code.length) := hqx
      generalize f.code[q] = x at hx HX
      obtain ⟨op, dst, xa, xb, imm⟩ := x
      obtain ⟨e0, e1, e2, e3, e4⟩ := hx
      dsimp only at e0 e1 e2 e3 e4
      obtain ⟨aov, capv, rfl⟩ := own_shape hown
      have HOW := fun o => hown.alloc o
      have hqI : (q : Int) < n := by omega
      clear hL hbr hqx
      generalize s.getD q false = sb at c1 HW
      cases sb
      · have HN : Hid (CallsTo f (q + 1) L) := HNO.out fun t ht => by have := HW.out.2 ht.2.1; cases this
        go_wp2
        go_roundw
        case rel => exact ⟨q + 1, L, by omega, by go_num, HN.out, HOW _, HBR.out.alloc (by omega) _⟩
        case measure => simp [intOf]; omega
      · by_cases h17 : op = 17
        · subst h17
          have HN : Hid (CallsTo f (q + 1) (L ++ [imm])) := HYES.out imm ⟨HQX.out, HW.out.1 rfl, by rw [HX.out], by rw [HX.out]⟩
          go_wp2_with (at_builtin; refine wpList_append_own _ rfl (.tmp 33) (.tmp 36) 24 rfl w1.heap.size 3 i64i _ 1 8 Tryd.underlying24 hi64 hz0 hz1' hz2 rfl (by decide) _ _ _ rfl ((hown.alloc _).alloc _) ⟨_, 0, none⟩ 1 1 (i64s [imm]) rfl rfl (news_list _ _ _ _ (by simp)) (i64s_one _) (by unfold maxLen; omega) (by omega) (by simp; omega) ?_; intro v2 w3 hown2 hg2 _; rw [← i64s_append] at hown2; have hb2 : Below w1.heap.size w1 w3 := ((HBR.out.alloc (by omega) _).alloc (by simp; omega) _).trans (grown_base ((hown.alloc _).alloc _) (by simp; omega) hg2))
          go_roundw
          case rel => exact ⟨q + 1, _, by omega, by go_num, HN.out, by simpa using hown2, hb2⟩
          case measure => simp [intOf]; omega
        · have HN : Hid (CallsTo f (q + 1) L) := HNO.out fun t ht => by have := ht.2.2.1; rw [HX.out] at this; exact h17 this
          have ho : (op == 17) = false := by simpa using h17
          clear h17
          go_wp2
          go_roundw
          case rel => exact ⟨q + 1, L, by omega, by go_num, HN.out, HOW _, HBR.out.alloc (by omega) _⟩
          case measure => simp [intOf]; omega
    · obtain rfl : q = n := by omega
      have HL : Hid (CallsTo f q L) := hL
      have HIV : Hid (IntsVal wr _ L) := ints_of_own hown
      obtain ⟨aov, capv, rfl⟩ := own_shape hown
      clear hL hown hbr
      go_wp2
      go_ret
      exact ⟨_, L, rfl, HL.out, HIV.out, HBW.out⟩


theorem ints_slice {w : World} {v : Value} {l : List Int} (h : IntsVal w v l) : ∃ ao cap, v = .slice ao l.length cap ∧ (ao = none → l.length = 0 ∧ cap = 0) ∧ ∀ ad, ao = some ad → ∀ j u, (i64s l)[j]? = some u → w.cell? (ad.add j) = some u := by
  obtain ⟨ao, b, off, n, cap, rfl, rfl, ha, hc, ⟨hle, hcn⟩, hm⟩ := h
  refine ⟨ao, cap, rfl, fun e => ⟨by have := hcn e; omega, hcn e⟩, fun ad e j u hu => ?_⟩
  have hj : j < l.length := by
    have := (List.getElem?_eq_some_iff.1 hu).1
    simpa [i64s] using this
  have e2 := ha (by omega)
  rw [e] at e2
  obtain rfl : ad = ⟨b, off, none⟩ := by simpa using e2
  have hadd : (⟨b, off, none⟩ : Addr).add j = ⟨b, off + j, none⟩ := by unfold Addr.add; split <;> simp_all
  rw [hadd, hc j hj]
  simp only [i64s, List.getElem?_map, List.getElem?_eq_getElem hj, Option.map_some, Option.some.injEq] at hu
  rw [hu]
theorem row_pop {w : World} {base g n cap : Nat} {l : List Int} {z : Int} (hl : l.length = n) (h : w.ownsRow base 3 1 (.slice (some ⟨g, 0, none⟩) (n + 1) cap) (n + 1) (i64s (l ++ [z]))) :
    w.ownsRow base 3 1 (.slice (some ⟨g, 0, none⟩) n cap) n (i64s l) := by
  refine ⟨by simp [i64s, hl], ?_⟩
  rcases h.2 with ⟨e, _⟩ | ⟨g', cap', cur, e, hb, hh, hn, hm, hs, ht⟩
  · cases e
  · obtain ⟨rfl, rfl⟩ : g = g' ∧ cap = cap' := by simpa using e
    refine Or.inr ⟨g, cap, cur, rfl, hb, hh, by omega, hm, hs, ?_⟩
    have e2 : (cur.toList.take ((n + 1) * 1)).take (n * 1) = (i64s (l ++ [z])).take (n * 1) := by rw [ht]
    rw [List.take_take, Nat.min_eq_left (by omega)] at e2
    rw [e2, i64s_append, List.take_append_of_le_length (by simp [i64s, hl])]
    exact List.take_of_length_le (by simp [i64s, hl])

set_option maxRecDepth 100000 in
set_option maxHeartbeats 4000000 in
theorem called_any (P : List Fn) (hP : codeProg P = 0) (v : Value) (w : World) (ht : TabOk w) (hv : ProgVal w v P) :
    Calls Tryd.prog 43 #[.agg #[v]] w fun e w' => ∃ g c, e = .returned (.slice (some ⟨g, 0, none⟩) P.length P.length) ∧ CalledSpec P c ∧ BoolRow w' g P.length c ∧ w.heap.size ≤ g ∧ Below w.heap.size w w' := by
  obtain ⟨iB, hiB, hzB0, hzB1, hzB2⟩ := info_parts infoBool
  obtain ⟨i64i, hi64, hz0, hz1', hz2⟩ := info_parts info64
  have hp1 := (codeProg_zero hP).1
  have hp4 := (codeProg_zero hP).2.1
  have hCA := fun k (hk : k < P.length) W (hb : Below w.heap.size w W) => calls_any P hP k hk v W (ht.below hb) (hv.keeps (keeps_below hb))
  have HST : Hid (CWork P [0] (List.replicate P.length false)) := cwork_start hp1 hp4
  have HEND : Hid (∀ c, CWork P [] c → CalledSpec P c) := fun c h => cwork_end hP h
  have HNEW : Hid (∀ (W : List Int) (k : Nat) c L (hkl : k < P.length), CWork P (W ++ [(k : Int)]) c → c.getD k false = false → CallsTo P[k] P[k].code.length L → CWork P (W ++ L) (c.set k true) ∧ unseen (c.set k true) * 41 + (W ++ L).length < unseen c * 41 + (W ++ [(k : Int)]).length) :=
    fun W k c L hkl h hu hL => cwork_new hP h hkl hu hL (fnOk_of hP (List.getElem_mem hkl)).1.len2
  have HCL : Hid (∀ (k : Nat) L (hkl : k < P.length), CallsTo P[k] P[k].code.length L → L.length ≤ 40) := fun k L hkl hL => by have h1 := hL.len; have h2 := (fnOk_of hP (List.getElem_mem hkl)).1.len2; omega
  have HCLEN : Hid (∀ W c, CWork P W c → c.length = P.length) := fun W c h => h.len
  obtain ⟨ao, b, off, N, cap, rfl, ⟨hlen, -, -⟩, hcap, hmax⟩ := hv
  unfold maxLen at hmax
  have HN : Hid (P.length = N) := hlen
  rw [hlen] at hp1 hp4 HCLEN HST ⊢
  have HCA : Hid _ := hCA
  clear hCA ht hP hlen
  have hm0 := made_false N
  go_enter Tryd.func43, Tryd.ntmps43
  go_wp2_with (at_make; refine wpList_make_full _ rfl (.tmp 8) (.tmp 8) 77 rfl 0 4 iB _ 1 Tryd.underlying77 hiB hzB0 hzB1 .i64 .i64 _ _ N rfl rfl (by simp) (by simp) (by rw [hzB2]; omega) (by unfold maxLen; omega) (Nat.zero_le _) ?_; intro w1 hown1 hg1; rw [hm0] at hown1; simp only [World.size_alloc] at hown1; have hb1 := below_grown hg1; have k0 := keeps_below hb1 _ _ (way_box w _ _ 0 (.slice ao N cap) rfl))
  have hz1 : w.heap.size + 1 < w1.heap.size := (hown1.lt (w.heap.size + 1) rfl).2
  have HB1 : Hid (Below w.heap.size w w1) := ((Below.refl _ _).alloc (Nat.le_refl _) _).trans (hb1.mono (by simp))
  have HR0 : Hid (BoolRow (w1.alloc (.cells #[.int .i64 0] 3)) (w.heap.size + 1) N (List.replicate N false)) := hown1.alloc _
  have HW0 : Hid ((w1.alloc (.cells #[.int .i64 0] 3)).ownsRow (w.heap.size + 2) 3 1 (.slice (some ⟨w1.heap.size, 0, none⟩) 1 1) 1 (i64s [0])) := World.ownsRow_lit w1 #[.int .i64 0] 1 (by omega) (by unfold maxLen; omega) (by simp)
  clear hown1 hg1 hb1
  go_loopg [4] (unseen (List.replicate N false) * 41 + 1) (fun m v wr => ∃ (W : List Int) (c : List Bool), m = unseen c * 41 + W.length ∧ CWork P W c ∧ BoolRow wr (w.heap.size + 1) N c ∧ wr.ownsRow (w.heap.size + 2) 3 1 v W.length (i64s W) ∧ wr.cell? ⟨w.heap.size, 0, none⟩ = some (.slice ao N cap) ∧ Below w.heap.size w wr)
  case atStart => exact ⟨[0], _, rfl, HST.out, HR0.out, HW0.out, cell_alloc k0 _, HB1.out.alloc (by omega) _⟩
  case round =>
    obtain ⟨W, c, hm, hcw, hrow, hown, hbox, hbr⟩ := hrel
    have hcl := HCLEN.out _ _ hcw
    have hfew := hcw.few
    have HM : Hid (gk = unseen c * 41 + W.length) := hm
    have HBR : Hid (Below w.heap.size w wr) := hbr
    have hzr : w.heap.size + 1 < wr.heap.size := (hrow.lt (w.heap.size + 1) rfl).2
    clear hm hbr
    rcases List.eq_nil_or_concat W with rfl | ⟨W', z, rfl⟩
    · have HSP : Hid (CalledSpec P c) := HEND.out c hcw
      have HRW : Hid (BoolRow wr (w.heap.size + 1) N c) := hrow
      obtain ⟨aov, cpv, rfl⟩ := own_shape hown
      clear hrow hcw hown
      go_wp2
      go_ret
      exact ⟨_, c, rfl, HSP.out, HRW.out, by omega, HBR.out⟩
    · rw [List.concat_eq_append] at *
      obtain ⟨k, rfl, hk, -⟩ := hcw.wait z (by simp)
      have hkN : k < N := by have := HN.out; omega
      have hkI : (k : Int) < N := by omega
      have hlw : (W' ++ [(k : Int)]).length = W'.length + 1 := by simp
      have HCW : Hid (CWork P (W' ++ [(k : Int)]) c) := hcw
      have HLW : Hid ((W' ++ [(k : Int)]).length = W'.length + 1) := hlw
      rw [hlw] at hown hfew
      obtain ⟨g, cp, rfl, hg1, hg2, -, -⟩ := own_at hown (by omega)
      have c1 : wr.cell? ⟨g, W'.length, none⟩ = some (.int .i64 (k : Int)) := by
        have := row_cell hown W'.length (by omega)
        rw [this]; simp [List.getD]
      have HPOP : Hid (wr.ownsRow (w.heap.size + 2) 3 1 (.slice (some ⟨g, 0, none⟩) W'.length cp) W'.length (i64s W')) := row_pop rfl hown
      have hcp : W'.length + 1 ≤ cp ∧ cp ≤ 9223372036854775807 := by
        rcases hown.2 with ⟨e, _⟩ | ⟨g', cap', cur, e, _, _, hn, hm, _⟩
        · cases e
        · obtain ⟨rfl, rfl⟩ : g = g' ∧ cp = cap' := by simpa using e
          exact ⟨hn, by simpa [maxLen] using hm⟩
      obtain ⟨hcp1, hcp2⟩ := hcp
      have c2 := bool_cell hrow hcl k hkN
      have cf := hrow.frozenAt k
      have HSTO := bool_store hrow k true
      have HX1 : Hid (BoolRow (wr.setCell ⟨w.heap.size + 1, k, none⟩ (.bool true)) (w.heap.size + 1) N (c.set k true)) := HSTO.1
      have HX2 : Hid (wr.grownBy (wr.setCell ⟨w.heap.size + 1, k, none⟩ (.bool true)) (some (w.heap.size + 1))) := HSTO.2
      have HROW : Hid (BoolRow wr (w.heap.size + 1) N c) := hrow
      have hWl : W'.length ≤ 200 := by omega
      clear hcw hown hrow HSTO hlw hfew
      cases hc : c.getD k false
      · rw [hc] at c2
        have HX3 : Hid (Below w.heap.size w (wr.setCell ⟨w.heap.size + 1, k, none⟩ (.bool true))) := below_gb HBR.out HX2.out (by omega) (by omega)
        have HPOP2 : Hid ((wr.setCell ⟨w.heap.size + 1, k, none⟩ (.bool true)).ownsRow (w.heap.size + 2) 3 1 (.slice (some ⟨g, 0, none⟩) W'.length cp) W'.length (i64s W')) := HPOP.out.kept HX2.out (Or.inr (by simp [Value.ownBlock]; omega))
        have hca := HCA.out k hk _ HX3.out
        have hbox2 := gb_cell HX2.out hbox (by show w.heap.size ≠ _; omega)
        have HNW : Hid (∀ L, CallsTo P[k] P[k].code.length L → (CWork P (W' ++ L) (c.set k true) ∧ unseen (c.set k true) * 41 + (W' ++ L).length < unseen c * 41 + (W' ++ [(k : Int)]).length) ∧ L.length ≤ 40) := fun L hL => ⟨HNEW.out W' k c L hk HCW.out hc hL, HCL.out k L hk hL⟩
        clear hc
        go_wp2_with (first
          | (go_at_call 66; refine hca.mono ?_; rintro e w2 ⟨v2, L, rfl, hL, hI, hb2⟩; obtain ⟨⟨hcw2, hlt2⟩, hL40⟩ := HNW.out L hL; obtain ⟨ao2, cap2, rfl, hno2, hnews2⟩ := ints_slice hI; have HCW2 : Hid (CWork P (W' ++ L) (c.set k true)) := hcw2; have HLT2 : Hid (unseen (c.set k true) * 41 + (W' ++ L).length < unseen c * 41 + (W' ++ [(k : Int)]).length) := hlt2; have HNO : Hid (ao2 = none → L.length = 0 ∧ cap2 = 0) := hno2; have HNS : Hid (∀ ad, ao2 = some ad → ∀ j u, (i64s L)[j]? = some u → w2.cell? (ad.add j) = some u) := hnews2; have HB2 : Hid (Below (wr.setCell ⟨w.heap.size + 1, k, none⟩ (.bool true)).heap.size (wr.setCell ⟨w.heap.size + 1, k, none⟩ (.bool true)) w2) := hb2; have hz2w : wr.heap.size ≤ w2.heap.size := (by have := hb2.size; simpa using this); have HOWN2 := ownsRow_below HPOP2.out hb2; clear hcw2 hlt2 hno2 hnews2 hL hI hb2)
          | (at_builtin; refine wpList_append_slice rfl (.tmp 33) (.tmp 36) 24 rfl (w.heap.size + 2) 3 i64i _ 1 8 Tryd.underlying24 hi64 hz0 hz1' hz2 rfl (by decide) _ _ _ rfl HOWN2 ao2 L.length cap2 (i64s L) rfl HNO.out (by simp [i64s]) HNS.out (i64s_one _) (by unfold maxLen; omega) (by omega) (by omega) ?_; intro v3 w3 hown3 hg3; rw [← i64s_append, ← List.length_append] at hown3))
        have hg3' : w2.grownBy w3 (some g) := hg3
        have HB3 : Hid (Below w.heap.size w w3) := below_gb (below_call HX3.out (by simp; omega) HB2.out) hg3' (by omega) (by omega)
        have HR3 : Hid (BoolRow w3 (w.heap.size + 1) N (c.set k true)) := (ownsRow_below HX1.out HB2.out).kept hg3' (Or.inr (by simp [Value.ownBlock]; omega))
        have hb3 := gb_cell hg3' (keeps_below HB2.out _ _ hbox2) (by show w.heap.size ≠ _; omega)
        go_roundg (unseen (c.set k true) * 41 + (W' ++ L).length)
        case measure => rw [HM.out]; exact HLT2.out
        case rel => exact ⟨_, _, rfl, HCW2.out, HR3.out, hown3, hb3, HB3.out⟩
      · rw [hc] at c2
        have HOLD : Hid (CWork P W' c) := cwork_old HCW.out hc
        clear hc
        go_wp2
        go_roundg (unseen c * 41 + W'.length)
        case measure => rw [HM.out, HLW.out]; omega
        case rel => exact ⟨W', c, rfl, HOLD.out, HROW.out, HPOP.out, hbox, HBR.out⟩

/-- What a call that answers P5.2 leaves. -/
def CalledPost (P : List Fn) (w : World) (e : Ending) (w' : World) : Prop :=
  (∃ E, (E != 0) = true ∧ e = .returned (.tuple #[.slice none 0 0, .int .i64 E]) ∧ ProofAns P E ∧ Below w.heap.size w w') ∨
  (ProofAns P 0 ∧ ∃ g c, e = .returned (.tuple #[.slice (some ⟨g, 0, none⟩) P.length P.length, .int .i64 0]) ∧ CalledSpec P c ∧ BoolRow w' g P.length c ∧ w.heap.size ≤ g ∧ Below w.heap.size w w')

end Go.Proofs.YtpkgibdbmmhgdaaDoor
