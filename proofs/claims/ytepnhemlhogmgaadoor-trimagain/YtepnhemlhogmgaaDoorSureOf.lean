/- Contract of the document's sureOf: the document's answer to P3.2, for one function. -/
import Derived.Test.YtepnhemlhogmgaaDoorWayAny
namespace Go.Proofs.YtepnhemlhogmgaaDoor
open Go Go.RowKit

/-- Numbers of which so many bits are reckoned, up to a place one more. -/
def Outs (f : Fn) (n r k : Nat) (O : List Int) : Prop := O.length = n ∧ ∀ q, q < n → OutOk f (if q < k then r + 1 else r) q (O.getD q 0)
theorem outs_snoc {f : Fn} {k : Nat} {O : List Int} {v : Int} (h : O.length = k ∧ ∀ q, q < k → OutOk f 0 q (O.getD q 0)) (hv : OutOk f 0 k v) : (O ++ [v]).length = k + 1 ∧ ∀ q, q < k + 1 → OutOk f 0 q ((O ++ [v]).getD q 0) := by
  refine ⟨by simp [h.1], fun q hq => ?_⟩
  rcases Nat.lt_or_ge q k with hlt | hge
  · have e : (O ++ [v]).getD q 0 = O.getD q 0 := by simp [List.getD, List.getElem?_append_left (show q < O.length by omega)]
    rw [e]; exact h.2 q hlt
  · obtain rfl : q = k := by omega
    have e : (O ++ [v]).getD q 0 = v := by simp [List.getD, ← h.1]
    rw [e]; exact hv
theorem outs_set {f : Fn} {n r k : Nat} {O : List Int} {v : Int} (h : Outs f n r k O) (hk : k < n) (hv : OutOk f (r + 1) k v) : Outs f n r (k + 1) (O.set k v) := by
  refine ⟨by simp [h.1], fun q hq => ?_⟩
  have e : (O.set k v).getD q 0 = if q = k then v else O.getD q 0 := by
    rw [List.getD_eq_getElem?_getD, List.getElem?_set, List.getD_eq_getElem?_getD]
    by_cases h' : k = q
    · subst h'; simp [h.1, hk]
    · simp [h', Ne.symm h']
  rw [e]
  by_cases hqk : q = k
  · subst hqk; rw [if_pos rfl, if_pos (by omega)]; exact hv
  · rw [if_neg hqk]
    have := h.2 q hq
    by_cases hlt : q < k
    · rw [if_pos (by omega)]; rw [if_pos hlt] at this; exact this
    · rw [if_neg (by omega)]; rw [if_neg hlt] at this; exact this
theorem outs_same {f : Fn} {n r k : Nat} {O : List Int} (h : Outs f n r k O) (hk : k < n) (hn : Way f 63 k → Way f r k) : Outs f n r (k + 1) O := by
  refine ⟨h.1, fun q hq => ?_⟩
  have := h.2 q hq
  by_cases hqk : q = k
  · subst hqk; rw [if_pos (by omega)]; rw [if_neg (by omega)] at this; exact out_same this hn
  · by_cases hlt : q < k
    · rw [if_pos (by omega)]; rw [if_pos hlt] at this; exact this
    · rw [if_neg (by omega)]; rw [if_neg hlt] at this; exact this
theorem outs_next {f : Fn} {n r : Nat} {O : List Int} (h : Outs f n r n O) : Outs f n (r + 1) 0 O :=
  ⟨h.1, fun q hq => by have := h.2 q hq; rw [if_pos hq] at this; rw [if_neg (by omega)]; exact this⟩

theorem i64s_set (O : List Int) (i : Nat) (v : Int) : (i64s O).set i (.int .i64 v) = i64s (O.set i v) := by simp [i64s, List.map_set]
theorem row_store {w : World} {base g n cap : Nat} {O : List Int} (h : w.ownsRow base 3 1 (.slice (some ⟨g, 0, none⟩) n cap) n (i64s O)) (i : Nat) (v : Int) :
    (w.setCell ⟨g, i, none⟩ (.int .i64 v)).ownsRow base 3 1 (.slice (some ⟨g, 0, none⟩) n cap) n (i64s (O.set i v)) ∧ w.grownBy (w.setCell ⟨g, i, none⟩ (.int .i64 v)) (some g) := by
  have := h.stored i (.int .i64 v)
  rw [i64s_set] at this
  exact this
theorem row_cell {w : World} {base g n cap : Nat} {O : List Int} (h : w.ownsRow base 3 1 (.slice (some ⟨g, 0, none⟩) n cap) n (i64s O)) (i : Nat) (hi : i < n) : w.cell? ⟨g, i, none⟩ = some (.int .i64 (O.getD i 0)) := by
  rw [h.cellAt i (by omega)]
  have hl : O.length = n := by have := h.1; simp [i64s] at this; omega
  simp [i64s, List.getD, show i < O.length by omega]
theorem own_at {w : World} {base t size n : Nat} {v : Value} {xs : List Value} (h : w.ownsRow base t size v n xs) (hn : 0 < n) : ∃ g cap, v = .slice (some ⟨g, 0, none⟩) n cap ∧ base ≤ g ∧ g < w.heap.size ∧ cap ≤ maxLen ∧ n ≤ cap := by
  rcases h.2 with ⟨_, h0⟩ | ⟨g, cap, cur, rfl, hb, hg, hn, hm, _⟩
  · omega
  · exact ⟨g, cap, rfl, hb, lt_of_block hg, hm, hn⟩

set_option maxRecDepth 100000 in
set_option maxHeartbeats 4000000 in
theorem sureOf_any (P : List Fn) (f : Fn) (hf : FnOk f) (hins : ∀ x ∈ f.code, InsOk P x ∧ (x.op = 15 ∨ x.op = 16 → 0 ≤ x.imm)) (cv : Value) (w : World) (hcv : CodeVal w cv f.code) :
    Calls Tryd.prog 50 #[.agg #[.int .i64 f.params, .int .i64 f.regs, cv]] w
      fun e w' => ∃ v' L, e = .returned v' ∧ SureSpec f L ∧ IntsVal w' v' L ∧ Below w.heap.size w w' := by
  obtain ⟨i64i, hi64, hz0, hz1', hz2⟩ := info_parts info64
  have hl1 := hf.len1
  have hl2 := hf.len2
  have hW := fun r rn W a b => wayTo_any P f hf hins cv r rn W a b
  have HCV : Hid (CodeVal w cv f.code) := hcv
  obtain ⟨ao, b, off, n, cap, rfl, ⟨hlen, haddr, hat⟩, hcap, hmax⟩ := hcv
  obtain rfl := haddr (by omega)
  subst hlen
  have HSP : Hid (∀ O, Outs f (f.code.length + 1) 12 0 O → SureSpec f O) := fun O h => spec_of_out h.1 fun q hq => by have := h.2 q hq; rw [if_neg (by omega)] at this; exact this
  have HSE : Hid (∀ rn s, SeenSpec f rn s → s.length = f.code.length + 1 ∧ ∀ q, s.getD q false = true ↔ Way f rn q) := fun _ _ h => h
  clear hat hins haddr hf
  generalize f.code = fc at *
  generalize hN : fc.length = n at *
  clear hN
  unfold maxLen at hmax
  generalize f.params = fp at *
  generalize f.regs = fr at *
  have hcb : ∀ o, CodeVal (w.alloc o) (.slice (some ⟨b, off, none⟩) n cap) fc := fun o => HCV.out.keeps (keeps_below ((Below.refl _ _).alloc (Nat.le_refl _) _))
  go_enter Tryd.func50, Tryd.ntmps50
  go_wp2_with (go_at_call 30; refine (hW (-1) 63 _ (hcb _) (Or.inl ⟨rfl, rfl⟩)).mono ?_; rintro e w1 ⟨s, rfl, hseen, hrow1, hb1⟩; simp only [World.size_alloc] at hrow1; have k0 := keeps_below hb1 _ _ (way_box w _ _ 0 (.int .i64 fp) rfl); have k1 := keeps_below hb1 _ _ (way_box w _ _ 1 (.int .i64 fr) rfl); have k2 := keeps_below hb1 _ _ (way_box w _ _ 2 (.slice (some ⟨b, off, none⟩) n cap) rfl))
  have hz1 : w.heap.size + 1 + 1 < w1.heap.size := (hrow1.lt (w.heap.size + 1 + 1) rfl).2
  have HB1 : Hid (Below w.heap.size w w1) := ((Below.refl _ _).alloc (Nat.le_refl _) _).trans (hb1.mono (by simp))
  have HS63 := HSE.out _ _ hseen
  have hsl := HS63.1
  have HW63 : Hid (∀ q, s.getD q false = true ↔ Way f 63 q) := HS63.2
  have HROW1 : Hid (BoolRow w1 (w.heap.size + 1 + 1) (n + 1) s) := hrow1
  clear HS63 hseen hb1 hrow1
  go_loopw [4, 5] (fun v i wr => ∃ (k : Nat) (O : List Int), k ≤ n + 1 ∧ i = .int .i64 k ∧ (O.length = k ∧ ∀ q, q < k → OutOk f 0 q (O.getD q 0)) ∧ wr.ownsRow w1.heap.size 3 1 v k (i64s O) ∧ Below w1.heap.size w1 wr) (fun _ i _ => n + 1 - (intOf i).toNat)
  case atStart => exact ⟨0, [], Nat.zero_le _, rfl, ⟨rfl, fun q h => by omega⟩, World.ownsRow_nil _ _ _ _, Below.refl _ _⟩
  case round =>
    rename World => wa
    obtain ⟨k, O, hk, rfl, hO, hown, hba⟩ := hrel
    have j0 := keeps_below hba _ _ k0
    have j1 := keeps_below hba _ _ k1
    have j2 := keeps_below hba _ _ k2
    have hza : w1.heap.size ≤ wa.heap.size := hba.size
    have HOUT : Hid (O.length = k ∧ ∀ q, q < k → OutOk f 0 q (O.getD q 0)) := hO
    have HBA : Hid (Below w1.heap.size w1 wa) := hba
    by_cases hlt : k ≤ n
    · have cr := fun o => cell_alloc (keeps_below hba _ _ (bool_cell HROW1.out hsl k (by omega))) o
      have crr := bool_cell HROW1.out hsl k (by omega)
      obtain ⟨aov, capv, rfl⟩ := own_shape hown
      have hkI : (k : Int) ≤ n := by omega
      have hkI2 : (k : Int) < n + 1 := by omega
      have HSB : Hid (s.getD k false = true ↔ Way f 63 k) := HW63.out k
      generalize s.getD k false = sb at crr cr HSB
      clear hba hO
      cases sb
      · have HV : Hid (OutOk f 0 k (-1)) := out_zero_no (fun h => by have := HSB.out.2 h; cases this)
        go_wp2_with (at_builtin; refine wpList_append_own _ rfl (.tmp 19) (.tmp 20) 25 rfl w1.heap.size 3 i64i _ 1 8 Tryd.underlying25 hi64 hz0 hz1' hz2 rfl (by decide) _ _ _ rfl (hown.alloc _) ⟨_, 0, none⟩ 1 1 (i64s [-1]) rfl rfl (news_list _ _ _ _ rfl) (i64s_one _) (by unfold maxLen; omega) (by omega) (by simp; omega) ?_; intro v2 w2 hown2 hg2 _; rw [← i64s_append] at hown2; obtain ⟨g2, cap2, rfl, hgb, hgl, hm2, hn2⟩ := own_at hown2 (by omega); have hb2 : Below w1.heap.size w1 w2 := (HBA.out.alloc (by omega) _).trans (grown_base (hown.alloc _) (by simp; omega) hg2); have q0 := keeps_below hb2 _ _ k0; have q1 := keeps_below hb2 _ _ k1; have q2 := keeps_below hb2 _ _ k2; have qr := keeps_below hb2 _ _ crr; have c2 := row_cell hown2 k (by omega); have f2 := hown2.frozenAt k)
        go_roundw
        case rel => exact ⟨k + 1, O ++ [-1], by omega, by go_num, outs_snoc HOUT.out HV.out, hown2, hb2⟩
        case measure => simp [intOf]; omega
      · have HV : Hid (OutOk f 0 k 0) := out_zero_yes (HSB.out.1 rfl)
        go_wp2_with (at_builtin; refine wpList_append_own _ rfl (.tmp 19) (.tmp 20) 25 rfl w1.heap.size 3 i64i _ 1 8 Tryd.underlying25 hi64 hz0 hz1' hz2 rfl (by decide) _ _ _ rfl (hown.alloc _) ⟨_, 0, none⟩ 1 1 (i64s [-1]) rfl rfl (news_list _ _ _ _ rfl) (i64s_one _) (by unfold maxLen; omega) (by omega) (by simp; omega) ?_; intro v2 w2 hown2 hg2 _; rw [← i64s_append] at hown2; obtain ⟨g2, cap2, rfl, hgb, hgl, hm2, hn2⟩ := own_at hown2 (by omega); have hb2 : Below w1.heap.size w1 w2 := (HBA.out.alloc (by omega) _).trans (grown_base (hown.alloc _) (by simp; omega) hg2); have q0 := keeps_below hb2 _ _ k0; have q1 := keeps_below hb2 _ _ k1; have q2 := keeps_below hb2 _ _ k2; have qr := keeps_below hb2 _ _ crr; have c2 := row_cell hown2 k (by omega); have f2 := hown2.frozenAt k)
        have HST := row_store hown2 k 0
        have HOL := HOUT.out.1
        have HSE2 : (O ++ [-1]).set k 0 = O ++ [0] := by rw [List.set_append_right _ _ (by omega)]; simp [HOL]
        rw [HSE2] at HST
        have HB3 := below_gb hb2 HST.2 hgb (by omega)
        go_roundw
        case rel => exact ⟨k + 1, O ++ [0], by omega, by go_num, outs_snoc HOUT.out HV.out, HST.1, HB3⟩
        case measure => simp [intOf]; omega
    · obtain rfl : k = n + 1 := by omega
      rw [show (((n + 1 : Nat)) : Int) = (n : Int) + 1 by omega]
      obtain ⟨g, capg, rfl, hgb, hgl, hmg, hng⟩ := own_at hown (by omega)
      have HO0 : Hid (Outs f (n + 1) 0 0 O) := ⟨hO.1, fun q hq => by rw [if_neg (by omega)]; exact hO.2 q hq⟩
      have HOWN : Hid (wa.ownsRow w1.heap.size 3 1 (.slice (some ⟨g, 0, none⟩) (n + 1) capg) (n + 1) (i64s O)) := hown
      unfold maxLen at hmg
      clear hO hba hown HOUT
      go_wp2
      go_loopw [6, 7] (fun pw i wr => ∃ (r : Nat) (O' : List Int), r ≤ 12 ∧ i = .int .i64 r ∧ pw = .int .i64 ((2 ^ r : Nat) : Int) ∧ Outs f (n + 1) r 0 O' ∧ wr.ownsRow w1.heap.size 3 1 (.slice (some ⟨g, 0, none⟩) (n + 1) capg) (n + 1) (i64s O') ∧ Below w1.heap.size w1 wr) (fun _ i _ => 12 - (intOf i).toNat)
      case atStart => exact ⟨0, O, by omega, rfl, rfl, HO0.out, HOWN.out, HBA.out⟩
      case round =>
        rename World => wb
        obtain ⟨r, O', hr, rfl, rfl, hO', hown', hbb⟩ := hrel
        have l0 := keeps_below hbb _ _ k0
        have l1 := keeps_below hbb _ _ k1
        have l2 := keeps_below hbb _ _ k2
        have hzb : w1.heap.size ≤ wb.heap.size := hbb.size
        have HBW : Hid (Below w.heap.size w wb) := HB1.out.trans (hbb.mono (by omega))
        by_cases hr12 : r < 12
        · have hgo := hW r r wb (HCV.out.keeps (keeps_below HBW.out)) (Or.inr ⟨rfl, hr12⟩)
          have HP2 : Hid (((2 ^ r : Nat) : Int) * 2 = ((2 ^ (r + 1) : Nat) : Int)) := by show _ = _; rw [Nat.pow_succ]; omega
          have hpl := two_lt r hr12
          have HPP : Hid ((2 ^ r : Nat) = 2 ^ r) := rfl
          generalize hpw : (2 ^ r : Nat) = pw at HP2 hpl HPP
          have HPW : Hid ((2 ^ r : Nat) = pw) := hpw
          have HOO : Hid (Outs f (n + 1) r 0 O') := hO'
          have HOW : Hid (wb.ownsRow w1.heap.size 3 1 (.slice (some ⟨g, 0, none⟩) (n + 1) capg) (n + 1) (i64s O')) := hown'
          have HBB : Hid (Below w1.heap.size w1 wb) := hbb
          clear hpw HPP hO' hown' hbb
          go_wp2_with (go_at_call 30; refine hgo.mono ?_; rintro e w2 ⟨s2, rfl, hseen2, hrow2, hb2⟩)
          have hz2 : wb.heap.size + 1 < w2.heap.size := (hrow2.lt (wb.heap.size + 1) rfl).2
          have HS2 := HSE.out _ _ hseen2
          have hsl2 := HS2.1
          have HWR : Hid (∀ q, s2.getD q false = true ↔ Way f r q) := HS2.2
          have HROW2 : Hid (BoolRow w2 (wb.heap.size + 1) (n + 1) s2) := hrow2
          have HOW2 : Hid (w2.ownsRow w1.heap.size 3 1 (.slice (some ⟨g, 0, none⟩) (n + 1) capg) (n + 1) (i64s O')) := ownsRow_below HOW.out hb2
          have hgwb : g < wb.heap.size := (HOW.out.lt g rfl).2
          have HB2 : Hid (Below w1.heap.size w1 w2) := below_call HBB.out hzb hb2
          have m2 := keeps_below hb2 _ _ l2
          clear HS2 hseen2 hrow2 hb2 hgo
          go_loopw [9] (fun i wr => ∃ (q : Nat) (O2 : List Int), q ≤ n + 1 ∧ i = .int .i64 q ∧ Outs f (n + 1) r q O2 ∧ wr.ownsRow w1.heap.size 3 1 (.slice (some ⟨g, 0, none⟩) (n + 1) capg) (n + 1) (i64s O2) ∧ w2.grownBy wr (some g)) (fun i _ => n + 1 - (intOf i).toNat)
          case atStart => exact ⟨0, O', Nat.zero_le _, rfl, HOO.out, HOW2.out, gb_refl _ _⟩
          case round =>
            obtain ⟨q, O2, hq, rfl, hO2, hown2, hgr⟩ := hrel
            have n2 := gb_cell hgr m2 (by show w.heap.size ≠ _; omega)
            have HBC : Hid (Below w1.heap.size w1 wr) := below_gb HB2.out hgr hgb (by omega)
            by_cases hqn : q ≤ n
            · have hqI : (q : Int) ≤ n := by omega
              have hqI2 : (q : Int) < n + 1 := by omega
              have cr := keeps_below HBC.out _ _ (bool_cell HROW1.out hsl q (by omega))
              have cu := gb_cell hgr (bool_cell HROW2.out hsl2 q (by omega)) (by show wb.heap.size + 1 ≠ _; omega)
              have co := row_cell hown2 q (by omega)
              have cf := hown2.frozenAt q
              have HA : Hid (s.getD q false = true ↔ Way f 63 q) := HW63.out q
              have HU : Hid (s2.getD q false = true ↔ Way f r q) := HWR.out q
              have hOq := hO2.2 q (by omega)
              rw [if_neg (by omega)] at hOq
              have HOQ : Hid (OutOk f r q (O2.getD q 0)) := hOq
              have HO2 : Hid (Outs f (n + 1) r q O2) := hO2
              have HOW3 : Hid (wr.ownsRow w1.heap.size 3 1 (.slice (some ⟨g, 0, none⟩) (n + 1) capg) (n + 1) (i64s O2)) := hown2
              have HGR : Hid (w2.grownBy wr (some g)) := hgr
              have HSTO : Hid (∀ v, (wr.setCell ⟨g, q, none⟩ (.int .i64 v)).ownsRow w1.heap.size 3 1 (.slice (some ⟨g, 0, none⟩) (n + 1) capg) (n + 1) (i64s (O2.set q v)) ∧ wr.grownBy (wr.setCell ⟨g, q, none⟩ (.int .i64 v)) (some g)) := fun v => row_store hown2 q v
              generalize s.getD q false = sa at cr HA
              generalize s2.getD q false = su at cu HU
              generalize O2.getD q 0 = ov at co HOQ
              clear hOq hO2 hown2 hgr
              cases sa
              · have HN : Hid (Outs f (n + 1) r (q + 1) O2) := outs_same HO2.out (by omega) (fun h => by have := HA.out.2 h; cases this)
                go_wp2
                go_roundw
                case rel => exact ⟨q + 1, O2, by omega, by go_num, HN.out, HOW3.out, HGR.out⟩
                case measure => simp [intOf]; omega
              · cases su
                · have HAD := out_add HOQ.out hr12 (HA.out.1 rfl) (fun h => by have := HU.out.2 h; cases this)
                  rw [HPW.out] at HAD
                  obtain ⟨hadd, v0, v1⟩ := HAD
                  have HN : Hid (Outs f (n + 1) r (q + 1) (O2.set q (ov + pw))) := outs_set HO2.out (by omega) hadd
                  have HSV := HSTO.out (ov + pw)
                  have HX1 : Hid _ := HSV.1
                  have HX2 : Hid _ := gb_trans HGR.out HSV.2
                  clear hadd HSV
                  go_wp2
                  go_roundw
                  case rel => exact ⟨q + 1, O2.set q (ov + pw), by omega, by go_num, HN.out, HX1.out, HX2.out⟩
                  case measure => simp [intOf]; omega
                · have HN : Hid (Outs f (n + 1) r (q + 1) O2) := outs_same HO2.out (by omega) (fun _ => HU.out.1 rfl)
                  go_wp2
                  go_roundw
                  case rel => exact ⟨q + 1, O2, by omega, by go_num, HN.out, HOW3.out, HGR.out⟩
                  case measure => simp [intOf]; omega
            · obtain rfl : q = n + 1 := by omega
              have HN : Hid (Outs f (n + 1) (r + 1) 0 O2) := outs_next hO2
              have HOW3 : Hid (wr.ownsRow w1.heap.size 3 1 (.slice (some ⟨g, 0, none⟩) (n + 1) capg) (n + 1) (i64s O2)) := hown2
              clear hO2 hown2 hgr
              go_wp2
              go_roundw
              case rel => exact ⟨r + 1, O2, by omega, by go_num, by rw [← HP2.out], HN.out, HOW3.out, HBC.out⟩
              case measure => simp [intOf]; omega
        · obtain rfl : r = 12 := by omega
          have HFIN : Hid (SureSpec f O') := HSP.out O' hO'
          have HIV : Hid (IntsVal wb (.slice (some ⟨g, 0, none⟩) (n + 1) capg) O') := by
            have hl : O'.length = n + 1 := hO'.1
            have := hown'
            rw [← hl] at this ⊢
            exact ints_of_own this
          clear hO' hown' hbb
          go_wp2
          go_ret
          exact ⟨_, O', rfl, HFIN.out, HIV.out, HBW.out⟩

end Go.Proofs.YtepnhemlhogmgaaDoor
