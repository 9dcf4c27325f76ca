import Derived.Test.YtldbmdgpdolaaaaDoorPXSortLay
import Derived.Test.YtldbmdgpdolaaaaDoorPXPlaceWalk
import Derived.Test.YtldbmdgpdolaaaaDoorPXSsaCount
namespace Go.Proofs.YtldbmdgpdolaaaaDoor
open Go Go.RowKit

theorem infoRowsP : (Tryd.prog.info? 37).map (fun i => (i.zero, i.size, i.bytes)) = some (some (.slice none 0 0), 1, 24) := by kernel_rfl
theorem made_nilsP (N : Nat) : (madeCells (Value.slice none 0 0).cells (N * 1)).toList = gC (fun _ => [Value.slice none 0 0]) N := by
  refine gC_ext (s := 1) (fun _ _ => rfl) (by simp [madeCells]) fun i c hi hc => ?_
  obtain rfl : c = 0 := by omega
  simp [madeCells, Value.cells, hi, Nat.mod_one]
theorem PartsAt.cells15R {w : World} {base g n : Nat} {D : PDat} {L : PLay} (h : PartsAt w base g n D L) {b : Nat} (hb : b < n) : ∃ x0 x1 x2 x3 x4 x5 x6 x7 x8 x9 x10 x11 : Int, D.rg b = [x0, x1, x2, x3, x4, x5, x6, x7, x8, x9, x10, x11] ∧
    w.rangeAt g (b * 15) [.int .i64 (D.bk b), L.vp b, L.vi b, .int .i64 x0, .int .i64 x1, .int .i64 x2, .int .i64 x3, .int .i64 x4, .int .i64 x5, .int .i64 x6, .int .i64 x7, .int .i64 x8, .int .i64 x9, .int .i64 x10, .int .i64 x11] := by
  have hr := h.rlen b hb
  have hc := fun c hc => h.cell hb (c := c) hc
  have hp : pC D L b = [.int .i64 (D.bk b), L.vp b, L.vi b] ++ i64s (D.rg b) := rfl
  rcases hrg : D.rg b with _ | ⟨x0, _ | ⟨x1, _ | ⟨x2, _ | ⟨x3, _ | ⟨x4, _ | ⟨x5, _ | ⟨x6, _ | ⟨x7, _ | ⟨x8, _ | ⟨x9, _ | ⟨x10, _ | ⟨x11, _ | ⟨x12, t⟩⟩⟩⟩⟩⟩⟩⟩⟩⟩⟩⟩⟩ <;> rw [hrg] at hr <;> simp at hr
  refine ⟨x0, x1, x2, x3, x4, x5, x6, x7, x8, x9, x10, x11, rfl, fun j v hv => ?_⟩
  have hj : j < 15 := by simpa using (List.getElem?_eq_some_iff.1 hv).1
  rw [hc j hj, hp, hrg]
  exact hv
def clT (f : Fn) (L : List Int) (D : PDat) : Nat → (Nat → List Int)
  | 0 => fun _ => []
  | b + 1 => metT f L (D.ins b) (D.rg b) (clT f L D b) (D.ins b).length
def srtT (M : Nat → List Int) (q : Nat) : Nat → List Int := fun v => if v < q then sortC (M v) else M v
theorem clT_len (f : Fn) (L : List Int) (D : PDat) (s : Nat) : ∀ b, (∀ i, i < b → (D.ins i).length ≤ 40) → (clT f L D b s).length ≤ 23040 * b
  | 0, _ => by simp [clT]
  | b + 1, h => by
    have h1 := clT_len f L D s b fun i hi => h i (by omega)
    have h2 := metT_len f L (D.ins b) (D.rg b) (clT f L D b) s (D.ins b).length
    have h3 := h b (by omega)
    rw [clT]; omega
theorem srtT_upd (M : Nat → List Int) (q : Nat) : upd (srtT M q) q (sortC (M q)) = srtT M (q + 1) := by
  funext v
  unfold upd srtT
  by_cases h : v = q
  · subst h; rw [if_pos rfl, if_pos (by omega)]
  · rw [if_neg h]
    by_cases h2 : v < q
    · rw [if_pos h2, if_pos (by omega)]
    · rw [if_neg h2, if_neg (by omega)]
set_option maxRecDepth 100000 in
set_option maxHeartbeats 4000000 in
theorem clashes_any (f : Fn) (L : List Int) (n k pn gp base : Nat) (D : PDat) (Ly : PLay) (cv lv : Value) (w : World) (hpa : PartsAt w base gp k D Ly) (hcv : CodeVal w cv f.code) (hlv : IntsVal w lv L) (hc0 : 0 < f.code.length) (hc1 : f.code.length ≤ 1000) (hLl : L.length = f.code.length)
    (hok : ∀ b, b < k → WalkOk f L n (D.ins b) (D.rg b)) (hx : ∀ b, b < k → (D.ins b).length ≤ 40) (hk : k ≤ 40) (hn : n ≤ 3000) :
    Calls Tryd.prog 14 #[.agg #[.int .i64 (pn : Int), .int .i64 (n : Int), .slice (some ⟨gp, 0, none⟩) k k], cv, lv] w fun e w' => ∃ g VV, e = .returned (.slice (some ⟨g, 0, none⟩) n n) ∧ MtAt w' w.heap.size g n VV (fun v => if v < n then sortC (clT f L D k v) else []) ∧ Below w.heap.size w w' := by
  obtain ⟨iI, hiI, hzI0, hzI1, hzI2⟩ := info_parts infoRowsP
  have hm0 := made_nilsP n
  obtain ⟨ao2, b2, off2, n2, cap2, rfl, ⟨hlen2, haddr2, hat2⟩, hcap2, hmx2⟩ := hcv
  obtain rfl := haddr2 (by omega)
  obtain ⟨aoL, lb, lo, nL, capL, rfl, hnL, haL, hcL, hcpL⟩ := ints_get hlv
  obtain rfl := haL (by omega)
  have HPA : Hid (PartsAt w base gp k D Ly) := hpa
  have HCV : Hid (∃ cb co cc, Value.slice (some ⟨b2, off2, none⟩) n2 cap2 = .slice (some ⟨cb, co, none⟩) f.code.length cc ∧ ∀ W, Below w.heap.size w W → ∀ q, q < f.code.length → W.cell? ⟨cb, co + q * 5 + 1, none⟩ = some (.int .i64 (insD f q).dst)) := ⟨b2, off2, cap2, by rw [hlen2], fun W hW q hq => by
    have h := ((hat2 q hq).keeps (keeps_below hW)).2.1
    rw [insD_eq hq]; exact h⟩
  have HLV : Hid (∃ lb' lo' lc, Value.slice (some ⟨lb, lo, none⟩) nL capL = .slice (some ⟨lb', lo', none⟩) L.length lc ∧ ∀ W, Below w.heap.size w W → ∀ q, q < L.length → W.cell? ⟨lb', lo' + q, none⟩ = some (.int .i64 (L.getD q 0))) := ⟨lb, lo, capL, by rw [hnL], fun W hW q hq => keeps_below hW _ _ (hcL q (by omega))⟩
  have HOK : Hid (∀ b, b < k → WalkOk f L n (D.ins b) (D.rg b)) := hok
  have HX : Hid (∀ b, b < k → (D.ins b).length ≤ 40) := hx
  have HLN : Hid (∀ b, b ≤ k → ∀ s, (clT f L D b s).length ≤ 921600) := fun b hb s => by
    have := clT_len f L D s b fun i hi => hx i (by omega)
    show _ ≤ _
    omega
  have HIN : Hid (∀ W, Below w.heap.size w W → ∀ b, b < k → ∃ (ao : Option Addr) (q c : Nat), Ly.vi b = .slice ao (D.ins b).length c ∧ (D.ins b).length ≤ c ∧ (0 < (D.ins b).length → ao = some ⟨q, 0, none⟩) ∧ ∀ W, Below w.heap.size w W → ∀ j (hj : j < (D.ins b).length), W.rangeAt q (j * 6) (inC (D.ins b)[j])) := fun W hW b hb => hpa.inss hb
  clear hpa hok hx hat2 haddr2 hcL hcpL haL hcap2
  go_enter Tryd.func14, Tryd.ntmps14
  go_upto_region 1 with fail
  have k1 : (w.alloc (.cells #[.int .i64 (pn : Int), .int .i64 (n : Int), .slice (some ⟨gp, 0, none⟩) k k] 34)).cell? ⟨w.heap.size, 1, none⟩ = some (.int .i64 (n : Int)) := way_box w _ _ 1 _ rfl
  have k2 : (w.alloc (.cells #[.int .i64 (pn : Int), .int .i64 (n : Int), .slice (some ⟨gp, 0, none⟩) k k] 34)).cell? ⟨w.heap.size, 2, none⟩ = some (.slice (some ⟨gp, 0, none⟩) k k) := way_box w _ _ 2 _ rfl
  have HB0 : Hid (Below w.heap.size w (w.alloc (.cells #[.int .i64 (pn : Int), .int .i64 (n : Int), .slice (some ⟨gp, 0, none⟩) k k] 34))) := (Below.refl _ _).alloc (Nat.le_refl _) _
  have hz0 : w.heap.size ≤ (w.alloc (.cells #[.int .i64 (pn : Int), .int .i64 (n : Int), .slice (some ⟨gp, 0, none⟩) k k] 34)).heap.size := by simp
  generalize (w.alloc (.cells #[.int .i64 (pn : Int), .int .i64 (n : Int), .slice (some ⟨gp, 0, none⟩) k k] 34)) = W0 at *
  go_upto_region 2 with (at_make; refine wpList_make_full _ rfl (.tmp 13) (.tmp 13) 69 rfl w.heap.size 37 iI _ 1 Tryd.underlying69 hiI hzI0 hzI1 .i64 .i64 _ _ n rfl rfl (by simp) (by simp) (by rw [hzI2]; omega) (by unfold maxLen; omega) hz0 ?_; intro w1 hown1 hg1; rw [hm0] at hown1; have hb1 := below_grown hg1; have k21 := keeps_below hb1 _ _ k2)
  have HB1 : Hid (Below w.heap.size w w1) := HB0.out.trans (hb1.mono hz0)
  have HR1 : Hid (MtAt w1 w.heap.size W0.heap.size n (fun _ => .slice none 0 0) (clT f L D 0)) := ⟨hown1, Slots.nils _ _ _⟩
  have HG1 : Hid (w.heap.size ≤ W0.heap.size) := hz0
  clear k1 k2 hown1 hg1 hb1 HB0 hz0 hm0
  generalize W0.heap.size = g at *
  go_upto_region 3 with fail
  clear k21
  go_loopw [18] (fun i wr => ∃ (b : Nat) (V' : Nat → Value), b ≤ k ∧ i = .int .i64 b ∧ MtAt wr w.heap.size g n V' (clT f L D b) ∧ Below w.heap.size w wr) (fun i _ => k - (intOf i).toNat)
  case atStart => exact ⟨0, _, Nat.zero_le _, rfl, HR1.out, HB1.out⟩
  case round =>
    clear HB1 HR1
    obtain ⟨b, V', hb, rfl, hmt, hbr⟩ := hrel
    have HMO : Hid (MtAt wr w.heap.size g n V' (clT f L D b)) := hmt
    have HBR : Hid (Below w.heap.size w wr) := hbr
    by_cases hlt : b < k
    · have hbI : (b : Int) < (k : Int) := by omega
      obtain ⟨x0, x1, x2, x3, x4, x5, x6, x7, x8, x9, x10, x11, hrg, hr15⟩ := (HPA.out.below hbr).cells15R hlt
      have hin := HIN.out wr hbr b hlt
      have hwok := HOK.out b hlt
      have hx40 := HX.out b hlt
      have HCL : Hid (clT f L D (b + 1) = metT f L (D.ins b) (D.rg b) (clT f L D b) (D.ins b).length) := rfl
      have HLB : Hid (∀ s, (clT f L D b s).length ≤ 921600) := HLN.out b hb
      obtain ⟨aoP, cP, eP⟩ := own_shape (HPA.out.phis.own b hlt)
      obtain ⟨aoI, qI, cI, eI, hi1, hi2, hi3⟩ := hin
      rw [eP, eI] at hr15
      rw [hrg] at hwok HCL
      have HWK : Hid (∀ W V, Below w.heap.size w W → MtAt W w.heap.size g n V (clT f L D b) → Calls Tryd.prog 24 #[.slice (some ⟨g, 0, none⟩) n n, .agg #[.int .i64 (D.bk b), .slice aoP (D.ph b).length cP, .slice aoI (D.ins b).length cI, .int .i64 x0, .int .i64 x1, .int .i64 x2, .int .i64 x3, .int .i64 x4, .int .i64 x5, .int .i64 x6, .int .i64 x7, .int .i64 x8, .int .i64 x9, .int .i64 x10, .int .i64 x11], .slice (some ⟨b2, off2, none⟩) n2 cap2, .slice (some ⟨lb, lo, none⟩) nL capL] W fun e w' => e = .returned (.tuple #[]) ∧ ∃ VV', MtAt w' w.heap.size g n VV' (clT f L D (b + 1)) ∧ Below w.heap.size W w') := fun W V hW hM => by
        have hW2 : ∀ W', Below w.heap.size W W' → Below w.heap.size w W' := fun W' h => hW.trans h
        have h := walkP_any w.heap.size g n V (clT f L D b) f L (D.ins b) [x0, x1, x2, x3, x4, x5, x6, x7, x8, x9, x10, x11] (D.bk b) (.slice aoP (D.ph b).length cP) (.slice aoI (D.ins b).length cI) (.slice (some ⟨b2, off2, none⟩) n2 cap2) (.slice (some ⟨lb, lo, none⟩) nL capL) W hM
          ⟨aoI, qI, cI, rfl, hi1, hi2, fun W' hW' => hi3 W' (hW2 W' hW')⟩
          (by obtain ⟨cb, co, cc, e, h⟩ := HCV.out; exact ⟨cb, co, cc, e, fun W' hW' => h W' (hW2 W' hW')⟩)
          (by obtain ⟨cb, co, cc, e, h⟩ := HLV.out; exact ⟨cb, co, cc, e, fun W' hW' => h W' (hW2 W' hW')⟩)
          hwok hn (by omega) hc1 (by omega) (fun s _ => by have := HLB.out s; omega)
        refine h.mono fun e w' hq => ⟨hq.1, ?_⟩
        obtain ⟨-, VV', h1, h2⟩ := hq
        exact ⟨VV', by rw [HCL.out]; exact h1, h2.bel⟩
      clear hmt hbr hi1 hi2 hi3 hwok hrg eP eI hx40
      go_upto_region 5 with (refine wpList_load_mid rfl 74 _ rfl gp (b * 15) rfl _ _ hr15 Tryd.underlying74 rfl infoPart ?_)
      have r9 : (wr.alloc (.cells #[.int .i64 (D.bk b), .slice aoP (D.ph b).length cP, .slice aoI (D.ins b).length cI, .int .i64 x0, .int .i64 x1, .int .i64 x2, .int .i64 x3, .int .i64 x4, .int .i64 x5, .int .i64 x6, .int .i64 x7, .int .i64 x8, .int .i64 x9, .int .i64 x10, .int .i64 x11] 74)).heap[wr.heap.size]? = some (.cells #[.int .i64 (D.bk b), .slice aoP (D.ph b).length cP, .slice aoI (D.ins b).length cI, .int .i64 x0, .int .i64 x1, .int .i64 x2, .int .i64 x3, .int .i64 x4, .int .i64 x5, .int .i64 x6, .int .i64 x7, .int .i64 x8, .int .i64 x9, .int .i64 x10, .int .i64 x11] 74 (0, 0)) := heap_alloc_last wr _
      have HBV : Hid (Below wr.heap.size wr (wr.alloc (.cells #[.int .i64 (D.bk b), .slice aoP (D.ph b).length cP, .slice aoI (D.ins b).length cI, .int .i64 x0, .int .i64 x1, .int .i64 x2, .int .i64 x3, .int .i64 x4, .int .i64 x5, .int .i64 x6, .int .i64 x7, .int .i64 x8, .int .i64 x9, .int .i64 x10, .int .i64 x11] 74))) := (Below.refl _ _).alloc (Nat.le_refl _) _
      generalize (wr.alloc (.cells #[.int .i64 (D.bk b), .slice aoP (D.ph b).length cP, .slice aoI (D.ins b).length cI, .int .i64 x0, .int .i64 x1, .int .i64 x2, .int .i64 x3, .int .i64 x4, .int .i64 x5, .int .i64 x6, .int .i64 x7, .int .i64 x8, .int .i64 x9, .int .i64 x10, .int .i64 x11] 74)) = V9 at *
      have HBW : Hid (Below w.heap.size w V9) := HBR.out.trans (HBV.out.mono HBR.out.size)
      have hwk := HWK.out V9 V' HBW.out (HMO.out.below HBV.out)
      clear hr15 HMO HBR HBV HWK HCL
      go_wp2_with (first
        | (refine wpList_load_row rfl 74 _ rfl _ rfl _ _ _ _ r9 Tryd.underlying74 rfl infoPart ?_)
        | (go_at_call 24; refine hwk.mono ?_; rintro e w10 ⟨rfl, V10, hm10, hb10⟩))
      go_roundw
      case rel => exact ⟨b + 1, V10, by omega, by go_num, hm10, HBW.out.trans hb10⟩
      case measure => simp [intOf]; omega
    · obtain rfl : k = b := by omega
      have HM2 : Hid (MtAt wr w.heap.size g n V' (srtT (clT f L D k) 0)) := by
        have : srtT (clT f L D k) 0 = clT f L D k := by funext v; simp [srtT]
        show MtAt _ _ _ _ _ _
        rw [this]; exact hmt
      have HLK : Hid (∀ s, (clT f L D k s).length ≤ 921600) := HLN.out k (Nat.le_refl _)
      clear hmt hbr hlt HLN
      generalize hMM : clT f L D k = MM at *
      have HMM : Hid (clT f L D k = MM) := hMM
      clear hMM
      go_upto_region 8 with fail
      go_loopw [30] (fun i wi => ∃ (q : Nat) (V2 : Nat → Value), q ≤ n ∧ i = .int .i64 q ∧ MtAt wi w.heap.size g n V2 (srtT MM q) ∧ Below w.heap.size w wi) (fun i _ => n - (intOf i).toNat)
      case atStart => exact ⟨0, V', Nat.zero_le _, rfl, HM2.out, HBR.out⟩
      case round =>
        clear HM2 HBR HMO
        obtain ⟨q, V2, hq, rfl, hmt, hbi⟩ := hrel
        rename World => wi
        have HMI : Hid (MtAt wi w.heap.size g n V2 (srtT MM q)) := hmt
        have HBI : Hid (Below w.heap.size w wi) := hbi
        by_cases hqn : q < n
        · have hqI : (q : Int) < (n : Int) := by omega
          have hown := hmt.sl.own q hqn
          have esq : srtT MM q q = MM q := by unfold srtT; rw [if_neg (by omega)]
          rw [esq] at hown
          obtain ⟨ao, cap, hv⟩ := own_shape hown
          have cq := hmt.cell hqn
          have HVQ : Hid (V2 q = .slice ao (MM q).length cap) := hv
          rw [hv] at cq hown
          have HOW : Hid (OwnI wi w.heap.size (.slice ao (MM q).length cap) (MM q)) := hown
          have hl4 : (MM q).length ≤ 4000000 := by have := HLK.out q; omega
          have HLQ : Hid ((MM q).length ≤ 4000000) := hl4
          have HS : Hid (Calls Tryd.prog 25 #[.slice ao (MM q).length cap] wi fun e w' => e = .returned (.tuple #[]) ∧ OwnI w' w.heap.size (.slice ao (MM q).length cap) ((MM q).mergeSort fun x y => decide (x ≤ y)) ∧ wi.grownBy w' (Value.slice ao (MM q).length cap).ownBlock) := sort_ownP (MM q) _ w.heap.size wi hown hl4
          have HC : Hid (∀ W, OwnI W w.heap.size (.slice ao (MM q).length cap) ((MM q).mergeSort fun x y => decide (x ≤ y)) → Calls Tryd.prog 26 #[.slice ao (MM q).length cap] W fun e w' => ∃ v', e = .returned v' ∧ OwnI w' w.heap.size v' (sortC (MM q)) ∧ v'.ownBlock = (Value.slice ao (MM q).length cap).ownBlock ∧ W.grownBy w' (Value.slice ao (MM q).length cap).ownBlock) := fun W h => compact_ownP _ _ w.heap.size W h (by rw [List.length_mergeSort]; exact HLQ.out)
          have HPUT : Hid (∀ W1 W2 v, wi.grownBy W1 (Value.slice ao (MM q).length cap).ownBlock → W1.grownBy W2 (Value.slice ao (MM q).length cap).ownBlock → OwnI W2 w.heap.size v (sortC (MM q)) → v.ownBlock = (Value.slice ao (MM q).length cap).ownBlock → W1.cell? ⟨g, q, none⟩ = some (.slice ao (MM q).length cap) ∧ (W2.cell? ⟨g, q, none⟩ = some (.slice ao (MM q).length cap) ∧ W2.frozen? ⟨g, q, none⟩ = false) ∧ MtAt (W2.setCell ⟨g, q, none⟩ v) w.heap.size g n (upd V2 q v) (srtT MM (q + 1)) ∧ Below w.heap.size w (W2.setCell ⟨g, q, none⟩ v)) := fun W1 W2 v h1 h2 h3 h4 => by
            have k := HMI.out.put (Below.refl _ _) hqn (by rw [HVQ.out]; exact gb_trans h1 h2) h3 (Or.inl (by rw [HVQ.out]; exact h4))
            have k1 := HMI.out.put (Below.refl _ _) hqn (w' := W1) (v := V2 q) (l := MM q) (by rw [HVQ.out]; exact h1)
            refine ⟨?_, ⟨by rw [k.1, HVQ.out], k.2.1⟩, ?_, HBI.out.trans k.2.2.2.bel⟩
            · have hr : W1.ownsRow w.heap.size 37 1 (.slice (some ⟨g, 0, none⟩) n n) n (gC (fun i => [V2 i]) n) := World.ownsRow.kept HMI.out.row h1 (Or.inr (by rw [← HVQ.out]; show some g ≠ _; exact fun e => HMI.out.ne hqn e.symm))
              have hc : W1.cell? ⟨g, q, none⟩ = wi.cell? ⟨g, q, none⟩ := by rw [World.ownsRow.cellAt hr q (by omega), World.ownsRow.cellAt HMI.out.row q (by omega)]
              rw [hc, HMI.out.cell hqn, HVQ.out]
            · have := k.2.2.1
              rw [srtT_upd] at this; exact this
          clear hmt hbi hown hv esq hl4
          generalize hMQ : (MM q).length = mq at *
          clear hMQ
          go_upto_region 11 with (go_at_call 25; refine HS.out.mono ?_; rintro e w3 ⟨rfl, ho3, hg3⟩)
          have hC := HC.out w3 ho3
          have HG3 : Hid (wi.grownBy w3 (Value.slice ao mq cap).ownBlock) := hg3
          clear hg3 ho3 cq HC HS
          go_wp2_with (go_at_call 26; refine hC.mono ?_; rintro e w4 ⟨v4, rfl, ho4, hb4, hg4⟩; have HP4 := HPUT.out w3 w4 v4 HG3.out hg4 ho4 hb4; have z1 := HP4.2.1.1; have z2 := HP4.2.1.2; obtain ⟨ao4, cap4, rfl⟩ := own_shape ho4)
          go_roundw
          case rel => exact ⟨q + 1, _, by omega, by go_num, HP4.2.2.1, HP4.2.2.2⟩
          case measure => simp [intOf]; omega
        · obtain rfl : n = q := by omega
          clear hmt hbi hqn
          go_wp2
          go_ret
          refine ⟨g, V2, rfl, ⟨HMI.out.row, ⟨fun s hs => ?_, HMI.out.sl.apart⟩⟩, HBI.out⟩
          have := HMI.out.sl.own s hs
          unfold srtT at this
          rw [if_pos hs] at this ⊢
          rw [HMM.out]
          exact this
end Go.Proofs.YtldbmdgpdolaaaaDoor
