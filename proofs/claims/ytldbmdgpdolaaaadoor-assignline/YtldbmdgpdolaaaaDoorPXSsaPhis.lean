import Derived.Deep.AppendLies
import Derived.Test.YtldbmdgpdolaaaaDoorPXSsaRow
namespace Go.Proofs.YtldbmdgpdolaaaaDoor
open Go Go.RowKit

theorem flat_get_mem {α : Type} {f : α → List Value} {s : Nat} : ∀ {l : List α}, (∀ a ∈ l, (f a).length = s) → ∀ (i c : Nat) (hi : i < l.length), c < s → (l.flatMap f)[i * s + c]? = (f l[i])[c]?
  | [], _, i, c, hi, _ => by simp at hi
  | a :: l, hf, 0, c, _, hc => by
    rw [List.flatMap_cons, Nat.zero_mul, Nat.zero_add, List.getElem?_append_left (by rw [hf a List.mem_cons_self]; exact hc)]; rfl
  | a :: l, hf, i + 1, c, hi, hc => by
    rw [List.flatMap_cons, List.getElem?_append_right (by rw [hf a List.mem_cons_self, Nat.succ_mul]; omega), hf a List.mem_cons_self]
    rw [show (i + 1) * s + c - s = i * s + c by rw [Nat.succ_mul]; omega]
    exact flat_get_mem (fun x hx => hf x (List.mem_cons_of_mem _ hx)) i c (by simpa using hi) hc
theorem infoPhi3s : (Tryd.prog.info? 86).map (·.size) = some 3 := by kernel_rfl
theorem list12s {l : List Int} (h : l.length = 12) : ∃ x0 x1 x2 x3 x4 x5 x6 x7 x8 x9 x10 x11 : Int, l = [x0, x1, x2, x3, x4, x5, x6, x7, x8, x9, x10, x11] := by
  rcases l with _ | ⟨x0, _ | ⟨x1, _ | ⟨x2, _ | ⟨x3, _ | ⟨x4, _ | ⟨x5, _ | ⟨x6, _ | ⟨x7, _ | ⟨x8, _ | ⟨x9, _ | ⟨x10, _ | ⟨x11, _ | ⟨x12, t⟩⟩⟩⟩⟩⟩⟩⟩⟩⟩⟩⟩⟩ <;> simp at h
  exact ⟨x0, x1, x2, x3, x4, x5, x6, x7, x8, x9, x10, x11, rfl⟩
theorem infoReg : (Tryd.prog.info? 108).map (fun i => (i.zero, i.size, i.bytes)) = some (some (.agg zero12.toArray), 12, 96) := by kernel_rfl
theorem infoPhiB : (Tryd.prog.info? 86).map (fun i => (i.zero, i.size, i.bytes)) = some (some (.agg #[.int .i64 0, .int .i64 0, .slice none 0 0]), 3, 40) := by kernel_rfl
def PhisPost (w : World) (f : Fn) (S : List Nat) (T : Nat → Nat) (L : List Int) (b : Nat) (e : Ending) (w' : World) : Prop :=
  ∃ v VA AR, e = .returned v ∧ PhisAt w' w.heap.size v VA AR (phiM f S T L b) ∧ Below w.heap.size w w'
theorem behR_len {P : List Fn} {f : Fn} {S : List Nat} {T : Nat → Nat} {L : List Int} (ok : FlowOk P f) (hB : BlkOk f S T) {b : Nat} {z : Int} (hz : z ∈ prevs f S T b) : (behR f S T L z).length = 12 := by
  unfold behR
  split
  · exact parR_len _
  · rename_i h
    rcases (prevs_mem z).1 hz with ⟨-, e⟩ | ⟨j, hj, rfl, -⟩
    · exact absurd e h
    · rw [onR_len, Int.toNat_natCast]; exact (fromR_is ok hB L hj).len
noncomputable abbrev comeC (f : Fn) (S : List Nat) (T : Nat → Nat) (L : List Int) (zs : List Int) : List Value := zs.flatMap fun z => i64s (behR f S T L z)
set_option maxRecDepth 100000 in
set_option maxHeartbeats 4000000 in
theorem phisS_no {P : List Fn} {f : Fn} {S : List Nat} {T : Nat → Nat} {L : List Int} {pv cv bv lv : Value} (w : World) (h : SsaFn w P f S T L pv cv bv lv) (b : Nat) (hb : b < S.length) (hj : ¬ 1 < (prevs f S T b).length) :
    Calls Tryd.prog 46 #[.agg (fnV f pv cv bv lv), .int .i64 b] w (PhisPost w f S T L b) := by
  have HP : Hid (∀ e w', (e = .returned (.slice none 0 0) ∧ Below w.heap.size w w') → PhisPost w f S T L b e w') := fun e w' h' => ⟨_, _, _, h'.1, by unfold phiM; rw [if_neg hj]; exact PhisAt.nil _ _, h'.2⟩
  have HJ := joinsS_any _ (h.below ((Below.refl _ _).alloc (Nat.le_refl _) (.cells (fnV f pv cv bv lv) 56))) b hb
  rw [decide_eq_false hj] at HJ
  have r2 : (w.alloc (.cells (fnV f pv cv bv lv) 56)).heap[w.heap.size]? = some (.cells (fnV f pv cv bv lv) 56 (0, 0)) := heap_alloc_last _ _
  have HB0 : Hid (Below w.heap.size w (w.alloc (.cells (fnV f pv cv bv lv) 56))) := (Below.refl _ _).alloc (Nat.le_refl _) _
  unfold fnV at *
  clear h hj
  go_enter Tryd.func46, Tryd.ntmps46
  go_upto_region 1 with fail
  generalize (w.alloc (.cells #[pv, .int .i64 f.params, cv, bv, lv] 56)) = V at *
  go_wp2_with (first
    | (refine wpList_load_row rfl 56 _ rfl _ rfl _ _ _ _ r2 Tryd.underlying56 rfl infoFnS ?_)
    | (go_at_call 75; refine HJ.mono ?_; rintro e w1 ⟨rfl, hb1⟩; have HB1 : Hid (Below w.heap.size w w1) := HB0.out.trans (hb1.mono HB0.out.size)))
  go_ret
  exact HP.out _ _ ⟨rfl, HB1.out⟩
set_option maxRecDepth 100000 in
set_option maxHeartbeats 8000000 in
theorem phisS_yes {P : List Fn} {f : Fn} {S : List Nat} {T : Nat → Nat} {L : List Int} {pv cv bv lv : Value} (w : World) (h : SsaFn w P f S T L pv cv bv lv) (ht : TabOk w) (b : Nat) (hb : b < S.length) (hj : 1 < (prevs f S T b).length) (hpl : (prevs f S T b).length ≤ 1000) :
    Calls Tryd.prog 46 #[.agg (fnV f pv cv bv lv), .int .i64 b] w (PhisPost w f S T L b) := by
  obtain ⟨iR, hiR, hr0, hr1, hr2⟩ := info_parts infoReg
  obtain ⟨iP, hiP, hp0, hp1, hp2⟩ := info_parts infoPhiB
  obtain ⟨i64i, hi64, hz0, hz1', hz2⟩ := info_parts info64
  have HP : Hid (∀ e w', (∃ v VA AR, e = .returned v ∧ PhisAt w' w.heap.size v VA AR (phiTo f S T L b 12) ∧ Below w.heap.size w w') → PhisPost w f S T L b e w') := fun e w' h' => by unfold PhisPost phiM; rw [if_pos hj]; exact h'
  obtain ⟨gB, VV, rfl, hb1, hb2⟩ := h.blocks
  have hS : S.length ≤ 1000 := by have := starts_len h.flow h.ok.starts; have := h.flow.ok.len2; omega
  obtain ⟨ao, pb, po, n, cap, eV, hln, ha, hcl, hcp⟩ := ints_get (hb2 b hb)
  obtain rfl := ha (by omega)
  have HBH : Hid (∀ W, Below w.heap.size w W → ∀ z ∈ prevs f S T b, Calls Tryd.prog 76 #[.agg (fnV f pv cv (.slice (some ⟨gB, 0, none⟩) S.length S.length) lv), .int .i64 z] W fun e w' => e = .returned (.agg (i64s (behR f S T L z)).toArray) ∧ Below W.heap.size W w') := fun W hW z hz => behindS_all W (h.below hW) (ht.below hW) b z hz
  have HFR : Hid (∀ W, Below w.heap.size w W → Calls Tryd.prog 45 #[.agg (fnV f pv cv (.slice (some ⟨gB, 0, none⟩) S.length S.length) lv), .int .i64 b] W fun e w' => e = .returned (.agg (i64s (fromR f S T L b)).toArray) ∧ Below W.heap.size W w') := fun W hW => fromS_all W (h.below hW) (ht.below hW) b hb
  have HBL : Hid (∀ z ∈ prevs f S T b, (behR f S T L z).length = 12) := fun z hz => behR_len h.flow h.ok hz
  have HFL : Hid ((fromR f S T L b).length = 12) := (fromR_is h.flow h.ok L hb).len
  have HJ := joinsS_any _ (h.below ((Below.refl _ _).alloc (Nat.le_refl _) (.cells (fnV f pv cv (.slice (some ⟨gB, 0, none⟩) S.length S.length) lv) 56))) b hb
  rw [decide_eq_true hj] at HJ
  have HCP : Hid (∀ W, Below w.heap.size w W → W.cell? ⟨gB, b * 4 + 3, none⟩ = some (.slice (some ⟨pb, po, none⟩) n cap)) := fun W hW => keeps_below hW _ _ (by rw [blk_prev hb1 b hb, eV])
  have HCZ : Hid (∀ W, Below w.heap.size w W → ∀ q, q < n → W.cell? ⟨pb, po + q, none⟩ = some (.int .i64 ((prevs f S T b).getD q 0))) := fun W hW q hq => keeps_below hW _ _ (hcl q hq)
  have HPN : Hid ((prevs f S T b).length = n) := hln
  have HPM : Hid (∀ q, q < n → (prevs f S T b).getD q 0 ∈ prevs f S T b) := fun q hq => by rw [List.getD, List.getElem?_eq_getElem (by omega)]; exact List.getElem_mem _
  have r2 : (w.alloc (.cells (fnV f pv cv (.slice (some ⟨gB, 0, none⟩) S.length S.length) lv) 56)).heap[w.heap.size]? = some (.cells (fnV f pv cv (.slice (some ⟨gB, 0, none⟩) S.length S.length) lv) 56 (0, 0)) := heap_alloc_last _ _
  have HB0 : Hid (Below w.heap.size w (w.alloc (.cells (fnV f pv cv (.slice (some ⟨gB, 0, none⟩) S.length S.length) lv) 56))) := (Below.refl _ _).alloc (Nat.le_refl _) _
  have hbI : (b : Int) < (S.length : Int) := by omega
  have hn1000 : n ≤ 1000 := by omega
  unfold fnV at *
  clear h ht hj hb1 hb2 eV hcl ha hln hpl
  generalize hSL : S.length = SL at *
  clear hSL
  go_enter Tryd.func46, Tryd.ntmps46
  go_upto_region 1 with fail
  generalize (w.alloc (.cells #[pv, .int .i64 f.params, cv, .slice (some ⟨gB, 0, none⟩) SL SL, lv] 56)) = V at *
  go_upto_region 4 with (first
    | (refine wpList_load_row rfl 56 _ rfl _ rfl _ _ _ _ r2 Tryd.underlying56 rfl infoFnS ?_)
    | (go_at_call 75; refine HJ.mono ?_; rintro e w1 ⟨rfl, hb1⟩))
  have HB1 : Hid (Below w.heap.size w w1) := HB0.out.trans (hb1.mono HB0.out.size)
  have r21 := (hb1.block _ (lt_of_block r2)).trans r2
  have k3 : w1.cell? ⟨w.heap.size, 3, none⟩ = some (.slice (some ⟨gB, 0, none⟩) SL SL) := by rw [cell_of_row _ _ _ _ _ _ r21]; rfl
  have cP := HCP.out w1 HB1.out
  clear HJ r2 HB0 hb1
  go_upto_region 5 with fail
  clear k3 cP
  have HZ0 : Hid (w1.ownsRow w.heap.size 108 12 (.slice none 0 0) 0 (comeC f S T L ((prevs f S T b).take 0))) := World.ownsRow_nil _ _ _ _
  go_loopw [5, 25] (fun cvv i wr => ∃ (q : Nat) (v : Value), q ≤ n ∧ i = .int .i64 q ∧ cvv = v ∧ wr.ownsRow w.heap.size 108 12 v q (comeC f S T L ((prevs f S T b).take q)) ∧ wr.heap[w.heap.size]? = some (.cells #[pv, .int .i64 f.params, cv, .slice (some ⟨gB, 0, none⟩) SL SL, lv] 56 (0, 0)) ∧ Below w.heap.size w wr) (fun _ i _ => n - (intOf i).toNat)
  case atStart => exact ⟨0, _, Nat.zero_le _, rfl, rfl, HZ0.out, r21, HB1.out⟩
  case round =>
    clear HB1 r21
    obtain ⟨q, v, hq, rfl, hv, hown, r2, hbr⟩ := hrel
    replace hv := hv.symm
    subst hv
    have HOW : Hid (wr.ownsRow w.heap.size 108 12 v q (comeC f S T L ((prevs f S T b).take q))) := hown
    have HBR : Hid (Below w.heap.size w wr) := hbr
    have HR2 : Hid (wr.heap[w.heap.size]? = some (.cells #[pv, .int .i64 f.params, cv, .slice (some ⟨gB, 0, none⟩) SL SL, lv] 56 (0, 0))) := r2
    clear hown hbr
    by_cases hlt : q < n
    · have hqI : (q : Int) < (n : Int) := by omega
      have cz := HCZ.out wr HBR.out q hlt
      have hbeh := HBH.out wr HBR.out _ (HPM.out q hlt)
      obtain ⟨x0, x1, x2, x3, x4, x5, x6, x7, x8, x9, x10, x11, hx⟩ := list12s (HBL.out _ (HPM.out q hlt))
      have HX : Hid (behR f S T L ((prevs f S T b).getD q 0) = [x0, x1, x2, x3, x4, x5, x6, x7, x8, x9, x10, x11]) := hx
      rw [hx] at hbeh
      have eX : (i64s [x0, x1, x2, x3, x4, x5, x6, x7, x8, x9, x10, x11]).toArray = #[.int .i64 x0, .int .i64 x1, .int .i64 x2, .int .i64 x3, .int .i64 x4, .int .i64 x5, .int .i64 x6, .int .i64 x7, .int .i64 x8, .int .i64 x9, .int .i64 x10, .int .i64 x11] := rfl
      rw [eX] at hbeh
      have HTK : Hid (comeC f S T L ((prevs f S T b).take (q + 1)) = comeC f S T L ((prevs f S T b).take q) ++ [.int .i64 x0, .int .i64 x1, .int .i64 x2, .int .i64 x3, .int .i64 x4, .int .i64 x5, .int .i64 x6, .int .i64 x7, .int .i64 x8, .int .i64 x9, .int .i64 x10, .int .i64 x11]) := by
        show _ = _
        have hql : q < (prevs f S T b).length := by rw [HPN.out]; exact hlt
        rw [List.take_succ_eq_append_getElem hql, comeC, List.flatMap_append]
        have : (prevs f S T b)[q] = (prevs f S T b).getD q 0 := by rw [List.getD, List.getElem?_eq_getElem hql]; rfl
        rw [this, List.flatMap_cons, List.flatMap_nil, List.append_nil, hx]; rfl
      clear hx eX
      generalize (prevs f S T b).getD q 0 = z at *
      go_wp2_with (first
        | (refine wpList_load_row rfl 56 _ rfl _ rfl _ _ _ _ r2 Tryd.underlying56 rfl infoFnS ?_)
        | (go_at_call 76; refine hbeh.mono ?_; rintro e w2 ⟨rfl, hb2⟩)
        | (at_builtin; refine wpList_append_own _ rfl (.tmp 29) (.tmp 33) 140 rfl w.heap.size 108 iR _ 12 96 Tryd.underlying140 hiR hr0 hr1 hr2 rfl (by decide) v q _ rfl ((ownsRow_below HOW.out hb2).alloc _) ⟨_, 0, none⟩ 1 1 [.int .i64 x0, .int .i64 x1, .int .i64 x2, .int .i64 x3, .int .i64 x4, .int .i64 x5, .int .i64 x6, .int .i64 x7, .int .i64 x8, .int .i64 x9, .int .i64 x10, .int .i64 x11] rfl rfl (news_list _ _ _ _ rfl) (by simp [Value.oneCell']) (by unfold maxLen; omega) (by omega) (by have := HBR.out.size; have := hb2.size; simp; omega) ?_; intro v3 w3 hown3 hg3 _))
      go_roundw
      case rel =>
        refine ⟨q + 1, v3, by omega, by go_num, rfl, by rw [HTK.out]; exact hown3, ?_, ?_⟩
        · exact (hg3.block _ (lt_of_block (heap_alloc_old _ _ (lt_of_block ((hb2.block _ (lt_of_block HR2.out)).trans HR2.out)) |>.trans ((hb2.block _ (lt_of_block HR2.out)).trans HR2.out))) (fun e => by
            have hh := own_type HOW.out e.symm HR2.out
            exact absurd hh (by decide))).trans ((heap_alloc_old _ _ (lt_of_block ((hb2.block _ (lt_of_block HR2.out)).trans HR2.out))).trans ((hb2.block _ (lt_of_block HR2.out)).trans HR2.out))
        · exact ((HBR.out.trans (hb2.mono HBR.out.size)).alloc (by have := HBR.out.size; have := hb2.size; omega) _).grown hg3 (by have := HBR.out.size; have := hb2.size; simp; omega) (fun k hk => (HOW.out.lt k hk).1)
      case measure => simp [intOf]; omega
    · obtain rfl : q = n := by omega
      have HRL : Hid (fromR f S T L b = fromR f S T L b ∧ (fromR f S T L b).length = 12) := ⟨rfl, HFL.out⟩
      have hfr := HFR.out wr HBR.out
      have HTA : Hid ((prevs f S T b).take q = prevs f S T b) := List.take_of_length_le (by rw [HPN.out]; exact Nat.le_refl _)
      have HOC : Hid (wr.ownsRow w.heap.size 108 12 v q (comeC f S T L (prevs f S T b))) := by have := HOW.out; rw [HTA.out] at this; exact this
      have HIX : Hid (∀ (W : World) (k : Nat), k < 12 → (Instr.index 108 (.agg (i64s (fromR f S T L b)).toArray) (.int .i64 (k : Int))).run Tryd.prog W = .ok (.int .i64 ((fromR f S T L b).getD k 0)) W) := fun W k hk => run_index_regs _ HFL.out k hk W
      obtain ⟨DD, hDD⟩ : ∃ DD, DD = (i64s (fromR f S T L b)).toArray := ⟨_, rfl⟩
      rw [← hDD] at hfr HIX
      clear hDD HOW HTA
      go_upto_region 11 with (first
        | (refine wpList_load_row rfl 56 _ rfl _ rfl _ _ _ _ r2 Tryd.underlying56 rfl infoFnS ?_)
        | (go_at_call 45; refine hfr.mono ?_; rintro e w2 ⟨rfl, hb2⟩))
      have HOC2 : Hid (w2.ownsRow w.heap.size 108 12 v q (comeC f S T L (prevs f S T b))) := ownsRow_below HOC.out hb2
      have HBW : Hid (Below w.heap.size w w2) := HBR.out.trans (hb2.mono HBR.out.size)
      clear hb2 hfr r2 HBR HR2 HOC
      obtain ⟨aoC, cC, rfl⟩ := own_shape HOC2.out
      go_loopw [8, 39] (fun lv i wr => ∃ (r : Nat) (v : Value) (VA : Nat → Value) (AR : Nat → List Int), r ≤ 12 ∧ i = .int .i64 r ∧ lv = v ∧ PhisAt wr w.heap.size v VA AR (phiTo f S T L b r) ∧ wr.ownsRow w.heap.size 108 12 (.slice aoC q cC) q (comeC f S T L (prevs f S T b)) ∧ Below w.heap.size w wr) (fun _ i _ => 12 - (intOf i).toNat)
      case atStart => exact ⟨0, _, _, _, Nat.zero_le _, rfl, rfl, PhisAt.nil _ _, HOC2.out, HBW.out⟩
      case round =>
        clear HOC2 HBW
        obtain ⟨r, v, VA, AR, hr, rfl, hv, hph, hoc, hbr⟩ := hrel
        rename World => wo
        replace hv := hv.symm
        subst hv
        have HPH : Hid (PhisAt wo w.heap.size v VA AR (phiTo f S T L b r)) := hph
        have HOC : Hid (wo.ownsRow w.heap.size 108 12 (.slice aoC q cC) q (comeC f S T L (prevs f S T b))) := hoc
        have HBR : Hid (Below w.heap.size w wo) := hbr
        clear hph hoc hbr
        by_cases hlt : r < 12
        · have hrI : (r : Int) < 12 := by omega
          have hrn : ¬ (r : Int) < 0 := by omega
          have hix := fun W => HIX.out W r hlt
          have HST : Hid (phiTo f S T L b (r + 1) = phiTo f S T L b r ++ (if (fromR f S T L b).getD r 0 = -1 then [] else [phi1 f S T L b r])) := rfl
          have HP1 : Hid (phi1 f S T L b r = ⟨r, (fromR f S T L b).getD r 0, (prevs f S T b).map fun z => (behR f S T L z).getD r 0⟩) := rfl
          generalize (fromR f S T L b).getD r 0 = id at *
          by_cases hid : id = -1
          · have eid : (id == -1) = true := by simpa using hid
            have HN : Hid (phiTo f S T L b (r + 1) = phiTo f S T L b r) := by show _ = _; rw [HST.out, if_pos hid, List.append_nil]
            clear hid
            go_wp2
            go_roundw
            case rel => exact ⟨r + 1, v, VA, AR, by omega, by go_num, rfl, by rw [HN.out]; exact HPH.out, HOC.out, HBR.out⟩
            case measure => simp [intOf]; omega
          · have eid : (id == -1) = false := by simpa using hid
            have HN : Hid (phiTo f S T L b (r + 1) = phiTo f S T L b r ++ [phi1 f S T L b r]) := by show _ = _; rw [HST.out, if_neg hid]
            clear hid
            go_upto_region 15 with fail
            have r11 : (wo.alloc (.cells #[.int .i64 (r : Int), .int .i64 id, .slice none 0 0] 86)).heap[wo.heap.size]? = some (.cells #[.int .i64 (r : Int), .int .i64 id, .slice none 0 0] 86 (0, 0)) := heap_alloc_last _ _
            have HBV : Hid (Below wo.heap.size wo (wo.alloc (.cells #[.int .i64 (r : Int), .int .i64 id, .slice none 0 0] 86))) := (Below.refl _ _).alloc (Nat.le_refl _) _
            generalize (wo.alloc (.cells #[.int .i64 (r : Int), .int .i64 id, .slice none 0 0] 86)) = V1 at *
            go_upto_region 16 with fail
            have HZ0 : Hid (V1.ownsRow wo.heap.size 3 1 (.slice none 0 0) 0 (i64s (((prevs f S T b).take 0).map fun z => (behR f S T L z).getD r 0))) := World.ownsRow_nil _ _ _ _
            go_loopw [50] (fun i wi => ∃ (j : Nat) (va : Value), j ≤ q ∧ i = .int .i64 j ∧ wi.ownsRow wo.heap.size 3 1 va j (i64s (((prevs f S T b).take j).map fun z => (behR f S T L z).getD r 0)) ∧ wi.heap[wo.heap.size]? = some (.cells #[.int .i64 (r : Int), .int .i64 id, va] 86 (0, 0)) ∧ Below wo.heap.size wo wi) (fun i _ => q - (intOf i).toNat)
            case atStart => exact ⟨0, _, Nat.zero_le _, rfl, HZ0.out, r11, HBV.out⟩
            case round =>
              clear HZ0 r11 HBV
              obtain ⟨j, va, hjq, rfl, hva, r11, hbi⟩ := hrel
              rename World => wi
              have HVA : Hid (wi.ownsRow wo.heap.size 3 1 va j (i64s (((prevs f S T b).take j).map fun z => (behR f S T L z).getD r 0))) := hva
              have HBI : Hid (Below wo.heap.size wo wi) := hbi
              have HR11 : Hid (wi.heap[wo.heap.size]? = some (.cells #[.int .i64 (r : Int), .int .i64 id, va] 86 (0, 0))) := r11
              clear hva hbi
              by_cases hjl : j < q
              · have hjI : (j : Int) < (q : Int) := by omega
                have hzm := HPM.out j hjl
                have hjp : j < (prevs f S T b).length := by rw [HPN.out]; exact hjl
                have hzj : (prevs f S T b)[j] = (prevs f S T b).getD j 0 := by rw [List.getD, List.getElem?_eq_getElem hjp]; rfl
                have hocI := ownsRow_below HOC.out HBI.out
                obtain ⟨gC, cap', e, -, -⟩ := hocI.form (by omega)
                have e1 : aoC = some ⟨gC, 0, none⟩ := by exact (show aoC = some ⟨gC, 0, none⟩ ∧ _ by simpa using e).1
                subst e1
                obtain ⟨y0, y1, y2, y3, y4, y5, y6, y7, y8, y9, y10, y11, hy⟩ := list12s (HBL.out _ hzm)
                have hrk : wi.rangeAt gC (j * 12) [.int .i64 y0, .int .i64 y1, .int .i64 y2, .int .i64 y3, .int .i64 y4, .int .i64 y5, .int .i64 y6, .int .i64 y7, .int .i64 y8, .int .i64 y9, .int .i64 y10, .int .i64 y11] := fun c u hu => by
                  have hc : c < 12 := by
                    rcases Nat.lt_or_ge c 12 with h | h
                    · exact h
                    · rw [List.getElem?_eq_none (by simpa using h)] at hu; cases hu
                  rw [hocI.cellAt (j * 12 + c) (at_lt hjl hc)]
                  rw [flat_get_mem (f := fun z => i64s (behR f S T L z)) (s := 12) (fun z hz => by simp [i64s, HBL.out z hz]) j c hjp hc, hzj, hy]
                  exact hu
                have HTK : Hid (i64s (((prevs f S T b).take (j + 1)).map fun z => (behR f S T L z).getD r 0) = i64s (((prevs f S T b).take j).map fun z => (behR f S T L z).getD r 0) ++ i64s [(behR f S T L ((prevs f S T b).getD j 0)).getD r 0]) := by
                  show _ = _
                  rw [List.take_succ_eq_append_getElem hjp, List.map_append, i64s_append, hzj]; rfl
                have hyr : (#[.int .i64 y0, .int .i64 y1, .int .i64 y2, .int .i64 y3, .int .i64 y4, .int .i64 y5, .int .i64 y6, .int .i64 y7, .int .i64 y8, .int .i64 y9, .int .i64 y10, .int .i64 y11] : Array Value)[r]? = some (.int .i64 ((behR f S T L ((prevs f S T b).getD j 0)).getD r 0)) := by
                  rw [hy]
                  have : (i64s [y0, y1, y2, y3, y4, y5, y6, y7, y8, y9, y10, y11])[r]? = some (.int .i64 ([y0, y1, y2, y3, y4, y5, y6, y7, y8, y9, y10, y11].getD r 0)) := by
                    have hr12 : r < [y0, y1, y2, y3, y4, y5, y6, y7, y8, y9, y10, y11].length := by show r < 12; omega
                    simp only [i64s, List.getElem?_map, List.getElem?_eq_getElem hr12, List.getD, Option.map_some, Option.getD_some]
                  rw [List.getElem?_toArray]; exact this
                generalize (behR f S T L ((prevs f S T b).getD j 0)).getD r 0 = yr at *
                clear hy hzm hjp hzj hocI e
                go_upto_region 18 with (refine wpList_load_mid rfl 108 _ rfl gC (j * 12) rfl _ _ hrk Tryd.underlying108 rfl infoRg ?_)
                obtain ⟨aoA, cA, eA⟩ := own_shape HVA.out
                subst eA
                have r13 : (wi.alloc (.cells #[.int .i64 y0, .int .i64 y1, .int .i64 y2, .int .i64 y3, .int .i64 y4, .int .i64 y5, .int .i64 y6, .int .i64 y7, .int .i64 y8, .int .i64 y9, .int .i64 y10, .int .i64 y11] 108)).heap[wi.heap.size]? = some (.cells #[.int .i64 y0, .int .i64 y1, .int .i64 y2, .int .i64 y3, .int .i64 y4, .int .i64 y5, .int .i64 y6, .int .i64 y7, .int .i64 y8, .int .i64 y9, .int .i64 y10, .int .i64 y11] 108 (0, 0)) := heap_alloc_last _ _
                have r11n : (wi.alloc (.cells #[.int .i64 y0, .int .i64 y1, .int .i64 y2, .int .i64 y3, .int .i64 y4, .int .i64 y5, .int .i64 y6, .int .i64 y7, .int .i64 y8, .int .i64 y9, .int .i64 y10, .int .i64 y11] 108)).heap[wo.heap.size]? = some (.cells #[.int .i64 (r : Int), .int .i64 id, .slice aoA j cA] 86 (0, 0)) := (heap_alloc_old _ _ (lt_of_block r11)).trans r11
                have HV2 : Hid ((wi.alloc (.cells #[.int .i64 y0, .int .i64 y1, .int .i64 y2, .int .i64 y3, .int .i64 y4, .int .i64 y5, .int .i64 y6, .int .i64 y7, .int .i64 y8, .int .i64 y9, .int .i64 y10, .int .i64 y11] 108)).ownsRow wo.heap.size 3 1 (.slice aoA j cA) j (i64s (((prevs f S T b).take j).map fun z => (behR f S T L z).getD r 0))) := HVA.out.alloc _
                have HB2 : Hid (Below wo.heap.size wo (wi.alloc (.cells #[.int .i64 y0, .int .i64 y1, .int .i64 y2, .int .i64 y3, .int .i64 y4, .int .i64 y5, .int .i64 y6, .int .i64 y7, .int .i64 y8, .int .i64 y9, .int .i64 y10, .int .i64 y11] 108))) := HBI.out.alloc HBI.out.size _
                generalize (wi.alloc (.cells #[.int .i64 y0, .int .i64 y1, .int .i64 y2, .int .i64 y3, .int .i64 y4, .int .i64 y5, .int .i64 y6, .int .i64 y7, .int .i64 y8, .int .i64 y9, .int .i64 y10, .int .i64 y11] 108)) = V2 at *
                generalize wi.heap.size = GX at *
                have cy : V2.cell? ⟨GX, r, none⟩ = some (.int .i64 yr) := by rw [cell_of_row _ _ _ _ _ _ r13]; exact hyr
                have c2 : V2.cell? ⟨wo.heap.size, 2, none⟩ = some (.slice aoA j cA) := by rw [cell_of_row _ _ _ _ _ _ r11n]; rfl
                have c2a := fun o => cell_alloc c2 o
                have OWN : Hid (V2.drew.ownsRow wo.heap.size 3 1 (.slice aoA j cA) j (i64s (((prevs f S T b).take j).map fun z => (behR f S T L z).getD r 0))) := ownsRow_below HV2.out (Below.refl _ _).drew
                have HBX : Hid (∀ (o : Obj) (W' : World), (V2.drew.alloc o).grownBy W' (Value.slice aoA j cA).ownBlock → W'.heap[wo.heap.size]? = some (.cells #[.int .i64 (r : Int), .int .i64 id, .slice aoA j cA] 86 (0, 0)) ∧ Below wo.heap.size wo W') := fun o W' hg => by
                  have hr0 : (V2.drew.alloc o).heap[wo.heap.size]? = some (.cells #[.int .i64 (r : Int), .int .i64 id, .slice aoA j cA] 86 (0, 0)) := (heap_alloc_old V2.drew o (lt_of_block r11n)).trans r11n
                  refine ⟨(hg.block _ (lt_of_block hr0) (fun e => ?_)).trans hr0, ?_⟩
                  · have := own_type (OWN.out.alloc o) e.symm hr0
                    exact absurd this (by decide)
                  · have hbo : Below wo.heap.size wo (V2.drew.alloc o) := (HB2.out.trans ((Below.refl _ _).drew)).alloc (by have := HB2.out.size; exact this) o
                    exact hbo.grown hg hbo.size (fun k hk => (OWN.out.lt k hk).1)
                have a1 : j + 1 ≤ maxLen := by unfold maxLen; omega
                have a2 : (j + 1) * 8 ≤ 140737488355328 := by omega
                have a3 : ∀ o, wo.heap.size ≤ (V2.drew.alloc o).heap.size := fun o => by have := HB2.out.size; simp; omega
                have a4 : ∀ o, (V2.drew.alloc o).heap.size = V2.heap.size + 1 := fun o => by simp
                clear hrk r11 r13 r11n hyr
                generalize i64s (((prevs f S T b).take j).map fun z => (behR f S T L z).getD r 0) = AJ at *
                go_wp2_with fail
                go_region_law ((refine step_append_lies _ (by rfl) (.tmp 55) (.tmp 59) 37 (by rfl) wo.heap.size 3 i64i _ 1 8 Tryd.underlying37 hi64 hz0 hz1' hz2 rfl (by decide) (.slice aoA j cA) j AJ (by rfl) (OWN.out.alloc _) ⟨V2.heap.size, 0, none⟩ 1 1 (i64s [yr]) (by rfl) rfl (news_list _ _ _ _ rfl) (i64s_one _) Nat.one_pos a1 a2 (a3 _) (V2.heap.size + 1) (a4 _) ?_; intro g4 cap4 w4 hown4 hg4 hat4 hlt4; have hbx := HBX.out _ _ hg4; have q2 : w4.cell? ⟨wo.heap.size, 2, none⟩ = some (.slice aoA j cA) := (by rw [cell_of_row _ _ _ _ _ _ hbx.1]; rfl); have qf := frozen_of_row _ _ 2 _ _ hbx.1))
                all_goals
                  have HBXH : Hid _ := hbx
                  have HOWH : Hid _ := hown4
                  clear hbx hown4 hg4 hat4
                  go_wp2
                  go_roundw
                  case rel =>
                    refine ⟨j + 1, _, by omega, by go_num, ?_, heap_setCell_same _ _ _ _ _ _ HBXH.out.1, Below.setCell HBXH.out.2 (Nat.le_refl _) _⟩
                    rw [HTK.out]
                    refine ownsRow_setCell_other HOWH.out (fun e => ?_) _
                    have := own_type HOWH.out e HBXH.out.1
                    exact absurd this (by decide)
                  case measure => simp [intOf]; omega
              · obtain rfl : j = q := by omega
                have HVB : Hid (wi.ownsRow wo.heap.size 3 1 va (phi1 f S T L b r).args.length (i64s (phi1 f S T L b r).args)) := by
                  have := HVA.out
                  rw [List.take_of_length_le (by rw [HPN.out]; exact Nat.le_refl _)] at this
                  rw [HP1.out]
                  show wi.ownsRow _ _ _ _ (List.length (List.map _ _)) _
                  rw [List.length_map, HPN.out]; exact this
                obtain ⟨aoA, cA, eA⟩ := own_shape HVA.out
                subst eA
                have hpl := phiTo_len f S T L b r
                go_wp2_with (first
                  | (refine wpList_load_row rfl 86 _ rfl _ rfl _ _ _ _ r11 Tryd.underlying86 rfl infoPhi3s ?_)
                  | (at_builtin; refine wpList_append_lies _ rfl (.tmp 63) (.tmp 65) 70 rfl w.heap.size 86 iP _ 3 40 Tryd.underlying70 hiP hp0 hp1 hp2 rfl (by decide) v (phiTo f S T L b r).length _ rfl ((ownsRow_below HPH.out.row HBI.out).alloc _) ⟨_, 0, none⟩ 1 1 [.int .i64 (r : Int), .int .i64 id, .slice aoA j cA] rfl rfl (news_list _ _ _ _ rfl) (by simp [Value.oneCell']) Nat.one_pos (by unfold maxLen; omega) (by omega) (by have := HBR.out.size; have := HBI.out.size; simp; omega) _ rfl ?_; intro g3 c3 w3 hown3 hg3 _ _))
                go_roundw
                case rel =>
                  have hbwi : Below w.heap.size w wi := HBR.out.trans (HBI.out.mono HBR.out.size)
                  have hpi := (HPH.out.below HBI.out).below ((Below.refl _ _).alloc (Nat.le_refl _) (.cells #[.int .i64 (r : Int), .int .i64 id, .slice aoA j cA] 86))
                  have hP1 := HP1.out
                  have hadd := hpi.add (p := phi1 f S T L b r) (va := .slice aoA j cA) (by rw [hP1]; show r < 12; omega) (fun x hx => by obtain ⟨y, hy, -, rfl⟩ := phiTo_mem.1 hx; show y ≠ r; omega) (ownsRow_monoR (HVB.out.alloc _) (by have := HBR.out.size; omega)) (fun g hg j' hj' e => by have h1 := (HVB.out.lt g hg).1; have h2 := ((HPH.out.args.own j' hj').lt g e).2; omega) hg3 (by rw [hP1]; exact hown3)
                  refine ⟨r + 1, _, _, _, by omega, by go_num, rfl, by rw [HN.out]; exact hadd, ?_, ?_⟩
                  · exact ((ownsRow_below HOC.out HBI.out).alloc _).kept hg3 (own_apart ((ownsRow_below HOC.out HBI.out).alloc _) hpi.row (by decide))
                  · exact (hbwi.alloc hbwi.size _).grown hg3 (by have := hbwi.size; simp; omega) (fun k hk => (hpi.row.lt k hk).1)
                case measure => simp [intOf]; omega
        · obtain rfl : r = 12 := by omega
          go_wp2
          go_ret
          exact HP.out _ _ ⟨v, VA, AR, rfl, HPH.out, HBR.out⟩
theorem phisS_any {P : List Fn} {f : Fn} {S : List Nat} {T : Nat → Nat} {L : List Int} {pv cv bv lv : Value} (w : World) (h : SsaFn w P f S T L pv cv bv lv) (ht : TabOk w) (b : Nat) (hb : b < S.length) (hpl : (prevs f S T b).length ≤ 1000) :
    Calls Tryd.prog 46 #[.agg (fnV f pv cv bv lv), .int .i64 b] w (PhisPost w f S T L b) := by
  by_cases hj : 1 < (prevs f S T b).length
  · exact phisS_yes w h ht b hb hj hpl
  · exact phisS_no w h b hb hj
end Go.Proofs.YtldbmdgpdolaaaaDoor
