/- Contracts of flow.blocks and flow.Blocks. -/
import Derived.Test.YteilohamjijpbaaDoorXFlowLead
import Derived.Test.YteilohamjijpbaaDoorXFlowFace
import Derived.Maps.RangeWalk
namespace Go.Proofs.YteilohamjijpbaaDoor
open Go Go.RowKit

theorem own_mono {w : World} {base base' t size n : Nat} {v : Value} {xs : List Value} (h : w.ownsRow base t size v n xs) (hb : base' ≤ base) : w.ownsRow base' t size v n xs :=
  ⟨h.1, h.2.imp id fun ⟨g, cap, cur, a, b, c⟩ => ⟨g, cap, cur, a, Nat.le_trans hb b, c⟩⟩
theorem upd_cast (T : Nat → Nat) (i t : Nat) : (fun j => ((upd T i t j : Nat) : Int)) = upd (fun j => ((T j : Nat) : Int)) i ((t : Nat) : Int) := by
  funext j
  unfold upd
  split <;> rfl
/-- What flow.blocks answers, and how it lies in memory. -/
structure BlocksAt (w : World) (base g : Nat) (f : Fn) (S : List Nat) (T : Nat → Nat) (VV : Nat → Value) (LL : Nat → List Int) : Prop where
  starts : Starts f S
  ends : ∀ i (hi : i < S.length), EndAt f S S[i] (T i)
  row : BlkRow w g S.length (fun i => ((S.getD i 0 : Nat) : Int)) (fun i => ((T i : Nat) : Int)) VV
  slots : Slots w base (2 * S.length) VV LL
  led : LeadTo f S T S.length S.length LL

set_option maxRecDepth 100000 in
set_option maxHeartbeats 8000000 in
theorem blocks_any (P : List Fn) (hR : ProofAns P 0) (k : Nat) (hk : k < P.length) (v : Value) (w : World) (ht : TabOk w) (_hc : CallOk w) (hv : ProgVal w v P) :
    Calls Tryd.prog 36 #[.agg #[v], .int .i64 k] w fun e w' => ∃ g S T VV LL, e = .returned (.slice (some ⟨g, 0, none⟩) S.length S.length) ∧ BlocksAt w' w.heap.size g P[k] S T VV LL ∧ w.heap.size ≤ g ∧ Below w.heap.size w w' := by
  obtain ⟨iB, hiB, hzB0, hzB1, hzB2⟩ := info_parts infoBlk
  have hP := right_code hR
  have OK : Hid (FlowOk P P[k]) := flowOk_of hR (List.getElem_mem hk)
  have hl1 := OK.out.ok.len1
  have hl2 := OK.out.ok.len2
  have hfe := fnErr_ok hP hk
  have HRE : Hid (∀ A, SureAns P k A → A.length = P[k].code.length ∧ ∀ q, q < P[k].code.length → (0 ≤ A.getD q 0 ↔ Way P[k] 63 q)) := fun A hA => reach_sure hfe hk hA
  have hbx : ∀ o, Below w.heap.size w (w.alloc o) := fun o => (Below.refl _ _).alloc (Nat.le_refl _) _
  have hSu := fun o => sure_all P v k (w.alloc o) (ht.below (hbx o)) (hv.keeps (keeps_below (hbx o)))
  rw [hfe] at hSu
  obtain ⟨b, off, cap, u, rfl, d0, d1, d2, hcv, hm, hcc⟩ := prog_fn hv hk
  have HCV : Hid (CodeVal w u P[k].code) := hcv
  have HBG : Hid (∀ W sv A, Below w.heap.size w W → IntsVal W sv A → SureAns P k A → Calls Tryd.prog 62 #[u, sv] W fun e w' => ∃ m D S, e = .returned (.map (some W.heap.size)) ∧ Starts P[k] S ∧ MapOk S D ∧ MapAt w' W.heap.size m D ∧ m ≤ 1000 ∧ Below W.heap.size W w') := fun W sv A hb hI hA => flowBegun_any P P[k] OK.out u sv A W (hcv.keeps (keeps_below hb)) hI (HRE.out A hA).1 (HRE.out A hA).2
  have hkI : (k : Int) < P.length := by omega
  have d2' := fun o => cell_alloc d2 o
  obtain ⟨uo, un, uc, rfl⟩ : ∃ uo un uc, u = .slice uo un uc := by obtain ⟨ao, b, off, n, cap, rfl, _⟩ := hcv; exact ⟨ao, n, cap, rfl⟩
  clear hfe hbx ht hv hcv hP d0 d1
  generalize P[k] = f at *
  go_enter Tryd.func36, Tryd.ntmps36
  go_upto_region 4 with (first
    | (go_at_call 61; refine (hSu _).mono ?_; rintro e w1 ⟨v1, A, rfl, hA, hI, hb1⟩; have HB1 : Hid (Below w.heap.size w w1) := ((Below.refl _ _).alloc (Nat.le_refl _) _).trans (hb1.mono (by simp)); obtain ⟨ao1, cap1, rfl⟩ := hI.shape; have hBg := HBG.out w1 _ A HB1.out hI hA)
    | (go_at_call 62; refine hBg.mono ?_; rintro e w2 ⟨m, D, S, rfl, hst, hmo, hown, hm1000, hb2⟩))
  have hz1 := HB1.out.size
  have hz2 := hb2.size
  have hzB : w1.heap.size < w2.heap.size := hown.lt
  have HB2 : Hid (Below w.heap.size w w2) := below_call HB1.out hz1 hb2
  have HST : Hid (Starts f S) := hst
  have HMO : Hid (MapOk S D) := hmo
  have hsz : Maps.size D = S.length := hmo.size
  obtain ⟨hk0, -⟩ := hst.first
  have hkn : S.length ≤ 1000 := by
    have hlt : ∀ x ∈ S, x < f.code.length := fun x hx => (hst.reach OK.out hx).2
    have h1 := rank_all hlt
    have h2 : ∀ j, rank S j ≤ j := fun j => by
      induction j with
      | zero => rw [rank_zero]; omega
      | succ j ih => rw [rank_next hst.rises]; split <;> omega
    have := h2 f.code.length
    omega
  have HOW2 : Hid (MapAt w2 w1.heap.size m D) := hown
  generalize w1.heap.size = B at *
  clear hst hmo hI hA hb1 hb2 hBg hSu d2' d2
  go_upto_region 6 with (first
    | (at_len; refine wpList_len_own _ rfl _ 90 rfl 3 3 Tryd.underlying90 _ B m D rfl hown ?_)
    | (at_make; refine wpList_make_full _ rfl (.tmp 28) (.tmp 28) 26 rfl 0 68 iB _ 4 Tryd.underlying26 hiB hzB0 hzB1 .i64 .i64 _ _ S.length rfl rfl (by simp [hsz]) (by simp [hsz]) (by rw [hzB2]; omega) (by unfold maxLen; omega) (Nat.zero_le _) ?_; intro w3 hown3 hg3; rw [made_blks] at hown3; have HM3 := hown.kept hg3 (by simp))
    | (at_range; refine wpList_range_own _ rfl _ 90 rfl 3 3 mlaw Tryd.underlying90 _ B m D rfl HM3 ?_; intro w4 hrg4 hg4 hs4))
  have hz3 := hg3.size
  have hgz : w2.heap.size < w3.heap.size := by
    have h := (World.ownsRow.lt hown3 w2.heap.size rfl).2
    exact h
  have HB4 : Hid (Below w.heap.size w w4) := below_call (below_call HB2.out (by omega) (below_grown hg3)) (by omega) (below_grown hg4)
  have HR4 : Hid (BlkRow w4 w2.heap.size S.length (fun _ => 0) (fun i => (((fun _ => 0) i : Nat) : Int)) (fun _ => .slice none 0 0)) := World.ownsRow.kept hown3 hg4 (Or.inr (by simp [Value.ownBlock]))
  have HRG : Hid (w4.ranges Tryd.prog 3 (plainElem Tryd.prog 3) B w3.heap.size m D (Maps.has D) (Maps.size D)) := hrg4
  have hBg : B ≠ w2.heap.size := by omega
  have hrg : w3.heap.size ≠ w2.heap.size := by omega
  generalize hGG : w2.heap.size = g at *
  generalize hRR : w3.heap.size = r at *
  have hgw : w.heap.size ≤ g := by omega
  have hBw : w.heap.size ≤ B := hz1
  have hrw : w.heap.size ≤ r := by omega
  clear hown3 hg3 HM3 hrg4 hg4 hown HOW2
  go_loopw [10] (fun _ wr => ∃ (left : Lit → Bool) (cnt : Nat) (F : Nat → Int) (T : Nat → Nat), wr.ranges Tryd.prog 3 (plainElem Tryd.prog 3) B r m D left cnt ∧ (∀ z, left z = true → Maps.has D z = true) ∧ BlkRow wr g S.length F (fun i => ((T i : Nat) : Int)) (fun _ => .slice none 0 0) ∧ (∀ i (hi : i < S.length), left (.int .i64 ((S[i] : Nat) : Int)) = false → F i = ((S[i] : Nat) : Int) ∧ EndAt f S S[i] (T i)) ∧ Below w.heap.size w wr) (fun _ wr => wr.rangeLeft B r)
  case atStart =>
    refine ⟨_, _, _, fun _ => 0, HRG.out, fun _ h => h, HR4.out, fun i hi h => ?_, HB4.out⟩
    have hh := (HMO.out.has ((S[i] : Nat) : Int)).2 ⟨S[i], List.getElem_mem hi, rfl⟩
    rw [h] at hh
    cases hh
  case round =>
    obtain ⟨left, cnt, F, T, hrng, hsub, hrow, hdone, hbr⟩ := hrel
    have HSUB : Hid (∀ z, left z = true → Maps.has D z = true) := hsub
    have HDN : Hid (∀ i (hi : i < S.length), left (.int .i64 ((S[i] : Nat) : Int)) = false → F i = ((S[i] : Nat) : Int) ∧ EndAt f S S[i] (T i)) := hdone
    have HBR : Hid (Below w.heap.size w wr) := hbr
    have HRW : Hid (BlkRow wr g S.length F (fun i => ((T i : Nat) : Int)) (fun _ => .slice none 0 0)) := hrow
    have HRN : Hid (wr.ranges Tryd.prog 3 (plainElem Tryd.prog 3) B r m D left cnt) := hrng
    have hzr := hbr.size
    have HLEFT : Hid (wr.rangeLeft B r = cnt) := hrng.left_eq
    clear hsub hdone hbr hrow
    go_upto_region 8 with (at_next; refine wpList_next_ranges_ii _ rfl _ rfl 3 3 .i64 .i64 mlaw Tryd.underlying3 Tryd.underlying3 B r m D left cnt rfl hrng ?_ ?_)
    · intro _ hl0
      have HMP : Hid (MapAt wr B m D) := HRN.out.owns
      have HFT : Hid (∀ i (hi : i < S.length), F i = ((S[i] : Nat) : Int) ∧ EndAt f S S[i] (T i)) := fun i hi => HDN.out i hi (hl0 _)
      have HLEAD : Hid (Calls Tryd.prog 64 #[.slice (some ⟨g, 0, none⟩) S.length S.length, .slice uo un uc, .map (some B)] wr fun e w' => e = .returned (.tuple #[]) ∧ ∃ VV LL, BlkRow w' g S.length F (fun i => ((T i : Nat) : Int)) VV ∧ Slots w' wr.heap.size (2 * S.length) VV LL ∧ LeadTo f S T S.length S.length LL ∧ wr.grownBy w' (some g)) := lead_any P f OK.out S HST.out D HMO.out B m g F T (fun i hi => (HFT.out i hi).2) _ w wr HBR.out hgw HCV.out HMP.out HRW.out
      clear hl0 hrng
      go_wp2_with (go_at_call 64; refine HLEAD.out.mono ?_; rintro e w5 ⟨rfl, VV, LL, hr5, hs5, hl5, hg5⟩)
      go_ret
      refine ⟨g, S, T, VV, LL, rfl, ⟨HST.out, fun i hi => (HFT.out i hi).2, ?_, ?_, hl5⟩, hgw, below_gb HBR.out hg5 hgw (by omega)⟩
      · have e : bCells (fun i => ((S.getD i 0 : Nat) : Int)) (fun i => ((T i : Nat) : Int)) VV S.length = bCells F (fun i => ((T i : Nat) : Int)) VV S.length := bCells_same _ fun i hi => ⟨by rw [(HFT.out i hi).1]; simp [List.getD, hi], rfl, rfl, rfl⟩
        show World.ownsRow _ _ _ _ _ _ (bCells _ _ _ _)
        rw [e]
        exact hr5
      · exact ⟨fun s hs => own_mono (hs5.own s hs) (by omega), hs5.apart⟩
    · intro x c w5 cnt5 hwx hwc hlx hat hrg5 hlt5 hg5 hs5 hen
      obtain ⟨q, hqS, hxq⟩ := (HMO.out.has x).1 (HSUB.out _ hlx)
      subst hxq
      obtain ⟨hrl, hrs⟩ := rank_lt HST.out.rises hqS
      have hrs := hrs hrl
      have hcr : c = ((rank S q : Nat) : Int) := by
        have h := hat (.lit (.int .i64 0))
        rw [HMO.out.key q hqS] at h
        simp at h
        exact h.symm
      subst hcr
      have HR5 : Hid (BlkRow w5 g S.length F (fun i => ((T i : Nat) : Int)) (fun _ => .slice none 0 0)) := World.ownsRow.kept HRW.out hg5 (Or.inr (by simp [Value.ownBlock]; omega))
      have HB5 : Hid (Below w.heap.size w w5) := below_gb HBR.out hg5 hrw (by omega)
      have HRG5 : Hid (w5.ranges Tryd.prog 3 (plainElem Tryd.prog 3) B r m D (fun z => left z && !z.sameKey (.int .i64 ((q : Nat) : Int))) cnt5) := hrg5
      have HEND : Hid (Calls Tryd.prog 63 #[.slice uo un uc, .int .i64 ((q : Nat) : Int), .map (some B)] w5 fun e w' => ∃ t, e = .returned (.int .i64 ((t : Nat) : Int)) ∧ EndAt f S q t ∧ w' = w5) := flowEnd_any P f OK.out S HST.out D HMO.out B m q hqS _ w5 (HCV.out.keeps (keeps_below HB5.out)) hrg5.owns
      have HQ : Hid (S[rank S q]'hrl = q) := hrs
      have HLT5 : Hid (cnt5 < cnt) := hlt5
      have c0 := blk_from HR5.out (rank S q) hrl
      have c1 := blk_to HR5.out (rank S q) hrl
      have f0 := HR5.out.frozenAt (rank S q * 4)
      have f1 := HR5.out.frozenAt (rank S q * 4 + 1)
      have HPUT : Hid (∀ t : Nat, BlkRow ((w5.setCell ⟨g, rank S q * 4, none⟩ (.int .i64 ((q : Nat) : Int))).setCell ⟨g, rank S q * 4 + 1, none⟩ (.int .i64 ((t : Nat) : Int))) g S.length (upd F (rank S q) ((q : Nat) : Int)) (upd (fun i => ((T i : Nat) : Int)) (rank S q) ((t : Nat) : Int)) (fun _ => .slice none 0 0) ∧ w5.grownBy ((w5.setCell ⟨g, rank S q * 4, none⟩ (.int .i64 ((q : Nat) : Int))).setCell ⟨g, rank S q * 4 + 1, none⟩ (.int .i64 ((t : Nat) : Int))) (some g)) := fun t => by
        have h1 := blk_store HR5.out (rank S q * 4) (.int .i64 ((q : Nat) : Int)) (bCells_from _ _ _ _ _ hrl _)
        have h2 := blk_store h1.1 (rank S q * 4 + 1) (.int .i64 ((t : Nat) : Int)) (bCells_to _ _ _ _ _ hrl _)
        exact ⟨h2.1, gb_trans h1.2 h2.2⟩
      have HNX : Hid (∀ t, EndAt f S q t → ∀ i (hi : i < S.length), (left (.int .i64 ((S[i] : Nat) : Int)) && !(Lit.int .i64 ((S[i] : Nat) : Int)).sameKey (.int .i64 ((q : Nat) : Int))) = false → upd F (rank S q) ((q : Nat) : Int) i = ((S[i] : Nat) : Int) ∧ EndAt f S S[i] (upd T (rank S q) t i)) := fun t ht i hi h => by
        by_cases hir : i = rank S q
        · subst hir
          rw [upd_same, upd_same, HQ.out]
          exact ⟨rfl, ht⟩
        · have hne : S[i] ≠ q := fun e => hir (by rw [← e]; exact (rank_at HST.out.rises i hi).symm)
          rw [Maps.sameKey_ne (by simp; omega)] at h
          rw [upd_other _ hir, upd_other _ hir]
          exact HDN.out i hi (by simpa using h)
      have hrI : ((rank S q : Nat) : Int) < S.length := by omega
      have hc1' : (w5.setCell ⟨g, rank S q * 4, none⟩ (.int .i64 ((q : Nat) : Int))).cell? ⟨g, rank S q * 4 + 1, none⟩ = some (.int .i64 ((T (rank S q) : Nat) : Int)) := by
        have h1 := blk_store HR5.out (rank S q * 4) (.int .i64 ((q : Nat) : Int)) (bCells_from _ _ _ _ _ hrl _)
        exact blk_to h1.1 (rank S q) hrl
      clear hlx hat hrg5 hlt5 hg5 hrng hrs hqS
      generalize rank S q = rk at *
      go_wp2_with (go_at_call 63; refine HEND.out.mono ?_; rintro e w6 ⟨t, rfl, hte, hw6⟩; replace hw6 := hw6.symm; subst hw6)
      go_roundw
      case rel =>
        refine ⟨_, cnt5, upd F rk ((q : Nat) : Int), upd T rk t, HRG5.out.kept (HPUT.out t).2 (by simpa using hBg) (by simpa using hrg), fun z hz => HSUB.out z (by simp at hz; exact hz.1), ?_, HNX.out t hte, below_gb HB5.out (HPUT.out t).2 hgw (by omega)⟩
        rw [upd_cast]
        exact (HPUT.out t).1
      case measure =>
        rw [(HRG5.out.kept (HPUT.out t).2 (by simpa using hBg) (by simpa using hrg)).left_eq, HLEFT.out]
        exact HLT5.out

set_option maxRecDepth 100000 in
/-- flow.Blocks, of a right program. -/
theorem Blocks_right (P : List Fn) (hR : ProofAns P 0) (k : Nat) (hk : k < P.length) (v : Value) (w : World) (ht : TabOk w) (hc : CallOk w) (hv : ProgVal w v P) :
    Calls Tryd.prog 12 #[.agg #[v], .int .i64 k] w fun e w' => ∃ g S T VV LL, e = .returned (.tuple #[.slice (some ⟨g, 0, none⟩) S.length S.length, .int .i64 0]) ∧ BlocksAt w' w.heap.size g P[k] S T VV LL ∧ w.heap.size ≤ g ∧ Below w.heap.size w w' := by
  have hbx : ∀ o, Below w.heap.size w (w.alloc o) := fun o => (Below.refl _ _).alloc (Nat.le_refl _) _
  have hC := fun o => flowCheck_any P v k (w.alloc o) (ht.below (hbx o)) (hc.below (hbx o)) (hv.keeps (keeps_below (hbx o)))
  have HLV : Hid (∀ W, Below w.heap.size w W → Calls Tryd.prog 36 #[.agg #[v], .int .i64 k] W fun e w' => ∃ g S T VV LL, e = .returned (.slice (some ⟨g, 0, none⟩) S.length S.length) ∧ BlocksAt w' W.heap.size g P[k] S T VV LL ∧ W.heap.size ≤ g ∧ Below W.heap.size W w') := fun W hb => blocks_any P hR k hk v W (ht.below hb) (hc.below hb) (hv.keeps (keeps_below hb))
  have HE0 : Hid (∀ E, FlowErr P k E → E = 0) := fun E h => flowErr_right h hR (by omega) (by omega)
  obtain ⟨ao, n, cap, rfl⟩ := hv.shape
  clear ht hc hbx
  go_enter Tryd.func12, Tryd.ntmps12
  go_wp2_with (first
    | (go_at_call 35; refine (hC _).mono ?_; rintro e w1 ⟨E, rfl, hE, hb1⟩; obtain rfl := HE0.out E hE; have k0 := keeps_below hb1 ⟨w.heap.size, 0, none⟩ (.slice ao n cap) (by simp); have HB1 : Hid (Below w.heap.size w w1) := ((Below.refl _ _).alloc (Nat.le_refl _) _).trans (hb1.mono (by simp)); clear hE)
    | (go_at_call 36; refine (HLV.out _ HB1.out).mono ?_; rintro e w2 ⟨g, S, T, VV, LL, rfl, hB, hgw, hb2⟩))
  go_ret2
  have hz := HB1.out.size
  exact ⟨g, S, T, VV, LL, rfl, ⟨hB.starts, hB.ends, hB.row, ⟨fun s hs => own_mono (hB.slots.own s hs) hz, hB.slots.apart⟩, hB.led⟩, by omega, HB1.out.trans (hb2.mono hz)⟩
end Go.Proofs.YteilohamjijpbaaDoor
