/- Contract of the document's answer to P5.2 (tierlineref.CalledOf). -/
import Derived.Test.YtepnhemlhogmgaaDoorCalledAll
import Derived.Test.YtepnhemlhogmgaaDoorWhereOf
namespace Go.Proofs.YtepnhemlhogmgaaDoor
open Go Go.RowKit

theorem row_apart {w : World} {g n b j : Nat} {s : List Bool} {kk : IntKind} {z : Int} (h : BoolRow w g n s) (hc : w.cell? ⟨b, j, none⟩ = some (.int kk z)) : b ≠ g := by
  rintro rfl
  rcases h.2 with ⟨e, _⟩ | ⟨g', cap, cur, e, _, hh, hn, _, hs, ht⟩
  · cases e
  · obtain ⟨rfl, rfl⟩ : b = g' ∧ n = cap := by simpa using e
    rw [cell_of_row w b j cur _ (0, 0) hh] at hc
    have hj := (Array.getElem?_eq_some_iff.1 hc).1
    have h2 : (cur.toList.take (n * 1))[j]? = (bls s)[j]? := by rw [ht]
    rw [List.getElem?_take_of_lt (by omega), Array.getElem?_toList, hc] at h2
    have h3 := h2.symm
    simp only [bls, List.getElem?_map, Option.map_eq_some_iff] at h3
    obtain ⟨a, _, e⟩ := h3
    cases e

/-- The same answer, for a function of a right program. -/
theorem whereOf_zero (P : List Fn) (h0 : ProofAns P 0) (k : Nat) (hk : k < P.length) (v : Value) (w : World) (hv : ProgVal w v P) :
    Calls Tryd.prog 11 #[.agg #[v], .int .i64 k] w fun e w' => ∃ v' s, e = .returned (.tuple #[v', .int .i64 0]) ∧ Reach P[k] s ∧ IntsVal w' v' (whereL s) ∧ Below w.heap.size w w' :=
  (whereOf_any P v k w hv).mono fun _ _ ⟨v', E, A, he, hA, hI, hb⟩ => by
    rcases hA with ⟨a, b, _⟩ | ⟨_, b, _⟩ | ⟨_, rfl, k', e, hk', s, hs, rfl⟩
    · exact absurd (proofAns_unique b h0) a
    · exact absurd (by omega) b
    · obtain rfl : k = k' := by omega
      exact ⟨v', s, he, hs, hI, hb⟩

set_option maxRecDepth 100000 in
set_option maxHeartbeats 8000000 in
theorem calledOf_any (P : List Fn) (v : Value) (w : World) (hv : ProgVal w v P) :
    Calls Tryd.prog 14 #[.agg #[v]] w fun e w' => CalledPost P w e w' := by
  have hbx : ∀ o, Below w.heap.size w (w.alloc o) := fun o => (Below.refl _ _).alloc (Nat.le_refl _) _
  by_cases h0 : ProofAns P 0
  · obtain ⟨iB, hiB, hzB0, hzB1, hzB2⟩ := info_parts infoBool
    have hC := fun o => proven_zero P h0 v (w.alloc o) (hv.keeps (keeps_below (hbx o)))
    have hP := proof_code h0
    have hp1 := (codeProg_zero hP).1
    have hp4 := (codeProg_zero hP).2.1
    have HWO : Hid (∀ k (hk : k < P.length) W, Below w.heap.size w W → Calls Tryd.prog 11 #[.agg #[v], .int .i64 k] W fun e w' => ∃ v' s, e = .returned (.tuple #[v', .int .i64 0]) ∧ Reach P[k] s ∧ IntsVal w' v' (whereL s) ∧ Below W.heap.size W w') := fun k hk W hb => whereOf_zero P h0 k hk v W (hv.keeps (keeps_below hb))
    have H0 : Hid (ProofAns P 0) := h0
    have HST : Hid (CLoops P true ((List.replicate P.length false).set 0 true)) := cloops_start hp1
    have HEND : Hid (∀ c, CLoops P false c → CalledSpec P c) := fun c ⟨a, b, d, e⟩ => calledSpec_of hP a b d (e rfl)
    have HNX : Hid (∀ c0 c again', CLoops P true c0 → CMid P c0 P.length 0 again' c → CLoops P again' c ∧ unseen c + (if again' = true then 1 else 0) < unseen c0 + (if true = true then 1 else 0)) := fun c0 c ag a b => cloops_next a b
    have HOK : Hid (∀ k (hk : k < P.length), 1 ≤ P[k].code.length ∧ P[k].code.length ≤ 40) := fun k hk => ⟨(fnOk_of hP (List.getElem_mem hk)).1.len1, (fnOk_of hP (List.getElem_mem hk)).1.len2⟩
    have HFIT : Hid (∀ k (hk : k < P.length) pc t, CallsAt P[k] pc t → ∃ m : Nat, t = m ∧ m < P.length) := fun k hk pc t h => calls_fit hP hk h
    have HCL : Hid (∀ ag c, CLoops P ag c → c.length = P.length) := fun ag c h => h.1
    obtain ⟨ao, b, off, N, cap, rfl, ⟨hlen, haddr, hat⟩, hcap, hmax⟩ := hv
    obtain rfl := haddr (by omega)
    unfold maxLen at hmax
    have HN : Hid (P.length = N) := hlen
    have HAT : Hid (∀ k (h : k < P.length), ∃ u, FnAt w b (off + k * 3) P[k] u) := hat
    unfold CalledPost
    rw [hlen] at hp1 hp4 HST HNX HCL ⊢
    have hcp := hcap.1
    clear h0 hP hbx hat haddr hlen hcap
    have hm0 := made_false N
    go_enter Tryd.func14, Tryd.ntmps14
    go_wp2_with (first
      | (go_at_call 32; refine (hC _).mono ?_; rintro e w0 ⟨rfl, hb0⟩; have k0 := keeps_below hb0 ⟨w.heap.size, 0, none⟩ (.slice (some ⟨b, off, none⟩) N cap) (by simp); have HB0 : Hid (Below w.heap.size w w0) := ((Below.refl _ _).alloc (Nat.le_refl _) _).trans (hb0.mono (by simp)); have hz0 : w.heap.size < w0.heap.size := (by have := hb0.size; simp at this; omega); clear hb0)
      | (at_make; refine wpList_make_full _ rfl (.tmp 19) (.tmp 19) 32 rfl 0 4 iB _ 1 Tryd.underlying32 hiB hzB0 hzB1 .i64 .i64 _ _ N rfl rfl (by simp) (by simp) (by rw [hzB2]; omega) (by unfold maxLen; omega) (Nat.zero_le _) ?_; intro w1 hown1 hg1; rw [hm0] at hown1; have hb1 := below_grown hg1; have k1 := keeps_below hb1 _ _ k0; have c0 := bool_cell hown1 (by simp) 0 (by omega); have f0 := hown1.frozenAt 0))
    have HSTO := bool_store hown1 0 true
    have hz1 : w0.heap.size < w1.heap.size := (hown1.lt w0.heap.size rfl).2
    have HR2 : Hid (BoolRow (w1.setCell ⟨w0.heap.size, 0, none⟩ (.bool true)) w0.heap.size N ((List.replicate N false).set 0 true)) := HSTO.1
    have HG2 : Hid (w1.grownBy (w1.setCell ⟨w0.heap.size, 0, none⟩ (.bool true)) (some w0.heap.size)) := HSTO.2
    have HB1 : Hid (Below w.heap.size w w1) := below_call HB0.out (by omega) hb1
    clear HSTO hown1 hg1 hb1 hm0 c0 f0
    go_loopg [6] (unseen ((List.replicate N false).set 0 true) + 1) (fun m ag wr => ∃ (again : Bool) (c : List Bool), m = unseen c + (if again = true then 1 else 0) ∧ ag = .bool again ∧ CLoops P again c ∧ BoolRow wr w0.heap.size N c ∧ w1.grownBy wr (some w0.heap.size))
    case atStart => exact ⟨true, _, rfl, rfl, HST.out, HR2.out, HG2.out⟩
    case round =>
      rename World => wa
      obtain ⟨again, c, hm, rfl, hlp, hrow, hgr⟩ := hrel
      have hcl := HCL.out _ _ hlp
      have HM : Hid (gk = unseen c + (if again = true then 1 else 0)) := hm
      have HLP : Hid (CLoops P again c) := hlp
      have HRW : Hid (BoolRow wa w0.heap.size N c) := hrow
      have HGR : Hid (w1.grownBy wa (some w0.heap.size)) := hgr
      have HBR : Hid (Below w.heap.size w wa) := below_gb HB1.out hgr (by omega) (by omega)
      clear hm hlp hgr hrow
      cases again
      · have HSP : Hid (CalledSpec P c) := HEND.out c HLP.out
        go_wp2
        go_ret2
        exact Or.inr ⟨H0.out, w0.heap.size, c, rfl, HSP.out, HRW.out, by omega, HBR.out⟩
      · go_wp2
        go_loopw [6, 7] (fun ag i wr => ∃ (k : Nat) (again' : Bool) (c' : List Bool), k ≤ N ∧ i = .int .i64 k ∧ ag = .bool again' ∧ CMid P c k 0 again' c' ∧ BoolRow wr w0.heap.size N c' ∧ w1.grownBy wr (some w0.heap.size)) (fun _ i _ => N - (intOf i).toNat)
        case atStart => exact ⟨0, false, c, Nat.zero_le _, rfl, rfl, CMid.start _ _, HRW.out, HGR.out⟩
        case round =>
          rename World => wb
          obtain ⟨k, again', c', hk, rfl, rfl, hmid, hrow, hgr⟩ := hrel
          have j1 := gb_cell hgr k1 (by show w.heap.size ≠ _; omega)
          have HBB : Hid (Below w.heap.size w wb) := below_gb HB1.out hgr (by omega) (by omega)
          have hzb : w0.heap.size < wb.heap.size := by have := hgr.size; omega
          have hcl' : c'.length = N := hmid.len.trans hcl
          have HMID : Hid (CMid P c k 0 again' c') := hmid
          have HROW : Hid (BoolRow wb w0.heap.size N c') := hrow
          have HGB : Hid (w1.grownBy wb (some w0.heap.size)) := hgr
          clear hmid hgr hrow
          by_cases hlt : k < N
          · have hkP : k < P.length := by rw [HN.out]; exact hlt
            obtain ⟨u, hfn⟩ := HAT.out k hkP
            obtain ⟨hl1, hl2⟩ := HOK.out k hkP
            have hwo := HWO.out k hkP wb HBB.out
            have HKP : Hid (k < P.length) := hkP
            have HFI : Hid (∀ pc t, CallsAt P[k] pc t → ∃ m : Nat, t = m ∧ m < N) := fun pc t h => by have := HFIT.out k hkP pc t h; rw [HN.out] at this; exact this
            obtain ⟨-, -, d2, hcv⟩ := hfn
            have HNEXT : Hid (∀ q ag c2, CMid P c k q ag c2 → (P[k].code.length ≤ q ∨ c2.getD k false = false) → CMid P c (k + 1) 0 ag c2) := fun q ag c2 h1 h2 => h1.next hkP h2
            have HSKIP : Hid (∀ q ag c2, CMid P c k q ag c2 → (∀ t : Nat, CallsAt P[k] q (t : Int) → c2.getD t false = true) → CMid P c k (q + 1) ag c2) := fun q ag c2 h1 h2 => h1.skip hkP h2
            have HNEW : Hid (∀ q ag c2 (t : Nat), CMid P c k q ag c2 → c2.getD k false = true → CallsAt P[k] q (t : Int) → t < c2.length → c2.getD t false = false → CMid P c k (q + 1) true (c2.set t true)) := fun q ag c2 t h1 h2 h3 h4 h5 => h1.new hkP h2 h3 h4 h5
            generalize P[k] = f at hl1 hl2 hwo HFI hcv HNEXT HSKIP HNEW
            obtain ⟨ao1, b1, off1, n, cap1, rfl, ⟨hln, had1, hat1⟩, hcp1, hmx1⟩ := hcv
            obtain rfl := had1 (by omega)
            have HAT1 : Hid (∀ q (h : q < f.code.length), insAt w b1 (off1 + q * 5) f.code[q]) := hat1
            have HLN : Hid (f.code.length = n) := hln
            rw [hln] at hl1 hl2 HNEXT
            unfold maxLen at hmx1
            have hkI : (k : Int) < N := by omega
            have hcpi := hcp1.1
            clear hat1 had1 hln hkP hcp1
            go_wp2_with (go_at_call 11; refine hwo.mono ?_; rintro e w3 ⟨v3, s, rfl, hre, hI, hb3⟩; have hre' := hre; unfold Reach at hre'; rw [HLN.out] at hre'; obtain ⟨ao3, b3, off3, n3, cap3, rfl, hl3, ha3, hc3, hcp3, hmx3⟩ := ints_get hI; rw [whereL_length, hre'.1] at hl3; subst hl3; obtain rfl := ha3 (by omega); have HRE : Hid (s.length = n ∧ ∀ q, q < n → (s.getD q false = true ↔ Way f 63 q)) := hre'; have HC3 : Hid (∀ q, q < n → w3.cell? ⟨b3, off3 + q, none⟩ = some (.int .i64 (whereI s q))) := (fun q hq => by rw [hc3 q hq, whereL_getD s q (by rw [hre'.1]; exact hq)]); have HB3 : Hid (Below wb.heap.size wb w3) := hb3; have q1 := keeps_below hb3 _ _ j1; clear hre hre' hI ha3 hc3 hb3)
            have hz3 := HB3.out.size
            have HBW3 : Hid (Below w.heap.size w w3) := below_call HBB.out (by omega) HB3.out
            have q2 := keeps_below HBW3.out _ _ d2
            have HROW3 : Hid (BoolRow w3 w0.heap.size N c') := ownsRow_below HROW.out HB3.out
            have hne3 : b3 ≠ w0.heap.size := row_apart HROW3.out (HC3.out 0 (by omega))
            have hb1l : b1 < w.heap.size := World.block_lt_of_cell? _ _ (HAT1.out 0 (by rw [HLN.out]; omega)).1
            have hbl : b < w.heap.size := World.block_lt_of_cell? _ _ d2
            clear hwo d2
            go_loopw [6, 10] (fun ag i wr => ∃ (q : Nat) (ag' : Bool) (c2 : List Bool), q ≤ n ∧ i = .int .i64 q ∧ ag = .bool ag' ∧ CMid P c k q ag' c2 ∧ BoolRow wr w0.heap.size N c2 ∧ w3.grownBy wr (some w0.heap.size)) (fun _ i _ => n - (intOf i).toNat)
            case atStart => exact ⟨0, again', c', Nat.zero_le _, rfl, rfl, HMID.out, HROW3.out, gb_refl _ _⟩
            case round =>
              obtain ⟨q, ag', c2, hq, rfl, rfl, hmid, hrow, hgr⟩ := hrel
              have r1 := gb_cell hgr q1 (by show w.heap.size ≠ _; omega)
              have r2 := gb_cell hgr q2 (by show b ≠ _; omega)
              have hls : c2.length = N := hmid.len.trans hcl
              have ck := bool_cell hrow hls k hlt
              have HGI : Hid (w3.grownBy wr (some w0.heap.size)) := hgr
              have HGW : Hid (w1.grownBy wr (some w0.heap.size)) := gb_trans (gb_trans HGB.out (gb_below _ HB3.out)) hgr
              have HR4 : Hid (BoolRow wr w0.heap.size N c2) := hrow
              have HM4 : Hid (CMid P c k q ag' c2) := hmid
              have hzr : w0.heap.size < wr.heap.size := (hrow.lt w0.heap.size rfl).2
              by_cases hqn : q < n
              · have hqI : (q : Int) < n := by omega
                cases hck : c2.getD k false
                · have HNN : Hid (CMid P c (k + 1) 0 ag' c2) := HNEXT.out q ag' c2 hmid (Or.inr hck)
                  rw [hck] at ck
                  clear hmid hgr hrow hck
                  go_wp2
                  go_roundw
                  case rel => exact ⟨k + 1, ag', c2, by omega, by go_num, rfl, HNN.out, HR4.out, HGW.out⟩
                  case measure => simp [intOf]; omega
                · have HCK : Hid (c2.getD k false = true) := hck
                  rw [hck] at ck
                  have hqx : q < f.code.length := by rw [HLN.out]; exact hqn
                  have hxw := (HAT1.out q hqx).keeps (keeps_below HBW3.out)
                  have HX : Hid (insD f q = f.code[q]) := insD_eq hqx
                  have HQX : Hid (q < f.code.length) := hqx
                  have HW : Hid (s.getD q false = true ↔ Way f 63 q) := HRE.out.2 q hqn
                  have cz := gb_cell hgr (HC3.out q hqn) (by show b3 ≠ _; omega)
                  generalize f.code[q] = x at hxw HX
                  obtain ⟨op, dst, xa, xb, imm⟩ := x
                  obtain ⟨y0, y1, y2, y3, y4⟩ := hxw
                  dsimp only at y0 y1 y2 y3 y4
                  have e0 := gb_cell hgr y0 (by show b1 ≠ _; omega)
                  have e1 := gb_cell hgr y1 (by show b1 ≠ _; omega)
                  have e2 := gb_cell hgr y2 (by show b1 ≠ _; omega)
                  have e3 := gb_cell hgr y3 (by show b1 ≠ _; omega)
                  have e4 := gb_cell hgr y4 (by show b1 ≠ _; omega)
                  have HR5 : Hid (BoolRow (wr.alloc (.cells #[.int .i64 op, .int .i64 dst, .int .i64 xa, .int .i64 xb, .int .i64 imm] 70)) w0.heap.size N c2) := hrow.alloc _
                  have HG5 : Hid (w3.grownBy (wr.alloc (.cells #[.int .i64 op, .int .i64 dst, .int .i64 xa, .int .i64 xb, .int .i64 imm] 70)) (some w0.heap.size)) := gb_trans hgr (gb_alloc wr _ _)
                  clear hmid hgr hrow hck hqx y0 y1 y2 y3 y4
                  cases hsq : s.getD q false
                  · have HNN : Hid (CMid P c k (q + 1) ag' c2) := HSKIP.out q ag' c2 HM4.out fun t ht => by have := HW.out.2 ht.2.1; rw [hsq] at this; cases this
                    rw [whereI_no hsq] at cz
                    have cz2 := fun o => cell_alloc cz o
                    clear hsq
                    go_wp2
                    go_roundw
                    case rel => exact ⟨q + 1, ag', c2, by omega, by go_num, rfl, HNN.out, HR5.out, HG5.out⟩
                    case measure => simp [intOf]; omega
                  · have hway := HW.out.1 hsq
                    rw [whereI_yes hsq] at cz
                    have hct0 : decide ((0 : Int) ≤ (ctT s q : Int)) = true := by simp
                    generalize ctT s q = ct at cz hct0
                    have cz2 := fun o => cell_alloc cz o
                    by_cases h17 : op = 17
                    · subst h17
                      have HCA : Hid (CallsAt f q imm) := ⟨HQX.out, hway, by rw [HX.out], by rw [HX.out]⟩
                      obtain ⟨t, rfl, htN⟩ := HFI.out q imm HCA.out
                      have htI : (t : Int) < N := by omega
                      have ct2 := bool_cell HR5.out hls t htN
                      have cf := HR5.out.frozenAt t
                      have HST5 := bool_store HR4.out t true
                      have HX1 : Hid (BoolRow ((wr.setCell ⟨w0.heap.size, t, none⟩ (.bool true)).alloc (.cells #[.int .i64 17, .int .i64 dst, .int .i64 xa, .int .i64 xb, .int .i64 (t : Int)] 70)) w0.heap.size N (c2.set t true)) := HST5.1.alloc _
                      have HX2 : Hid (w3.grownBy ((wr.setCell ⟨w0.heap.size, t, none⟩ (.bool true)).alloc (.cells #[.int .i64 17, .int .i64 dst, .int .i64 xa, .int .i64 xb, .int .i64 (t : Int)] 70)) (some w0.heap.size)) := gb_trans (gb_trans HGI.out HST5.2) (gb_alloc _ _ _)
                      clear hway hsq HST5
                      cases hc2t : c2.getD t false
                      · have HNN : Hid (CMid P c k (q + 1) true (c2.set t true)) := HNEW.out q ag' c2 t HM4.out HCK.out HCA.out (by omega) hc2t
                        rw [hc2t] at ct2
                        clear hc2t
                        go_wp2
                        go_roundw
                        case rel => exact ⟨q + 1, true, c2.set t true, by omega, by go_num, rfl, HNN.out, HX1.out, HX2.out⟩
                        case measure => simp [intOf]; omega
                      · have HNN : Hid (CMid P c k (q + 1) ag' c2) := HSKIP.out q ag' c2 HM4.out fun t' ht' => by
                          have a := ht'.2.2.2
                          have b := HCA.out.2.2.2
                          have : t' = t := by omega
                          rw [this]; exact hc2t
                        rw [hc2t] at ct2
                        clear hc2t
                        go_wp2
                        go_roundw
                        case rel => exact ⟨q + 1, ag', c2, by omega, by go_num, rfl, HNN.out, HR5.out, HG5.out⟩
                        case measure => simp [intOf]; omega
                    · have HNN : Hid (CMid P c k (q + 1) ag' c2) := HSKIP.out q ag' c2 HM4.out fun t ht => by have := ht.2.2.1; rw [HX.out] at this; exact absurd this h17
                      have ho : (op == 17) = false := by simpa using h17
                      clear h17 hway hsq
                      go_wp2
                      go_roundw
                      case rel => exact ⟨q + 1, ag', c2, by omega, by go_num, rfl, HNN.out, HR5.out, HG5.out⟩
                      case measure => simp [intOf]; omega
              · obtain rfl : q = n := by omega
                have HNN : Hid (CMid P c (k + 1) 0 ag' c2) := HNEXT.out q ag' c2 hmid (Or.inl (Nat.le_refl _))
                clear hmid hgr hrow
                go_wp2
                go_roundw
                case rel => exact ⟨k + 1, ag', c2, by omega, by go_num, rfl, HNN.out, HR4.out, HGW.out⟩
                case measure => simp [intOf]; omega
          · obtain rfl : k = N := by omega
            have HX := HNX.out _ _ _ HLP.out HMID.out
            go_wp2
            go_roundg (unseen c' + (if again' = true then 1 else 0))
            case measure => rw [HM.out]; exact HX.2
            case rel => exact ⟨again', c', rfl, rfl, HX.1, HROW.out, HGB.out⟩
  · have hC := fun o => proven_any P v (w.alloc o) (hv.keeps (keeps_below (hbx o)))
    have HNE : Hid (∀ E, ProofAns P E → (E != 0) = true) := fun E hE => by simp only [bne_iff_ne, ne_eq]; intro h; exact h0 (h ▸ hE)
    obtain ⟨ao, b, off, n, cap, rfl, _⟩ := hv
    clear h0 hbx
    go_enter Tryd.func14, Tryd.ntmps14
    go_wp2_with (go_at_call 32; refine (hC _).mono ?_; rintro e w1 ⟨E, rfl, hE, hb1⟩; have hne := HNE.out E hE; have HE : Hid (ProofAns P E) := hE; clear hE)
    go_ret2
    exact Or.inl ⟨E, hne, rfl, HE.out, ((Below.refl _ _).alloc (Nat.le_refl _) _).trans (hb1.mono (by simp))⟩

end Go.Proofs.YtepnhemlhogmgaaDoor
