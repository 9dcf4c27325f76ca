/- Contract of the document's LiveOf: what is live ahead of each instruction, register by register. -/
import Derived.Test.YteabbanjjdmjkaaDoorGroupL
namespace Go.Proofs.YteabbanjjdmjkaaDoor
open Go Go.RowKit

theorem fault_zeroL (P : List Fn) (v : Value) (k : Nat) (hk : k < P.length) (h : ProofAns P 0) (w : World) (hv : ProgVal w v P) :
    Calls Tryd.prog 64 #[.agg #[v], .int .i64 k] w fun e w' => e = .returned (.int .i64 0) ∧ Below w.heap.size w w' :=
  (fault_any P v k w hv).mono fun _ _ ⟨E, he, hE, hb⟩ => ⟨by
    rcases hE with ⟨h1, h2⟩ | ⟨_, h2, _⟩ | ⟨_, _, rfl⟩
    · rw [proofAns_unique h2 h] at h1; cases h1
    · exact absurd (by omega) h2
    · exact he, hb⟩
theorem fault_badL (P : List Fn) (v : Value) (fn : Int) (h : ¬ (ProofAns P 0 ∧ 0 ≤ fn ∧ fn < P.length)) (w : World) (hv : ProgVal w v P) :
    Calls Tryd.prog 64 #[.agg #[v], .int .i64 fn] w fun e w' => ∃ E, e = .returned (.int .i64 E) ∧ (E != 0) = true ∧ LiveAns P fn E [] ∧ Below w.heap.size w w' :=
  (fault_any P v fn w hv).mono fun _ _ ⟨E, he, hE, hb⟩ => ⟨E, he, by
    rcases hE with ⟨h1, h2⟩ | ⟨_, h2, rfl⟩ | ⟨h1, h2, rfl⟩
    · have : E ≠ 0 := by simpa using h1
      simpa using this
    · rfl
    · exact absurd ⟨h1, h2⟩ h, by
    rcases hE with ⟨h1, h2⟩ | ⟨h1, h2, rfl⟩ | ⟨h1, h2, rfl⟩
    · exact Or.inl ⟨by simpa using h1, h2, rfl⟩
    · exact Or.inr (Or.inl ⟨h1, h2, rfl, rfl⟩)
    · exact absurd ⟨h1, h2⟩ h, hb⟩
theorem any_take {α : Type} (l : List α) (p : α → Bool) (e : Nat) (t : α) (h : l[e]? = some t) : (l.take (e + 1)).any p = ((l.take e).any p || p t) := by
  rw [List.take_add_one, h, List.any_append]; simp

set_option maxRecDepth 100000 in
set_option maxHeartbeats 8000000 in
theorem liveOf_any (P : List Fn) (v : Value) (fn : Int) (w : World) (hv : ProgVal w v P) :
    Calls Tryd.prog 38 #[.agg #[v], .int .i64 fn] w fun e w' => LivePost P fn w e w' := by
  have hbx : ∀ o, Below w.heap.size w (w.alloc o) := fun o => (Below.refl _ _).alloc (Nat.le_refl _) _
  by_cases hok : ProofAns P 0 ∧ 0 ≤ fn ∧ fn < P.length
  · obtain ⟨h0, f0, f1⟩ := hok
    obtain ⟨i64i, hi64, hz0, hz1', hz2⟩ := info_parts info64
    obtain ⟨iB, hiB, hzB0, hzB1, hzB2⟩ := info_parts infoBool
    obtain ⟨k, rfl⟩ := Int.eq_ofNat_of_zero_le f0
    have hk : k < P.length := by omega
    have hF := fun o => fault_zeroL P v k hk h0 (w.alloc o) (hv.keeps (keeps_below (hbx o)))
    have OK : Hid (FlowOk P P[k]) := flowOk_of h0 (List.getElem_mem hk)
    have hl1 := OK.out.ok.len1
    have hl2 := OK.out.ok.len2
    have hS := fun W cv (hcv : CodeVal W cv P[k].code) => sureOf_any P P[k] OK.out.ok OK.out.ins cv W hcv
    have HAN : Hid (∀ O, LiveSpec P P[k] O → LiveAns P k 0 O) := fun O h => Or.inr (Or.inr ⟨h0, rfl, k, rfl, hk, h⟩)
    have HRD : Hid (∀ W x, Below w.heap.size w W → InsOk P x → Calls Tryd.prog 66 #[.agg #[v], x.val] W _) := fun W x hb hx => readsOf_any P v x W (hv.keeps (keeps_below hb)) hx
    obtain ⟨b, off, cap, u, rfl, d0, d1, d2, hcv, hm, hcc⟩ := prog_fn hv hk
    have hkI : (k : Int) < P.length := by omega
    clear hbx h0 f0 f1
    generalize P[k] = f at hS HAN hl1 hl2 d0 d1 hcv OK
    have HCV : Hid (∀ W, Below w.heap.size w W → CodeVal W u f.code) := fun W hb => hcv.keeps (keeps_below hb)
    obtain ⟨ao1, b1, off1, n, cap1, rfl, ⟨hln, had1, hat⟩, hcp1, hmx1⟩ := hcv
    unfold maxLen at hmx1
    obtain rfl := had1 (by omega)
    have HAT : Hid (∀ W, Below w.heap.size w W → ∀ q (h : q < n), ∃ x : Ins, insD f q = x ∧ insAt W b1 (off1 + q * 5) x ∧ InsOk P x ∧ (x.op = 15 ∨ x.op = 16 → 0 ≤ x.imm)) := fun W hb q h =>
      ⟨f.code[q]'(by omega), insD_eq (by omega), (hat q (by omega)).keeps (keeps_below hb), OK.out.ins _ (List.getElem_mem _)⟩
    have HLN : Hid (f.code.length = n) := hln
    rw [hln] at hl1 hl2
    have hcap1 := hcp1.1
    clear hat had1 hln hcp1
    obtain ⟨fp, hfp⟩ : ∃ z, z = f.params := ⟨_, rfl⟩
    obtain ⟨fr, hfr⟩ : ∃ z, z = f.regs := ⟨_, rfl⟩
    rw [← hfp] at d0 hS
    rw [← hfr] at d1 hS
    clear hfp hfr
    generalize P.length = N at *
    have t0 := fun o => cell_alloc d0 o
    have t1 := fun o => cell_alloc d1 o
    have t2 := fun o => cell_alloc d2 o
    have hm0 := made_false n
    clear d0 d1 d2 hv
    go_enter Tryd.func38, Tryd.ntmps38
    go_wp2_with (first
      | (go_at_call 64; refine (hF _).mono ?_; rintro e w1 ⟨rfl, hb1⟩; have k0 := keeps_below hb1 ⟨w.heap.size, 0, none⟩ (.slice (some ⟨b, off, none⟩) N cap) (by simp); have k1 := keeps_below hb1 _ _ (t0 _); have k2 := keeps_below hb1 _ _ (t1 _); have k3 := keeps_below hb1 _ _ (t2 _); have HB1 : Hid (Below w.heap.size w w1) := ((Below.refl _ _).alloc (Nat.le_refl _) _).trans (hb1.mono (by simp)); have hz1 : w.heap.size < w1.heap.size := (by have := hb1.size; simp at this; omega); have hcv1 := fun o => HCV.out (w1.alloc o) (HB1.out.alloc (by omega) _))
      | (go_at_call 65; refine (hS _ _ (hcv1 _)).mono ?_; rintro e w2 ⟨v2, A, rfl, hsp, hI2, hb2⟩; obtain ⟨ao2, b2, off2, n2, cap2, rfl, hlA, haA, hcA, hcpA, hmA⟩ := ints_get hI2; have j0 := keeps_below hb2 _ _ (cell_alloc k0 _); have i0 := keeps_below hb2 _ _ (way_box w1 _ _ 0 (.int .i64 fp) rfl); have i1 := keeps_below hb2 _ _ (way_box w1 _ _ 1 (.int .i64 fr) rfl); have i2 := keeps_below hb2 _ _ (way_box w1 _ _ 2 (.slice (some ⟨b1, off1, none⟩) n cap1) rfl); have HB2 : Hid (Below w.heap.size w w2) := below_call (HB1.out.alloc (by omega) _) (by simp; omega) hb2; have hz2w : w1.heap.size < w2.heap.size := (by have := hb2.size; simp at this; omega)))
    have HSA : Hid (∀ q, q < n → (A.getD q 0 < 0 ∧ ¬ Way f 63 q) ∨ (¬ A.getD q 0 < 0 ∧ Way f 63 q)) := fun q hq => by
      rcases hsp.2 q (by rw [HLN.out]; omega) with ⟨h, e⟩ | ⟨h, m, _, e, _⟩
      · exact Or.inl ⟨by rw [e]; decide, h⟩
      · exact Or.inr ⟨by rw [e]; omega, h⟩
    have hn2 : n + 1 = n2 := by rw [← hlA, hsp.1, HLN.out]
    obtain rfl := haA (by omega)
    have HCA : Hid (∀ W, Below w2.heap.size w2 W → ∀ q, q < n → W.cell? ⟨b2, off2 + q, none⟩ = some (.int .i64 (A.getD q 0))) := fun W hW q hq => keeps_below hW _ _ (hcA q (by omega))
    have HBX : Hid (∀ W, Below w2.heap.size w2 W → W.cell? ⟨w.heap.size, 0, none⟩ = some (.slice (some ⟨b, off, none⟩) N cap) ∧ W.cell? ⟨w1.heap.size, 0, none⟩ = some (.int .i64 fp) ∧ W.cell? ⟨w1.heap.size, 1, none⟩ = some (.int .i64 fr) ∧ W.cell? ⟨w1.heap.size, 2, none⟩ = some (.slice (some ⟨b1, off1, none⟩) n cap1)) := fun W hW => ⟨keeps_below hW _ _ j0, keeps_below hW _ _ i0, keeps_below hW _ _ i1, keeps_below hW _ _ i2⟩
    have hbw2 : b2 < w2.heap.size := World.block_lt_of_cell? _ _ (hcA 0 (by omega))
    clear hsp hI2 hlA haA hcA hcpA hS hF k0 k1 k2 k3 hcv1 hb1 hb2 j0 i0 i1 i2
    generalize w1.heap.size = FB at *
    go_loopw [9, 10] (fun v i wr => ∃ (q : Nat) (O : List Int), q ≤ n ∧ i = .int .i64 q ∧ (O.length = q ∧ ∀ j, j < q → OutL P f 0 j (O.getD j 0)) ∧ wr.ownsRow w2.heap.size 3 1 v q (i64s O) ∧ Below w2.heap.size w2 wr) (fun _ i _ => n - (intOf i).toNat)
    case atStart => exact ⟨0, [], Nat.zero_le _, rfl, ⟨rfl, fun q h => by omega⟩, World.ownsRow_nil _ _ _ _, Below.refl _ _⟩
    case round =>
      rename World => wa
      obtain ⟨q, O, hq, rfl, hO, hown, hba⟩ := hrel
      obtain ⟨j0, i0, i1, i2⟩ := HBX.out wa hba
      have hza : w2.heap.size ≤ wa.heap.size := hba.size
      have HBA : Hid (Below w2.heap.size w2 wa) := hba
      have HOUT : Hid (O.length = q ∧ ∀ j, j < q → OutL P f 0 j (O.getD j 0)) := hO
      by_cases hlt : q < n
      · have c1 := HCA.out wa hba q hlt
        obtain ⟨aov, capv, rfl⟩ := own_shape hown
        have hqI : (q : Int) < n := by omega
        have hqI2 : (q : Int) < n2 := by omega
        clear hO hba
        rcases HSA.out q hlt with ⟨hs, hw⟩ | ⟨hs, hw⟩
        · have HS : Hid ((O ++ [-1]).length = q + 1 ∧ ∀ j, j < q + 1 → OutL P f 0 j ((O ++ [-1]).getD j 0)) := outsL_snoc HOUT.out (outL_no hw)
          clear hw HOUT
          generalize A.getD q 0 = aq at c1 hs
          go_wp2_with (at_builtin; refine wpList_append_own _ rfl (.tmp 48) (.tmp 50) 27 rfl w2.heap.size 3 i64i _ 1 8 Tryd.underlying27 hi64 hz0 hz1' hz2 rfl (by decide) _ _ _ rfl (hown.alloc _) ⟨_, 0, none⟩ 1 1 (i64s [-1]) rfl rfl (news_list _ _ _ _ rfl) (i64s_one _) (by unfold maxLen; omega) (by omega) (by simp; omega) ?_; intro v2 w3 hown2 hg2 _; rw [← i64s_append] at hown2; have hb2 : Below w2.heap.size w2 w3 := (HBA.out.alloc (by omega) _).trans (grown_base (hown.alloc _) (by simp; omega) hg2))
          go_roundw
          case rel => exact ⟨q + 1, _, by omega, by go_num, HS.out, hown2, hb2⟩
          case measure => simp [intOf]; omega
        · have HS : Hid ((O ++ [0]).length = q + 1 ∧ ∀ j, j < q + 1 → OutL P f 0 j ((O ++ [0]).getD j 0)) := outsL_snoc HOUT.out (outL_yes hw)
          clear hw HOUT
          generalize A.getD q 0 = aq at c1 hs
          go_wp2_with (at_builtin; refine wpList_append_own _ rfl (.tmp 48) (.tmp 50) 27 rfl w2.heap.size 3 i64i _ 1 8 Tryd.underlying27 hi64 hz0 hz1' hz2 rfl (by decide) _ _ _ rfl (hown.alloc _) ⟨_, 0, none⟩ 1 1 (i64s [0]) rfl rfl (news_list _ _ _ _ rfl) (i64s_one _) (by unfold maxLen; omega) (by omega) (by simp; omega) ?_; intro v2 w3 hown2 hg2 _; rw [← i64s_append] at hown2; have hb2 : Below w2.heap.size w2 w3 := (HBA.out.alloc (by omega) _).trans (grown_base (hown.alloc _) (by simp; omega) hg2))
          go_roundw
          case rel => exact ⟨q + 1, _, by omega, by go_num, HS.out, hown2, hb2⟩
          case measure => simp [intOf]; omega
      · obtain rfl : q = n := by omega
        obtain ⟨g, capg, rfl, hgb, hgl, hmg, hng⟩ := own_at hown (by omega)
        have HO0 : Hid (OutsL P f q 0 0 O) := ⟨hO.1, fun j hj => by rw [if_neg (by omega)]; exact hO.2 j hj⟩
        have HOWN : Hid (wa.ownsRow w2.heap.size 3 1 (.slice (some ⟨g, 0, none⟩) q capg) q (i64s O)) := hown
        unfold maxLen at hmg
        clear hO hba hown HOUT j0 i0 i1
        go_wp2
        go_loopw [12, 13] (fun pw i wr => ∃ (r : Nat) (O' : List Int), r ≤ 12 ∧ i = .int .i64 r ∧ pw = .int .i64 ((2 ^ r : Nat) : Int) ∧ OutsL P f q r 0 O' ∧ wr.ownsRow w2.heap.size 3 1 (.slice (some ⟨g, 0, none⟩) q capg) q (i64s O') ∧ Below w2.heap.size w2 wr) (fun _ i _ => 12 - (intOf i).toNat)
        case atStart => exact ⟨0, O, by omega, rfl, rfl, HO0.out, HOWN.out, HBA.out⟩
        case round =>
          rename World => wb
          obtain ⟨r, O', hr, rfl, rfl, hO', hown', hbb⟩ := hrel
          obtain ⟨j0, i0, i1, i2b⟩ := HBX.out wb hbb
          have hzb : w2.heap.size ≤ wb.heap.size := hbb.size
          have hgwb : g < wb.heap.size := (hown'.lt g rfl).2
          have HBW : Hid (Below w.heap.size w wb) := HB2.out.trans (hbb.mono (by omega))
          have HBB : Hid (Below w2.heap.size w2 wb) := hbb
          have HOO : Hid (OutsL P f q r 0 O') := hO'
          have HOW : Hid (wb.ownsRow w2.heap.size 3 1 (.slice (some ⟨g, 0, none⟩) q capg) q (i64s O')) := hown'
          clear hO' hown' hbb
          by_cases hr12 : r < 12
          · have HP2 : Hid (((2 ^ r : Nat) : Int) * 2 = ((2 ^ (r + 1) : Nat) : Int)) := by show _ = _; rw [Nat.pow_succ]; omega
            have hpl := two_lt r hr12
            have hrI : (r : Int) < 12 := by omega
            obtain ⟨pw, hpw⟩ : ∃ pw : Nat, pw = 2 ^ r := ⟨_, rfl⟩
            have HPW : Hid (pw = 2 ^ r) := hpw
            rw [← hpw] at HP2 hpl
            rw [← hpw]
            clear hpw
            go_upto_region 19 with (at_make; refine wpList_make_full _ rfl (.tmp 58) (.tmp 58) 106 rfl 0 4 iB _ 1 Tryd.underlying106 hiB hzB0 hzB1 .i64 .i64 _ _ q rfl rfl (by simp) (by simp) (by rw [hzB2]; omega) (by unfold maxLen; omega) (Nat.zero_le _) ?_; intro wm hown1 hg1; rw [hm0] at hown1)
            have hbm : Below wb.heap.size wb wm := below_grown hg1
            have hzm : wb.heap.size < wm.heap.size := (hown1.lt wb.heap.size rfl).2
            have HRW0 : Hid (BoolRow wm wb.heap.size q (List.replicate q false)) := hown1
            have HBM : Hid (Below w2.heap.size w2 wm) := below_call HBB.out hzb hbm
            have HOWM : Hid (wm.ownsRow w2.heap.size 3 1 (.slice (some ⟨g, 0, none⟩) q capg) q (i64s O')) := ownsRow_below HOW.out hbm
            have HL0 : Hid (LRLoops P f r true (List.replicate q false)) := by have := lr_first (P := P) (f := f) (r := r); rw [HLN.out] at this; exact this
            clear hown1 hg1 hbm j0 i0 i1 i2b HOW
            generalize wb.heap.size = G at *
            go_wp2
            go_loopg [15] (unseen (List.replicate q false) + 1) (fun m ag wl => ∃ (again : Bool) (s : List Bool), m = unseen s + (if again = true then 1 else 0) ∧ ag = .bool again ∧ LRLoops P f r again s ∧ BoolRow wl G q s ∧ wm.grownBy wl (some G))
            case atStart => exact ⟨true, _, rfl, rfl, HL0.out, HRW0.out, gb_refl _ _⟩
            case round =>
              rename World => wc
              obtain ⟨again, s, hms, rfl, hlp, hrow, hgr⟩ := hrel
              have HM : Hid (gk = unseen s + (if again = true then 1 else 0)) := hms
              have HLP : Hid (LRLoops P f r again s) := hlp
              have HRW : Hid (BoolRow wc G q s) := hrow
              have HGR : Hid (wm.grownBy wc (some G)) := hgr
              have hls : s.length = q := hlp.1.len.trans HLN.out
              have HBC : Hid (Below w2.heap.size w2 wc) := below_gb HBM.out hgr hzb (by omega)
              obtain ⟨j0, i0, i1, i2c⟩ := HBX.out wc HBC.out
              clear hms hlp hrow hgr
              cases again
              · have HDN : Hid (∀ j, j < q → (s.getD j false = true ↔ Way f 63 j ∧ LiveW P f r j)) := fun j hj => HLP.out.done OK.out j (by rw [HLN.out]; exact hj)
                have HOC : Hid (wc.ownsRow w2.heap.size 3 1 (.slice (some ⟨g, 0, none⟩) q capg) q (i64s O')) := HOWM.out.kept HGR.out (Or.inr (by simp [Value.ownBlock]; omega))
                have hgc : g < wc.heap.size := (HOC.out.lt g rfl).2
                clear j0 i0 i1
                go_wp2
                go_loopw [22] (fun i wl => ∃ (j : Nat) (O2 : List Int), j ≤ q ∧ i = .int .i64 j ∧ OutsL P f q r j O2 ∧ wl.ownsRow w2.heap.size 3 1 (.slice (some ⟨g, 0, none⟩) q capg) q (i64s O2) ∧ wc.grownBy wl (some g)) (fun i _ => q - (intOf i).toNat)
                case atStart => exact ⟨0, O', Nat.zero_le _, rfl, HOO.out, HOC.out, gb_refl _ _⟩
                case round =>
                  rename World => wd
                  obtain ⟨j, O2, hj, rfl, hO2, hown2, hgr⟩ := hrel
                  have HBD : Hid (Below w2.heap.size w2 wd) := below_gb HBC.out hgr hgb (by omega)
                  obtain ⟨-, -, -, i2d⟩ := HBX.out wd HBD.out
                  by_cases hjq : j < q
                  · have hjI : (j : Int) < q := by omega
                    have cu := gb_cell hgr (bool_cell HRW.out hls j hjq) (by show G ≠ _; omega)
                    have co := row_cell hown2 j hjq
                    have cf := hown2.frozenAt j
                    have HU : Hid (s.getD j false = true ↔ Way f 63 j ∧ LiveW P f r j) := HDN.out j hjq
                    have hOq := hO2.2 j hjq
                    rw [if_neg (by omega)] at hOq
                    have HOQ : Hid (OutL P f r j (O2.getD j 0)) := hOq
                    have HO2 : Hid (OutsL P f q r j O2) := hO2
                    have HOW3 : Hid (wd.ownsRow w2.heap.size 3 1 (.slice (some ⟨g, 0, none⟩) q capg) q (i64s O2)) := hown2
                    have HGR2 : Hid (wc.grownBy wd (some g)) := hgr
                    have HSTO : Hid (∀ v, (wd.setCell ⟨g, j, none⟩ (.int .i64 v)).ownsRow w2.heap.size 3 1 (.slice (some ⟨g, 0, none⟩) q capg) q (i64s (O2.set j v)) ∧ wd.grownBy (wd.setCell ⟨g, j, none⟩ (.int .i64 v)) (some g)) := fun v => row_store hown2 j v
                    generalize s.getD j false = su at cu HU
                    generalize O2.getD j 0 = ov at co HOQ
                    clear hOq hO2 hown2 hgr
                    cases su
                    · have HN : Hid (OutsL P f q r (j + 1) O2) := outsL_same HO2.out hjq (fun h1 h2 => by have := HU.out.2 ⟨h1, h2⟩; cases this)
                      go_wp2
                      go_roundw
                      case rel => exact ⟨j + 1, O2, by omega, by go_num, HN.out, HOW3.out, HGR2.out⟩
                      case measure => simp [intOf]; omega
                    · have HAD := outL_add HOQ.out hr12 (HU.out.1 rfl).1 (HU.out.1 rfl).2
                      rw [← HPW.out] at HAD
                      obtain ⟨hadd, v0, v1⟩ := HAD
                      have HN : Hid (OutsL P f q r (j + 1) (O2.set j (ov + pw))) := outsL_set HO2.out hjq hadd
                      have HSV := HSTO.out (ov + pw)
                      have HX1 : Hid _ := HSV.1
                      have HX2 : Hid _ := gb_trans HGR2.out HSV.2
                      clear hadd HSV
                      go_wp2
                      go_roundw
                      case rel => exact ⟨j + 1, O2.set j (ov + pw), by omega, by go_num, HN.out, HX1.out, HX2.out⟩
                      case measure => simp [intOf]; omega
                  · obtain rfl : j = q := by omega
                    have HN : Hid (OutsL P f j (r + 1) 0 O2) := outsL_next hO2
                    have HOW3 : Hid (wd.ownsRow w2.heap.size 3 1 (.slice (some ⟨g, 0, none⟩) j capg) j (i64s O2)) := hown2
                    clear hO2 hown2 hgr
                    go_wp2
                    go_roundw
                    case rel => exact ⟨r + 1, O2, by omega, by go_num, by rw [← HP2.out], HN.out, HOW3.out, HBD.out⟩
                    case measure => simp [intOf]; omega
              · go_wp2
                clear j0 i0 i1
                go_loopw [15, 16] (fun ag i wl => ∃ (j : Nat) (ag' : Bool) (s' : List Bool), j ≤ q ∧ i = .int .i64 j ∧ ag = .bool ag' ∧ LRMid P f r s j ag' s' ∧ BoolRow wl G q s' ∧ wm.grownBy wl (some G)) (fun _ i _ => q - (intOf i).toNat)
                case atStart => exact ⟨0, false, s, Nat.zero_le _, rfl, rfl, LRMid.start HLP.out.1, HRW.out, HGR.out⟩
                case round =>
                  rename World => wd
                  obtain ⟨j, ag', s', hj, rfl, rfl, hmid, hrow, hgr⟩ := hrel
                  have HBD : Hid (Below w2.heap.size w2 wd) := below_gb HBM.out hgr hzb (by omega)
                  obtain ⟨j0, i0, i1, i2d⟩ := HBX.out wd HBD.out
                  have hls' : s'.length = q := hmid.row.len.trans HLN.out
                  have hzd : wm.heap.size ≤ wd.heap.size := hgr.size
                  have HMID : Hid (LRMid P f r s j ag' s') := hmid
                  have HROW : Hid (BoolRow wd G q s') := hrow
                  have HGD : Hid (wm.grownBy wd (some G)) := hgr
                  clear hmid hgr
                  by_cases hjq : j < q
                  · have hjI : (j : Int) < q := by omega
                    have hjI2 : (j : Int) < n2 := by omega
                    have HBWD : Hid (Below w.heap.size w wd) := HB2.out.trans (HBD.out.mono (by omega))
                    obtain ⟨x, hxe, hxi, hio, himm⟩ := HAT.out wd HBWD.out j hjq
                    have cs := bool_cell hrow hls' j hjq
                    have cfz := hrow.frozenAt j
                    have HST := bool_store hrow j true
                    have cA := HCA.out wd HBD.out j hjq
                    have HXE : Hid (insD f j = x) := hxe
                    have HIO : Hid (InsOk P x) := hio
                    have HBEH : Hid (∀ W, Below wd.heap.size wd W → Calls Tryd.prog 69 #[.agg #[.int .i64 fp, .int .i64 fr, .slice (some ⟨b1, off1, none⟩) q cap1], .int .i64 j] W _) := fun W hW => behind_any fp fr b1 off1 q cap1 j x W (hxi.keeps (keeps_below hW)) himm hjq (by omega)
                    have HRDX : Hid (∀ W, Below wd.heap.size wd W → Calls Tryd.prog 66 #[.agg #[.slice (some ⟨b, off, none⟩) N cap], x.val] W _) := fun W hW => HRD.out W x (HBWD.out.trans (hW.mono HBWD.out.size)) hio
                    have HRB : Hid ((readsL P x).contains (r : Int) = (rdMask P x).testBit r) := reads_bit hio r
                    have HSB : Hid ((setMask x).testBit r = (setsB x.op && decide (x.dst = (r : Int)))) := sets_bit hio r
                    have HIS : Hid (lrIs P f r s' j = ((rdMask P x).testBit r || (!(setMask x).testBit r && (behind x j).any fun t => s'.getD t false))) := by show _ = _; unfold lrIs; rw [hxe]
                    have HGOES : Hid (Way f 63 j → ∀ t ∈ behind x j, t < q) := fun hw t ht => by have := (OK.out.on (by rw [HLN.out]; exact hjq) hw (by rw [hxe]; exact ht)).2; rw [HLN.out] at this; exact this
                    obtain ⟨op, dst, xa, xb, imm⟩ := x
                    obtain ⟨d0, d1, d2, d3, d4⟩ := hxi
                    dsimp only at d0 d1 d2 d3 d4 HSB
                    unfold Ins.val at HRDX
                    dsimp only at HRDX
                    have c2 := fun o => cell_alloc cs o
                    have cA2 := fun o => cell_alloc cA o
                    have HROWX : Hid (BoolRow (wd.alloc (.cells #[.int .i64 op, .int .i64 dst, .int .i64 xa, .int .i64 xb, .int .i64 imm] 60)) G q s') := HROW.out.alloc _
                    have HGX : Hid (wm.grownBy (wd.alloc (.cells #[.int .i64 op, .int .i64 dst, .int .i64 xa, .int .i64 xb, .int .i64 imm] 60)) (some G)) := gb_trans HGD.out (gb_alloc wd _ _)
                    have HBXD : Hid (Below wd.heap.size wd (wd.alloc (.cells #[.int .i64 op, .int .i64 dst, .int .i64 xa, .int .i64 xb, .int .i64 imm] 60))) := (Below.refl _ _).alloc (Nat.le_refl _) _
                    have hzG : G < wd.heap.size := by omega
                    clear hxe hio himm hrow HST cfz cs cA
                    go_upto_region 26 with fail
                    have j0x := cell_alloc j0 (.cells #[.int .i64 op, .int .i64 dst, .int .i64 xa, .int .i64 xb, .int .i64 imm] 60)
                    have i2x := cell_alloc i2d (.cells #[.int .i64 op, .int .i64 dst, .int .i64 xa, .int .i64 xb, .int .i64 imm] 60)
                    have c2x := c2 (.cells #[.int .i64 op, .int .i64 dst, .int .i64 xa, .int .i64 xb, .int .i64 imm] 60)
                    have cAx := cA2 (.cells #[.int .i64 op, .int .i64 dst, .int .i64 xa, .int .i64 xb, .int .i64 imm] 60)
                    have rx : (wd.alloc (.cells #[.int .i64 op, .int .i64 dst, .int .i64 xa, .int .i64 xb, .int .i64 imm] 60)).heap[wd.heap.size]? = some (.cells #[.int .i64 op, .int .i64 dst, .int .i64 xa, .int .i64 xb, .int .i64 imm] 60 (0, 0)) := heap_alloc_last wd _
                    have hzX : wd.heap.size < (wd.alloc (.cells #[.int .i64 op, .int .i64 dst, .int .i64 xa, .int .i64 xb, .int .i64 imm] 60)).heap.size := by simp
                    clear c2 cA2 d0 d1 d2 d3 d4 j0 i0 i1 i2d
                    generalize (wd.alloc (.cells #[.int .i64 op, .int .i64 dst, .int .i64 xa, .int .i64 xb, .int .i64 imm] 60)) = WX at *
                    generalize wd.heap.size = XB at *
                    rcases HSA.out j hjq with ⟨hs, hw⟩ | ⟨hs, hw⟩
                    · have HN : Hid (LRMid P f r s (j + 1) ag' s') := HMID.out.next (fun h => absurd h hw)
                      clear hw
                      generalize A.getD j 0 = aq at cAx hs
                      generalize s'.getD j false = sb at *
                      go_wp2
                      go_roundw
                      case rel => exact ⟨j + 1, ag', s', by omega, by go_num, rfl, HN.out, HROWX.out, HGX.out⟩
                      case measure => simp [intOf]; omega
                    · cases hsb : s'.getD j false
                      · rw [hsb] at c2x
                        obtain ⟨rb, hrb⟩ : ∃ rb, rb = (rdMask P ⟨op, dst, xa, xb, imm⟩).testBit r := ⟨_, rfl⟩
                        obtain ⟨sb, hsbt⟩ : ∃ sb, sb = (setMask ⟨op, dst, xa, xb, imm⟩).testBit r := ⟨_, rfl⟩
                        have HRD2 := HRDX.out WX HBXD.out
                        have HRB2 : Hid ((readsL P ⟨op, dst, xa, xb, imm⟩).contains (r : Int) = rb) := by show _ = _; rw [HRB.out, hrb]
                        have HSB2 : Hid (sb = (setsB op && decide (dst = (r : Int)))) := by show _ = _; rw [hsbt, HSB.out]
                        have HIS2 : Hid (lrIs P f r s' j = (rb || (!sb && (behind ⟨op, dst, xa, xb, imm⟩ j).any fun t => s'.getD t false))) := by show _ = _; rw [HIS.out, ← hrb, ← hsbt]
                        have HW : Hid (Way f 63 j) := hw
                        have HSJ : Hid (s'.getD j false = false) := hsb
                        clear hrb hsbt HRB HSB HIS
                        generalize A.getD j 0 = aq at cAx hs
                        have y0 : WX.cell? ⟨XB, 0, none⟩ = some (.int .i64 op) := by rw [cell_of_row _ _ _ _ _ _ rx]; rfl
                        have y1 : WX.cell? ⟨XB, 1, none⟩ = some (.int .i64 dst) := by rw [cell_of_row _ _ _ _ _ _ rx]; rfl
                        have y2 : WX.cell? ⟨XB, 2, none⟩ = some (.int .i64 xa) := by rw [cell_of_row _ _ _ _ _ _ rx]; rfl
                        have y3 : WX.cell? ⟨XB, 3, none⟩ = some (.int .i64 xb) := by rw [cell_of_row _ _ _ _ _ _ rx]; rfl
                        have y4 : WX.cell? ⟨XB, 4, none⟩ = some (.int .i64 imm) := by rw [cell_of_row _ _ _ _ _ _ rx]; rfl
                        go_upto_region 28 with (go_at_call 66; refine HRD2.mono ?_; rintro e w5 ⟨v5, rfl, hown5, hb5⟩; obtain ⟨ao5, cap5, rfl⟩ := own_shape hown5)
                        have hIN := inList_any (readsL P ⟨op, dst, xa, xb, imm⟩) _ (r : Int) w5 (ints_of_own hown5)
                        rw [HRB2.out] at hIN
                        have hz5 := hb5.size
                        have HB5 : Hid (Below XB wd w5) := HBXD.out.trans (hb5.mono (by omega))
                        have HROW5 : Hid (BoolRow w5 G q s') := ownsRow_below HROWX.out hb5
                        have HG5 : Hid (wm.grownBy w5 (some G)) := gb_trans HGX.out (gb_below _ hb5)
                        have rx5 := (hb5.block _ (lt_of_block rx)).trans rx
                        have HBD5 : Hid (Below w2.heap.size w2 w5) := below_gb HBM.out HG5.out hzb (by omega)
                        clear hown5 hb5 rx HRD2 c2x cAx j0x i2x y0 y1 y2 y3 y4
                        go_upto_region 29 with (go_at_call 67; refine hIN.mono ?_; rintro e w' ⟨rfl, hw'⟩; replace hw' := hw'.symm; subst hw')
                        clear hIN
                        go_cut [103] from 90 to 103 (fun s103 wx => s103 = .bool (!rb && !sb) ∧ wx = w5)
                        case first =>
                          have x0 : w5.cell? ⟨XB, 0, none⟩ = some (.int .i64 op) := by rw [cell_of_row _ _ _ _ _ _ rx5]; rfl
                          have x1 : w5.cell? ⟨XB, 1, none⟩ = some (.int .i64 dst) := by rw [cell_of_row _ _ _ _ _ _ rx5]; rfl
                          cases rb
                          · cases hso : setsB op
                            · have hsb2 : sb = false := by rw [HSB2.out, hso]; rfl
                              subst hsb2
                              have hSE := fun W => Sets_any op W
                              rw [hso] at hSE
                              go_wp2_with (go_at_call 68; refine (hSE _).mono ?_; rintro e w' ⟨rfl, hw'⟩; replace hw' := hw'.symm; subst hw')
                              go_meet
                              exact ⟨rfl, rfl⟩
                            · have hSE := fun W => Sets_any op W
                              rw [hso] at hSE
                              have hsb2 : sb = decide (dst = (r : Int)) := by rw [HSB2.out, hso]; rfl
                              by_cases hdr : dst = (r : Int)
                              · have hsb3 : sb = true := by rw [hsb2]; simpa using hdr
                                clear hsb2
                                subst hsb3 hdr
                                go_wp2_with (go_at_call 68; refine (hSE _).mono ?_; rintro e w' ⟨rfl, hw'⟩; replace hw' := hw'.symm; subst hw')
                                go_meet
                                exact ⟨rfl, rfl⟩
                              · have hsb3 : sb = false := by rw [hsb2]; simpa using hdr
                                have hne : (dst != (r : Int)) = true := by simpa using hdr
                                clear hsb2
                                subst hsb3
                                go_wp2_with (go_at_call 68; refine (hSE _).mono ?_; rintro e w' ⟨rfl, hw'⟩; replace hw' := hw'.symm; subst hw')
                                go_meet
                                exact ⟨rfl, rfl⟩
                          · go_wp2
                            go_meet
                            exact ⟨rfl, rfl⟩
                        case rest =>
                          obtain ⟨rfl, hwx⟩ := hcut
                          replace hwx := hwx.symm
                          subst hwx
                          cases rb
                          · cases sb
                            · obtain ⟨-, l0, l1, l2⟩ := HBX.out w5 HBD5.out
                              have hBH := HBEH.out w5 HB5.out
                              have hISv := HIS2.out
                              simp only [Bool.false_or, Bool.not_false, Bool.true_and] at hISv
                              have HIS3 : Hid (lrIs P f r s' j = (behind ⟨op, dst, xa, xb, imm⟩ j).any fun t => s'.getD t false) := hISv
                              clear hISv
                              go_upto_region 31 with (go_at_call 69; refine hBH.mono ?_; rintro e w6 ⟨v6, rfl, hI6, hfr6, hb6⟩; obtain ⟨ao6, b6, off6, n6, cap6, rfl, hl6, ha6, hc6, hcp6, hm6⟩ := ints_get hI6)
                              have HROW6 : Hid (BoolRow w6 G q s') := ownsRow_below HROW5.out hb6
                              have HG6 : Hid (wm.grownBy w6 (some G)) := gb_trans HG5.out (gb_below _ hb6)
                              have hl6b : (behind ⟨op, dst, xa, xb, imm⟩ j).length = n6 := by rw [← hl6]; simp [behindI]
                              have HC6 : Hid (∀ e (h : e < n6), ∃ t, (behind ⟨op, dst, xa, xb, imm⟩ j)[e]? = some t ∧ w6.cell? ⟨b6, off6 + e, none⟩ = some (.int .i64 (t : Int))) := fun e h => by
                                refine ⟨(behind ⟨op, dst, xa, xb, imm⟩ j)[e]'(by omega), List.getElem?_eq_getElem _, ?_⟩
                                rw [hc6 e h]; congr 2; simp [behindI, List.getD, show e < (behind ⟨op, dst, xa, xb, imm⟩ j).length by omega]
                              have HGO2 : Hid (∀ t ∈ behind ⟨op, dst, xa, xb, imm⟩ j, t < q) := HGOES.out HW.out
                              have HBN : Hid ((behind ⟨op, dst, xa, xb, imm⟩ j).length = n6) := hl6b
                              clear hI6 hl6 hc6 hfr6 hb6 hl6b l0 l1 l2 hBH rx5
                              go_wp2
                              go_loopw [19, 21] (fun is i wl => ∃ e : Nat, e ≤ n6 ∧ i = .int .i64 e ∧ is = .bool (((behind ⟨op, dst, xa, xb, imm⟩ j).take e).any fun t => s'.getD t false) ∧ wl = w6) (fun _ i _ => n6 - (intOf i).toNat)
                              case atStart => exact ⟨0, Nat.zero_le _, rfl, rfl, rfl⟩
                              case round =>
                                rename World => we
                                obtain ⟨e, he, rfl, rfl, rfl⟩ := hrel
                                by_cases hle : e < n6
                                · obtain ⟨tt, htt, ct⟩ := HC6.out e hle
                                  have htq : tt < q := HGO2.out tt (List.mem_of_getElem? htt)
                                  have cb := bool_cell HROW6.out hls' tt htq
                                  have hat := any_take _ (fun t => s'.getD t false) e tt htt
                                  have HAT2 : Hid (((behind ⟨op, dst, xa, xb, imm⟩ j).take (e + 1)).any (fun t => s'.getD t false) = (((behind ⟨op, dst, xa, xb, imm⟩ j).take e).any (fun t => s'.getD t false) || s'.getD tt false)) := hat
                                  obtain rfl := ha6 (by omega)
                                  have heI : (e : Int) < n6 := by omega
                                  have htI : (tt : Int) < q := by omega
                                  generalize hy : ((behind ⟨op, dst, xa, xb, imm⟩ j).take e).any (fun t => s'.getD t false) = y at *
                                  generalize s'.getD tt false = z at *
                                  clear hat hy htt
                                  cases y
                                  · go_wp2
                                    go_roundw
                                    case rel => exact ⟨e + 1, by omega, by go_num, by rw [HAT2.out]; rfl, trivial⟩
                                    case measure => simp [intOf]; omega
                                  · go_wp2
                                    go_roundw
                                    case rel => exact ⟨e + 1, by omega, by go_num, by rw [HAT2.out]; rfl, trivial⟩
                                    case measure => simp [intOf]; omega
                                · obtain rfl : e = n6 := by omega
                                  have hall : ((behind ⟨op, dst, xa, xb, imm⟩ j).take e).any (fun t => s'.getD t false) = lrIs P f r s' j := by rw [List.take_of_length_le (by rw [HBN.out]; exact Nat.le_refl _), HIS3.out]
                                  rw [hall]
                                  clear hall
                                  cases hlr : lrIs P f r s' j
                                  · have HN : Hid (LRMid P f r s (j + 1) ag' s') := HMID.out.next (fun _ _ => hlr)
                                    clear hlr
                                    clear hsb hw
                                    go_wp2
                                    go_roundw
                                    case rel => exact ⟨j + 1, ag', s', by omega, by go_num, rfl, HN.out, HROW6.out, HG6.out⟩
                                    case measure => simp [intOf]; omega
                                  · have HN : Hid (LRMid P f r s (j + 1) true (s'.set j true)) := HMID.out.yes (by rw [HLN.out]; exact hjq) HW.out HSJ.out hlr
                                    clear hlr
                                    have HS2 := bool_store HROW6.out j true
                                    have cm := bool_cell HROW6.out hls' j hjq
                                    have cfm := HROW6.out.frozenAt j
                                    have HX1 : Hid (BoolRow (we.setCell ⟨G, j, none⟩ (.bool true)) G q (s'.set j true)) := HS2.1
                                    have HX2 : Hid (wm.grownBy (we.setCell ⟨G, j, none⟩ (.bool true)) (some G)) := gb_trans HG6.out HS2.2
                                    rw [hsb] at cm
                                    clear HS2 hsb hw
                                    go_wp2
                                    go_roundw
                                    case rel => exact ⟨j + 1, true, _, by omega, by go_num, rfl, HN.out, HX1.out, HX2.out⟩
                                    case measure => simp [intOf]; omega
                            · have HN : Hid (LRMid P f r s (j + 1) ag' s') := HMID.out.next (fun _ _ => by rw [HIS2.out]; rfl)
                              clear hsb hw
                              go_wp2
                              go_roundw
                              case rel => exact ⟨j + 1, ag', s', by omega, by go_num, rfl, HN.out, HROW5.out, HG5.out⟩
                              case measure => simp [intOf]; omega
                          · cases sb
                            · have HN : Hid (LRMid P f r s (j + 1) true (s'.set j true)) := HMID.out.yes (by rw [HLN.out]; exact hjq) HW.out HSJ.out (by rw [HIS2.out]; rfl)
                              have HS2 := bool_store HROW5.out j true
                              have cm := bool_cell HROW5.out hls' j hjq
                              have cfm := HROW5.out.frozenAt j
                              have HX1 : Hid (BoolRow (w5.setCell ⟨G, j, none⟩ (.bool true)) G q (s'.set j true)) := HS2.1
                              have HX2 : Hid (wm.grownBy (w5.setCell ⟨G, j, none⟩ (.bool true)) (some G)) := gb_trans HG5.out HS2.2
                              rw [hsb] at cm
                              clear HS2 hsb hw
                              go_wp2
                              go_roundw
                              case rel => exact ⟨j + 1, true, _, by omega, by go_num, rfl, HN.out, HX1.out, HX2.out⟩
                              case measure => simp [intOf]; omega
                            · have HN : Hid (LRMid P f r s (j + 1) true (s'.set j true)) := HMID.out.yes (by rw [HLN.out]; exact hjq) HW.out HSJ.out (by rw [HIS2.out]; rfl)
                              have HS2 := bool_store HROW5.out j true
                              have cm := bool_cell HROW5.out hls' j hjq
                              have cfm := HROW5.out.frozenAt j
                              have HX1 : Hid (BoolRow (w5.setCell ⟨G, j, none⟩ (.bool true)) G q (s'.set j true)) := HS2.1
                              have HX2 : Hid (wm.grownBy (w5.setCell ⟨G, j, none⟩ (.bool true)) (some G)) := gb_trans HG5.out HS2.2
                              rw [hsb] at cm
                              clear HS2 hsb hw
                              go_wp2
                              go_roundw
                              case rel => exact ⟨j + 1, true, _, by omega, by go_num, rfl, HN.out, HX1.out, HX2.out⟩
                              case measure => simp [intOf]; omega
                      · rw [hsb] at c2x
                        have HN : Hid (LRMid P f r s (j + 1) ag' s') := HMID.out.next (fun _ h => by rw [hsb] at h; cases h)
                        clear hw hsb
                        generalize A.getD j 0 = aq at cAx hs
                        go_wp2
                        go_roundw
                        case rel => exact ⟨j + 1, ag', s', by omega, by go_num, rfl, HN.out, HROWX.out, HGX.out⟩
                        case measure => simp [intOf]; omega
                  · obtain rfl : j = q := by omega
                    have HE : Hid (LRLoops P f r ag' s') := LRMid.ends (by have := HMID.out; rw [← HLN.out] at this; exact this)
                    have hfew := HMID.out.few
                    clear hrow j0 i0 i1
                    go_wp2
                    go_roundg (unseen s' + (if ag' = true then 1 else 0))
                    case measure => rw [HM.out, if_pos trivial]; omega
                    case rel => exact ⟨ag', s', rfl, rfl, HE.out, HROW.out, HGD.out⟩
          · obtain rfl : r = 12 := by omega
            have HFIN : Hid (LiveSpec P f O') := outsL_spec (by have := HOO.out; rw [← HLN.out] at this; exact this)
            have HIV : Hid (IntsVal wb (.slice (some ⟨g, 0, none⟩) q capg) O') := by
              have hl : O'.length = q := HOO.out.1
              have := HOW.out
              rw [← hl] at this ⊢
              exact ints_of_own this
            clear i2b j0 i0 i1
            go_wp2
            go_ret2
            exact ⟨_, 0, O', rfl, HAN.out O' HFIN.out, HIV.out, HBW.out⟩
  · have hF := fun o => fault_badL P v fn hok (w.alloc o) (hv.keeps (keeps_below (hbx o)))
    obtain ⟨ao, n, cap, rfl⟩ := hv.shape
    clear hok hbx
    go_enter Tryd.func38, Tryd.ntmps38
    go_wp2_with (go_at_call 64; refine (hF _).mono ?_; rintro e w1 ⟨E, rfl, hne, hE, hb1⟩; have HE : Hid (LiveAns P fn E []) := hE; clear hE)
    go_ret2
    exact ⟨_, _, _, rfl, HE.out, ints_nil _, ((Below.refl _ _).alloc (Nat.le_refl _) _).trans (hb1.mono (by simp))⟩
end Go.Proofs.YteabbanjjdmjkaaDoor
