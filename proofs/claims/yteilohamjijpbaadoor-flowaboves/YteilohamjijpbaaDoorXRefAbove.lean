/- Contract of the document's AboveOf (package tierlineref), of right programs. -/
import Derived.Test.YteilohamjijpbaaDoorXRefFwd
import Derived.Test.YteilohamjijpbaaDoorXAbvMath
import Derived.Test.YteilohamjijpbaaDoorXLawFBlocks
import Derived.BigQuiet
namespace Go.Proofs.YteilohamjijpbaaDoor
open Go Go.RowKit

def RefAbv (f : Fn) (w : World) (e : Ending) (w' : World) : Prop := ∃ v' A, e = .returned (.tuple #[v', .int .i64 0]) ∧ AboveOk f A ∧ IntsVal w' v' A ∧ Below w.heap.size w w'

set_option maxRecDepth 100000 in
set_option maxHeartbeats 8000000 in
theorem aboveOf_right (P : List Fn) (h0 : ProofAns P 0) (k : Nat) (hk : k < P.length) (v : Value) (w : World) (hv : ProgVal w v P) :
    Calls Tryd.prog 20 #[.agg #[v], .int .i64 k] w fun e w' => RefAbv P[k] w e w' := by
  have hbx : ∀ o, Below w.heap.size w (w.alloc o) := fun o => (Below.refl _ _).alloc (Nat.le_refl _) _
  obtain ⟨i64i, hi64, hz0, hz1', hz2⟩ := info_parts info64
  have hBO := fun o => blocksOf_right P h0 k hk v (w.alloc o) (hv.keeps (keeps_below (hbx o)))
  have OK : Hid (FlowOk P P[k]) := flowOk_of h0 (List.getElem_mem hk)
  obtain ⟨ao, n, cap, rfl⟩ := hv.shape
  clear hbx h0
  generalize P[k] = f at *
  go_enter Tryd.func20, Tryd.ntmps20
  go_upto_region 4 with (go_at_call 13; refine (hBO _).mono ?_; rintro e w1 ⟨v1, S, T, rfl, hO, hbv, hb1⟩; obtain ⟨g, gcap, VV, rfl, hB⟩ := hbv; have HB1 : Hid (Below w.heap.size w w1) := ((Below.refl _ _).alloc (Nat.le_refl _) _).trans (hb1.mono (by simp)))
  have hSL : S.length ≤ 40 := Nat.le_trans (starts_len OK.out hO.starts) OK.out.ok.len2
  obtain ⟨hS0, -⟩ := hO.starts.first
  have HWO : Hid (∀ W d, Below w1.heap.size w1 W → Calls Tryd.prog 48 #[.slice (some ⟨g, 0, none⟩) S.length gcap, .int .i64 ((d : Nat) : Int)] W fun e w' => WithoutPost (pvN f S T) S.length d W e w') := fun W d hW => without_any P f OK.out S T hO d _ W (BlocksVal.below ⟨g, gcap, VV, rfl, hB⟩ hW)
  have HCM : Hid (∀ b, b < S.length → Come (pvN f S T) b) := fun b hb => hO.come OK.out hb
  have HFIN : Hid (∀ A : List Int, A.length = S.length → (∀ b, b < S.length → NearTo (pvN f S T) b S.length (A.getD b 0)) → AboveOk f A) := fun A h1 h2 => ⟨S, T, hO, h1, h2⟩
  have hgc1 := hB.cap1
  have hgc2 := hB.cap2
  have hm0 := made_ints S.length
  clear hO hB hb1 hBO OK
  generalize pvN f S T = pv at *
  generalize S.length = K at *
  go_wp2_with (at_make; refine wpList_make_full _ rfl (.tmp 27) (.tmp 27) 37 rfl 0 3 i64i _ 1 Tryd.underlying37 hi64 hz0 hz1' .i64 .i64 _ _ K rfl rfl (by simp) (by simp) (by rw [hz2]; omega) (by unfold maxLen; omega) (Nat.zero_le _) ?_; intro wm hown1 hg1; rw [hm0] at hown1)
  have hbm : Below w1.heap.size w1 wm := below_grown hg1
  have hzm : w1.heap.size < wm.heap.size := (World.ownsRow.lt hown1 w1.heap.size rfl).2
  have HR0 : Hid (IntRow wm w1.heap.size K (List.replicate K 0)) := hown1
  have HBM : Hid (Below w1.heap.size w1 wm) := hbm
  clear hown1 hg1 hbm
  obtain ⟨CB, hCB⟩ : ∃ CB, CB = w1.heap.size := ⟨_, rfl⟩
  rw [← hCB] at HR0
  rw [← hCB]
  have hCBm : CB < wm.heap.size := by omega
  have hCB1 : w1.heap.size ≤ CB := by omega
  clear hCB
  go_loopw [8, 10] (fun v i wr => ∃ q : Nat, q ≤ K ∧ i = .int .i64 q ∧ wr.ownsRow wm.heap.size 3 1 v q (i64s (List.replicate q (-1))) ∧ Below wm.heap.size wm wr) (fun _ i _ => K - (intOf i).toNat)
  case atStart => exact ⟨0, Nat.zero_le _, rfl, World.ownsRow_nil _ _ _ _, Below.refl _ _⟩
  case round =>
    rename World => wa
    obtain ⟨q, hq, rfl, hown, hba⟩ := hrel
    obtain ⟨aov, capv, rfl⟩ := own_shape hown
    have HOW : Hid (wa.ownsRow wm.heap.size 3 1 (.slice aov q capv) q (i64s (List.replicate q (-1)))) := hown
    have HBA : Hid (Below wm.heap.size wm wa) := hba
    have hza : wm.heap.size ≤ wa.heap.size := hba.size
    by_cases hlt : q < K
    · have hqI : (q : Int) < K := by omega
      have HRP : Hid (i64s (List.replicate q (-1)) ++ i64s [-1] = i64s (List.replicate (q + 1) (-1))) := by
        show _ = _
        rw [← i64s_append, List.replicate_succ']
      clear hown hba
      go_wp2_with (at_builtin; refine wpList_append_own _ rfl (.tmp 35) (.tmp 36) 37 rfl wm.heap.size 3 i64i _ 1 8 Tryd.underlying37 hi64 hz0 hz1' hz2 rfl (by decide) _ _ _ rfl (HOW.out.alloc _) ⟨_, 0, none⟩ 1 1 (i64s [-1]) rfl rfl (news_list _ _ _ _ rfl) (i64s_one _) (by unfold maxLen; omega) (by omega) (by simp; omega) ?_; intro v2 w3 hown2 hg2 _; rw [HRP.out] at hown2; have hb2 : Below wm.heap.size wm w3 := (HBA.out.alloc (by omega) _).trans (grown_base (HOW.out.alloc _) (by simp; omega) hg2))
      go_roundw
      case rel => exact ⟨q + 1, by omega, by go_num, hown2, hb2⟩
      case measure => simp [intOf]; omega
    · obtain rfl : q = K := by omega
      obtain ⟨OB, capo, hve, hob, hol, hmo, hno⟩ := own_at hown hS0
      simp only [Value.slice.injEq, true_and] at hve
      obtain ⟨rfl, rfl⟩ := hve
      unfold maxLen at hmo
      have HO0 : Hid (IRow wa OB q capv (List.replicate q (-1))) := own_mono hown (Nat.zero_le _)
      have HC0 : Hid (IntRow wa CB q (List.replicate q 0)) := ownsRow_below HR0.out hba
      have HBA1 : Hid (Below w1.heap.size w1 wa) := HBM.out.trans (hba.mono (by omega))
      have hqN : ¬ ((q : Int) < q) := by omega
      have hOC : CB ≠ OB := by omega
      have hOB1 : w1.heap.size ≤ OB := by omega
      have hCBa : CB < wa.heap.size := by omega
      have hz1a : w1.heap.size ≤ wa.heap.size := by omega
      clear hown hba HOW HBA HR0
      go_wp2
      go_loopw [11] (fun i wr => ∃ (a : Nat) (C : List Int), a ≤ q ∧ i = .int .i64 a ∧ CntTo pv q a 0 C ∧ IntRow wr CB q C ∧ wa.grownBy wr (some CB)) (fun i _ => q - (intOf i).toNat)
      case atStart => exact ⟨0, _, Nat.zero_le _, rfl, CntTo.start pv q, HC0.out, gb_refl _ _⟩
      case round =>
        rename World => wb
        obtain ⟨a, C, ha, rfl, hct, hrow, hgr⟩ := hrel
        have HCT : Hid (CntTo pv q a 0 C) := hct
        have HRW : Hid (IntRow wb CB q C) := hrow
        have HGB : Hid (wa.grownBy wb (some CB)) := hgr
        have hzb : wa.heap.size ≤ wb.heap.size := hgr.size
        have HBB : Hid (Below w1.heap.size w1 wb) := below_gb HBA1.out hgr hCB1 (by omega)
        clear hct hrow hgr
        by_cases hla : a < q
        · have haI : (a : Int) < q := by omega
          have hWO := HWO.out wb a HBB.out
          go_wp2_with (go_at_call 48; refine hWO.mono ?_; rintro e w2 ⟨G, s, rfl, hrowS, hls, hiff, hGz, hb2⟩)
          have hzw2 := hb2.size
          have HRS : Hid (BoolRow w2 G q s) := hrowS
          have HIF : Hid (∀ b, s.getD b false = true ↔ WayB pv a b) := hiff
          have HRW2 : Hid (IntRow w2 CB q C) := ownsRow_below HRW.out hb2
          have HG2 : Hid (wa.grownBy w2 (some CB)) := gb_trans HGB.out (gb_below _ hb2)
          have hGC : G ≠ CB := by omega
          clear hrowS hiff hb2 hWO HRW HGB
          go_loopw [13] (fun i wr => ∃ (c : Nat) (C : List Int), c ≤ q ∧ i = .int .i64 c ∧ CntTo pv q a c C ∧ IntRow wr CB q C ∧ w2.grownBy wr (some CB)) (fun i _ => q - (intOf i).toNat)
          case atStart => exact ⟨0, C, Nat.zero_le _, rfl, HCT.out, HRW2.out, gb_refl _ _⟩
          case round =>
            rename World => wc
            clear HCT HRW2
            obtain ⟨c, C, hc, rfl, hct, hrow, hgr⟩ := hrel
            have HCT : Hid (CntTo pv q a c C) := hct
            have HRW : Hid (IntRow wc CB q C) := hrow
            have HGC : Hid (w2.grownBy wc (some CB)) := hgr
            have HRSc : Hid (BoolRow wc G q s) := World.ownsRow.kept HRS.out hgr (Or.inr (by simp [Value.ownBlock]; exact hGC))
            by_cases hlc : c < q
            · have hcI : (c : Int) < q := by omega
              have cs := bool_cell HRSc.out hls c hlc
              have HX : Hid (s.getD c false = true ↔ WayB pv a c) := HIF.out c
              have cc := int_cell hrow hct.1 c hlc
              have cfz := hrow.frozenAt c
              have hfew := hct.few hlc hla
              have HST := int_store hrow c (C.getD c 0 + 1)
              have HS1 : Hid (IntRow (wc.setCell ⟨CB, c, none⟩ (.int .i64 (C.getD c 0 + 1))) CB q (C.set c (C.getD c 0 + 1))) := HST.1
              have HS2 : Hid (w2.grownBy (wc.setCell ⟨CB, c, none⟩ (.int .i64 (C.getD c 0 + 1))) (some CB)) := gb_trans HGC.out HST.2
              clear HST hct hrow hgr
              cases hsc : s.getD c false
              · rw [hsc] at cs
                have hD : Dom pv a c := fun h => by have := HX.out.2 h; rw [hsc] at this; cases this
                by_cases hca : c = a
                · have hne : ((c : Int) != (a : Int)) = false := by rw [hca]; simp
                  have HN : Hid (CntTo pv q a (c + 1) C) := HCT.out.no (Or.inl hca)
                  clear hsc hca hD
                  go_wp2
                  go_roundw
                  case rel => exact ⟨c + 1, C, by omega, by go_num, HN.out, HRW.out, HGC.out⟩
                  case measure => simp [intOf]; omega
                · have hne : ((c : Int) != (a : Int)) = true := by rw [bne_iff_ne]; omega
                  have HN : Hid (CntTo pv q a (c + 1) (C.set c (C.getD c 0 + 1))) := HCT.out.yes hlc hca hD
                  clear hsc hca hD
                  generalize C.getD c 0 = cz at cc hfew HS1 HS2 HN
                  go_wp2
                  go_roundw
                  case rel => exact ⟨c + 1, _, by omega, by go_num, HN.out, HS1.out, HS2.out⟩
                  case measure => simp [intOf]; omega
              · rw [hsc] at cs
                have HN : Hid (CntTo pv q a (c + 1) C) := HCT.out.no (Or.inr fun hd => hd (HX.out.1 hsc))
                clear hsc
                go_wp2
                go_roundw
                case rel => exact ⟨c + 1, C, by omega, by go_num, HN.out, HRW.out, HGC.out⟩
                case measure => simp [intOf]; omega
            · have hcN : ¬ ((c : Int) < q) := by omega
              obtain rfl : c = q := by omega
              have HN : Hid (CntTo pv c (a + 1) 0 C) := HCT.out.round
              have HGF : Hid (wa.grownBy wc (some CB)) := gb_trans HG2.out HGC.out
              clear hct hrow hgr
              go_wp2
              go_roundw
              case rel => exact ⟨a + 1, C, by omega, by go_num, HN.out, HRW.out, HGF.out⟩
              case measure => simp [intOf]; omega
        · have haN : ¬ ((a : Int) < q) := by omega
          obtain rfl : a = q := by omega
          have hCl : C.length = a := HCT.out.1
          have HCA : Hid (∀ j, j < a → C.getD j 0 + 1 = ((domCt pv j a : Nat) : Int)) := fun j hj => HCT.out.all hj
          have HOB : Hid (IRow wb OB a capv (List.replicate a (-1))) := World.ownsRow.kept HO0.out HGB.out (Or.inr (by simp [Value.ownBlock]; exact fun e => hOC e.symm))
          clear HCT HO0 HC0
          go_wp2
          go_loopw [14] (fun i wr => ∃ (d : Nat) (O : List Int), d ≤ a ∧ i = .int .i64 d ∧ OutTo pv a d 0 O ∧ IRow wr OB a capv O ∧ wb.grownBy wr (some OB)) (fun i _ => a - (intOf i).toNat)
          case atStart => exact ⟨0, _, Nat.zero_le _, rfl, OutTo.start pv a, HOB.out, gb_refl _ _⟩
          case round =>
            rename World => wd
            clear HOB
            obtain ⟨d, O, hd, rfl, hot, hrow, hgr⟩ := hrel
            have HOT : Hid (OutTo pv a d 0 O) := hot
            have HRO : Hid (IRow wd OB a capv O) := hrow
            have HGD : Hid (wb.grownBy wd (some OB)) := hgr
            have hzd : wb.heap.size ≤ wd.heap.size := hgr.size
            have HBD : Hid (Below w1.heap.size w1 wd) := below_gb HBB.out hgr hOB1 (by omega)
            have HCD : Hid (IntRow wd CB a C) := World.ownsRow.kept HRW.out hgr (Or.inr (by simp [Value.ownBlock]; exact hOC))
            clear hot hrow hgr
            by_cases hld : d < a
            · have hdI : (d : Int) < a := by omega
              have hWO := HWO.out wd d HBD.out
              go_wp2_with (go_at_call 48; refine hWO.mono ?_; rintro e w2 ⟨G, s, rfl, hrowS, hls, hiff, hGz, hb2⟩)
              have hzw2 := hb2.size
              have HRS : Hid (BoolRow w2 G a s) := hrowS
              have HIF : Hid (∀ b, s.getD b false = true ↔ WayB pv d b) := hiff
              have HRO2 : Hid (IRow w2 OB a capv O) := ownsRow_below HRO.out hb2
              have HC2 : Hid (IntRow w2 CB a C) := ownsRow_below HCD.out hb2
              have HG2 : Hid (wb.grownBy w2 (some OB)) := gb_trans HGD.out (gb_below _ hb2)
              have hGO : G ≠ OB := by omega
              clear hrowS hiff hb2 hWO HRO HGD HCD
              go_loopw [16] (fun i wr => ∃ (c : Nat) (O : List Int), c ≤ a ∧ i = .int .i64 c ∧ OutTo pv a d c O ∧ IRow wr OB a capv O ∧ w2.grownBy wr (some OB)) (fun i _ => a - (intOf i).toNat)
              case atStart => exact ⟨0, O, Nat.zero_le _, rfl, HOT.out, HRO2.out, gb_refl _ _⟩
              case round =>
                rename World => we
                clear HOT HRO2
                obtain ⟨c, O, hc, rfl, hot, hrow, hgr⟩ := hrel
                have HOT : Hid (OutTo pv a d c O) := hot
                have HRO : Hid (IRow we OB a capv O) := hrow
                have HGE : Hid (w2.grownBy we (some OB)) := hgr
                have HRSe : Hid (BoolRow we G a s) := World.ownsRow.kept HRS.out hgr (Or.inr (by simp [Value.ownBlock]; exact hGO))
                have HCE : Hid (IntRow we CB a C) := World.ownsRow.kept HC2.out hgr (Or.inr (by simp [Value.ownBlock]; exact hOC))
                by_cases hlc : c < a
                · have hcI : (c : Int) < a := by omega
                  have cs := bool_cell HRSe.out hls c hlc
                  have HX : Hid (s.getD c false = true ↔ WayB pv d c) := HIF.out c
                  have co := irow_cell hrow hot.1 c hlc
                  have hNT := hot.here hlc
                  have HNT : Hid (NearTo pv c d (O.getD c 0)) := hNT
                  have HDR : Hid (∀ m, IRow (we.drewN m) OB a capv O ∧ w2.grownBy (we.drewN m) (some OB)) := fun m => ⟨ownsRow_below HRO.out (below_drewN (Below.refl _ _) m), gb_trans HGE.out (gb_below _ (below_drewN (Below.refl _ _) m))⟩
                  have HST : Hid (∀ m, IRow ((we.drewN m).setCell ⟨OB, c, none⟩ (.int .i64 (d : Int))) OB a capv (O.set c (d : Int)) ∧ w2.grownBy ((we.drewN m).setCell ⟨OB, c, none⟩ (.int .i64 (d : Int))) (some OB)) := fun m => ⟨(irow_store (HDR.out m).1 c (d : Int)).1, gb_trans (HDR.out m).2 (irow_store (HDR.out m).1 c (d : Int)).2⟩
                  have cfz := hrow.frozenAt c
                  clear hot hrow hgr hNT
                  cases hsc : s.getD c false
                  · rw [hsc] at cs
                    have hD : Dom pv d c := fun h => by have := HX.out.2 h; rw [hsc] at this; cases this
                    by_cases hcd : c = d
                    · have hne : ((c : Int) != (d : Int)) = false := by rw [hcd]; simp
                      have HN : Hid (OutTo pv a d (c + 1) O) := HOT.out.keep (HNT.out.skip (Or.inl hcd.symm))
                      clear hsc hcd hD
                      go_wp2_with fail
                      go_quiet (fail)
                      go_wp2
                      go_roundw
                      case rel => exact ⟨c + 1, O, by omega, by go_num, HN.out, (HDR.out _).1, (HDR.out _).2⟩
                      case measure => simp [intOf]; omega
                    · have hne : ((c : Int) != (d : Int)) = true := by rw [bne_iff_ne]; omega
                      by_cases hz : O.getD c 0 = -1
                      · have HN : Hid (OutTo pv a d (c + 1) (O.set c (d : Int))) := HOT.out.put hlc (NearTo.first (by rw [← hz]; exact HNT.out) (fun e => hcd e.symm) hD)
                        rw [hz] at co
                        clear hsc hcd hD hz
                        go_wp2_with fail
                        go_quiet (fail)
                        go_wp2
                        go_roundw
                        case rel => exact ⟨c + 1, _, by omega, by go_num, HN.out, (HST.out _).1, (HST.out _).2⟩
                        case measure => simp [intOf]; omega
                      · obtain ⟨b, hb, hbd, hbc, hbD⟩ : ∃ b : Nat, O.getD c 0 = (b : Int) ∧ b < d ∧ b ≠ c ∧ Dom pv b c := by
                          rcases HNT.out with ⟨e, _⟩ | ⟨b, e, h1, h2, h3, _⟩
                          · exact absurd e hz
                          · exact ⟨b, e, h1, h2, h3⟩
                        have hba : b < a := by omega
                        have hbI : (b : Int) < a := by omega
                        have cg := int_cell HCE.out hCl d hld
                        have cb := int_cell HCE.out hCl b hba
                        have hma := more_above HCM.out hlc hld hba (by omega) hbD hD
                        have e1 := HCA.out d hld
                        have e2 := HCA.out b hba
                        rw [hb] at co HNT
                        have hb0 : ¬ ((b : Int) < 0) := by omega
                        by_cases hcmp : C.getD b 0 < C.getD d 0
                        · have HN : Hid (OutTo pv a d (c + 1) (O.set c (d : Int))) := HOT.out.put hlc (NearTo.take HNT.out (fun e => hcd e.symm) hD (hma.1 (by omega)))
                          generalize C.getD b 0 = zb at cb hcmp
                          generalize C.getD d 0 = zd at cg hcmp
                          clear hsc hcd hD hz hb hbD hma e1 e2
                          go_wp2_with fail
                          go_quiet (fail)
                          go_wp2
                          go_roundw
                          case rel => exact ⟨c + 1, _, by omega, by go_num, HN.out, (HST.out _).1, (HST.out _).2⟩
                          case measure => simp [intOf]; omega
                        · have HN : Hid (OutTo pv a d (c + 1) O) := HOT.out.keep (by rw [hb]; exact NearTo.keep (HCM.out c hlc) HNT.out hD (fun h => hcmp (by have := hma.2 h; omega)))
                          generalize C.getD b 0 = zb at cb hcmp
                          generalize C.getD d 0 = zd at cg hcmp
                          clear hsc hcd hD hz hb hbD hma e1 e2
                          go_wp2_with fail
                          go_quiet (fail)
                          go_wp2
                          go_roundw
                          case rel => exact ⟨c + 1, O, by omega, by go_num, HN.out, (HDR.out _).1, (HDR.out _).2⟩
                          case measure => simp [intOf]; omega
                  · rw [hsc] at cs
                    have HN : Hid (OutTo pv a d (c + 1) O) := HOT.out.keep (HNT.out.skip (Or.inr fun hd => hd (HX.out.1 hsc)))
                    clear hsc
                    go_wp2_with fail
                    go_quiet (fail)
                    go_wp2
                    go_roundw
                    case rel => exact ⟨c + 1, O, by omega, by go_num, HN.out, (HDR.out _).1, (HDR.out _).2⟩
                    case measure => simp [intOf]; omega
                · have hcN : ¬ ((c : Int) < a) := by omega
                  obtain rfl : c = a := by omega
                  have HN : Hid (OutTo pv c (d + 1) 0 O) := HOT.out.round
                  have HGF : Hid (wb.grownBy we (some OB)) := gb_trans HG2.out HGE.out
                  clear hot hrow hgr
                  go_wp2
                  go_roundw
                  case rel => exact ⟨d + 1, O, by omega, by go_num, HN.out, HRO.out, HGF.out⟩
                  case measure => simp [intOf]; omega
            · have hdN : ¬ ((d : Int) < a) := by omega
              obtain rfl : d = a := by omega
              have hOl : O.length = d := HOT.out.1
              go_wp2
              go_ret2
              refine ⟨_, O, rfl, HFIN.out O hOl (fun b hb => HOT.out.all hb), ?_, below_call HB1.out HB1.out.size HBD.out⟩
              have h := HRO.out
              exact ints_of_own (base := 0) (by rw [hOl]; exact h)
end Go.Proofs.YteilohamjijpbaaDoor
