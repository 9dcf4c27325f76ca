/- The walk of tierlinekeep.CpuParts (out of LawCpuHalts' first loop): at all raw numbers it says true, and nothing that was there has turned. -/
import Derived.Test.YtapjfiihfgndeaaDoorCpuPartMath
import Derived.Test.YtapjfiihfgndeaaDoorLawCpuHalts
namespace Go.Proofs.YtapjfiihfgndeaaDoor
open Go Go.RowKit

theorem runA_ok {ws : List Int} (n : Nat) : ∀ (k : Nat) (c : Cp), c.Ok → (runA ws n k c).1.Ok := by
  induction n with
  | zero => intro k c h; unfold runA; split <;> first | exact h | exact zero_ok
  | succ n ih =>
    intro k c h
    unfold runA
    split
    · exact h
    · split
      · exact ih _ _ (stepC_ok h)
      · exact zero_ok

set_option maxRecDepth 100000 in
set_option maxHeartbeats 8000000 in
theorem cpuParts_walk (xs : List Mi) (ao : Option Addr) (b off cap : Nat) (rv : Value) (l : List Int) (most : Int) (hms : Fits most) (w : World) (ht : RvTab w) (hv : WdsAt w ao b off xs) (hcap : xs.length ≤ cap ∧ cap ≤ 9223372036854775807) (hrv : IntsVal w rv l) :
    Calls Tryd.prog 8 #[.slice ao xs.length cap, rv, .int .i64 most] w fun e w' => e = .returned (.bool true) ∧ Below w.heap.size w w' := by
  obtain ⟨i64i, hi64, hz0, hz1, hz2⟩ := info_parts info64
  have hpk := fun w => picked_big most 60 w hms (by decide)
  obtain ⟨pk0, pk1⟩ := pickB_bounds most 60 (by decide)
  obtain ⟨N, hN⟩ := Int.eq_ofNat_of_zero_le pk0
  rw [hN] at hpk pk1
  clear hN pk0
  have HV : Hid (∀ V, Below w.heap.size w V → ∀ k (h : k < xs.length), V.rangeAt b (off + k * 5) (miC xs[k])) := fun V hV k h => range_below (hv.cells k h).1 hV (hv.cells k h).2
  have HT : Hid (∀ V, Below w.heap.size w V → RvTab V) := fun V hV => ht.below hV
  have HAO : Hid (0 < xs.length → ao = some ⟨b, off, none⟩) := hv.at_
  have HFX : Hid (∀ x ∈ xs, MiFit x) := hv.fit
  obtain ⟨ws, hws⟩ : ∃ ws, ws = (xs.map mkRv).map wordI := ⟨_, rfl⟩
  have HWS : Hid (ws = (xs.map mkRv).map wordI) := hws
  obtain ⟨n, hn⟩ : ∃ n, n = xs.length := ⟨_, rfl⟩
  have HL : Hid (xs.length = n) := hn.symm
  rw [← hn] at hcap ⊢
  obtain ⟨hc1, hc2⟩ := hcap
  obtain ⟨ra, rb, ro, nr, rc, rfl, hrl, hra, hrc, ⟨hrc1, hrc2⟩, hrm⟩ := hrv
  have HRL : Hid (l.length = nr) := hrl
  have HRA : Hid (0 < nr → ra = some ⟨rb, ro, none⟩) := hra
  have HRC : Hid (∀ V, Below w.heap.size w V → ∀ q (h : q < l.length), V.cell? ⟨rb, ro + q, none⟩ = some (.int .i64 l[q])) := fun V hV q h => keeps_below hV _ _ (hrc q h)
  have hrm' : rc ≤ 9223372036854775807 := by unfold maxLen at hrm; exact hrm
  clear hv ht hws hn hms hrl hra hrc hrc2 hrm
  go_enter Tryd.func8, Tryd.ntmps8
  go_wp2
  go_loopw [7, 8] (fun o i wr => ∃ k : Nat, k ≤ n ∧ k ≤ 12 ∧ i = .int .i64 k ∧ wr.ownsRow w.heap.size 3 1 o k (i64s (ws.take k)) ∧ Below w.heap.size w wr) (fun _ i _ => 12 - (intOf i).toNat)
  case atStart => exact ⟨0, Nat.zero_le _, Nat.zero_le _, rfl, World.ownsRow_nil _ _ _ _, Below.refl _ _⟩
  case round =>
    obtain ⟨k, hk, hk12, rfl, hr, hb⟩ := hrel
    have hz : w.heap.size ≤ wr.heap.size := hb.size
    have HB : Hid (Below w.heap.size w wr) := hb
    obtain ⟨ao1, cap1, rfl⟩ := own_shape hr
    by_cases hlt : k < n ∧ k < 12
    · have hkl : k < xs.length := by rw [HL.out]; exact hlt.1
      obtain rfl := HAO.out (by omega)
      have HRG : Hid (wr.rangeAt b (off + k * 5) (miC xs[k])) := HV.out wr hb k hkl
      have hft := HFX.out _ (List.getElem_mem hkl)
      have HKR : Hid (Calls Tryd.prog 23 #[.agg (miC xs[k]).toArray] wr fun e w' => e = .returned (.agg (miC (mkRv xs[k])).toArray) ∧ Below wr.heap.size wr w') := krv_any xs[k] wr hft.op hft.rd hft.rs1 hft.rs2 hft.imm
      have hok := mkRv_ok xs[k]
      have HEN : Hid (∀ V, Below w.heap.size w V → Calls Tryd.prog 22 #[.agg (miC (mkRv xs[k])).toArray] V fun e w' => e = .returned (.tuple #[.int .i64 (wordI (mkRv xs[k])), .int .i64 0]) ∧ Below V.heap.size V w') := fun V hV => by
        have hen := rencode_any (mkRv xs[k]) V (HT.out V hV)
        rw [(enc_word hok).1, (enc_word hok).2] at hen
        exact hen
      have hkw : k < ws.length := by rw [HWS.out]; simpa using hkl
      have HTK : Hid (i64s (ws.take k) ++ i64s [wordI (mkRv xs[k])] = i64s (ws.take (k + 1))) := by
        show _ = _
        rw [← i64s_append, List.take_succ_eq_append_getElem hkw]
        congr 2
        simp [HWS.out]
      generalize wordI (mkRv xs[k]) = x at HEN HTK
      generalize mkRv xs[k] = Y at HKR HEN
      generalize xs[k] = X at HRG HKR
      have hkI : (k : Int) < n := by omega
      have hkI2 : (k : Int) < 12 := by omega
      have HR : Hid (wr.ownsRow w.heap.size 3 1 (.slice ao1 k cap1) k (i64s (ws.take k))) := hr
      clear hb hr hok hkl hft hkw HAO
      go_wp2_with (first
        | (refine wpList_load_mid rfl 48 _ rfl b (off + k * 5) rfl (miC X) _ HRG.out Tryd.underlying48 rfl infoWd ?_)
        | (go_at_call 23; refine HKR.out.mono ?_; rintro e w0 ⟨rfl, hb0⟩; have HB0 : Hid (Below wr.heap.size wr w0) := hb0; clear hb0)
        | (go_at_call 22; refine (HEN.out _ (HB.out.trans (HB0.out.mono hz))).mono ?_; rintro e w1 ⟨rfl, hb1⟩; have HB1 : Hid (Below wr.heap.size wr w1) := HB0.out.trans (hb1.mono HB0.out.size); have HR1 : Hid (w1.ownsRow w.heap.size 3 1 (.slice ao1 k cap1) k (i64s (ws.take k))) := ownsRow_below HR.out HB1.out; have hz1w := HB1.out.size; clear hb1)
        | (at_builtin; refine wpList_append_own _ rfl (.tmp 42) (.tmp 44) 22 rfl w.heap.size 3 i64i _ 1 8 Tryd.underlying22 hi64 hz0 hz1 hz2 rfl (by decide) _ _ _ rfl (HR1.out.alloc _) ⟨w1.heap.size, 0, none⟩ 1 1 (i64s [x]) rfl rfl (news_list _ _ _ _ rfl) (i64s_one _) (by unfold maxLen; omega) (by omega) (by simp; omega) ?_; intro v2 w2 hown2 hg2 _))
      rw [HTK.out] at hown2
      go_roundw
      case rel => exact ⟨k + 1, by omega, by omega, by go_num, hown2, ((HB.out.trans (HB1.out.mono hz)).alloc (by omega) _).trans (grown_base (HR1.out.alloc _) (by simp; omega) hg2)⟩
      case measure => simp [intOf]; omega
    · have hkw : (ws.take k).length = k := by
        have : ws.length = n := by rw [HWS.out]; simp [HL.out]
        rw [List.length_take]; omega
      have HI : Hid (∀ V, Below wr.heap.size wr V → IntsVal V (.slice ao1 k cap1) (ws.take k)) := fun V hV => (ints_of_own (base := w.heap.size) (l := ws.take k) (by rw [hkw]; exact hr)).keeps (keeps_below hV)
      have hl12 : (ws.take k).length ≤ 12 := by rw [hkw]; exact hk12
      have HST : Hid (∀ (c : Cp) V, c.Ok → RvTab V → IntsVal V (.slice ao1 k cap1) (ws.take k) → Calls Tryd.prog 14 #[.slice ao1 k cap1, .agg (cpuCells c).toArray] V fun e w' => e = .returned (.tuple #[.agg (cpuCells (stepAns (ws.take k) c).1).toArray, .int .i64 (stepAns (ws.take k) c).2]) ∧ Below V.heap.size V w') := fun c V hc hV hI => by
        have := cpuStep_any c hc (ws.take k) ao1 cap1 V hV (by rw [hkw]; exact hI)
        rw [hkw] at this
        exact this
      have HRU : Hid (∀ (c : Cp) V, c.Ok → RvTab V → IntsVal V (.slice ao1 k cap1) (ws.take k) → Calls Tryd.prog 17 #[.slice ao1 k cap1, .agg (cpuCells c).toArray, .int .i64 (N : Int)] V fun e w' => e = .returned (.tuple #[.agg (cpuCells (runAns (ws.take k) c (N : Int)).1).toArray, .int .i64 (runAns (ws.take k) c (N : Int)).2.1, .int .i64 (runAns (ws.take k) c (N : Int)).2.2]) ∧ Below V.heap.size V w') := fun c V hc hV hI => by
        have := cpuRun_any c hc (ws.take k) ao1 cap1 (N : Int) V hV (by rw [hkw]; exact hI)
        rw [hkw] at this
        exact this
      generalize ws.take k = wk at HI HST HRU hl12
      have hor : (¬ (k : Int) < n ∧ decide ((k : Int) < n) = false ∧ decide (k < n) = false ∧ True ∧ True) ∨ ((k : Int) < n ∧ decide ((k : Int) < n) = true ∧ decide (k < n) = true ∧ decide ((k : Int) < 12) = false ∧ decide (k < 12) = false) := by
        by_cases h1 : k < n
        · right
          have h2 : ¬ k < 12 := fun h2 => hlt ⟨h1, h2⟩
          exact ⟨by omega, by simp; omega, by simpa using h1, by simp; omega, by simpa using h2⟩
        · left
          exact ⟨by omega, by simp; omega, by simpa using h1, trivial, trivial⟩
      have hNI : (N : Int) ≤ 4000000 := by omega
      clear hr hb HV HFX HWS HAO hkw hlt
      obtain ⟨W0, hW0⟩ : ∃ W0, W0 = wr := ⟨_, rfl⟩
      subst hW0
      rcases hor with ⟨-, dA, dN, -, -⟩ | ⟨-, dA, dN, dB, dM⟩
      all_goals
        go_wp2_with fail
        have HC1 : Hid (CAt (W0.alloc (.cells Tryd.zeroCells26 26)) W0.heap.size (CQ l 0)) := by rw [cq_zero]; exact CAt.new W0
        have HG1 : Hid (Below W0.heap.size W0 (W0.alloc (.cells Tryd.zeroCells26 26))) := (Below.refl _ _).alloc (Nat.le_refl _) _
        generalize W0.alloc (.cells Tryd.zeroCells26 26) = W1 at HC1 HG1 ⊢
        generalize hgc : W0.heap.size = gc at *
        go_loopw [12] (fun v wr => ∃ q : Nat, q ≤ nr ∧ q ≤ 32 ∧ v = .int .i64 q ∧ CAt wr gc (CQ l q) ∧ Below gc W0 wr) (fun v _ => 32 - (intOf v).toNat)
        case atStart => exact ⟨0, Nat.zero_le _, Nat.zero_le _, rfl, HC1.out, HG1.out⟩
        case round =>
          obtain ⟨q, hq, hq32, rfl, hcq, hgq⟩ := hrel
          have HCQ : Hid (CAt wr gc (CQ l q)) := hcq
          have HGQ : Hid (Below gc W0 wr) := hgq
          have HBQ : Hid (Below w.heap.size w wr) := HB.out.trans (hgq.mono hz)
          by_cases hqt : q < nr ∧ q < 32
          · have hql : q < l.length := by rw [HRL.out]; exact hqt.1
            obtain rfl := HRA.out (by omega)
            have cl := HRC.out wr HBQ.out q hql
            have kc := hcq.reg q hqt.2
            have fc := hcq.free q
            have hset := hcq.set q hqt.2 l[q]
            rw [cq_set l q hql hqt.2] at hset
            have HS : Hid (CAt (wr.setCell ⟨gc, q, none⟩ (.int .i64 l[q])) gc (CQ l (q + 1))) := hset
            have q1 : (q : Int) < nr := by omega
            have q2 : (q : Int) < 32 := by omega
            generalize l[q] = x at cl HS
            clear hcq hgq hset
            go_wp2
            go_roundw
            case rel => exact ⟨q + 1, by omega, by omega, by go_num, HS.out, HGQ.out.setCell (Nat.le_refl _) _⟩
            case measure => simp [intOf]; omega
          · -- the numbers are laid
            have hor : (¬ (q : Int) < nr ∧ decide ((q : Int) < nr) = false ∧ decide (q < nr) = false ∧ True ∧ True) ∨ ((q : Int) < nr ∧ decide ((q : Int) < nr) = true ∧ decide (q < nr) = true ∧ decide ((q : Int) < 32) = false ∧ decide (q < 32) = false) := by
              by_cases h1 : q < nr
              · right
                have h2 : ¬ q < 32 := fun h2 => hqt ⟨h1, h2⟩
                exact ⟨by omega, by simp; omega, by simpa using h1, by simp; omega, by simpa using h2⟩
              · left
                exact ⟨by omega, by simp; omega, by simpa using h1, trivial, trivial⟩
            have hok0 := hcq.ok
            obtain ⟨A, hA⟩ : ∃ A, A = runAns wk (CQ l q) (N : Int) := ⟨_, rfl⟩
            have hA1 : A.1.Ok := by rw [hA, runAns_eq N (by omega) (by omega)]; exact runA_ok _ _ _ hok0.begun
            have hA2 : runA wk N 0 (CQ l q).begun = A := by rw [hA, runAns_eq N (by omega) (by omega)]
            have hRu := fun V h1 h2 => HRU.out (CQ l q) V hok0 h1 h2
            rw [← hA] at hRu
            obtain ⟨D, M, E⟩ := A
            dsimp only at hA1 hRu
            have HRN : Hid (∀ V, RvTab V → IntsVal V (.slice ao1 k cap1) wk → Calls Tryd.prog 17 #[.slice ao1 k cap1, .agg (cpuCells (CQ l q)).toArray, .int .i64 (N : Int)] V fun e w' => e = .returned (.tuple #[.agg (cpuCells D).toArray, .int .i64 M, .int .i64 E]) ∧ Below V.heap.size V w') := hRu
            have HA2 : Hid (runA wk N 0 (CQ l q).begun = (D, M, E)) := hA2
            obtain ⟨W2, hW2⟩ : ∃ W2, W2 = wr := ⟨_, rfl⟩
            subst hW2
            clear hRu hA2 hA HRU HRC HRA HRL hcq hgq hqt HC1 HG1
            rcases hor with ⟨-, eA, eN, -, -⟩ | ⟨-, eA, eN, eB, eM⟩
            all_goals
              go_upto_region 16 with (first
                | (go_at_call 19; refine (hpk _).mono ?_; rintro e w' ⟨rfl, hw'⟩; replace hw' := hw'.symm; subst hw')
                | (refine wpList_load_row rfl _ _ rfl _ rfl _ _ _ _ HCQ.out.cells Tryd.underlying26 rfl (infoCpC HCQ.out.ok) ?_)
                | (go_at_call 17; refine (HRN.out _ (HT.out _ HBQ.out) (HI.out _ HGQ.out)).mono ?_; rintro e w1 ⟨rfl, hbx⟩; have HX : Hid (Below W2.heap.size W2 w1) := hbx; clear hbx)
                | (refine wpList_store_row rfl _ _ _ rfl _ (cpuCells D).toArray rfl rfl _ _ (heap_alloc_last w1 _) (infoCpC hA1) (by rw [zc_cp, List.size_toArray, cp_len hA1]) (cp_one _) ?_))
              have lq := HCQ.out.lt
              have hg1 : gc < w1.heap.size := Nat.lt_of_lt_of_le lq HX.out.size
              have HYc : Hid (Below w1.heap.size w1 ((w1.alloc (.cells Tryd.zeroCells26 26)).setRow w1.heap.size (cpuCells D).toArray)) := below_setRowR ((Below.refl _ _).alloc (Nat.le_refl _) _) (Nat.le_refl _) _
              have HCd : Hid (CAt ((w1.alloc (.cells Tryd.zeroCells26 26)).setRow w1.heap.size (cpuCells D).toArray) gc (CQ l q)) := (HCQ.out.below HX.out lq).below HYc.out hg1
              have HDd : Hid (CAt ((w1.alloc (.cells Tryd.zeroCells26 26)).setRow w1.heap.size (cpuCells D).toArray) w1.heap.size D) := CAt.row hA1 (heap_alloc_last w1 _)
              have HGd : Hid (Below gc W0 ((w1.alloc (.cells Tryd.zeroCells26 26)).setRow w1.heap.size (cpuCells D).toArray)) := (HGQ.out.trans (HX.out.mono (Nat.le_of_lt lq))).trans (HYc.out.mono (Nat.le_of_lt hg1))
              clear HYc HX HCQ HGQ HBQ lq
              generalize ((w1.alloc (.cells Tryd.zeroCells26 26)).setRow w1.heap.size (cpuCells D).toArray) = Wd at HCd HDd HGd ⊢
              generalize w1.heap.size = gd at *
              go_upto_region 17 with (first | (refine wpList_load_row rfl _ _ rfl _ rfl _ _ _ _ HCd.out.cells Tryd.underlying26 rfl (infoCpC HCd.out.ok) ?_) | (refine wpList_store_row rfl _ _ _ rfl _ (cpuCells (CQ l q)).toArray rfl rfl _ _ (heap_alloc_last Wd _) (infoCpC hok0) (by rw [zc_cp, List.size_toArray, cp_len hok0]) (cp_one _) ?_))
              have lc := HCd.out.lt
              have ldd := HDd.out.lt
              have HYe : Hid (Below Wd.heap.size Wd ((Wd.alloc (.cells Tryd.zeroCells26 26)).setRow Wd.heap.size (cpuCells (CQ l q)).toArray)) := below_setRowR ((Below.refl _ _).alloc (Nat.le_refl _) _) (Nat.le_refl _) _
              have HCe : Hid (CAt ((Wd.alloc (.cells Tryd.zeroCells26 26)).setRow Wd.heap.size (cpuCells (CQ l q)).toArray) Wd.heap.size (CQ l q)) := CAt.row hok0 (heap_alloc_last Wd _)
              have HDe : Hid (CAt ((Wd.alloc (.cells Tryd.zeroCells26 26)).setRow Wd.heap.size (cpuCells (CQ l q)).toArray) gd D) := HDd.out.below HYe.out ldd
              have HGe : Hid (Below gc W0 ((Wd.alloc (.cells Tryd.zeroCells26 26)).setRow Wd.heap.size (cpuCells (CQ l q)).toArray)) := HGd.out.trans (HYe.out.mono (Nat.le_of_lt lc))
              clear HYe HCd HDd HGd
              generalize ((Wd.alloc (.cells Tryd.zeroCells26 26)).setRow Wd.heap.size (cpuCells (CQ l q)).toArray) = We at HCe HDe HGe ⊢
              generalize Wd.heap.size = gs at *
              have k0 := HCe.out.reg 0 (by decide)
              have f0 := HCe.out.free 0
              have HCf : Hid (CAt (We.setCell ⟨gs, 0, none⟩ (.int .i64 0)) gs (CQ l q).begun) := HCe.out.set 0 (by decide) 0
              have HDf : Hid (CAt (We.setCell ⟨gs, 0, none⟩ (.int .i64 0)) gd D) := HDe.out.other (by omega)
              have HGf : Hid (Below gc W0 (We.setCell ⟨gs, 0, none⟩ (.int .i64 0))) := HGe.out.setCell (by show gc ≤ gs; omega) _
              go_wp2_with fail
              generalize (We.setCell ⟨gs, 0, none⟩ (.int .i64 0)) = Wf at HCf HDf HGf ⊢
              clear k0 f0 HCe HDe HGe
              go_loopw [18] (fun v wr => ∃ (st : Nat) (s : Cp), st ≤ N ∧ v = .int .i64 st ∧ CAt wr gs s ∧ s.Z ∧ runA wk (N - st) st s = (D, M, E) ∧ Below gs Wf wr) (fun v _ => N - (intOf v).toNat)
              case atStart => exact ⟨0, _, Nat.zero_le _, rfl, HCf.out, begun_z hok0, HA2.out, Below.refl _ _⟩
              case round =>
                obtain ⟨st, s, hst, rfl, hcs, hsz, hra, hgs⟩ := hrel
                have HCs : Hid (CAt wr gs s) := hcs
                have HGs : Hid (Below gs Wf wr) := hgs
                have HDs : Hid (CAt wr gd D) := HDf.out.below hgs ldd
                have HGw : Hid (Below gc W0 wr) := HGf.out.trans (hgs.mono (by omega))
                have HBw : Hid (Below w.heap.size w wr) := HB.out.trans (HGw.out.mono hz)
                have hsok := hcs.ok
                have c97 := hcs.halt
                have ls := hcs.lt
                clear hcs hgs HA2
                cases hh : s.halted
                · rw [hh] at c97
                  by_cases hsn : st = N
                  · subst hsn
                    rw [Nat.sub_self, runA_short st hh] at hra
                    simp only [Prod.mk.injEq] at hra
                    obtain ⟨-, e2, e3⟩ := hra
                    subst e2 e3
                    clear hh
                    go_wp2
                    go_ret
                    exact ⟨by simp, HBw.out⟩
                  · have hnk : ¬ (st : Int) = (N : Int) := by omega
                    obtain ⟨m, hm⟩ : ∃ m, N - st = m + 1 := ⟨N - st - 1, by omega⟩
                    rw [hm] at hra
                    have hans := stepAns_on (ws := wk) hsz hl12 hh
                    have hSt := HST.out s wr hsok (HT.out _ HBw.out) (HI.out _ HGw.out)
                    by_cases hE : stepE wk s = 0
                    · rw [runA_on m st hh hE] at hra
                      rw [hans, if_pos hE] at hSt
                      dsimp only at hSt
                      have hok2 := stepC_ok (ws := wk) hsok
                      have hz2 := step_z hsz hE
                      generalize stepC wk s = s2 at hSt hra hok2 hz2
                      have HSt : Hid (Calls Tryd.prog 14 #[.slice ao1 k cap1, .agg (cpuCells s).toArray] wr fun e w' => e = .returned (.tuple #[.agg (cpuCells s2).toArray, .int .i64 0]) ∧ Below wr.heap.size wr w') := hSt
                      have HRA2 : Hid (runA wk m (st + 1) s2 = (D, M, E)) := hra
                      clear hSt hra hans hE hh
                      go_upto_region 25 with (first
                        | (refine wpList_load_row rfl _ _ rfl _ rfl _ _ _ _ HCs.out.cells Tryd.underlying26 rfl (infoCpC HCs.out.ok) ?_)
                        | (go_at_call 14; refine HSt.out.mono ?_; rintro e w3 ⟨rfl, hbx⟩; have HX : Hid (Below wr.heap.size wr w3) := hbx; clear hbx)
                        | (refine wpList_store_row rfl _ _ _ rfl _ (cpuCells s2).toArray rfl rfl _ _ (heap_alloc_last w3 _) (infoCpC hok2) (by rw [zc_cp, List.size_toArray, cp_len hok2]) (cp_one _) ?_))
                      have hg5 : gs < w3.heap.size := Nat.lt_of_lt_of_le ls HX.out.size
                      have HYn : Hid (Below w3.heap.size w3 ((w3.alloc (.cells Tryd.zeroCells26 26)).setRow w3.heap.size (cpuCells s2).toArray)) := below_setRowR ((Below.refl _ _).alloc (Nat.le_refl _) _) (Nat.le_refl _) _
                      have HN : Hid (CAt ((w3.alloc (.cells Tryd.zeroCells26 26)).setRow w3.heap.size (cpuCells s2).toArray) w3.heap.size s2) := CAt.row hok2 (heap_alloc_last w3 _)
                      have HCn : Hid (CAt ((w3.alloc (.cells Tryd.zeroCells26 26)).setRow w3.heap.size (cpuCells s2).toArray) gs s) := (HCs.out.below HX.out ls).below HYn.out hg5
                      have HGn : Hid (Below gs Wf ((w3.alloc (.cells Tryd.zeroCells26 26)).setRow w3.heap.size (cpuCells s2).toArray)) := (HGs.out.trans (HX.out.mono (Nat.le_of_lt ls))).trans (HYn.out.mono (Nat.le_of_lt hg5))
                      clear HYn HX HCs HGs c97
                      generalize ((w3.alloc (.cells Tryd.zeroCells26 26)).setRow w3.heap.size (cpuCells s2).toArray) = Wn at HN HCn HGn ⊢
                      generalize w3.heap.size = gn at *
                      go_wp2_with (first
                        | (refine wpList_load_row rfl _ _ rfl _ rfl _ _ _ _ HN.out.cells Tryd.underlying26 rfl (infoCpC HN.out.ok) ?_)
                        | (refine wpList_store_row rfl _ _ _ rfl _ (cpuCells s2).toArray rfl rfl _ _ HCn.out.cells (infoCpC hok2) (by rw [List.size_toArray, List.size_toArray, cp_len hok2, cp_len hsok]) (cp_one _) ?_))
                      go_roundw
                      case rel => exact ⟨st + 1, s2, by omega, by go_num, ⟨setRow_heap _ _ _ _ _ _ HCn.out.cells, hok2⟩, hz2, by rw [show N - (st + 1) = m by omega]; exact HRA2.out, below_setRowR HGn.out (Nat.le_refl _) _⟩
                      case measure => simp [intOf]; omega
                    · rw [runA_bad m st hh hE] at hra
                      rw [hans, if_neg hE] at hSt
                      dsimp only at hSt
                      simp only [Prod.mk.injEq] at hra
                      obtain ⟨-, e2, e3⟩ := hra
                      have hne : (stepE wk s != 0) = true := by simpa using hE
                      rw [e3] at hSt hne
                      subst e2
                      have HSt : Hid (Calls Tryd.prog 14 #[.slice ao1 k cap1, .agg (cpuCells s).toArray] wr fun e w' => e = .returned (.tuple #[.agg (cpuCells zeroCp).toArray, .int .i64 E]) ∧ Below wr.heap.size wr w') := hSt
                      clear hSt hans hE hh e3
                      go_wp2_with (first
                        | (refine wpList_load_row rfl _ _ rfl _ rfl _ _ _ _ HCs.out.cells Tryd.underlying26 rfl (infoCpC HCs.out.ok) ?_)
                        | (go_at_call 14; refine HSt.out.mono ?_; rintro e w3 ⟨rfl, hbx⟩; have HX : Hid (Below w.heap.size w w3) := HBw.out.trans (hbx.mono HBw.out.size); clear hbx)
                        | (refine wpList_store_row rfl _ _ _ rfl _ (cpuCells zeroCp).toArray rfl rfl _ _ (heap_alloc_last w3 _) (infoCpC zero_ok) (by rw [zc_cp, List.size_toArray, cp_len zero_ok]) (cp_one _) ?_))
                      go_ret
                      exact ⟨by simp, below_setRowR (HX.out.alloc HX.out.size _) HX.out.size _⟩
                · rw [hh] at c97
                  rw [runA_stop _ st hh] at hra
                  simp only [Prod.mk.injEq] at hra
                  obtain ⟨e1, e2, e3⟩ := hra
                  subst e1 e2 e3
                  have qd := HDs.out.cells
                  have qs := HCs.out.cells
                  have hqq := equal_cp s hsok
                  have HIC : Hid ((Tryd.prog.info? 26).map (·.size) = some (cpuCells s).toArray.size) := infoCpC hsok
                  have QD : Hid (wr.heap[gd]? = some (.cells (cpuCells s).toArray 26 (0, 0))) := qd
                  have QS : Hid (wr.heap[gs]? = some (.cells (cpuCells s).toArray 26 (0, 0))) := qs
                  clear qd qs hh
                  go_wp2_with (first | (refine wpList_load_wantedH rfl _ _ rfl gd rfl _ _ _ _ QD.out Tryd.underlying26 rfl HIC.out ?_) | (refine wpList_load_wantedH rfl _ _ rfl gs rfl _ _ _ _ QS.out Tryd.underlying26 rfl HIC.out ?_))
                  go_ret
                  exact ⟨by simp, HBw.out⟩
end Go.Proofs.YtapjfiihfgndeaaDoor
