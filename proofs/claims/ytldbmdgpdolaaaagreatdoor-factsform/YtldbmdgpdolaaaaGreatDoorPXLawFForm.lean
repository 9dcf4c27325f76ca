import Derived.Test.YtldbmdgpdolaaaaGreatDoorPXBrief
import Derived.Test.YtldbmdgpdolaaaaGreatDoorPXFoldFacts
import Derived.Test.YtldbmdgpdolaaaaGreatDoorPXRightRaw
import Derived.Test.YtldbmdgpdolaaaaGreatDoorPXSsaBuild
namespace Go.Proofs.YtldbmdgpdolaaaaGreatDoor
open Go Go.RowKit

set_option maxHeartbeats 8000000 in
set_option maxRecDepth 100000 in
theorem factsForm_walk (l : List Fn) (v : Value) (fn : Int) (w : World) (ht : TabOk w) (hc : CallOk w) (hv : ProgVal w v l) (hwf : ∀ f ∈ l, f.wf) (hfn : I64 fn) (hg : KnowG w) :
    Calls Tryz.prog 5 #[v, .int .i64 fn] w fun e w' => e = .returned (.bool true) ∧ Below w.heap.size w w' := by
  have hSh := program_raw l v w ht hc hv hwf
  obtain ⟨aol, nl, capl, rfl⟩ := hv.shape
  have HT : Hid (TabOk w) := ht
  have HCO : Hid (CallOk w) := hc
  have HGK : Hid (KnowG w) := hg
  clear hg
  clear hv hwf ht hc
  go_enter Tryz.func5, Tryz.ntmps5
  go_upto_region 2 with (go_at_call 10; refine hSh.mono ?_; rintro e w1 ⟨v1, P, us, rfl, hpi, hbt, hb1⟩; have hp1 := hbt.prog; have hcp := progIs_code hpi; obtain ⟨hn1, hn4, -⟩ := codeProg_zero hcp; obtain ⟨k, hk, ek⟩ := pick_some fn P.length hn1; obtain ⟨b, off, cap, u, rfl, d0, d1, d2, hcv, hm, hcc⟩ := prog_fn hp1 hk)
  have hRi := progIs_ans hpi
  have OK : Hid (FlowOk P P[k]) := flowOk_of hRi (List.getElem_mem hk)
  have hl1 := OK.out.ok.len1
  have hl2 := OK.out.ok.len2
  have hfe := fnErr_ok hcp hk
  have hca : codeAt P k = P[k].code := by simp [codeAt, List.getD, hk]
  have HFA : Hid (∀ W, Below w1.heap.size w1 W → Calls Tryz.prog 14 #[.agg #[.slice (some ⟨b, off, none⟩) P.length cap], .int .i64 k] W (FactsPost W P P[k])) := fun W hb => Facts_right P hRi k hk _ W ((HT.out.below hb1).below hb) ((HCO.out.below hb1).below hb) ((HGK.out.below hb1).below hb) (hp1.keeps (keeps_below hb))
  have HUR : Hid (∀ q, q < P[k].code.length → Way P[k] 63 q → ∀ r, r < 12 → (rdMask P (insD P[k] q)).testBit r = true → ¬ Way P[k] r q) := right_reads hRi (List.getElem_mem hk)
  have HBD : Hid (∀ W, Below w1.heap.size w1 W → Calls Tryz.prog 15 #[.agg #[.slice (some ⟨b, off, none⟩) P.length cap], .int .i64 k] W (BuildPost W P P[k])) := fun W hb => Build_right P hRi k hk _ W ((HT.out.below hb1).below hb) ((HCO.out.below hb1).below hb) (hp1.keeps (keeps_below hb))
  obtain ⟨ao2, b2, off2, n, cap2, rfl, ⟨hlen2, haddr2, hat2⟩, hcap2, hmx2⟩ := hcv
  obtain rfl := haddr2 (by omega)
  have HB1 : Hid (Below w.heap.size w w1) := hb1
  have hz1 := hb1.size
  have hkI : (k : Int) < P.length := by omega
  have hcc2 := hcap2.1
  have HN : Hid (P[k].code.length = n) := hlen2
  clear hfe hRi hpi hcp hbt hp1 hb1 hSh hca hat2 haddr2 hcap2
  rw [hlen2] at hl1 hl2
  generalize P[k] = f at *
  clear hlen2
  unfold maxLen at hmx2
  have d0' := fun o => cell_alloc d0 o
  have d1' := fun o => cell_alloc d1 o
  have t2 := fun o => cell_alloc d2 o
  generalize hNN : P.length = N at *
  clear hNN
  have HWA : Hid (Below w1.heap.size w1 (w1.alloc (.cells #[.slice (some ⟨b, off, none⟩) N cap] 29))) := (Below.refl _ _).alloc (Nat.le_refl _) _
  obtain ⟨fp, fr, fc⟩ := f
  dsimp only at *
  go_upto_region 5 with (first
    | (go_at_call 17; refine (picked_any _ _ _ hfn (by omega) (by omega)).mono ?_; rintro e w' ⟨rfl, hw'⟩; replace hw' := hw'.symm; subst hw')
    | (go_at_call 14; refine (HFA.out _ HWA.out).mono ?_; rintro e w2 hp; obtain ⟨S, T, L, pn, g0, D, ar, FB, MR, F, G, rfl, hIS, hinv, hclo, hF, hM, hfb, hmr, hne, hb2⟩ := hp; have q0 := keeps_below hb2 ⟨w1.heap.size, 0, none⟩ (.slice (some ⟨b, off, none⟩) N cap) (by simp); have q2 := keeps_below hb2 _ _ (t2 _); have HB2 : Hid (Below w1.heap.size w1 w2) := HWA.out.trans (hb2.mono HWA.out.size); have HIS : Hid (SsaIs P ⟨fp, fr, fc⟩ S T L pn g0 D) := hIS; have HIC : Hid ((fcOf ⟨fp, fr, fc⟩ S T pn g0 D ar).know.Inv F G ∧ (fcOf ⟨fp, fr, fc⟩ S T pn g0 D ar).know.Closed F G) := ⟨hinv, hclo⟩; have HFM : Hid (w2.heap[FB]? = some (.cells (gC (fun v => factC (F v)) (idsD pn S.length D).length).toArray 65 (0, 0)) ∧ w2.heap[MR]? = some (.cells (metL G (prevs ⟨fp, fr, fc⟩ S T) S.length S.length).toArray 4 (0, 0))) := ⟨hF, hM⟩; clear hIS hinv hclo hF hM hfb hmr hne hb2)
    | (go_at_call 15; refine (HBD.out _ HB2.out).mono ?_; rintro e w3 hp; obtain ⟨S2, T2, L2, pn2, g2, D2, ar2, gp, Ly, rfl, hIS2, hPA, hb3⟩ := hp; obtain ⟨rfl, hTT, rfl, rfl, rfl, hph, hin, hid⟩ := HIS.out.same OK.out hIS2; have HIS2 : Hid (SsaIs P ⟨fp, fr, fc⟩ S T2 L pn g0 D2) := hIS2; have HPA : Hid (PartsAt w3 _ gp S.length (finD pn S.length g0 D2 ar2) Ly) := hPA; have HSM : Hid ((∀ b, b < S.length → D.ph b = D2.ph b) ∧ (∀ b, b < S.length → D.ins b = D2.ins b) ∧ ∀ i, i < S.length → T i = T2 i) := ⟨hph, hin, hTT⟩; have HB3 : Hid (Below w2.heap.size w2 w3) := hb3; rw [← hid]; have HID : Hid (idsD pn S.length D = idsD pn S.length D2) := hid; clear hIS2 hPA hph hin hTT hb3 hid))
  obtain ⟨hk0, -⟩ := HIS.out.ok.starts.first
  have hk0I : ((S.length : Int) == 0) = false := beq_eq_false_iff_ne.2 (by omega)
  have hkn : S.length ≤ 40 := blocks40 OK.out HIS.out.ok
  have HB4 : Hid (Below w.heap.size w w3) := HB1.out.trans ((HB2.out.trans (HB3.out.mono HB2.out.size)).mono hz1)
  have r10 : (w3.alloc (.cells #[.int .i64 (pn : Int), .int .i64 ((idsD pn S.length D).length : Int), .slice (some ⟨gp, 0, none⟩) S.length S.length] 55)).heap[w3.heap.size]? = some (.cells #[.int .i64 (pn : Int), .int .i64 ((idsD pn S.length D).length : Int), .slice (some ⟨gp, 0, none⟩) S.length S.length] 55 (0, 0)) := heap_alloc_last _ _
  have hbb : Below w3.heap.size w3 (w3.alloc (.cells #[.int .i64 (pn : Int), .int .i64 ((idsD pn S.length D).length : Int), .slice (some ⟨gp, 0, none⟩) S.length S.length] 55)) := (Below.refl _ _).alloc (Nat.le_refl _) _
  have HBV : Hid (Below w.heap.size w (w3.alloc (.cells #[.int .i64 (pn : Int), .int .i64 ((idsD pn S.length D).length : Int), .slice (some ⟨gp, 0, none⟩) S.length S.length] 55))) := HB4.out.trans (hbb.mono HB4.out.size)
  have HPV : Hid (PartsAt (w3.alloc (.cells #[.int .i64 (pn : Int), .int .i64 ((idsD pn S.length D).length : Int), .slice (some ⟨gp, 0, none⟩) S.length S.length] 55)) _ gp S.length (finD pn S.length g0 D2 ar2) Ly) := HPA.out.below hbb
  have hb23 := HB3.out.trans (hbb.mono HB3.out.size)
  have HFV : Hid ((w3.alloc (.cells #[.int .i64 (pn : Int), .int .i64 ((idsD pn S.length D).length : Int), .slice (some ⟨gp, 0, none⟩) S.length S.length] 55)).heap[FB]? = some (.cells (gC (fun v => factC (F v)) (idsD pn S.length D).length).toArray 65 (0, 0)) ∧ (w3.alloc (.cells #[.int .i64 (pn : Int), .int .i64 ((idsD pn S.length D).length : Int), .slice (some ⟨gp, 0, none⟩) S.length S.length] 55)).heap[MR]? = some (.cells (metL G (prevs ⟨fp, fr, fc⟩ S T) S.length S.length).toArray 4 (0, 0))) := ⟨(hb23.block _ (lt_of_block HFM.out.1)).trans HFM.out.1, (hb23.block _ (lt_of_block HFM.out.2)).trans HFM.out.2⟩
  clear hbb hb23 HPA HFM HFA HBD q0 q2 d0 d1 d2 d0' d1' t2
  generalize (w3.alloc (.cells #[.int .i64 (pn : Int), .int .i64 ((idsD pn S.length D).length : Int), .slice (some ⟨gp, 0, none⟩) S.length S.length] 55)) = V at *
  generalize w3.heap.size = P10 at *
  obtain ⟨vn, hvn⟩ : ∃ vn, vn = (idsD pn S.length D).length := ⟨_, rfl⟩
  rw [← hvn] at r10
  rw [← hvn]
  have HVN : Hid ((idsD pn S.length D).length = vn) := hvn.symm
  clear hvn
  obtain ⟨K, hK⟩ : ∃ K, K = S.length := ⟨_, rfl⟩
  rw [← hK] at r10 hk0I hkn hk0
  rw [← hK]
  have HKS : Hid (S.length = K) := hK.symm
  clear hK
  have s0 : V.cell? ⟨P10, 0, none⟩ = some (.int .i64 (pn : Int)) := by rw [cell_of_row _ _ _ _ _ _ r10]; rfl
  have s1 : V.cell? ⟨P10, 1, none⟩ = some (.int .i64 (vn : Int)) := by rw [cell_of_row _ _ _ _ _ _ r10]; rfl
  have s2 : V.cell? ⟨P10, 2, none⟩ = some (.slice (some ⟨gp, 0, none⟩) K K) := by rw [cell_of_row _ _ _ _ _ _ r10]; rfl
  have m0 : V.cell? ⟨MR, 0, none⟩ = some (.bool true) := by
    rw [cell_of_row _ _ _ _ _ _ HFV.out.2, List.getElem?_toArray, metL_get _ _ _ _ _ (by rw [HKS.out]; exact hk0), if_pos (by rw [HKS.out]; exact hk0)]
    rw [show metB G (prevs ⟨fp, fr, fc⟩ S T 0) ((0 : Nat) : Int) = true from met_first HIC.out.1]
  have hk0J : ((0 : Nat) : Int) < (K : Int) := by omega
  have hk0L : (0 : Int) < (K : Int) := by omega
  clear r10
  go_upto_region 7 with fail
  have HCF : Hid (∀ v, v < vn → V.cell? ⟨FB, v * 2, none⟩ = some (.int .i64 (F v).kind) ∧ V.cell? ⟨FB, v * 2 + 1, none⟩ = some (.int .i64 (F v).num)) := fun v hv => by
    have h1 : ∀ c, c < 2 → V.cell? ⟨FB, v * 2 + c, none⟩ = (factC (F v))[c]? := fun c hc => by
      rw [cell_of_row _ _ _ _ _ _ HFV.out.1, List.getElem?_toArray]
      exact gC_get (s := 2) (C := fun v => factC (F v)) (fun i _ => factC_len _) v c (by rw [HVN.out]; exact hv) hc
    exact ⟨h1 0 (by omega), h1 1 (by omega)⟩
  have HPM : Hid (∀ v, v < pn → F v = .many) := fun v hv => HIC.out.2.par v hv
  have HPN : Hid (pn ≤ vn) := by
    have h1 := idsTo_mono pn D.ph D.ins (Nat.zero_le S.length)
    rw [idsTo_zero] at h1
    have h2 : (idsTo pn D.ph D.ins S.length).length = vn := HVN.out
    show _ ≤ _
    omega
  have HVB : Hid (vn ≤ 3000) := by
    have h1 := (HIS.out.fcOk OK.out HUR.out (ar := ar)).vn
    have h2 : (idsD pn S.length D).length ≤ 3000 := h1
    show _ ≤ _
    rw [← HVN.out]; exact h2
  have hpn2 := HPN.out
  have hvb := HVB.out
  have HINS : Hid (∀ i, i < K → ∃ (ao : Option Addr) (q c ni : Nat), ni ≤ 40 ∧ (0 < ni → ao = some ⟨q, 0, none⟩) ∧ (∀ W, Below V.heap.size V W → W.cell? ⟨gp, i * 15 + 2, none⟩ = some (.slice ao ni c)) ∧ ∀ j, j < ni → ∃ x : InsD, (∀ W, Below V.heap.size V W → W.rangeAt q (j * 6) (inC x)) ∧ x.id < (vn : Int) ∧ (x.op = 1 → 0 ≤ x.id ∧ F x.id.toNat = if metB G (prevs ⟨fp, fr, fc⟩ S T i) i = true then .known x.imm else .never)) := fun i hi => by
    rw [← HKS.out] at hi
    obtain ⟨ao, q, c, e, -, h0, hj⟩ := HPV.out.inss hi
    refine ⟨ao, q, c, _, (HIS2.out.lastOf OK.out HUR.out (ar := ar2) hi).2.1, h0, fun W hW => by rw [(HPV.out.below hW).cellI hi, e], fun j hjl => ⟨_, fun W hW => hj W hW j hjl, ?_, fun ho => ?_⟩⟩
    · have h1 := ((HIS2.out.fcOk OK.out HUR.out (ar := ar2)).ins i hi).2.2 _ (List.getElem_mem hjl)
      have h2 := h1.2.1
      have h3 : (idsD pn S.length D2).length = vn := by rw [← HID.out]; exact HVN.out
      rw [← h3]; exact h2
    · obtain ⟨g1, -, x, hx, g2, g3, g4, g5, g6, g7, -⟩ := HIS2.out.ins OK.out HUR.out (ar := ar2) hi hjl
      rw [← hx] at ho ⊢
      rw [g3] at ho
      have i1 : 0 ≤ x.id := g7.2 (by rw [ho]; rfl)
      have a1 : ¬ 0 ≤ x.a := fun h => by have := g5.1 h; unfold rdA at this; rw [ho, if_neg (by decide)] at this; exact absurd this (by decide)
      have b1 : ¬ 0 ≤ x.b := fun h => by have := g6.1 h; unfold rdB at this; rw [ho, if_neg (by decide)] at this; exact absurd this (by decide)
      obtain ⟨-, -, a2, -, b2', -⟩ := HIS2.out.insAll OK.out HUR.out (ar := ar2) hi hjl
      rw [← hx] at a2 b2'
      refine ⟨i1, set_fact HIC.out.1 HIC.out.2 hi ?_ (by omega) (by rw [g3]; exact ho) (by omega) (by omega)⟩
      show x ∈ (finD pn S.length g0 D ar).ins i
      have e3 : (finD pn S.length g0 D ar).ins i = (finD pn S.length g0 D2 ar2).ins i := by
        rw [finD_ins _ _ _ _ _ hi, finD_ins _ _ _ _ _ hi, HSM.out.2.1 i hi, HID.out]
      rw [e3, hx]
      exact List.getElem_mem hjl
  clear m0
  go_upto_region 8 with fail
  go_loopw [12] (fun i wr => ∃ q : Nat, q ≤ pn ∧ i = .int .i64 q ∧ Below V.heap.size V wr) (fun i _ => pn - (intOf i).toNat)
  case atStart => exact ⟨0, Nat.zero_le _, rfl, Below.refl _ _⟩
  case round =>
    obtain ⟨q, hq, rfl, hbo⟩ := hrel
    rename World => wo
    have HBO : Hid (Below V.heap.size V wo) := hbo
    have s0o := keeps_below hbo _ _ s0
    clear hbo
    by_cases hlq : q < pn
    · have hqI : (q : Int) < pn := by omega
      have hqv : (q : Int) < vn := by omega
      have c0 := (HCF.out q (by omega)).1
      rw [HPM.out q hlq] at c0
      replace c0 : wo.cell? ⟨FB, q * 2, none⟩ = some (.int .i64 2) := keeps_below HBO.out _ _ c0
      go_wp2
      go_roundw
      case rel => exact ⟨q + 1, by omega, by go_num, HBO.out⟩
      case measure => simp [intOf]; omega
    · obtain rfl : pn = q := by omega
      clear hlq hq
      go_upto_region 13 with fail
      clear s0o
      go_loopw [13] (fun i wr => ∃ q : Nat, q ≤ vn ∧ i = .int .i64 q ∧ Below V.heap.size V wr) (fun i _ => vn - (intOf i).toNat)
      case atStart => exact ⟨0, Nat.zero_le _, rfl, HBO.out⟩
      case round =>
        clear HBO
        obtain ⟨q, hq, rfl, hbo⟩ := hrel
        rename World => wo
        have HBO : Hid (Below V.heap.size V wo) := hbo
        clear hbo
        by_cases hlq : q < vn
        · have hqv : (q : Int) < vn := by omega
          obtain ⟨c0, c1⟩ := HCF.out q (by omega)
          replace c0 := keeps_below HBO.out _ _ c0
          replace c1 := keeps_below HBO.out _ _ c1
          by_cases hkd : (F q).kind = 1
          · rw [hkd] at c0
            clear hkd c1
            go_wp2
            go_roundw
            case rel => exact ⟨q + 1, by omega, by go_num, HBO.out⟩
            case measure => simp [intOf]; omega
          · rw [num_known hkd] at c1
            obtain ⟨kd, hkd0⟩ : ∃ kd, kd = (F q).kind := ⟨_, rfl⟩
            rw [← hkd0] at c0 hkd
            have hk1 : (kd == 1) = false := beq_eq_false_iff_ne.2 hkd
            have hk2 : decide (kd = 1) = false := decide_eq_false hkd
            clear hkd0
            go_wp2
            go_roundw
            case rel => exact ⟨q + 1, by omega, by go_num, HBO.out⟩
            case measure => simp [intOf]; omega
        · obtain rfl : vn = q := by omega
          clear hlq hq
          go_upto_region 18 with fail
          go_loopw [14] (fun i wr => ∃ q : Nat, q ≤ K ∧ i = .int .i64 q ∧ Below V.heap.size V wr) (fun i _ => K - (intOf i).toNat)
          case atStart => exact ⟨0, Nat.zero_le _, rfl, HBO.out⟩
          case round =>
            clear HBO
            obtain ⟨i, hi, rfl, hbo⟩ := hrel
            rename World => wo
            have HBO : Hid (Below V.heap.size V wo) := hbo
            have s2o := keeps_below hbo _ _ s2
            clear hbo
            by_cases hli : i < K
            · have hiI : (i : Int) < K := by omega
              obtain ⟨aI, qI, cI, ni, hni, haI, hcI, hxI⟩ := HINS.out i hli
              have HXI : Hid (∀ j, j < ni → ∃ x : InsD, (∀ W, Below V.heap.size V W → W.rangeAt qI (j * 6) (inC x)) ∧ x.id < (vn : Int) ∧ (x.op = 1 → 0 ≤ x.id ∧ F x.id.toNat = if metB G (prevs ⟨fp, fr, fc⟩ S T i) i = true then .known x.imm else .never)) := hxI
              have HCI : Hid (∀ W, Below V.heap.size V W → W.cell? ⟨gp, i * 15 + 2, none⟩ = some (.slice aI ni cI)) := hcI
              have HAI : Hid (0 < ni → aI = some ⟨qI, 0, none⟩) := haI
              clear hxI hcI haI
              go_upto_region 21 with fail
              go_loopw [15] (fun i wr => ∃ q : Nat, q ≤ ni ∧ i = .int .i64 q ∧ Below V.heap.size V wr) (fun i _ => ni - (intOf i).toNat)
              case atStart => exact ⟨0, Nat.zero_le _, rfl, HBO.out⟩
              case round =>
                clear HBO s2o
                obtain ⟨j, hj, rfl, hbo⟩ := hrel
                rename World => wi
                have HBO : Hid (Below V.heap.size V wi) := hbo
                have s2o := keeps_below hbo _ _ s2
                have hci := HCI.out wi hbo
                clear hbo
                by_cases hlj : j < ni
                · have hjI : (j : Int) < ni := by omega
                  obtain ⟨x, hrow, hid, hset⟩ := HXI.out j hlj
                  have hrj := hrow wi HBO.out
                  obtain rfl := HAI.out (by omega)
                  obtain ⟨xo, xid, xa, xb, xi, xp⟩ := x
                  unfold inC at hrj
                  dsimp only at hrj hid hset
                  have hb10 : Below wi.heap.size wi (wi.alloc (.cells #[.int .i64 xo, .int .i64 xid, .int .i64 xa, .int .i64 xb, .int .i64 xi, .int .i64 xp] 67)) := (Below.refl _ _).alloc (Nat.le_refl _) _
                  have r16 : (wi.alloc (.cells #[.int .i64 xo, .int .i64 xid, .int .i64 xa, .int .i64 xb, .int .i64 xi, .int .i64 xp] 67)).heap[wi.heap.size]? = some (.cells #[.int .i64 xo, .int .i64 xid, .int .i64 xa, .int .i64 xb, .int .i64 xi, .int .i64 xp] 67 (0, 0)) := heap_alloc_last _ _
                  have HB10 : Hid (Below V.heap.size V (wi.alloc (.cells #[.int .i64 xo, .int .i64 xid, .int .i64 xa, .int .i64 xb, .int .i64 xi, .int .i64 xp] 67))) := HBO.out.trans (hb10.mono HBO.out.size)
                  clear hrow hb10
                  go_upto_region 24 with (refine wpList_load_mid rfl 67 _ rfl qI (j * 6) rfl _ _ hrj Tryz.underlying67 rfl infoInsG ?_)
                  clear hrj s2o hci
                  generalize (wi.alloc (.cells #[.int .i64 xo, .int .i64 xid, .int .i64 xa, .int .i64 xb, .int .i64 xi, .int .i64 xp] 67)) = V10 at *
                  generalize wi.heap.size = P10 at *
                  have y0 : V10.cell? ⟨P10, 0, none⟩ = some (.int .i64 xo) := by rw [cell_of_row _ _ _ _ _ _ r16]; rfl
                  by_cases ho : xo = 1
                  · obtain ⟨i0, hF⟩ := hset ho
                    subst ho
                    obtain ⟨v, rfl⟩ : ∃ v : Nat, xid = (v : Int) := ⟨xid.toNat, by omega⟩
                    rw [Int.toNat_natCast] at hF
                    have hvv : v < vn := by omega
                    have y1 : V10.cell? ⟨P10, 1, none⟩ = some (.int .i64 (v : Int)) := by rw [cell_of_row _ _ _ _ _ _ r16]; rfl
                    have y4 : V10.cell? ⟨P10, 4, none⟩ = some (.int .i64 xi) := by rw [cell_of_row _ _ _ _ _ _ r16]; rfl
                    have mc : V.cell? ⟨MR, i, none⟩ = some (.bool (metB G (prevs ⟨fp, fr, fc⟩ S T i) i)) := by
                      rw [cell_of_row _ _ _ _ _ _ HFV.out.2, List.getElem?_toArray, metL_get _ _ _ _ _ (by rw [HKS.out]; exact hli), if_pos (by rw [HKS.out]; exact hli)]
                    obtain ⟨f0, f1⟩ := HCF.out v hvv
                    clear hset r16 i0
                    by_cases hm : metB G (prevs ⟨fp, fr, fc⟩ S T i) i = true
                    · rw [hm] at mc
                      rw [if_pos hm] at hF
                      rw [hF] at f0 f1
                      have hf : ∀ (j : Nat) (u : Value), [Value.int .i64 1, .int .i64 xi][j]? = some u → V10.cell? ⟨FB, v * 2 + j, none⟩ = some u := fun j u hu => by
                        rcases j with _ | _ | j
                        · obtain rfl : Value.int .i64 1 = u := by simpa using hu
                          exact keeps_below HB10.out _ _ f0
                        · obtain rfl : Value.int .i64 xi = u := by simpa using hu
                          exact keeps_below HB10.out _ _ f1
                        · simp at hu
                      replace mc := keeps_below HB10.out _ _ mc
                      have hq := fun W => equal_fact 1 xi 1 xi W
                      simp only [beq_self_eq_true, Bool.and_self] at hq
                      clear hm hF f0 f1 hvv
                      refine wp_region_held_drew (S := fun W => Below V10.heap.size V10 W) (by kernel_rfl) ((Below.refl _ _).drew) (fun hHeld => ?_)
                      show wpAnyH _ _ _ _ _ 36 _ _ _
                      refine wpAnyH_take (i := 0) (v := ?_) rfl (by kernel_rfl) (by kernel_rfl) (by kernel_rfl) (fun _ _ _ h => h) (Or.inl ⟨by rfl, ?_⟩) (by assumption) ?_
                      rotate_left
                      · (intro W hSW; go_simp; try (with_reducible rfl))
                      (try simp only [zB])
                      (try simp only [zA])
                      refine wpAnyH_take (i := 1) (v := ?_) rfl (by kernel_rfl) (by kernel_rfl) (by kernel_rfl) (fun _ _ _ h => h) (Or.inl ⟨by rfl, ?_⟩) (by assumption) ?_
                      rotate_left
                      · (intro W hSW; have z0 := keeps_below hSW _ _ y0; go_simp; try (with_reducible rfl))
                      (try simp only [zB])
                      (try simp only [zA])
                      refine wpAnyH_take (i := 2) (v := ?_) rfl (by kernel_rfl) (by kernel_rfl) (by kernel_rfl) (fun _ _ _ h => h) (Or.inl ⟨by rfl, ?_⟩) (by assumption) ?_
                      rotate_left
                      · (intro W hSW; go_simp; try (with_reducible rfl))
                      (try simp only [zB])
                      (try simp only [zA])
                      refine wpAnyH_take (i := 3) (v := ?_) rfl (by kernel_rfl) (by kernel_rfl) (by kernel_rfl) (fun _ _ _ h => h) (Or.inl ⟨by rfl, ?_⟩) (by assumption) ?_
                      rotate_left
                      · (intro W hSW; go_simp; try (with_reducible rfl))
                      (try simp only [zB])
                      (try simp only [zA])
                      refine wpAnyH_take (i := 4) (v := ?_) rfl (by kernel_rfl) (by kernel_rfl) (by kernel_rfl) (fun _ _ _ h => h) (Or.inl ⟨by kernel_rfl, ?_⟩) (by assumption) ?_
                      rotate_left
                      · (intro W hSW; go_simp; try (with_reducible rfl))
                      (try simp only [zB])
                      (try simp only [zA])
                      refine wpAnyH_take (i := 5) (v := ?_) rfl (by kernel_rfl) (by kernel_rfl) (by kernel_rfl) (fun _ _ _ h => h) (Or.inl ⟨by kernel_rfl, ?_⟩) (by assumption) ?_
                      rotate_left
                      · (intro W hSW; go_simp; try (with_reducible rfl))
                      (try simp only [zB])
                      (try simp only [zA])
                      refine wpAnyH_take (i := 6) (v := ?_) rfl (by kernel_rfl) (by kernel_rfl) (by kernel_rfl) (fun _ _ _ h => h) (Or.inl ⟨by kernel_rfl, ?_⟩) (by assumption) ?_
                      rotate_left
                      · (intro W hSW; go_simp; try (with_reducible rfl))
                      (try simp only [zB])
                      (try simp only [zA])
                      refine wpAnyH_take (i := 7) (v := ?_) rfl (by kernel_rfl) (by kernel_rfl) (by kernel_rfl) (fun _ _ _ h => h) (Or.inl ⟨by kernel_rfl, ?_⟩) (by assumption) ?_
                      rotate_left
                      · (intro W hSW; have z0 := keeps_below hSW _ _ mc; go_simp; try (with_reducible rfl))
                      (try simp only [zB])
                      (try simp only [zA])
                      refine wpAnyH_take (i := 8) (v := ?_) rfl (by kernel_rfl) (by kernel_rfl) (by kernel_rfl) (fun _ _ _ h => h) (Or.inl ⟨by kernel_rfl, ?_⟩) (by assumption) ?_
                      rotate_left
                      · (intro W hSW; go_simp; try (with_reducible rfl))
                      (try simp only [zB])
                      (try simp only [zA])
                      refine wpAnyH_take (i := 9) (v := ?_) rfl (by kernel_rfl) (by kernel_rfl) (by kernel_rfl) (fun _ _ _ h => h) (Or.inl ⟨by kernel_rfl, ?_⟩) (by assumption) ?_
                      rotate_left
                      · (intro W hSW; go_simp; try (with_reducible rfl))
                      (try simp only [zB])
                      (try simp only [zA])
                      refine wpAnyH_take (i := 10) (v := ?_) rfl (by kernel_rfl) (by kernel_rfl) (by kernel_rfl) (fun _ _ _ h => h) (Or.inl ⟨by kernel_rfl, ?_⟩) (by assumption) ?_
                      rotate_left
                      · (intro W hSW; go_simp; try (with_reducible rfl))
                      (try simp only [zB])
                      (try simp only [zA])
                      refine wpAnyH_take (i := 11) (v := ?_) rfl (by kernel_rfl) (by kernel_rfl) (by kernel_rfl) (fun _ _ _ h => h) (Or.inl ⟨by kernel_rfl, ?_⟩) (by assumption) ?_
                      rotate_left
                      · (intro W hSW; have z0 := keeps_below hSW _ _ y1; go_simp; try (with_reducible rfl))
                      (try simp only [zB])
                      (try simp only [zA])
                      refine wpAnyH_take (i := 12) (v := ?_) rfl (by kernel_rfl) (by kernel_rfl) (by kernel_rfl) (fun _ _ _ h => h) (Or.inl ⟨by kernel_rfl, ?_⟩) (by assumption) ?_
                      rotate_left
                      · (intro W hSW; go_simp; try (with_reducible rfl))
                      (try simp only [zB])
                      (try simp only [zA])
                      refine wpAnyH_take (i := 13) (v := .agg [Value.int .i64 1, .int .i64 xi].toArray) rfl (by kernel_rfl) (by kernel_rfl) (by kernel_rfl) (fun _ _ _ h => h) (yieldsIf_load_mid (by kernel_rfl) 65 _ rfl (FB) (v * 2) rfl [Value.int .i64 1, .int .i64 xi] _ (fun W hSW j u hu => keeps_below hSW _ _ (hf j u hu)) Tryz.underlying65 rfl infoFact) (by assumption) ?_
                      (try simp only [zB])
                      (try simp only [zA])
                      refine wpAnyH_take (i := 14) (v := ?_) rfl (by kernel_rfl) (by kernel_rfl) (by kernel_rfl) (fun _ _ _ h => h) (Or.inl ⟨by kernel_rfl, ?_⟩) (by assumption) ?_
                      rotate_left
                      · (intro W hSW; go_simp; try (with_reducible rfl))
                      (try simp only [zB])
                      (try simp only [zA])
                      refine wpAnyH_take (i := 15) (v := ?_) rfl (by kernel_rfl) (by kernel_rfl) (by kernel_rfl) (fun _ _ _ h => h) (Or.inl ⟨by kernel_rfl, ?_⟩) (by assumption) ?_
                      rotate_left
                      · (intro W hSW; have z0 := keeps_below hSW _ _ y4; go_simp; try (with_reducible rfl))
                      (try simp only [zB])
                      (try simp only [zA])
                      refine wpAnyH_take (i := 16) (v := ?_) rfl (by kernel_rfl) (by kernel_rfl) (by kernel_rfl) (fun _ _ _ h => h) (Or.inl ⟨by kernel_rfl, ?_⟩) (by assumption) ?_
                      rotate_left
                      · (intro W hSW; go_simp; try (with_reducible rfl))
                      (try simp only [zB])
                      (try simp only [zA])
                      refine wpAnyH_take (i := 17) (v := ?_) rfl (by kernel_rfl) (by kernel_rfl) (by kernel_rfl) (fun _ _ _ h => h) (Or.inl ⟨by kernel_rfl, ?_⟩) (by assumption) ?_
                      rotate_left
                      · (intro W hSW; go_simp; try (with_reducible rfl))
                      (try simp only [zB])
                      (try simp only [zA])
                      refine wpAnyH_take (i := 18) (v := ?_) rfl (by kernel_rfl) (by kernel_rfl) (by kernel_rfl) (fun _ _ _ h => h) (Or.inl ⟨by kernel_rfl, ?_⟩) (by assumption) ?_
                      rotate_left
                      · (intro W hSW; go_simp; try (with_reducible rfl))
                      (try simp only [zB])
                      (try simp only [zA])
                      refine wpAnyH_take (i := 19) (v := ?_) rfl (by kernel_rfl) (by kernel_rfl) (by kernel_rfl) (fun _ _ _ h => h) (Or.inl ⟨by kernel_rfl, ?_⟩) (by assumption) ?_
                      rotate_left
                      · (intro W hSW; go_simp; try (with_reducible rfl))
                      (try simp only [zB])
                      (try simp only [zA])
                      refine wpAnyH_take (i := 20) (v := ?_) rfl (by kernel_rfl) (by kernel_rfl) (by kernel_rfl) (fun _ _ _ h => h) (Or.inl ⟨by kernel_rfl, ?_⟩) (by assumption) ?_
                      rotate_left
                      · (intro W hSW; go_simp; try (with_reducible rfl))
                      (try simp only [zB])
                      (try simp only [zA])
                      refine wpAnyH_take (i := 21) (v := ?_) rfl (by kernel_rfl) (by kernel_rfl) (by kernel_rfl) (fun _ _ _ h => h) (Or.inl ⟨by kernel_rfl, ?_⟩) (by assumption) ?_
                      rotate_left
                      · (intro W hSW; go_simp; try (with_reducible rfl))
                      (try simp only [zB])
                      (try simp only [zA])
                      refine wpAnyH_take (i := 22) (v := ?_) rfl (by kernel_rfl) (by kernel_rfl) (by kernel_rfl) (fun _ _ _ h => h) (Or.inl ⟨by kernel_rfl, ?_⟩) (by assumption) ?_
                      rotate_left
                      · (intro W hSW; go_simp; try (with_reducible rfl))
                      (try simp only [zB])
                      (try simp only [zA])
                      refine wpAnyH_take (i := 23) (v := ?_) rfl (by kernel_rfl) (by kernel_rfl) (by kernel_rfl) (fun _ _ _ h => h) (Or.inl ⟨by kernel_rfl, ?_⟩) (by assumption) ?_
                      rotate_left
                      · (intro W hSW; have z0 := keeps_below hSW _ _ mc; go_simp; try (with_reducible rfl))
                      (try simp only [zB])
                      (try simp only [zA])
                      refine wpAnyH_take (i := 24) (v := ?_) rfl (by kernel_rfl) (by kernel_rfl) (by kernel_rfl) (fun _ _ _ h => h) (Or.inl ⟨by kernel_rfl, ?_⟩) (by assumption) ?_
                      rotate_left
                      · (intro W hSW; go_simp; try (with_reducible rfl))
                      (try simp only [zB])
                      (try simp only [zA])
                      refine wpAnyH_take (i := 25) (v := ?_) rfl (by kernel_rfl) (by kernel_rfl) (by kernel_rfl) (fun _ _ _ h => h) (Or.inl ⟨by kernel_rfl, ?_⟩) (by assumption) ?_
                      rotate_left
                      · (intro W hSW; go_simp; try (with_reducible rfl))
                      (try simp only [zB])
                      (try simp only [zA])
                      refine wpAnyH_take (i := 26) (v := undef) rfl (by kernel_rfl) (by kernel_rfl) (by kernel_rfl) (fun _ _ _ h => h) (Or.inr ⟨by kernel_rfl, rfl⟩) (by assumption) ?_
                      (try simp only [zB])
                      (try simp only [zA])
                      refine wpAnyH_take (i := 27) (v := undef) rfl (by kernel_rfl) (by kernel_rfl) (by kernel_rfl) (fun _ _ _ h => h) (Or.inr ⟨by kernel_rfl, rfl⟩) (by assumption) ?_
                      (try simp only [zB])
                      (try simp only [zA])
                      refine wpAnyH_take (i := 28) (v := undef) rfl (by kernel_rfl) (by kernel_rfl) (by kernel_rfl) (fun _ _ _ h => h) (Or.inr ⟨by kernel_rfl, rfl⟩) (by assumption) ?_
                      (try simp only [zB])
                      (try simp only [zA])
                      refine wpAnyH_take (i := 29) (v := undef) rfl (by kernel_rfl) (by kernel_rfl) (by kernel_rfl) (fun _ _ _ h => h) (Or.inr ⟨by kernel_rfl, rfl⟩) (by assumption) ?_
                      (try simp only [zB])
                      (try simp only [zA])
                      refine wpAnyH_take (i := 30) (v := undef) rfl (by kernel_rfl) (by kernel_rfl) (by kernel_rfl) (fun _ _ _ h => h) (Or.inr ⟨by kernel_rfl, rfl⟩) (by assumption) ?_
                      (try simp only [zB])
                      (try simp only [zA])
                      refine wpAnyH_take (i := 31) (v := undef) rfl (by kernel_rfl) (by kernel_rfl) (by kernel_rfl) (fun _ _ _ h => h) (Or.inr ⟨by kernel_rfl, rfl⟩) (by assumption) ?_
                      (try simp only [zB])
                      (try simp only [zA])
                      refine wpAnyH_take (i := 32) (v := undef) rfl (by kernel_rfl) (by kernel_rfl) (by kernel_rfl) (fun _ _ _ h => h) (Or.inr ⟨by kernel_rfl, rfl⟩) (by assumption) ?_
                      (try simp only [zB])
                      (try simp only [zA])
                      refine wpAnyH_take (i := 33) (v := ?_) rfl (by kernel_rfl) (by kernel_rfl) (by kernel_rfl) (fun _ _ _ h => h) (Or.inl ⟨by kernel_rfl, ?_⟩) (by assumption) ?_
                      rotate_left
                      · (intro W hSW; go_simp; try (with_reducible rfl))
                      (try simp only [zB])
                      (try simp only [zA])
                      refine wpAnyH_take (i := 34) (v := ?_) rfl (by kernel_rfl) (by kernel_rfl) (by kernel_rfl) (fun _ _ _ h => h) (Or.inl ⟨by kernel_rfl, ?_⟩) (by assumption) ?_
                      rotate_left
                      · (intro W hSW; go_simp; try (with_reducible rfl))
                      (try simp only [zB])
                      (try simp only [zA])
                      refine wpAnyH_take (i := 35) (v := ?_) rfl (by kernel_rfl) (by kernel_rfl) (by kernel_rfl) (fun _ _ _ h => h) (Or.inl ⟨by rfl, ?_⟩) (by assumption) ?_
                      rotate_left
                      · (intro W hSW; go_simp; try (with_reducible rfl))
                      (try simp only [zB])
                      (try simp only [zA])
                      refine wpAnyH_done (by kernel_rfl) ?_ _
                      go_wp2
                      go_roundw
                      case rel => exact ⟨j + 1, by omega, by go_num, HB10.out.drew⟩
                      case measure => simp [intOf]; omega
                    · rw [if_neg hm] at hF
                      have hm' : metB G (prevs ⟨fp, fr, fc⟩ S T i) i = false := by simpa using hm
                      rw [hm'] at mc
                      rw [hF] at f0
                      replace f0 : V10.cell? ⟨FB, v * 2, none⟩ = some (.int .i64 0) := keeps_below HB10.out _ _ f0
                      replace mc := keeps_below HB10.out _ _ mc
                      clear hm hm' hF f1
                      refine wp_region_held_drew (S := fun W => Below V10.heap.size V10 W) (by kernel_rfl) ((Below.refl _ _).drew) (fun hHeld => ?_)
                      show wpAnyH _ _ _ _ _ 36 _ _ _
                      refine wpAnyH_take (i := 0) (v := ?_) rfl (by kernel_rfl) (by kernel_rfl) (by kernel_rfl) (fun _ _ _ h => h) (Or.inl ⟨by rfl, ?_⟩) (by assumption) ?_
                      rotate_left
                      · (intro W hSW; go_simp; try (with_reducible rfl))
                      (try simp only [zB])
                      (try simp only [zA])
                      refine wpAnyH_take (i := 1) (v := ?_) rfl (by kernel_rfl) (by kernel_rfl) (by kernel_rfl) (fun _ _ _ h => h) (Or.inl ⟨by rfl, ?_⟩) (by assumption) ?_
                      rotate_left
                      · (intro W hSW; have z0 := keeps_below hSW _ _ y0; go_simp; try (with_reducible rfl))
                      (try simp only [zB])
                      (try simp only [zA])
                      refine wpAnyH_take (i := 2) (v := ?_) rfl (by kernel_rfl) (by kernel_rfl) (by kernel_rfl) (fun _ _ _ h => h) (Or.inl ⟨by rfl, ?_⟩) (by assumption) ?_
                      rotate_left
                      · (intro W hSW; go_simp; try (with_reducible rfl))
                      (try simp only [zB])
                      (try simp only [zA])
                      refine wpAnyH_take (i := 3) (v := ?_) rfl (by kernel_rfl) (by kernel_rfl) (by kernel_rfl) (fun _ _ _ h => h) (Or.inl ⟨by rfl, ?_⟩) (by assumption) ?_
                      rotate_left
                      · (intro W hSW; go_simp; try (with_reducible rfl))
                      (try simp only [zB])
                      (try simp only [zA])
                      refine wpAnyH_take (i := 4) (v := ?_) rfl (by kernel_rfl) (by kernel_rfl) (by kernel_rfl) (fun _ _ _ h => h) (Or.inl ⟨by kernel_rfl, ?_⟩) (by assumption) ?_
                      rotate_left
                      · (intro W hSW; go_simp; try (with_reducible rfl))
                      (try simp only [zB])
                      (try simp only [zA])
                      refine wpAnyH_take (i := 5) (v := ?_) rfl (by kernel_rfl) (by kernel_rfl) (by kernel_rfl) (fun _ _ _ h => h) (Or.inl ⟨by kernel_rfl, ?_⟩) (by assumption) ?_
                      rotate_left
                      · (intro W hSW; go_simp; try (with_reducible rfl))
                      (try simp only [zB])
                      (try simp only [zA])
                      refine wpAnyH_take (i := 6) (v := ?_) rfl (by kernel_rfl) (by kernel_rfl) (by kernel_rfl) (fun _ _ _ h => h) (Or.inl ⟨by kernel_rfl, ?_⟩) (by assumption) ?_
                      rotate_left
                      · (intro W hSW; go_simp; try (with_reducible rfl))
                      (try simp only [zB])
                      (try simp only [zA])
                      refine wpAnyH_take (i := 7) (v := ?_) rfl (by kernel_rfl) (by kernel_rfl) (by kernel_rfl) (fun _ _ _ h => h) (Or.inl ⟨by kernel_rfl, ?_⟩) (by assumption) ?_
                      rotate_left
                      · (intro W hSW; have z0 := keeps_below hSW _ _ mc; go_simp; try (with_reducible rfl))
                      (try simp only [zB])
                      (try simp only [zA])
                      refine wpAnyH_take (i := 8) (v := ?_) rfl (by kernel_rfl) (by kernel_rfl) (by kernel_rfl) (fun _ _ _ h => h) (Or.inl ⟨by kernel_rfl, ?_⟩) (by assumption) ?_
                      rotate_left
                      · (intro W hSW; go_simp; try (with_reducible rfl))
                      (try simp only [zB])
                      (try simp only [zA])
                      refine wpAnyH_take (i := 9) (v := undef) rfl (by kernel_rfl) (by kernel_rfl) (by kernel_rfl) (fun _ _ _ h => h) (Or.inr ⟨by kernel_rfl, rfl⟩) (by assumption) ?_
                      (try simp only [zB])
                      (try simp only [zA])
                      refine wpAnyH_take (i := 10) (v := undef) rfl (by kernel_rfl) (by kernel_rfl) (by kernel_rfl) (fun _ _ _ h => h) (Or.inr ⟨by kernel_rfl, rfl⟩) (by assumption) ?_
                      (try simp only [zB])
                      (try simp only [zA])
                      refine wpAnyH_take (i := 11) (v := undef) rfl (by kernel_rfl) (by kernel_rfl) (by kernel_rfl) (fun _ _ _ h => h) (Or.inr ⟨by kernel_rfl, rfl⟩) (by assumption) ?_
                      (try simp only [zB])
                      (try simp only [zA])
                      refine wpAnyH_take (i := 12) (v := undef) rfl (by kernel_rfl) (by kernel_rfl) (by kernel_rfl) (fun _ _ _ h => h) (Or.inr ⟨by kernel_rfl, rfl⟩) (by assumption) ?_
                      (try simp only [zB])
                      (try simp only [zA])
                      refine wpAnyH_take (i := 13) (v := undef) rfl (by kernel_rfl) (by kernel_rfl) (by kernel_rfl) (fun _ _ _ h => h) (Or.inr ⟨by kernel_rfl, rfl⟩) (by assumption) ?_
                      (try simp only [zB])
                      (try simp only [zA])
                      refine wpAnyH_take (i := 14) (v := undef) rfl (by kernel_rfl) (by kernel_rfl) (by kernel_rfl) (fun _ _ _ h => h) (Or.inr ⟨by kernel_rfl, rfl⟩) (by assumption) ?_
                      (try simp only [zB])
                      (try simp only [zA])
                      refine wpAnyH_take (i := 15) (v := undef) rfl (by kernel_rfl) (by kernel_rfl) (by kernel_rfl) (fun _ _ _ h => h) (Or.inr ⟨by kernel_rfl, rfl⟩) (by assumption) ?_
                      (try simp only [zB])
                      (try simp only [zA])
                      refine wpAnyH_take (i := 16) (v := undef) rfl (by kernel_rfl) (by kernel_rfl) (by kernel_rfl) (fun _ _ _ h => h) (Or.inr ⟨by kernel_rfl, rfl⟩) (by assumption) ?_
                      (try simp only [zB])
                      (try simp only [zA])
                      refine wpAnyH_take (i := 17) (v := undef) rfl (by kernel_rfl) (by kernel_rfl) (by kernel_rfl) (fun _ _ _ h => h) (Or.inr ⟨by kernel_rfl, rfl⟩) (by assumption) ?_
                      (try simp only [zB])
                      (try simp only [zA])
                      refine wpAnyH_take (i := 18) (v := ?_) rfl (by kernel_rfl) (by kernel_rfl) (by kernel_rfl) (fun _ _ _ h => h) (Or.inl ⟨by kernel_rfl, ?_⟩) (by assumption) ?_
                      rotate_left
                      · (intro W hSW; go_simp; try (with_reducible rfl))
                      (try simp only [zB])
                      (try simp only [zA])
                      refine wpAnyH_take (i := 19) (v := ?_) rfl (by kernel_rfl) (by kernel_rfl) (by kernel_rfl) (fun _ _ _ h => h) (Or.inl ⟨by kernel_rfl, ?_⟩) (by assumption) ?_
                      rotate_left
                      · (intro W hSW; go_simp; try (with_reducible rfl))
                      (try simp only [zB])
                      (try simp only [zA])
                      refine wpAnyH_take (i := 20) (v := ?_) rfl (by kernel_rfl) (by kernel_rfl) (by kernel_rfl) (fun _ _ _ h => h) (Or.inl ⟨by kernel_rfl, ?_⟩) (by assumption) ?_
                      rotate_left
                      · (intro W hSW; go_simp; try (with_reducible rfl))
                      (try simp only [zB])
                      (try simp only [zA])
                      refine wpAnyH_take (i := 21) (v := ?_) rfl (by kernel_rfl) (by kernel_rfl) (by kernel_rfl) (fun _ _ _ h => h) (Or.inl ⟨by kernel_rfl, ?_⟩) (by assumption) ?_
                      rotate_left
                      · (intro W hSW; go_simp; try (with_reducible rfl))
                      (try simp only [zB])
                      (try simp only [zA])
                      refine wpAnyH_take (i := 22) (v := ?_) rfl (by kernel_rfl) (by kernel_rfl) (by kernel_rfl) (fun _ _ _ h => h) (Or.inl ⟨by kernel_rfl, ?_⟩) (by assumption) ?_
                      rotate_left
                      · (intro W hSW; go_simp; try (with_reducible rfl))
                      (try simp only [zB])
                      (try simp only [zA])
                      refine wpAnyH_take (i := 23) (v := ?_) rfl (by kernel_rfl) (by kernel_rfl) (by kernel_rfl) (fun _ _ _ h => h) (Or.inl ⟨by kernel_rfl, ?_⟩) (by assumption) ?_
                      rotate_left
                      · (intro W hSW; have z0 := keeps_below hSW _ _ mc; go_simp; try (with_reducible rfl))
                      (try simp only [zB])
                      (try simp only [zA])
                      refine wpAnyH_take (i := 24) (v := ?_) rfl (by kernel_rfl) (by kernel_rfl) (by kernel_rfl) (fun _ _ _ h => h) (Or.inl ⟨by kernel_rfl, ?_⟩) (by assumption) ?_
                      rotate_left
                      · (intro W hSW; go_simp; try (with_reducible rfl))
                      (try simp only [zB])
                      (try simp only [zA])
                      refine wpAnyH_take (i := 25) (v := ?_) rfl (by kernel_rfl) (by kernel_rfl) (by kernel_rfl) (fun _ _ _ h => h) (Or.inl ⟨by kernel_rfl, ?_⟩) (by assumption) ?_
                      rotate_left
                      · (intro W hSW; go_simp; try (with_reducible rfl))
                      (try simp only [zB])
                      (try simp only [zA])
                      refine wpAnyH_take (i := 26) (v := ?_) rfl (by kernel_rfl) (by kernel_rfl) (by kernel_rfl) (fun _ _ _ h => h) (Or.inl ⟨by kernel_rfl, ?_⟩) (by assumption) ?_
                      rotate_left
                      · (intro W hSW; go_simp; try (with_reducible rfl))
                      (try simp only [zB])
                      (try simp only [zA])
                      refine wpAnyH_take (i := 27) (v := ?_) rfl (by kernel_rfl) (by kernel_rfl) (by kernel_rfl) (fun _ _ _ h => h) (Or.inl ⟨by kernel_rfl, ?_⟩) (by assumption) ?_
                      rotate_left
                      · (intro W hSW; go_simp; try (with_reducible rfl))
                      (try simp only [zB])
                      (try simp only [zA])
                      refine wpAnyH_take (i := 28) (v := ?_) rfl (by kernel_rfl) (by kernel_rfl) (by kernel_rfl) (fun _ _ _ h => h) (Or.inl ⟨by kernel_rfl, ?_⟩) (by assumption) ?_
                      rotate_left
                      · (intro W hSW; have z0 := keeps_below hSW _ _ y1; go_simp; try (with_reducible rfl))
                      (try simp only [zB])
                      (try simp only [zA])
                      refine wpAnyH_take (i := 29) (v := ?_) rfl (by kernel_rfl) (by kernel_rfl) (by kernel_rfl) (fun _ _ _ h => h) (Or.inl ⟨by kernel_rfl, ?_⟩) (by assumption) ?_
                      rotate_left
                      · (intro W hSW; go_simp; try (with_reducible rfl))
                      (try simp only [zB])
                      (try simp only [zA])
                      refine wpAnyH_take (i := 30) (v := ?_) rfl (by kernel_rfl) (by kernel_rfl) (by kernel_rfl) (fun _ _ _ h => h) (Or.inl ⟨by kernel_rfl, ?_⟩) (by assumption) ?_
                      rotate_left
                      · (intro W hSW; go_simp; try (with_reducible rfl))
                      (try simp only [zB])
                      (try simp only [zA])
                      refine wpAnyH_take (i := 31) (v := ?_) rfl (by kernel_rfl) (by kernel_rfl) (by kernel_rfl) (fun _ _ _ h => h) (Or.inl ⟨by kernel_rfl, ?_⟩) (by assumption) ?_
                      rotate_left
                      · (intro W hSW; have z0 := keeps_below hSW _ _ f0; go_simp; try (with_reducible rfl))
                      (try simp only [zB])
                      (try simp only [zA])
                      refine wpAnyH_take (i := 32) (v := ?_) rfl (by kernel_rfl) (by kernel_rfl) (by kernel_rfl) (fun _ _ _ h => h) (Or.inl ⟨by kernel_rfl, ?_⟩) (by assumption) ?_
                      rotate_left
                      · (intro W hSW; go_simp; try (with_reducible rfl))
                      (try simp only [zB])
                      (try simp only [zA])
                      refine wpAnyH_take (i := 33) (v := ?_) rfl (by kernel_rfl) (by kernel_rfl) (by kernel_rfl) (fun _ _ _ h => h) (Or.inl ⟨by kernel_rfl, ?_⟩) (by assumption) ?_
                      rotate_left
                      · (intro W hSW; go_simp; try (with_reducible rfl))
                      (try simp only [zB])
                      (try simp only [zA])
                      refine wpAnyH_take (i := 34) (v := ?_) rfl (by kernel_rfl) (by kernel_rfl) (by kernel_rfl) (fun _ _ _ h => h) (Or.inl ⟨by kernel_rfl, ?_⟩) (by assumption) ?_
                      rotate_left
                      · (intro W hSW; go_simp; try (with_reducible rfl))
                      (try simp only [zB])
                      (try simp only [zA])
                      refine wpAnyH_take (i := 35) (v := ?_) rfl (by kernel_rfl) (by kernel_rfl) (by kernel_rfl) (fun _ _ _ h => h) (Or.inl ⟨by rfl, ?_⟩) (by assumption) ?_
                      rotate_left
                      · (intro W hSW; go_simp; try (with_reducible rfl))
                      (try simp only [zB])
                      (try simp only [zA])
                      refine wpAnyH_done (by kernel_rfl) ?_ _
                      go_wp2
                      go_roundw
                      case rel => exact ⟨j + 1, by omega, by go_num, HB10.out.drew⟩
                      case measure => simp [intOf]; omega
                  · have ho1 : (xo == 1) = false := beq_eq_false_iff_ne.2 ho
                    have ho2 : decide (xo = 1) = false := decide_eq_false ho
                    clear hset r16 hid
                    refine wp_region_held_drew (S := fun W => Below V10.heap.size V10 W) (by kernel_rfl) ((Below.refl _ _).drew) (fun hHeld => ?_)
                    show wpAnyH _ _ _ _ _ 36 _ _ _
                    refine wpAnyH_take (i := 0) (v := ?_) rfl (by kernel_rfl) (by kernel_rfl) (by kernel_rfl) (fun _ _ _ h => h) (Or.inl ⟨by rfl, ?_⟩) (by assumption) ?_
                    rotate_left
                    · (intro W hSW; go_simp; try (with_reducible rfl))
                    (try simp only [zB])
                    (try simp only [zA])
                    refine wpAnyH_take (i := 1) (v := ?_) rfl (by kernel_rfl) (by kernel_rfl) (by kernel_rfl) (fun _ _ _ h => h) (Or.inl ⟨by rfl, ?_⟩) (by assumption) ?_
                    rotate_left
                    · (intro W hSW; have z0 := keeps_below hSW _ _ y0; go_simp; try (with_reducible rfl))
                    (try simp only [zB])
                    (try simp only [zA])
                    refine wpAnyH_take (i := 2) (v := ?_) rfl (by kernel_rfl) (by kernel_rfl) (by kernel_rfl) (fun _ _ _ h => h) (Or.inl ⟨by rfl, ?_⟩) (by assumption) ?_
                    rotate_left
                    · (intro W hSW; go_simp; try (with_reducible rfl))
                    (try simp only [zB])
                    (try simp only [zA])
                    refine wpAnyH_take (i := 3) (v := ?_) rfl (by kernel_rfl) (by kernel_rfl) (by kernel_rfl) (fun _ _ _ h => h) (Or.inl ⟨by rfl, ?_⟩) (by assumption) ?_
                    rotate_left
                    · (intro W hSW; go_simp; try (with_reducible rfl))
                    (try simp only [zB])
                    (try simp only [zA])
                    refine wpAnyH_take (i := 4) (v := undef) rfl (by kernel_rfl) (by kernel_rfl) (by kernel_rfl) (fun _ _ _ h => h) (Or.inr ⟨by kernel_rfl, rfl⟩) (by assumption) ?_
                    (try simp only [zB])
                    (try simp only [zA])
                    refine wpAnyH_take (i := 5) (v := undef) rfl (by kernel_rfl) (by kernel_rfl) (by kernel_rfl) (fun _ _ _ h => h) (Or.inr ⟨by kernel_rfl, rfl⟩) (by assumption) ?_
                    (try simp only [zB])
                    (try simp only [zA])
                    refine wpAnyH_take (i := 6) (v := undef) rfl (by kernel_rfl) (by kernel_rfl) (by kernel_rfl) (fun _ _ _ h => h) (Or.inr ⟨by kernel_rfl, rfl⟩) (by assumption) ?_
                    (try simp only [zB])
                    (try simp only [zA])
                    refine wpAnyH_take (i := 7) (v := undef) rfl (by kernel_rfl) (by kernel_rfl) (by kernel_rfl) (fun _ _ _ h => h) (Or.inr ⟨by kernel_rfl, rfl⟩) (by assumption) ?_
                    (try simp only [zB])
                    (try simp only [zA])
                    refine wpAnyH_take (i := 8) (v := undef) rfl (by kernel_rfl) (by kernel_rfl) (by kernel_rfl) (fun _ _ _ h => h) (Or.inr ⟨by kernel_rfl, rfl⟩) (by assumption) ?_
                    (try simp only [zB])
                    (try simp only [zA])
                    refine wpAnyH_take (i := 9) (v := undef) rfl (by kernel_rfl) (by kernel_rfl) (by kernel_rfl) (fun _ _ _ h => h) (Or.inr ⟨by kernel_rfl, rfl⟩) (by assumption) ?_
                    (try simp only [zB])
                    (try simp only [zA])
                    refine wpAnyH_take (i := 10) (v := undef) rfl (by kernel_rfl) (by kernel_rfl) (by kernel_rfl) (fun _ _ _ h => h) (Or.inr ⟨by kernel_rfl, rfl⟩) (by assumption) ?_
                    (try simp only [zB])
                    (try simp only [zA])
                    refine wpAnyH_take (i := 11) (v := undef) rfl (by kernel_rfl) (by kernel_rfl) (by kernel_rfl) (fun _ _ _ h => h) (Or.inr ⟨by kernel_rfl, rfl⟩) (by assumption) ?_
                    (try simp only [zB])
                    (try simp only [zA])
                    refine wpAnyH_take (i := 12) (v := undef) rfl (by kernel_rfl) (by kernel_rfl) (by kernel_rfl) (fun _ _ _ h => h) (Or.inr ⟨by kernel_rfl, rfl⟩) (by assumption) ?_
                    (try simp only [zB])
                    (try simp only [zA])
                    refine wpAnyH_take (i := 13) (v := undef) rfl (by kernel_rfl) (by kernel_rfl) (by kernel_rfl) (fun _ _ _ h => h) (Or.inr ⟨by kernel_rfl, rfl⟩) (by assumption) ?_
                    (try simp only [zB])
                    (try simp only [zA])
                    refine wpAnyH_take (i := 14) (v := undef) rfl (by kernel_rfl) (by kernel_rfl) (by kernel_rfl) (fun _ _ _ h => h) (Or.inr ⟨by kernel_rfl, rfl⟩) (by assumption) ?_
                    (try simp only [zB])
                    (try simp only [zA])
                    refine wpAnyH_take (i := 15) (v := undef) rfl (by kernel_rfl) (by kernel_rfl) (by kernel_rfl) (fun _ _ _ h => h) (Or.inr ⟨by kernel_rfl, rfl⟩) (by assumption) ?_
                    (try simp only [zB])
                    (try simp only [zA])
                    refine wpAnyH_take (i := 16) (v := undef) rfl (by kernel_rfl) (by kernel_rfl) (by kernel_rfl) (fun _ _ _ h => h) (Or.inr ⟨by kernel_rfl, rfl⟩) (by assumption) ?_
                    (try simp only [zB])
                    (try simp only [zA])
                    refine wpAnyH_take (i := 17) (v := undef) rfl (by kernel_rfl) (by kernel_rfl) (by kernel_rfl) (fun _ _ _ h => h) (Or.inr ⟨by kernel_rfl, rfl⟩) (by assumption) ?_
                    (try simp only [zB])
                    (try simp only [zA])
                    refine wpAnyH_take (i := 18) (v := undef) rfl (by kernel_rfl) (by kernel_rfl) (by kernel_rfl) (fun _ _ _ h => h) (Or.inr ⟨by kernel_rfl, rfl⟩) (by assumption) ?_
                    (try simp only [zB])
                    (try simp only [zA])
                    refine wpAnyH_take (i := 19) (v := undef) rfl (by kernel_rfl) (by kernel_rfl) (by kernel_rfl) (fun _ _ _ h => h) (Or.inr ⟨by kernel_rfl, rfl⟩) (by assumption) ?_
                    (try simp only [zB])
                    (try simp only [zA])
                    refine wpAnyH_take (i := 20) (v := undef) rfl (by kernel_rfl) (by kernel_rfl) (by kernel_rfl) (fun _ _ _ h => h) (Or.inr ⟨by kernel_rfl, rfl⟩) (by assumption) ?_
                    (try simp only [zB])
                    (try simp only [zA])
                    refine wpAnyH_take (i := 21) (v := undef) rfl (by kernel_rfl) (by kernel_rfl) (by kernel_rfl) (fun _ _ _ h => h) (Or.inr ⟨by kernel_rfl, rfl⟩) (by assumption) ?_
                    (try simp only [zB])
                    (try simp only [zA])
                    refine wpAnyH_take (i := 22) (v := undef) rfl (by kernel_rfl) (by kernel_rfl) (by kernel_rfl) (fun _ _ _ h => h) (Or.inr ⟨by kernel_rfl, rfl⟩) (by assumption) ?_
                    (try simp only [zB])
                    (try simp only [zA])
                    refine wpAnyH_take (i := 23) (v := undef) rfl (by kernel_rfl) (by kernel_rfl) (by kernel_rfl) (fun _ _ _ h => h) (Or.inr ⟨by kernel_rfl, rfl⟩) (by assumption) ?_
                    (try simp only [zB])
                    (try simp only [zA])
                    refine wpAnyH_take (i := 24) (v := undef) rfl (by kernel_rfl) (by kernel_rfl) (by kernel_rfl) (fun _ _ _ h => h) (Or.inr ⟨by kernel_rfl, rfl⟩) (by assumption) ?_
                    (try simp only [zB])
                    (try simp only [zA])
                    refine wpAnyH_take (i := 25) (v := undef) rfl (by kernel_rfl) (by kernel_rfl) (by kernel_rfl) (fun _ _ _ h => h) (Or.inr ⟨by kernel_rfl, rfl⟩) (by assumption) ?_
                    (try simp only [zB])
                    (try simp only [zA])
                    refine wpAnyH_take (i := 26) (v := undef) rfl (by kernel_rfl) (by kernel_rfl) (by kernel_rfl) (fun _ _ _ h => h) (Or.inr ⟨by kernel_rfl, rfl⟩) (by assumption) ?_
                    (try simp only [zB])
                    (try simp only [zA])
                    refine wpAnyH_take (i := 27) (v := undef) rfl (by kernel_rfl) (by kernel_rfl) (by kernel_rfl) (fun _ _ _ h => h) (Or.inr ⟨by kernel_rfl, rfl⟩) (by assumption) ?_
                    (try simp only [zB])
                    (try simp only [zA])
                    refine wpAnyH_take (i := 28) (v := undef) rfl (by kernel_rfl) (by kernel_rfl) (by kernel_rfl) (fun _ _ _ h => h) (Or.inr ⟨by kernel_rfl, rfl⟩) (by assumption) ?_
                    (try simp only [zB])
                    (try simp only [zA])
                    refine wpAnyH_take (i := 29) (v := undef) rfl (by kernel_rfl) (by kernel_rfl) (by kernel_rfl) (fun _ _ _ h => h) (Or.inr ⟨by kernel_rfl, rfl⟩) (by assumption) ?_
                    (try simp only [zB])
                    (try simp only [zA])
                    refine wpAnyH_take (i := 30) (v := undef) rfl (by kernel_rfl) (by kernel_rfl) (by kernel_rfl) (fun _ _ _ h => h) (Or.inr ⟨by kernel_rfl, rfl⟩) (by assumption) ?_
                    (try simp only [zB])
                    (try simp only [zA])
                    refine wpAnyH_take (i := 31) (v := undef) rfl (by kernel_rfl) (by kernel_rfl) (by kernel_rfl) (fun _ _ _ h => h) (Or.inr ⟨by kernel_rfl, rfl⟩) (by assumption) ?_
                    (try simp only [zB])
                    (try simp only [zA])
                    refine wpAnyH_take (i := 32) (v := undef) rfl (by kernel_rfl) (by kernel_rfl) (by kernel_rfl) (fun _ _ _ h => h) (Or.inr ⟨by kernel_rfl, rfl⟩) (by assumption) ?_
                    (try simp only [zB])
                    (try simp only [zA])
                    refine wpAnyH_take (i := 33) (v := undef) rfl (by kernel_rfl) (by kernel_rfl) (by kernel_rfl) (fun _ _ _ h => h) (Or.inr ⟨by kernel_rfl, rfl⟩) (by assumption) ?_
                    (try simp only [zB])
                    (try simp only [zA])
                    refine wpAnyH_take (i := 34) (v := undef) rfl (by kernel_rfl) (by kernel_rfl) (by kernel_rfl) (fun _ _ _ h => h) (Or.inr ⟨by kernel_rfl, rfl⟩) (by assumption) ?_
                    (try simp only [zB])
                    (try simp only [zA])
                    refine wpAnyH_take (i := 35) (v := ?_) rfl (by kernel_rfl) (by kernel_rfl) (by kernel_rfl) (fun _ _ _ h => h) (Or.inl ⟨by rfl, ?_⟩) (by assumption) ?_
                    rotate_left
                    · (intro W hSW; go_simp; try (with_reducible rfl))
                    (try simp only [zB])
                    (try simp only [zA])
                    refine wpAnyH_done (by kernel_rfl) ?_ _
                    go_wp2
                    go_roundw
                    case rel => exact ⟨j + 1, by omega, by go_num, HB10.out.drew⟩
                    case measure => simp [intOf]; omega
                · obtain rfl : ni = j := by omega
                  clear hlj hj
                  go_wp2
                  go_roundw
                  case rel => exact ⟨i + 1, by omega, by go_num, HBO.out⟩
                  case measure => simp [intOf]; omega
            · obtain rfl : K = i := by omega
              clear hli hi
              go_wp2
              go_ret
              exact ⟨rfl, HBV.out.trans (HBO.out.mono HBV.out.size)⟩
end Go.Proofs.YtldbmdgpdolaaaaGreatDoor
