/- PROVED: tierlinekeep.ClashEven: at all raw numbers that can be handed in, of two values that clash each says so, none clashes with itself, and the lists rise; conditions: those of the given row (ops.parts and ops.callReads as the program's text lays them). -/
import Derived.Test.YtldbmdgpdolaaaaDoorPGroupF
import Derived.Test.YtldbmdgpdolaaaaDoorPGroupB
import Derived.Test.YtldbmdgpdolaaaaDoorPGroupC
import Derived.Test.YtldbmdgpdolaaaaDoorPXPlaceEven
import Derived.Test.YtldbmdgpdolaaaaDoorPXSsaBuild
import Derived.SevenTiedAt
import Derived.Test.YtldbmdgpdolaaaaDoorCards
import Derived.Test.YtldbmdgpdolaaaaDoorTie
import Derived.Test.YtldbmdgpdolaaaaDoorPXOpen
namespace Go.Proofs.YtldbmdgpdolaaaaDoor
open Go Go.RowKit

theorem out_ex (f : Fn) (q : Nat) : ∀ r, r ≤ 12 → ∃ v, OutOk f r q v := by
  intro r
  induction r with
  | zero =>
    intro _
    by_cases h : Way f 63 q
    · exact ⟨0, out_zero_yes h⟩
    · exact ⟨-1, out_zero_no h⟩
  | succ r ih =>
    intro hr
    obtain ⟨v, hv⟩ := ih (by omega)
    by_cases h : Way f 63 q
    · by_cases h2 : Way f r q
      · exact ⟨v, out_same hv (fun _ => h2)⟩
      · exact ⟨_, (out_add hv (by omega) h h2).1⟩
    · exact ⟨v, out_same hv (fun h3 => absurd h3 h)⟩
theorem sure_ex (f : Fn) : ∃ L, SureSpec f L := by
  have h : ∀ q, ∃ v, OutOk f 12 q v := fun q => out_ex f q 12 (Nat.le_refl _)
  refine ⟨(List.range (f.code.length + 1)).map fun q => Classical.choose (h q), spec_of_out (by simp) fun q hq => ?_⟩
  have e : ((List.range (f.code.length + 1)).map fun q => Classical.choose (h q)).getD q 0 = Classical.choose (h q) := by simp [List.getD, hq]
  rw [e]
  exact Classical.choose_spec (h q)
theorem ans_nought {P : List Fn} (h : codeProg P = 0) (hz : ∀ f ∈ P, ∀ L, SureSpec f L → proveE P f L = 0) : ProofAns P 0 := by
  refine Or.inr ⟨h, ?_⟩
  have : ∀ fs : List Fn, (∀ f ∈ fs, f ∈ P) → ChecksTo P fs 0 := by
    intro fs
    induction fs with
    | nil => intro _; rfl
    | cons f fs ih =>
      intro hf
      obtain ⟨L, hL⟩ := sure_ex f
      exact ⟨0, ⟨L, hL, (hz f (hf f (by simp)) L hL).symm⟩, Or.inr ⟨rfl, ih (fun g hg => hf g (by simp [hg]))⟩⟩
  exact this P (fun f hf => hf)
theorem progIs_ans {l P : List Fn} (h : ProgIs l P) : ProofAns P 0 := by
  rcases h with ⟨h1, rfl⟩ | ⟨_, rfl⟩
  · exact h1
  · exact ans_nought (full_ok l) (fun f hf L hL => proves_full l hf hL)
theorem pick_some (n : Int) (N : Nat) (h : 1 ≤ N) : ∃ k : Nat, k < N ∧ pickI n N = k := by
  have b := pickI_bounds n N (by omega)
  obtain ⟨k, hk⟩ := Int.eq_ofNat_of_zero_le b.1
  exact ⟨k, by omega, hk⟩
end Go.Proofs.YtldbmdgpdolaaaaDoor
namespace Go.Proofs.YtldbmdgpdolaaaaDoor
open Go Go.RowKit

set_option maxHeartbeats 8000000 in
set_option maxRecDepth 100000 in
theorem clashEven_walk (l : List Fn) (v : Value) (fn : Int) (w : World) (ht : TabOk w) (hc : CallOk w) (hv : ProgVal w v l) (hwf : ∀ f ∈ l, f.wf) (hfn : I64 fn) :
    Calls Tryd.prog 3 #[v, .int .i64 fn] w fun e w' => e = .returned (.bool true) ∧ Below w.heap.size w w' := by
  have hSh := program_raw l v w ht hc hv hwf
  obtain ⟨aol, nl, capl, rfl⟩ := hv.shape
  have HT : Hid (TabOk w) := ht
  have HCO : Hid (CallOk w) := hc
  clear hv hwf ht hc
  go_enter Tryd.func3, Tryd.ntmps3
  go_upto_region 2 with (go_at_call 5; refine hSh.mono ?_; rintro e w1 ⟨v1, P, us, rfl, hpi, hbt, hb1⟩; have hp1 := hbt.prog; have hcp := progIs_code hpi; obtain ⟨hn1, hn4, -⟩ := codeProg_zero hcp; obtain ⟨k, hk, ek⟩ := pick_some fn P.length hn1; obtain ⟨b, off, cap, u, rfl, d0, d1, d2, hcv, hm, hcc⟩ := prog_fn hp1 hk)
  have hRi := progIs_ans hpi
  have OK : Hid (FlowOk P P[k]) := flowOk_of hRi (List.getElem_mem hk)
  have hl1 := OK.out.ok.len1
  have hl2 := OK.out.ok.len2
  have hfe := fnErr_ok hcp hk
  have hca : codeAt P k = P[k].code := by simp [codeAt, List.getD, hk]
  have HCA : Hid (∀ W, Below w1.heap.size w1 W → Calls Tryd.prog 7 #[.agg #[.slice (some ⟨b, off, none⟩) P.length cap], .int .i64 k] W (ClashPost W P P[k])) := fun W hb => Clash_right P hRi k hk _ W ((HT.out.below hb1).below hb) ((HCO.out.below hb1).below hb) (hp1.keeps (keeps_below hb))
  have HUR : Hid (∀ q, q < P[k].code.length → Way P[k] 63 q → ∀ r, r < 12 → (rdMask P (insD P[k] q)).testBit r = true → ¬ Way P[k] r q) := right_reads hRi (List.getElem_mem hk)
  have HBD : Hid (∀ W, Below w1.heap.size w1 W → Calls Tryd.prog 8 #[.agg #[.slice (some ⟨b, off, none⟩) P.length cap], .int .i64 k] W (BuildPost W P P[k])) := fun W hb => Build_right P hRi k hk _ W ((HT.out.below hb1).below hb) ((HCO.out.below hb1).below hb) (hp1.keeps (keeps_below hb))
  obtain ⟨ao2, b2, off2, n, cap2, rfl, ⟨hlen2, haddr2, hat2⟩, hcap2, hmx2⟩ := hcv
  obtain rfl := haddr2 (by omega)
  have HB1 : Hid (Below w.heap.size w w1) := hb1
  have hz1 := hb1.size
  have hkI : (k : Int) < P.length := by omega
  have hcc2 := hcap2.1
  have HN : Hid (P[k].code.length = n) := hlen2
  clear hfe hRi hpi hcp hbt hp1 hb1 hSh hca hat2 haddr2 hcap2
  rw [hlen2] at hl1 hl2
  generalize P[k] = f at *
  clear hlen2
  unfold maxLen at hmx2
  have d0' := fun o => cell_alloc d0 o
  have d1' := fun o => cell_alloc d1 o
  have t2 := fun o => cell_alloc d2 o
  generalize hNN : P.length = N at *
  clear hNN
  have HWA : Hid (Below w1.heap.size w1 (w1.alloc (.cells #[.slice (some ⟨b, off, none⟩) N cap] 25))) := (Below.refl _ _).alloc (Nat.le_refl _) _
  obtain ⟨fp, fr, fc⟩ := f
  dsimp only at *
  go_upto_region 5 with (first
    | (go_at_call 6; refine (picked_any _ _ _ hfn (by omega) (by omega)).mono ?_; rintro e w' ⟨rfl, hw'⟩; replace hw' := hw'.symm; subst hw')
    | (go_at_call 7; refine (HCA.out _ HWA.out).mono ?_; rintro e w2 hp; obtain ⟨S, T, L, pn, g0, D, ar, gC0, VV, base, rfl, hIS, hmt, hba, hb2, hn3, hs4⟩ := hp; have q0 := keeps_below hb2 ⟨w1.heap.size, 0, none⟩ (.slice (some ⟨b, off, none⟩) N cap) (by simp); have q2 := keeps_below hb2 _ _ (t2 _); have HB2 : Hid (Below w1.heap.size w1 w2) := HWA.out.trans (hb2.mono HWA.out.size); have HIS : Hid (SsaIs P ⟨fp, fr, fc⟩ S T L pn g0 D) := hIS; have HMT : Hid (MtAt w2 base gC0 (idsD pn S.length D).length VV (clashL ⟨fp, fr, fc⟩ S L pn g0 D ar)) := hmt; have HN3 : Hid ((idsD pn S.length D).length ≤ 3000) := hn3; clear hIS hmt hba hb2 hn3 hs4)
    | (go_at_call 8; refine (HBD.out _ HB2.out).mono ?_; rintro e w3 hp; obtain ⟨S2, T2, L2, pn2, g2, D2, ar2, gp, Ly, rfl, hIS2, hPA, hb3⟩ := hp; obtain ⟨rfl, hTT, rfl, rfl, rfl, hph, hin, hid⟩ := HIS.out.same OK.out hIS2; have HB3 : Hid (Below w2.heap.size w2 w3) := hb3; rw [← hid]; clear hIS2 hPA hph hin hTT hb3 hid))
  obtain ⟨hk0, -⟩ := HIS.out.ok.starts.first
  have hk0I : ((S.length : Int) == 0) = false := beq_eq_false_iff_ne.2 (by omega)
  have hkn : S.length ≤ 40 := blocks40 OK.out HIS.out.ok
  have HB4 : Hid (Below w.heap.size w w3) := HB1.out.trans ((HB2.out.trans (HB3.out.mono HB2.out.size)).mono hz1)
  have r10 : (w3.alloc (.cells #[.int .i64 (pn : Int), .int .i64 ((idsD pn S.length D).length : Int), .slice (some ⟨gp, 0, none⟩) S.length S.length] 34)).heap[w3.heap.size]? = some (.cells #[.int .i64 (pn : Int), .int .i64 ((idsD pn S.length D).length : Int), .slice (some ⟨gp, 0, none⟩) S.length S.length] 34 (0, 0)) := heap_alloc_last _ _
  have hbb : Below w3.heap.size w3 (w3.alloc (.cells #[.int .i64 (pn : Int), .int .i64 ((idsD pn S.length D).length : Int), .slice (some ⟨gp, 0, none⟩) S.length S.length] 34)) := (Below.refl _ _).alloc (Nat.le_refl _) _
  have HBV : Hid (Below w.heap.size w (w3.alloc (.cells #[.int .i64 (pn : Int), .int .i64 ((idsD pn S.length D).length : Int), .slice (some ⟨gp, 0, none⟩) S.length S.length] 34))) := HB4.out.trans (hbb.mono HB4.out.size)
  have HMV : Hid (MtAt (w3.alloc (.cells #[.int .i64 (pn : Int), .int .i64 ((idsD pn S.length D).length : Int), .slice (some ⟨gp, 0, none⟩) S.length S.length] 34)) base gC0 (idsD pn S.length D).length VV (clashL ⟨fp, fr, fc⟩ S L pn g0 D ar)) := HMT.out.below (HB3.out.trans (hbb.mono HB3.out.size))
  have HCO2 : Hid (MetOk (idsD pn S.length D).length (clashL ⟨fp, fr, fc⟩ S L pn g0 D ar) ∧ ∀ v, (clashL ⟨fp, fr, fc⟩ S L pn g0 D ar v).Pairwise (· < ·)) := HIS.out.clashOk OK.out HUR.out ar
  clear hbb HMT HCA HBD q0 q2 d0 d1 d2 d0' d1' t2
  generalize (w3.alloc (.cells #[.int .i64 (pn : Int), .int .i64 ((idsD pn S.length D).length : Int), .slice (some ⟨gp, 0, none⟩) S.length S.length] 34)) = V at *
  generalize w3.heap.size = P10 at *
  generalize clashL ⟨fp, fr, fc⟩ S L pn g0 D ar = CL at *
  obtain ⟨vn, hvn⟩ : ∃ vn, vn = (idsD pn S.length D).length := ⟨_, rfl⟩
  rw [← hvn] at r10 HMV HN3 HCO2
  rw [← hvn]
  clear hvn
  obtain ⟨K, hK⟩ : ∃ K, K = S.length := ⟨_, rfl⟩
  rw [← hK] at r10 hk0I hkn hk0
  rw [← hK]
  clear hK
  have s1 : V.cell? ⟨P10, 1, none⟩ = some (.int .i64 (vn : Int)) := by rw [cell_of_row _ _ _ _ _ _ r10]; rfl
  have s2 : V.cell? ⟨P10, 2, none⟩ = some (.slice (some ⟨gp, 0, none⟩) K K) := by rw [cell_of_row _ _ _ _ _ _ r10]; rfl
  have hk0L : (0 : Int) < (K : Int) := by omega
  clear r10
  go_upto_region 7 with fail
  have HVB : Hid (vn ≤ 3000) := HN3.out
  have hvb := HVB.out
  have HCL : Hid (∀ a, a < vn → ∃ (ao : Option Addr) (q cap : Nat), (CL a).length ≤ cap ∧ (0 < (CL a).length → ao = some ⟨q, 0, none⟩) ∧ ∀ W, Below V.heap.size V W → W.cell? ⟨gC0, a, none⟩ = some (.slice ao (CL a).length cap) ∧ IntsVal W (.slice ao (CL a).length cap) (CL a) ∧ ∀ j, j < (CL a).length → W.cell? ⟨q, j, none⟩ = some (.int .i64 ((CL a).getD j 0))) := fun a ha => by
    have hown := HMV.out.sl.own a ha
    obtain ⟨ao, q, cap, hv, hle, -, hat⟩ := own_lies hown
    refine ⟨ao, q, cap, hle, fun h0 => (hat h0).1, fun W hW => ⟨by rw [← hv]; exact keeps_below hW _ _ (HMV.out.cell ha), by rw [← hv]; exact (ints_of_own hown).keeps (keeps_below hW), fun j hj => keeps_below hW _ _ ((hat (by omega)).2 j hj)⟩⟩
  have HLEN : Hid (∀ a, a < vn → (CL a).length ≤ 3000) := fun a ha => by
    have h1 := HCO2.out.2 a
    have h2 := HCO2.out.1.rng a ha
    have h3 : (CL a).length ≤ vn := rise_len h1 h2
    show _ ≤ _
    omega
  go_upto_region 8 with fail
  clear s1 s2 hk0I hk0L hk0 hkn HMV
  go_loopw [11] (fun i wr => ∃ a : Nat, a ≤ vn ∧ i = .int .i64 a ∧ Below V.heap.size V wr) (fun i _ => vn - (intOf i).toNat)
  case atStart => exact ⟨0, Nat.zero_le _, rfl, Below.refl _ _⟩
  case round =>
    obtain ⟨a, ha, rfl, hbo⟩ := hrel
    rename World => wo
    have HBO : Hid (Below V.heap.size V wo) := hbo
    by_cases hav : a < vn
    · have haI : (a : Int) < (vn : Int) := by omega
      have haN : ¬ (a : Int) < 0 := by omega
      obtain ⟨ao, q, cap, hcap, hao, hcel⟩ := HCL.out a hav
      have HCE : Hid (∀ W, Below V.heap.size V W → W.cell? ⟨gC0, a, none⟩ = some (.slice ao (CL a).length cap) ∧ IntsVal W (.slice ao (CL a).length cap) (CL a) ∧ ∀ j, j < (CL a).length → W.cell? ⟨q, j, none⟩ = some (.int .i64 ((CL a).getD j 0))) := hcel
      have hl3 := HLEN.out a hav
      have HLA : Hid (∀ j, j < (CL a).length → ∃ bn : Nat, (CL a).getD j 0 = (bn : Int) ∧ bn < vn ∧ bn ≠ a ∧ (a : Int) ∈ CL bn ∧ (0 < j → (CL a).getD (j - 1) 0 < (bn : Int))) := fun j hj => by
        have hz : (CL a).getD j 0 ∈ CL a := by simp [List.getD, hj]
        have h1 := HCO2.out.1.rng a hav _ hz
        have eb : ((CL a).getD j 0).toNat = (CL a).getD j 0 := Int.toNat_of_nonneg h1.1
        refine ⟨((CL a).getD j 0).toNat, by omega, by omega, fun e => ?_, ?_, fun hj0 => ?_⟩
        · have := HCO2.out.1.self a
          rw [← eb, e] at hz; exact this hz
        · exact HCO2.out.1.even a _ (by rw [eb]; exact hz)
        · rw [eb]
          have h2 := HCO2.out.2 a
          have := List.pairwise_iff_getElem.1 h2 (j - 1) j (by omega) hj (by omega)
          simp only [List.getD, hj, show j - 1 < (CL a).length by omega, List.getElem?_eq_getElem, Option.getD_some]
          exact this
      clear hbo hcel
      go_upto_region 11 with fail
      go_loopw [12] (fun i wr => ∃ j : Nat, j ≤ (CL a).length ∧ i = .int .i64 j ∧ Below V.heap.size V wr) (fun i _ => (CL a).length - (intOf i).toNat)
      case atStart => exact ⟨0, Nat.zero_le _, rfl, HBO.out⟩
      case round =>
        clear HBO
        obtain ⟨j, hj, rfl, hbi⟩ := hrel
        rename World => wi
        have HBI : Hid (Below V.heap.size V wi) := hbi
        obtain ⟨ca, hia, hcj⟩ := HCE.out wi hbi
        by_cases hjl : j < (CL a).length
        · obtain rfl := hao (by omega)
          obtain ⟨bn, hb0, hbv, hba, hbm, hb1⟩ := HLA.out j hjl
          obtain ⟨aob, qb, capb, -, -, hcb⟩ := HCL.out bn hbv
          obtain ⟨cb, hib, -⟩ := hcb wi hbi
          have cj := hcj j hjl
          rw [hb0] at cj
          have hjI : (j : Int) < ((CL a).length : Int) := by omega
          have hjN : ¬ (j : Int) < 0 := by omega
          have hbI : ¬ (vn : Int) ≤ (bn : Int) := by omega
          have hbI2 : (bn : Int) < (vn : Int) := by omega
          have hbN : ¬ (bn : Int) < 0 := by omega
          have hbA : ((bn : Int) == (a : Int)) = false := beq_eq_false_iff_ne.2 (by omega)
          have hbA2 : ¬ (bn : Int) = (a : Int) := by omega
          have hbA3 : ¬ bn = a := hba
          have hbA4 : (bn == a) = false := beq_eq_false_iff_ne.2 hba
          have hhas := hasList_any (CL bn) (.slice aob (CL bn).length capb) (a : Int) wi hib
          rw [decide_eq_true hbm] at hhas
          clear hia hib hbi hcb hbm hb0
          by_cases hj0 : j = 0
          · subst hj0
            clear hb1 hcj
            go_wp2_with (go_at_call 9; refine hhas.mono ?_; rintro e w' ⟨rfl, hw'⟩; replace hw' := hw'.symm; subst hw')
            go_roundw
            case rel => exact ⟨1, by omega, by go_num, HBI.out⟩
            case measure => simp [intOf]; omega
          · have hj1 : (0 : Int) < (j : Int) := by omega
            have hj2 : 0 < j := by omega
            have cp := hcj (j - 1) (by omega)
            have hbl := hb1 hj2
            generalize (CL a).getD (j - 1) 0 = pz at cp hbl
            have hbl2 : ¬ (bn : Int) ≤ pz := by omega
            have hjm : IntKind.i64.wrap ((j : Int) - 1) = ((j - 1 : Nat) : Int) := by rw [show (j : Int) - 1 = ((j - 1 : Nat) : Int) by omega]; exact wrap_fits _ (by omega) (by omega)
            obtain ⟨jm, hjm2⟩ : ∃ jm, jm = j - 1 := ⟨_, rfl⟩
            rw [← hjm2] at cp hjm
            have hjmI : (jm : Int) < ((CL a).length : Int) := by omega
            have hjmN : ¬ (jm : Int) < 0 := by omega
            clear hjm2 hb1 hj0 hcj
            go_wp2_with (go_at_call 9; refine hhas.mono ?_; rintro e w' ⟨rfl, hw'⟩; replace hw' := hw'.symm; subst hw')
            go_roundw
            case rel => exact ⟨j + 1, by omega, by go_num, HBI.out⟩
            case measure => simp [intOf]; omega
        · obtain rfl : (CL a).length = j := by omega
          clear hbi hcj hia hjl
          go_wp2
          go_roundw
          case rel => exact ⟨a + 1, by omega, by go_num, HBI.out⟩
          case measure => simp [intOf]; omega
    · obtain rfl : vn = a := by omega
      clear hbo hav
      go_wp2
      go_ret
      exact ⟨rfl, HBV.out.trans (HBO.out.mono HBV.out.size)⟩
end Go.Proofs.YtldbmdgpdolaaaaDoor
namespace Go.Proofs.YtldbmdgpdolaaaaDoor
open Go Go.ChangeShapes Go.WideShapes Go.ChangeAt Go.RowKit

set_option maxRecDepth 100000 in
theorem clashEven_lifted (os : Os) (started : os.Started) (H : Type) (enc : TypeId × Value → H) :
    ReturnsInHanded {} Tryd.checked os 3 .any (fun w args => (Rows.clashEvenSpec.pre enc Tryd.prog Tryd.f3 [] false w args ∧ laidMetH Tryd.prog laidL2 w) ∧ sizedMet enc Tryd.prog Tryd.f3 (OpenSpec.ofChange Rows.clashEvenSpec) false w args)
      (Rows.clashEvenSpec.post enc Tryd.prog Tryd.f3 false true false false) := by
  refine returnsInHanded_of_change_and (C := Tryd.checked) (X := fun w _ => laidMetH Tryd.prog laidL2 w) (fun _ _ _ hh h => h.of_heap hh) own started (by kernel_rfl) Tryd.func3
    (ChangeSpec.witness_shaped (enc := enc) (C := Tryd.checked) (os := os) (X := fun w _ => laidMetH Tryd.prog laidL2 w) false (World.doorLaid Tryd.prog 400 os) #[.slice none 0 0, .int .i64 0] 8 rfl (World.shaped_of_RefB (by kernel_rfl) (by kernel_rfl)) (by kernel_rfl) (by kernel_rfl) (by kernel_rfl) (door_met2 os _)) ?_
  intro W base args ds gs before hval0 hW _ _ hL _
  have hval : ∀ (j : Nat) t v, Tryd.f3.params[j]? = some t → args[j]? = some v → Value.okWide Tryd.prog W .any base t v := hval0
  have hW' := hW
  obtain ⟨p, q, hA0, hV, rfl, hfz, hnd⟩ := hW
  have hA : DataW.TrodAll enc Tryd.prog W 0 (fun _ => true) true Tryd.f3.params.toList args.toList ds p := hA0
  rw [Tryd.params3] at hA hval
  obtain ⟨v0, v1, d0, d1, p0, p1, rfl, rfl, hps, h0, h1⟩ := trodAll_two hA
  obtain ⟨rfl, rfl⟩ := trodVars_none hV
  have h0k := h0
  obtain ⟨P, hp, hwf⟩ := open_bodies (hval 0 22 v0 rfl rfl) h0
  have h1k := h1
  obtain ⟨z1, rfl, _, _, hz1⟩ := open_int Tryd.underlying3 (hval 1 3 v1 rfl rfl) h1
  have hi1 : I64 z1 := by simpa [I64] using bounds_i64 hz1
  clear hA0 hval0
  have hlt : ∀ x ∈ p, x.block < W.heap.size := fun x hx => by simpa using hW'.lt x (by simpa using hx)
  refine (clashEven_walk P v0 z1 W (tabs_of_laid hL).1 (tabs_of_laid hL).2 hp hwf hi1).mono fun e W' ⟨he, hb⟩ => ?_
  subst he
  exact ⟨_, rfl, _, _, _, [], p, [], hW', trodAll_mk1 (shut_bool Tryd.underlying4 true), by rw [hps]; exact trodAll_mk2 (Below.trod laidOut (by kernel_rfl) (of_decide_eq_true (by kernel_rfl)) h0k hb (fun x hx => hlt x (by rw [hps]; simp [hx]))) (Below.trod laidOut (by kernel_rfl) (of_decide_eq_true (by kernel_rfl)) h1k hb (fun x hx => hlt x (by rw [hps]; simp [hx]))), rfl, hb.frame _, fun h => by cases h⟩
theorem clashEven_holds : Rows.ClashEvenSaid :=
  OpenClaim.holds_of_wide 3 Tryd.f3 rfl rfl rfl rfl rfl rfl rfl ⟨rfl, rfl, rfl, rfl, rfl⟩ rfl rfl rfl rfl rfl (by kernel_rfl) Tryd.func3 (by kernel_rfl)
    (of_decide_eq_true (by kernel_rfl)) (by unfold Func.isWrapper; rw [if_neg (of_decide_eq_false (by kernel_rfl))]; exact ⟨rfl, rfl⟩)
    (fun os started H enc _ => clashEven_lifted os started H enc)
theorem clashEven_card : Rows.ClashEvenCardSaid :=
  Claim7.holds_tied_plain_at .later [] [.data, .data] true Rows.clashEvenCard.stood.harness Rows.clashEvenCard.stood.looks
    clashEven_holds (fun _ h => by cases h) (by kernel_rfl) (fun _ h => by cases h) clashEven_row_tie rfl ⟨rfl, rfl⟩ (by kernel_rfl) rfl
    (fun f fn hf hfn => by
      obtain rfl : f = 3 := Option.some.inj ((show Tryd.prog.funcNamed "tierline/tierlinekeep.ClashEven" = some 3 by kernel_rfl).symm.trans hf) |>.symm
      obtain rfl : fn = Tryd.f3 := (Option.some.inj (Tryd.func3.symm.trans hfn)).symm
      exact ⟨by kernel_rfl, fun j t ht => by
        rw [Tryd.params3] at ht
        have hm : t ∈ [22, 3] := by simpa using Array.mem_of_getElem? ht
        have hall : ([22, 3].all fun u => !Tryd.prog.wantsStandIn u) = true := by kernel_rfl
        exact (show Tryd.prog.wantsStandIn t = false by simpa using List.all_eq_true.1 hall t hm)⟩)
    (by kernel_rfl)
#print axioms clashEven_card
end Go.Proofs.YtldbmdgpdolaaaaDoor
