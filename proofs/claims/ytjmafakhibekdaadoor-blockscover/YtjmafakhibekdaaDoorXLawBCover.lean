/- The walk of tierlinekeep.BlocksCover: at all raw numbers it says true, and nothing that was there has turned. -/
import Derived.Test.YtjmafakhibekdaaDoorXBlockFacts
import Derived.Test.YtjmafakhibekdaaDoorXRightRaw
namespace Go.Proofs.YtjmafakhibekdaaDoor
open Go Go.RowKit

/-- In how many of the first blocks a place lies. -/
def ctB (S : List Nat) (T : Nat → Nat) (pc : Nat) : Nat → Nat
  | 0 => 0
  | j + 1 => ctB S T pc j + (if S.getD j 0 ≤ pc ∧ pc < T j then 1 else 0)
theorem inBlk_iff (S : List Nat) (T : Nat → Nat) (pc i : Nat) (hi : i < S.length) : (S.getD i 0 ≤ pc ∧ pc < T i) ↔ InBlk S T pc i := by
  have e : S.getD i 0 = S[i] := by simp [List.getD, hi]
  rw [e]
  exact ⟨fun h => ⟨hi, h⟩, fun ⟨_, h⟩ => h⟩
theorem ctB_none {S : List Nat} {T : Nat → Nat} {pc : Nat} (h : ∀ i, ¬ InBlk S T pc i) : ∀ j, j ≤ S.length → ctB S T pc j = 0
  | 0, _ => rfl
  | j + 1, hj => by
    rw [ctB, ctB_none h j (by omega), if_neg (fun hh => h j ((inBlk_iff S T pc j (by omega)).1 hh))]
theorem ctB_one {f : Fn} {S : List Nat} {T : Nat → Nat} (hB : BlkOk f S T) {pc i : Nat} (h : InBlk S T pc i) : ∀ j, j ≤ S.length → ctB S T pc j = if i < j then 1 else 0
  | 0, _ => rfl
  | j + 1, hj => by
    rw [ctB, ctB_one hB h j (by omega)]
    by_cases he : i = j
    · subst he
      rw [if_neg (by omega), if_pos ((inBlk_iff S T pc i (by omega)).2 h), if_pos (by omega)]
    · rw [if_neg (fun hh => he (hB.one h ((inBlk_iff S T pc j (by omega)).1 hh)))]
      by_cases hl : i < j
      · rw [if_pos hl, if_pos (by omega)]
      · rw [if_neg hl, if_neg (by omega)]
/-- What is told of a place by counting. -/
theorem ctB_all {P : List Fn} {f : Fn} (ok : FlowOk P f) {S : List Nat} {T : Nat → Nat} (hB : BlkOk f S T) (pc : Nat) : (∀ j, j ≤ S.length → ctB S T pc j ≤ 1) ∧ ((ctB S T pc S.length = 1) ↔ Way f 63 pc) := by
  by_cases hw : Way f 63 pc
  · obtain ⟨i, hi⟩ := hB.cover ok hw
    refine ⟨fun j hj => ?_, ?_⟩
    · rw [ctB_one hB hi j hj]; split <;> omega
    · rw [ctB_one hB hi _ (Nat.le_refl _), if_pos hi.1]
      exact ⟨fun _ => hw, fun _ => rfl⟩
  · have hn : ∀ i, ¬ InBlk S T pc i := fun i h => hw (hB.reach ok h)
    refine ⟨fun j hj => by rw [ctB_none hn j hj]; omega, ?_⟩
    rw [ctB_none hn _ (Nat.le_refl _)]
    exact ⟨fun h => by omega, fun h => absurd h hw⟩

set_option maxHeartbeats 8000000 in
set_option maxRecDepth 100000 in
theorem blocksCover_walk (l : List Fn) (v : Value) (fn : Int) (w : World) (ht : TabOk w) (hc : CallOk w) (hv : ProgVal w v l) (hwf : ∀ f ∈ l, f.wf) (hfn : I64 fn) :
    Calls Tryd.prog 3 #[v, .int .i64 fn] w fun e w' => e = .returned (.bool true) ∧ Below w.heap.size w w' := by
  have hSh := program_raw l v w ht hc hv hwf
  obtain ⟨aol, nl, capl, rfl⟩ := hv.shape
  have HT : Hid (TabOk w) := ht
  have HCO : Hid (CallOk w) := hc
  clear hv hwf ht hc
  go_enter Tryd.func3, Tryd.ntmps3
  go_upto_region 2 with (go_at_call 13; refine hSh.mono ?_; rintro e w1 ⟨v1, P, us, rfl, hpi, hbt, hb1⟩; have hp1 := hbt.prog; have hcp := progIs_code hpi; obtain ⟨hn1, hn4, -⟩ := codeProg_zero hcp; obtain ⟨k, hk, ek⟩ := pick_some fn P.length hn1; obtain ⟨b, off, cap, u, rfl, d0, d1, d2, hcv, hm, hcc⟩ := prog_fn hp1 hk)
  have hRi := progIs_ans hpi
  have OK : Hid (FlowOk P P[k]) := flowOk_of hRi (List.getElem_mem hk)
  have hl1 := OK.out.ok.len1
  have hl2 := OK.out.ok.len2
  have hfe := fnErr_ok hcp hk
  have hca : codeAt P k = P[k].code := by simp [codeAt, List.getD, hk]
  have HBL : Hid (∀ W, Below w1.heap.size w1 W → Calls Tryd.prog 15 #[.agg #[.slice (some ⟨b, off, none⟩) P.length cap], .int .i64 k] W fun e w' => ∃ g S T VV LL, e = .returned (.tuple #[.slice (some ⟨g, 0, none⟩) S.length S.length, .int .i64 0]) ∧ BlocksAt w' W.heap.size g P[k] S T VV LL ∧ W.heap.size ≤ g ∧ Below W.heap.size W w') := fun W hb => Blocks_right P hRi k hk _ W ((HT.out.below hb1).below hb) ((HCO.out.below hb1).below hb) (hp1.keeps (keeps_below hb))
  have HSU : Hid (∀ W, Below w1.heap.size w1 W → Calls Tryd.prog 16 #[.agg #[.slice (some ⟨b, off, none⟩) P.length cap], .int .i64 k] W fun e w' => ∃ v' A, e = .returned (.tuple #[v', .int .i64 0]) ∧ (A.length = P[k].code.length ∧ ∀ q, q < P[k].code.length → (0 ≤ A.getD q 0 ↔ Way P[k] 63 q)) ∧ IntsVal w' v' A ∧ Below W.heap.size W w') := fun W hb => by
    have h := sure_all P (.slice (some ⟨b, off, none⟩) P.length cap) k W ((HT.out.below hb1).below hb) (hp1.keeps (keeps_below hb))
    rw [hfe] at h
    exact h.mono fun e w' ⟨v', A, h1, h2, h3⟩ => ⟨v', A, h1, reach_sure hfe hk h2, h3⟩
  obtain ⟨ao2, b2, off2, n, cap2, rfl, ⟨hlen2, haddr2, hat2⟩, hcap2, hmx2⟩ := hcv
  obtain rfl := haddr2 (by omega)
  have HIN : Hid (∀ W, Below w1.heap.size w1 W → ∀ q, q < n → W.cell? ⟨b2, off2 + q * 5, none⟩ = some (.int .i64 (insD P[k] q).op)) := fun W hW q hq => by
    have hqf : q < P[k].code.length := by rw [hlen2]; exact hq
    rw [insD_eq hqf]
    exact keeps_below hW _ _ (hat2 q hqf).1
  have HB1 : Hid (Below w.heap.size w w1) := hb1
  have hz1 := hb1.size
  have hkI : (k : Int) < P.length := by omega
  have hcc2 := hcap2.1
  have HN : Hid (P[k].code.length = n) := hlen2
  clear hfe hRi hpi hcp hbt hp1 hb1 hSh hca hat2 haddr2 hcap2
  rw [hlen2] at hl1 hl2
  generalize P[k] = f at *
  clear hlen2
  unfold maxLen at hmx2
  have d0' := fun o => cell_alloc d0 o
  have d1' := fun o => cell_alloc d1 o
  have t2 := fun o => cell_alloc d2 o
  generalize hNN : P.length = N at *
  clear hNN
  obtain ⟨fp, fr, fc⟩ := f
  dsimp only at *
  have HWA : Hid (Below w1.heap.size w1 ((w1.alloc (.cells #[.slice (some ⟨b, off, none⟩) N cap] 25)).alloc (.cells #[.int .i64 fp, .int .i64 fr, .slice (some ⟨b2, off2, none⟩) n cap2] 30))) := ((Below.refl _ _).alloc (Nat.le_refl _) _).alloc (by simp) _
  go_upto_region 6 with (first
    | (go_at_call 14; refine (picked_any _ _ _ hfn (by omega) (by omega)).mono ?_; rintro e w' ⟨rfl, hw'⟩; replace hw' := hw'.symm; subst hw')
    | (go_at_call 15; refine (HBL.out _ HWA.out).mono ?_; rintro e w2 ⟨g, S, T, VV, LL, rfl, hB, hgw, hb2⟩; have q0 := keeps_below hb2 ⟨w1.heap.size, 0, none⟩ (.slice (some ⟨b, off, none⟩) N cap) (by simp); have q1 := keeps_below hb2 ⟨w1.heap.size + 1, 2, none⟩ (.slice (some ⟨b2, off2, none⟩) n cap2) (by simp); have HB2 : Hid (Below w1.heap.size w1 w2) := HWA.out.trans (hb2.mono HWA.out.size); have HBA : Hid (BlocksAt w2 _ g ⟨fp, fr, fc⟩ S T VV LL) := hB; clear hB hb2)
    | (go_at_call 16; refine (HSU.out _ HB2.out).mono ?_; rintro e w3 ⟨v3, A, rfl, hA, hI3, hb3⟩; obtain ⟨ao4, b4, off4, n4, cap4, rfl, hl4, ha4, hc4, hcp4, hm4⟩ := ints_get hI3; rw [hA.1, HN.out] at hl4; subst hl4; obtain rfl := ha4 (by omega); have r1 := keeps_below hb3 _ _ q1))
  have HAW : Hid (∀ q, q < n → (0 ≤ A.getD q 0 ↔ Way ⟨fp, fr, fc⟩ 63 q)) := fun q hq => hA.2 q (by rw [HN.out]; exact hq)
  have HC4 : Hid (∀ q, q < n → w3.cell? ⟨b4, off4 + q, none⟩ = some (.int .i64 (A.getD q 0))) := hc4
  have HR1 : Hid (w3.cell? ⟨w1.heap.size + 1, 2, none⟩ = some (.slice (some ⟨b2, off2, none⟩) n cap2)) := r1
  have HB3 : Hid (Below w1.heap.size w1 w3) := HB2.out.trans (hb3.mono HB2.out.size)
  have HW3 : Hid (Below w.heap.size w w3) := HB1.out.trans (HB3.out.mono hz1)
  have HB3A : Hid (BlocksAt w3 _ g ⟨fp, fr, fc⟩ S T VV LL) := HBA.out.below hb3
  have hkn : S.length ≤ 1000 := by
    have h1 := starts_len OK.out HBA.out.starts
    have h2 : (⟨fp, fr, fc⟩ : Fn).code.length = n := HN.out
    omega
  obtain ⟨hk0, hS00⟩ := HBA.out.starts.first
  obtain ⟨hc00, -, -, -⟩ := HB3A.out.cells 0 hk0
  rw [hS00] at hc00
  simp only [Nat.zero_mul] at hc00
  have HCL : Hid (∀ W, Below w3.heap.size w3 W → ∀ i, i < S.length → W.cell? ⟨g, i * 4, none⟩ = some (.int .i64 ((S.getD i 0 : Nat) : Int)) ∧ W.cell? ⟨g, i * 4 + 1, none⟩ = some (.int .i64 ((T i : Nat) : Int))) := fun W hW i hi => by
    have h := (HB3A.out.below hW).cells i hi
    refine ⟨?_, h.2.1⟩
    rw [h.1]; simp [List.getD, hi]
  have HMI : Hid (∀ i, i < S.length → S.getD i 0 < T i ∧ T i ≤ n ∧ ∀ pc, S.getD i 0 ≤ pc → pc < T i → pc ≠ T i - 1 → (insD ⟨fp, fr, fc⟩ pc).op < 15) := fun i hi => by
    have h := HBA.out.ends i hi
    have e : S.getD i 0 = S[i] := by simp [List.getD, hi]
    rw [e]
    exact ⟨h.lt, by rw [← HN.out]; exact h.le, fun pc h1 h2 h3 => HBA.out.ok.mid ⟨hi, h1, h2⟩ h3⟩
  have HCT : Hid (∀ pc, (∀ j, j ≤ S.length → ctB S T pc j ≤ 1) ∧ ((ctB S T pc S.length = 1) ↔ Way ⟨fp, fr, fc⟩ 63 pc)) := fun pc => ctB_all OK.out HBA.out.ok pc
  have HC0 : Hid (∀ pc, ctB S T pc 0 = 0) := fun _ => rfl
  have HCS : Hid (∀ pc j, ctB S T pc (j + 1) = ctB S T pc j + (if S.getD j 0 ≤ pc ∧ pc < T j then 1 else 0)) := fun _ _ => rfl
  clear hA hI3 hc4 ha4 hb3 q0 q1 d0' d1' t2 d0 d1 d2 hS00
  generalize S.length = K at *
  go_upto_region 9 with fail
  clear hc00 r1
  go_loopw [12] (fun i wr => ∃ q : Nat, q ≤ n ∧ i = .int .i64 q ∧ Below w3.heap.size w3 wr) (fun i _ => n - (intOf i).toNat)
  case atStart => exact ⟨0, Nat.zero_le _, rfl, Below.refl _ _⟩
  case round =>
    obtain ⟨pc, hq, rfl, hbr⟩ := hrel
    rename World => wo
    have HBO : Hid (Below w3.heap.size w3 wo) := hbr
    have hcd := keeps_below hbr _ _ HR1.out
    have HWO : Hid (Below w.heap.size w wo) := HW3.out.trans (hbr.mono HW3.out.size)
    clear hbr
    by_cases hlt : pc < n
    · have hpI : (pc : Int) < n := by omega
      go_wp2
      go_loopw [13, 14] (fun c i wr => ∃ j : Nat, j ≤ K ∧ i = .int .i64 j ∧ c = .int .i64 ((ctB S T pc j : Nat) : Int) ∧ Below wo.heap.size wo wr) (fun _ i _ => K - (intOf i).toNat)
      case atStart => exact ⟨0, Nat.zero_le _, rfl, by rw [HC0.out]; rfl, Below.refl _ _⟩
      case round =>
        obtain ⟨j, hj, rfl, rfl, hbi⟩ := hrel
        have HBI : Hid (Below wo.heap.size wo wr) := hbi
        have HB3I : Hid (Below w3.heap.size w3 wr) := HBO.out.trans (hbi.mono HBO.out.size)
        have hcd2 := keeps_below hbi _ _ hcd
        have hct := (HCT.out pc).1 j hj
        clear hbi
        by_cases hlj : j < K
        · obtain ⟨c0, c1⟩ := HCL.out wr HB3I.out j hlj
          obtain ⟨m1, m2, m3⟩ := HMI.out j hlj
          have cop := HIN.out wr (HB3.out.trans (HB3I.out.mono HB3.out.size)) pc hlt
          have HCJ := HCS.out pc j
          have HCJH : Hid (ctB S T pc (j + 1) = ctB S T pc j + (if S.getD j 0 ≤ pc ∧ pc < T j then 1 else 0)) := HCJ
          have hjI : (j : Int) < K := by omega
          by_cases h1 : S.getD j 0 ≤ pc
          · by_cases h2 : pc < T j
            · have HC2 : Hid (ctB S T pc (j + 1) = ctB S T pc j + 1) := by show _ = _; rw [HCJH.out, if_pos ⟨h1, h2⟩]
              have e1 : ((S.getD j 0 : Nat) : Int) ≤ pc := by omega
              have e2 : (pc : Int) < ((T j : Nat) : Int) := by omega
              have hw1 : IntKind.i64.wrap (((T j : Nat) : Int) - 1) = ((T j : Nat) : Int) - 1 := wrap_signed _ (by omega) (by omega)
              by_cases hop : 15 ≤ (insD ⟨fp, fr, fc⟩ pc).op
              · have hpc : (pc : Int) = ((T j : Nat) : Int) - 1 := by
                  by_cases he : pc = T j - 1
                  · omega
                  · have := m3 pc h1 h2 he; omega
                have e3 : ((pc : Int) != ((T j : Nat) : Int) - 1) = false := by rw [hpc]; simp
                clear HCJ m3 hpc
                generalize (insD ⟨fp, fr, fc⟩ pc).op = op at *
                generalize ((T j : Nat) : Int) = tj at *
                generalize ((S.getD j 0 : Nat) : Int) = sj at *
                generalize ctB S T pc j = ct at *
                go_wp2
                go_roundw
                case rel => exact ⟨j + 1, by omega, by go_num, by rw [HC2.out]; go_num, HBI.out⟩
                case measure => simp [intOf]; omega
              · have e3 : decide (15 ≤ (insD ⟨fp, fr, fc⟩ pc).op) = false := by simpa using hop
                clear HCJ m3 hop
                generalize (insD ⟨fp, fr, fc⟩ pc).op = op at *
                generalize ((T j : Nat) : Int) = tj at *
                generalize ((S.getD j 0 : Nat) : Int) = sj at *
                generalize ctB S T pc j = ct at *
                go_wp2
                go_roundw
                case rel => exact ⟨j + 1, by omega, by go_num, by rw [HC2.out]; go_num, HBI.out⟩
                case measure => simp [intOf]; omega
            · have HC2 : Hid (ctB S T pc (j + 1) = ctB S T pc j) := by show _ = _; rw [HCJH.out, if_neg (fun h => h2 h.2)]; omega
              have e1 : ((S.getD j 0 : Nat) : Int) ≤ pc := by omega
              have e2 : decide ((pc : Int) < ((T j : Nat) : Int)) = false := by simp only [decide_eq_false_iff_not]; omega
              clear HCJ m3
              generalize ((T j : Nat) : Int) = tj at *
              generalize ((S.getD j 0 : Nat) : Int) = sj at *
              go_wp2
              go_roundw
              case rel => exact ⟨j + 1, by omega, by go_num, by rw [HC2.out], HBI.out⟩
              case measure => simp [intOf]; omega
          · have HC2 : Hid (ctB S T pc (j + 1) = ctB S T pc j) := by show _ = _; rw [HCJH.out, if_neg (fun h => h1 h.1)]; omega
            have e1 : decide (((S.getD j 0 : Nat) : Int) ≤ pc) = false := by simp only [decide_eq_false_iff_not]; omega
            clear HCJ m3
            generalize ((T j : Nat) : Int) = tj at *
            generalize ((S.getD j 0 : Nat) : Int) = sj at *
            go_wp2
            go_roundw
            case rel => exact ⟨j + 1, by omega, by go_num, by rw [HC2.out], HBI.out⟩
            case measure => simp [intOf]; omega
        · obtain rfl : j = K := by omega
          have ca := keeps_below HB3I.out _ _ (HC4.out pc hlt)
          have hiff := (HCT.out pc).2.trans (HAW.out pc hlt).symm
          have HBN : Hid (Below w3.heap.size w3 wr) := HB3I.out
          by_cases hA0 : 0 ≤ A.getD pc 0
          · have hc1 : ctB S T pc j = 1 := hiff.2 hA0
            rw [hc1]
            have e1 : decide (0 ≤ A.getD pc 0) = true := by simpa using hA0
            clear hiff hA0 hc1 hct
            generalize A.getD pc 0 = az at *
            go_wp2
            go_roundw
            case rel => exact ⟨pc + 1, by omega, by go_num, HBN.out⟩
            case measure => simp [intOf]; omega
          · have hc1 : ctB S T pc j = 0 := by
              have : ¬ ctB S T pc j = 1 := fun h => hA0 (hiff.1 h)
              omega
            rw [hc1]
            have e1 : decide (0 ≤ A.getD pc 0) = false := by simpa using hA0
            clear hiff hA0 hc1 hct
            generalize A.getD pc 0 = az at *
            go_wp2
            go_roundw
            case rel => exact ⟨pc + 1, by omega, by go_num, HBN.out⟩
            case measure => simp [intOf]; omega
    · go_wp2
      go_ret
      exact ⟨rfl, HWO.out⟩
end Go.Proofs.YtjmafakhibekdaaDoor
