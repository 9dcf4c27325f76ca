/- Contract of the document's LoopsOf (package tierlineref), of right programs. -/
import Derived.Test.YteilohamjijpbaaDoorXRefFwd
import Derived.Test.YteilohamjijpbaaDoorXLawFBlocks
namespace Go.Proofs.YteilohamjijpbaaDoor
open Go Go.RowKit

theorem BlksAt.nexts {P : List Fn} {f : Fn} (ok : FlowOk P f) {S : List Nat} {T : Nat → Nat} (hO : BlkOk f S T) {w : World} {g cap : Nat} {VV : Nat → Value} (hB : BlksAt w g cap f S T VV) (a : Nat) (ha : a < S.length) :
    ∃ na nb noff nn ncap, nn ≤ ncap ∧ ncap ≤ 9223372036854775807 ∧ nn ≤ 2 ∧ (nxN f S T a).length = nn ∧ (∀ W, Below w.heap.size w W → W.cell? ⟨g, a * 4 + 2, none⟩ = some (.slice na nn ncap)) ∧ ∀ c, c < nn → ∃ h, na = some ⟨nb, noff, none⟩ ∧ (nxN f S T a)[c]? = some h ∧ h < S.length ∧ ∀ W, Below w.heap.size w W → W.cell? ⟨nb, noff + c, none⟩ = some (.int .i64 ((h : Nat) : Int)) := by
  have hI := (hB.lists a ha).1
  rw [nxN_nxI] at hI
  obtain ⟨na, nb, noff, nn, ncap, hv, hl, hna, hc, hcp, hm⟩ := ints_get hI
  rw [List.length_map] at hl
  refine ⟨na, nb, noff, nn, ncap, hcp, hm, by have := nxN_len f S T a; omega, hl, fun W hW => ?_, fun c hcn => ?_⟩
  · rw [← hv]; exact keeps_below hW _ _ (hB.cells a ha).2.2.1
  · have hcl : c < (nxN f S T a).length := by omega
    refine ⟨(nxN f S T a)[c], hna (by omega), List.getElem?_eq_getElem hcl, hO.nxN_lt ok ha (List.getElem_mem hcl), fun W hW => ?_⟩
    refine keeps_below hW _ _ ?_
    rw [hc c hcn]; simp [List.getD, hcl]
theorem back_bools (pv : Nat → List Nat) (head closing : Nat) : ∃ p : Nat → Bool, ∀ b, p b = true ↔ b ≠ head ∧ Back pv head closing b := by
  classical
  exact ⟨fun b => decide (b ≠ head ∧ Back pv head closing b), fun b => by rw [decide_eq_true_eq]⟩
def RefLps (f : Fn) (w : World) (e : Ending) (w' : World) : Prop := ∃ v' vs Ls base, e = .returned (.tuple #[v', .int .i64 0]) ∧ LoopsOk f Ls ∧ RowsAt w' base v' vs Ls ∧ Ls.length ≤ 1000 ∧ Below w.heap.size w w'

set_option maxRecDepth 100000 in
set_option maxHeartbeats 8000000 in
theorem loopsOf_right (P : List Fn) (h0 : ProofAns P 0) (k : Nat) (hk : k < P.length) (v : Value) (w : World) (hv : ProgVal w v P) :
    Calls Tryd.prog 17 #[.agg #[v], .int .i64 k] w fun e w' => RefLps P[k] w e w' := by
  have hbx : ∀ o, Below w.heap.size w (w.alloc o) := fun o => (Below.refl _ _).alloc (Nat.le_refl _) _
  obtain ⟨i64i, hi64, hz0, hz1', hz2⟩ := info_parts info64
  obtain ⟨iI, hiI, hzI0, hzI1, hzI2⟩ := info_parts infoInts
  have hBO := fun o => blocksOf_right P h0 k hk v (w.alloc o) (hv.keeps (keeps_below (hbx o)))
  have OK : Hid (FlowOk P P[k]) := flowOk_of h0 (List.getElem_mem hk)
  obtain ⟨ao, n, cap, rfl⟩ := hv.shape
  clear hbx h0
  generalize P[k] = f at *
  go_enter Tryd.func17, Tryd.ntmps17
  go_wp2_with (go_at_call 13; refine (hBO _).mono ?_; rintro e w1 ⟨v1, S, T, rfl, hO, hbv, hb1⟩; obtain ⟨g, gcap, VV, rfl, hB⟩ := hbv; have HB1 : Hid (Below w.heap.size w w1) := ((Below.refl _ _).alloc (Nat.le_refl _) _).trans (hb1.mono (by simp)))
  have hSL : S.length ≤ 40 := Nat.le_trans (starts_len OK.out hO.starts) OK.out.ok.len2
  have HBV : Hid (∀ W, Below w1.heap.size w1 W → BlocksVal W (.slice (some ⟨g, 0, none⟩) S.length gcap) f S T) := fun W hW => BlocksVal.below ⟨g, gcap, VV, rfl, hB⟩ hW
  have HBK : Hid _ := fun a ha => hB.nexts OK.out hO a ha
  have HSTY : Hid (∀ W a b, Below w1.heap.size w1 W → b < S.length → Dom (pvN f S T) a b → Calls Tryd.prog 45 #[.slice (some ⟨g, 0, none⟩) S.length gcap, .int .i64 ((a : Nat) : Int), .int .i64 ((b : Nat) : Int)] W fun e w' => e = .returned (.bool true) ∧ Below W.heap.size W w') := fun W a b hW hb hd => by
    refine (standsAbove_any P f OK.out S T hO a b hb _ W (HBV.out W hW)).mono ?_
    rintro e w' ⟨bb, rfl, hbb, hb'⟩
    rw [hbb.2 hd]
    exact ⟨rfl, hb'⟩
  have HSTN : Hid (∀ W a b, Below w1.heap.size w1 W → b < S.length → ¬ Dom (pvN f S T) a b → Calls Tryd.prog 45 #[.slice (some ⟨g, 0, none⟩) S.length gcap, .int .i64 ((a : Nat) : Int), .int .i64 ((b : Nat) : Int)] W fun e w' => e = .returned (.bool false) ∧ Below W.heap.size W w') := fun W a b hW hb hd => by
    refine (standsAbove_any P f OK.out S T hO a b hb _ W (HBV.out W hW)).mono ?_
    rintro e w' ⟨bb, rfl, hbb, hb'⟩
    cases bb
    · exact ⟨rfl, hb'⟩
    · exact absurd (hbb.1 rfl) hd
  have HCT : Hid (∀ W b c d (q : Bool), Below w1.heap.size w1 W → b < S.length → c < S.length → b ≠ d → (q = true ↔ b ≠ d ∧ Back (pvN f S T) d c b) → Calls Tryd.prog 46 #[.slice (some ⟨g, 0, none⟩) S.length gcap, .int .i64 ((b : Nat) : Int), .int .i64 ((c : Nat) : Int), .int .i64 ((d : Nat) : Int)] W fun e w' => e = .returned (.bool q) ∧ Below W.heap.size W w') := fun W b c d q hW hb hc hne hq => by
    refine (comesTo_any P f OK.out S T hO b c d hb hc _ W (HBV.out W hW)).mono ?_
    rintro e w' ⟨bb, rfl, hbb, hb'⟩
    have : bb = q := by
      rw [Bool.eq_iff_iff, hbb hne, hq]
      exact ⟨fun h => ⟨hne, h⟩, fun h => h.2⟩
    rw [this]
    exact ⟨rfl, hb'⟩
  have HLX : Hid (∀ head closing, head < S.length → closing < S.length → ∃ I, LWork (pvN f S T) S.length head closing I []) := fun head closing h1 h2 => lwork_exists (fun b p hp => (hO.pvN_lt OK.out b p hp).1) h1 h2
  have HFIN : Hid (∀ Ls, LoopsTo (pvN f S T) S.length (pairsOf (nxN f S T) S.length) Ls → LoopsOk f Ls) := fun Ls h => ⟨S, T, hO, h⟩
  have hgc1 := hB.cap1
  have hgc2 := hB.cap2
  clear hO hB hb1 hBO OK
  generalize pvN f S T = pv at *
  generalize nxN f S T = nx at *
  generalize S.length = K at *
  go_loopw [8, 9] (fun v i wr => ∃ (b : Nat) (vs : List Value) (Ls : List (List Int)), b ≤ K ∧ i = .int .i64 b ∧ LoopsTo pv K (pairsOf nx b) Ls ∧ RowsAt wr w1.heap.size v vs Ls ∧ Ls.length ≤ 2 * b ∧ Below w1.heap.size w1 wr) (fun _ i _ => K - (intOf i).toNat)
  case atStart => exact ⟨0, [], [], Nat.zero_le _, rfl, LoopsTo.nil, RowsAt.nil _ _, Nat.le_refl _, Below.refl _ _⟩
  case round =>
    rename World => wr
    obtain ⟨b, vs, Ls, hb, rfl, hLs, hra, hll, hbr⟩ := hrel
    have HBR : Hid (Below w1.heap.size w1 wr) := hbr
    have HLS : Hid (LoopsTo pv K (pairsOf nx b) Ls) := hLs
    obtain ⟨aov, capv, rfl⟩ := own_shape hra.row
    have HRA : Hid (RowsAt wr w1.heap.size (.slice aov vs.length capv) vs Ls) := hra
    clear hLs hra hbr
    by_cases hlt : b < K
    · have hbI : (b : Int) < K := by omega
      obtain ⟨na, nb, noff, nn, ncap, hnc, hnm, hnn2, hnl, hcc2, hcel⟩ := HBK.out b hlt
      have HNN : Hid ((nx b).length = nn) := hnl
      go_wp2
      go_loopw [8, 10] (fun v i wi => ∃ (q : Nat) (vs : List Value) (Ls : List (List Int)), q ≤ nn ∧ i = .int .i64 q ∧ LoopsTo pv K (pairsOf nx b ++ ((nx b).take q).map fun h => (b, h)) Ls ∧ RowsAt wi w1.heap.size v vs Ls ∧ Ls.length ≤ 2 * b + q ∧ Below w1.heap.size w1 wi) (fun _ i _ => nn - (intOf i).toNat)
      case atStart => exact ⟨0, vs, Ls, Nat.zero_le _, rfl, by simpa using HLS.out, HRA.out, by omega, HBR.out⟩
      case round =>
        clear HBR HRA HLS hll
        rename World => wi
        obtain ⟨q, vs, Ls, hq, rfl, hLs, hra, hll, hbi⟩ := hrel
        have HBI : Hid (Below w1.heap.size w1 wi) := hbi
        have HLS : Hid (LoopsTo pv K (pairsOf nx b ++ ((nx b).take q).map fun h => (b, h)) Ls) := hLs
        obtain ⟨aov, capv, rfl⟩ := own_shape hra.row
        have HRA : Hid (RowsAt wi w1.heap.size (.slice aov vs.length capv) vs Ls) := hra
        have hzi : w1.heap.size ≤ wi.heap.size := hbi.size
        have hvb : vs.length ≤ 2 * b + q := by have := hra.len; omega
        have c2 := hcc2 wi hbi
        by_cases hqn : q < nn
        · obtain ⟨h, hna, hqh, hhK, hcell⟩ := hcel q hqn
          subst hna
          have c1 := hcell wi hbi
          have hqI : (q : Int) < nn := by omega
          have hhI : (h : Int) < K := by omega
          have HTK : Hid ((pairsOf nx b ++ ((nx b).take (q + 1)).map fun h => (b, h)) = (pairsOf nx b ++ ((nx b).take q).map fun h => (b, h)) ++ [(b, h)]) := by
            show _ = _
            rw [List.take_add_one, hqh, List.map_append, ← List.append_assoc]; rfl
          clear hLs hra hqh hcell
          by_cases hD : Dom pv h b
          · have hST := HSTY.out wi h b hbi hlt hD
            obtain ⟨p, hp⟩ := back_bools pv h b
            obtain ⟨I, hI⟩ := HLX.out h b hhK hlt
            have HML : Hid (((h : Nat) : Int) :: ((List.range K).filter p).map (fun b => ((b : Nat) : Int)) = memL I h K) := memL_of hI p (fun c _ => hp c)
            have HLI : Hid (LoopIs pv K h b (memL I h K)) := ⟨I, hI, rfl⟩
            have HPB : Hid (∀ c, p c = true ↔ c ≠ h ∧ Back pv h b c) := hp
            have HN : Hid (∀ L, LoopIs pv K h b L → LoopsTo pv K (pairsOf nx b ++ ((nx b).take (q + 1)).map fun h => (b, h)) (Ls ++ [L])) := fun L hL => by rw [HTK.out]; exact HLS.out.add hD hL
            clear hI hp hD hbi
            go_wp2_with (go_at_call 45; refine hST.mono ?_; rintro e w2 ⟨rfl, hb2⟩)
            have hzw2 := hb2.size
            have HOW0 : Hid ((w2.alloc (.cells #[.int .i64 (h : Int)] 3)).ownsRow w2.heap.size 3 1 (.slice (some ⟨w2.heap.size, 0, none⟩) 1 1) 1 (i64s [(h : Int)])) := own_newF (Nat.le_refl _) [(h : Int)] (by simp)
            have HB2 : Hid (Below w1.heap.size w1 w2) := below_call HBI.out hzi hb2
            have HRA2 : Hid (RowsAt w2 w1.heap.size (.slice aov vs.length capv) vs Ls) := HRA.out.below hb2
            have HB3 : Hid (Below w2.heap.size w2 (w2.alloc (.cells #[.int .i64 (h : Int)] 3))) := (Below.refl _ _).alloc (Nat.le_refl _) _
            clear hST c1 c2 hb2 HRA HBI
            go_loopw [12, 13] (fun v i wl => ∃ (c : Nat) (L : List Int), c ≤ K ∧ i = .int .i64 c ∧ L = ((h : Nat) : Int) :: ((List.range c).filter p).map (fun b => ((b : Nat) : Int)) ∧ wl.ownsRow w2.heap.size 3 1 v L.length (i64s L) ∧ Below w2.heap.size w2 wl) (fun _ i _ => K - (intOf i).toNat)
            case atStart => exact ⟨0, [(h : Int)], Nat.zero_le _, rfl, rfl, HOW0.out, HB3.out⟩
            case round =>
              clear HOW0 HB3
              rename World => wl
              obtain ⟨c, L, hc, rfl, hL, hown, hbl⟩ := hrel
              have HL : Hid (L = ((h : Nat) : Int) :: ((List.range c).filter p).map (fun b => ((b : Nat) : Int))) := hL
              have hLl : L.length ≤ c + 1 := by rw [hL, List.length_cons]; have := filt_len p c; omega
              obtain ⟨aoL, capL, rfl⟩ := own_shape hown
              have HOW : Hid (wl.ownsRow w2.heap.size 3 1 (.slice aoL L.length capL) L.length (i64s L)) := hown
              have HBL : Hid (Below w2.heap.size w2 wl) := hbl
              have hzl : w2.heap.size ≤ wl.heap.size := hbl.size
              have HBL1 : Hid (Below w1.heap.size w1 wl) := below_call HB2.out (by omega) hbl
              clear hL hown hbl
              by_cases hcK : c < K
              · have hcI : (c : Int) < K := by omega
                have HFS : Hid (((h : Nat) : Int) :: ((List.range (c + 1)).filter p).map (fun b => ((b : Nat) : Int)) = L ++ (if p c = true then [((c : Nat) : Int)] else [])) := by
                  show _ = _
                  rw [filt_succ, HL.out]; rfl
                by_cases hch : c = h
                · have hpc : p c = false := by
                    cases hh : p c
                    · rfl
                    · exact absurd hch ((HPB.out c).1 hh).1
                  have HLN : Hid (L = ((h : Nat) : Int) :: ((List.range (c + 1)).filter p).map (fun b => ((b : Nat) : Int))) := by
                    show _ = _
                    rw [HFS.out, hpc]; simp
                  have hne : ((c : Int) != (h : Int)) = false := by rw [hch]; simp
                  clear hpc hch
                  go_wp2
                  go_roundw
                  case rel => exact ⟨c + 1, L, by omega, by go_num, HLN.out, HOW.out, HBL.out⟩
                  case measure => simp [intOf]; omega
                · have hne : ((c : Int) != (h : Int)) = true := by rw [bne_iff_ne]; omega
                  have hCT := HCT.out wl c b h (p c) HBL1.out hcK hlt hch (HPB.out c)
                  cases hpc : p c
                  · rw [hpc] at hCT
                    have HLN : Hid (L = ((h : Nat) : Int) :: ((List.range (c + 1)).filter p).map (fun b => ((b : Nat) : Int))) := by
                      show _ = _
                      rw [HFS.out, hpc]; simp
                    clear hpc hch
                    go_wp2_with (go_at_call 46; refine hCT.mono ?_; rintro e w5 ⟨rfl, hb5⟩)
                    go_roundw
                    case rel => exact ⟨c + 1, L, by omega, by go_num, HLN.out, ownsRow_below HOW.out hb5, below_call HBL.out hzl hb5⟩
                    case measure => simp [intOf]; omega
                  · rw [hpc] at hCT
                    have HLN : Hid (L ++ [((c : Nat) : Int)] = ((h : Nat) : Int) :: ((List.range (c + 1)).filter p).map (fun b => ((b : Nat) : Int))) := by
                      show _ = _
                      rw [HFS.out, hpc]; simp
                    clear hpc hch
                    go_wp2_with (first
                      | (go_at_call 46; refine hCT.mono ?_; rintro e w5 ⟨rfl, hb5⟩; have hz5 := hb5.size; have HOW5 : Hid (w5.ownsRow w2.heap.size 3 1 (.slice aoL L.length capL) L.length (i64s L)) := ownsRow_below HOW.out hb5; have HB5 : Hid (Below w2.heap.size w2 w5) := below_call HBL.out hzl hb5)
                      | (at_builtin; refine wpList_append_own _ rfl (.tmp 70) (.tmp 72) 37 rfl w2.heap.size 3 i64i _ 1 8 Tryd.underlying37 hi64 hz0 hz1' hz2 rfl (by decide) _ _ _ rfl (HOW5.out.alloc _) ⟨_, 0, none⟩ 1 1 (i64s [((c : Nat) : Int)]) rfl rfl (news_list _ _ _ _ rfl) (i64s_one _) (by unfold maxLen; omega) (by omega) (by simp; omega) ?_; intro v6 w6 hown6 hg6 _; have HO6 := own_snoc rfl hown6; have hb6 : Below w2.heap.size w2 w6 := (HB5.out.alloc (by omega) _).trans (grown_base (HOW5.out.alloc _) (by simp; omega) hg6)))
                    go_roundw
                    case rel => exact ⟨c + 1, _, by omega, by go_num, HLN.out, HO6, hb6⟩
                    case measure => simp [intOf]; omega
              · obtain rfl : c = K := by omega
                have HLE : Hid (L = memL I h c) := HL.out.trans HML.out
                have HRL : Hid (RowsAt (wl.alloc (.cells #[.slice aoL L.length capL] 37)) w1.heap.size (.slice aov vs.length capv) vs Ls) := (HRA2.out.below HBL.out).below ((Below.refl _ _).alloc (Nat.le_refl _) _)
                have HOU : Hid (OwnI (wl.alloc (.cells #[.slice aoL L.length capL] 37)) w1.heap.size (.slice aoL L.length capL) L) := own_mono (World.ownsRow.alloc HOW.out _) (by omega)
                have HBW : Hid (Below w1.heap.size w1 (wl.alloc (.cells #[.slice aoL L.length capL] 37))) := HBL1.out.alloc (by omega) _
                go_wp2_with (at_builtin; refine wpList_append_own _ rfl (.tmp 74) (.tmp 76) 33 rfl w1.heap.size 37 iI _ 1 24 Tryd.underlying33 hiI hzI0 hzI1 hzI2 rfl (by decide) _ _ _ rfl HRL.out.row ⟨_, 0, none⟩ 1 1 [.slice aoL L.length capL] rfl rfl (news_list _ _ _ _ (by simp)) (by simp [Value.oneCell']) (by unfold maxLen; omega) (by omega) (by simp; omega) ?_; intro v7 w7 hown7 hg7 _; have HR7 : Hid (RowsAt w7 w1.heap.size v7 (vs ++ [.slice aoL L.length capL]) (Ls ++ [L])) := HRL.out.add HOU.out (by simpa using hown7) hg7; have HB7 : Hid (Below w1.heap.size w1 w7) := HBW.out.trans (grown_base HRL.out.row (by simp; omega) hg7))
                go_roundw
                case rel => exact ⟨q + 1, _, _, by omega, by go_num, HN.out L (by rw [HLE.out]; exact HLI.out), HR7.out, by simp; omega, HB7.out⟩
                case measure => simp [intOf]; omega
          · have hST := HSTN.out wi h b hbi hlt hD
            have HN : Hid (LoopsTo pv K (pairsOf nx b ++ ((nx b).take (q + 1)).map fun h => (b, h)) Ls) := by show LoopsTo _ _ _ _; rw [HTK.out]; exact HLS.out.skip hD
            clear hD hbi
            go_wp2_with (go_at_call 45; refine hST.mono ?_; rintro e w2 ⟨rfl, hb2⟩)
            go_roundw
            case rel => exact ⟨q + 1, vs, Ls, by omega, by go_num, HN.out, HRA.out.below hb2, by omega, below_call HBI.out hzi hb2⟩
            case measure => simp [intOf]; omega
        · have hqN : ¬ ((q : Int) < nn) := by omega
          have HN : Hid (LoopsTo pv K (pairsOf nx (b + 1)) Ls) := by
            show LoopsTo _ _ _ _
            have := HLS.out
            rw [List.take_of_length_le (by rw [HNN.out]; omega)] at this
            exact this
          clear hLs hra hbi
          go_wp2
          go_roundw
          case rel => exact ⟨b + 1, vs, Ls, by omega, by go_num, HN.out, HRA.out, by omega, HBI.out⟩
          case measure => simp [intOf]; omega
    · obtain rfl : b = K := by omega
      go_wp2
      go_ret2
      exact ⟨_, vs, Ls, _, rfl, HFIN.out Ls HLS.out, HRA.out, by omega, below_call HB1.out HB1.out.size HBR.out⟩
end Go.Proofs.YteilohamjijpbaaDoor
