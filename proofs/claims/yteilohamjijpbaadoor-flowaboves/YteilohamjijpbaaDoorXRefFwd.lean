/- Contracts of the document's ways from block to block (package tierlineref): without, standsAbove, comesTo. -/
import Derived.Test.YteilohamjijpbaaDoorXFwdMath
import Derived.Test.YteilohamjijpbaaDoorXBlockRef
namespace Go.Proofs.YteilohamjijpbaaDoor
open Go Go.RowKit

def WithoutPost (pv : Nat → List Nat) (K d : Nat) (w : World) (e : Ending) (w' : World) : Prop := ∃ G s, e = .returned (.slice (some ⟨G, 0, none⟩) K K) ∧ BoolRow w' G K s ∧ s.length = K ∧ (∀ b, s.getD b false = true ↔ WayB pv d b) ∧ w.heap.size ≤ G ∧ Below w.heap.size w w'
def ComesPost (pv : Nat → List Nat) (head closing b : Nat) (w : World) (e : Ending) (w' : World) : Prop := ∃ bb : Bool, e = .returned (.bool bb) ∧ (b ≠ head → (bb = true ↔ Back pv head closing b)) ∧ Below w.heap.size w w'

set_option maxRecDepth 100000 in
set_option maxHeartbeats 8000000 in
theorem without_any (P : List Fn) (f : Fn) (ok : FlowOk P f) (S : List Nat) (T : Nat → Nat) (hO : BlkOk f S T) (d : Nat) (v : Value) (w : World) (hbv : BlocksVal w v f S T) :
    Calls Tryd.prog 48 #[v, .int .i64 d] w fun e w' => WithoutPost (pvN f S T) S.length d w e w' := by
  obtain ⟨iB, hiB, hzB0, hzB1, hzB2⟩ := info_parts infoBool
  obtain ⟨g, cap, VV, rfl, hB⟩ := hbv
  have hSL := starts_len ok hO.starts
  have hl2 := ok.ok.len2
  obtain ⟨hS0, -⟩ := hO.starts.first
  have HNL : Hid (∀ b p, b < S.length → p ∈ nxN f S T b → p < S.length) := fun b p hb hp => hO.nxN_lt ok hb hp
  have HBK : Hid (∀ a, a < S.length → ∃ na nb noff nn ncap, VV (2 * a) = .slice na nn ncap ∧ nn ≤ ncap ∧ ncap ≤ 9223372036854775807 ∧ (nxN f S T a).length = nn ∧ (∀ W, Below w.heap.size w W → W.cell? ⟨g, a * 4 + 2, none⟩ = some (.slice na nn ncap)) ∧ ∀ c, c < nn → ∃ h, na = some ⟨nb, noff, none⟩ ∧ (nxN f S T a)[c]? = some h ∧ h < S.length ∧ ∀ W, Below w.heap.size w W → W.cell? ⟨nb, noff + c, none⟩ = some (.int .i64 ((h : Nat) : Int))) := fun a ha => by
    have hI := (hB.lists a ha).1
    rw [nxN_nxI] at hI
    obtain ⟨na, nb, noff, nn, ncap, hv, hl, hna, hc, hcp, hm⟩ := ints_get hI
    rw [List.length_map] at hl
    refine ⟨na, nb, noff, nn, ncap, hv, hcp, hm, hl, fun W hW => ?_, fun c hcn => ?_⟩
    · rw [← hv]; exact keeps_below hW _ _ (hB.cells a ha).2.2.1
    · have hcl : c < (nxN f S T a).length := by omega
      refine ⟨(nxN f S T a)[c], hna (by omega), List.getElem?_eq_getElem hcl, hO.nxN_lt ok ha (List.getElem_mem hcl), fun W hW => ?_⟩
      refine keeps_below hW _ _ ?_
      rw [hc c hcn]; simp [List.getD, hcl]
  have hcap1 := hB.cap1
  have hcap2 := hB.cap2
  have HWW0 : Hid (0 ≠ d → ∀ b, WayF (nxN f S T) d 0 b ↔ WayB (pvN f S T) d b) := fun hd b => wayF_wayB ok hO hd b
  have hm0 := made_false S.length
  clear hB hO ok
  generalize pvN f S T = pv at *
  generalize nxN f S T = nx at *
  generalize S.length = K at *
  by_cases hd0 : d = 0
  · subst hd0
    go_enter Tryd.func48, Tryd.ntmps48
    go_wp2_with (at_make; refine wpList_make_full _ rfl (.tmp 11) (.tmp 11) 77 rfl 0 4 iB _ 1 Tryd.underlying77 hiB hzB0 hzB1 .i64 .i64 _ _ K rfl rfl (by simp) (by simp) (by rw [hzB2]; omega) (by unfold maxLen; omega) (Nat.zero_le _) ?_; intro wm hown1 hg1; rw [hm0] at hown1)
    go_ret
    refine ⟨_, List.replicate K false, rfl, hown1, by simp, fun b => ?_, Nat.le_refl _, below_grown hg1⟩
    constructor
    · intro h
      by_cases hb : b < K
      · simp [List.getD, hb] at h
      · simp [List.getD, hb] at h
    · intro h; exact absurd h (Dom.zero pv b)
  · have HWW : Hid (∀ b, WayF nx d 0 b ↔ WayB pv d b) := HWW0.out (fun e => hd0 e.symm)
    have hdn : ((d : Int) == 0) = false := by rw [beq_eq_false_iff_ne]; omega
    have hst : 0 < K := hS0
    have hstI : (0 : Int) < K := by omega
    clear hd0 HWW0
    go_enter Tryd.func48, Tryd.ntmps48
    go_upto_region 4 with (at_make; refine wpList_make_full _ rfl (.tmp 11) (.tmp 11) 77 rfl 0 4 iB _ 1 Tryd.underlying77 hiB hzB0 hzB1 .i64 .i64 _ _ K rfl rfl (by simp) (by simp) (by rw [hzB2]; omega) (by unfold maxLen; omega) (Nat.zero_le _) ?_; intro wm hown1 hg1; rw [hm0] at hown1)
    have hbm : Below w.heap.size w wm := below_grown hg1
    have hzm : w.heap.size < wm.heap.size := (World.ownsRow.lt hown1 w.heap.size rfl).2
    have HR0 : Hid (BoolRow wm w.heap.size K (List.replicate K false)) := hown1
    have cs0 := bool_cell HR0.out (by simp) 0 hst
    have cf0 := HR0.out.frozenAt 0
    have HS0 := bool_store HR0.out 0 true
    have HRW0 : Hid (BoolRow (wm.setCell ⟨w.heap.size, 0, none⟩ (.bool true)) w.heap.size K ((List.replicate K false).set 0 true)) := HS0.1
    have HB1 : Hid (Below w.heap.size w (wm.setCell ⟨w.heap.size, 0, none⟩ (.bool true))) := below_gb hbm HS0.2 (Nat.le_refl _) (by omega)
    have hGw : w.heap.size ≤ w.heap.size := Nat.le_refl _
    clear hown1 hg1 hbm HS0
    generalize hG : w.heap.size = G at *
    have HG : Hid (w.heap.size = G) := hG
    go_wp2
    clear cs0 cf0
    have hz1 : w.heap.size ≤ (wm.setCell ⟨G, 0, none⟩ (.bool true)).heap.size := by simp; omega
    generalize wm.setCell ⟨G, 0, none⟩ (.bool true) = w1 at *
    clear hG
    rw [← HG.out] at HB1 HBK
    clear hGw
    have hGw : w.heap.size ≤ G := by rw [HG.out]; exact Nat.le_refl _
    go_loopg [6] (unseen ((List.replicate K false).set 0 true) + 1) (fun m ag wl => ∃ (again : Bool) (s : List Bool), m = unseen s + (if again = true then 1 else 0) ∧ ag = .bool again ∧ FLoops nx K d 0 again s ∧ BoolRow wl G K s ∧ w1.grownBy wl (some G))
    case atStart => exact ⟨true, _, rfl, rfl, ⟨FInv.first nx hst, fun h => by cases h⟩, HRW0.out, gb_refl _ _⟩
    case round =>
      rename World => wc
      obtain ⟨again, s, hms, rfl, hlp, hrow, hgr⟩ := hrel
      have HM : Hid (gk = unseen s + (if again = true then 1 else 0)) := hms
      have HLP : Hid (FLoops nx K d 0 again s) := hlp
      have HRW : Hid (BoolRow wc G K s) := hrow
      have HGR : Hid (w1.grownBy wc (some G)) := hgr
      have hls : s.length = K := hlp.1.len
      clear hms hlp hrow hgr
      cases again
      · have HDN : Hid (∀ b, s.getD b false = true ↔ WayF nx d 0 b) := fun b => HLP.out.done hst HNL.out b
        have HBC : Hid (Below w.heap.size w wc) := below_gb HB1.out HGR.out hGw (by omega)
        go_wp2
        go_ret
        exact ⟨G, s, rfl, HRW.out, hls, fun b => by rw [HDN.out b, HWW.out b], hGw, HBC.out⟩
      · go_wp2
        go_loopw [6, 7] (fun ag i wl => ∃ (a : Nat) (ag' : Bool) (s' : List Bool), a ≤ K ∧ i = .int .i64 a ∧ ag = .bool ag' ∧ FMid nx K d 0 s a 0 ag' s' ∧ BoolRow wl G K s' ∧ w1.grownBy wl (some G)) (fun _ i _ => K - (intOf i).toNat)
        case atStart => exact ⟨0, false, s, Nat.zero_le _, rfl, rfl, FMid.start HLP.out.1, HRW.out, HGR.out⟩
        case round =>
          rename World => wi
          obtain ⟨a, ag', s', ha, rfl, rfl, hmid, hrow, hgr⟩ := hrel
          have HMI : Hid (FMid nx K d 0 s a 0 ag' s') := hmid
          have HRI : Hid (BoolRow wi G K s') := hrow
          have HGI : Hid (w1.grownBy wi (some G)) := hgr
          clear hmid hrow hgr
          by_cases hla : a < K
          · have haI : (a : Int) < K := by omega
            obtain ⟨na, nb, noff, nn, ncap, hnn, hnc, hnm, hnl, hcc2, hcel⟩ := HBK.out a hla
            go_wp2
            go_loopw [6, 8] (fun ag i wl => ∃ (c : Nat) (ag2 : Bool) (s2 : List Bool), c ≤ nn ∧ i = .int .i64 c ∧ ag = .bool ag2 ∧ FMid nx K d 0 s a c ag2 s2 ∧ BoolRow wl G K s2 ∧ w1.grownBy wl (some G)) (fun _ i _ => nn - (intOf i).toNat)
            case atStart => exact ⟨0, ag', s', Nat.zero_le _, rfl, rfl, HMI.out, HRI.out, HGI.out⟩
            case round =>
              clear HMI HRI HGI
              rename World => wk
              obtain ⟨c, ag2, s2, hc, rfl, rfl, hmid, hrow, hgr⟩ := hrel
              have HMK : Hid (FMid nx K d 0 s a c ag2 s2) := hmid
              have HRK : Hid (BoolRow wk G K s2) := hrow
              have HGK : Hid (w1.grownBy wk (some G)) := hgr
              have hl2 : s2.length = K := hmid.inv.len
              have hBK : Below w.heap.size w wk := below_gb HB1.out hgr hGw (by omega)
              have c2 := hcc2 wk hBK
              have csa := bool_cell hrow hl2 a hla
              by_cases hlc : c < nn
              · have hcI : (c : Int) < nn := by omega
                obtain ⟨h, hna, hnx, hhK, hch⟩ := hcel c hlc
                subst hna
                have ch := hch wk hBK
                cases hsa : s2.getD a false
                · have HN : Hid (FMid nx K d 0 s (a + 1) 0 ag2 s2) := HMK.out.next (Or.inr hsa)
                  rw [hsa] at csa
                  clear hsa hmid hrow hgr hBK
                  go_wp2
                  go_roundw
                  case rel => exact ⟨a + 1, ag2, s2, by omega, by go_num, rfl, HN.out, HRK.out, HGK.out⟩
                  case measure => simp [intOf]; omega
                · have HSA : Hid (s2.getD a false = true) := hsa
                  rw [hsa] at csa
                  have hhI : (h : Int) < K := by omega
                  have csh := bool_cell hrow hl2 h hhK
                  clear hsa hmid hgr hBK
                  by_cases hhd : h = d
                  · have HN : Hid (FMid nx K d 0 s a (c + 1) ag2 s2) := HMK.out.skip hnx (Or.inl hhd)
                    have hne : ((h : Int) != (d : Int)) = false := by rw [hhd]; simp
                    clear hrow hhd csh hnx
                    go_wp2
                    go_roundw
                    case rel => exact ⟨c + 1, ag2, s2, by omega, by go_num, rfl, HN.out, HRK.out, HGK.out⟩
                    case measure => simp [intOf]; omega
                  · have hne : ((h : Int) != (d : Int)) = true := by rw [bne_iff_ne]; omega
                    cases hsh : s2.getD h false
                    · have HN : Hid (FMid nx K d 0 s a (c + 1) true (s2.set h true)) := HMK.out.mark HSA.out hnx hhd hhK hsh
                      have HS2 := bool_store hrow h true
                      have cf := hrow.frozenAt h
                      have HX1 : Hid (BoolRow (wk.setCell ⟨G, h, none⟩ (.bool true)) G K (s2.set h true)) := HS2.1
                      have HX2 : Hid (w1.grownBy (wk.setCell ⟨G, h, none⟩ (.bool true)) (some G)) := gb_trans HGK.out HS2.2
                      rw [hsh] at csh
                      clear hrow hhd hnx HS2 hsh
                      go_wp2
                      go_roundw
                      case rel => exact ⟨c + 1, true, _, by omega, by go_num, rfl, HN.out, HX1.out, HX2.out⟩
                      case measure => simp [intOf]; omega
                    · have HN : Hid (FMid nx K d 0 s a (c + 1) ag2 s2) := HMK.out.skip hnx (Or.inr hsh)
                      rw [hsh] at csh
                      clear hrow hhd hnx hsh
                      go_wp2
                      go_roundw
                      case rel => exact ⟨c + 1, ag2, s2, by omega, by go_num, rfl, HN.out, HRK.out, HGK.out⟩
                      case measure => simp [intOf]; omega
              · have hcN : ¬ ((c : Int) < nn) := by omega
                have HN : Hid (FMid nx K d 0 s (a + 1) 0 ag2 s2) := HMK.out.next (Or.inl (by omega))
                clear hmid hrow hgr hBK
                go_wp2
                go_roundw
                case rel => exact ⟨a + 1, ag2, s2, by omega, by go_num, rfl, HN.out, HRK.out, HGK.out⟩
                case measure => simp [intOf]; omega
          · have haN : ¬ ((a : Int) < K) := by omega
            obtain rfl : a = K := by omega
            have HE := HMI.out.ends
            have HEH : Hid _ := HE
            clear HE
            go_wp2
            go_roundg (unseen s' + (if ag' = true then 1 else 0))
            case measure => rw [HM.out, if_pos trivial]; exact HEH.out.2
            case rel => exact ⟨ag', s', rfl, rfl, HEH.out.1, HRI.out, HGI.out⟩

def StandsPost (pv : Nat → List Nat) (a b : Nat) (w : World) (e : Ending) (w' : World) : Prop := ∃ bb : Bool, e = .returned (.bool bb) ∧ (bb = true ↔ Dom pv a b) ∧ Below w.heap.size w w'
set_option maxRecDepth 100000 in
theorem standsAbove_any (P : List Fn) (f : Fn) (ok : FlowOk P f) (S : List Nat) (T : Nat → Nat) (hO : BlkOk f S T) (a b : Nat) (hb : b < S.length) (v : Value) (w : World) (hbv : BlocksVal w v f S T) :
    Calls Tryd.prog 45 #[v, .int .i64 a, .int .i64 b] w fun e w' => StandsPost (pvN f S T) a b w e w' := by
  have hC := without_any P f ok S T hO a v w hbv
  obtain ⟨g, cap, VV, rfl, -⟩ := hbv
  have hSL := starts_len ok hO.starts
  have hl2 := ok.ok.len2
  clear hO ok
  generalize pvN f S T = pv at *
  generalize S.length = K at *
  by_cases hab : a = b
  · have hae : ((a : Int) == (b : Int)) = true := by rw [hab]; simp
    have HX : Hid (Dom pv a b) := by show _; rw [hab]; exact Dom.self pv b
    clear hab
    go_enter Tryd.func45, Tryd.ntmps45
    go_wp2
    go_ret
    exact ⟨true, rfl, ⟨fun _ => HX.out, fun _ => rfl⟩, Below.refl _ _⟩
  · have hae : ((a : Int) == (b : Int)) = false := by rw [beq_eq_false_iff_ne]; omega
    have hbI : (b : Int) < K := by omega
    clear hab
    go_enter Tryd.func45, Tryd.ntmps45
    go_upto_region 4 with (go_at_call 48; refine hC.mono ?_; rintro e w1 ⟨G, s, rfl, hrow, hls, hiff, -, hb1⟩)
    have cb := bool_cell hrow hls b hb
    have HX : Hid (s.getD b false = true ↔ WayB pv a b) := hiff b
    generalize s.getD b false = bb at *
    clear hiff hrow hC
    go_wp2
    go_ret
    refine ⟨!bb, rfl, ?_, hb1⟩
    have h := HX.out
    unfold Dom
    cases bb
    · simp at h ⊢; exact h
    · simp at h ⊢; exact h

set_option maxRecDepth 100000 in
set_option maxHeartbeats 8000000 in
theorem comesTo_any (P : List Fn) (f : Fn) (ok : FlowOk P f) (S : List Nat) (T : Nat → Nat) (hO : BlkOk f S T) (b0 c0 d : Nat) (hb0 : b0 < S.length) (hc0 : c0 < S.length) (v : Value) (w : World) (hbv : BlocksVal w v f S T) :
    Calls Tryd.prog 46 #[v, .int .i64 b0, .int .i64 c0, .int .i64 d] w fun e w' => ComesPost (pvN f S T) d c0 b0 w e w' := by
  obtain ⟨iB, hiB, hzB0, hzB1, hzB2⟩ := info_parts infoBool
  obtain ⟨g, cap, VV, rfl, hB⟩ := hbv
  have hSL := starts_len ok hO.starts
  have hl2 := ok.ok.len2
  obtain ⟨hS0, -⟩ := hO.starts.first
  have HNL : Hid (∀ b p, b < S.length → p ∈ nxN f S T b → p < S.length) := fun b p hb hp => hO.nxN_lt ok hb hp
  have HBK : Hid (∀ a, a < S.length → ∃ na nb noff nn ncap, VV (2 * a) = .slice na nn ncap ∧ nn ≤ ncap ∧ ncap ≤ 9223372036854775807 ∧ (nxN f S T a).length = nn ∧ (∀ W, Below w.heap.size w W → W.cell? ⟨g, a * 4 + 2, none⟩ = some (.slice na nn ncap)) ∧ ∀ c, c < nn → ∃ h, na = some ⟨nb, noff, none⟩ ∧ (nxN f S T a)[c]? = some h ∧ h < S.length ∧ ∀ W, Below w.heap.size w W → W.cell? ⟨nb, noff + c, none⟩ = some (.int .i64 ((h : Nat) : Int))) := fun a ha => by
    have hI := (hB.lists a ha).1
    rw [nxN_nxI] at hI
    obtain ⟨na, nb, noff, nn, ncap, hv, hl, hna, hc, hcp, hm⟩ := ints_get hI
    rw [List.length_map] at hl
    refine ⟨na, nb, noff, nn, ncap, hv, hcp, hm, hl, fun W hW => ?_, fun c hcn => ?_⟩
    · rw [← hv]; exact keeps_below hW _ _ (hB.cells a ha).2.2.1
    · have hcl : c < (nxN f S T a).length := by omega
      refine ⟨(nxN f S T a)[c], hna (by omega), List.getElem?_eq_getElem hcl, hO.nxN_lt ok ha (List.getElem_mem hcl), fun W hW => ?_⟩
      refine keeps_below hW _ _ ?_
      rw [hc c hcn]; simp [List.getD, hcl]
  have hcap1 := hB.cap1
  have hcap2 := hB.cap2
  have HWW : Hid (WayF (nxN f S T) d b0 c0 ↔ Back (pvN f S T) d c0 b0) := wayF_back ok hO hb0
  have hm0 := made_false S.length
  clear hB hO ok
  generalize pvN f S T = pv at *
  generalize nxN f S T = nx at *
  generalize S.length = K at *
  by_cases hbd : b0 = d
  · have hbe : ((b0 : Int) == (d : Int)) = true := by rw [hbd]; simp
    have HN : Hid (¬ b0 ≠ d) := fun h => h hbd
    clear hbd
    go_enter Tryd.func46, Tryd.ntmps46
    go_wp2
    go_ret
    exact ⟨false, rfl, fun h => absurd h HN.out, Below.refl _ _⟩
  have hbe : ((b0 : Int) == (d : Int)) = false := by rw [beq_eq_false_iff_ne]; omega
  by_cases hcd : c0 = d
  · have hce : ((c0 : Int) == (d : Int)) = true := by rw [hcd]; simp
    have HN : Hid (¬ Back pv d c0 b0) := fun h => by
      rw [hcd] at h
      have key : ∀ z, Back pv d d z → z = d := fun z hz => by
        induction hz with
        | here => rfl
        | up _ hn _ ih => exact absurd ih hn
      exact hbd (key b0 h)
    clear hcd
    go_enter Tryd.func46, Tryd.ntmps46
    go_wp2
    go_ret
    exact ⟨false, rfl, fun _ => ⟨(fun h => by cases h), fun h => absurd h HN.out⟩, Below.refl _ _⟩
  have hce : ((c0 : Int) == (d : Int)) = false := by rw [beq_eq_false_iff_ne]; omega
  have hst : b0 < K := hb0
  have hstI : (b0 : Int) < K := by omega
  clear hbd hcd
  go_enter Tryd.func46, Tryd.ntmps46
  go_upto_region 4 with (at_make; refine wpList_make_full _ rfl (.tmp 23) (.tmp 23) 77 rfl 0 4 iB _ 1 Tryd.underlying77 hiB hzB0 hzB1 .i64 .i64 _ _ K rfl rfl (by simp) (by simp) (by rw [hzB2]; omega) (by unfold maxLen; omega) (Nat.zero_le _) ?_; intro wm hown1 hg1; rw [hm0] at hown1)
  have hbm : Below w.heap.size w wm := below_grown hg1
  have hzm : w.heap.size < wm.heap.size := (World.ownsRow.lt hown1 w.heap.size rfl).2
  have HR0 : Hid (BoolRow wm w.heap.size K (List.replicate K false)) := hown1
  have cs0 := bool_cell HR0.out (by simp) b0 hst
  have cf0 := HR0.out.frozenAt b0
  have HS0 := bool_store HR0.out b0 true
  have HRW0 : Hid (BoolRow (wm.setCell ⟨w.heap.size, b0, none⟩ (.bool true)) w.heap.size K ((List.replicate K false).set b0 true)) := HS0.1
  have HB1 : Hid (Below w.heap.size w (wm.setCell ⟨w.heap.size, b0, none⟩ (.bool true))) := below_gb hbm HS0.2 (Nat.le_refl _) (by omega)
  have hGw : w.heap.size ≤ w.heap.size := Nat.le_refl _
  clear hown1 hg1 hbm HS0
  generalize hG : w.heap.size = G at *
  have HG : Hid (w.heap.size = G) := hG
  go_wp2
  clear cs0 cf0
  have hz1 : w.heap.size ≤ (wm.setCell ⟨G, b0, none⟩ (.bool true)).heap.size := by simp; omega
  generalize wm.setCell ⟨G, b0, none⟩ (.bool true) = w1 at *
  clear hG
  rw [← HG.out] at HB1 HBK
  clear hGw
  have hGw : w.heap.size ≤ G := by rw [HG.out]; exact Nat.le_refl _
  go_loopg [10] (unseen ((List.replicate K false).set b0 true) + 1) (fun m ag wl => ∃ (again : Bool) (s : List Bool), m = unseen s + (if again = true then 1 else 0) ∧ ag = .bool again ∧ FLoops nx K d b0 again s ∧ BoolRow wl G K s ∧ w1.grownBy wl (some G))
  case atStart => exact ⟨true, _, rfl, rfl, ⟨FInv.first nx hst, fun h => by cases h⟩, HRW0.out, gb_refl _ _⟩
  case round =>
    rename World => wc
    obtain ⟨again, s, hms, rfl, hlp, hrow, hgr⟩ := hrel
    have HM : Hid (gk = unseen s + (if again = true then 1 else 0)) := hms
    have HLP : Hid (FLoops nx K d b0 again s) := hlp
    have HRW : Hid (BoolRow wc G K s) := hrow
    have HGR : Hid (w1.grownBy wc (some G)) := hgr
    have hls : s.length = K := hlp.1.len
    clear hms hlp hrow hgr
    cases again
    · have HDN : Hid (∀ b, s.getD b false = true ↔ WayF nx d b0 b) := fun b => HLP.out.done hst HNL.out b
      have HBC : Hid (Below w.heap.size w wc) := below_gb HB1.out HGR.out hGw (by omega)
      have ct := bool_cell HRW.out hls c0 hc0
      have hcI0 : (c0 : Int) < K := by omega
      have HX : Hid (s.getD c0 false = true ↔ Back pv d c0 b0) := (HDN.out c0).trans HWW.out
      generalize hbb : s.getD c0 false = bb at *
      clear hbb
      go_wp2
      go_ret
      exact ⟨bb, rfl, fun _ => HX.out, HBC.out⟩
    · go_wp2
      go_loopw [10, 11] (fun ag i wl => ∃ (a : Nat) (ag' : Bool) (s' : List Bool), a ≤ K ∧ i = .int .i64 a ∧ ag = .bool ag' ∧ FMid nx K d b0 s a 0 ag' s' ∧ BoolRow wl G K s' ∧ w1.grownBy wl (some G)) (fun _ i _ => K - (intOf i).toNat)
      case atStart => exact ⟨0, false, s, Nat.zero_le _, rfl, rfl, FMid.start HLP.out.1, HRW.out, HGR.out⟩
      case round =>
        rename World => wi
        obtain ⟨a, ag', s', ha, rfl, rfl, hmid, hrow, hgr⟩ := hrel
        have HMI : Hid (FMid nx K d b0 s a 0 ag' s') := hmid
        have HRI : Hid (BoolRow wi G K s') := hrow
        have HGI : Hid (w1.grownBy wi (some G)) := hgr
        clear hmid hrow hgr
        by_cases hla : a < K
        · have haI : (a : Int) < K := by omega
          obtain ⟨na, nb, noff, nn, ncap, hnn, hnc, hnm, hnl, hcc2, hcel⟩ := HBK.out a hla
          go_wp2
          go_loopw [10, 12] (fun ag i wl => ∃ (c : Nat) (ag2 : Bool) (s2 : List Bool), c ≤ nn ∧ i = .int .i64 c ∧ ag = .bool ag2 ∧ FMid nx K d b0 s a c ag2 s2 ∧ BoolRow wl G K s2 ∧ w1.grownBy wl (some G)) (fun _ i _ => nn - (intOf i).toNat)
          case atStart => exact ⟨0, ag', s', Nat.zero_le _, rfl, rfl, HMI.out, HRI.out, HGI.out⟩
          case round =>
            clear HMI HRI HGI
            rename World => wk
            obtain ⟨c, ag2, s2, hc, rfl, rfl, hmid, hrow, hgr⟩ := hrel
            have HMK : Hid (FMid nx K d b0 s a c ag2 s2) := hmid
            have HRK : Hid (BoolRow wk G K s2) := hrow
            have HGK : Hid (w1.grownBy wk (some G)) := hgr
            have hl2 : s2.length = K := hmid.inv.len
            have hBK : Below w.heap.size w wk := below_gb HB1.out hgr hGw (by omega)
            have c2 := hcc2 wk hBK
            have csa := bool_cell hrow hl2 a hla
            by_cases hlc : c < nn
            · have hcI : (c : Int) < nn := by omega
              obtain ⟨h, hna, hnx, hhK, hch⟩ := hcel c hlc
              subst hna
              have ch := hch wk hBK
              cases hsa : s2.getD a false
              · have HN : Hid (FMid nx K d b0 s (a + 1) 0 ag2 s2) := HMK.out.next (Or.inr hsa)
                rw [hsa] at csa
                clear hsa hmid hrow hgr hBK
                go_wp2
                go_roundw
                case rel => exact ⟨a + 1, ag2, s2, by omega, by go_num, rfl, HN.out, HRK.out, HGK.out⟩
                case measure => simp [intOf]; omega
              · have HSA : Hid (s2.getD a false = true) := hsa
                rw [hsa] at csa
                have hhI : (h : Int) < K := by omega
                have csh := bool_cell hrow hl2 h hhK
                clear hsa hmid hgr hBK
                by_cases hhd : h = d
                · have HN : Hid (FMid nx K d b0 s a (c + 1) ag2 s2) := HMK.out.skip hnx (Or.inl hhd)
                  have hne : ((h : Int) != (d : Int)) = false := by rw [hhd]; simp
                  clear hrow hhd csh hnx
                  go_wp2
                  go_roundw
                  case rel => exact ⟨c + 1, ag2, s2, by omega, by go_num, rfl, HN.out, HRK.out, HGK.out⟩
                  case measure => simp [intOf]; omega
                · have hne : ((h : Int) != (d : Int)) = true := by rw [bne_iff_ne]; omega
                  cases hsh : s2.getD h false
                  · have HN : Hid (FMid nx K d b0 s a (c + 1) true (s2.set h true)) := HMK.out.mark HSA.out hnx hhd hhK hsh
                    have HS2 := bool_store hrow h true
                    have cf := hrow.frozenAt h
                    have HX1 : Hid (BoolRow (wk.setCell ⟨G, h, none⟩ (.bool true)) G K (s2.set h true)) := HS2.1
                    have HX2 : Hid (w1.grownBy (wk.setCell ⟨G, h, none⟩ (.bool true)) (some G)) := gb_trans HGK.out HS2.2
                    rw [hsh] at csh
                    clear hrow hhd hnx HS2 hsh
                    go_wp2
                    go_roundw
                    case rel => exact ⟨c + 1, true, _, by omega, by go_num, rfl, HN.out, HX1.out, HX2.out⟩
                    case measure => simp [intOf]; omega
                  · have HN : Hid (FMid nx K d b0 s a (c + 1) ag2 s2) := HMK.out.skip hnx (Or.inr hsh)
                    rw [hsh] at csh
                    clear hrow hhd hnx hsh
                    go_wp2
                    go_roundw
                    case rel => exact ⟨c + 1, ag2, s2, by omega, by go_num, rfl, HN.out, HRK.out, HGK.out⟩
                    case measure => simp [intOf]; omega
            · have hcN : ¬ ((c : Int) < nn) := by omega
              have HN : Hid (FMid nx K d b0 s (a + 1) 0 ag2 s2) := HMK.out.next (Or.inl (by omega))
              clear hmid hrow hgr hBK
              go_wp2
              go_roundw
              case rel => exact ⟨a + 1, ag2, s2, by omega, by go_num, rfl, HN.out, HRK.out, HGK.out⟩
              case measure => simp [intOf]; omega
        · have haN : ¬ ((a : Int) < K) := by omega
          obtain rfl : a = K := by omega
          have HE := HMI.out.ends
          have HEH : Hid _ := HE
          clear HE
          go_wp2
          go_roundg (unseen s' + (if ag' = true then 1 else 0))
          case measure => rw [HM.out, if_pos trivial]; exact HEH.out.2
          case rel => exact ⟨ag', s', rfl, rfl, HEH.out.1, HRI.out, HGI.out⟩
end Go.Proofs.YteilohamjijpbaaDoor
