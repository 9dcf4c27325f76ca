/- Contract of the document's answer to P3.3 (tierlineref.Proven). -/
import Derived.Test.YtiaammieldfkcaaDoorGroupC
import Derived.Deep.RegionHeld3
import Derived.BigRegion
namespace Go.Proofs.YtiaammieldfkcaaDoor
open Go Go.RowKit

theorem bad_yes {P : List Fn} {m : Nat} {x : Ins} {e : Nat} (he : e < (readsL P x).length) (h : hasB m ((readsL P x)[e]).toNat = false) : badB P (m : Int) x = true := by
  unfold badB
  have hd : decide (0 ≤ (m : Int)) = true := by simp
  rw [hd, Bool.true_and, List.any_eq_true]
  exact ⟨_, List.getElem_mem he, by simp [h]⟩
theorem bad_no {P : List Fn} {m : Nat} {x : Ins} (h : ∀ e (he : e < (readsL P x).length), hasB m ((readsL P x)[e]).toNat = true) : badB P (m : Int) x = false := by
  unfold badB
  have hd : decide (0 ≤ (m : Int)) = true := by simp
  rw [hd, Bool.true_and, List.any_eq_false]
  intro r hr
  obtain ⟨e, he, rfl⟩ := List.getElem_of_mem hr
  simp [h e he]
theorem bad_minus (P : List Fn) (x : Ins) : badB P (-1) x = false := rfl

set_option maxHeartbeats 4000000 in
set_option maxRecDepth 100000 in
theorem proven_any (P : List Fn) (v : Value) (w : World) (hv : ProgVal w v P) :
    Calls Tryd.prog 35 #[.agg #[v]] w fun e w' => ∃ E, e = .returned (.int .i64 E) ∧ ProofAns P E ∧ Below w.heap.size w w' := by
  have hbx : ∀ o, Below w.heap.size w (w.alloc o) := fun o => (Below.refl _ _).alloc (Nat.le_refl _) _
  have hC := fun o => programFault_any P v (w.alloc o) (hv.keeps (keeps_below (hbx o)))
  rw [← prog_same] at hC
  by_cases h0 : codeProg P = 0
  · have HANS : Hid (∀ E, ChecksTo P P E → ProofAns P E) := fun E h => Or.inr ⟨h0, h⟩
    have HPV : Hid (∀ W, Below w.heap.size w W → ProgVal W v P) := fun W hb => hv.keeps (keeps_below hb)
    rw [h0] at hC
    have hp1 := (codeProg_zero h0).1
    have hp4 := (codeProg_zero h0).2.1
    obtain ⟨ao, b, off, N, cap, rfl, ⟨hlen, haddr, hat⟩, hcap, hmax⟩ := hv
    obtain rfl := haddr (by omega)
    have HN : Hid (P.length = N) := hlen
    rw [hlen] at hp1 hp4
    unfold maxLen at hmax
    have HAT : Hid (∀ k (h : k < P.length), ∃ u, FnAt w b (off + k * 3) P[k] u) := hat
    have HOK : Hid (∀ k (h : k < P.length), FnOk P[k] ∧ ∀ x ∈ P[k].code, InsOk P x ∧ (x.op = 15 ∨ x.op = 16 → 0 ≤ x.imm)) := fun k h => fnOk_of h0 (List.getElem_mem h)
    have HSN : Hid (∀ k (h : k < P.length), SoFar P k → ProvesTo P P[k] 0 → SoFar P (k + 1)) := fun k h a b => soFar_next a h b
    have HSB : Hid (∀ k (h : k < P.length) e, SoFar P k → ProvesTo P P[k] e → e ≠ 0 → ChecksTo P P e) := fun k h e a b c => soFar_bad a h b c
    have HSE : Hid (∀ k, SoFar P k → N ≤ k → ChecksTo P P 0) := fun k a b => soFar_end a (by omega)
    clear hat haddr h0 hlen
    go_enter Tryd.func35, Tryd.ntmps35
    go_wp2_with (go_at_call 47; refine (hC _).mono ?_; rintro e w1 ⟨rfl, hb1⟩; have k0 := keeps_below hb1 ⟨w.heap.size, 0, none⟩ (.slice (some ⟨b, off, none⟩) N cap) (by simp); have HB1 : Hid (Below w.heap.size w w1) := ((Below.refl _ _).alloc (Nat.le_refl _) _).trans (hb1.mono (by simp)); have hz1 : w.heap.size < w1.heap.size := (by have := hb1.size; simp at this; omega); clear hb1)
    go_loopw [4] (fun i wr => ∃ k : Nat, k ≤ N ∧ i = .int .i64 k ∧ SoFar P k ∧ Below w1.heap.size w1 wr) (fun i _ => N - (intOf i).toNat)
    case atStart => exact ⟨0, Nat.zero_le _, rfl, soFar_zero P, Below.refl _ _⟩
    case round =>
      rename World => wa
      obtain ⟨k, hk, rfl, hsf, hbr⟩ := hrel
      have j0 := keeps_below hbr _ _ k0
      have hzr : w1.heap.size ≤ wa.heap.size := hbr.size
      have hzz : w.heap.size < wa.heap.size := by omega
      have HSF : Hid (SoFar P k) := hsf
      have HBR : Hid (Below w1.heap.size w1 wa) := hbr
      have HBW : Hid (Below w.heap.size w wa) := HB1.out.trans (hbr.mono (by omega))
      clear hsf hbr
      by_cases hlt : k < N
      · have hkx : k < P.length := by rw [HN.out]; exact hlt
        obtain ⟨u, hfn⟩ := HAT.out k hkx
        obtain ⟨d0, d1, d2, hu⟩ := hfn.keeps (keeps_below HBW.out)
        obtain ⟨hfo, hfi⟩ := HOK.out k hkx
        have hsn := HSN.out k hkx
        have hsb := HSB.out k hkx
        generalize P[k] = f at d0 d1 hu hfo hfi hsn hsb hfn
        clear hfn
        have hl1 := hfo.len1
        have hl2 := hfo.len2
        have hso := fun W cv (hcv : CodeVal W cv f.code) => sureOf_any P f hfo hfi cv W hcv
        have hua := fun o => hu.keeps (keeps_below ((Below.refl _ wa).alloc (Nat.le_refl _) o))
        obtain ⟨ao1, b1, off1, n, cap1, rfl, ⟨hln, had1, hat1⟩, hcp1, hmx1⟩ := hu
        obtain rfl := had1 (by omega)
        have HLN : Hid (f.code.length = n) := hln
        have HAT1 : Hid (∀ q (h : q < f.code.length), insAt wa b1 (off1 + q * 5) f.code[q]) := hat1
        have HINS : Hid (∀ q (h : q < f.code.length), InsOk P f.code[q]) := fun q h => (hfi _ (List.getElem_mem h)).1
        have HSNN : Hid (SoFar P k → ProvesTo P f 0 → SoFar P (k + 1)) := hsn
        have HSBB : Hid (∀ e, SoFar P k → ProvesTo P f e → e ≠ 0 → ChecksTo P P e) := hsb
        have HBAD : Hid (∀ L q, q < n → badB P (L.getD q 0) (insD f q) = true → proveE P f L = 6) := fun L q hq h => prove_bad (by omega) h
        have HGOOD : Hid (∀ L, (∀ q, q < n → badB P (L.getD q 0) (insD f q) = false) → proveE P f L = if L.getD n 0 = -1 then 0 else 7) := fun L h => by
          have := prove_good (P := P) (f := f) (L := L) (fun q hq => h q (by omega))
          rw [hln] at this
          exact this
        have HNUM : Hid (∀ L q, SureSpec f L → q < n + 1 → SureNum (L.getD q 0)) := fun L q h hq => h.num q (by omega)
        have HLEN : Hid (∀ L, SureSpec f L → L.length = n + 1) := fun L h => by rw [← hln]; exact h.1
        rw [hln] at hl1 hl2
        have hkI : (k : Int) < N := by omega
        have hcp := hcp1.1
        unfold maxLen at hmx1
        clear hsn hsb hln hat1 had1 hfi hfo hcp1
        go_wp2_with (go_at_call 48; refine (hso _ _ (hua _)).mono ?_; rintro e w2 ⟨v2, L, rfl, hsp, hI, hb2⟩; obtain ⟨ao2, b2, off2, n2, cap2, rfl, hl2', ha2, hc2, hcp2, hm2⟩ := ints_get hI; have hn2 : n2 = n + 1 := (hl2'.symm.trans (HLEN.out L hsp)); subst hn2; obtain rfl := ha2 (by omega); have HSP : Hid (SureSpec f L) := hsp; have HC2 : Hid (∀ q, q < n + 1 → w2.cell? ⟨b2, off2 + q, none⟩ = some (.int .i64 (L.getD q 0))) := hc2; have q0 := keeps_below hb2 _ _ (cell_alloc j0 _); have q2 := keeps_below hb2 _ _ (way_box wa _ _ 2 (.slice (some ⟨b1, off1, none⟩) n cap1) rfl); have HB2 : Hid (Below wa.heap.size wa w2) := ((Below.refl _ _).alloc (Nat.le_refl _) _).trans (hb2.mono (by simp)); have hz2 : wa.heap.size < w2.heap.size := (by have := hb2.size; simp at this; omega); clear hsp hl2' ha2 hc2 hb2 hI)
        have HBW2 : Hid (Below w.heap.size w w2) := below_call HBW.out (by omega) HB2.out
        clear hua hso d0 d1 d2
        go_loopw [7] (fun i wr => ∃ q : Nat, q ≤ n ∧ i = .int .i64 q ∧ (∀ j, j < q → badB P (L.getD j 0) (insD f j) = false) ∧ Below w2.heap.size w2 wr) (fun i _ => n - (intOf i).toNat)
        case atStart => exact ⟨0, Nat.zero_le _, rfl, fun j h => by omega, Below.refl _ _⟩
        case round =>
          rename World => wb
          obtain ⟨q, hq, rfl, hgood, hbb⟩ := hrel
          have r0 := keeps_below hbb _ _ q0
          have r2 := keeps_below hbb _ _ q2
          have hzb : w2.heap.size ≤ wb.heap.size := hbb.size
          have HGD : Hid (∀ j, j < q → badB P (L.getD j 0) (insD f j) = false) := hgood
          have HBB : Hid (Below w2.heap.size w2 wb) := hbb
          have HBWB : Hid (Below w.heap.size w wb) := HBW2.out.trans (hbb.mono (by omega))
          clear hgood
          by_cases hqn : q < n
          · have hqx : q < f.code.length := by rw [HLN.out]; exact hqn
            obtain ⟨g0, g1, g2, g3, g4⟩ := ((HAT1.out q hqx).keeps (keeps_below HB2.out)).keeps (keeps_below hbb)
            have hio := HINS.out q hqx
            have HX : Hid (insD f q = f.code[q]) := insD_eq hqx
            have cz := keeps_below hbb _ _ (HC2.out q (by omega))
            have hnum := HNUM.out L q HSP.out (by omega)
            have HZZ : Hid (L.getD q 0 = L.getD q 0) := rfl
            obtain ⟨z, hz⟩ : ∃ z, z = L.getD q 0 := ⟨_, rfl⟩
            rw [← hz] at cz hnum
            have HZ : Hid (z = L.getD q 0) := hz
            clear hz HZZ
            generalize f.code[q] = x at g0 g1 g2 g3 g4 hio HX
            have hro := fun W hW => readsOf_any P (.slice (some ⟨b, off, none⟩) N cap) x W hW hio
            have hsm := readsL_small hio
            have hPd1 : ProgVal wb.drew (.slice (some ⟨b, off, none⟩) N cap) P := (HPV.out wb HBWB.out).keeps fun _ _ h => h
            have HYES : Hid (∀ m : Nat, z = m → ∀ e (he : e < (readsL P x).length), hasB m ((readsL P x)[e]).toNat = false → badB P (L.getD q 0) (insD f q) = true) := fun m hm e he h => by rw [← HZ.out, hm, HX.out]; exact bad_yes he h
            have HNO : Hid (∀ m : Nat, z = m → (∀ e (he : e < (readsL P x).length), hasB m ((readsL P x)[e]).toNat = true) → badB P (L.getD q 0) (insD f q) = false) := fun m hm h => by rw [← HZ.out, hm, HX.out]; exact bad_no h
            have HMI : Hid (z = -1 → badB P (L.getD q 0) (insD f q) = false) := fun hm => by rw [← HZ.out, hm]; exact bad_minus _ _
            generalize readsL P x = R at hro hsm HYES HNO
            have HSM : Hid (∀ r ∈ R, 0 ≤ r ∧ r < 12) := hsm
            obtain ⟨op, dst, xa, xb, imm⟩ := x
            unfold Ins.val at hro
            dsimp only at g0 g1 g2 g3 g4
            have hqI : (q : Int) < n := by omega
            clear hsm hio hbb
            go_wp2_with fail
            go_region_held3 (fun w' => w'.cell? ⟨w.heap.size, 0, none⟩ = some (.slice (some ⟨b, off, none⟩) N cap) ∧ w'.cell? ⟨wa.heap.size, 2, none⟩ = some (.slice (some ⟨b1, off1, none⟩) n cap1) ∧ w'.cell? ⟨b1, off1 + q * 5, none⟩ = some (.int .i64 op) ∧ w'.cell? ⟨b1, off1 + q * 5 + 1, none⟩ = some (.int .i64 dst) ∧ w'.cell? ⟨b1, off1 + q * 5 + 2, none⟩ = some (.int .i64 xa) ∧ w'.cell? ⟨b1, off1 + q * 5 + 3, none⟩ = some (.int .i64 xb) ∧ w'.cell? ⟨b1, off1 + q * 5 + 4, none⟩ = some (.int .i64 imm)) (go_keep) ((go_at_call 49; refine (hro _ hPd1).mono ?_; rintro e w3 ⟨v3, rfl, hown3, hb3⟩; obtain ⟨ao3, b3, off3, n3, cap3, rfl, hl3, ha3, hc3, hcp3, hmx3⟩ := ints_of_own hown3; have s0 := keeps_below hb3 _ _ r0; have s2 := keeps_below hb3 _ _ r2; have s3 := keeps_below hb3 _ _ g0; have s4 := keeps_below hb3 _ _ g1; have s5 := keeps_below hb3 _ _ g2; have s6 := keeps_below hb3 _ _ g3; have s7 := keeps_below hb3 _ _ g4))
            have HL3 : Hid (R.length = n3) := hl3
            have HA3 : Hid (0 < n3 → ao3 = some ⟨b3, off3, none⟩) := ha3
            have HC3 : Hid (∀ j (h : j < R.length), w3.cell? ⟨b3, off3 + j, none⟩ = some (.int .i64 R[j])) := hc3
            have HB3 : Hid (Below w2.heap.size w2 w3) := HBB.out.drew.trans (hb3.mono (by simpa using hzb))
            have c3 := keeps_below hb3 _ _ cz
            have hcp3' := hcp3.1
            unfold maxLen at hmx3
            rename_i hHeld
            clear hl3 ha3 hc3 hcp3 hHeld s3 s4 s5 s6 s7 g0 g1 g2 g3 g4 r0 r2 hb3 hown3 hro hPd1 cz
            go_wp2
            go_loopw [9] (fun i wr => ∃ e : Nat, e ≤ n3 ∧ i = .int .i64 e ∧ (∀ m : Nat, z = m → ∀ j (h : j < R.length), j < e → hasB m (R[j]).toNat = true) ∧ Below w3.heap.size w3 wr) (fun i _ => n3 - (intOf i).toNat)
            case atStart => exact ⟨0, Nat.zero_le _, rfl, fun _ _ j _ h => by omega, Below.refl _ _⟩
            case round =>
              obtain ⟨e, he, rfl, hall, hbw⟩ := hrel
              have HALL : Hid (∀ m : Nat, z = m → ∀ j (h : j < R.length), j < e → hasB m (R[j]).toNat = true) := hall
              have HBX : Hid (Below w3.heap.size w3 wr) := hbw
              have cz := keeps_below hbw _ _ c3
              have HBXX : Hid (Below w2.heap.size w2 wr) := HB3.out.trans (hbw.mono (by have := HB3.out.size; omega))
              clear hall
              by_cases hle : e < n3
              · obtain rfl := HA3.out (by omega)
                have heR : e < R.length := by rw [HL3.out]; exact hle
                have cr := keeps_below hbw _ _ (HC3.out e heR)
                obtain ⟨r0, r1⟩ := HSM.out R[e] (List.getElem_mem heR)
                have heI : (e : Int) < n3 := by omega
                have hqI2 : (q : Int) < n + 1 := by omega
                rcases hnum with hm | ⟨z0, z1⟩
                · subst hm
                  generalize R[e] = rr at cr r0 r1
                  clear hbw
                  go_wp2
                  go_quiet (fail)
                  go_wp2
                  go_roundw
                  case rel => exact ⟨e + 1, by omega, by go_num, fun m hm => by omega, below_drewN HBX.out _⟩
                  case measure => simp [intOf]; omega
                · obtain ⟨m, rfl⟩ := Int.eq_ofNat_of_zero_le z0
                  have hhb := fun W => hasBit_int m R[e] _ W (by omega) r0 r1 rfl
                  have HYE := HYES.out m rfl e heR
                  have HNX : Hid (hasB m (R[e]).toNat = true → ∀ m' : Nat, (m : Int) = m' → ∀ j (h : j < R.length), j < e + 1 → hasB m' (R[j]).toNat = true) := fun h m' hm j hj hlt => by
                    rcases Nat.lt_or_ge j e with h1 | h1
                    · exact HALL.out m' hm j hj h1
                    · obtain rfl : j = e := by omega
                      obtain rfl : m = m' := by omega
                      exact h
                  have HYE2 : Hid (hasB m (R[e]).toNat = false → badB P (L.getD q 0) (insD f q) = true) := HYE
                  generalize hasB m (R[e]).toNat = hb at hhb HNX HYE2
                  generalize R[e] = rr at cr r0 r1 hhb
                  clear hbw HYE
                  cases hb
                  · go_wp2
                    go_quiet ((go_at_call 50; exact Calls.quiet_of_same (hhb _)))
                    go_wp2
                    go_ret
                    exact ⟨6, rfl, HANS.out 6 (HSBB.out 6 HSF.out ⟨L, HSP.out, (HBAD.out L q hqn (HYE2.out (by first | rfl | trivial))).symm⟩ (by decide)), below_drewN (HBW2.out.trans (HBXX.out.mono (by omega))) _⟩
                  · go_wp2
                    go_quiet ((go_at_call 50; exact Calls.quiet_of_same (hhb _)))
                    go_wp2
                    go_roundw
                    case rel => exact ⟨e + 1, by omega, by go_num, HNX.out (by first | rfl | trivial), below_drewN HBX.out _⟩
                    case measure => simp [intOf]; omega
              · obtain rfl : e = n3 := by omega
                have HFIN : Hid (badB P (L.getD q 0) (insD f q) = false) := by
                  rcases hnum with hm | ⟨z0, z1⟩
                  · exact HMI.out hm
                  · obtain ⟨m, hm⟩ := Int.eq_ofNat_of_zero_le z0
                    exact HNO.out m hm fun j hj => HALL.out m hm j hj (by have := HL3.out; omega)
                clear hbw
                go_wp2
                go_roundw
                case rel => exact ⟨q + 1, by omega, by go_num, fun j hj => by
                    rcases Nat.lt_or_ge j q with h | h
                    · exact HGD.out j h
                    · obtain rfl : j = q := by omega
                      exact HFIN.out, HBXX.out⟩
                case measure => simp [intOf]; omega
          · obtain rfl : q = n := by omega
            have cz := keeps_below hbb _ _ (HC2.out q (by omega))
            have hnum := HNUM.out L q HSP.out (by omega)
            have HPE := HGOOD.out L HGD.out
            have HB12 : Hid (Below w1.heap.size w1 wb) := HBR.out.trans ((HB2.out.trans (hbb.mono (by omega))).mono hzr)
            obtain ⟨z, hz⟩ : ∃ z, z = L.getD q 0 := ⟨_, rfl⟩
            rw [← hz] at cz hnum HPE
            have hqI2 : (q : Int) < q + 1 := by omega
            clear hz hbb
            rcases hnum with hm | ⟨z0, z1⟩
            · subst hm
              rw [if_pos rfl] at HPE
              have HP0 : Hid (ProvesTo P f 0) := ⟨L, HSP.out, HPE.symm⟩
              clear HPE
              go_wp2
              go_roundw
              case rel => exact ⟨k + 1, by omega, by go_num, HSNN.out HSF.out HP0.out, HB12.out⟩
              case measure => simp [intOf]; omega
            · rw [if_neg (by omega)] at HPE
              have HP7 : Hid (ProvesTo P f 7) := ⟨L, HSP.out, HPE.symm⟩
              clear HPE
              go_wp2
              go_ret
              exact ⟨7, rfl, HANS.out 7 (HSBB.out 7 HSF.out HP7.out (by decide)), HBWB.out⟩
      · go_wp2
        go_ret
        exact ⟨0, rfl, HANS.out 0 (HSE.out k HSF.out (by omega)), HBW.out⟩
  · have HANS : Hid (ProofAns P (codeProg P)) := Or.inl ⟨h0, rfl⟩
    have h' : (codeProg P != 0) = true := by simpa using h0
    obtain ⟨ao, b, off, n, cap, rfl, _⟩ := hv
    clear h0 hbx
    go_enter Tryd.func35, Tryd.ntmps35
    go_wp2_with (go_at_call 47; refine (hC _).mono ?_; rintro e w1 ⟨rfl, hb1⟩)
    go_ret
    exact ⟨_, rfl, HANS.out, ((Below.refl _ _).alloc (Nat.le_refl _) _).trans (hb1.mono (by simp))⟩

end Go.Proofs.YtiaammieldfkcaaDoor
