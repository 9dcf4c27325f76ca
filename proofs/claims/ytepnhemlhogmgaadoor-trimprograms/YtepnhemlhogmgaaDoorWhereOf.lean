/- Contract of the document's answer to P5.1 (tierlineref.WhereOf). -/
import Derived.Test.YtepnhemlhogmgaaDoorRefWhere
namespace Go.Proofs.YtepnhemlhogmgaaDoor
open Go Go.RowKit

theorem ctT_take (s : List Bool) (n q : Nat) (h : q ≤ n) : ctT (s.take n) q = ctT s q := by unfold ctT; rw [List.take_take, Nat.min_eq_left h]
theorem whereI_take (s : List Bool) (n q : Nat) (h : q < n) : whereI (s.take n) q = whereI s q := by
  unfold whereI
  rw [ctT_take s n q (by omega), show (s.take n).getD q false = s.getD q false by simp [List.getD, h]]
theorem fault_zero (P : List Fn) (v : Value) (k : Nat) (hk : k < P.length) (h : ProofAns P 0) (w : World) (hv : ProgVal w v P) :
    Calls Tryd.prog 29 #[.agg #[v], .int .i64 k] w fun e w' => e = .returned (.int .i64 0) ∧ Below w.heap.size w w' :=
  (fault_any P v k w hv).mono fun _ _ ⟨E, he, hE, hb⟩ => ⟨by
    rcases hE with ⟨h1, h2⟩ | ⟨_, h2, _⟩ | ⟨_, _, rfl⟩
    · rw [proofAns_unique h2 h] at h1; cases h1
    · exact absurd (by omega) h2
    · exact he, hb⟩
theorem fault_bad (P : List Fn) (v : Value) (fn : Int) (h : ¬ (ProofAns P 0 ∧ 0 ≤ fn ∧ fn < P.length)) (w : World) (hv : ProgVal w v P) :
    Calls Tryd.prog 29 #[.agg #[v], .int .i64 fn] w fun e w' => ∃ E, e = .returned (.int .i64 E) ∧ (E != 0) = true ∧ WhereAns P fn E [] ∧ Below w.heap.size w w' :=
  (fault_any P v fn w hv).mono fun _ _ ⟨E, he, hE, hb⟩ => ⟨E, he, by
    rcases hE with ⟨h1, h2⟩ | ⟨_, h2, rfl⟩ | ⟨h1, h2, rfl⟩
    · have : E ≠ 0 := by simpa using h1
      simpa using this
    · rfl
    · exact absurd ⟨h1, h2⟩ h, by
    rcases hE with ⟨h1, h2⟩ | ⟨h1, h2, rfl⟩ | ⟨h1, h2, rfl⟩
    · exact Or.inl ⟨by simpa using h1, h2, rfl⟩
    · exact Or.inr (Or.inl ⟨h1, h2, rfl, rfl⟩)
    · exact absurd ⟨h1, h2⟩ h, hb⟩

set_option maxRecDepth 100000 in
set_option maxHeartbeats 4000000 in
theorem whereOf_any (P : List Fn) (v : Value) (fn : Int) (w : World) (hv : ProgVal w v P) :
    Calls Tryd.prog 11 #[.agg #[v], .int .i64 fn] w fun e w' => WherePost P fn w e w' := by
  have hbx : ∀ o, Below w.heap.size w (w.alloc o) := fun o => (Below.refl _ _).alloc (Nat.le_refl _) _
  by_cases hok : ProofAns P 0 ∧ 0 ≤ fn ∧ fn < P.length
  · obtain ⟨h0, f0, f1⟩ := hok
    obtain ⟨i64i, hi64, hz0, hz1', hz2⟩ := info_parts info64
    obtain ⟨k, rfl⟩ := Int.eq_ofNat_of_zero_le f0
    have hk : k < P.length := by omega
    have hF := fun o => fault_zero P v k hk h0 (w.alloc o) (hv.keeps (keeps_below (hbx o)))
    have hP := proof_code h0
    obtain ⟨hfo, hfi⟩ := fnOk_of hP (List.getElem_mem hk)
    have hl1 := hfo.len1
    have hl2 := hfo.len2
    have hW := fun W cv (hcv : CodeVal W cv P[k].code) => wayTo_any P P[k] hfo hfi cv (-1) 63 W hcv (Or.inl ⟨rfl, rfl⟩)
    have HAN : Hid (∀ s O, SeenSpec P[k] 63 s → O.length = P[k].code.length → (∀ q, q < P[k].code.length → O.getD q 0 = whereI s q) → WhereAns P k 0 O) := fun s O hs hO hq => by
      refine Or.inr (Or.inr ⟨h0, rfl, k, rfl, hk, s.take P[k].code.length, seen_reach hs, ?_⟩)
      exact eq_whereL (by rw [List.length_take, hs.1]; omega) hO fun q hq' => by rw [hq q hq', whereI_take s _ q hq']
    have HSL : Hid (∀ s, SeenSpec P[k] 63 s → s.length = P[k].code.length + 1) := fun s hs => hs.1
    obtain ⟨b, off, cap, u, rfl, d0, d1, d2, hcv, hm, hcc⟩ := prog_fn hv hk
    have hkI : (k : Int) < P.length := by omega
    clear hbx hfi hfo hP h0 f0 f1
    generalize P[k] = f at hW HAN HSL hl1 hl2 d0 d1 hcv
    have HCV : Hid (∀ W, Below w.heap.size w W → CodeVal W u f.code) := fun W hb => hcv.keeps (keeps_below hb)
    obtain ⟨ao1, b1, off1, n, cap1, rfl, ⟨hln, -, -⟩, -, hmx1⟩ := hcv
    unfold maxLen at hmx1
    rw [hln] at hW HAN HSL hl1 hl2
    obtain ⟨fp, fr, fc⟩ := f
    dsimp only at d0 d1 hW HAN HSL HCV hln
    generalize P.length = N at *
    have t0 := fun o => cell_alloc d0 o
    have t1 := fun o => cell_alloc d1 o
    have t2 := fun o => cell_alloc d2 o
    clear hln d0 d1 d2 hv
    go_enter Tryd.func11, Tryd.ntmps11
    go_wp2_with (first
      | (go_at_call 29; refine (hF _).mono ?_; rintro e w1 ⟨rfl, hb1⟩; have k0 := keeps_below hb1 ⟨w.heap.size, 0, none⟩ (.slice (some ⟨b, off, none⟩) N cap) (by simp); have k1 := keeps_below hb1 _ _ (t0 _); have k2 := keeps_below hb1 _ _ (t1 _); have k3 := keeps_below hb1 _ _ (t2 _); have HB1 : Hid (Below w.heap.size w w1) := ((Below.refl _ _).alloc (Nat.le_refl _) _).trans (hb1.mono (by simp)); have hz1 : w.heap.size ≤ w1.heap.size := HB1.out.size; have hcv1 := fun o => HCV.out (w1.alloc o) (HB1.out.alloc hz1 o); clear hb1)
      | (go_at_call 30; refine (hW _ _ (hcv1 _)).mono ?_; rintro e w2 ⟨s, rfl, hseen, hrow, hb2⟩; have j0 := keeps_below hb2 _ _ (way_box w1 _ _ 2 (.slice ao1 n cap1) rfl); have hsl := HSL.out s hseen; have HSEEN : Hid (SeenSpec ⟨fp, fr, fc⟩ 63 s) := hseen; have HB2 : Hid (Below w.heap.size w w2) := below_step HB1.out hz1 hb2; simp only [World.size_alloc] at hrow; clear hseen hb2))
    have hzz2 := HB2.out.size
    have HC : Hid (∀ q, q < n + 1 → w2.cell? ⟨w1.heap.size + 1 + 1, q, none⟩ = some (.bool (s.getD q false))) := fun q hq => bool_cell hrow hsl q hq
    have HAS : Hid (∀ O : List Int, O.length = n → (∀ q, q < n → O.getD q 0 = whereI s q) → WhereAns P k 0 O) := fun O a b => HAN.out s O HSEEN.out a b
    have HY : Hid (∀ q, q < n → s.getD q false = true → ctT s (q + 1) = ctT s q + 1 ∧ whereI s q = ctT s q) := fun q hq h => ⟨ctT_yes (by omega) h, whereI_yes h⟩
    have HN : Hid (∀ q, q < n → s.getD q false = false → ctT s (q + 1) = ctT s q ∧ whereI s q = -1) := fun q hq h => ⟨ctT_no (by omega) h, whereI_no h⟩
    have HCL : Hid (∀ q, ctT s q ≤ q ∧ ctT s 0 = 0) := fun q => ⟨ctT_le s q, ctT_zero s⟩
    clear hrow hsl hW hF k0 k1 k2 k3 HAN HSL HSEEN HCV
    go_loopw [9, 10] (fun v i wr => ∃ (q : Nat) (O : List Int), q ≤ n ∧ i = .int .i64 q ∧ (O.length = q ∧ ∀ j, j < q → O.getD j 0 = whereI s j) ∧ wr.ownsRow w2.heap.size 3 1 v q (i64s O) ∧ Below w2.heap.size w2 wr) (fun _ i _ => n - (intOf i).toNat)
    case atStart => exact ⟨0, [], Nat.zero_le _, rfl, ⟨rfl, fun q h => by omega⟩, World.ownsRow_nil _ _ _ _, Below.refl _ _⟩
    case round =>
      rename World => wa
      obtain ⟨q, O, hq, rfl, hO, hown, hba⟩ := hrel
      have l0 := keeps_below hba _ _ j0
      have hza : w2.heap.size ≤ wa.heap.size := hba.size
      by_cases hlt : q < n
      · have HSN : Hid (∀ z, z = whereI s q → (O ++ [z]).length = q + 1 ∧ ∀ j, j < q + 1 → (O ++ [z]).getD j 0 = whereI s j) := fun z hz => ⟨by simp [hO.1], fun j hj => by
          rcases Nat.lt_or_ge j q with h | h
          · rw [← hO.2 j h]; simp [List.getD, List.getElem?_append_left (show j < O.length by omega)]
          · obtain rfl : j = q := by omega
            rw [← hz]; simp [List.getD, ← hO.1]⟩
        have HBA : Hid (Below w2.heap.size w2 wa) := hba
        have HCW : Hid (∀ j, j < n + 1 → wa.cell? ⟨w1.heap.size + 1 + 1, j, none⟩ = some (.bool (s.getD j false))) := fun j hj => keeps_below hba _ _ (HC.out j hj)
        have c1 := HCW.out q (by omega)
        obtain ⟨aov, capv, rfl⟩ := own_shape hown
        have hqI : (q : Int) < n := by omega
        have hqI2 : (q : Int) < n + 1 := by omega
        clear hO hba
        cases hs : s.getD q false
        · have HS := HSN.out (-1) (HN.out q hlt hs).2.symm
          have HSS : Hid _ := HS
          rw [hs] at c1
          clear HS hs
          go_wp2_with (at_builtin; refine wpList_append_own _ rfl (.tmp 48) (.tmp 50) 25 rfl w2.heap.size 3 i64i _ 1 8 Tryd.underlying25 hi64 hz0 hz1' hz2 rfl (by decide) _ _ _ rfl (hown.alloc _) ⟨_, 0, none⟩ 1 1 (i64s [-1]) rfl rfl (news_list _ _ _ _ rfl) (i64s_one _) (by unfold maxLen; omega) (by omega) (by simp; omega) ?_; intro v2 w3 hown2 hg2 _; rw [← i64s_append] at hown2; have hb2 : Below w2.heap.size w2 w3 := (HBA.out.alloc (by omega) _).trans (grown_base (hown.alloc _) (by simp; omega) hg2))
          go_roundw
          case rel => exact ⟨q + 1, _, by omega, by go_num, HSS.out, hown2, hb2⟩
          case measure => simp [intOf]; omega
        · have HS := HSN.out (ctT s q) (HY.out q hlt hs).2.symm
          have HSS : Hid _ := HS
          rw [hs] at c1
          clear HS hs
          go_wp2
          go_loopw [11, 12] (fun c j wr => ∃ r : Nat, r ≤ q ∧ j = .int .i64 r ∧ c = .int .i64 (ctT s r : Nat) ∧ wr = wa) (fun _ j _ => q - (intOf j).toNat)
          case atStart => exact ⟨0, Nat.zero_le _, rfl, by rw [(HCL.out 0).2]; rfl, rfl⟩
          case round =>
            rename World => wb
            obtain ⟨r, hr, rfl, rfl, rfl⟩ := hrel
            have hcl := (HCL.out r).1
            by_cases hrl : r < q
            · have c2 := HCW.out r (by omega)
              have hrI : (r : Int) < q := by omega
              have hrI2 : (r : Int) < n + 1 := by omega
              cases hs2 : s.getD r false
              · have HCT : Hid (ctT s (r + 1) = ctT s r) := (HN.out r (by omega) hs2).1
                rw [hs2] at c2
                clear hs2
                generalize ctT s r = c at *
                go_wp2
                go_roundw
                case rel => exact ⟨r + 1, by omega, by go_num, by rw [HCT.out], trivial⟩
                case measure => simp [intOf]; omega
              · have HCT : Hid (ctT s (r + 1) = ctT s r + 1) := (HY.out r (by omega) hs2).1
                rw [hs2] at c2
                clear hs2
                generalize ctT s r = c at *
                go_wp2
                go_roundw
                case rel => exact ⟨r + 1, by omega, by go_num, by rw [HCT.out]; go_num, trivial⟩
                case measure => simp [intOf]; omega
            · obtain rfl : r = q := by omega
              generalize ctT s r = c at *
              go_wp2_with (at_builtin; refine wpList_append_own _ rfl (.tmp 48) (.tmp 50) 25 rfl w2.heap.size 3 i64i _ 1 8 Tryd.underlying25 hi64 hz0 hz1' hz2 rfl (by decide) _ _ _ rfl (hown.alloc _) ⟨_, 0, none⟩ 1 1 (i64s [(c : Int)]) rfl rfl (news_list _ _ _ _ rfl) (i64s_one _) (by unfold maxLen; omega) (by omega) (by simp; omega) ?_; intro v2 w3 hown2 hg2 _; rw [← i64s_append] at hown2; have hb2 : Below w2.heap.size w2 w3 := (HBA.out.alloc (by omega) _).trans (grown_base (hown.alloc _) (by simp; omega) hg2))
              go_roundw
              case rel => exact ⟨r + 1, _, by omega, by go_num, HSS.out, hown2, hb2⟩
              case measure => simp [intOf]; omega
      · obtain rfl : q = n := by omega
        have HANS : Hid (WhereAns P k 0 O) := HAS.out O hO.1 hO.2
        have hOl := hO.1
        obtain ⟨g, capg, rfl, hgb, hgl, hmg, hng⟩ := own_at hown (by omega)
        have HIV : Hid (IntsVal wa (.slice (some ⟨g, 0, none⟩) q capg) O) := by
          have := hown
          rw [← hOl] at this ⊢
          exact ints_of_own this
        have HBW : Hid (Below w.heap.size w wa) := below_call HB2.out hzz2 hba
        clear hO hown hba hOl
        go_wp2
        go_ret2
        exact ⟨_, _, _, rfl, HANS.out, HIV.out, HBW.out⟩
  · have hF := fun o => fault_bad P v fn hok (w.alloc o) (hv.keeps (keeps_below (hbx o)))
    obtain ⟨ao, b, off, n, cap, rfl, _⟩ := hv
    clear hok hbx
    go_enter Tryd.func11, Tryd.ntmps11
    go_wp2_with (go_at_call 29; refine (hF _).mono ?_; rintro e w1 ⟨E, rfl, hne, hE, hb1⟩; have HE : Hid (WhereAns P fn E []) := hE; clear hE)
    go_ret2
    exact ⟨_, _, _, rfl, HE.out, ints_nil _, ((Below.refl _ _).alloc (Nat.le_refl _) _).trans (hb1.mono (by simp))⟩

end Go.Proofs.YtepnhemlhogmgaaDoor
