/- Contract of the document's answer to P3.4 (tierlineref.ReadsAndSets). -/
import Derived.Test.YthnajfekhnocaaaDoorRefReads
import Derived.Test.YthnajfekhnocaaaDoorRefWalk
import Derived.Test.YthnajfekhnocaaaDoorBitsMore
namespace Go.Proofs.YthnajfekhnocaaaDoor
open Go Go.RowKit

def maskPart (l : List Int) (k : Nat) : Nat := (l.take k).foldl (fun m r => m ||| 2 ^ r.toNat) 0
theorem maskPart_succ (l : List Int) (k : Nat) (h : k < l.length) : maskPart l (k + 1) = maskPart l k ||| 2 ^ (l[k]).toNat := by
  unfold maskPart
  rw [List.take_succ_eq_append_getElem h, List.foldl_append]; rfl
theorem maskPart_lt (l : List Int) (hl : ∀ r ∈ l, 0 ≤ r ∧ r < 12) (k : Nat) : maskPart l k < 65536 := by
  induction k with
  | zero => simp [maskPart]
  | succ k ih =>
    by_cases h : k < l.length
    · rw [maskPart_succ l k h]
      have := hl l[k] (List.getElem_mem h)
      exact or_lt _ _ ih (two_lt _ (by omega))
    · have e : maskPart l (k + 1) = maskPart l k := by unfold maskPart; rw [List.take_of_length_le (by omega), List.take_of_length_le (by omega)]
      rw [e]; exact ih
theorem readsL_small {P : List Fn} {x : Ins} (hx : InsOk P x) : ∀ r ∈ readsL P x, 0 ≤ r ∧ r < 12 := by
  intro r hr
  obtain ⟨_, _, _, _, a0, a1, b0, b1, _⟩ := hx
  unfold readsL at hr
  rcases List.mem_append.1 hr with h | h
  · split at h
    · simp at h; subst h; exact ⟨a0, a1⟩
    · simp at h
  · split at h
    · simp at h; subst h; exact ⟨b0, b1⟩
    · simp at h
theorem mask_reads (P : List Fn) (x : Ins) : maskPart (readsL P x) (readsL P x).length = rdMask P x := by
  unfold maskPart readsL rdMask
  rw [List.take_length]
  cases rdA P x <;> cases rdB P x <;> simp
theorem mask_step (l : List Int) (hl : ∀ r ∈ l, 0 ≤ r ∧ r < 12) (k : Nat) (h : k < l.length) :
    maskPart l (k + 1) = if hasB (maskPart l k) (l[k]).toNat = true then maskPart l k else maskPart l k + 2 ^ (l[k]).toNat := by
  rw [maskPart_succ l k h]
  have hb := hl l[k] (List.getElem_mem h)
  have e : hasB (maskPart l k) (l[k]).toNat = (maskPart l k).testBit (l[k]).toNat := by
    rw [testBit_div]; unfold hasB; generalize maskPart l k / 2 ^ (l[k]).toNat % 2 = z; rw [Bool.eq_iff_iff]; simp; omega
  rw [e]
  cases ht : (maskPart l k).testBit (l[k]).toNat
  · rw [if_neg (by simp)]; exact or_pow _ _ (maskPart_lt l hl k) (by omega) ht
  · rw [if_pos rfl]; exact or_pow_same _ _ ht

/-- 2 to a power. -/
def pw (d : Int) : Nat := 2 ^ d.toNat
theorem pw_lt (d : Int) (_h0 : 0 ≤ d) (h1 : d < 12) : pw d < 65536 := two_lt d.toNat (by omega)
theorem oneBit_int (d : Int) (w : World) (h0 : 0 ≤ d) (h1 : d < 12) :
    Calls Tryd.prog 33 #[.int .i64 d] w fun e w' => e = .returned (.int .i64 (pw d : Int)) ∧ w' = w := by
  obtain ⟨k, rfl⟩ := Int.eq_ofNat_of_zero_le h0
  exact oneBit_any k w (by omega)
theorem hasBit_int (n : Nat) (d : Int) (v : Bool) (w : World) (hn : n < 65536) (h0 : 0 ≤ d) (h1 : d < 12) (h : hasB n d.toNat = v) :
    Calls Tryd.prog 30 #[.int .i64 n, .int .i64 d] w fun e w' => e = .returned (.bool v) ∧ w' = w := by
  obtain ⟨k, rfl⟩ := Int.eq_ofNat_of_zero_le h0
  rw [← h]
  exact hasBit_any n k w hn (by omega)

theorem rs_bad (P : List Fn) (v : Value) (fn pc : Int) (w : World) (hv : ProgVal w v P) (h : refProg P ≠ 0) :
    Calls Tryd.prog 17 #[.agg #[v], .int .i64 fn, .int .i64 pc] w fun e w' => e = .returned (.tuple #[.int .i64 0, .int .i64 0, .int .i64 (refProg P)]) ∧ Below w.heap.size w w' := by
  have hC := fun o => programFault_any P v (w.alloc o) (hv.keeps (keeps_below ((Below.refl _ _).alloc (Nat.le_refl _) _)))
  obtain ⟨ao, b, off, n, cap, rfl, _⟩ := hv
  have h' : (refProg P != 0) = true := by simpa using h
  clear h
  go_enter Tryd.func17, Tryd.ntmps17
  go_wp2_with (go_at_call 24; refine (hC _).mono ?_; rintro e w1 ⟨rfl, hb1⟩)
  go_ret3
  exact ⟨rfl, ((Below.refl _ _).alloc (Nat.le_refl _) _).trans (hb1.mono (by simp))⟩

set_option maxHeartbeats 1000000 in
theorem rs_range (P : List Fn) (v : Value) (fn pc : Int) (w : World) (hv : ProgVal w v P) (h : refProg P = 0) (hr : ¬ (0 ≤ fn ∧ fn < P.length) ∨ (0 ≤ fn ∧ fn < P.length) ∧ ¬ (0 ≤ pc ∧ pc < (codeAt P fn.toNat).length)) :
    Calls Tryd.prog 17 #[.agg #[v], .int .i64 fn, .int .i64 pc] w fun e w' => e = .returned (.tuple #[.int .i64 0, .int .i64 0, .int .i64 2]) ∧ Below w.heap.size w w' := by
  have hC := fun o => programFault_any P v (w.alloc o) (hv.keeps (keeps_below ((Below.refl _ _).alloc (Nat.le_refl _) _)))
  rw [h] at hC
  obtain ⟨ao, b, off, n, cap, rfl, ⟨hlen, haddr, hat⟩, hcap, hmax⟩ := hv
  unfold maxLen at hmax
  have hp1 : 1 ≤ P.length := (codeProg_zero ((prog_same P).trans h)).1
  rcases hr with hr | ⟨⟨f0, f1⟩, hr⟩
  · have hi : inB fn 0 ((n : Int) - 1) = false := by
      simp only [inB, decide_eq_false_iff_not]
      omega
    clear hat haddr hr
    go_enter Tryd.func17, Tryd.ntmps17
    go_wp2_with (first | (go_at_call 24; refine (hC _).mono ?_; rintro e w1 ⟨rfl, hb1⟩; have k0 := keeps_below hb1 ⟨w.heap.size, 0, none⟩ (.slice ao n cap) (by simp)) | (go_at_call 25; refine (in_any _ _ _ _).mono ?_; rintro e w' ⟨rfl, rfl⟩))
    go_ret3
    exact ⟨rfl, ((Below.refl _ _).alloc (Nat.le_refl _) _).trans (hb1.mono (by simp))⟩
  · obtain ⟨k, rfl⟩ := Int.eq_ofNat_of_zero_le f0
    have hk : k < P.length := by omega
    obtain ⟨u, hu⟩ := hat k hk
    obtain rfl := haddr (by omega)
    have e : codeAt P (k : Int).toNat = P[k].code := by simp [codeAt, List.getD, hk]
    rw [e] at hr
    generalize hg : P[k] = g at hu hr e
    clear hg e
    obtain ⟨d0, d1, d2, hcv⟩ := hu
    obtain ⟨ao1, b1, off1, n1, cap1, rfl, ⟨hlen1, _, _⟩, _, hmax1⟩ := hcv
    unfold maxLen at hmax1
    rw [hlen1] at hr
    have hi : inB (k : Int) 0 ((n : Int) - 1) = true := by
      simp only [inB, decide_eq_true_eq]
      omega
    have hi2 : inB pc 0 ((n1 : Int) - 1) = false := by
      simp only [inB, decide_eq_false_iff_not]
      omega
    have hkn : (k : Int) < n := by omega
    have t2 := fun o => cell_alloc d2 o
    clear hlen1 d0 d1 d2 hat haddr hlen f1 f0 h hk hr hp1
    go_enter Tryd.func17, Tryd.ntmps17
    go_wp2_with (first | (go_at_call 24; refine (hC _).mono ?_; rintro e w1 ⟨rfl, hb1⟩; have k0 := keeps_below hb1 ⟨w.heap.size, 0, none⟩ (.slice (some ⟨b, off, none⟩) n cap) (by simp); have k3 := keeps_below hb1 _ _ (t2 _)) | (go_at_call 25; refine (in_any _ _ _ _).mono ?_; rintro e w' ⟨rfl, rfl⟩))
    go_ret3
    exact ⟨rfl, ((Below.refl _ _).alloc (Nat.le_refl _) _).trans (hb1.mono (by simp))⟩

set_option maxHeartbeats 1000000 in
theorem rs_ok (P : List Fn) (v : Value) (k j : Nat) (w : World) (hv : ProgVal w v P) (h : refProg P = 0) (hk : k < P.length) (hpc : j < (codeAt P k).length) :
    Calls Tryd.prog 17 #[.agg #[v], .int .i64 k, .int .i64 j] w fun e w' => e = .returned (.tuple #[.int .i64 (rdMask P (insAtP P k j)), .int .i64 (setMask (insAtP P k j)), .int .i64 0]) ∧ Below w.heap.size w w' := by
  have hC := fun o => programFault_any P v (w.alloc o) (hv.keeps (keeps_below ((Below.refl _ _).alloc (Nat.le_refl _) _)))
  rw [h] at hC
  have hv' := hv
  obtain ⟨ao, b, off, n, cap, rfl, ⟨hlen, haddr, hat⟩, hcap, hmax⟩ := hv'
  unfold maxLen at hmax
  obtain ⟨u, hu⟩ := hat k hk
  obtain rfl := haddr (by omega)
  have e : codeAt P k = P[k].code := by simp [codeAt, List.getD, hk]
  have hj : j < P[k].code.length := by rw [← e]; exact hpc
  have e2 : insAtP P k j = P[k].code[j] := by simp [insAtP, e, List.getD, hj]
  have hio : InsOk P P[k].code[j] := insOk_of ((prog_same P).trans h) (List.getElem_mem hk) (List.getElem_mem hj)
  rw [e2]
  clear e2 hpc e
  generalize hg : P[k] = g at hu hj hio
  obtain ⟨d0, d1, d2, hcv⟩ := hu
  obtain ⟨ao1, b1, off1, n1, cap1, rfl, ⟨hlen1, haddr1, hat1⟩, _, hmax1⟩ := hcv
  obtain rfl := haddr1 (by omega)
  have gi := hat1 j hj
  generalize hgx : g.code[j] = x at hio gi
  have gj : ∀ o, insAt (w.alloc o) b1 (off1 + j * 5) x := fun o => gi.keeps (keeps_below ((Below.refl _ _).alloc (Nat.le_refl _) _))
  unfold maxLen at hmax1
  have hkn : (k : Int) < n := by omega
  have hjn : (j : Int) < n1 := by omega
  have hi : inB (k : Int) 0 ((n : Int) - 1) = true := by
    simp only [inB, decide_eq_true_eq]
    omega
  have hi2 : inB (j : Int) 0 ((n1 : Int) - 1) = true := by
    simp only [inB, decide_eq_true_eq]
    omega
  have hva : ∀ o, ProgVal (w.alloc o) (.slice (some ⟨b, off, none⟩) n cap) P := fun o => hv.keeps (keeps_below ((Below.refl _ _).alloc (Nat.le_refl _) _))
  have t2 := fun o => cell_alloc d2 o
  have hsm := readsL_small hio
  have HME : Hid (maskPart (readsL P x) (readsL P x).length = rdMask P x) := mask_reads P x
  have hRO := fun W hW => readsOf_any P (.slice (some ⟨b, off, none⟩) n cap) x W hW hio
  have hsd := hio.dst0
  have hsd1 := hio.dst1
  generalize readsL P x = L at hsm HME hRO
  have HSM : Hid (∀ r ∈ L, 0 ≤ r ∧ r < 12) := hsm
  have HSB : Hid (setMask x = if setsB x.op = true then 2 ^ x.dst.toNat else 0) := rfl
  generalize rdMask P x = RM at HME
  generalize setMask x = SM at HSB
  clear hlen1 d0 d1 d2 hat haddr hlen h hk hg hgx hat1 gi hv haddr1 hj hio hsm
  obtain ⟨op, dst, a, b', imm⟩ := x
  unfold Ins.val at hRO
  dsimp only at hsd hsd1 HSB hRO
  go_enter Tryd.func17, Tryd.ntmps17
  go_wp2_with (first
    | (go_at_call 24; refine (hC _).mono ?_; rintro e w1 ⟨rfl, hb1⟩; have k0 := keeps_below hb1 ⟨w.heap.size, 0, none⟩ (.slice (some ⟨b, off, none⟩) n cap) (by simp); have k3 := keeps_below hb1 _ _ (t2 _); have hz1 : w.heap.size < w1.heap.size := (by have := hb1.size; simp at this; omega); have hP1 := (hva _).keeps (keeps_below hb1); obtain ⟨g0, g1, g2, g3, g4⟩ := (gj _).keeps (keeps_below hb1); have HB1 : Hid (Below w.heap.size w w1) := ((Below.refl _ _).alloc (Nat.le_refl _) _).trans (hb1.mono (by simp)))
    | (go_at_call 25; refine (in_any _ _ _ _).mono ?_; rintro e w' ⟨rfl, hw'⟩; replace hw' := hw'.symm; subst hw')
    | (go_at_call 29; refine (hRO _ (hP1.keeps (keeps_below ((Below.refl _ _).alloc (Nat.le_refl _) _)))).mono ?_; rintro e w2 ⟨v2, rfl, hown2, hb2⟩; obtain ⟨ao2, b2, off2, n2, cap2, rfl, hl2, ha2, hc2, _, hmx2⟩ := ints_of_own hown2; have z0 := keeps_below hb2 ⟨w1.heap.size, 0, none⟩ (.int .i64 op) (by simp); have z1 := keeps_below hb2 ⟨w1.heap.size, 1, none⟩ (.int .i64 dst) (by simp); have HL2 : Hid (L.length = n2) := hl2; have HC2 : Hid (∀ q (h : q < L.length), w2.cell? ⟨b2, off2 + q, none⟩ = some (.int .i64 L[q])) := hc2; have HA2 : Hid (0 < n2 → ao2 = some ⟨b2, off2, none⟩) := ha2; have HB2 : Hid (Below w.heap.size w w2) := (HB1.out.alloc (by omega) _).trans (hb2.mono (by simp; omega)); clear hl2 hc2 ha2 hown2))
  go_loop [11, 13] (fun m i => ∃ q : Nat, q ≤ n2 ∧ i = .int .i64 q ∧ m = .int .i64 (maskPart L q)) (fun _ i => n2 - (intOf i).toNat)
  case atStart => exact ⟨0, Nat.zero_le _, rfl, rfl⟩
  case round =>
    obtain ⟨q, hq, rfl, rfl⟩ := hrel
    unfold maxLen at hmx2
    by_cases hlt : q < n2
    · obtain rfl := HA2.out (by omega)
      have hqL : q < L.length := by rw [HL2.out]; exact hlt
      have cq := HC2.out q hqL
      obtain ⟨r0, r1⟩ := HSM.out L[q] (List.getElem_mem hqL)
      have hml := maskPart_lt L HSM.out q
      have HST := Hid.out (p := maskPart L (q + 1) = if hasB (maskPart L q) (L[q]).toNat = true then maskPart L q else maskPart L q + pw L[q]) (mask_step L HSM.out q hqL)
      have HST' : Hid (maskPart L (q + 1) = if hasB (maskPart L q) (L[q]).toNat = true then maskPart L q else maskPart L q + pw L[q]) := HST
      clear HST
      generalize maskPart L q = M at hml HST'
      generalize L[q] = R at cq r0 r1 HST'
      have hpw := pw_lt R r0 r1
      cases hh : hasB M R.toNat
      all_goals
        have hH := fun W => hasBit_int M R _ W hml r0 r1 hh
        rw [hh] at HST'
        clear hh
        go_wp2_with (first
          | (go_at_call 30; refine (hH _).mono ?_; rintro e w' ⟨rfl, hw'⟩; replace hw' := hw'.symm; subst hw')
          | (go_at_call 33; refine (oneBit_int R _ r0 r1).mono ?_; rintro e w' ⟨rfl, hw'⟩; replace hw' := hw'.symm; subst hw'))
        go_round
        case rel => exact ⟨q + 1, by omega, by go_num, by rw [HST'.out]; simp⟩
        case measure => simp [intOf]; omega
    · obtain rfl : q = n2 := by omega
      have HM : Hid (maskPart L q = RM) := by
        have h := HME.out
        rw [HL2.out] at h
        exact h
      generalize maskPart L q = M at HM
      cases hs : setsB op
      · have HS : Hid (SM = 0) := by
          have h := HSB.out
          rw [hs] at h
          exact h
        go_wp2_with (first
          | (go_at_call 34; refine (Sets_any _ _).mono ?_; rintro e w' ⟨rfl, hw'⟩; replace hw' := hw'.symm; subst hw')
          | (go_at_call 33; refine (oneBit_int dst _ hsd hsd1).mono ?_; rintro e w' ⟨rfl, hw'⟩; replace hw' := hw'.symm; subst hw'))
        go_ret3
        exact ⟨by rw [← HM.out, HS.out]; rfl, HB2.out⟩
      · have HS : Hid (SM = pw dst) := by
          have h := HSB.out
          rw [hs] at h
          exact h
        go_wp2_with (first
          | (go_at_call 34; refine (Sets_any _ _).mono ?_; rintro e w' ⟨rfl, hw'⟩; replace hw' := hw'.symm; subst hw')
          | (go_at_call 33; refine (oneBit_int dst _ hsd hsd1).mono ?_; rintro e w' ⟨rfl, hw'⟩; replace hw' := hw'.symm; subst hw'))
        go_ret3
        exact ⟨by rw [← HM.out, HS.out]; rfl, HB2.out⟩

end Go.Proofs.YthnajfekhnocaaaDoor
