/- The walk of tierlinekeep.SureFirst: at all raw numbers it says true, and nothing that was there has turned. -/
import Derived.Test.YthnajfekhnocaaaDoorProgRaw
import Derived.Test.YthnajfekhnocaaaDoorSureAll
namespace Go.Proofs.YthnajfekhnocaaaDoor
open Go Go.RowKit

theorem way_params {f : Fn} {r q : Nat} (h : Way f r q) : f.params ≤ (r : Int) := by
  induction h with
  | start h => exact h
  | step _ _ _ _ ih => exact ih
theorem way_regs {f : Fn} (hp : f.params ≤ f.regs) (hs : ∀ pc, pc < f.code.length → ∀ r : Nat, f.regs ≤ (r : Int) → (setMask (insD f pc)).testBit r = false) {r q : Nat} (hr : f.regs ≤ (r : Int)) (h : Way f 63 q) : Way f r q := by
  induction h with
  | start _ => exact Way.start (by omega)
  | @step pc t hpc _ _ ht ih => exact Way.step hpc ih (hs pc hpc r hr) ht

/-- What is said of the numbers of a function that may be. -/
structure FirstOk (f : Fn) (L : List Int) (Z : Nat) : Prop where
  zero : L.getD 0 0 = Z
  low : ∀ i, i < f.code.length → L.getD i 0 = -1 ∨ ∃ m : Nat, L.getD i 0 = m ∧ m < 4096 ∧ (m : Int) < ((2 ^ f.regs.toNat : Nat) : Int) ∧ m &&& Z = Z

theorem sets_regs {P : List Fn} (h : codeProg P = 0) {f : Fn} (hf : f ∈ P) (pc : Nat) (hpc : pc < f.code.length) (r : Nat) (hr : f.regs ≤ (r : Int)) : (setMask (insD f pc)).testBit r = false := by
  obtain ⟨h1, h4, hall⟩ := codeProg_zero h
  obtain ⟨_, _, _, _, _, _, _, hi⟩ := codeFunc_zero (hall f hf)
  rw [insD_eq hpc]
  have hx := List.getElem_mem hpc
  have hz := hi _ hx
  have ok := insOk_of h hf hx
  rw [instr_same] at hz
  unfold refInstr at hz
  by_cases k1 : inB f.code[pc].op 1 19 = false
  · rw [if_pos k1] at hz; cases hz
  rw [if_neg k1] at hz
  by_cases k2 : refOk1 f.code[pc] f.regs = false
  · rw [if_pos k2] at hz; cases hz
  have k2 : refOk1 f.code[pc] f.regs = true := by simpa using k2
  simp only [refOk1, Bool.and_eq_true] at k2
  obtain ⟨⟨m1, _⟩, _⟩ := k2
  rw [set_bit _ ok.dst0 r]
  cases hs : setsB f.code[pc].op
  · rfl
  · rw [hs] at m1
    have : 0 ≤ f.code[pc].dst ∧ f.code[pc].dst ≤ f.regs - 1 := by simpa [regMayB, inB] using m1
    have : (f.code[pc].dst == (r : Int)) = false := by simp; omega
    rw [this]; rfl

theorem first_ok {P : List Fn} (h : codeProg P = 0) {f : Fn} (hf : f ∈ P) {L : List Int} (hL : SureSpec f L) {p : Nat} (hp : f.params = p) : FirstOk f L (2 ^ p - 1) := by
  obtain ⟨r1, r2, p0, p2, pr, l1, l2, _⟩ := codeFunc_zero ((codeProg_zero h).2.2 f hf)
  have hsets := sets_regs h hf
  have bits : ∀ i, i < f.code.length + 1 → L.getD i 0 = -1 ∨ ∃ m : Nat, m < 4096 ∧ L.getD i 0 = m ∧ (∀ r, r < p → m.testBit r = true) ∧ (∀ r : Nat, f.regs ≤ (r : Int) → m.testBit r = false) := by
    intro i hi
    rcases hL.2 i hi with ⟨_, e⟩ | ⟨hw, m, hm, e, hb⟩
    · exact Or.inl e
    · refine Or.inr ⟨m, hm, e, fun r hr => ?_, fun r hr => ?_⟩
      · exact (hb r (by omega)).2 fun hw => by have := way_params hw; omega
      · rcases Nat.lt_or_ge r 12 with h12 | h12
        · have := way_regs pr hsets hr hw
          cases ht : m.testBit r
          · rfl
          · exact absurd this ((hb r h12).1 ht)
        · exact Nat.testBit_lt_two_pow (Nat.lt_of_lt_of_le hm (pow12 h12))
  have hand : ∀ m : Nat, (∀ r, r < p → m.testBit r = true) → m &&& (2 ^ p - 1) = 2 ^ p - 1 := by
    intro m hm
    apply Nat.eq_of_testBit_eq
    intro r
    rw [Nat.testBit_and, Nat.testBit_two_pow_sub_one]
    by_cases hr : r < p
    · simp [hr, hm r hr]
    · simp [hr]
  refine ⟨?_, fun i hi => ?_⟩
  · rcases hL.2 0 (by omega) with ⟨hn, _⟩ | ⟨hw, m, hm, e, hb⟩
    · exact absurd (Way.start (f := f) (r := 63) (by omega)) hn
    · rw [e]
      congr 1
      apply Nat.eq_of_testBit_eq
      intro r
      rw [Nat.testBit_two_pow_sub_one]
      rcases Nat.lt_or_ge r 12 with h12 | h12
      · rw [Bool.eq_iff_iff, hb r h12]
        simp only [decide_eq_true_eq]
        refine ⟨fun hn => ?_, fun hlt hw2 => ?_⟩
        · exact Classical.byContradiction fun hge => hn (Way.start (by omega))
        · have := way_params hw2; omega
      · rw [Nat.testBit_lt_two_pow (Nat.lt_of_lt_of_le hm (pow12 h12))]
        have : ¬ r < p := by omega
        simp [this]
  · rcases bits i (by omega) with e | ⟨m, hm, e, hlo, hhi⟩
    · exact Or.inl e
    · refine Or.inr ⟨m, e, hm, ?_, hand m hlo⟩
      have : m < 2 ^ f.regs.toNat := Nat.lt_pow_two_of_testBit _ fun r hr => hhi r (by omega)
      exact_mod_cast this

theorem two_lt' (R : Int) (_h1 : 1 ≤ R) (h2 : R ≤ 12) : 2 ^ R.toNat < 65536 := Nat.lt_of_le_of_lt (Nat.pow_le_pow_right (by decide) (show R.toNat ≤ 12 by omega)) (by decide)
theorem shl_12 (R : Int) (h1 : 1 ≤ R) (h2 : R ≤ 12) : wrap64 (2 ^ R.toNat) = ((2 ^ R.toNat : Nat) : Int) := by
  have := two_lt' R h1 h2
  have e : (2 : Int) ^ R.toNat = ((2 ^ R.toNat : Nat) : Int) := by simp
  rw [e]
  generalize 2 ^ R.toNat = m at this
  exact wrap64_small _ (by omega) (by omega)
theorem pick_nat (n : Int) (N : Nat) (h : 1 ≤ N) : ∃ k : Nat, k < N ∧ pickI n N = k := by
  have b := pickI_bounds n N (by omega)
  obtain ⟨k, hk⟩ := Int.eq_ofNat_of_zero_le b.1
  exact ⟨k, by omega, hk⟩

/-- What Sure answers of a function of a right program. -/
theorem sure_of_ans {P : List Fn} (h : codeProg P = 0) {k : Nat} (hk : k < P.length) {A : List Int} (hA : SureAns P k A) {p : Nat} (hp : P[k].params = p) :
    A.length = P[k].code.length ∧ A.getD 0 0 = ((2 ^ p - 1 : Nat) : Int) ∧ ∀ i, i < P[k].code.length → A.getD i 0 = -1 ∨ ∃ m : Nat, A.getD i 0 = m ∧ m < 4096 ∧ (m : Int) < ((2 ^ P[k].regs.toNat : Nat) : Int) ∧ m &&& (2 ^ p - 1) = 2 ^ p - 1 := by
  have h0 : fnErr P k = 0 := by unfold fnErr; rw [if_pos h, if_pos (by omega)]
  have e : fnAt P (k : Int) = P[k] := by simp [fnAt, List.getD, hk]
  rcases hA with ⟨h1, _⟩ | ⟨_, L, hL, rfl⟩
  · exact absurd h0 h1
  · rw [e] at hL ⊢
    have hf := first_ok h (List.getElem_mem hk) hL hp
    have hlen := (codeFunc_zero ((codeProg_zero h).2.2 _ (List.getElem_mem hk))).2.2.2.2.2.1
    have hg : ∀ i, i < P[k].code.length → (L.take P[k].code.length).getD i 0 = L.getD i 0 := fun i hi => by simp [List.getD, hi]
    refine ⟨by rw [List.length_take, hL.1]; omega, by rw [hg 0 (by omega)]; exact hf.zero, fun i hi => by rw [hg i hi]; exact hf.low i hi⟩

set_option maxHeartbeats 4000000 in
set_option maxRecDepth 100000 in
theorem sureFirst_walk (l : List Fn) (v : Value) (fn : Int) (w : World) (ht : TabOk w) (hc : CallOk w) (hv : ProgVal w v l) (hwf : ∀ f ∈ l, f.wf) (hfn : I64 fn) :
    Calls Tryd.prog 7 #[v, .int .i64 fn] w fun e w' => e = .returned (.bool true) ∧ Below w.heap.size w w' := by
  have hSh := program_raw l v w ht hc hv hwf
  obtain ⟨aol, nl, capl, rfl⟩ := hv.shape
  have HT : Hid (TabOk w) := ht
  clear hv hwf ht hc
  go_enter Tryd.func7, Tryd.ntmps7
  go_upto_region 2 with (go_at_call 21; refine hSh.mono ?_; rintro e w1 ⟨v1, P, us, rfl, hpi, hbt, hb1⟩; have hp1 := hbt.prog; have hcp := progIs_code hpi; obtain ⟨hn1, hn4, -⟩ := codeProg_zero hcp; obtain ⟨k, hk, ek⟩ := pick_nat fn P.length hn1; obtain ⟨b, off, cap, u, rfl, d0, d1, d2, hcv, hm, hcc⟩ := prog_fn hp1 hk)
  have hfo := fnOk_of hcp (List.getElem_mem hk)
  have hfz := codeFunc_zero ((codeProg_zero hcp).2.2 _ (List.getElem_mem hk))
  have hr1 := hfz.1
  have hr2 := hfz.2.1
  have hq0 := hfo.1.p0
  have hq2 := hfo.1.p2
  have hl1 := hfo.1.len1
  have hl2 := hfo.1.len2
  have HANS : Hid (∀ A, SureAns P k A → ∀ p : Nat, P[k].params = p → A.length = P[k].code.length ∧ A.getD 0 0 = ((2 ^ p - 1 : Nat) : Int) ∧ ∀ i, i < P[k].code.length → A.getD i 0 = -1 ∨ ∃ m : Nat, A.getD i 0 = m ∧ m < 4096 ∧ (m : Int) < ((2 ^ P[k].regs.toNat : Nat) : Int) ∧ m &&& (2 ^ p - 1) = 2 ^ p - 1) := fun A hA p hp => sure_of_ans hcp hk hA hp
  have hfe : fnErr P k = 0 := by unfold fnErr; rw [if_pos hcp, if_pos (by omega)]
  have hal : Below w1.heap.size w1 (w1.alloc (.cells #[.slice (some ⟨b, off, none⟩) P.length cap] 24)) := (Below.refl _ _).alloc (Nat.le_refl _) _
  have hSu := sure_all P (.slice (some ⟨b, off, none⟩) P.length cap) k (w1.alloc (.cells #[.slice (some ⟨b, off, none⟩) P.length cap] 24)) ((HT.out.below hb1).below hal) (hp1.keeps (keeps_below hal))
  rw [hfe] at hSu
  have HB1 : Hid (Below w.heap.size w (w1.alloc (.cells #[.slice (some ⟨b, off, none⟩) P.length cap] 24))) := hb1.alloc hb1.size _
  have hkI : (k : Int) < P.length := by omega
  obtain ⟨ao2, b2, off2, n2, cap2, rfl, ⟨hlen2, -, -⟩, -, hmx2⟩ := hcv
  have t0 := fun o => cell_alloc d0 o
  have t1 := fun o => cell_alloc d1 o
  have t2 := fun o => cell_alloc d2 o
  generalize P[k] = f at d0 d1 t0 t1 hlen2 HANS hr1 hr2 hq0 hq2 hl1 hl2 hfo hfz
  rw [hlen2] at hl1 hl2 HANS
  unfold maxLen at hmx2
  clear hfo hfz hfe hal hbt hp1 hpi hcp hb1 hSh d0 d1 d2 hlen2
  generalize P.length = N at *
  obtain ⟨fp, fr, fc⟩ := f
  dsimp only at hr1 hr2 hq0 hq2 t0 t1 HANS
  go_upto_region 5 with (first
    | (go_at_call 19; refine (picked_any _ _ _ hfn (by omega) (by omega)).mono ?_; rintro e w' ⟨rfl, hw'⟩; replace hw' := hw'.symm; subst hw')
    | (go_at_call 9; refine hSu.mono ?_; rintro e w2 ⟨v2, A, rfl, hA, hI, hb2⟩; obtain ⟨ao3, b3, off3, n3, cap3, rfl, hl3, ha3, hc3, hcp3, hm3⟩ := ints_get hI; have q0 := keeps_below hb2 ⟨w1.heap.size, 0, none⟩ (.slice (some ⟨b, off, none⟩) N cap) (by simp); have q1 := keeps_below hb2 _ _ (t0 _); have q2 := keeps_below hb2 _ _ (t1 _); have q3 := keeps_below hb2 _ _ (t2 _); have HA : Hid (SureAns P k A) := hA; clear hA hI))
  rcases (show fp = 0 ∨ fp = 1 ∨ fp = 2 by omega) with rfl | rfl | rfl
  · obtain ⟨hlA, hzA, hlow⟩ := HANS.out A HA.out 0 rfl
    have hn : n3 = n2 := by omega
    subst hn
    obtain rfl := ha3 (by omega)
    have c0 : (w2.alloc (.cells #[.int .i64 0, .int .i64 fr, .slice ao2 n3 cap2] 43)).cell? ⟨b3, off3, none⟩ = some (.int .i64 0) := by
      have h := cell_alloc (hc3 0 (by omega)) (.cells #[.int .i64 0, .int .i64 fr, .slice ao2 n3 cap2] 43)
      rw [hzA] at h
      exact h
    have HLOW : Hid (∀ i, i < n3 → A.getD i 0 = -1 ∨ ∃ m : Nat, A.getD i 0 = m ∧ m < 4096 ∧ (m : Int) < ((2 ^ fr.toNat : Nat) : Int) ∧ m &&& 0 = 0) := hlow
    have HC3 : Hid (∀ i, i < n3 → (w2.alloc (.cells #[.int .i64 0, .int .i64 fr, .slice ao2 n3 cap2] 43)).cell? ⟨b3, off3 + i, none⟩ = some (.int .i64 (A.getD i 0))) := fun i hi => cell_alloc (hc3 i hi) _
    have HBW : Hid (Below w.heap.size w (w2.alloc (.cells #[.int .i64 0, .int .i64 fr, .slice ao2 n3 cap2] 43))) := (below_call HB1.out (by have := HB1.out.size; simpa using this) hb2).alloc (by have h1 := HB1.out.size; have h2 := hb2.size; omega) _
    have z0 : (0 : Int) < n3 := by omega
    clear hlow hzA hlA HA HANS ha3 hc3 hl3 q0 q1 q2 q3 t0 t1 t2 hSu hb2
    go_quiet (fail)
    go_wp2
    go_loopw [10] (fun i wr => ∃ q : Nat, q ≤ n3 ∧ i = .int .i64 q ∧ Below w.heap.size w wr ∧ Keeps (w2.alloc (.cells #[.int .i64 0, .int .i64 fr, .slice ao2 n3 cap2] 43)) wr) (fun i _ => n3 - (intOf i).toNat)
    case atStart => exact ⟨0, Nat.zero_le _, rfl, below_drewN HBW.out _, fun _ _ h => h⟩
    case round =>
      obtain ⟨q, hq, rfl, hbr, hkp⟩ := hrel
      have HBR : Hid (Below w.heap.size w wr) := hbr
      have HKP : Hid (Keeps (w2.alloc (.cells #[.int .i64 0, .int .i64 fr, .slice ao2 n3 cap2] 43)) wr) := hkp
      have e0 := hkp _ _ c0
      have e1 := hkp _ _ (way_box w2 #[.int .i64 0, .int .i64 fr, .slice ao2 n3 cap2] 43 1 (.int .i64 fr) rfl)
      by_cases hlt : q < n3
      · have ci := hkp _ _ (HC3.out q hlt)
        have hqI : (q : Int) < n3 := by omega
        have hlw := HLOW.out q hlt
        generalize A.getD q 0 = z at ci hlw
        clear hbr hkp
        have hpw := two_lt' fr hr1 hr2
        have hsh := shl_12 fr hr1 hr2
        generalize (2 ^ fr.toNat : Nat) = T at hsh hlw hpw
        rcases hlw with rfl | ⟨m, rfl, m1, m2, m3⟩
        · have hge : decide (wrap64 (2 ^ fr.toNat) ≤ (-1 : Int)) = false := by rw [hsh]; simp only [decide_eq_false_iff_not]; omega
          clear hsh hpw
          go_wp2
          go_quiet (fail)
          go_wp2
          go_roundw
          case rel => exact ⟨q + 1, by omega, by go_num, below_drewN HBR.out _, fun a v h => HKP.out a v h⟩
          case measure => simp [intOf]; omega
        · have hge : decide (wrap64 (2 ^ fr.toNat) ≤ (m : Int)) = false := by rw [hsh]; simp only [decide_eq_false_iff_not]; omega
          have hand : (bits .and .i64 (m : Int) 0 != 0) = false := by
            have h := bits_and_nat m 0 (by omega) (by decide)
            rw [m3] at h
            have h' : bits .and .i64 (m : Int) 0 = 0 := h
            rw [h']; rfl
          clear hsh hpw m2 m3
          go_wp2
          go_quiet (fail)
          go_wp2
          go_roundw
          case rel => exact ⟨q + 1, by omega, by go_num, below_drewN HBR.out _, fun a v h => HKP.out a v h⟩
          case measure => simp [intOf]; omega
      · go_wp2
        go_ret
        exact ⟨rfl, HBR.out⟩
  · obtain ⟨hlA, hzA, hlow⟩ := HANS.out A HA.out 1 rfl
    have hn : n3 = n2 := by omega
    subst hn
    obtain rfl := ha3 (by omega)
    have c0 : (w2.alloc (.cells #[.int .i64 1, .int .i64 fr, .slice ao2 n3 cap2] 43)).cell? ⟨b3, off3, none⟩ = some (.int .i64 1) := by
      have h := cell_alloc (hc3 0 (by omega)) (.cells #[.int .i64 1, .int .i64 fr, .slice ao2 n3 cap2] 43)
      rw [hzA] at h
      exact h
    have HLOW : Hid (∀ i, i < n3 → A.getD i 0 = -1 ∨ ∃ m : Nat, A.getD i 0 = m ∧ m < 4096 ∧ (m : Int) < ((2 ^ fr.toNat : Nat) : Int) ∧ m &&& 1 = 1) := hlow
    have HC3 : Hid (∀ i, i < n3 → (w2.alloc (.cells #[.int .i64 1, .int .i64 fr, .slice ao2 n3 cap2] 43)).cell? ⟨b3, off3 + i, none⟩ = some (.int .i64 (A.getD i 0))) := fun i hi => cell_alloc (hc3 i hi) _
    have HBW : Hid (Below w.heap.size w (w2.alloc (.cells #[.int .i64 1, .int .i64 fr, .slice ao2 n3 cap2] 43))) := (below_call HB1.out (by have := HB1.out.size; simpa using this) hb2).alloc (by have h1 := HB1.out.size; have h2 := hb2.size; omega) _
    have z0 : (0 : Int) < n3 := by omega
    clear hlow hzA hlA HA HANS ha3 hc3 hl3 q0 q1 q2 q3 t0 t1 t2 hSu hb2
    go_quiet (fail)
    go_wp2
    go_loopw [10] (fun i wr => ∃ q : Nat, q ≤ n3 ∧ i = .int .i64 q ∧ Below w.heap.size w wr ∧ Keeps (w2.alloc (.cells #[.int .i64 1, .int .i64 fr, .slice ao2 n3 cap2] 43)) wr) (fun i _ => n3 - (intOf i).toNat)
    case atStart => exact ⟨0, Nat.zero_le _, rfl, below_drewN HBW.out _, fun _ _ h => h⟩
    case round =>
      obtain ⟨q, hq, rfl, hbr, hkp⟩ := hrel
      have HBR : Hid (Below w.heap.size w wr) := hbr
      have HKP : Hid (Keeps (w2.alloc (.cells #[.int .i64 1, .int .i64 fr, .slice ao2 n3 cap2] 43)) wr) := hkp
      have e0 := hkp _ _ c0
      have e1 := hkp _ _ (way_box w2 #[.int .i64 1, .int .i64 fr, .slice ao2 n3 cap2] 43 1 (.int .i64 fr) rfl)
      by_cases hlt : q < n3
      · have ci := hkp _ _ (HC3.out q hlt)
        have hqI : (q : Int) < n3 := by omega
        have hlw := HLOW.out q hlt
        generalize A.getD q 0 = z at ci hlw
        clear hbr hkp
        have hpw := two_lt' fr hr1 hr2
        have hsh := shl_12 fr hr1 hr2
        generalize (2 ^ fr.toNat : Nat) = T at hsh hlw hpw
        rcases hlw with rfl | ⟨m, rfl, m1, m2, m3⟩
        · have hge : decide (wrap64 (2 ^ fr.toNat) ≤ (-1 : Int)) = false := by rw [hsh]; simp only [decide_eq_false_iff_not]; omega
          clear hsh hpw
          go_wp2
          go_quiet (fail)
          go_wp2
          go_roundw
          case rel => exact ⟨q + 1, by omega, by go_num, below_drewN HBR.out _, fun a v h => HKP.out a v h⟩
          case measure => simp [intOf]; omega
        · have hge : decide (wrap64 (2 ^ fr.toNat) ≤ (m : Int)) = false := by rw [hsh]; simp only [decide_eq_false_iff_not]; omega
          have hand : (bits .and .i64 (m : Int) 1 != 1) = false := by
            have h := bits_and_nat m 1 (by omega) (by decide)
            rw [m3] at h
            have h' : bits .and .i64 (m : Int) 1 = 1 := h
            rw [h']; rfl
          clear hsh hpw m2 m3
          go_wp2
          go_quiet (fail)
          go_wp2
          go_roundw
          case rel => exact ⟨q + 1, by omega, by go_num, below_drewN HBR.out _, fun a v h => HKP.out a v h⟩
          case measure => simp [intOf]; omega
      · go_wp2
        go_ret
        exact ⟨rfl, HBR.out⟩
  · obtain ⟨hlA, hzA, hlow⟩ := HANS.out A HA.out 2 rfl
    have hn : n3 = n2 := by omega
    subst hn
    obtain rfl := ha3 (by omega)
    have c0 : (w2.alloc (.cells #[.int .i64 2, .int .i64 fr, .slice ao2 n3 cap2] 43)).cell? ⟨b3, off3, none⟩ = some (.int .i64 3) := by
      have h := cell_alloc (hc3 0 (by omega)) (.cells #[.int .i64 2, .int .i64 fr, .slice ao2 n3 cap2] 43)
      rw [hzA] at h
      exact h
    have HLOW : Hid (∀ i, i < n3 → A.getD i 0 = -1 ∨ ∃ m : Nat, A.getD i 0 = m ∧ m < 4096 ∧ (m : Int) < ((2 ^ fr.toNat : Nat) : Int) ∧ m &&& 3 = 3) := hlow
    have HC3 : Hid (∀ i, i < n3 → (w2.alloc (.cells #[.int .i64 2, .int .i64 fr, .slice ao2 n3 cap2] 43)).cell? ⟨b3, off3 + i, none⟩ = some (.int .i64 (A.getD i 0))) := fun i hi => cell_alloc (hc3 i hi) _
    have HBW : Hid (Below w.heap.size w (w2.alloc (.cells #[.int .i64 2, .int .i64 fr, .slice ao2 n3 cap2] 43))) := (below_call HB1.out (by have := HB1.out.size; simpa using this) hb2).alloc (by have h1 := HB1.out.size; have h2 := hb2.size; omega) _
    have z0 : (0 : Int) < n3 := by omega
    clear hlow hzA hlA HA HANS ha3 hc3 hl3 q0 q1 q2 q3 t0 t1 t2 hSu hb2
    go_quiet (fail)
    go_wp2
    go_loopw [10] (fun i wr => ∃ q : Nat, q ≤ n3 ∧ i = .int .i64 q ∧ Below w.heap.size w wr ∧ Keeps (w2.alloc (.cells #[.int .i64 2, .int .i64 fr, .slice ao2 n3 cap2] 43)) wr) (fun i _ => n3 - (intOf i).toNat)
    case atStart => exact ⟨0, Nat.zero_le _, rfl, below_drewN HBW.out _, fun _ _ h => h⟩
    case round =>
      obtain ⟨q, hq, rfl, hbr, hkp⟩ := hrel
      have HBR : Hid (Below w.heap.size w wr) := hbr
      have HKP : Hid (Keeps (w2.alloc (.cells #[.int .i64 2, .int .i64 fr, .slice ao2 n3 cap2] 43)) wr) := hkp
      have e0 := hkp _ _ c0
      have e1 := hkp _ _ (way_box w2 #[.int .i64 2, .int .i64 fr, .slice ao2 n3 cap2] 43 1 (.int .i64 fr) rfl)
      by_cases hlt : q < n3
      · have ci := hkp _ _ (HC3.out q hlt)
        have hqI : (q : Int) < n3 := by omega
        have hlw := HLOW.out q hlt
        generalize A.getD q 0 = z at ci hlw
        clear hbr hkp
        have hpw := two_lt' fr hr1 hr2
        have hsh := shl_12 fr hr1 hr2
        generalize (2 ^ fr.toNat : Nat) = T at hsh hlw hpw
        rcases hlw with rfl | ⟨m, rfl, m1, m2, m3⟩
        · have hge : decide (wrap64 (2 ^ fr.toNat) ≤ (-1 : Int)) = false := by rw [hsh]; simp only [decide_eq_false_iff_not]; omega
          clear hsh hpw
          go_wp2
          go_quiet (fail)
          go_wp2
          go_roundw
          case rel => exact ⟨q + 1, by omega, by go_num, below_drewN HBR.out _, fun a v h => HKP.out a v h⟩
          case measure => simp [intOf]; omega
        · have hge : decide (wrap64 (2 ^ fr.toNat) ≤ (m : Int)) = false := by rw [hsh]; simp only [decide_eq_false_iff_not]; omega
          have hand : (bits .and .i64 (m : Int) 3 != 3) = false := by
            have h := bits_and_nat m 3 (by omega) (by decide)
            rw [m3] at h
            have h' : bits .and .i64 (m : Int) 3 = 3 := h
            rw [h']; rfl
          clear hsh hpw m2 m3
          go_wp2
          go_quiet (fail)
          go_wp2
          go_roundw
          case rel => exact ⟨q + 1, by omega, by go_num, below_drewN HBR.out _, fun a v h => HKP.out a v h⟩
          case measure => simp [intOf]; omega
      · go_wp2
        go_ret
        exact ⟨rfl, HBR.out⟩

end Go.Proofs.YthnajfekhnocaaaDoor
