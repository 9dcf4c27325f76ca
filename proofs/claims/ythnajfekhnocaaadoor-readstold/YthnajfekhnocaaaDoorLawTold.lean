/- The walk of tierlinekeep.ReadsTold: at all raw numbers it says true, and nothing that was there has turned. -/
import Derived.Test.YthnajfekhnocaaaDoorKeepReads
import Derived.Test.YthnajfekhnocaaaDoorShapeOk
import Derived.Test.YthnajfekhnocaaaDoorLawReads
namespace Go.Proofs.YthnajfekhnocaaaDoor
open Go Go.RowKit

theorem picked_val (n many : Int) (k : Nat) (w : World) (hn : I64 n) (h1 : 0 < many) (h2 : many ≤ 1000000) (h : pickI n many = k) :
    Calls Tryd.prog 19 #[.int .i64 n, .int .i64 many] w fun e w' => e = .returned (.int .i64 k) ∧ w' = w := by
  rw [← h]; exact picked_any n many w hn h1 h2

/-- A function and an instruction of a program that lies in memory. -/
theorem prog_at {w : World} {v : Value} {P : List Fn} (hv : ProgVal w v P) {k : Nat} (hk : k < P.length) {j : Nat} (hj : j < P[k].code.length) :
    ∃ b off cap b1 off1 cap1, v = .slice (some ⟨b, off, none⟩) P.length cap ∧ w.cell? ⟨b, off + k * 3, none⟩ = some (.int .i64 P[k].params) ∧ w.cell? ⟨b, off + k * 3 + 1, none⟩ = some (.int .i64 P[k].regs) ∧
      w.cell? ⟨b, off + k * 3 + 2, none⟩ = some (.slice (some ⟨b1, off1, none⟩) P[k].code.length cap1) ∧ insAt w b1 (off1 + j * 5) P[k].code[j] ∧ cap ≤ 9223372036854775807 ∧ cap1 ≤ 9223372036854775807 ∧ P.length ≤ cap ∧ P[k].code.length ≤ cap1 := by
  obtain ⟨ao, b, off, n, cap, rfl, ⟨hlen, haddr, hat⟩, hcap, hmax⟩ := hv
  subst hlen
  obtain rfl := haddr (by omega)
  obtain ⟨u, d0, d1, d2, hcv⟩ := hat k hk
  obtain ⟨ao1, b1, off1, n1, cap1, rfl, ⟨hlen1, haddr1, hat1⟩, hc1, hmax1⟩ := hcv
  subst hlen1
  obtain rfl := haddr1 (by omega)
  exact ⟨b, off, cap, b1, off1, cap1, rfl, d0, d1, d2, hat1 j hj, by simpa [maxLen] using hmax, by simpa [maxLen] using hmax1, hcap.1, hc1.1⟩

theorem shapedP_length (l : List Fn) : (shapedP l).length = shapedN l := by simp [shapedP, shapedPart]
theorem shapedP_get (l : List Fn) (k : Nat) (h : k < (shapedP l).length) : (shapedP l)[k] = mkFn (bodyAt l k) (shapedN l) := by simp [shapedP, shapedPart]
theorem mkFn_last (b : Fn) (N : Int) : 2 ≤ (mkFn b N).code.length ∧ ∀ h : (mkFn b N).code.length - 1 < (mkFn b N).code.length, (mkFn b N).code[(mkFn b N).code.length - 1] = ⟨19, 0, 0, 0, 0⟩ := by
  have e : (mkFn b N).code = (b.code.take (min b.code.length 22)).map (fun x => mkIns x (max (pickI b.params 3) 1 + pickI b.regs 11) (min b.code.length 22 + 2 : Nat) N) ++ [⟨1, 0, 0, 0, 7⟩, ⟨19, 0, 0, 0, 0⟩] := rfl
  generalize (b.code.take (min b.code.length 22)).map (fun x => mkIns x (max (pickI b.params 3) 1 + pickI b.regs 11) (min b.code.length 22 + 2 : Nat) N) = pre at e
  generalize (mkFn b N).code = c at e
  subst e
  refine ⟨by simp, fun h => ?_⟩
  simp

theorem readsTold_plain (l : List Fn) (fn pc : Int) : ∃ k j : Nat, ∃ (hk : k < (shapedP l).length) (hj : j < (shapedP l)[k].code.length), pickI fn (shapedP l).length = k ∧ pickI pc (shapedP l)[k].code.length = j ∧
    1 ≤ (shapedP l).length ∧ (shapedP l).length ≤ 4 ∧ 2 ≤ (shapedP l)[k].code.length ∧ (shapedP l)[k].code.length ≤ 40 ∧ InsOk (shapedP l) (shapedP l)[k].code[j] ∧
    rsAns (shapedP l) k j = (rdMask (shapedP l) (shapedP l)[k].code[j], setMask (shapedP l)[k].code[j], 0) ∧ ∃ s, rsAns (shapedP l) k ((shapedP l)[k].code.length - 1) = (1, s, 0) := by
  have hok := shaped_ok l
  obtain ⟨h1, h4, hall⟩ := codeProg_zero hok
  have b1 := pickI_bounds fn (shapedP l).length (by omega)
  obtain ⟨k, hk⟩ := Int.eq_ofNat_of_zero_le b1.1
  have hkl : k < (shapedP l).length := by omega
  obtain ⟨_, _, _, _, _, l1, l2, _⟩ := codeFunc_zero (hall _ (List.getElem_mem hkl))
  have hlast := mkFn_last (bodyAt l k) (shapedN l)
  rw [← shapedP_get l k hkl] at hlast
  have b2 := pickI_bounds pc (shapedP l)[k].code.length (by omega)
  obtain ⟨j, hj⟩ := Int.eq_ofNat_of_zero_le b2.1
  have hjl : j < (shapedP l)[k].code.length := by omega
  have ans : ∀ i (hi : i < (shapedP l)[k].code.length), rsAns (shapedP l) k i = (rdMask (shapedP l) (shapedP l)[k].code[i], setMask (shapedP l)[k].code[i], 0) := by
    intro i hi
    have e : codeAt (shapedP l) k = (shapedP l)[k].code := by simp [codeAt, List.getD, hkl]
    have e2 : insAtP (shapedP l) k i = (shapedP l)[k].code[i] := by simp [insAtP, e, List.getD, hi]
    unfold rsAns
    rw [if_neg (by simp [hok]), if_neg (by simp; omega), if_neg (by simp [e]; omega)]
    simp [e2]
  refine ⟨k, j, hkl, hjl, hk, hj, h1, h4, hlast.1, l2, insOk_of hok (List.getElem_mem hkl) (List.getElem_mem hjl), ans j hjl, ?_⟩
  have := ans ((shapedP l)[k].code.length - 1) (by omega)
  rw [hlast.2 (by omega)] at this
  refine ⟨setMask ⟨19, 0, 0, 0, 0⟩, ?_⟩
  have e : (((shapedP l)[k].code.length - 1 : Nat) : Int) = ((shapedP l)[k].code.length : Int) - 1 := by omega
  rw [e] at this
  rw [this]
  simp [rdMask, rdA, rdB, readsAB, readsBB]

set_option maxHeartbeats 2000000 in
set_option maxRecDepth 100000 in
theorem readsTold_walk (l : List Fn) (v : Value) (fn pc : Int) (w : World) (ht : TabOk w) (hc : CallOk w) (hv : ProgVal w v l) (hwf : ∀ f ∈ l, f.wf) (hfn : I64 fn) (hpc : I64 pc) :
    Calls Tryd.prog 6 #[v, .int .i64 fn, .int .i64 pc] w fun e w' => e = .returned (.bool true) ∧ Below w.heap.size w w' := by
  obtain ⟨k, j, hk, hj, ek, ej, h1, h4, l1, l2, hio, hans, s, hlast⟩ := readsTold_plain l fn pc
  have hSh := shaped_mk l v w hv hwf
  obtain ⟨aol, nl, capl, rfl⟩ := hv.shape
  clear hv hwf
  have HT : Hid (TabOk w) := ht
  have HC : Hid (CallOk w) := hc
  clear ht hc
  have hR1 := fun V W a b c => reads_all (shapedP l) V k j W a b c
  rw [hans] at hR1
  have hR2 := fun V W a b c => reads_all (shapedP l) V k ((shapedP l)[k].code.length - 1) W a b c
  rw [hlast] at hR2
  have hK := fun V W a => reads_keep (shapedP l) V (shapedP l)[k].code[j] W a hio
  have hAt := fun (W : World) (V : Value) (hV : ProgVal W V (shapedP l)) => prog_at hV hk hj
  have hsm := readsL_small hio
  have HME : Hid (maskPart (readsL (shapedP l) (shapedP l)[k].code[j]) (readsL (shapedP l) (shapedP l)[k].code[j]).length = rdMask (shapedP l) (shapedP l)[k].code[j]) := mask_reads _ _
  have hsd := hio.dst0
  have hsd1 := hio.dst1
  dsimp only at hR1 hR2
  have HSB : Hid (setMask (shapedP l)[k].code[j] = if setsB (shapedP l)[k].code[j].op = true then 2 ^ (shapedP l)[k].code[j].dst.toNat else 0) := rfl
  clear hans hlast hio
  generalize rdMask (shapedP l) (shapedP l)[k].code[j] = RM at hR1 HME
  generalize readsL (shapedP l) (shapedP l)[k].code[j] = L at hK hsm HME
  generalize setMask (shapedP l)[k].code[j] = SM at hR1 HSB
  generalize hx : (shapedP l)[k].code[j] = x at hK hAt hsd hsd1 HSB
  clear hx
  have hjI : (j : Int) < (shapedP l)[k].code.length := by omega
  have hkI : (k : Int) < (shapedP l).length := by omega
  clear hj
  generalize hg : (shapedP l)[k] = g at hAt ej l1 l2 hR2 hjI
  clear hg
  generalize shapedP l = P at *
  have HSM : Hid (∀ r ∈ L, 0 ≤ r ∧ r < 12) := hsm
  have hRa := hR1
  have hRb := hR2
  have hKa := hK
  clear hsm hR1 hR2 hK
  obtain ⟨op, dst, a, b', imm⟩ := x
  obtain ⟨gp, gr, gc⟩ := g
  unfold Ins.val at hKa
  dsimp only at hsd hsd1 HSB hKa hAt ej l1 l2 hRb hjI
  generalize hN : P.length = N at *
  generalize hM : gc.length = M at *
  have HN : Hid (P.length = N) := hN
  clear hN hM
  go_enter Tryd.func6, Tryd.ntmps6
  go_wp2_with (first
    | (go_at_call 18; refine hSh.mono ?_; rintro e w1 ⟨v1, us, rfl, hbt, hb1⟩; have hp1 := hbt.prog; obtain ⟨b, off, cap, b1, off1, cap1, rfl, d0, d1, d2, gi, m1, m2, m3, m4⟩ := hAt _ _ hp1; have t2 := fun o => cell_alloc d2 o; clear hbt d0 d1)
    | (go_at_call 19; refine (picked_any _ _ _ (by assumption) (by omega) (by omega)).mono ?_; rintro e w' ⟨rfl, hw'⟩; replace hw' := hw'.symm; subst hw')
    | (go_at_call 16; have hal : Below w1.heap.size w1 (w1.alloc (.cells #[.slice (some ⟨b, off, none⟩) N cap] 24)) := (Below.refl _ _).alloc (Nat.le_refl _) _; have hT1 := (HT.out.below hb1).below hal; have hC1 := (HC.out.below hb1).below hal; have hP1 := hp1.keeps (keeps_below hal); refine (hRa _ _ hT1 hC1 hP1).mono ?_; rintro e w2 ⟨rfl, hb2⟩; have hT2 := hT1.below hb2; have hC2 := hC1.below hb2; have hP2 := hP1.keeps (keeps_below hb2); have q0 := keeps_below hb2 ⟨w1.heap.size, 0, none⟩ (.slice (some ⟨b, off, none⟩) N cap) (by simp); have q2 := keeps_below hb2 _ _ (t2 _); obtain ⟨g0, g1, g2, g3, g4⟩ := (gi.keeps (keeps_below hal)).keeps (keeps_below hb2); have HB2 : Hid (Below w.heap.size w w2) := below_step hb1 hb1.size hb2))
  have hPd : ∀ m, ProgVal (w2.drewN m) (.slice (some ⟨b, off, none⟩) N cap) P := fun m => hP2.keeps fun _ _ h => h
  have hPd1 : ProgVal w2.drew (.slice (some ⟨b, off, none⟩) N cap) P := hP2.keeps fun _ _ h => h
  have HTC : Hid (TabOk w2 ∧ CallOk w2) := ⟨hT2, hC2⟩
  clear hAt hT1 hC1 hP1 hal gi hp1 t2 d2 hb1 hb2 hT2 hC2 hRa hSh ek ej
  go_region_held3 (fun w' => w'.cell? ⟨w1.heap.size, 0, none⟩ = some (.slice (some ⟨b, off, none⟩) N cap) ∧ w'.cell? ⟨b, off + k * 3 + 2, none⟩ = some (.slice (some ⟨b1, off1, none⟩) M cap1) ∧ w'.cell? ⟨b1, off1 + j * 5, none⟩ = some (.int .i64 op) ∧ w'.cell? ⟨b1, off1 + j * 5 + 1, none⟩ = some (.int .i64 dst) ∧ w'.cell? ⟨b1, off1 + j * 5 + 2, none⟩ = some (.int .i64 a) ∧ w'.cell? ⟨b1, off1 + j * 5 + 3, none⟩ = some (.int .i64 b') ∧ w'.cell? ⟨b1, off1 + j * 5 + 4, none⟩ = some (.int .i64 imm)) (go_keep) ((go_at_call 20; refine (hKa _ _ hPd1).mono ?_; rintro e w3 ⟨v3, rfl, hI3, hb3⟩; obtain ⟨ao3, b3, off3, n3, cap3, rfl, hl3, ha3, hc3, _, hmx3⟩ := hI3; have r0 := keeps_below hb3 _ _ q0; have r2 := keeps_below hb3 _ _ q2; have s0 := keeps_below hb3 _ _ g0; have s1 := keeps_below hb3 _ _ g1; have s2 := keeps_below hb3 _ _ g2; have s3 := keeps_below hb3 _ _ g3; have s4 := keeps_below hb3 _ _ g4))
  have HL3 : Hid (L.length = n3) := hl3
  have HA3 : Hid (0 < n3 → ao3 = some ⟨b3, off3, none⟩) := ha3
  have HC3 : Hid (∀ q (h : q < L.length), w3.cell? ⟨b3, off3 + q, none⟩ = some (.int .i64 L[q])) := hc3
  have HB3 : Hid (Below w.heap.size w w3) := HB2.out.drew.trans (hb3.mono (by have := HB2.out.size; simpa using this))
  have HT3 : Hid (TabOk w3 ∧ CallOk w3) := ⟨fun i hi => keeps_below hb3 _ _ (HTC.out.1 i hi), fun i hi => keeps_below hb3 _ _ (HTC.out.2 i hi)⟩
  have hP3 := hPd1.keeps (keeps_below hb3)
  unfold maxLen at hmx3
  rename_i hcp3 hHeld
  have HCP : Hid (n3 ≤ cap3) := hcp3.1
  clear hl3 ha3 hc3 hHeld hcp3 s0 s1 s2 s3 s4 q0 q2 g0 g1 g2 g3 g4 hPd hPd1 hP2 hb3 HTC hKa
  have HSI : Hid (setsI ⟨op, dst, a, b', imm⟩ = if setsB op = true then dst else -1) := rfl
  generalize setsI ⟨op, dst, a, b', imm⟩ = SI at HSI
  go_wp2
  go_loop [15, 16] (fun m i => ∃ q : Nat, q ≤ n3 ∧ i = .int .i64 q ∧ m = .int .i64 (maskPart L q)) (fun _ i => n3 - (intOf i).toNat)
  case atStart => exact ⟨0, Nat.zero_le _, rfl, rfl⟩
  case round =>
    obtain ⟨q, hq, rfl, rfl⟩ := hrel
    have hcap3 := HCP.out
    by_cases hlt : q < n3
    · obtain rfl := HA3.out (by omega)
      have hqL : q < L.length := by rw [HL3.out]; exact hlt
      have cq := HC3.out q hqL
      obtain ⟨r0', r1'⟩ := HSM.out L[q] (List.getElem_mem hqL)
      have HST : Hid (bits .or .i64 (maskPart L q : Int) (wrap64 (2 ^ L[q].toNat)) = (maskPart L (q + 1) : Int)) := by
        show _ = _
        rw [shl_one _ r0' r1', bits_or_nat _ _ (maskPart_lt L HSM.out q) (two_lt _ (by omega)), maskPart_succ L q hqL]
      generalize maskPart L q = m at HST
      generalize L[q] = R at cq r0' r1' HST
      go_wp2
      go_round
      case rel => exact ⟨q + 1, by omega, by go_num, by rw [← HST.out]⟩
      case measure => simp [intOf]; omega
    · obtain rfl : q = n3 := by omega
      have hM : maskPart L q = RM := by
        have h := HME.out
        rw [HL3.out] at h
        exact h
      rw [hM]
      clear hM
      have hTd : ∀ d : Later w3, TabOk d.to ∧ CallOk d.to ∧ ProgVal d.to (.slice (some ⟨b, off, none⟩) N cap) P := fun d => ⟨HT3.out.1.below d.below, HT3.out.2.below d.below, hP3.keeps (keeps_below d.below)⟩
      have e0 := Later.cell r0
      have e2 := Later.cell r2
      cases hs : setsB op
      · have hSM : SM = 0 := by
          have h := HSB.out
          rw [hs] at h
          exact h
        have hSI : SI = -1 := by
          have h := HSI.out
          rw [hs] at h
          exact h
        subst hSM
        subst hSI
        clear hs
        go_wp2
        refine wp_region_later (by kernel_rfl) (by kernel_rfl) ?_
        repeat (go_big_quiet_step ((go_at_call 16; exact calls_later (hRb _ _ (hTd _).1 (hTd _).2.1 (hTd _).2.2))))
        refine wpQuiet_nil ?_
        intro _ hw'
        obtain ⟨d, hw''⟩ := hw'
        subst hw''
        go_wp2
        go_ret
        exact ⟨rfl, HB3.out.trans (d.below.mono (by have := HB3.out.size; omega))⟩
      · have hSM : (SM : Int) = wrap64 (2 ^ dst.toNat) := by
          have h := HSB.out
          rw [hs] at h
          rw [h, shl_one dst hsd hsd1]
          rfl
        have hSI : SI = dst := by
          have h := HSI.out
          rw [hs] at h
          exact h
        subst hSI
        have hq2 : ((SM : Int) == wrap64 (2 ^ SI.toNat)) = true := by rw [hSM]; simp
        clear hs hSM
        go_wp2
        refine wp_region_later (by kernel_rfl) (by kernel_rfl) ?_
        repeat (go_big_quiet_step ((go_at_call 16; exact calls_later (hRb _ _ (hTd _).1 (hTd _).2.1 (hTd _).2.2))))
        refine wpQuiet_nil ?_
        intro _ hw'
        obtain ⟨d, hw''⟩ := hw'
        subst hw''
        go_wp2
        go_ret
        exact ⟨rfl, HB3.out.trans (d.below.mono (by have := HB3.out.size; omega))⟩

end Go.Proofs.YthnajfekhnocaaaDoor
