/- The walk of tierlinekeep.SsaReads: at all raw numbers it says true, and nothing that was there has turned. -/
import Derived.Test.YtdpaohmaafngkaaDoorXSsaInss
import Derived.Test.YtdpaohmaafngkaaDoorXKeepReads
import Derived.Test.YtdpaohmaafngkaaDoorXRightRaw
namespace Go.Proofs.YtdpaohmaafngkaaDoor
open Go Go.RowKit

theorem infoIns6p : (Tryd.prog.info? 55).map (·.size) = some 6 := by kernel_rfl
theorem infoInstr5p : (Tryd.prog.info? 31).map (·.size) = some 5 := by kernel_rfl
set_option maxHeartbeats 8000000 in
set_option maxRecDepth 100000 in
theorem ssaReads_walk (l : List Fn) (v : Value) (fn : Int) (w : World) (ht : TabOk w) (hc : CallOk w) (hv : ProgVal w v l) (hwf : ∀ f ∈ l, f.wf) (hfn : I64 fn) :
    Calls Tryd.prog 8 #[v, .int .i64 fn] w fun e w' => e = .returned (.bool true) ∧ Below w.heap.size w w' := by
  have hSh := program_raw l v w ht hc hv hwf
  obtain ⟨aol, nl, capl, rfl⟩ := hv.shape
  have HT : Hid (TabOk w) := ht
  have HCO : Hid (CallOk w) := hc
  clear hv hwf ht hc
  go_enter Tryd.func8, Tryd.ntmps8
  go_upto_region 2 with (go_at_call 9; refine hSh.mono ?_; rintro e w1 ⟨v1, P, us, rfl, hpi, hbt, hb1⟩; have hp1 := hbt.prog; have hcp := progIs_code hpi; obtain ⟨hn1, hn4, -⟩ := codeProg_zero hcp; obtain ⟨k, hk, ek⟩ := pick_some fn P.length hn1; obtain ⟨b, off, cap, u, rfl, d0, d1, d2, hcv, hm, hcc⟩ := prog_fn hp1 hk)
  have hRi := progIs_ans hpi
  have OK : Hid (FlowOk P P[k]) := flowOk_of hRi (List.getElem_mem hk)
  have hl1 := OK.out.ok.len1
  have hl2 := OK.out.ok.len2
  have hfe := fnErr_ok hcp hk
  have hca : codeAt P k = P[k].code := by simp [codeAt, List.getD, hk]
  have HBD : Hid (∀ W, Below w1.heap.size w1 W → Calls Tryd.prog 11 #[.agg #[.slice (some ⟨b, off, none⟩) P.length cap], .int .i64 k] W (BuildPost W P P[k])) := fun W hb => Build_right P hRi k hk _ W ((HT.out.below hb1).below hb) ((HCO.out.below hb1).below hb) (hp1.keeps (keeps_below hb))
  have HUR : Hid (∀ q, q < P[k].code.length → Way P[k] 63 q → ∀ r, r < 12 → (rdMask P (insD P[k] q)).testBit r = true → ¬ Way P[k] r q) := right_reads hRi (List.getElem_mem hk)
  obtain ⟨ao2, b2, off2, n, cap2, rfl, ⟨hlen2, haddr2, hat2⟩, hcap2, hmx2⟩ := hcv
  obtain rfl := haddr2 (by omega)
  have HIN : Hid (∀ W, Below w1.heap.size w1 W → ∀ q, q < n → W.cell? ⟨b2, off2 + q * 5, none⟩ = some (.int .i64 (insD P[k] q).op)) := fun W hW q hq => by
    have hqf : q < P[k].code.length := by rw [hlen2]; exact hq
    rw [insD_eq hqf]
    exact keeps_below hW _ _ (hat2 q hqf).1
  have HIA : Hid (∀ W, Below w1.heap.size w1 W → ∀ q, q < n → insAt W b2 (off2 + q * 5) (insD P[k] q)) := fun W hW q hq => by
    have hqf : q < P[k].code.length := by rw [hlen2]; exact hq
    rw [insD_eq hqf]
    exact (hat2 q hqf).keeps (keeps_below hW)
  have HPV : Hid (∀ W, Below w1.heap.size w1 W → ProgVal W (.slice (some ⟨b, off, none⟩) P.length cap) P) := fun W hW => hp1.keeps (keeps_below hW)
  have HB1 : Hid (Below w.heap.size w w1) := hb1
  have hz1 := hb1.size
  have hkI : (k : Int) < P.length := by omega
  have hcc2 := hcap2.1
  have HN : Hid (P[k].code.length = n) := hlen2
  clear hfe hRi hpi hcp hbt hp1 hb1 hSh hca hat2 haddr2 hcap2
  rw [hlen2] at hl1 hl2
  generalize P[k] = f at *
  clear hlen2
  unfold maxLen at hmx2
  have d0' := fun o => cell_alloc d0 o
  have d1' := fun o => cell_alloc d1 o
  have t2 := fun o => cell_alloc d2 o
  generalize hNN : P.length = N at *
  clear hNN
  have HWA : Hid (Below w1.heap.size w1 (w1.alloc (.cells #[.slice (some ⟨b, off, none⟩) N cap] 25))) := (Below.refl _ _).alloc (Nat.le_refl _) _
  go_upto_region 4 with (first
    | (go_at_call 12; refine (picked_any _ _ _ hfn (by omega) (by omega)).mono ?_; rintro e w' ⟨rfl, hw'⟩; replace hw' := hw'.symm; subst hw')
    | (go_at_call 11; refine (HBD.out _ HWA.out).mono ?_; rintro e w2 hp; obtain ⟨S, T, L, pn, g0, D, ar, gp, Ly, rfl, hIS, hPA, hb2⟩ := hp))
  have q0 := cell_alloc (keeps_below hb2 ⟨w1.heap.size, 0, none⟩ (.slice (some ⟨b, off, none⟩) N cap) (by simp)) (.cells #[.int .i64 (pn : Int), .int .i64 ((idsD pn S.length D).length : Int), .slice (some ⟨gp, 0, none⟩) S.length S.length] 36)
  have q2 := cell_alloc (keeps_below hb2 _ _ (t2 _)) (.cells #[.int .i64 (pn : Int), .int .i64 ((idsD pn S.length D).length : Int), .slice (some ⟨gp, 0, none⟩) S.length S.length] 36)
  have r7 : (w2.alloc (.cells #[.int .i64 (pn : Int), .int .i64 ((idsD pn S.length D).length : Int), .slice (some ⟨gp, 0, none⟩) S.length S.length] 36)).heap[w2.heap.size]? = some (.cells #[.int .i64 (pn : Int), .int .i64 ((idsD pn S.length D).length : Int), .slice (some ⟨gp, 0, none⟩) S.length S.length] 36 (0, 0)) := heap_alloc_last w2 _
  have hkn : S.length ≤ 40 := blocks40 OK.out hIS.ok
  obtain ⟨hk0, -⟩ := hIS.ok.starts.first
  have hk0I : decide (0 < (S.length : Int)) = true := by simp only [decide_eq_true_eq]; omega
  have hk0J : decide (0 < S.length) = true := by simp only [decide_eq_true_eq]; omega
  have HB2 : Hid (Below w1.heap.size w1 (w2.alloc (.cells #[.int .i64 (pn : Int), .int .i64 ((idsD pn S.length D).length : Int), .slice (some ⟨gp, 0, none⟩) S.length S.length] 36))) := (HWA.out.trans (hb2.mono HWA.out.size)).alloc (HWA.out.trans (hb2.mono HWA.out.size)).size _
  have hPA2 := hPA.below ((Below.refl _ _).alloc (Nat.le_refl _) (.cells #[.int .i64 (pn : Int), .int .i64 ((idsD pn S.length D).length : Int), .slice (some ⟨gp, 0, none⟩) S.length S.length] 36))
  have hIN := hIS.inss OK.out HUR.out hPA2
  clear hPA hPA2 hb2 t2 d0' d1' d0 d1 d2 HBD
  generalize (w2.alloc (.cells #[.int .i64 (pn : Int), .int .i64 ((idsD pn S.length D).length : Int), .slice (some ⟨gp, 0, none⟩) S.length S.length] 36)) = w3 at *
  generalize ((idsD pn S.length D).length : Int) = VL at *
  have HIX : Hid (∀ i, i < S.length → ∃ (ao : Option Addr) (q c ni : Nat), ni ≤ 40 ∧ ni ≤ c ∧ (0 < ni → ao = some ⟨q, 0, none⟩) ∧ (∀ W, Below w3.heap.size w3 W → W.cell? ⟨gp, i * 15 + 2, none⟩ = some (.slice ao ni c)) ∧
      ∀ j, j < ni → ∃ (x : InsD) (pc : Nat), pc < f.code.length ∧ InsOk P (insD f pc) ∧ x.pc = (pc : Int) ∧ x.imm = (insD f pc).imm ∧ (0 ≤ x.a ↔ rdA P (insD f pc) = true) ∧ (0 ≤ x.b ↔ rdB P (insD f pc) = true) ∧ (0 ≤ x.id ↔ setsB (insD f pc).op = true) ∧ x.a < VL ∧ x.b < VL ∧ ∀ W, Below w3.heap.size w3 W → W.rangeAt q (j * 6) (inC x)) := hIN
  have HQQ : Hid (∀ W, Below w3.heap.size w3 W → W.cell? ⟨w1.heap.size, 0, none⟩ = some (.slice (some ⟨b, off, none⟩) N cap) ∧ W.cell? ⟨b, off + k * 3 + 2, none⟩ = some (.slice (some ⟨b2, off2, none⟩) n cap2) ∧ W.cell? ⟨w2.heap.size, 1, none⟩ = some (.int .i64 VL) ∧ W.cell? ⟨w2.heap.size, 2, none⟩ = some (.slice (some ⟨gp, 0, none⟩) S.length S.length)) := fun W hW => by
    refine ⟨keeps_below hW _ _ q0, keeps_below hW _ _ q2, ?_, ?_⟩
    · refine keeps_below hW _ _ ?_
      rw [cell_of_row _ _ _ _ _ _ r7]; rfl
    · refine keeps_below hW _ _ ?_
      rw [cell_of_row _ _ _ _ _ _ r7]; rfl
  have HB3 : Hid (Below w.heap.size w w3) := HB1.out.trans (HB2.out.mono hz1)
  have hkS : k < N := hk
  clear q0 q2 r7 hIS hIN
  generalize S.length = K at *
  go_upto_region 5 with fail
  go_loopw [9] (fun i wr => ∃ q : Nat, q ≤ K ∧ i = .int .i64 q ∧ Below w3.heap.size w3 wr) (fun i _ => K - (intOf i).toNat)
  case atStart => exact ⟨0, Nat.zero_le _, rfl, Below.refl _ _⟩
  case round =>
    obtain ⟨i, hi, rfl, hbo⟩ := hrel
    rename World => wo
    have HBO : Hid (Below w3.heap.size w3 wo) := hbo
    obtain ⟨u0, -, u1, u2⟩ := HQQ.out wo hbo
    clear hbo
    by_cases hlt : i < K
    · have hiI : (i : Int) < K := by omega
      obtain ⟨ao, q, c, ni, hni, hnc, hao, hcp, hj⟩ := HIX.out i hlt
      have HCP : Hid (∀ W, Below w3.heap.size w3 W → W.cell? ⟨gp, i * 15 + 2, none⟩ = some (.slice ao ni c)) := hcp
      have HAO : Hid (0 < ni → ao = some ⟨q, 0, none⟩) := hao
      have HJ : Hid (∀ j, j < ni → ∃ (x : InsD) (pc : Nat), pc < f.code.length ∧ InsOk P (insD f pc) ∧ x.pc = (pc : Int) ∧ x.imm = (insD f pc).imm ∧ (0 ≤ x.a ↔ rdA P (insD f pc) = true) ∧ (0 ≤ x.b ↔ rdB P (insD f pc) = true) ∧ (0 ≤ x.id ↔ setsB (insD f pc).op = true) ∧ x.a < VL ∧ x.b < VL ∧ ∀ W, Below w3.heap.size w3 W → W.rangeAt q (j * 6) (inC x)) := hj
      clear hao hcp hj
      go_wp2
      go_loopw [10] (fun j wr => ∃ z : Nat, z ≤ ni ∧ j = .int .i64 z ∧ Below w3.heap.size w3 wr) (fun j _ => ni - (intOf j).toNat)
      case atStart => exact ⟨0, Nat.zero_le _, rfl, HBO.out⟩
      case round =>
        obtain ⟨j, hj, rfl, hbi⟩ := hrel
        rename World => wi
        have HBI : Hid (Below w3.heap.size w3 wi) := hbi
        obtain ⟨u0, ut, u1, u2⟩ := HQQ.out wi hbi
        have c1 := HCP.out wi hbi
        clear hbi
        by_cases hlj : j < ni
        · have hjI : (j : Int) < ni := by omega
          obtain ⟨x, pc, hpc, hio, e5, e4, ea, eb, eid, hva, hvb, hw⟩ := HJ.out j hlj
          have hao := HAO.out (by omega)
          subst hao
          rw [HN.out] at hpc
          obtain ⟨xo, xi, xa, xb, xm, xp⟩ := x
          dsimp only at e5 e4 ea eb eid hva hvb
          subst e5
          subst e4
          have hrk := hw wi HBI.out
          unfold inC at hrk
          dsimp only at hrk
          clear hw
          go_upto_region 11 with (refine wpList_load_mid rfl 55 _ rfl q (j * 6) rfl _ _ hrk Tryd.underlying55 rfl infoIns6p ?_)
          have HBA : Hid (Below w3.heap.size w3 (wi.alloc (.cells #[.int .i64 xo, .int .i64 xi, .int .i64 xa, .int .i64 xb, .int .i64 (insD f pc).imm, .int .i64 (pc : Int)] 55))) := HBI.out.alloc HBI.out.size _
          have r11 : (wi.alloc (.cells #[.int .i64 xo, .int .i64 xi, .int .i64 xa, .int .i64 xb, .int .i64 (insD f pc).imm, .int .i64 (pc : Int)] 55)).heap[wi.heap.size]? = some (.cells #[.int .i64 xo, .int .i64 xi, .int .i64 xa, .int .i64 xb, .int .i64 (insD f pc).imm, .int .i64 (pc : Int)] 55 (0, 0)) := heap_alloc_last wi _
          have HIO : Hid (InsOk P (insD f pc)) := hio
          have HRW : Hid ((0 ≤ xa ↔ rdA P (insD f pc) = true) ∧ (0 ≤ xb ↔ rdB P (insD f pc) = true) ∧ (0 ≤ xi ↔ setsB (insD f pc).op = true)) := ⟨ea, eb, eid⟩
          clear c1 hrk u0 ut u1 u2 ea eb eid hio
          generalize (wi.alloc (.cells #[.int .i64 xo, .int .i64 xi, .int .i64 xa, .int .i64 xb, .int .i64 (insD f pc).imm, .int .i64 (pc : Int)] 55)) = V at *
          generalize wi.heap.size = G at *
          have HXC : Hid (∀ W, Below V.heap.size V W → W.cell? ⟨G, 1, none⟩ = some (.int .i64 xi) ∧ W.cell? ⟨G, 2, none⟩ = some (.int .i64 xa) ∧ W.cell? ⟨G, 3, none⟩ = some (.int .i64 xb) ∧ W.cell? ⟨G, 4, none⟩ = some (.int .i64 (insD f pc).imm) ∧ W.cell? ⟨G, 5, none⟩ = some (.int .i64 (pc : Int))) := fun W hW => by
            refine ⟨keeps_below hW _ _ ?_, keeps_below hW _ _ ?_, keeps_below hW _ _ ?_, keeps_below hW _ _ ?_, keeps_below hW _ _ ?_⟩ <;> (rw [cell_of_row _ _ _ _ _ _ r11]; rfl)
          have HQV : Hid (∀ W, Below V.heap.size V W → W.cell? ⟨w1.heap.size, 0, none⟩ = some (.slice (some ⟨b, off, none⟩) N cap) ∧ W.cell? ⟨b, off + k * 3 + 2, none⟩ = some (.slice (some ⟨b2, off2, none⟩) n cap2) ∧ W.cell? ⟨w2.heap.size, 1, none⟩ = some (.int .i64 VL) ∧ W.cell? ⟨w2.heap.size, 2, none⟩ = some (.slice (some ⟨gp, 0, none⟩) K K)) := fun W hW => HQQ.out W (HBA.out.trans (hW.mono HBA.out.size))
          obtain ⟨-, -, -, -, y5⟩ := HXC.out V (Below.refl _ _)
          obtain ⟨v0, v1, -, -⟩ := HQV.out V (Below.refl _ _)
          have hpcI : (pc : Int) < n := by omega
          have hp1 : decide ((pc : Int) < 0) = false := by simp only [decide_eq_false_iff_not]; omega
          have hp2 : decide ((n : Int) ≤ pc) = false := by simp only [decide_eq_false_iff_not]; omega
          have hp3 : ¬ ((pc : Int) < 0) := by omega
          have hp4 : ¬ ((n : Int) ≤ pc) := by omega
          clear r11
          go_quiet (fail)
          have HV9 : Hid (Below V.heap.size V (V.drewN nq)) := below_drewN (Below.refl _ _) nq
          generalize V.drewN nq = V9 at *
          go_upto_region 13 with fail
          have HX9 : Hid (∀ W, Below V9.heap.size V9 W → W.cell? ⟨G, 1, none⟩ = some (.int .i64 xi) ∧ W.cell? ⟨G, 2, none⟩ = some (.int .i64 xa) ∧ W.cell? ⟨G, 3, none⟩ = some (.int .i64 xb) ∧ W.cell? ⟨G, 4, none⟩ = some (.int .i64 (insD f pc).imm) ∧ W.cell? ⟨G, 5, none⟩ = some (.int .i64 (pc : Int))) := fun W hW => HXC.out W (HV9.out.trans (hW.mono HV9.out.size))
          have HQ9 : Hid (∀ W, Below V9.heap.size V9 W → W.cell? ⟨w1.heap.size, 0, none⟩ = some (.slice (some ⟨b, off, none⟩) N cap) ∧ W.cell? ⟨b, off + k * 3 + 2, none⟩ = some (.slice (some ⟨b2, off2, none⟩) n cap2) ∧ W.cell? ⟨w2.heap.size, 1, none⟩ = some (.int .i64 VL) ∧ W.cell? ⟨w2.heap.size, 2, none⟩ = some (.slice (some ⟨gp, 0, none⟩) K K)) := fun W hW => HQV.out W (HV9.out.trans (hW.mono HV9.out.size))
          have HB9 : Hid (Below w3.heap.size w3 V9) := HBA.out.trans (HV9.out.mono HBA.out.size)
          have HINS : Hid (∀ W, Below V9.heap.size V9 W → W.rangeAt b2 (off2 + pc * 5) [.int .i64 (insD f pc).op, .int .i64 (insD f pc).dst, .int .i64 (insD f pc).a, .int .i64 (insD f pc).b, .int .i64 (insD f pc).imm]) := fun W hb i u hu => by
            obtain ⟨z0, z1, z2, z3, z4⟩ := HIA.out W (HB2.out.trans ((HB9.out.trans (hb.mono HB9.out.size)).mono HB2.out.size)) pc hpc
            match i, hu with
            | 0, hu => cases hu; exact z0
            | 1, hu => cases hu; exact z1
            | 2, hu => cases hu; exact z2
            | 3, hu => cases hu; exact z3
            | 4, hu => cases hu; exact z4
            | i + 5, hu => simp at hu
          clear v0 v1 y5 hp1 hp2 hp3 hp4 HXC HQV HV9 HIA
          generalize insD f pc = X at *
          obtain ⟨io, idd, ia, ib, im⟩ := X
          dsimp only at *
          refine wp_region_held_drew (S := fun W => Below V9.heap.size V9 W) (by kernel_rfl) ((Below.refl _ _).drew) (fun hHeld => ?_)
          show wpAnyH _ _ _ _ _ 12 _ _ _
          refine wpAnyH_take (i := 0) (v := ?_) rfl (by kernel_rfl) (by kernel_rfl) (by kernel_rfl) (fun _ _ _ h => h) (Or.inl ⟨by rfl, ?_⟩) (by assumption) ?_
          rotate_left
          · (intro W hSW; go_simp; try (with_reducible rfl))
          (try simp only [List.getElem_toArray, List.getElem_cons_zero])
          (try simp only [Act.put, List.setIfInBounds_toArray, List.set_cons_zero, List.set_cons_succ])
          refine wpAnyH_take (i := 1) (v := ?_) rfl (by kernel_rfl) (by kernel_rfl) (by kernel_rfl) (fun _ _ _ h => h) (Or.inl ⟨by rfl, ?_⟩) (by assumption) ?_
          rotate_left
          · (intro W hSW; have zz := (HQ9.out W hSW).1; go_simp; try (with_reducible rfl))
          (try simp only [List.getElem_toArray, List.getElem_cons_succ, List.getElem_cons_zero])
          (try simp only [Act.put, List.setIfInBounds_toArray, List.set_cons_zero, List.set_cons_succ])
          refine wpAnyH_take (i := 2) (v := ?_) rfl (by kernel_rfl) (by kernel_rfl) (by kernel_rfl) (fun _ _ _ h => h) (Or.inl ⟨by rfl, ?_⟩) (by assumption) ?_
          rotate_left
          · (intro W hSW; go_simp; try (with_reducible rfl))
          (try simp only [List.getElem_toArray, List.getElem_cons_succ, List.getElem_cons_zero])
          (try simp only [Act.put, List.setIfInBounds_toArray, List.set_cons_zero, List.set_cons_succ])
          refine wpAnyH_take (i := 3) (v := ?_) rfl (by kernel_rfl) (by kernel_rfl) (by kernel_rfl) (fun _ _ _ h => h) (Or.inl ⟨by rfl, ?_⟩) (by assumption) ?_
          rotate_left
          · (intro W hSW; go_simp; try (with_reducible rfl))
          (try simp only [List.getElem_toArray, List.getElem_cons_succ, List.getElem_cons_zero])
          (try simp only [Act.put, List.setIfInBounds_toArray, List.set_cons_zero, List.set_cons_succ])
          refine wpAnyH_take (i := 4) (v := ?_) rfl (by kernel_rfl) (by kernel_rfl) (by kernel_rfl) (fun _ _ _ h => h) (Or.inl ⟨by rfl, ?_⟩) (by assumption) ?_
          rotate_left
          · (intro W hSW; go_simp; try (with_reducible rfl))
          (try simp only [List.getElem_toArray, List.getElem_cons_succ, List.getElem_cons_zero])
          (try simp only [Act.put, List.setIfInBounds_toArray, List.set_cons_zero, List.set_cons_succ])
          refine wpAnyH_take (i := 5) (v := ?_) rfl (by kernel_rfl) (by kernel_rfl) (by kernel_rfl) (fun _ _ _ h => h) (Or.inl ⟨by rfl, ?_⟩) (by assumption) ?_
          rotate_left
          · (intro W hSW; have zz := (HQ9.out W hSW).2.1; go_simp; try (with_reducible rfl))
          (try simp only [List.getElem_toArray, List.getElem_cons_succ, List.getElem_cons_zero])
          (try simp only [Act.put, List.setIfInBounds_toArray, List.set_cons_zero, List.set_cons_succ])
          refine wpAnyH_take (i := 6) (v := ?_) rfl (by kernel_rfl) (by kernel_rfl) (by kernel_rfl) (fun _ _ _ h => h) (Or.inl ⟨by rfl, ?_⟩) (by assumption) ?_
          rotate_left
          · (intro W hSW; go_simp; try (with_reducible rfl))
          (try simp only [List.getElem_toArray, List.getElem_cons_succ, List.getElem_cons_zero])
          (try simp only [Act.put, List.setIfInBounds_toArray, List.set_cons_zero, List.set_cons_succ])
          refine wpAnyH_take (i := 7) (v := ?_) rfl (by kernel_rfl) (by kernel_rfl) (by kernel_rfl) (fun _ _ _ h => h) (Or.inl ⟨by rfl, ?_⟩) (by assumption) ?_
          rotate_left
          · (intro W hSW; have zz := (HX9.out W hSW).2.2.2.2; go_simp; try (with_reducible rfl))
          (try simp only [List.getElem_toArray, List.getElem_cons_succ, List.getElem_cons_zero])
          (try simp only [Act.put, List.setIfInBounds_toArray, List.set_cons_zero, List.set_cons_succ])
          refine wpAnyH_take (i := 8) (v := ?_) rfl (by kernel_rfl) (by kernel_rfl) (by kernel_rfl) (fun _ _ _ h => h) (Or.inl ⟨by rfl, ?_⟩) (by assumption) ?_
          rotate_left
          · (intro W hSW; go_simp; try (with_reducible rfl))
          (try simp only [List.getElem_toArray, List.getElem_cons_succ, List.getElem_cons_zero])
          (try simp only [Act.put, List.setIfInBounds_toArray, List.set_cons_zero, List.set_cons_succ])
          refine wpAnyH_take (i := 9) (v := .agg [Value.int .i64 io, .int .i64 idd, .int .i64 ia, .int .i64 ib, .int .i64 im].toArray) rfl (by kernel_rfl) (by kernel_rfl) (by kernel_rfl) (fun _ _ _ h => h) (yieldsIf_load_mid (by rfl) 31 _ rfl b2 (off2 + pc * 5) rfl [.int .i64 io, .int .i64 idd, .int .i64 ia, .int .i64 ib, .int .i64 im] _ HINS.out Tryd.underlying31 rfl infoInstr5p) (by assumption) ?_
          (try simp only [List.getElem_toArray, List.getElem_cons_succ, List.getElem_cons_zero])
          (try simp only [Act.put, List.setIfInBounds_toArray, List.set_cons_zero, List.set_cons_succ])
          refine wpAnyH_ready (rs := [10]) (by kernel_rfl) (by simp) ?_
          refine AllReadyH.cons rfl (fun K hK => ?_) AllReadyH.nil
          go_simp
          have HBX : Below V9.heap.size V9 (V9.drew.alloc (.cells #[.int .i64 0, .int .i64 0, .int .i64 0, .int .i64 0, .int .i64 0] 31)) := Below.alloc hHeld (Below.size hHeld) _
          refine hK.out _ _ HBX (fun _ => ?_)
          clear hK K
          (try simp only [Act.put, List.setIfInBounds_toArray, List.set_cons_zero, List.set_cons_succ])
          refine wpAnyH_ready (rs := [11]) (by kernel_rfl) (by simp) ?_
          refine AllReadyH.cons rfl (fun K hK => ?_) AllReadyH.nil
          refine wp_store_row 31 _ _ rfl V9.drew.heap.size #[.int .i64 io, .int .i64 idd, .int .i64 ia, .int .i64 ib, .int .i64 im] rfl rfl 31 #[.int .i64 0, .int .i64 0, .int .i64 0, .int .i64 0, .int .i64 0] (heap_alloc_last V9.drew _) infoInstr5p rfl (by simp [Value.oneCell']) ?_
          have HBY : Below V9.heap.size V9 (World.setRow (V9.drew.alloc (.cells #[.int .i64 0, .int .i64 0, .int .i64 0, .int .i64 0, .int .i64 0] 31)) V9.drew.heap.size #[.int .i64 io, .int .i64 idd, .int .i64 ia, .int .i64 ib, .int .i64 im]) := below_setRow HBX (Nat.le_refl _) _
          refine hK.out _ _ HBY (fun _ => ?_)
          clear hK K
          (try simp only [List.getElem_toArray, List.getElem_cons_succ, List.getElem_cons_zero])
          (try simp only [Act.put])
          refine wpAnyH_done (by kernel_rfl) ?_ _
          (try simp only [Act.put, List.getElem_toArray, List.getElem_cons_succ, List.getElem_cons_zero, List.setIfInBounds_toArray, List.set_cons_zero, List.set_cons_succ])
          have HB6 : Hid (Below V9.heap.size V9 (World.setRow (World.drew (V9.alloc (.cells #[.int .i64 0, .int .i64 0, .int .i64 0, .int .i64 0, .int .i64 0] 31))) V9.drew.heap.size #[.int .i64 io, .int .i64 idd, .int .i64 ia, .int .i64 ib, .int .i64 im])) := HBY
          have r66 : (World.setRow (World.drew (V9.alloc (.cells #[.int .i64 0, .int .i64 0, .int .i64 0, .int .i64 0, .int .i64 0] 31))) V9.drew.heap.size #[.int .i64 io, .int .i64 idd, .int .i64 ia, .int .i64 ib, .int .i64 im]).heap[V9.heap.size]? = some (.cells #[.int .i64 io, .int .i64 idd, .int .i64 ia, .int .i64 ib, .int .i64 im] 31 (0, 0)) := setRow_heap _ _ _ _ _ _ (heap_alloc_last V9.drew _)
          clear HBX HBY hHeld HINS
          generalize (World.setRow (World.drew (V9.alloc (.cells #[.int .i64 0, .int .i64 0, .int .i64 0, .int .i64 0, .int .i64 0] 31))) V9.drew.heap.size #[.int .i64 io, .int .i64 idd, .int .i64 ia, .int .i64 ib, .int .i64 im]) = V6 at *
          (try rw [show V9.drew.heap.size = V9.heap.size from rfl])
          generalize V9.heap.size = G6 at r66 ⊢
          have HB36 : Hid (Below w3.heap.size w3 V6) := HB9.out.trans (HB6.out.mono HB9.out.size)
          obtain ⟨p0, -, -, -⟩ := HQ9.out V6 HB6.out
          have y0 : V6.cell? ⟨G6, 0, none⟩ = some (.int .i64 io) := by rw [cell_of_row _ _ _ _ _ _ r66]; rfl
          have y1 : V6.cell? ⟨G6, 1, none⟩ = some (.int .i64 idd) := by rw [cell_of_row _ _ _ _ _ _ r66]; rfl
          have y2 : V6.cell? ⟨G6, 2, none⟩ = some (.int .i64 ia) := by rw [cell_of_row _ _ _ _ _ _ r66]; rfl
          have y3 : V6.cell? ⟨G6, 3, none⟩ = some (.int .i64 ib) := by rw [cell_of_row _ _ _ _ _ _ r66]; rfl
          have y4 : V6.cell? ⟨G6, 4, none⟩ = some (.int .i64 im) := by rw [cell_of_row _ _ _ _ _ _ r66]; rfl
          have HRD := reads_keep P (.slice (some ⟨b, off, none⟩) N cap) ⟨io, idd, ia, ib, im⟩ V6 (HPV.out V6 (HB2.out.trans (HB36.out.mono HB2.out.size))) HIO.out
          unfold Ins.val at HRD
          dsimp only at HRD
          have HY4 : Hid (V6.cell? ⟨G6, 4, none⟩ = some (.int .i64 im)) := y4
          clear r66
          go_upto_region 15 with (go_at_call 17; refine HRD.mono ?_; rintro e w7 ⟨v7, rfl, hI7, hb7⟩)
          have HB7 : Hid (Below V9.heap.size V9 w7) := HB6.out.trans (hb7.mono HB6.out.size)
          have HB37 : Hid (Below w3.heap.size w3 w7) := HB9.out.trans (HB7.out.mono HB9.out.size)
          obtain ⟨aoR, bR, oR, nR, cR, rfl, hlR, -⟩ := ints_get hI7
          obtain ⟨x1, x2, x3, x4, -⟩ := HX9.out w7 HB7.out
          obtain ⟨-, -, g1, -⟩ := HQ9.out w7 HB7.out
          have z4 := keeps_below hb7 _ _ HY4.out
          have hlv1 : decide (VL ≤ xa) = false := by simp only [decide_eq_false_iff_not]; omega
          have hlv2 : decide (VL ≤ xb) = false := by simp only [decide_eq_false_iff_not]; omega
          obtain ⟨s, hs⟩ : ∃ s, s = setsI ⟨io, idd, ia, ib, im⟩ := ⟨_, rfl⟩
          have hsd : decide (0 ≤ s) = decide (0 ≤ xi) := by
            rw [decide_eq_decide, hs, HRW.out.2.2]
            unfold setsI
            have := HIO.out.dst0
            dsimp only at this ⊢
            split
            · rename_i h1; exact ⟨fun _ => h1, fun _ => this⟩
            · rename_i h1; exact ⟨fun h2 => by omega, fun h2 => absurd h2 h1⟩
          rw [← hs]
          have hab : (nR = 0 ∧ decide (0 ≤ xa) = false ∧ decide (0 ≤ xb) = false) ∨ (nR = 1 ∧ decide (0 ≤ xa) = true ∧ decide (0 ≤ xb) = false) ∨ (nR = 2 ∧ decide (0 ≤ xa) = true ∧ decide (0 ≤ xb) = true) := by
            have h1 := HRW.out.1
            have h2 := HRW.out.2.1
            unfold readsL at hlR
            cases hA : rdA P ⟨io, idd, ia, ib, im⟩ <;> cases hB : rdB P ⟨io, idd, ia, ib, im⟩ <;> rw [hA] at hlR h1 <;> rw [hB] at hlR h2 <;> simp only [Bool.false_eq_true, if_true, if_false, List.length_append, List.length_cons, List.length_nil, iff_false, iff_true] at hlR h1 h2
            · left; exact ⟨by omega, by simp only [decide_eq_false_iff_not]; exact h1, by simp only [decide_eq_false_iff_not]; exact h2⟩
            · have := rdB_rdA hB; rw [hA] at this; cases this
            · right; left; exact ⟨by omega, by simp only [decide_eq_true_eq]; exact h1, by simp only [decide_eq_false_iff_not]; exact h2⟩
            · right; right; exact ⟨by omega, by simp only [decide_eq_true_eq]; exact h1, by simp only [decide_eq_true_eq]; exact h2⟩
          clear y0 y1 y2 y3 y4 p0 hb7 hI7 hlR hva hvb HRD hs
          cases hxi : decide (0 ≤ xi)
          all_goals
            rw [hxi] at hsd
            rcases hab with ⟨rfl, ha1, hb1⟩ | ⟨rfl, ha1, hb1⟩ | ⟨rfl, ha1, hb1⟩
            all_goals
              go_wp2
              go_roundw
              case rel => exact ⟨j + 1, by omega, by go_num, HB37.out⟩
              case measure => simp [intOf]; omega
        · go_wp2
          go_roundw
          case rel => exact ⟨i + 1, by omega, by go_num, HBI.out⟩
          case measure => simp [intOf]; omega
    · go_wp2
      go_ret
      exact ⟨rfl, HB3.out.trans (HBO.out.mono HB3.out.size)⟩
end Go.Proofs.YtdpaohmaafngkaaDoor
