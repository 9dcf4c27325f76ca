/- Contract of the document's answer to P1.4 (tierlineref.ProgramBytes): the bytes of a program, as a row that the call has built. -/
import Derived.Test.YtocdljoknbeolaaDoorRefBytes
import Derived.Test.YtocdljoknbeolaaDoorOpen
namespace Go.Proofs.YtocdljoknbeolaaDoor
open Go Go.RowKit

theorem imm_low (imm : Int) : immPart imm 8 = lowBytes imm 8 := by
  simp only [immPart, List.range_succ, List.range_zero, List.map_cons, List.map_nil, List.nil_append, List.cons_append, lowBytes, immByte]
  rw [wrapBytes imm 7 (by omega), wrapBytes imm 6 (by omega), wrapBytes imm 5 (by omega), wrapBytes imm 4 (by omega), wrapBytes imm 3 (by omega), wrapBytes imm 2 (by omega), wrapBytes imm 1 (by omega), wrapBytes imm 0 (by omega)]

set_option maxHeartbeats 400000 in
theorem pbytes_bad (p : List Fn) (v : Value) (w : World) (hv : ProgVal w v p) (hc : refProg p ≠ 0) :
    Calls Tryd.prog 14 #[.agg #[v]] w fun e w' => e = .returned (.tuple #[.slice none 0 0, .int .i64 (refProg p)]) ∧ Below w.heap.size w w' := by
  obtain ⟨ao, n, cap, rfl⟩ := hv.shape
  have hb0 : Below w.heap.size w (w.alloc (.cells #[.slice ao n cap] 24)) := (Below.refl _ _).alloc (Nat.le_refl _) _
  have hP := hv.keeps (keeps_below hb0)
  have hq : (refProg p != 0) = true := by simpa using hc
  clear hv hc
  go_enter Tryd.func14, Tryd.ntmps14
  go_wp2_with (go_at_call 11; refine (programFault_any p _ _ hP).mono ?_; rintro e w1 ⟨rfl, hb1⟩)
  go_ret2
  exact ⟨rfl, hb0.trans (hb1.mono (by simp))⟩

set_option maxHeartbeats 2000000 in
theorem pbytes_ok (p : List Fn) (v : Value) (w : World) (hv : ProgVal w v p) (hwf : ∀ f ∈ p, f.wf) (hcc : codeProg p = 0) :
    Calls Tryd.prog 14 #[.agg #[v]] w fun e w' => ∃ v', e = .returned (.tuple #[v', .int .i64 0]) ∧ w'.ownsRow w.heap.size 5 1 v' (progBytes p).length (u8s (progBytes p)) ∧ Below w.heap.size w w' := by
  obtain ⟨ao, n, cap, rfl⟩ := hv.shape
  have hc : refProg p = 0 := by rw [← prog_same]; exact hcc
  have hb0 : Below w.heap.size w (w.alloc (.cells #[.slice ao n cap] 24)) := (Below.refl _ _).alloc (Nat.le_refl _) _
  have hP := hv.keeps (keeps_below hb0)
  obtain ⟨hp1, hp4, hpf⟩ := codeProg_zero hcc
  obtain ⟨ao', b, off, n', cap', hve, ⟨hlen, haddr, hat⟩, hcap, hmax⟩ := hv
  simp only [Value.slice.injEq] at hve
  obtain ⟨rfl, rfl, rfl⟩ := hve
  obtain rfl := haddr (by omega)
  obtain ⟨iB, hiB, hzB0, hzB1, hzB2⟩ := info_parts infoB
  have HL : Hid (p.length = n) := hlen
  have hn1 : 1 ≤ n := by omega
  have hn4 : n ≤ 4 := by omega
  have HF : Hid (∀ f ∈ p, codeFunc f p.length = 0) := hpf
  have HW : Hid (∀ f ∈ p, f.wf) := hwf
  have HAT : Hid (∀ (k : Nat) (h : k < p.length), ∃ v, FnAt w b (off + k * 3) p[k] v) := hat
  have HPB : Hid (progBytes p = progPart p n n) := by show _ = _; rw [progBytes, hlen]
  generalize progBytes p = R at HPB
  clear haddr hlen hp1 hp4 hpf hat hcap hcc hwf
  go_enter Tryd.func14, Tryd.ntmps14
  go_wp2_with (go_at_call 11; refine (programFault_any p _ _ hP).mono ?_; rintro e w1 ⟨rfl, hb1⟩; rw [hc]; have c1 : w1.cell? ⟨w.heap.size, 0, none⟩ = some (.slice (some ⟨b, off, none⟩) n cap) := keeps_below hb1 _ _ (by simp); have hz1 : w.heap.size < w1.heap.size := (by have := hb1.size; simp at this; omega); have c2 := cell_alloc c1)
  have hr1 : (w1.alloc (.cells #[.int .u8 n] 5)).ownsRow (w.heap.size + 1) 5 1 (.slice (some ⟨w1.heap.size, 0, none⟩) 1 1) 1 (u8s (progPart p n 0)) := own_built w1 (w.heap.size + 1) 5 (u8s (progPart p n 0)) (by omega) (by simp [u8s, progPart, maxLen])
  have hb2 : Below (w.heap.size + 1) (w.alloc (.cells #[.slice (some ⟨b, off, none⟩) n cap] 24)) (w1.alloc (.cells #[.int .u8 n] 5)) := (hb1.mono (by simp)).trans ((Below.refl _ _).alloc (by omega) _)
  go_loopw [5, 6] (fun l i wr => ∃ k : Nat, k ≤ n ∧ i = .int .i64 k ∧ (progPart p n k).length ≤ 1 + k * 483 ∧ wr.ownsRow (w.heap.size + 1) 5 1 l (progPart p n k).length (u8s (progPart p n k)) ∧ Below (w.heap.size + 1) (w.alloc (.cells #[.slice (some ⟨b, off, none⟩) n cap] 24)) wr) (fun _ i _ => n - (intOf i).toNat)
  case atStart => exact ⟨0, Nat.zero_le _, rfl, by simp [progPart], hr1, hb2⟩
  case round =>
    obtain ⟨k, hk, rfl, hbl, hr, hb⟩ := hrel
    clear hr1 hb2 c1 c2 hz1 hb1
    have hbw : Below w.heap.size w wr := hb0.trans (hb.mono (by omega))
    have hz : w.heap.size + 1 ≤ wr.heap.size := by have := hb.size; simp at this; omega
    have cp : wr.cell? ⟨w.heap.size, 0, none⟩ = some (.slice (some ⟨b, off, none⟩) n cap) := (hb.cell (p := ⟨w.heap.size, 0, none⟩) (by simp)).trans (by simp)
    have HB : Hid (Below (w.heap.size + 1) (w.alloc (.cells #[.slice (some ⟨b, off, none⟩) n cap] 24)) wr) := hb
    obtain ⟨aor, capr, rfl⟩ := own_shape hr
    by_cases hlt : k < n
    · have hkx : k < p.length := by rw [HL.out]; exact hlt
      obtain ⟨u, hfn⟩ := HAT.out k hkx
      obtain ⟨d0, d1, d2, hu⟩ := hfn
      replace d0 := keeps_below hbw _ _ d0
      replace d1 := keeps_below hbw _ _ d1
      replace d2 := keeps_below hbw _ _ d2
      obtain ⟨r1, r12, r0, r2, _, r3, r40, _⟩ := codeFunc_zero (HF.out p[k] (List.getElem_mem hkx))
      obtain ⟨_, _, hwx⟩ := HW.out p[k] (List.getElem_mem hkx)
      have HS : Hid (progPart p n (k + 1) = progPart p n k ++ fnBytes p[k]) := progPart_succ p n k hkx
      generalize hx : p[k] = x at d0 d1 d2 hu r1 r12 r0 r2 r3 r40 HS hwx
      obtain ⟨params, regs, xs⟩ := x
      obtain ⟨ao1, b1, off1, n1, cap1, rfl, ⟨hlen1, haddr1, hat1⟩, hcap1, hmax1⟩ := hu
      dsimp only at d0 d1 d2 hlen1 hat1 r1 r12 r0 r2 r3 r40 hwx
      have HL1 : Hid (xs.length = n1) := hlen1
      have HWX : Hid (∀ x ∈ xs, x.wf) := hwx
      rw [hlen1] at r3 r40
      obtain rfl := haddr1 (by omega)
      have HC1 : Hid (∀ (k : Nat) (h : k < xs.length), insAt w b1 (off1 + k * 5) xs[k]) := hat1
      have HU : Hid (progPart p n (k + 1) = progPart p n k ++ ([params, regs, (n1 : Int)] ++ xs.flatMap insBytes)) := by
        have h := HS.out
        show _ = _
        rw [h, fnBytes, fnHead]
        dsimp only
        rw [hlen1]
      clear hx hat1 haddr1 hlen1 hb HS hcap1 hwx
      rename World => wo
      go_wp2_with (at_builtin; refine wpList_append_own _ rfl (.tmp 32) (.tmp 43) 30 rfl (w.heap.size + 1) 5 iB _ 1 1 Tryd.underlying30 hiB hzB0 hzB1 hzB2 rfl (by decide) _ _ _ rfl ((hr.alloc _).alloc _) ⟨wo.heap.size + 1, 0, none⟩ 3 3 (u8s [params, regs, (n1 : Int)]) rfl rfl (news_list _ _ _ _ (by simp)) (u8s_one _) (by unfold maxLen; omega) (by omega) (by simp; omega) ?_; intro v2 w2 hown2 hg2 _; have Q := append_box hr hz (by decide) hg2; have hbx := Q.1; have HB2 : Hid (Below (w.heap.size + 1) (w.alloc (.cells #[.slice (some ⟨b, off, none⟩) n cap] 24)) w2) := HB.out.trans Q.2; rw [← u8s_append] at hown2; clear hg2 Q)
      go_loopw [5, 8] (fun l i wi => ∃ j : Nat, j ≤ n1 ∧ i = .int .i64 j ∧ wi.ownsRow (w.heap.size + 1) 5 1 l (progPart p n k ++ [params, regs, (n1 : Int)] ++ (xs.take j).flatMap insBytes).length (u8s (progPart p n k ++ [params, regs, (n1 : Int)] ++ (xs.take j).flatMap insBytes)) ∧ wi.heap[wo.heap.size]? = some (.cells #[.int .i64 params, .int .i64 regs, .slice (some ⟨b1, off1, none⟩) n1 cap1] 43) ∧ Below (w.heap.size + 1) (w.alloc (.cells #[.slice (some ⟨b, off, none⟩) n cap] 24)) wi) (fun _ i _ => n1 - (intOf i).toNat)
      case atStart => exact ⟨0, Nat.zero_le _, rfl, by simpa using hown2, hbx, HB2.out⟩
      case round =>
        obtain ⟨j, hj, rfl, hri, hbf, hbi⟩ := hrel
        have hbwi : Below w.heap.size w wr := hb0.trans (hbi.mono (by omega))
        have hzi : w.heap.size + 1 ≤ wr.heap.size := by have := hbi.size; simp at this; omega
        have cpi : wr.cell? ⟨w.heap.size, 0, none⟩ = some (.slice (some ⟨b, off, none⟩) n cap) := (hbi.cell (p := ⟨w.heap.size, 0, none⟩) (by simp)).trans (by simp)
        have cfi : wr.cell? ⟨wo.heap.size, 2, none⟩ = some (.slice (some ⟨b1, off1, none⟩) n1 cap1) := by simp [World.cell?, hbf]
        have HBI : Hid (Below (w.heap.size + 1) (w.alloc (.cells #[.slice (some ⟨b, off, none⟩) n cap] 24)) wr) := hbi
        have HBF : Hid (wr.heap[wo.heap.size]? = some (.cells #[.int .i64 params, .int .i64 regs, .slice (some ⟨b1, off1, none⟩) n1 cap1] 43)) := hbf
        have hzf : wo.heap.size < wr.heap.size := lt_of_block hbf
        by_cases hlj : j < n1
        · have hjx : j < xs.length := by rw [HL1.out]; exact hlj
          obtain ⟨g0, g1, g2, g3, g4⟩ := (HC1.out j hjx).keeps (keeps_below hbwi)
          obtain ⟨_, _, _, _, hi1, hi2⟩ := HWX.out xs[j] (List.getElem_mem hjx)
          have HT : Hid ((xs.take (j + 1)).flatMap insBytes = (xs.take j).flatMap insBytes ++ insBytes xs[j]) := codePart_succ xs j hjx
          have hll : (progPart p n k ++ [params, regs, (n1 : Int)] ++ (xs.take j).flatMap insBytes).length ≤ 1000000 := by
            have hq := insBytes_flat (xs.take j)
            rw [List.length_append, hq]
            simp only [List.length_append, List.length_take, List.length_cons, List.length_nil]
            omega
          generalize hxx : xs[j] = x at g0 g1 g2 g3 g4 HT hi1 hi2
          obtain ⟨op, dst, a, b9, imm⟩ := x
          dsimp only at g0 g1 g2 g3 g4 hi1 hi2
          generalize hbb : progPart p n k ++ [params, regs, (n1 : Int)] ++ (xs.take j).flatMap insBytes = bb at hri hll
          have HBB : Hid (progPart p n k ++ [params, regs, (n1 : Int)] ++ (xs.take j).flatMap insBytes = bb) := hbb
          clear hbi hbf hxx hbb hown2 hbx d0 d1 d2 hbw hbwi cp
          go_wp2_with (first
            | (at_builtin; refine wpList_append_own _ rfl (.tmp 57) (.tmp 70) 30 rfl (w.heap.size + 1) 5 iB _ 1 1 Tryd.underlying30 hiB hzB0 hzB1 hzB2 rfl (by decide) _ _ _ rfl ((hri.alloc _).alloc _) ⟨wr.heap.size + 1, 0, none⟩ 4 4 (u8s [op % 256, dst % 256, a % 256, b9 % 256]) rfl rfl (news_list _ _ _ _ (by simp)) (u8s_one _) (by unfold maxLen; omega) (by omega) (by simp; omega) ?_; intro v3 w3 hown3 hg3 _; have Q3 := append_box hri hzi (by decide) hg3; have hx3 := Q3.1; have cx3 : w3.cell? ⟨wr.heap.size, 4, none⟩ = some (.int .i64 imm) := (by simp [World.cell?, hx3]); have hf3 := append_old hri hzf (by decide) HBF.out hg3; rw [← u8s_append] at hown3; clear hg3)
            | (go_at_call 26; refine (eightBytes_any imm _ hi1 hi2).mono ?_; rintro e w4 ⟨v4, rfl, hown4, hb4⟩; obtain ⟨g4x, c4x, rfl, h4c⟩ := own_some hown4 (by omega))
            | (at_builtin; refine wpList_append_own _ rfl (.tmp 72) (.tmp 75) 30 rfl (w.heap.size + 1) 5 iB _ 1 1 Tryd.underlying30 hiB hzB0 hzB1 hzB2 rfl (by decide) _ _ _ rfl (ownsRow_below hown3 hb4) ⟨g4x, 0, none⟩ 8 c4x (u8s (lowBytes imm 8)) rfl (by simp [u8s_length, lowBytes_length]) h4c (u8s_one _) (by simp [maxLen]; omega) (by simp; omega) (by have := hb4.size; have := Q3.2.size; omega) ?_; intro v5 w5 hown5 hg5 _))
          have hq3 := Q3.2.size
          have hq4 := hb4.size
          have hr4 := ownsRow_below hown3 hb4
          have hf4 : w4.heap[wo.heap.size]? = some (.cells #[.int .i64 params, .int .i64 regs, .slice (some ⟨b1, off1, none⟩) n1 cap1] 43) := (hb4.block _ (lt_of_block hf3)).trans hf3
          have hf5 := (hg5.block _ (lt_of_block hf4) (own_ne hr4 hf4 (by decide))).trans hf4
          have HE : Hid (progPart p n k ++ [params, regs, (n1 : Int)] ++ (xs.take (j + 1)).flatMap insBytes = bb ++ [op % 256, dst % 256, a % 256, b9 % 256] ++ lowBytes imm 8) := by
            show _ = _
            rw [HT.out, ← List.append_assoc, HBB.out, insBytes, imm_low, List.append_assoc]
            rfl
          have HO : Hid (w5.ownsRow (w.heap.size + 1) 5 1 v5 (bb ++ [op % 256, dst % 256, a % 256, b9 % 256] ++ lowBytes imm 8).length (u8s (bb ++ [op % 256, dst % 256, a % 256, b9 % 256] ++ lowBytes imm 8))) := by
            rw [u8s_append (bb ++ _)]
            have e : (bb ++ [op % 256, dst % 256, a % 256, b9 % 256] ++ lowBytes imm 8).length = bb.length + 4 + 8 := by simp [lowBytes_length]
            rw [e]
            exact hown5
          have HB5 : Hid (Below (w.heap.size + 1) (w.alloc (.cells #[.slice (some ⟨b, off, none⟩) n cap] 24)) w5) :=
            ((HBI.out.trans Q3.2).trans (hb4.mono (by omega))).trans (grown_base hr4 (by omega) hg5)
          go_roundw
          case rel => exact ⟨j + 1, by omega, by go_num, by rw [HE.out]; exact HO.out, hf5, HB5.out⟩
          case measure => simp [intOf]; omega
        · have hxj : xs.take j = xs := List.take_of_length_le (by rw [HL1.out]; omega)
          rw [hxj, List.append_assoc, ← HU.out] at hri
          have HPL : Hid ((progPart p n (k + 1)).length ≤ 1 + (k + 1) * 483) := by
            show _ ≤ _
            rw [HU.out, List.length_append, List.length_append, insBytes_flat, HL1.out]
            simp only [List.length_cons, List.length_nil]
            omega
          clear hbi hxj hown2 hbx hbf d0 d1 d2 hbw hbwi cp
          go_wp2
          go_roundw
          case rel => exact ⟨k + 1, by omega, by go_num, HPL.out, hri, HBI.out⟩
          case measure => simp [intOf]; omega
    · have hkn : k = n := by omega
      subst hkn
      clear hb
      go_wp2
      go_ret2
      exact ⟨_, rfl, by rw [HPB.out]; exact own_base hr (by omega), hbw⟩

end Go.Proofs.YtocdljoknbeolaaDoor
