/- Contract of the document's answer to P2.2 (tierlineref.ProgramShown): a program's text. -/
import Derived.Test.YtedicikcmpehnaaDoorShowMath
import Derived.Test.YtedicikcmpehnaaDoorLater
import Derived.Test.YtedicikcmpehnaaDoorRefWalk
namespace Go.Proofs.YtedicikcmpehnaaDoor
open Go Go.RowKit

theorem str_six (a b c d e f : List UInt8) : ((((((⟨a.toArray⟩ : ByteArray) ++ (⟨b.toArray⟩ : ByteArray)) ++ (⟨c.toArray⟩ : ByteArray)) ++ (⟨d.toArray⟩ : ByteArray)) ++ (⟨e.toArray⟩ : ByteArray)) ++ (⟨f.toArray⟩ : ByteArray)) = ⟨(a ++ (b ++ (c ++ (d ++ (e ++ f))))).toArray⟩ := by
  rw [str_add, str_add, str_add, str_add, str_add]
  simp only [List.append_assoc]

theorem dec_str (n : Int) (w : World) (h0 : -9223372036854775808 ≤ n) (h1 : n ≤ 9223372036854775807) :
    Calls Tryd.prog 12 #[.int .i64 n] w fun e w' => e = .returned (.string ⟨(Lib.itoa n).toArray⟩) ∧ Below w.heap.size w w' := dec_any n w h0 h1

set_option maxHeartbeats 400000 in
theorem shown_bad (p : List Fn) (v : Value) (w : World) (hv : ProgVal w v p) (hc : refProg p ≠ 0) :
    Calls Tryd.prog 6 #[.agg #[v]] w fun e w' => e = .returned (.tuple #[.string ⟨#[]⟩, .int .i64 (refProg p)]) ∧ Below w.heap.size w w' := by
  obtain ⟨ao, n, cap, rfl⟩ := hv.shape
  have hb0 : Below w.heap.size w (w.alloc (.cells #[.slice ao n cap] 24)) := (Below.refl _ _).alloc (Nat.le_refl _) _
  have hP := hv.keeps (keeps_below hb0)
  have hq : (refProg p != 0) = true := by simpa using hc
  clear hv hc
  go_enter Tryd.func6, Tryd.ntmps6
  go_wp2_with (go_at_call 11; refine (programFault_any p _ _ hP).mono ?_; rintro e w1 ⟨rfl, hb1⟩)
  go_ret2
  exact ⟨rfl, hb0.trans (hb1.mono (by simp))⟩

set_option maxRecDepth 100000 in
set_option maxHeartbeats 4000000 in
theorem shown_ok (p : List Fn) (v : Value) (w : World) (hv : ProgVal w v p) (hwf : ∀ f ∈ p, f.wf) (hcc : codeProg p = 0) :
    Calls Tryd.prog 6 #[.agg #[v]] w fun e w' => e = .returned (.tuple #[.string ⟨(showOf p).toArray⟩, .int .i64 0]) ∧ Below w.heap.size w w' := by
  obtain ⟨ao, n, cap, rfl⟩ := hv.shape
  have hc : refProg p = 0 := by rw [← prog_same]; exact hcc
  have hb0 : Below w.heap.size w (w.alloc (.cells #[.slice ao n cap] 24)) := (Below.refl _ _).alloc (Nat.le_refl _) _
  have hP := hv.keeps (keeps_below hb0)
  obtain ⟨hp1, hp4, hpf⟩ := codeProg_zero hcc
  have HSL : Hid (∀ k, (showPart p k).length ≤ 20000) := fun k => by
    have := showPart_len p k hwf fun f hf => (codeFunc_zero (hpf f hf)).2.2.2.2.2.2.1
    omega
  obtain ⟨ao', b, off, n', cap', hve, ⟨hlen, haddr, hat⟩, hcap, hmax⟩ := hv
  simp only [Value.slice.injEq] at hve
  obtain ⟨rfl, rfl, rfl⟩ := hve
  obtain rfl := haddr (by omega)
  have HL : Hid (p.length = n) := hlen
  have hn1 : 1 ≤ n := by omega
  have hn4 : n ≤ 4 := by omega
  have HF : Hid (∀ f ∈ p, codeFunc f p.length = 0) := hpf
  have HW : Hid (∀ f ∈ p, f.wf) := hwf
  have HAT : Hid (∀ (k : Nat) (h : k < p.length), ∃ v, FnAt w b (off + k * 3) p[k] v) := hat
  have HPB : Hid (showOf p = showPart p n) := by show _ = _; rw [showOf, showPart, ← hlen, List.take_length]
  generalize showOf p = R at HPB
  clear haddr hlen hp1 hp4 hpf hat hcap hcc hwf
  go_enter Tryd.func6, Tryd.ntmps6
  go_wp2_with (go_at_call 11; refine (programFault_any p _ _ hP).mono ?_; rintro e w1 ⟨rfl, hb1⟩; rw [hc])
  have HB1 : Hid (Below (w.heap.size + 1) (w.alloc (.cells #[.slice (some ⟨b, off, none⟩) n cap] 24)) w1) := hb1.mono (by simp)
  clear hb1 hc hP
  go_loopw [5, 6] (fun s i wr => ∃ k : Nat, k ≤ n ∧ i = .int .i64 k ∧ s = .string ⟨(showPart p k).toArray⟩ ∧ Below (w.heap.size + 1) (w.alloc (.cells #[.slice (some ⟨b, off, none⟩) n cap] 24)) wr) (fun _ i _ => n - (intOf i).toNat)
  case atStart => exact ⟨0, Nat.zero_le _, rfl, by simp [showPart], HB1.out⟩
  case round =>
    obtain ⟨k, hk, rfl, rfl, hb⟩ := hrel
    clear HB1
    have hbw : Below w.heap.size w wr := hb0.trans (hb.mono (by omega))
    have hz : w.heap.size + 1 ≤ wr.heap.size := by have := hb.size; simp at this; omega
    have cp : wr.cell? ⟨w.heap.size, 0, none⟩ = some (.slice (some ⟨b, off, none⟩) n cap) := (hb.cell (p := ⟨w.heap.size, 0, none⟩) (by simp)).trans (by simp)
    have HB : Hid (Below (w.heap.size + 1) (w.alloc (.cells #[.slice (some ⟨b, off, none⟩) n cap] 24)) wr) := hb
    by_cases hlt : k < n
    · have hkx : k < p.length := by rw [HL.out]; exact hlt
      obtain ⟨u, hfn⟩ := HAT.out k hkx
      obtain ⟨d0, d1, d2, hu⟩ := hfn
      replace d0 := keeps_below hbw _ _ d0
      replace d1 := keeps_below hbw _ _ d1
      replace d2 := keeps_below hbw _ _ d2
      obtain ⟨r1, r12, r0, r2, _, r3, r40, rall⟩ := codeFunc_zero (HF.out p[k] (List.getElem_mem hkx))
      have HWX : Hid (p[k].wf) := HW.out p[k] (List.getElem_mem hkx)
      have HS : Hid (showPart p (k + 1) = showPart p k ++ fnLines p[k]) := showPart_succ p k hkx
      generalize hx : p[k] = x at d0 d1 d2 hu r1 r12 r0 r2 r3 r40 rall HS HWX
      obtain ⟨params, regs, xs⟩ := x
      obtain ⟨ao1, b1, off1, n1, cap1, rfl, ⟨hlen1, haddr1, hat1⟩, hcap1, hmax1⟩ := hu
      dsimp only at d0 d1 d2 hlen1 hat1 r1 r12 r0 r2 r3 r40 rall
      have HL1 : Hid (xs.length = n1) := hlen1
      have HOP : Hid (∀ x ∈ xs, 0 ≤ x.op ∧ x.op < 20) := fun x hx => ⟨by have := (op_of_zero (rall x hx)).1; omega, (op_of_zero (rall x hx)).2⟩
      have HWI : Hid (∀ x ∈ xs, x.wf) := HWX.out.2.2
      rw [hlen1] at r3 r40
      obtain rfl := haddr1 (by omega)
      have HC1 : Hid (∀ (k : Nat) (h : k < xs.length), insAt w b1 (off1 + k * 5) xs[k]) := hat1
      have hS := HSL.out k
      generalize showPart p k = S at hS HS
      have HT : Hid (((((((⟨S.toArray⟩ : ByteArray) ++ (⟨#[102, 117, 110, 99, 32]⟩ : ByteArray)) ++ (⟨(Lib.itoa params).toArray⟩ : ByteArray)) ++ (⟨#[32]⟩ : ByteArray)) ++ (⟨(Lib.itoa regs).toArray⟩ : ByteArray)) ++ (⟨#[10]⟩ : ByteArray)) = ⟨(S ++ fnLine ⟨params, regs, xs⟩).toArray⟩) := str_six S [102, 117, 110, 99, 32] (Lib.itoa params) [32] (Lib.itoa regs) [10]
      have HU : Hid (showPart p (k + 1) = S ++ fnLine ⟨params, regs, xs⟩ ++ xs.flatMap insLine) := by
        have h := HS.out
        show _ = _
        rw [h, fnLines, ← List.append_assoc]
      have hfl : (fnLine ⟨params, regs, xs⟩).length ≤ 49 := fnLine_len _ HWX.out
      have p0 : -9223372036854775808 ≤ params := by omega
      have p1 : params ≤ 9223372036854775807 := by omega
      have p2 : -9223372036854775808 ≤ regs := by omega
      have p3 : regs ≤ 9223372036854775807 := by omega
      have hlp := Lib.itoa_length_le params (by omega) (by omega)
      have hlr := Lib.itoa_length_le regs (by omega) (by omega)
      generalize fnLine ⟨params, regs, xs⟩ = FL at HT HU hfl
      have l1 : ¬ 9223372036854775807 < S.length + 5 := by omega
      have l2 : ¬ 9223372036854775807 < S.length + 5 + (Lib.itoa params).length := by omega
      have l3 : ¬ 9223372036854775807 < S.length + 5 + (Lib.itoa params).length + 1 := by omega
      have l4 : ¬ 9223372036854775807 < S.length + 5 + (Lib.itoa params).length + 1 + (Lib.itoa regs).length := by omega
      have l5 : ¬ 9223372036854775807 < S.length + 5 + (Lib.itoa params).length + 1 + (Lib.itoa regs).length + 1 := by omega
      clear hx hat1 haddr1 hlen1 hb HS hcap1 rall
      rename World => wo
      have e0 := Later.cell (show (wo.alloc (.cells #[.int .i64 params, .int .i64 regs, .slice (some ⟨b1, off1, none⟩) n1 cap1] 33)).cell? ⟨wo.heap.size, 0, none⟩ = some (.int .i64 params) by simp)
      have e1 := Later.cell (show (wo.alloc (.cells #[.int .i64 params, .int .i64 regs, .slice (some ⟨b1, off1, none⟩) n1 cap1] 33)).cell? ⟨wo.heap.size, 1, none⟩ = some (.int .i64 regs) by simp)
      go_wp2
      refine wp_region_later (by kernel_rfl) (by kernel_rfl) ?_
      repeat (go_big_quiet_step ((go_at_call 12; exact calls_later (dec_str _ _ (by assumption) (by assumption)))))
      refine wpQuiet_nil ?_
      intro _ hw'
      obtain ⟨d, hw''⟩ := hw'
      subst hw''
      clear e0 e1 l1 l2 l3 l4 l5 d0 d1 d2 cp hbw
      have HBD : Hid (Below (wo.heap.size + 1) (wo.alloc (.cells #[.int .i64 params, .int .i64 regs, .slice (some ⟨b1, off1, none⟩) n1 cap1] 33)) d.to) := d.below.mono (by simp)
      obtain ⟨wd, hwd⟩ := d
      dsimp only at HBD ⊢
      clear hwd
      go_wp2
      rw [HT.out]
      clear HT
      go_loopw [5, 8] (fun s i wi => ∃ j : Nat, j ≤ n1 ∧ i = .int .i64 j ∧ s = .string ⟨(S ++ FL ++ (xs.take j).flatMap insLine).toArray⟩ ∧ Below (wo.heap.size + 1) (wo.alloc (.cells #[.int .i64 params, .int .i64 regs, .slice (some ⟨b1, off1, none⟩) n1 cap1] 33)) wi) (fun _ i _ => n1 - (intOf i).toNat)
      case atStart => exact ⟨0, Nat.zero_le _, rfl, by simp, HBD.out⟩
      case round =>
        obtain ⟨j, hj, rfl, rfl, hbi⟩ := hrel
        clear HBD
        have hbo : Below wo.heap.size wo wr := ((Below.refl _ _).alloc (Nat.le_refl _) _).trans (hbi.mono (by omega))
        have i2 : wr.cell? ⟨wo.heap.size, 2, none⟩ = some (.slice (some ⟨b1, off1, none⟩) n1 cap1) := (hbi.cell (p := ⟨wo.heap.size, 2, none⟩) (by simp)).trans (by simp)
        have hzi : wo.heap.size < wr.heap.size := by have := hbi.size; simp at this; omega
        have HBI : Hid (Below (wo.heap.size + 1) (wo.alloc (.cells #[.int .i64 params, .int .i64 regs, .slice (some ⟨b1, off1, none⟩) n1 cap1] 33)) wr) := hbi
        have HBO : Hid (Below wo.heap.size wo wr) := hbo
        by_cases hlj : j < n1
        · have hjx : j < xs.length := by rw [HL1.out]; exact hlj
          have hbwi : Below w.heap.size w wr := (hb0.trans (HB.out.mono (by omega))).trans (hbo.mono (by omega))
          obtain ⟨g0, g1, g2, g3, g4⟩ := (HC1.out j hjx).keeps (keeps_below hbwi)
          have HTI : Hid ((xs.take (j + 1)).flatMap insLine = (xs.take j).flatMap insLine ++ insLine xs[j]) := linePart_succ xs j hjx
          obtain ⟨o0, o1⟩ := HOP.out xs[j] (List.getElem_mem hjx)
          obtain ⟨_, w1', w2', w3', w4'⟩ := HWI.out xs[j] (List.getElem_mem hjx)
          have hll : (S ++ FL ++ (xs.take j).flatMap insLine).length ≤ 30000 := by
            have h1 := insLines_len (xs.take j) fun x hx => HWI.out x (List.mem_of_mem_take hx)
            have h2 : (xs.take j).length ≤ 40 := by rw [List.length_take]; omega
            rw [List.length_append, List.length_append]
            omega
          have hlx := lineOf_len xs[j] (HWI.out xs[j] (List.getElem_mem hjx))
          generalize hxx : xs[j] = x at g0 g1 g2 g3 g4 HTI o0 o1 w1' w2' w3' w4' hlx
          obtain ⟨op, dst, a, b9, imm⟩ := x
          dsimp only at g0 g1 g2 g3 g4 o0 o1 w1' w2' w3' w4'
          have HLN : Hid (∀ w, Calls Tryd.prog 13 #[.agg #[.int .i64 op, .int .i64 dst, .int .i64 a, .int .i64 b9, .int .i64 imm]] w fun e w' => e = .returned (.string ⟨(lineOf ⟨op, dst, a, b9, imm⟩).toArray⟩) ∧ Below w.heap.size w w') := fun w => line_any op dst a b9 imm w o0 o1 w1' w2' w3' w4'
          have HE : Hid (S ++ FL ++ (xs.take (j + 1)).flatMap insLine = (S ++ FL ++ (xs.take j).flatMap insLine) ++ (lineOf ⟨op, dst, a, b9, imm⟩ ++ [10])) := by
            show _ = _
            rw [HTI.out, insLine, List.append_assoc, List.append_assoc]
            simp only [List.append_assoc]
          generalize S ++ FL ++ (xs.take j).flatMap insLine = T at hll HE
          generalize lineOf ⟨op, dst, a, b9, imm⟩ = LN at hlx HLN HE
          have HT2 : Hid ((((⟨T.toArray⟩ : ByteArray) ++ (⟨LN.toArray⟩ : ByteArray)) ++ (⟨#[10]⟩ : ByteArray)) = ⟨(T ++ (LN ++ [10])).toArray⟩) := str_two T LN [10]
          have l1 : ¬ 9223372036854775807 < T.length + LN.length := by omega
          have l2 : ¬ 9223372036854775807 < T.length + LN.length + 1 := by omega
          clear hbi hbo hbwi hxx
          go_wp2_with (go_at_call 13; refine (HLN.out _).mono ?_; rintro e w2 ⟨rfl, hb2⟩; have B2 : Hid (Below wr.heap.size wr w2) := hb2; clear hb2)
          go_roundw
          case rel => exact ⟨j + 1, by omega, by go_num, by rw [HT2.out, HE.out], HBI.out.trans (B2.out.mono (by omega))⟩
          case measure => simp [intOf]; omega
        · have hxj : xs.take j = xs := List.take_of_length_le (by rw [HL1.out]; omega)
          rw [hxj, ← HU.out]
          clear hbi hbo hxj
          go_wp2
          go_roundw
          case rel => exact ⟨k + 1, by omega, by go_num, rfl, HB.out.trans (HBO.out.mono (by omega))⟩
          case measure => simp [intOf]; omega
    · have hkn : k = n := by omega
      subst hkn
      clear hb
      go_wp2
      go_ret2
      exact ⟨by rw [HPB.out]; rfl, hbw⟩

end Go.Proofs.YtedicikcmpehnaaDoor
