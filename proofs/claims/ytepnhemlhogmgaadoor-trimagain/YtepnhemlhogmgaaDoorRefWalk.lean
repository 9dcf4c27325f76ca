/- Contract of the document's answer to P1.3 (tierlineref.ProgramFault): it answers what a plain function of the program's data says, and nothing that was there has turned. -/
import Derived.Test.YtepnhemlhogmgaaDoorRefProg
import Derived.Test.YtepnhemlhogmgaaDoorLater
namespace Go.Proofs.YtepnhemlhogmgaaDoor
open Go Go.RowKit

set_option maxRecDepth 100000 in
set_option maxHeartbeats 1000000 in
theorem programFault_any (p : List Fn) (v : Value) (w : World) (hv : ProgVal w v p) :
    Calls Tryd.prog 49 #[.agg #[v]] w fun e w' => e = .returned (.int .i64 (refProg p)) ∧ Below w.heap.size w w' := by
  obtain ⟨ao, b, off, n, cap, rfl, hc, hcap, hmax⟩ := hv
  obtain ⟨hlen, haddr, hat⟩ := hc
  have HL : Hid (p.length = n) := hlen
  unfold refProg
  rw [hlen]
  clear hlen
  by_cases h6 : inB n 1 4 = false
  · rw [if_pos h6]
    go_enter Tryd.func49, Tryd.ntmps49
    go_wp2_with (go_at_call 45; refine (in_any _ _ _ _).mono ?_; rintro e w' ⟨rfl, rfl⟩)
    go_ret
    exact ⟨rfl, (Below.refl _ _).alloc (Nat.le_refl _) _⟩
  rw [if_neg h6]
  have h7 : inB n 1 4 = true := by simpa using h6
  obtain ⟨hn1, hn4⟩ : (1 : Int) ≤ n ∧ (n : Int) ≤ 4 := by simpa [inB] using h7
  clear h6
  obtain rfl := haddr (by omega)
  clear haddr
  go_enter Tryd.func49, Tryd.ntmps49
  go_wp2_with (go_at_call 45; refine (in_any _ _ _ _).mono ?_; rintro e w' ⟨rfl, rfl⟩)
  go_loopw [3] (fun i wr => ∃ k : Nat, k ≤ n ∧ i = .int .i64 k ∧ Below (w.heap.size + 1) (w.alloc (.cells #[.slice (some ⟨b, off, none⟩) n cap] 24)) wr ∧
      firstErr (fun f => refFunc f n) p = firstErr (fun f => refFunc f n) (p.drop k)) (fun i _ => n - (intOf i).toNat)
  case atStart => exact ⟨0, Nat.zero_le _, rfl, Below.refl _ _, rfl⟩
  case round =>
    obtain ⟨k, hk, rfl, hb, hf⟩ := hrel
    have hbw : Below w.heap.size w wr := ((Below.refl _ _).alloc (Nat.le_refl _) _).trans (hb.mono (by omega))
    have c0 : wr.cell? ⟨w.heap.size, 0, none⟩ = some (.slice (some ⟨b, off, none⟩) n cap) := (hb.cell (p := ⟨w.heap.size, 0, none⟩) (by simp)).trans (by simp)
    have hz : w.heap.size < wr.heap.size := by have := hb.size; simp at this; omega
    by_cases hlt : k < n
    · have hkx : k < p.length := by rw [HL.out]; exact hlt
      obtain ⟨u, hfn⟩ := hat k hkx
      obtain ⟨d0, d1, d2, hu⟩ := hfn.keeps (keeps_below hbw)
      have HF : Hid (firstErr (fun f => refFunc f n) p = if refFunc p[k] n = 0 then firstErr (fun f => refFunc f n) (p.drop (k + 1)) else refFunc p[k] n) :=
        hf.trans (firstErr_drop _ p k hkx)
      generalize hx : p[k] = x at d0 d1 d2 hu HF
      obtain ⟨params, regs, xs⟩ := x
      obtain ⟨ao1, b1, off1, n1, cap1, rfl, hci, hcap1, hmax1⟩ := hu
      dsimp only at d0 d1 d2 hci
      obtain ⟨hlen1, haddr1, hat1⟩ := hci
      have HL1 : Hid (xs.length = n1) := hlen1
      have HB : Hid (Below (w.heap.size + 1) (w.alloc (.cells #[.slice (some ⟨b, off, none⟩) n cap] 24)) wr) := hb
      have er : ∀ c : Int, c ≠ 0 → refFunc ⟨params, regs, xs⟩ n = c → Hid (firstErr (fun f => refFunc f n) p = c) := fun c hc0 e => by
        have h := HF.out
        rw [e, if_neg hc0] at h
        exact h
      unfold refFunc at er
      dsimp only at er
      rw [hlen1] at er
      clear hf hat hx hb hfn hlen1
      by_cases t1 : inB regs 1 12 = false
      · have e1 := er 2 (by decide) (by rw [if_pos t1])
        clear er
        go_wp2_with (go_at_call 45; refine (in_any _ _ _ _).mono ?_; rintro e w' ⟨rfl, rfl⟩)
        go_ret
        exact ⟨ret_int e1.out.symm, (((Below.refl _ _).alloc (Nat.le_refl _) _).trans (HB.out.mono (by omega))).alloc (by omega) _⟩
      rw [if_neg t1] at er
      replace t1 : inB regs 1 12 = true := by simpa using t1
      by_cases t2 : inB params 0 2 = false
      · have e1 := er 2 (by decide) (by rw [if_pos t2])
        clear er
        go_wp2_with (go_at_call 45; refine (in_any _ _ _ _).mono ?_; rintro e w' ⟨rfl, rfl⟩)
        go_ret
        exact ⟨ret_int e1.out.symm, (((Below.refl _ _).alloc (Nat.le_refl _) _).trans (HB.out.mono (by omega))).alloc (by omega) _⟩
      rw [if_neg t2] at er
      replace t2 : inB params 0 2 = true := by simpa using t2
      by_cases t3 : regs < params
      · have e1 := er 2 (by decide) (by rw [if_pos t3])
        clear er
        go_wp2_with (go_at_call 45; refine (in_any _ _ _ _).mono ?_; rintro e w' ⟨rfl, rfl⟩)
        go_ret
        exact ⟨ret_int e1.out.symm, (((Below.refl _ _).alloc (Nat.le_refl _) _).trans (HB.out.mono (by omega))).alloc (by omega) _⟩
      rw [if_neg t3] at er
      by_cases t4 : inB n1 1 40 = false
      · have e1 := er 1 (by decide) (by rw [if_pos t4])
        clear er
        go_wp2_with (go_at_call 45; refine (in_any _ _ _ _).mono ?_; rintro e w' ⟨rfl, rfl⟩)
        go_ret
        exact ⟨ret_int e1.out.symm, (((Below.refl _ _).alloc (Nat.le_refl _) _).trans (HB.out.mono (by omega))).alloc (by omega) _⟩
      rw [if_neg t4] at er
      replace t4 : inB n1 1 40 = true := by simpa using t4
      obtain ⟨q1, q2⟩ : (1 : Int) ≤ n1 ∧ (n1 : Int) ≤ 40 := by simpa [inB] using t4
      obtain ⟨q3, q4⟩ : (1 : Int) ≤ regs ∧ regs ≤ 12 := by simpa [inB] using t1
      obtain rfl := haddr1 (by omega)
      have HG : Hid (refFunc ⟨params, regs, xs⟩ n = firstErr (fun x => refInstr x regs n1 n) xs) := by
        unfold refFunc
        dsimp only
        rw [if_neg (by simp [t1]), if_neg (by simp [t2]), if_neg t3, HL1.out, if_neg (by simp [t4])]
        exact rfl
      clear haddr1 er
      go_wp2_with (go_at_call 45; refine (in_any _ _ _ _).mono ?_; rintro e w' ⟨rfl, rfl⟩)
      rename World => wo
      go_loopw [5] (fun i wi => ∃ j : Nat, j ≤ n1 ∧ i = .int .i64 j ∧ Below (wo.heap.size + 1) (wo.alloc (.cells #[.int .i64 params, .int .i64 regs, .slice (some ⟨b1, off1, none⟩) n1 cap1] 44)) wi ∧
          firstErr (fun x => refInstr x regs n1 n) xs = firstErr (fun x => refInstr x regs n1 n) (xs.drop j)) (fun i _ => n1 - (intOf i).toNat)
      case atStart => exact ⟨0, Nat.zero_le _, rfl, Below.refl _ _, rfl⟩
      case round =>
        obtain ⟨j, hj, rfl, hbi, hfi⟩ := hrel
        have hbo : Below wo.heap.size wo wr := ((Below.refl _ _).alloc (Nat.le_refl _) _).trans (hbi.mono (by omega))
        have i0 : wr.cell? ⟨wo.heap.size, 0, none⟩ = some (.int .i64 params) := (hbi.cell (p := ⟨wo.heap.size, 0, none⟩) (by simp)).trans (by simp)
        have i1 : wr.cell? ⟨wo.heap.size, 1, none⟩ = some (.int .i64 regs) := (hbi.cell (p := ⟨wo.heap.size, 1, none⟩) (by simp)).trans (by simp)
        have i2 : wr.cell? ⟨wo.heap.size, 2, none⟩ = some (.slice (some ⟨b1, off1, none⟩) n1 cap1) := (hbi.cell (p := ⟨wo.heap.size, 2, none⟩) (by simp)).trans (by simp)
        have i3 : wr.cell? ⟨w.heap.size, 0, none⟩ = some (.slice (some ⟨b, off, none⟩) n cap) := keeps_below hbo _ _ c0
        have hzi : wo.heap.size < wr.heap.size := by have := hbi.size; simp at this; omega
        by_cases hlj : j < n1
        · have hjx : j < xs.length := by rw [HL1.out]; exact hlj
          obtain ⟨g0, g1, g2, g3, g4⟩ := (hat1 j hjx).keeps (keeps_below hbo)
          have HFI : Hid (firstErr (fun x => refInstr x regs n1 n) xs = if refInstr xs[j] regs n1 n = 0 then firstErr (fun x => refInstr x regs n1 n) (xs.drop (j + 1)) else refInstr xs[j] regs n1 n) :=
            hfi.trans (firstErr_drop _ xs j hjx)
          generalize hxx : xs[j] = x at g0 g1 g2 g3 g4 HFI
          have HBI : Hid (Below (wo.heap.size + 1) (wo.alloc (.cells #[.int .i64 params, .int .i64 regs, .slice (some ⟨b1, off1, none⟩) n1 cap1] 44)) wr) := hbi
          clear hfi hat1 hxx hbi hbo d0 d1 d2 c0 hbw
          have e0 := Later.cell i0
          have e1 := Later.cell i1
          have e2 := Later.cell i2
          have e3 := Later.cell i3
          have f0 := Later.cell g0
          have f1 := Later.cell g1
          have f2 := Later.cell g2
          have f3 := Later.cell g3
          have f4 := Later.cell g4
          go_wp2
          refine wp_region_later (by kernel_rfl) (by kernel_rfl) ?_
          repeat (go_big_quiet_step ((go_at_call 67; exact calls_later (instrFault_any x params regs (some ⟨b1, off1, none⟩) n1 cap1 n _ q3 q4 (by omega) (by omega) (by omega) (by omega)))))
          refine wpQuiet_nil ?_
          intro _ hw'
          obtain ⟨d, hw''⟩ := hw'
          subst hw''
          go_wp2
          · have hne : (refInstr x regs n1 n != 0) = true := by assumption
            go_ret
            refine ⟨ret_int ?_, ((below_box (below_box (Below.refl _ w) (Nat.le_refl _) HB.out) (by omega) HBI.out).trans (d.below.mono (by omega)))⟩
            have z := HG.out.trans HFI.out
            rw [if_neg (by simpa using hne)] at z
            rw [HF.out, z, if_neg (by simpa using hne)]
          · have hne : (refInstr x regs n1 n != 0) = false := by assumption
            go_roundw
            case rel => exact ⟨j + 1, by omega, by go_num, HBI.out.trans (d.below.mono (by omega)), by rw [HFI.out, if_pos (by simpa using hne)]⟩
            case measure => simp [intOf]; omega
        · have HE := hfi.trans (firstErr_end (fun x => refInstr x regs n1 n) xs j (by rw [HL1.out]; omega))
          have HZ : Hid (firstErr (fun f => refFunc f n) p = firstErr (fun f => refFunc f n) (p.drop (k + 1))) := by
            have h := HF.out
            rw [HG.out, HE, if_pos rfl] at h
            exact h
          have HBI : Hid (Below (w.heap.size + 1) (w.alloc (.cells #[.slice (some ⟨b, off, none⟩) n cap] 24)) wr) := below_box HB.out (by omega) hbi
          clear HE hfi hat1 hbi hbo d0 d1 d2 c0 hbw
          go_wp2
          go_roundw
          case rel => exact ⟨k + 1, by omega, by go_num, HBI.out, HZ.out⟩
          case measure => simp [intOf]; omega
    · have HE := hf.trans (firstErr_end (fun f => refFunc f n) p k (by rw [HL.out]; omega))
      have HF : Hid (firstErr (fun f => refFunc f n) p = 0) := HE
      clear hf HE hat
      go_wp2
      go_ret
      exact ⟨ret_int HF.out.symm, hbw⟩

end Go.Proofs.YtepnhemlhogmgaaDoor
