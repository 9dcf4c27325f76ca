/- The walk of tierlinekeep.ProofUnset: at all raw numbers it says true, and nothing that was there has turned. -/
import Derived.Test.YthnajfekhnocaaaDoorUnsetMath
namespace Go.Proofs.YthnajfekhnocaaaDoor
open Go Go.RowKit

theorem set_regs {w : World} {base tF tI g cap N : Nat} {f : Fn} {fs : List Fn} {u0 : Value} {us : List Value} (ht : tI ≠ tF) (h : Built w base tF tI (.slice (some ⟨g, 0, none⟩) N cap) (f :: fs) (u0 :: us)) (hN : (f :: fs).length = N) (R : Int) :
    Built (w.setCell ⟨g, 1, none⟩ (.int .i64 R)) base tF tI (.slice (some ⟨g, 0, none⟩) N cap) (⟨f.params, R, f.code⟩ :: fs) (u0 :: us) := by
  have hrow := h.row
  rw [hN] at hrow
  have hs := (hrow.stored 1 (.int .i64 R)).1
  refine ⟨by simpa using h.len, ?_, fun i hi => ?_⟩
  · have e : (⟨f.params, R, f.code⟩ :: fs : List Fn).length = N := by simpa using hN
    rw [e]; exact hs
  · have hi' : i < (f :: fs).length := by simpa using hi
    have hc := h.codes i hi'
    have hne : ((u0 :: us)[i]'(by have := h.len; omega)).ownBlock ≠ some g := by
      rcases own_apart hc h.row ht with h1 | h1
      · rw [h1]; simp
      · exact h1
    have := ownsRow_setCell_other hc hne (a := ⟨g, 1, none⟩) (.int .i64 R)
    cases i with
    | zero => exact this
    | succ i => exact this

theorem set_code {w : World} {base tF tI g cap N : Nat} {f : Fn} {fs : List Fn} {u0 : Value} {us : List Value} (ht : tI ≠ tF) (h : Built w base tF tI (.slice (some ⟨g, 0, none⟩) N cap) (f :: fs) (u0 :: us)) (hN : (f :: fs).length = N) (x : Ins) (o : Obj) :
    ProgVal (((w.setCell ⟨g, 2, none⟩ (.slice (some ⟨w.heap.size + 1, 0, none⟩) 1 1)).alloc o).alloc (.cells (insCells x).toArray tI)) (.slice (some ⟨g, 0, none⟩) N cap) (⟨f.params, f.regs, [x]⟩ :: fs) := by
  have hrow := h.row
  rw [hN] at hrow
  have hs := ((hrow.stored 2 (.slice (some ⟨w.heap.size + 1, 0, none⟩) 1 1)).1.alloc o).alloc (.cells (insCells x).toArray tI)
  have hb : (((w.setCell ⟨g, 2, none⟩ (.slice (some ⟨w.heap.size + 1, 0, none⟩) 1 1)).alloc o).alloc (.cells (insCells x).toArray tI)).heap[w.heap.size + 1]? = some (.cells (insCells x).toArray tI) := by
    have := heap_alloc_new ((w.setCell ⟨g, 2, none⟩ (.slice (some ⟨w.heap.size + 1, 0, none⟩) 1 1)).alloc o) (.cells (insCells x).toArray tI)
    simpa using this
  refine prog_of_row (base := base) (tF := tF) (us := .slice (some ⟨w.heap.size + 1, 0, none⟩) 1 1 :: us) (by simpa using h.len) ?_ fun i hi => ?_
  · have e : (⟨f.params, f.regs, [x]⟩ :: fs : List Fn).length = N := by simpa using hN
    rw [e]; exact hs
  · cases i with
    | zero =>
      refine ⟨_, w.heap.size + 1, 0, 1, 1, rfl, ⟨rfl, fun _ => rfl, fun k hk => ?_⟩, ⟨Nat.le_refl _, fun e => by cases e⟩, by simp [maxLen]⟩
      have hk0 : k = 0 := by simpa using hk
      subst hk0
      refine ⟨?_, ?_, ?_, ?_, ?_⟩ <;> (rw [cell_of_row _ _ _ _ _ _ hb]; rfl)
    | succ i =>
      have hi' : i + 1 < (f :: fs).length := by simpa using hi
      have hc := h.codes (i + 1) hi'
      have hne : ((u0 :: us)[i + 1]'(by have := h.len; omega)).ownBlock ≠ some g := by
        rcases own_apart hc h.row ht with h1 | h1
        · rw [h1]; simp
        · exact h1
      exact code_of_own (((ownsRow_setCell_other hc hne (a := ⟨g, 2, none⟩) _).alloc o).alloc _)

theorem built_cons {w : World} {base tF tI : Nat} {v : Value} {P : List Fn} {us : List Value} (h : Built w base tF tI v P us) (hP : 1 ≤ P.length) : ∃ f fs u0 us' g cap, P = f :: fs ∧ us = u0 :: us' ∧ v = .slice (some ⟨g, 0, none⟩) P.length cap ∧ base ≤ g ∧ g < w.heap.size ∧ cap ≤ 9223372036854775807 ∧ P.length ≤ cap := by
  obtain ⟨g, cap, rfl, h1, h2, h3, h4⟩ := own_at h.row (by omega)
  have hl := h.len
  cases P with
  | nil => simp at hP
  | cons f fs =>
    cases us with
    | nil => simp at hl
    | cons u0 us' => exact ⟨f, fs, u0, us', g, cap, rfl, rfl, rfl, h1, h2, by simpa [maxLen] using h3, h4⟩

theorem cell_set_other {w : World} {g i b j : Nat} {u v : Value} (h : w.cell? ⟨b, j, none⟩ = some v) (hne : b ≠ g) : (w.setCell ⟨g, i, none⟩ u).cell? ⟨b, j, none⟩ = some v := by
  rw [World.cell?_of_block (w := w) (Below.heap_setCell _ _ _ _ (by simpa using hne))]; exact h
theorem ans_zero {l P : List Fn} {v : Value} {W : World} (h : ProgIs l P) (ht : TabOk W) (hc : CallOk W) (hv : ProgVal W v P) :
    Calls Tryd.prog 13 #[.agg #[v]] W fun e w' => e = .returned (.int .i64 0) ∧ Below W.heap.size W w' :=
  (pcheck_any P v W ht hc hv).mono fun e w' ⟨E, he, hE, hb⟩ => ⟨by rw [he, right_of h hE], hb⟩
theorem ans_six {f : Fn} {fs : List Fn} {v : Value} {W : World} {n : Int} (h : codeProg (f :: fs) = 0) (h1 : f.params ≤ n) (h2 : n < 12) (ht : TabOk W) (hc : CallOk W) (hv : ProgVal W v (⟨f.params, 12, [⟨19, 0, n, 0, 0⟩]⟩ :: fs)) :
    Calls Tryd.prog 13 #[.agg #[v]] W fun e w' => e = .returned (.int .i64 6) ∧ Below W.heap.size W w' :=
  (pcheck_any _ v W ht hc hv).mono fun e w' ⟨E, he, hE, hb⟩ => ⟨by rw [he, unset_six h h1 h2 hE], hb⟩
theorem ans_seven {f : Fn} {fs : List Fn} {v : Value} {W : World} (h : codeProg (f :: fs) = 0) (ht : TabOk W) (hc : CallOk W) (hv : ProgVal W v (⟨f.params, f.regs, [⟨1, 0, 0, 0, 1⟩]⟩ :: fs)) :
    Calls Tryd.prog 13 #[.agg #[v]] W fun e w' => e = .returned (.int .i64 7) ∧ Below W.heap.size W w' :=
  (pcheck_any _ v W ht hc hv).mono fun e w' ⟨E, he, hE, hb⟩ => ⟨by rw [he, end_seven h hE], hb⟩

/-- What Program answers, laid out: the same program each time. -/
theorem program_cons {l : List Fn} {f : Fn} {fs : List Fn} {v : Value} {w : World} (hpi : ProgIs l (f :: fs)) (ht : TabOk w) (hc : CallOk w) (hv : ProgVal w v l) (hwf : ∀ f ∈ l, f.wf) :
    Calls Tryd.prog 21 #[v] w fun e w' => ∃ g cap u0 us, e = .returned (.agg #[.slice (some ⟨g, 0, none⟩) (f :: fs).length cap]) ∧ Built w' w.heap.size 43 47 (.slice (some ⟨g, 0, none⟩) (f :: fs).length cap) (f :: fs) (u0 :: us) ∧ w.heap.size ≤ g ∧ g < w'.heap.size ∧ cap ≤ 9223372036854775807 ∧ (f :: fs).length ≤ cap ∧ Below w.heap.size w w' := by
  refine (program_raw l v w ht hc hv hwf).mono fun e w' ⟨v', P, us, he, hp, hbt, hb⟩ => ?_
  obtain rfl := progIs_unique hp hpi
  obtain ⟨f', fs', u0, us', g, cap, e1, rfl, rfl, h1, h2, h3, h4⟩ := built_cons hbt (by simp)
  exact ⟨g, cap, u0, us', he, hbt, h1, h2, h3, h4, hb⟩

set_option maxHeartbeats 4000000 in
set_option maxRecDepth 100000 in
theorem proofUnset_walk (l : List Fn) (v : Value) (r : Int) (w : World) (ht : TabOk w) (hc : CallOk w) (hv : ProgVal w v l) (hwf : ∀ f ∈ l, f.wf) (hr : I64 r) :
    Calls Tryd.prog 8 #[v, .int .i64 r] w fun e w' => e = .returned (.bool true) ∧ Below w.heap.size w w' := by
  have hSh := program_raw l v w ht hc hv hwf
  have HPV : Hid (∀ W, Below w.heap.size w W → TabOk W ∧ CallOk W ∧ ProgVal W v l) := fun W hb => ⟨ht.below hb, hc.below hb, hv.keeps (keeps_below hb)⟩
  obtain ⟨aol, nl, capl, rfl⟩ := hv.shape
  clear hv ht hc
  go_enter Tryd.func8, Tryd.ntmps8
  go_upto_region 2 with (go_at_call 21; refine hSh.mono ?_; rintro e w1 ⟨v1, P, us, rfl, hpi, hbt, hb1⟩; have hcp := progIs_code hpi; obtain ⟨f, fs, u0, us', g1, cap1, rfl, rfl, rfl, hg1, hgl1, hm1, hc1⟩ := built_cons hbt (codeProg_zero hcp).1)
  have hfz := codeFunc_zero ((codeProg_zero hcp).2.2 f (by simp))
  have hq0 := hfz.2.2.1
  have hq2 := hfz.2.2.2.1
  have hN4 := (codeProg_zero hcp).2.1
  have HPC : Hid (∀ W, Below w.heap.size w W → Calls Tryd.prog 21 #[.slice aol nl capl] W fun e w' => ∃ g cap u0 us, e = .returned (.agg #[.slice (some ⟨g, 0, none⟩) (f :: fs).length cap]) ∧ Built w' W.heap.size 43 47 (.slice (some ⟨g, 0, none⟩) (f :: fs).length cap) (f :: fs) (u0 :: us) ∧ W.heap.size ≤ g ∧ g < w'.heap.size ∧ cap ≤ 9223372036854775807 ∧ (f :: fs).length ≤ cap ∧ Below W.heap.size W w') := fun W hb => program_cons hpi (HPV.out W hb).1 (HPV.out W hb).2.1 (HPV.out W hb).2.2 hwf
  have HTC : Hid (∀ W, Below w.heap.size w W → TabOk W ∧ CallOk W) := fun W hb => ⟨(HPV.out W hb).1, (HPV.out W hb).2.1⟩
  have HA0 : Hid (∀ V W, TabOk W → CallOk W → ProgVal W V (f :: fs) → Calls Tryd.prog 13 #[.agg #[V]] W fun e w' => e = .returned (.int .i64 0) ∧ Below W.heap.size W w') := fun V W a b c => ans_zero hpi a b c
  have HA6 : Hid (∀ n V W, f.params ≤ n → n < 12 → TabOk W → CallOk W → ProgVal W V (⟨f.params, 12, [⟨19, 0, n, 0, 0⟩]⟩ :: fs) → Calls Tryd.prog 13 #[.agg #[V]] W fun e w' => e = .returned (.int .i64 6) ∧ Below W.heap.size W w') := fun n V W a b c d e => ans_six hcp a b c d e
  have HA7 : Hid (∀ V W, TabOk W → CallOk W → ProgVal W V (⟨f.params, f.regs, [⟨1, 0, 0, 0, 1⟩]⟩ :: fs) → Calls Tryd.prog 13 #[.agg #[V]] W fun e w' => e = .returned (.int .i64 7) ∧ Below W.heap.size W w') := fun V W a b c => ans_seven hcp a b c
  have HP1 : Hid (ProgVal w1 (.slice (some ⟨g1, 0, none⟩) (f :: fs).length cap1) (f :: fs)) := hbt.prog
  have hrow := hbt.row
  have hlen1 : 1 ≤ (f :: fs).length := by simp
  have d0 : w1.cell? ⟨g1, 0, none⟩ = some (.int .i64 f.params) := by rw [hrow.cellAt 0 (by omega)]; rfl
  have d1 : w1.cell? ⟨g1, 1, none⟩ = some (.int .i64 f.regs) := by rw [hrow.cellAt 1 (by omega)]; rfl
  have d2 : w1.cell? ⟨g1, 2, none⟩ = some u0 := by rw [hrow.cellAt 2 (by omega)]; rfl
  obtain ⟨a0, c0', rfl⟩ := own_shape (hbt.codes 0 (by simp))
  have HB1 : Hid (Below w.heap.size w w1) := hb1
  have t0 := fun o => cell_alloc d0 o
  have t1 := fun o => cell_alloc d1 o
  have t2 := fun o => cell_alloc d2 o
  have HNL : Hid ((f :: fs).length = (f :: fs).length) := rfl
  simp only [List.length_cons] at hN4 hc1 HPC HP1
  generalize hN : fs.length + 1 = N at hN4 hc1 HPC HP1 ⊢
  have HN : Hid ((f :: fs).length = N) := hN
  have hN1 : 1 ≤ N := by omega
  simp only [List.getElem_cons_zero] at t2 d2
  generalize f.code.length = n0 at t2 d2
  clear hSh HPV hwf hfz hcp hpi hbt hrow HNL hN hb1 hlen1
  obtain ⟨pk, hpk⟩ : ∃ z, z = pickI r (12 - f.params) := ⟨_, rfl⟩
  have hpb := pickI_bounds r (12 - f.params) (by omega)
  rw [← hpk] at hpb
  have hz1 : (0 : Int) < N := by omega
  go_upto_region 3 with fail
  have hPK := fun W => picked_any r (12 - f.params) W hr (by omega) (by omega)
  rw [← hpk] at hPK
  clear hpk
  have HAP : Hid (∀ W, Below w1.heap.size w1 W → ProgVal W (.slice (some ⟨g1, 0, none⟩) N cap1) (f :: fs)) := fun W hb => HP1.out.keeps (keeps_below hb)
  have HWW : Hid (Below w1.heap.size w1 ((w1.alloc (.cells #[.slice (some ⟨g1, 0, none⟩) N cap1] 24)).alloc (.cells #[.int .i64 f.params, .int .i64 f.regs, .slice a0 n0 c0'] 43))) := ((Below.refl _ _).alloc (Nat.le_refl _) _).alloc (by simp) _
  go_quiet ((go_at_call 19; exact Calls.quiet_of_same (hPK _)))
  rename_i nq
  have HW3 : Hid (Below w1.heap.size w1 ((((w1.alloc (.cells #[.slice (some ⟨g1, 0, none⟩) N cap1] 24)).alloc (.cells #[.int .i64 f.params, .int .i64 f.regs, .slice a0 n0 c0'] 43))).drewN nq)) := below_drewN HWW.out _
  have HW4 : Hid (Below w.heap.size w ((((w1.alloc (.cells #[.slice (some ⟨g1, 0, none⟩) N cap1] 24)).alloc (.cells #[.int .i64 f.params, .int .i64 f.regs, .slice a0 n0 c0'] 43))).drewN nq)) := HB1.out.trans (HW3.out.mono (by have := HB1.out.size; omega))
  have hP2 := HPC.out _ HW4.out
  have pc5 : ((((w1.alloc (.cells #[.slice (some ⟨g1, 0, none⟩) N cap1] 24)).alloc (.cells #[.int .i64 f.params, .int .i64 f.regs, .slice a0 n0 c0'] 43))).drewN nq).cell? ⟨w1.heap.size, 0, none⟩ = some (.slice (some ⟨g1, 0, none⟩) N cap1) := cell_alloc (way_box w1 _ _ 0 _ rfl) _
  have hsz : ((((w1.alloc (.cells #[.slice (some ⟨g1, 0, none⟩) N cap1] 24)).alloc (.cells #[.int .i64 f.params, .int .i64 f.regs, .slice a0 n0 c0'] 43))).drewN nq).heap.size = w1.heap.size + 1 + 1 := by simp
  generalize hW : ((((w1.alloc (.cells #[.slice (some ⟨g1, 0, none⟩) N cap1] 24)).alloc (.cells #[.int .i64 f.params, .int .i64 f.regs, .slice a0 n0 c0'] 43))).drewN nq) = wq at HW3 HW4 hP2 pc5 hsz ⊢
  clear hW HWW hPK t0 t1 t2 d0 d1 d2
  go_upto_region 5 with (go_at_call 21; refine hP2.mono ?_; rintro e w2 ⟨g2, cap2, u2, us2, rfl, hbt2, hg2, hgl2, hm2, hc2, hb2⟩)
  have rowW := hbt2.row
  rw [HN.out] at rowW
  have r1 : w2.cell? ⟨g2, 1, none⟩ = some (.int .i64 f.regs) := by rw [rowW.cellAt 1 (by omega)]; rfl
  have r2 : w2.cell? ⟨g2, 2, none⟩ = some u2 := by rw [rowW.cellAt 2 (by omega)]; rfl
  have z1 := rowW.frozenAt 1
  have z2 := rowW.frozenAt 2
  have HQ0 := set_code (by decide) (set_regs (by decide) hbt2 HN.out 12) HN.out ⟨19, 0, f.params + pk, 0, 0⟩ (.cells #[.slice (some ⟨g2, 0, none⟩) N cap2] 24)
  have hsz2 : (w2.setCell ⟨g2, 1, none⟩ (.int .i64 12)).heap.size = w2.heap.size := by simp
  rw [hsz2] at HQ0
  have HQ : Hid (ProgVal ((((w2.setCell ⟨g2, 1, none⟩ (.int .i64 12)).setCell ⟨g2, 2, none⟩ (.slice (some ⟨w2.heap.size + 1, 0, none⟩) 1 1)).alloc (.cells #[.slice (some ⟨g2, 0, none⟩) N cap2] 24)).alloc (.cells #[.int .i64 19, .int .i64 0, .int .i64 (f.params + pk), .int .i64 0, .int .i64 0] 47)) (.slice (some ⟨g2, 0, none⟩) N cap2) (⟨f.params, 12, [⟨19, 0, f.params + pk, 0, 0⟩]⟩ :: fs)) := HQ0
  have HWQ : Hid (Below wq.heap.size wq ((((w2.setCell ⟨g2, 1, none⟩ (.int .i64 12)).setCell ⟨g2, 2, none⟩ (.slice (some ⟨w2.heap.size + 1, 0, none⟩) 1 1)).alloc (.cells #[.slice (some ⟨g2, 0, none⟩) N cap2] 24)).alloc (.cells #[.int .i64 19, .int .i64 0, .int .i64 (f.params + pk), .int .i64 0, .int .i64 0] 47))) := (((hb2.setCell hg2 _).setCell hg2 _).alloc (by have := hb2.size; simp; omega) _).alloc (by have := hb2.size; simp; omega) _
  have HQ8 : Hid (((((w2.setCell ⟨g2, 1, none⟩ (.int .i64 12)).setCell ⟨g2, 2, none⟩ (.slice (some ⟨w2.heap.size + 1, 0, none⟩) 1 1)).alloc (.cells #[.slice (some ⟨g2, 0, none⟩) N cap2] 24)).alloc (.cells #[.int .i64 19, .int .i64 0, .int .i64 (f.params + pk), .int .i64 0, .int .i64 0] 47)).cell? ⟨w2.heap.size, 0, none⟩ = some (.slice (some ⟨g2, 0, none⟩) N cap2)) := cell_alloc (by have h := way_box ((w2.setCell ⟨g2, 1, none⟩ (.int .i64 12)).setCell ⟨g2, 2, none⟩ (.slice (some ⟨w2.heap.size + 1, 0, none⟩) 1 1)) #[.slice (some ⟨g2, 0, none⟩) N cap2] 24 0 _ rfl; simpa using h) _
  have hsz4 : ((((w2.setCell ⟨g2, 1, none⟩ (.int .i64 12)).setCell ⟨g2, 2, none⟩ (.slice (some ⟨w2.heap.size + 1, 0, none⟩) 1 1)).alloc (.cells #[.slice (some ⟨g2, 0, none⟩) N cap2] 24)).alloc (.cells #[.int .i64 19, .int .i64 0, .int .i64 (f.params + pk), .int .i64 0, .int .i64 0] 47)).heap.size = w2.heap.size + 1 + 1 := by simp
  clear rowW HQ0 hsz2 hbt2
  go_upto_region 7 with fail
  generalize hW4 : ((((w2.setCell ⟨g2, 1, none⟩ (.int .i64 12)).setCell ⟨g2, 2, none⟩ (.slice (some ⟨w2.heap.size + 1, 0, none⟩) 1 1)).alloc (.cells #[.slice (some ⟨g2, 0, none⟩) N cap2] 24)).alloc (.cells #[.int .i64 19, .int .i64 0, .int .i64 (f.params + pk), .int .i64 0, .int .i64 0] 47)) = wo at HQ HWQ HQ8 hsz4 ⊢
  clear hW4 r1 r2 z1 z2
  have hszq : wq.heap.size ≤ wo.heap.size := HWQ.out.size
  have HBO : Hid (Below w.heap.size w wo) := HW4.out.trans (HWQ.out.mono (by have := HB1.out.size; omega))
  have HBO1 : Hid (Below w1.heap.size w1 wo) := HW3.out.trans (HWQ.out.mono (by omega))
  have HPO : Hid (wo.cell? ⟨w1.heap.size, 0, none⟩ = some (.slice (some ⟨g1, 0, none⟩) N cap1)) := keeps_below HWQ.out _ _ pc5
  have hP3 := HPC.out _ HBO.out
  clear hP2 pc5 hb2 hgl2 hg2
  go_upto_region 8 with (go_at_call 21; refine hP3.mono ?_; rintro e w3 ⟨g3, cap3, u3, us3, rfl, hbt3, hg3, hgl3, hm3, hc3, hb3⟩)
  have rowO := hbt3.row
  rw [HN.out] at rowO
  have r2 : w3.cell? ⟨g3, 2, none⟩ = some u3 := by rw [rowO.cellAt 2 (by omega)]; rfl
  have z2 := rowO.frozenAt 2
  have HO : Hid (ProgVal (((w3.setCell ⟨g3, 2, none⟩ (.slice (some ⟨w3.heap.size + 1, 0, none⟩) 1 1)).alloc (.cells #[.slice (some ⟨g3, 0, none⟩) N cap3] 24)).alloc (.cells #[.int .i64 1, .int .i64 0, .int .i64 0, .int .i64 0, .int .i64 1] 47)) (.slice (some ⟨g3, 0, none⟩) N cap3) (⟨f.params, f.regs, [⟨1, 0, 0, 0, 1⟩]⟩ :: fs)) := set_code (by decide) hbt3 HN.out ⟨1, 0, 0, 0, 1⟩ (.cells #[.slice (some ⟨g3, 0, none⟩) N cap3] 24)
  have HW6 : Hid (Below wo.heap.size wo (((w3.setCell ⟨g3, 2, none⟩ (.slice (some ⟨w3.heap.size + 1, 0, none⟩) 1 1)).alloc (.cells #[.slice (some ⟨g3, 0, none⟩) N cap3] 24)).alloc (.cells #[.int .i64 1, .int .i64 0, .int .i64 0, .int .i64 0, .int .i64 1] 47))) := ((hb3.setCell hg3 _).alloc (by have := hb3.size; simp; omega) _).alloc (by have := hb3.size; simp; omega) _
  have HO9 : Hid ((((w3.setCell ⟨g3, 2, none⟩ (.slice (some ⟨w3.heap.size + 1, 0, none⟩) 1 1)).alloc (.cells #[.slice (some ⟨g3, 0, none⟩) N cap3] 24)).alloc (.cells #[.int .i64 1, .int .i64 0, .int .i64 0, .int .i64 0, .int .i64 1] 47)).cell? ⟨w3.heap.size, 0, none⟩ = some (.slice (some ⟨g3, 0, none⟩) N cap3)) := cell_alloc (by have h := way_box (w3.setCell ⟨g3, 2, none⟩ (.slice (some ⟨w3.heap.size + 1, 0, none⟩) 1 1)) #[.slice (some ⟨g3, 0, none⟩) N cap3] 24 0 _ rfl; simpa using h) _
  have hsz6 : (((w3.setCell ⟨g3, 2, none⟩ (.slice (some ⟨w3.heap.size + 1, 0, none⟩) 1 1)).alloc (.cells #[.slice (some ⟨g3, 0, none⟩) N cap3] 24)).alloc (.cells #[.int .i64 1, .int .i64 0, .int .i64 0, .int .i64 0, .int .i64 1] 47)).heap.size = w3.heap.size + 1 + 1 := by simp
  clear rowO hbt3 hP3
  go_upto_region 9 with fail
  generalize hW6 : (((w3.setCell ⟨g3, 2, none⟩ (.slice (some ⟨w3.heap.size + 1, 0, none⟩) 1 1)).alloc (.cells #[.slice (some ⟨g3, 0, none⟩) N cap3] 24)).alloc (.cells #[.int .i64 1, .int .i64 0, .int .i64 0, .int .i64 0, .int .i64 1] 47)) = we at HO HW6 HO9 hsz6 ⊢
  clear hW6 r2 z2
  have hsze : wo.heap.size ≤ we.heap.size := HW6.out.size
  have HBE : Hid (Below w.heap.size w we) := HBO.out.trans (HW6.out.mono (by have := HBO.out.size; omega))
  have HBE1 : Hid (Below w1.heap.size w1 we) := HBO1.out.trans (HW6.out.mono (by have := HBO1.out.size; omega))
  have c5 : we.cell? ⟨w1.heap.size, 0, none⟩ = some (.slice (some ⟨g1, 0, none⟩) N cap1) := keeps_below HW6.out _ _ HPO.out
  have c8 := keeps_below HW6.out _ _ HQ8.out
  have c9 := HO9.out
  have HTE := HTC.out we HBE.out
  have hCp := HA0.out _ we HTE.1 HTE.2 (HAP.out we HBE1.out)
  have hCq := fun W (hb : Below we.heap.size we W) => HA6.out (f.params + pk) _ W (by omega) (by omega) (HTE.1.below hb) (HTE.2.below hb) ((HQ.out.keeps (keeps_below HW6.out)).keeps (keeps_below hb))
  have hCo := fun W (hb : Below we.heap.size we W) => HA7.out _ W (HTE.1.below hb) (HTE.2.below hb) (HO.out.keeps (keeps_below hb))
  clear HTE
  go_wp2_with (first
    | (go_at_call 13; refine hCp.mono ?_; rintro e w7 ⟨rfl, hb7⟩; have s8 := keeps_below hb7 _ _ c8; have s9 := keeps_below hb7 _ _ c9; clear hCp)
    | (go_at_call 13; refine (hCq _ hb7).mono ?_; rintro e w8 ⟨rfl, hb8⟩; have u9 := keeps_below hb8 _ _ s9; have hb78 := below_call hb7 hb7.size hb8; clear hCq)
    | (go_at_call 13; refine (hCo _ hb78).mono ?_; rintro e w9 ⟨rfl, hb9⟩; clear hCo))
  go_ret
  exact ⟨rfl, HBE.out.trans ((below_call hb78 hb78.size hb9).mono (by have := HBE.out.size; omega))⟩

end Go.Proofs.YthnajfekhnocaaaDoor
