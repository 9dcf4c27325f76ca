/- Contract of the document's RunOf (package tierlineref) at right programs. -/
import Derived.Test.YtndogdojcbcjgaaDoorXRunMeas
import Derived.Test.YtndogdojcbcjgaaDoorXStepd
import Derived.Test.YtndogdojcbcjgaaDoorGroupW
import Derived.Test.YtndogdojcbcjgaaDoorXStepRun
namespace Go.Proofs.YtndogdojcbcjgaaDoor
open Go Go.RowKit

theorem step_ok {P : List Fn} (hR : ProofAns P 0) {S : St} (h : RunInv P S) (hF : FitSt S) (hs : S.status = 0) (he : S.events.length * 8 ≤ 140737488351232) : ∃ fs f, StepOk P S fs f := by
  have hmm := (mayB_iff S).1 h.may
  have hne : S.frames ≠ [] := fun hh => by
    have h7 := hmm.2.2.2.2.2.2.1
    rw [hh] at h7
    have := h7.2 rfl
    omega
  have hfs : S.frames = S.frames.dropLast ++ [S.frames.getLast hne] := (List.dropLast_concat_getLast hne).symm
  exact ⟨_, _, hfs, hs, right_zero hR, h.fok.place _ (List.getLast_mem hne), fun c hc => h.fok.place c ((List.dropLast_sublist _).subset (List.mem_of_getLast? hc)), hmm.2.2.2.2.1, hmm.2.2.1, hmm.2.2.2.1, he, hmm.2.2.2.2.2.1, fun r => fits_get (hF.regs _ (List.getLast_mem hne)) r⟩

set_option maxRecDepth 100000 in
set_option maxHeartbeats 4000000 in
theorem runOf_ok (P : List Fn) (v va vn : Value) (args answers : List Int) (fuel : Nat) (w : World) (hR : ProofAns P 0) (hv : ProgVal w v P) (hva : IntsVal w va args) (hvn : IntsVal w vn answers)
    (h1 : (args.length : Int) = par0 P) (h2 : answers.length ≤ 100) (h4 : fuel ≤ 10000) (ha : args.length ≤ 12) (hP : FitP P) (hfa : ∀ z ∈ args, Fits z) (hfn : ∀ z ∈ answers, Fits z) :
    Calls Tryd.prog 30 #[.agg #[v], va, vn, .int .i64 (fuel : Int)] w fun e w' => ∃ cs, e = .returned (.tuple #[.agg cs, .int .i64 0]) ∧ (Tryd.prog.info? 29).map (·.size) = some cs.size ∧ StVal w' (.agg cs) (walkS P (fuel + 1) (beginSt args answers fuel)) ∧ Below w.heap.size w w' := by
  have hI : RunInv P (beginSt args answers fuel) := runInv_begin hR args answers fuel ha h2 (by omega) (by omega)
  have hF : FitSt (beginSt args answers fuel) := ⟨fun f hf z hz => by
    obtain rfl : f = begunFr 0 args := by simpa [beginSt] using hf
    simp only [begunFr, regsOf] at hz
    rcases List.mem_append.1 hz with h | h
    · exact hfa z h
    · rw [List.eq_of_mem_replicate h]; exact fits_zero, fun z hz => by
      have : z ∈ noMem := hz
      simp [noMem] at this
      rw [this]; exact fits_zero, hfn⟩
  have HSP : Hid (∀ (k : Nat) W sv, k ≤ fuel + 1 → (walkS P k (beginSt args answers fuel)).status = 0 → Below w.heap.size w W → StVal W sv (walkS P k (beginSt args answers fuel)) → Calls Tryd.prog 66 #[.agg #[v], sv] W fun e w' => StepdPost P (walkS P k (beginSt args answers fuel)) W e w') := fun k W sv hk hs hW hsv => by
    obtain ⟨fs, f, hok⟩ := step_ok hR (runInv_walk hR k hI) (walkS_fits hP k hF) hs (by have := walkS_events_len P k (beginSt args answers fuel); have e : (beginSt args answers fuel).events.length = 0 := rfl; omega)
    exact stepped_any P _ fs f hok v sv W (hv.keeps (keeps_below hW)) hsv
  have HME : Hid (∀ k, (walkS P k (beginSt args answers fuel)).status = 0 → measS (stepS P (walkS P k (beginSt args answers fuel))) < measS (walkS P k (beginSt args answers fuel))) := fun k hs => by
    have hi := runInv_walk hR k hI
    have hmm := (mayB_iff _).1 hi.may
    refine stepS_meas hs hmm.2.2.1 (fun hh => ?_)
    have h7 := hmm.2.2.2.2.2.2.1
    rw [hh] at h7
    have := h7.2 rfl
    omega
  have HEN : Hid (∀ k, k ≤ fuel + 1 → (walkS P k (beginSt args answers fuel)).status ≠ 0 → walkS P (fuel + 1) (beginSt args answers fuel) = walkS P k (beginSt args answers fuel)) := fun k hk hs => walkS_ended P k (fuel + 1) _ hk hs
  have HNE : Hid ((walkS P (fuel + 1) (beginSt args answers fuel)).status ≠ 0) := run_ended hR hI (fuel + 1) (by show (fuel : Int) < _; omega)
  have HSU : Hid (∀ k, (walkS P k (beginSt args answers fuel)).status = 0 → walkS P (k + 1) (beginSt args answers fuel) = stepS P (walkS P k (beginSt args answers fuel))) := fun k hs => walkS_succ P k _ hs
  have HBG : Hid (∀ o o', Calls Tryd.prog 65 #[.agg #[v], va, vn, .int .i64 (fuel : Int)] ((w.alloc o).alloc o') (BeginPost P args answers fuel ((w.alloc o).alloc o'))) := fun o o' => begun_ref P v va vn args answers fuel _ (hv.keeps (keeps_below (((Below.refl _ _).alloc (Nat.le_refl _) _).alloc (by simp) _))) (hva.keeps (keeps_below (((Below.refl _ _).alloc (Nat.le_refl _) _).alloc (by simp) _))) (hvn.keeps (keeps_below (((Below.refl _ _).alloc (Nat.le_refl _) _).alloc (by simp) _)))
  have HB0 : Hid (∀ E, ProofAns P E → beginE E P args answers fuel = 0) := fun E hE => by
    obtain rfl := proofAns_unique hE hR
    unfold beginE
    rw [if_neg (by simp), if_neg (by omega), if_neg (by omega)]
  obtain ⟨ao, n0, cap0, rfl⟩ := hv.shape
  obtain ⟨aa, ca, rfl⟩ := hva.shape
  obtain ⟨an, cn, rfl⟩ := hvn.shape
  clear hv hva hvn hR hI hF h1 h2 ha hP hfa hfn
  go_enter Tryd.func30, Tryd.ntmps30
  go_wp2_with (first
    | (go_at_call 65; refine (HBG.out _ _).mono ?_; rintro e w1 hP1; obtain ⟨E, v1, hE, rfl, hsv, hb1⟩ := hP1; rw [HB0.out E hE] at hsv ⊢; obtain ⟨cs1, rfl, s1, s2, s3⟩ := hsv.cells; have HSV1 : Hid (StVal w1 (.agg cs1) (beginSt args answers fuel)) := hsv; have h8 : w1.heap[w.heap.size + 1]? = some (.cells zeroStCells 29 (0, 0)) := (hb1.block _ (by simp)).trans (heap_alloc2_new _ _ _); have h4r : w1.heap[w.heap.size]? = some (.cells #[.slice ao n0 cap0] 24 (0, 0)) := (hb1.block _ (by simp; omega)).trans (heap_alloc2_old _ _ _); have HBB : Hid (Below w.heap.size w w1) := (((Below.refl _ _).alloc (Nat.le_refl _) _).alloc (by simp) _).trans (hb1.mono (by simp; omega)); have hz1 : w.heap.size + 1 < w1.heap.size := Nat.lt_of_lt_of_le (by simp) hb1.size; clear hb1 hsv hE)
    | (refine wpList_store_row rfl _ _ _ rfl _ _ rfl rfl _ _ (heap_alloc_last w1 _) s1 s2 s3 ?_; rw [World.setRow_alloc_new]))
  have HW0 : Hid ((w1.alloc (.cells cs1 29)).heap[w1.heap.size]? = some (.cells cs1 29 (0, 0)) ∧ StVal (w1.alloc (.cells cs1 29)) (.agg cs1) (beginSt args answers fuel) ∧ Below (w.heap.size + 2) w1 (w1.alloc (.cells cs1 29))) := ⟨heap_alloc_last w1 _, HSV1.out.keeps (keeps_below ((Below.refl _ _).alloc (Nat.le_refl _) _)), (Below.refl _ _).alloc (by omega) _⟩
  (try simp only [Act.put, List.getElem_toArray, List.getElem_cons_succ, List.getElem_cons_zero, List.setIfInBounds_toArray, List.set_cons_zero, List.set_cons_succ])
  generalize w1.alloc (.cells cs1 29) = W1 at *
  generalize w1.heap.size = bx at *
  go_loopw [24] (fun _ wr => ∃ (k : Nat) (csk : Array Value), k ≤ fuel + 1 ∧ wr.heap[bx]? = some (.cells csk 29 (0, 0)) ∧ StVal wr (.agg csk) (walkS P k (beginSt args answers fuel)) ∧ Below (w.heap.size + 2) w1 wr ∧ (0 < k → StAt wr (w.heap.size + 2) (.agg csk) (walkS P k (beginSt args answers fuel)))) (fun _ wr => measW wr bx)
  case atStart => exact ⟨0, cs1, by omega, HW0.out.1, HW0.out.2.1, HW0.out.2.2, fun h => by omega⟩
  case round =>
    obtain ⟨k, csk, hk, hg, hsv, hbr, hat⟩ := hrel
    obtain ⟨csx, ecs, c1, c2, c3⟩ := hsv.cells
    obtain rfl := Value.agg.inj ecs
    have hst0 : wr.cell? ⟨bx, 0, none⟩ = some (.int .i64 (walkS P k (beginSt args answers fuel)).status) := by
      rw [cell_of_row _ _ _ _ _ _ hg]
      obtain ⟨fv, ev, av, e, -⟩ := hsv
      obtain rfl := Value.agg.inj e
      rfl
    have HFU : Hid (wr.cell? ⟨bx, 19, none⟩ = some (.int .i64 (walkS P k (beginSt args answers fuel)).fuel)) := by
      show _ = _
      rw [cell_of_row _ _ _ _ _ _ hg]
      obtain ⟨fv, ev, av, e, hm, -⟩ := hsv
      obtain rfl := Value.agg.inj e
      rw [List.getElem?_toArray]; exact stC_tail _ _ _ hm 0
    have HMW : Hid (measW wr bx = measS (walkS P k (beginSt args answers fuel))) := measW_eq hst0 HFU.out
    have HSV : Hid (StVal wr (.agg csk) (walkS P k (beginSt args answers fuel))) := hsv
    have HBR : Hid (Below (w.heap.size + 2) w1 wr) := hbr
    have HBW : Hid (Below w.heap.size w wr) := HBB.out.trans (hbr.mono (by omega))
    have hg8 : wr.heap[w.heap.size + 1]? = some (.cells zeroStCells 29 (0, 0)) := (hbr.block _ (by omega)).trans h8
    have kp : wr.cell? ⟨w.heap.size, 0, none⟩ = some (.slice ao n0 cap0) := by rw [cell_of_row _ _ _ _ _ _ ((hbr.block _ (by omega)).trans h4r)]; rfl
    have hzb : bx < wr.heap.size := lt_of_block hg
    clear hsv hbr ecs
    by_cases hs : (walkS P k (beginSt args answers fuel)).status = 0
    · have hkf : k < fuel + 1 := by
        rcases Nat.lt_or_ge k (fuel + 1) with h | h
        · exact h
        · obtain rfl : k = fuel + 1 := by omega
          exact absurd hs HNE.out
      have HC : Hid (Calls Tryd.prog 66 #[.agg #[.slice ao n0 cap0], .agg csk] wr fun e w' => StepdPost P (walkS P k (beginSt args answers fuel)) wr e w') := HSP.out k wr (.agg csk) hk hs HBW.out HSV.out
      have HLT : Hid (measS (stepS P (walkS P k (beginSt args answers fuel))) < measS (walkS P k (beginSt args answers fuel))) := HME.out k hs
      have HSC : Hid (walkS P (k + 1) (beginSt args answers fuel) = stepS P (walkS P k (beginSt args answers fuel))) := HSU.out k hs
      rw [hs] at hst0
      have hzw : w.heap.size + 2 ≤ wr.heap.size := by have := HBR.out.size; omega
      clear hs hat
      go_wp2_with (first
        | (refine wpList_load_row rfl 29 (.tmp 10) rfl _ rfl _ _ _ _ hg Tryd.underlying29 rfl c1 ?_)
        | (go_at_call 66; refine HC.out.mono ?_; rintro e w3 hP3; obtain ⟨v3, rfl, hst3, hb3⟩ := hP3; obtain ⟨cs3, rfl, d1, d2, d3⟩ := hst3.val.cells; have HST : Hid (StAt w3 wr.heap.size (.agg cs3) (stepS P (walkS P k (beginSt args answers fuel)))) := hst3; have hg3 : w3.heap[bx]? = some (.cells csk 29 (0, 0)) := (hb3.block _ hzb).trans hg; have HB3 : Hid (Below (w.heap.size + 2) w1 w3) := HBR.out.trans (hb3.mono (by have := HBR.out.size; omega)); clear hb3 hst3)
        | (refine wpList_store_row rfl _ _ _ rfl _ _ rfl rfl _ _ hg3 d1 (by rw [← c2, d2]) d3 ?_))
      (try simp only [Act.put])
      go_roundw
      case rel => exact ⟨k + 1, cs3, by omega, setRow_heap _ _ _ _ _ _ hg3, by rw [HSC.out]; exact (HST.out.setRow hzb _).val, below_setRow HB3.out (by omega) hg3 _, fun _ => by rw [HSC.out]; exact (HST.out.setRow hzb _).mono hzw⟩
      case measure =>
        rw [HMW.out]
        obtain ⟨fv, ev, av, e, hm, -⟩ := HST.out
        obtain rfl := Value.agg.inj e
        have e0 : (w3.setRow bx (stCells (stepS P (walkS P k (beginSt args answers fuel))) fv ev av).toArray).cell? ⟨bx, 0, none⟩ = some (.int .i64 (stepS P (walkS P k (beginSt args answers fuel))).status) := by rw [cell_of_row _ _ _ _ _ _ (setRow_heap _ _ _ _ _ _ hg3)]; rfl
        have e1 : (w3.setRow bx (stCells (stepS P (walkS P k (beginSt args answers fuel))) fv ev av).toArray).cell? ⟨bx, 19, none⟩ = some (.int .i64 (stepS P (walkS P k (beginSt args answers fuel))).fuel) := by rw [cell_of_row _ _ _ _ _ _ (setRow_heap _ _ _ _ _ _ hg3), List.getElem?_toArray]; exact stC_tail _ _ _ hm 0
        rw [measW_eq e0 e1]
        exact HLT.out
    · have hsb : ((walkS P k (beginSt args answers fuel)).status == 0) = false := beq_eq_false_iff_ne.2 hs
      have HEQ : Hid (walkS P (fuel + 1) (beginSt args answers fuel) = walkS P k (beginSt args answers fuel)) := HEN.out k hk hs
      have hk0 : 0 < k := by
        rcases Nat.eq_zero_or_pos k with rfl | h
        · exact absurd rfl hs
        · exact h
      have HSA : Hid (StAt wr (w.heap.size + 2) (.agg csk) (walkS P k (beginSt args answers fuel))) := hat hk0
      clear hs hat
      generalize (walkS P k (beginSt args answers fuel)).status = st at *
      go_wp2_with (first
        | (refine wpList_load_row rfl 29 (.tmp 10) rfl _ rfl _ _ _ _ hg Tryd.underlying29 rfl c1 ?_)
        | (refine wpList_store_row rfl _ _ _ rfl _ _ rfl rfl _ _ hg8 c1 c2 c3 ?_))
      try simp only [Exit.inBlock, Exit.then]
      exact bodyPost_ret (results_row_tmp rfl _ _ (w.heap.size + 1) 29 csk (0, 0) _ rfl (setRow_heap _ _ _ _ _ _ hg8) Tryd.underlying29 rfl c1) rfl ⟨csk, rfl, c1, by rw [HEQ.out]; exact (HSA.out.setRow (by omega) _).val, below_setRow HBW.out (by omega) hg8 _⟩
end Go.Proofs.YtndogdojcbcjgaaDoor
