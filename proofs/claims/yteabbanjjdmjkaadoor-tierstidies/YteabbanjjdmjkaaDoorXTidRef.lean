/- Contract of tierlineref.Tidied: P14.1, the document's own words (written by gen/mktidref.py). -/
import Derived.Test.YteabbanjjdmjkaaDoorXTidyAll
import Derived.Test.YteabbanjjdmjkaaDoorXTidyMath
import Derived.Test.YteabbanjjdmjkaaDoorXLiveOfAll
import Derived.Test.YteabbanjjdmjkaaDoorXStFault
import Derived.Test.YteabbanjjdmjkaaDoorGroupW
import Derived.Test.YteabbanjjdmjkaaDoorXEmitRun
namespace Go.Proofs.YteabbanjjdmjkaaDoor
open Go Go.RowKit

theorem stateFaultC (P : List Fn) (v sv : Value) (s : St) (c : Int) (w : World) (hv : ProgVal w v P) (hs : StVal w sv s) (hE : ∀ E, ProofAns P E → checkE E P s = c) :
    Calls Tryd.prog 55 #[.agg #[v], sv] w fun e w' => e = .returned (.int .i64 c) ∧ Below w.heap.size w w' :=
  (stateFault_any P v sv s w hv hs).mono (by rintro e w' ⟨E, hP, rfl, hb⟩; rw [hE E hP]; exact ⟨rfl, hb⟩)

set_option maxRecDepth 100000 in
set_option maxHeartbeats 2000000 in
theorem tidied_bad (P : List Fn) (v sv : Value) (s : St) (c : Int) (w : World) (hv : ProgVal w v P) (hs : StVal w sv s) (hE : ∀ E, ProofAns P E → checkE E P s = c) (h0 : ¬ c = 0) :
    Calls Tryd.prog 25 #[.agg #[v], sv] w fun e w' => e = .returned (.tuple #[.agg zeroStCells, .int .i64 c]) ∧ Below w.heap.size w w' := by
  have hbx : ∀ o o' o'', Below w.heap.size w (((w.alloc o).alloc o').alloc o'') := fun o o' o'' => (((Below.refl _ _).alloc (Nat.le_refl _) _).alloc (by simp) _).alloc (by simp; omega) _
  have HC : Hid (∀ o o' o'', Calls Tryd.prog 55 #[.agg #[v], sv] (((w.alloc o).alloc o').alloc o'') fun e w' => e = .returned (.int .i64 c) ∧ Below (((w.alloc o).alloc o').alloc o'').heap.size (((w.alloc o).alloc o').alloc o'') w') := fun o o' o'' =>
    stateFaultC P v sv s c _ (hv.keeps (keeps_below (hbx o o' o''))) (hs.keeps (keeps_below (hbx o o' o''))) hE
  obtain ⟨ao, n0, cap0, rfl⟩ := hv.shape
  obtain ⟨cs, rfl, hsz, hs2, -⟩ := hs.cells
  have HBX : Hid _ := hbx
  have hcb : (c != 0) = true := by simpa using h0
  clear hv hs hbx hE h0
  go_enter Tryd.func25, Tryd.ntmps25
  go_wp2_with (first
    | (refine wpList_load_row rfl _ _ rfl _ rfl _ _ _ _ (heap_alloc_old _ _ (by simp) |>.trans (heap_alloc2_new _ _ _)) Tryd.underlying29 rfl hsz ?_)
    | (go_at_call 55; refine (HC.out _ _ _).mono ?_; rintro e w1 ⟨rfl, hb1⟩; have r6 : w1.heap[w.heap.size + 1 + 1]? = some (.cells zeroStCells 29 (0, 0)) := (hb1.block _ (by simp)).trans (heap_alloc3_new _ _ _ _); have HB2 : Hid (Below w.heap.size w w1) := (HBX.out _ _ _).trans (hb1.mono (by simp; omega)); clear hb1)
    | (refine wpList_build_store rfl _ _ rfl zeroStCells (by simpa using built_zero) rfl _ _ rfl _ rfl rfl _ _ r6 infoSt rfl zeroSt_one ?_)
    | (refine wpList_build_to rfl _ _ rfl zeroStCells (by simpa using built_zero) ?_)
    | (refine wpList_store_row rfl _ _ _ rfl _ zeroStCells rfl rfl _ _ r6 infoSt rfl zeroSt_one ?_))
  try simp only [Exit.inBlock, Exit.then]
  exact bodyPost_ret (results_row_tmp rfl _ _ (w.heap.size + 1 + 1) 29 zeroStCells (0, 0) _ rfl (setRow_heap _ _ _ _ _ _ r6) Tryd.underlying29 rfl infoSt) rfl ⟨rfl, belowSR HB2.out (by omega) _⟩

/-- The round of one frame. -/
theorem set_set_get {l : List Fr} {q : Nat} {f : Fr} (h : q < l.length) : (l.set q f)[q]? = some f := by simp [h]

set_option maxRecDepth 100000 in
set_option maxHeartbeats 8000000 in
theorem tidied_ok (P : List Fn) (v sv : Value) (s : St) (w : World) (hR : ProofAns P 0) (hf : FOk P s.frames) (hE : ∀ E, ProofAns P E → checkE E P s = 0) (hv : ProgVal w v P) (hs : StVal w sv s) (h1 : s.frames.length * 112 ≤ 140737488351232) (h2 : s.events.length * 8 ≤ 140737488355328) (h3 : s.answers.length * 8 ≤ 140737488355328) :
    Calls Tryd.prog 25 #[.agg #[v], sv] w fun e w' => OwnPost w (tidS P s) e w' := by
  have HC : Hid (∀ W, Below w.heap.size w W → Calls Tryd.prog 55 #[.agg #[v], sv] W fun e w' => e = .returned (.int .i64 0) ∧ Below W.heap.size W w') := fun W hb => stateFaultC P v sv s 0 W (hv.keeps (keeps_below hb)) (hs.keeps (keeps_below hb)) hE
  have HSC : Hid (∀ W, Below w.heap.size w W → Calls Tryd.prog 36 #[sv] W fun e w' => ∃ v' fv ev av, e = .returned v' ∧ OwnState w' W.heap.size v' s fv ev av ∧ Below W.heap.size W w') := fun W hb => stCopy_any s sv W (hs.keeps (keeps_below hb)) h1 h2 h3
  have HLV : Hid (∀ W (k : Nat) (hk : k < P.length), Below w.heap.size w W → Calls Tryd.prog 38 #[.agg #[v], .int .i64 k] W fun e w' => ∃ v', e = .returned (.tuple #[v', .int .i64 0]) ∧ IntsVal w' v' (liveL P k) ∧ LiveSpec P P[k] (liveL P k) ∧ Below W.heap.size W w') := fun W k hk hb => by
    refine (liveOf_any P v k W (hv.keeps (keeps_below hb))).mono ?_
    rintro e w' ⟨v', E, A, rfl, hA, hI, hb'⟩
    rcases hA with ⟨hne, hp, -⟩ | ⟨-, hno, -, -⟩ | ⟨-, rfl, k', hkk, hk', hL⟩
    · exact absurd (proofAns_unique hp hR) hne
    · exact absurd ⟨by omega, by omega⟩ hno
    · obtain rfl : k = k' := by omega
      rw [liveL_eq hk hL] at hI hL
      exact ⟨v', rfl, hI, hL, hb'⟩
  have HPL : Hid (∀ f ∈ s.frames, ∃ (k j : Nat) (hk : k < P.length), j < P[k].code.length ∧ f.fn = k ∧ f.pc = j) := fun f hfm => by
    obtain ⟨k, j, hk, hj, e1, e2, e3, e4⟩ := place_nat (fok_all _ hf f hfm)
    exact ⟨k, j, hk, hj, e1, e2⟩
  have HQ0 : Hid (tidQs P s.frames 0 = s.frames) := tidQs_zero P _
  have HQA : Hid (tidQs P s.frames s.frames.length = s.frames.map (tidF P)) := tidQs_all P _
  have HQG : Hid (∀ q (hq : q < s.frames.length), (tidQs P s.frames q)[q]? = some s.frames[q]) := fun q hq => tidQs_get P _ q hq
  have HQS : Hid (∀ q (hq : q < s.frames.length), (tidQs P s.frames q).set q (tidF P s.frames[q]) = tidQs P s.frames (q + 1)) := fun q hq => tidQs_set P _ q hq
  have HQL : Hid (∀ q, q ≤ s.frames.length → (tidQs P s.frames q).length = s.frames.length) := fun q hq => tidQs_len P _ q hq
  have HNL : Hid (s.frames.length ≤ 9223372036854775807) := by show _ ≤ _; omega
  obtain ⟨ao, n0, cap0, rfl⟩ := hv.shape
  obtain ⟨cs, rfl, hsz, hs2, -⟩ := hs.cells
  clear hv hs hR hf hE h1 h2 h3
  go_enter Tryd.func25, Tryd.ntmps25
  go_upto_region 1 with fail
  rw [show (#[.int .i64 0, .int .i64 0, .slice none 0 0, .int .i64 0, .int .i64 0, .int .i64 0, .int .i64 0, .int .i64 0, .int .i64 0, .int .i64 0, .int .i64 0, .int .i64 0, .int .i64 0, .int .i64 0, .int .i64 0, .int .i64 0, .int .i64 0, .int .i64 0, .int .i64 0, .int .i64 0, .slice none 0 0, .slice none 0 0] : Array Value) = zeroStCells from rfl]
  have r0 : (((w.alloc (.cells #[.slice ao n0 cap0] 24)).alloc (.cells cs 29)).alloc (.cells zeroStCells 29)).heap[w.heap.size]? = some (.cells #[.slice ao n0 cap0] 24 (0, 0)) := heap_alloc_old _ _ (by simp <;> omega) |>.trans (heap_alloc2_old _ _ _)
  have r1 : (((w.alloc (.cells #[.slice ao n0 cap0] 24)).alloc (.cells cs 29)).alloc (.cells zeroStCells 29)).heap[w.heap.size + 1]? = some (.cells cs 29 (0, 0)) := heap_alloc_old _ _ (by simp <;> omega) |>.trans (heap_alloc2_new _ _ _)
  have r3 : (((w.alloc (.cells #[.slice ao n0 cap0] 24)).alloc (.cells cs 29)).alloc (.cells zeroStCells 29)).heap[w.heap.size + 1 + 1]? = some (.cells zeroStCells 29 (0, 0)) := heap_alloc3_new _ _ _ _
  have HB0 : Hid (Below w.heap.size w (((w.alloc (.cells #[.slice ao n0 cap0] 24)).alloc (.cells cs 29)).alloc (.cells zeroStCells 29))) := (((Below.refl _ _).alloc (Nat.le_refl _) _).alloc (by simp) _).alloc (by simp <;> omega) _
  generalize (((w.alloc (.cells #[.slice ao n0 cap0] 24)).alloc (.cells cs 29)).alloc (.cells zeroStCells 29)) = W0 at *
  have hz0 := lt_of_block r3
  have kp0 : W0.cell? ⟨w.heap.size, 0, none⟩ = some (.slice ao n0 cap0) := by rw [cell_of_row _ _ _ _ _ _ r0]; rfl
  go_upto_region 4 with (first
    | (refine wpList_load_row rfl _ _ rfl _ rfl _ _ _ _ r1 Tryd.underlying29 rfl hsz ?_)
    | (go_at_call 55; refine (HC.out _ HB0.out).mono ?_; rintro e w1 ⟨rfl, hb1⟩))
  have q0 := (hb1.block _ (by omega)).trans r0
  have q1 := (hb1.block _ (by omega)).trans r1
  have q3 := (hb1.block _ (by omega)).trans r3
  have HB1 : Hid (Below w.heap.size w w1) := HB0.out.trans (hb1.mono HB0.out.size)
  have hz1 : w.heap.size + 1 + 1 < w1.heap.size := lt_of_block q3
  clear r0 r1 r3 kp0 hb1 HC HB0
  go_upto_region 5 with (first
    | (refine wpList_load_row rfl _ _ rfl _ rfl _ _ _ _ q1 Tryd.underlying29 rfl hsz ?_)
    | (go_at_call 36; refine (HSC.out _ HB1.out).mono ?_; rintro e w2 ⟨v2, fv, ev, av, rfl, hos, hb2⟩; obtain rfl := hos.val; have HOS : Hid (OwnState w2 _ _ s fv ev av) := hos; obtain ⟨cs1, ecs, hsi, hold, hone⟩ := (StVal.cells ⟨fv, ev, av, rfl, hos.mem, frames_of_own hos.wf hos.frames, ints_of_own hos.events, ints_of_own hos.answers⟩ : ∃ cs1, _); obtain rfl := Value.agg.inj ecs; clear hos)
    | (refine wpList_store_row rfl _ _ _ rfl _ (stCells s fv ev av).toArray rfl rfl 29 zeroStCells (heap_alloc_last w2 _) hsi hold hone ?_; rw [World.setRow_alloc_new]))
  have hba : Below w2.heap.size w2 (w2.alloc (.cells (stCells s fv ev av).toArray 29)) := (Below.refl _ _).alloc (Nat.le_refl _) _
  have HOA : Hid (OutAt (w2.alloc (.cells (stCells s fv ev av).toArray 29)) w1.heap.size w2.heap.size s fv ev av) := HOS.out.out hba (heap_alloc_last _ _) hb2.size
  have HBA : Hid (Below w1.heap.size w1 (w2.alloc (.cells (stCells s fv ev av).toArray 29))) := hb2.trans (hba.mono hb2.size)
  clear hba HOS HSC hsi hold hone
  generalize (w2.alloc (.cells (stCells s fv ev av).toArray 29)) = W2 at *
  generalize hG : w2.heap.size = G at *
  clear hb2 hG
  obtain ⟨fa, fc, rfl⟩ : ∃ fa fc, fv = .slice fa s.frames.length fc := by
    rcases HOA.out.frames.2 with ⟨e, h0⟩ | ⟨g', cap', cur, e, _⟩
    · exact ⟨none, 0, by rw [e, h0]⟩
    · exact ⟨_, _, e⟩
  obtain ⟨N, hN⟩ : ∃ N, N = s.frames.length := ⟨_, rfl⟩
  rw [← hN] at HOA HQL HNL
  simp only [← hN]
  have HN : Hid (N = s.frames.length) := hN
  clear hN
  have HVP : Hid (∀ W, Below w1.heap.size w1 W → Below w.heap.size w W ∧ W.cell? ⟨w.heap.size, 0, none⟩ = some (.slice ao n0 cap0) ∧ W.heap[w.heap.size + 1 + 1]? = some (.cells zeroStCells 29 (0, 0))) := fun W hb => ⟨HB1.out.trans (hb.mono HB1.out.size), keeps_below hb _ _ (by rw [cell_of_row _ _ _ _ _ _ q0]; rfl), (hb.block _ hz1).trans q3⟩
  clear q0 q1 q3
  go_upto_region 6 with fail
  go_loopw [8] (fun i wr => ∃ q : Nat, q ≤ N ∧ i = .int .i64 q ∧ OutAt wr w1.heap.size G { s with frames := tidQs P s.frames q } (.slice fa N fc) ev av ∧ Below w1.heap.size w1 wr) (fun i _ => N - (intOf i).toNat)
  case atStart => exact ⟨0, by omega, rfl, by rw [HQ0.out]; exact HOA.out, HBA.out⟩
  case round =>
    clear HOA HBA
    obtain ⟨q, hq, rfl, hor, hbr⟩ := hrel
    have HOR : Hid _ := hor
    have HBR : Hid (Below w1.heap.size w1 wr) := hbr
    have kg2 : wr.cell? ⟨G, 2, none⟩ = some (.slice fa N fc) := by rw [cell_of_row _ _ _ _ _ _ hor.cells]; rfl
    clear hor hbr
    by_cases hlt : q < N
    · have hqI : (q : Int) < N := by omega
      have hqI2 : ¬ (q : Int) < 0 := by omega
      have hqs : q < s.frames.length := by have := HN.out; omega
      have hfq := HQG.out q hqs
      have hql : q < (tidQs P s.frames q).length := by rw [HQL.out q hq]; exact hlt
      obtain ⟨k, j, hk, hj, e1, e2⟩ := HPL.out s.frames[q] (List.getElem_mem hqs)
      obtain ⟨fb, cap, hfv, f1, f2, f3, f4, f5⟩ := HOR.out.box (i := q) hql
      obtain ⟨rfl, -, rfl⟩ : fa = some ⟨fb, 0, none⟩ ∧ N = (tidQs P s.frames q).length ∧ fc = cap := by simpa using hfv
      clear hfv f1 f2
      have HTF : Hid (tidF P s.frames[q] = ⟨s.frames[q].fn, s.frames[q].pc, tidR s.frames[q].regs ((liveL P k).getD j 0).toNat⟩) := by
        show _ = _
        unfold tidF
        rw [e1, e2, Int.toNat_natCast, Int.toNat_natCast]
      have HSET : Hid _ := HQS.out q hqs
      have hNb := HNL.out
      generalize s.frames[q] = f at *
      obtain ⟨fn, pc, regs⟩ := f
      dsimp only at e1 e2
      subst e1 e2
      have kp := (HVP.out wr HBR.out).2.1
      have kf : wr.cell? ⟨fb, q * 14, none⟩ = some (.int .i64 (k : Int)) := HOR.out.range hfq 0 _ rfl
      have hrl : regs.length = 12 := HOR.out.wf ⟨(k : Int), (j : Int), regs⟩ (List.mem_of_getElem? hfq)
      go_upto_region 8 with fail
      refine wp_region_held_drew (S := fun W => Below wr.heap.size wr W) (by kernel_rfl) ((Below.refl _ _).drew) (fun hHeld => ?_)
      show wpAnyH _ _ _ _ _ 13 _ _ _
      refine wpAnyH_take (i := 0) (v := ?_) rfl (by kernel_rfl) (by kernel_rfl) (by kernel_rfl) (fun _ _ _ h => h) (Or.inl ⟨by rfl, ?_⟩) (by assumption) ?_
      rotate_left
      · (intro W hSW; have z0 := keeps_below hSW _ _ kp; go_simp; try (with_reducible rfl))
      (try simp only [List.getElem_toArray, List.getElem_cons_zero])
      (try simp only [Act.put, List.setIfInBounds_toArray, List.set_cons_zero, List.set_cons_succ])
      refine wpAnyH_take (i := 1) (v := ?_) rfl (by kernel_rfl) (by kernel_rfl) (by kernel_rfl) (fun _ _ _ h => h) (Or.inl ⟨by rfl, ?_⟩) (by assumption) ?_
      rotate_left
      · (intro W hSW; go_simp; try (with_reducible rfl))
      (try simp only [List.getElem_toArray, List.getElem_cons_succ, List.getElem_cons_zero])
      (try simp only [Act.put, List.setIfInBounds_toArray, List.set_cons_zero, List.set_cons_succ])
      refine wpAnyH_take (i := 2) (v := ?_) rfl (by kernel_rfl) (by kernel_rfl) (by kernel_rfl) (fun _ _ _ h => h) (Or.inl ⟨by rfl, ?_⟩) (by assumption) ?_
      rotate_left
      · (intro W hSW; have z0 := keeps_below hSW _ _ kg2; go_simp; try (with_reducible rfl))
      (try simp only [List.getElem_toArray, List.getElem_cons_succ, List.getElem_cons_zero])
      (try simp only [Act.put, List.setIfInBounds_toArray, List.set_cons_zero, List.set_cons_succ])
      refine wpAnyH_take (i := 3) (v := ?_) rfl (by kernel_rfl) (by kernel_rfl) (by kernel_rfl) (fun _ _ _ h => h) (Or.inl ⟨by rfl, ?_⟩) (by assumption) ?_
      rotate_left
      · (intro W hSW; go_simp; try (with_reducible rfl))
      (try simp only [List.getElem_toArray, List.getElem_cons_succ, List.getElem_cons_zero])
      (try simp only [Act.put, List.setIfInBounds_toArray, List.set_cons_zero, List.set_cons_succ])
      refine wpAnyH_take (i := 4) (v := ?_) rfl (by kernel_rfl) (by kernel_rfl) (by kernel_rfl) (fun _ _ _ h => h) (Or.inl ⟨by rfl, ?_⟩) (by assumption) ?_
      rotate_left
      · (intro W hSW; go_simp; try (with_reducible rfl))
      (try simp only [List.getElem_toArray, List.getElem_cons_succ, List.getElem_cons_zero])
      (try simp only [Act.put, List.setIfInBounds_toArray, List.set_cons_zero, List.set_cons_succ])
      refine wpAnyH_take (i := 5) (v := ?_) rfl (by kernel_rfl) (by kernel_rfl) (by kernel_rfl) (fun _ _ _ h => h) (Or.inl ⟨by rfl, ?_⟩) (by assumption) ?_
      rotate_left
      · (intro W hSW; go_simp; try (with_reducible rfl))
      (try simp only [List.getElem_toArray, List.getElem_cons_succ, List.getElem_cons_zero])
      (try simp only [Act.put, List.setIfInBounds_toArray, List.set_cons_zero, List.set_cons_succ])
      refine wpAnyH_take (i := 6) (v := ?_) rfl (by kernel_rfl) (by kernel_rfl) (by kernel_rfl) (fun _ _ _ h => h) (Or.inl ⟨by rfl, ?_⟩) (by assumption) ?_
      rotate_left
      · (intro W hSW; have z0 := keeps_below hSW _ _ kf; go_simp; try (with_reducible rfl))
      (try simp only [List.getElem_toArray, List.getElem_cons_succ, List.getElem_cons_zero])
      (try simp only [Act.put, List.setIfInBounds_toArray, List.set_cons_zero, List.set_cons_succ])
      refine wpAnyH_ready (rs := [7]) (by kernel_rfl) (by simp) ?_
      refine AllReadyH.cons rfl (fun K hK => ?_) AllReadyH.nil
      go_simp
      go_at_call 38
      refine (HLV.out _ k hk (HVP.out wr HBR.out).1.drew).mono ?_
      rintro e w3 ⟨v3, rfl, hI3, hL3, hb3⟩
      obtain ⟨al, b3, o3, n3, c3, rfl, hl3, hal, -, -, -⟩ := ints_get hI3
      have hjl : j < (liveL P k).length := by rw [hL3.1]; exact hj
      obtain rfl := hal (by omega)
      clear hal
      have hlv := live_val hL3 hj
      have hb23 : Below wr.heap.size wr w3 := Below.trans hHeld (Below.mono hb3 (Below.size hHeld))
      dsimp only
      refine hK.out _ _ hb23 (fun _ => ?_)
      clear hK K hHeld
      (try simp only [Act.put, List.setIfInBounds_toArray, List.set_cons_zero, List.set_cons_succ])
      refine wpAnyH_take (i := 8) (v := ?_) rfl (by kernel_rfl) (by kernel_rfl) (by kernel_rfl) (fun _ _ _ h => h) (Or.inl ⟨by rfl, ?_⟩) hb23 ?_
      rotate_left
      · (intro W hSW; go_simp; try (with_reducible rfl))
      (try simp only [List.getElem_toArray, List.getElem_cons_succ, List.getElem_cons_zero])
      (try simp only [Act.put, List.setIfInBounds_toArray, List.set_cons_zero, List.set_cons_succ])
      refine wpAnyH_take (i := 9) (v := ?_) rfl (by kernel_rfl) (by kernel_rfl) (by kernel_rfl) (fun _ _ _ h => h) (Or.inl ⟨by rfl, ?_⟩) hb23 ?_
      rotate_left
      · (intro W hSW; go_simp; try (with_reducible rfl))
      (try simp only [List.getElem_toArray, List.getElem_cons_succ, List.getElem_cons_zero])
      (try simp only [Act.put, List.setIfInBounds_toArray, List.set_cons_zero, List.set_cons_succ])
      refine wpAnyH_take (i := 10) (v := ?_) rfl (by kernel_rfl) (by kernel_rfl) (by kernel_rfl) (fun _ _ _ h => h) (Or.inl ⟨by rfl, ?_⟩) hb23 ?_
      rotate_left
      · (intro W hSW; go_simp; try (with_reducible rfl))
      (try simp only [List.getElem_toArray, List.getElem_cons_succ, List.getElem_cons_zero])
      (try simp only [Act.put, List.setIfInBounds_toArray, List.set_cons_zero, List.set_cons_succ])
      refine wpAnyH_take (i := 11) (v := ?_) rfl (by kernel_rfl) (by kernel_rfl) (by kernel_rfl) (fun _ _ _ h => h) (Or.inl ⟨by rfl, ?_⟩) hb23 ?_
      rotate_left
      · (intro W hSW; go_simp; try (with_reducible rfl))
      (try simp only [List.getElem_toArray, List.getElem_cons_succ, List.getElem_cons_zero])
      (try simp only [Act.put, List.setIfInBounds_toArray, List.set_cons_zero, List.set_cons_succ])
      refine wpAnyH_take (i := 12) (v := ?_) rfl (by kernel_rfl) (by kernel_rfl) (by kernel_rfl) (fun _ _ _ h => h) (Or.inl ⟨by rfl, ?_⟩) hb23 ?_
      rotate_left
      · (intro W hSW; go_simp; try (with_reducible rfl))
      (try simp only [List.getElem_toArray, List.getElem_cons_succ, List.getElem_cons_zero])
      (try simp only [Act.put, List.setIfInBounds_toArray, List.set_cons_zero, List.set_cons_succ])
      refine wpAnyH_done (by kernel_rfl) ?_ _
      (try simp only [Act.put])
      have HO3 : Hid _ := HOR.out.below hb23
      have HB3 : Hid (Below w1.heap.size w1 w3) := HBR.out.trans (hb23.mono HBR.out.size)
      have kg3 := keeps_below hb23 _ _ kg2
      have clv : w3.cell? ⟨b3, o3 + j, none⟩ = some (.int .i64 ((liveL P k).getD j 0)) := ints_cell hI3 j hjl
      clear hb3 hI3 hL3 kp kf HOR HBR hb23 kg2
      have hjn : (j : Int) < (n3 : Int) := by omega
      have hjn2 : j < n3 := by omega
      have hj0 : ¬ (j : Int) < 0 := by omega
      have cpc : w3.cell? ⟨fb, q * 14 + 1, none⟩ = some (.int .i64 (j : Int)) := HO3.out.range hfq 1 _ rfl
      generalize (liveL P k).getD j 0 = lv at *
      go_upto_region 10 with fail
      clear cpc clv hjn hjn2 hj0 hjl hl3
      go_upto_region 11 with fail
      have HZ0 : Hid (tidQ regs lv.toNat 0 = regs) := tidQ_zero
      have HZA : Hid (tidQ regs lv.toNat 12 = tidR regs lv.toNat) := tidQ_all hrl
      have HZL : Hid (∀ r, r ≤ 12 → (tidQ regs lv.toNat r).length = 12) := fun r hr => tidQ_len hrl hr
      have HSE : Hid ((tidQs P s.frames q).set q ⟨(k : Int), (j : Int), regs⟩ = tidQs P s.frames q) := by
        show _ = _
        obtain ⟨hi, e⟩ := List.getElem?_eq_some_iff.1 hfq
        rw [← e]; exact List.set_getElem_self hi
      go_loopw [12] (fun i wv => ∃ r : Nat, r ≤ 12 ∧ i = .int .i64 r ∧ OutAt wv w1.heap.size G { s with frames := (tidQs P s.frames q).set q ⟨(k : Int), (j : Int), tidQ regs lv.toNat r⟩ } (.slice (some ⟨fb, 0, none⟩) N fc) ev av ∧ Below w1.heap.size w1 wv) (fun i _ => 12 - (intOf i).toNat)
      case atStart => exact ⟨0, by omega, rfl, by rw [HZ0.out, HSE.out]; exact HO3.out, HB3.out⟩
      case round =>
        clear HO3 HB3 kg3
        obtain ⟨r, hr, rfl, hor, hbr⟩ := hrel
        have HOR : Hid _ := hor
        have HBR : Hid (Below w1.heap.size w1 wr) := hbr
        have kg2 : wr.cell? ⟨G, 2, none⟩ = some (.slice (some ⟨fb, 0, none⟩) N fc) := by rw [cell_of_row _ _ _ _ _ _ hor.cells]; rfl
        clear hor hbr
        by_cases hr12 : r < 12
        · have hrI : (r : Int) < 12 := by omega
          have hrI2 : ¬ (r : Int) < 0 := by omega
          have hfr : ((tidQs P s.frames q).set q ⟨(k : Int), (j : Int), tidQ regs lv.toNat r⟩)[q]? = some ⟨(k : Int), (j : Int), tidQ regs lv.toNat r⟩ := set_set_get hql
          have cold : wr.cell? ⟨fb, q * 14 + 2 + r, none⟩ = some (.int .i64 ((tidQ regs lv.toNat r).getD r 0)) := by
            have hx : r < (tidQ regs lv.toNat r).length := by rw [HZL.out r hr]; exact hr12
            have := HOR.out.range hfr (2 + r) (.int .i64 ((tidQ regs lv.toNat r).getD r 0)) (by rw [Nat.add_comm]; show (i64s (tidQ regs lv.toNat r))[r]? = _; simp [i64s, List.getD, hx])
            rw [Nat.add_assoc]; exact this
          have hfz : wr.frozen? ⟨fb, q * 14 + 2 + r, none⟩ = false := HOR.out.free _
          obtain ⟨HO4, hb4⟩ := HOR.out.frReg q hfr r hr12 0
          simp only [List.set_set] at HO4
          cases hb : lv.toNat.testBit r
          · rw [tidQ_set hrl hr12 hb] at HO4
            have HO4H : Hid _ := HO4
            have HB4 : Hid (Below w1.heap.size w1 (wr.setCell ⟨fb, q * 14 + 2 + r, none⟩ (.int .i64 0))) := HBR.out.trans hb4
            clear HO4 hb4 HOR
            rcases hlv with rfl | ⟨m, hm, rfl⟩
            · generalize (tidQ regs (Int.toNat (-1)) r).getD r 0 = old at *
              go_wp2
              go_roundw
              case rel => exact ⟨r + 1, by omega, by go_num, HO4H.out, HB4.out⟩
              case measure => simp [intOf]; omega
            · have hHB : Hid (∀ W, Calls Tryd.prog 40 #[.int .i64 (m : Int), .int .i64 (r : Int)] W fun e w' => e = .returned (.bool false) ∧ w' = W) := fun W => hasBit_int m r false W (by omega) (by omega) hrI (by rw [Int.toNat_natCast] at hb ⊢; rw [hasB_bit]; exact hb)
              have hm0 : ¬ (m : Int) < 0 := by omega
              generalize (tidQ regs (Int.toNat (m : Int)) r).getD r 0 = old at *
              clear hb hm
              go_wp2_with (go_at_call 40; refine (hHB.out _).mono ?_; rintro e wq ⟨rfl, hwq⟩; replace hwq := hwq.symm; subst hwq)
              go_roundw
              case rel => exact ⟨r + 1, by omega, by go_num, HO4H.out, HB4.out⟩
              case measure => simp [intOf]; omega
          · have hsk := tidQ_skip hrl hr12 hb
            have HO4H : Hid (OutAt wr w1.heap.size G { s with frames := (tidQs P s.frames q).set q ⟨(k : Int), (j : Int), tidQ regs lv.toNat (r + 1)⟩ } (.slice (some ⟨fb, 0, none⟩) N fc) ev av) := by show OutAt _ _ _ _ _ _ _; rw [← hsk]; exact HOR.out
            clear HO4 hb4 HOR hsk cold hfz
            rcases hlv with rfl | ⟨m, hm, rfl⟩
            · simp at hb
            · have hHB : Hid (∀ W, Calls Tryd.prog 40 #[.int .i64 (m : Int), .int .i64 (r : Int)] W fun e w' => e = .returned (.bool true) ∧ w' = W) := fun W => hasBit_int m r true W (by omega) (by omega) hrI (by rw [Int.toNat_natCast] at hb ⊢; rw [hasB_bit]; exact hb)
              have hm0 : ¬ (m : Int) < 0 := by omega
              clear hb hm
              go_wp2_with (go_at_call 40; refine (hHB.out _).mono ?_; rintro e wq ⟨rfl, hwq⟩; replace hwq := hwq.symm; subst hwq)
              go_roundw
              case rel => exact ⟨r + 1, by omega, by go_num, HO4H.out, HBR.out⟩
              case measure => simp [intOf]; omega
        · obtain rfl : r = 12 := by omega
          have hx := HOR.out
          rw [HZA.out, ← HTF.out, HSET.out] at hx
          have HX : Hid _ := hx
          clear hx HOR
          go_wp2
          go_roundw
          case rel => exact ⟨q + 1, by omega, by go_num, HX.out, HBR.out⟩
          case measure => simp [intOf]; omega
    · obtain rfl : q = N := by omega
      have hn := HN.out
      have hx := HOR.out
      rw [hn, HQA.out, ← hn] at hx
      have r2 := hx.cells
      have hk3 := HVP.out wr HBR.out
      have x3 := hk3.2.2
      obtain ⟨csx, hcx, y1, y2, y3⟩ := hx.stp.at.val.cells
      obtain rfl := Value.agg.inj hcx
      have hgg : w.heap.size + 1 + 1 ≠ G := by have := hx.low; omega
      have HAV : Hid (∀ a n cp, av = .slice (some a) n cp → 0 < n → a.block ≠ w.heap.size + 1 + 1) := fun a n cp e hn => by have := hx.alow a n cp e hn; omega
      have HX : Hid (OutAt wr w1.heap.size G (tidS P s) (.slice fa q fc) ev av) := hx
      have HB2 : Hid (Below w.heap.size w wr) := hk3.1
      have hwl : w.heap.size ≤ w1.heap.size := HB1.out.size
      clear hx hn hk3 hcx HOR
      generalize hXX : (stCells { s with frames := s.frames.map (tidF P) } (.slice fa q fc) ev av).toArray = XX at *
      have HXX : Hid _ := hXX
      clear hXX
      go_wp2_with (first
        | (refine wpList_load_row rfl _ _ rfl _ rfl _ _ _ _ r2 Tryd.underlying29 rfl y1 ?_)
        | (refine wpList_store_row rfl _ _ _ rfl _ XX rfl rfl _ _ x3 y1 y2 y3 ?_))
      try simp only [Exit.inBlock, Exit.then]
      refine bodyPost_ret (results_row_tmp rfl _ _ (w.heap.size + 1 + 1) 29 XX (0, 0) _ rfl (setRow_heap _ _ _ _ _ _ x3) Tryd.underlying29 rfl y1) rfl ⟨XX, rfl, ?_, belowSR HB2.out (by omega) _⟩
      have := ((HX.out.other x3 hgg HAV.out XX).stp).mono hwl
      rw [show (stCells (tidS P s) (.slice fa q fc) ev av).toArray = XX from HXX.out] at this
      exact this
end Go.Proofs.YteabbanjjdmjkaaDoor
