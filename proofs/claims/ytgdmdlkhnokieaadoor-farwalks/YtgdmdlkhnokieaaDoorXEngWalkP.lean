/- Contract of step.Walk once more: its answer owns its frames and events. -/
import Derived.Test.YtgdmdlkhnokieaaDoorGroupE
namespace Go.Proofs.YtgdmdlkhnokieaaDoor
open Go Go.RowKit

/-- A state whose frames and events are owned, its answers lying apart of them. -/
def StP (w : World) (base : Nat) (v : Value) (s : St) : Prop := ∃ fv ev av, v = .agg (stCells s fv ev av).toArray ∧ s.mem.length = 16 ∧ FrsWf s.frames ∧ w.ownsRow base 45 14 fv s.frames.length (framesCells s.frames) ∧ w.ownsRow base 3 1 ev s.events.length (i64s s.events) ∧ IntsVal w av s.answers ∧ LowV base av ∧ ∀ a n cp, av = .slice (some a) n cp → 0 < n → some a.block ≠ ev.ownBlock ∧ some a.block ≠ fv.ownBlock
theorem StP.at {w : World} {base : Nat} {v : Value} {s : St} (h : StP w base v s) : StAt w base v s := by
  obtain ⟨fv, ev, av, rfl, hm, hw, h1, h2, h3, h4, -⟩ := h
  exact ⟨fv, ev, av, rfl, hm, frames_of_own hw h1, ints_of_own h2, h3, low_own h1 (Nat.le_refl _), low_own h2 (Nat.le_refl _), h4⟩
theorem StP.mono {w : World} {base base' : Nat} {v : Value} {s : St} (h : StP w base v s) (hb : base' ≤ base) : StP w base' v s := by
  obtain ⟨fv, ev, av, rfl, hm, hw, h1, h2, h3, h4, h5⟩ := h
  exact ⟨fv, ev, av, rfl, hm, hw, own_base h1 hb, own_base h2 hb, h3, fun a n cp e hn => Nat.le_trans hb (h4 a n cp e hn), h5⟩
theorem eng_outP {w : World} {base g r : Nat} {P : List Fn} {pv fv ev av : Value} {S : St} (h : EngAt w base g P pv S fv ev av) (hr : r < base) :
    StP (w.setRow r (stCells S fv ev av).toArray) base (.agg (stCells S fv ev av).toArray) S ∧ w.rangeAt g 0 (stCells S fv ev av) := by
  obtain ⟨h1, h2⟩ := eng_out h hr
  obtain ⟨fv', ev', av', e, -, -, -, ha, -, -, hl⟩ := h1
  have e2 := Value.agg.inj e
  have e3 : av = av' := by
    have a1 := (stCells_get S fv ev av h.mem).2.2
    rw [e2, (stCells_get S fv' ev' av' h.mem).2.2] at a1
    exact (Option.some.inj a1).symm
  subst e3
  exact ⟨⟨fv, ev, av, rfl, h.mem, h.wf, own_setRow h.frames hr _, own_setRow h.events hr _, ha, hl, fun a n cp e hn => (h.apart a n cp e hn).2⟩, h2⟩

set_option maxRecDepth 100000 in
set_option maxHeartbeats 8000000 in
theorem walk_ownP (P : List Fn) (v sv : Value) (S : St) (N : Nat) (w : World) (ht : TabOk w) (hc : CallOk w) (hR : ProofAns P 0) (hv : ProgVal w v P) (hs : StVal w sv S) (hg : Stays P N S) (hN : N ≤ 100000) (he : (S.events.length + N) * 8 + 8 ≤ 140737488355328) :
    Calls Tryd.prog 8 #[.agg #[v], sv, .int .i64 N] w fun e w' => ∃ v', e = .returned (.tuple #[v', .int .i64 0]) ∧ StP w' w.heap.size v' (walkS P N S) ∧ Below w.heap.size w w' := by
  have hbx : ∀ o o' o'', Below w.heap.size w (((w.alloc o).alloc o').alloc o'') := fun o o' o'' => (((Below.refl _ _).alloc (Nat.le_refl _) _).alloc (by simp) _).alloc (by simp; omega) _
  have hC : Hid (∀ o o' o'', Calls Tryd.prog 18 #[.agg #[v], sv] (((w.alloc o).alloc o').alloc o'') fun e w' => e = .returned (.int .i64 0) ∧ Below (((w.alloc o).alloc o').alloc o'').heap.size (((w.alloc o).alloc o').alloc o'') w') := fun o o' o'' => by
    refine (stepCheck_any P v sv S _ (ht.below (hbx o o' o'')) (hc.below (hbx o o' o'')) (hv.keeps (keeps_below (hbx o o' o''))) (hs.keeps (keeps_below (hbx o o' o'')))).mono ?_
    rintro e w' ⟨E, hE, rfl, hb⟩
    obtain rfl := proofAns_unique hE hR
    obtain ⟨g1, g2⟩ := hg 0 (Or.inl rfl)
    have e0 : checkE 0 P S = 0 := by
      unfold checkE
      rw [if_neg (by simp), if_pos]
      have g3 : framesB P S.frames = true := (framesB_iff _ _).2 g2
      have g1 : mayB S = true := g1
      rw [g1, g3]; rfl
    rw [e0]
    exact ⟨rfl, hb⟩
  have HV : Hid (ProgVal w v P) := hv
  have HSV : Hid (StVal w sv S) := hs
  obtain ⟨ao, n0, cap0, rfl⟩ := hv.shape
  obtain ⟨fv, ev, av, rfl, hm, hf, he', ha⟩ := hs
  obtain ⟨cs, hcs⟩ : ∃ cs, cs = (stCells S fv ev av).toArray := ⟨_, rfl⟩
  have hsz : (Tryd.prog.info? 34).map (·.size) = some cs.size := by rw [hcs, List.size_toArray, stCells_length _ _ _ _ hm]; exact infoSt
  rw [← hcs] at hC HSV ⊢
  clear hf he' ha ht hc hv hcs
  have hNI : ¬ (N : Int) < 0 := by omega
  go_enter Tryd.func8, Tryd.ntmps8
  go_upto_region 6 with (first
    | (refine wpList_load_row rfl _ _ rfl _ rfl _ _ _ _ (heap_alloc_old _ _ (by simp) |>.trans (heap_alloc2_new _ _ _)) Tryd.underlying34 rfl hsz ?_)
    | (go_at_call 18; refine (hC.out _ _ _).mono ?_; rintro e w1 ⟨rfl, hb1⟩))
  have k0 : w1.cell? ⟨w.heap.size, 0, none⟩ = some (.slice ao n0 cap0) := by
    refine keeps_below hb1 _ _ ?_
    rw [cell_of_row _ _ _ _ _ _ ((heap_alloc_old _ _ (by simp; omega)).trans (heap_alloc2_old _ _ _))]; rfl
  have h9 : w1.heap[w.heap.size + 1]? = some (.cells cs 34 (0, 0)) := (hb1.block _ (by simp)).trans ((heap_alloc_old _ _ (by simp)).trans (heap_alloc2_new _ _ _))
  have h6 : w1.heap[w.heap.size + 1 + 1]? = some (.cells zeroStCells 34 (0, 0)) := (hb1.block _ (by simp)).trans (heap_alloc3_new _ _ _ _)
  have HB1 : Hid (Below w.heap.size w w1) := (hbx _ _ _).trans (hb1.mono (by simp; omega))
  have HZ1 : Hid (w.heap.size + 3 ≤ w1.heap.size) := by have := hb1.size; simp at this; show _ ≤ _; omega
  have HOWN : Hid (∀ W, Below w1.heap.size w1 W → Calls Tryd.prog 19 #[.agg cs] W fun e w' => ∃ v' fv ev av, e = .returned v' ∧ OwnState w' W.heap.size v' S fv ev av ∧ Below W.heap.size W w') := fun W hb =>
    own_any S _ W (HSV.out.keeps (keeps_below (HB1.out.trans (hb.mono HB1.out.size)))) (by have := (mayB_iff _).1 (hg 0 (Or.inl rfl)).1; have : S.frames.length ≤ 8 := this.2.2.2.2.1; omega) (by omega) (by have := (mayB_iff _).1 (hg 0 (Or.inl rfl)).1; have : S.answers.length ≤ 100 := this.2.2.2.2.2.1; omega)
  have HPV : Hid (∀ W, Below w1.heap.size w1 W → ProgVal W (.slice ao n0 cap0) P) := fun W hb => HV.out.keeps (keeps_below (HB1.out.trans (hb.mono HB1.out.size)))
  have HM : Hid (S.mem.length = 16) := hm
  refine wp_region_last (S := fun W => Below w1.heap.size w1 W) _ 5 (by kernel_rfl) (by kernel_rfl) rfl ((Below.refl _ _).drew) (fun hHeld => ?_)
  simp only [List.pop_toArray, List.dropLast]
  refine wpAnyH_take (i := 0) (v := .agg cs.toList.toArray) rfl (by kernel_rfl) (by kernel_rfl) (by kernel_rfl) (fun _ _ _ h => h) (yieldsIf_load_mid (by rfl) 34 (.tmp 4) rfl (w.heap.size + 1) 0 rfl cs.toList _ (fun W hSW j u hu => by
      rw [cell_of_row _ _ _ _ _ _ ((hSW.block _ (by have := HZ1.out; omega)).trans h9)]; simpa using hu) Tryd.underlying34 rfl (by simpa using hsz)) (by assumption) ?_
  (try simp only [Act.put, Array.toArray_toList, List.setIfInBounds_toArray])
  refine wpAnyH_take (i := 2) (v := ?_) rfl (by kernel_rfl) (by kernel_rfl) (by kernel_rfl) (fun _ _ _ h => h) (Or.inl ⟨by rfl, ?_⟩) (by assumption) ?_
  rotate_left
  · (intro W hSW; have zz := keeps_below hSW _ _ k0; go_simp; try (with_reducible rfl))
  (try simp only [Act.put])
  refine wpAnyH_ready (rs := [1, 4]) (by kernel_rfl) (by simp) ?_
  refine AllReadyH.cons rfl (fun K hK => ?_) (AllReadyH.cons rfl (fun K hK => ?_) AllReadyH.nil)
  · go_simp
    go_at_call 19
    refine (HOWN.out _ hHeld).mono ?_
    rintro e w2 ⟨v2, fv2, ev2, av2, rfl, ho2, hb2⟩
    obtain rfl := ho2.val
    obtain ⟨fa2, fc2, rfl⟩ := own_shape ho2.frames
    obtain ⟨ea2, ec2, rfl⟩ := own_shape ho2.events
    obtain ⟨aa2, ac2, rfl⟩ := own_shape ho2.answers
    have HB2 : Hid (Below w1.heap.size w1 w2) := hHeld.trans (hb2.mono (Nat.le_refl _))
    dsimp only
    refine hK.out _ _ HB2.out (fun _ => ?_)
    clear hK K
    (try simp only [Act.put, List.setIfInBounds_toArray, List.set_cons_zero, List.set_cons_succ])
    refine wpAnyH_take (i := 3) (v := .agg (engCells S (.slice fa2 S.frames.length fc2) (.slice ea2 S.events.length ec2) (.slice aa2 S.answers.length ac2) (.slice ao n0 cap0)).toArray) rfl (by kernel_rfl) (by kernel_rfl) (by kernel_rfl) (fun _ _ _ h => h) (yieldsIf_build (by rfl) _ _ rfl _ (by simpa [Act.eval] using built_eng S (.slice fa2 S.frames.length fc2) (.slice ea2 S.events.length ec2) (.slice aa2 S.answers.length ac2) (.slice ao n0 cap0) HM.out)) HB2.out ?_
    (try simp only [Act.put, List.setIfInBounds_toArray])
    refine wpAnyH_ready (rs := [4]) (by kernel_rfl) (by simp) ?_
    refine AllReadyH.cons rfl (fun K hK => ?_) AllReadyH.nil
    go_simp
    refine hK.out _ _ (HB2.out.alloc HB2.out.size _) (fun _ => ?_)
    clear hK K
    (try simp only [Act.put, List.setIfInBounds_toArray, List.set_cons_zero, List.set_cons_succ])
    refine wpAnyH_done (by kernel_rfl) ?_ _
    refine Or.inl ?_
    refine wp_store_row 73 _ _ rfl w2.heap.size (engCells S (.slice fa2 S.frames.length fc2) (.slice ea2 S.events.length ec2) (.slice aa2 S.answers.length ac2) (.slice ao n0 cap0)).toArray rfl rfl 73 zeroEngCells (heap_alloc_last w2 _) (by rw [List.size_toArray, engCells_length _ _ _ _ HM.out]; exact infoEng) ((show zeroEngCells.size = 23 from rfl).trans (by rw [List.size_toArray, engCells_length _ _ _ _ HM.out])) (engCells_one _ _ _ _ _ rfl rfl rfl rfl) ?_
    have HBN : Hid (Below w1.heap.size w1 (World.setRow (w2.alloc (.cells #[.int .i64 0, .int .i64 0, .slice none 0 0, .int .i64 0, .int .i64 0, .int .i64 0, .int .i64 0, .int .i64 0, .int .i64 0, .int .i64 0, .int .i64 0, .int .i64 0, .int .i64 0, .int .i64 0, .int .i64 0, .int .i64 0, .int .i64 0, .int .i64 0, .int .i64 0, .int .i64 0, .slice none 0 0, .slice none 0 0, .slice none 0 0] 73)) w2.heap.size (engCells S (.slice fa2 S.frames.length fc2) (.slice ea2 S.events.length ec2) (.slice aa2 S.answers.length ac2) (.slice ao n0 cap0)).toArray)) := below_setRow (HB2.out.alloc HB2.out.size _) HB2.out.size _
    have HEN : Hid (EngAt (World.setRow (w2.alloc (.cells #[.int .i64 0, .int .i64 0, .slice none 0 0, .int .i64 0, .int .i64 0, .int .i64 0, .int .i64 0, .int .i64 0, .int .i64 0, .int .i64 0, .int .i64 0, .int .i64 0, .int .i64 0, .int .i64 0, .int .i64 0, .int .i64 0, .int .i64 0, .int .i64 0, .int .i64 0, .int .i64 0, .slice none 0 0, .slice none 0 0, .slice none 0 0] 73)) w2.heap.size (engCells S (.slice fa2 S.frames.length fc2) (.slice ea2 S.events.length ec2) (.slice aa2 S.answers.length ac2) (.slice ao n0 cap0)).toArray) w1.heap.size w2.heap.size P (.slice ao n0 cap0) S (.slice fa2 S.frames.length fc2) (.slice ea2 S.events.length ec2) (.slice aa2 S.answers.length ac2)) := eng_new (ho2.below ((Below.refl _ _).alloc (Nat.le_refl _) _)) (Nat.le_refl _) HB2.out.size (heap_alloc_last w2 _) (fun W hW => HPV.out W (HBN.out.trans hW))
    generalize World.setRow (w2.alloc (.cells #[.int .i64 0, .int .i64 0, .slice none 0 0, .int .i64 0, .int .i64 0, .int .i64 0, .int .i64 0, .int .i64 0, .int .i64 0, .int .i64 0, .int .i64 0, .int .i64 0, .int .i64 0, .int .i64 0, .int .i64 0, .int .i64 0, .int .i64 0, .int .i64 0, .int .i64 0, .int .i64 0, .slice none 0 0, .slice none 0 0, .slice none 0 0] 73)) w2.heap.size (engCells S (.slice fa2 S.frames.length fc2) (.slice ea2 S.events.length ec2) (.slice aa2 S.answers.length ac2) (.slice ao n0 cap0)).toArray = WW at HBN HEN ⊢
    obtain ⟨G, hG⟩ : ∃ G : Nat, G = w2.heap.size := ⟨_, rfl⟩
    have HEM : Hid (EngAt WW w1.heap.size G P (.slice ao n0 cap0) S (.slice fa2 S.frames.length fc2) (.slice ea2 S.events.length ec2) (.slice aa2 S.answers.length ac2)) := by rw [hG]; exact HEN
    rw [← hG]
    clear HEN
    clear hG ho2 hb2 hHeld
    (try simp only [Act.put, List.setIfInBounds_toArray])
    go_wp2_with fail
    go_loopw [2] (fun n wr => ∃ (k m : Nat) (fv ev av : Value), k + m = N ∧ n = .int .i64 (m : Int) ∧ EngAt wr w1.heap.size G P (.slice ao n0 cap0) (walkS P k S) fv ev av ∧ Below w1.heap.size w1 wr) (fun n _ => (intOf n).toNat)
    case atStart => exact ⟨0, N, _, _, _, by omega, rfl, HEM.out, HBN.out⟩
    case round =>
      obtain ⟨k, m, fv3, ev3, av3, hkm, rfl, hen, hbn⟩ := hrel
      obtain ⟨q0, -⟩ := hen.own
      obtain ⟨fa3, fc3, rfl⟩ := own_shape hen.frames
      obtain ⟨ea3, ec3, rfl⟩ := own_shape hen.events
      obtain ⟨aa3, ac3, rfl⟩ := hen.answers.shape
      have HER : Hid (EngAt wr w1.heap.size G P (.slice ao n0 cap0) (walkS P k S) (.slice fa3 (walkS P k S).frames.length fc3) (.slice ea3 (walkS P k S).events.length ec3) (.slice aa3 (walkS P k S).answers.length ac3)) := hen
      have HBR : Hid (Below w1.heap.size w1 wr) := hbn
      have k0r : wr.cell? ⟨w.heap.size, 0, none⟩ = some (.slice ao n0 cap0) := keeps_below hbn _ _ k0
      have h6r : wr.heap[w.heap.size + 1 + 1]? = some (.cells zeroStCells 34 (0, 0)) := (hbn.block _ (by have := HZ1.out; omega)).trans h6
      obtain ⟨OUT, ORG⟩ := eng_outP hen (show w.heap.size + 1 + 1 < w1.heap.size by have := HZ1.out; omega)
      have HOUT : Hid _ := OUT
      have hsi : (Tryd.prog.info? 34).map (·.size) = some (stCells (walkS P k S) (.slice fa3 (walkS P k S).frames.length fc3) (.slice ea3 (walkS P k S).events.length ec3) (.slice aa3 (walkS P k S).answers.length ac3)).length := by rw [stCells_length _ _ _ _ hen.mem]; exact infoSt
      have hold : zeroStCells.size = (stCells (walkS P k S) (.slice fa3 (walkS P k S).frames.length fc3) (.slice ea3 (walkS P k S).events.length ec3) (.slice aa3 (walkS P k S).answers.length ac3)).toArray.size := (show zeroStCells.size = 22 from rfl).trans (by rw [List.size_toArray, stCells_length _ _ _ _ hen.mem])
      have hone := stCells_one (walkS P k S) (.slice fa3 (walkS P k S).frames.length fc3) (.slice ea3 (walkS P k S).events.length ec3) (.slice aa3 (walkS P k S).answers.length ac3) rfl rfl rfl
      by_cases hrun : 0 < m ∧ (walkS P k S).status = 0
      · obtain ⟨hm0, hst⟩ := hrun
        obtain ⟨gm, gf⟩ := hg k (Or.inr (by omega))
        have hfr : (walkS P k S).frames ≠ [] := by
          intro e
          have := ((mayB_iff _).1 gm).2.2.2.2.2.2.1.2 (by rw [e]; rfl)
          omega
        obtain ⟨fs, f, hSf⟩ : ∃ fs f, (walkS P k S).frames = fs ++ [f] := ⟨_, _, (List.dropLast_concat_getLast hfr).symm⟩
        have hpf : placeB P f = true := gf.place f (by rw [hSf]; simp)
        have hf12 : f.regs.length = 12 := hen.wf f (by rw [hSf]; simp)
        obtain ⟨fb, cap3, hfa⟩ := hen.fshape hfr
        obtain ⟨rfl, rfl⟩ : fa3 = some ⟨fb, 0, none⟩ ∧ fc3 = cap3 := by simpa using hfa
        have HST : Hid (∀ W, Below wr.heap.size wr W → Calls Tryd.prog 22 #[.pointer (some ⟨G, 0, none⟩)] W (EngPost w1.heap.size G P (.slice ao n0 cap0) (walkS P (k + 1) S) W)) := fun W hb => by
          rw [walkS_succ P k S hst]
          exact step_any w1.heap.size G P (.slice ao n0 cap0) (walkS P k S) _ _ _ W (HER.out.below hb) (right_code hR) gf gm hst (by have := walkS_events_len P k S; omega)
        have HLA : Hid (∀ W, Below wr.heap.size wr W → Calls Tryd.prog 21 #[.pointer (some ⟨G, 0, none⟩)] W fun e w' => e = .returned (.pointer (some ⟨fb, fs.length * 14, none⟩)) ∧ Below W.heap.size W w') := fun W hb => last_eng (HER.out.below hb) hSf
        have HPL : Hid (∀ W, Below wr.heap.size wr W → Calls Tryd.prog 20 #[.agg #[.slice ao n0 cap0], .agg (frCells f).toArray] W fun e w' => e = .returned (.bool true) ∧ Below W.heap.size W w') := fun W hb => by
          have := hasPlace_any P (.slice ao n0 cap0) f W (HPV.out W (HBR.out.trans (hb.mono HER.out.base))) hf12
          rw [hpf] at this; exact this
        have HRF : Hid (∀ W, Below wr.heap.size wr W → W.rangeAt fb (fs.length * 14) (frCells f)) := fun W hb => eng_last (HER.out.below hb) hSf
        have hfl : (Tryd.prog.info? 45).map (·.size) = some (frCells f).length := by rw [frCells_length f hf12]; exact infoFr
        rw [hst] at q0
        obtain ⟨m', rfl⟩ : ∃ m' : Nat, m = m' + 1 := ⟨m - 1, by omega⟩
        have hmI : (0 : Int) < ((m' + 1 : Nat) : Int) := by omega
        have hw1 : IntKind.i64.wrap (((m' + 1 : Nat) : Int) - 1) = (m' : Int) := by rw [show ((m' + 1 : Nat) : Int) - 1 = m' by omega]; exact wrap_fits _ (by omega) (by omega)
        generalize hmm : m' + 1 = mm at hmI hw1 ⊢
        have HMM : Hid (m' + 1 = mm) := hmm
        clear hmm hen hbn OUT ORG hsi hold hone gm gf hfr hSf hfa hst hpf h6r hm0
        go_upto_region 9 with fail
        refine wp_region_held_drew (S := fun W => Below wr.heap.size wr W) (by kernel_rfl) ((Below.refl _ _).drew) (fun hHeld => ?_)
        show wpAnyH _ _ _ _ _ 6 _ _ _
        refine wpAnyH_take (i := 0) (v := ?_) rfl (by kernel_rfl) (by kernel_rfl) (by kernel_rfl) (fun _ _ _ h => h) (Or.inl ⟨by rfl, ?_⟩) (by assumption) ?_
        rotate_left
        · (intro W hSW; have zz := keeps_below hSW _ _ k0r; go_simp; try (with_reducible rfl))
        (try simp only [Act.put, List.setIfInBounds_toArray])
        refine wpAnyH_ready (rs := [1]) (by kernel_rfl) (by simp) ?_
        refine AllReadyH.cons rfl (fun K hK => ?_) AllReadyH.nil
        go_simp
        go_at_call 21
        refine (HLA.out _ hHeld).mono ?_
        rintro e w3 ⟨rfl, hb3⟩
        have HB3 : Hid (Below wr.heap.size wr w3) := hHeld.trans (hb3.mono (Nat.le_refl _))
        dsimp only
        refine hK.out _ _ HB3.out (fun _ => ?_)
        clear hK K
        (try simp only [Act.put, List.setIfInBounds_toArray, List.set_cons_zero, List.set_cons_succ])
        refine wpAnyH_take (i := 2) (v := ?_) rfl (by kernel_rfl) (by kernel_rfl) (by kernel_rfl) (fun _ _ _ h => h) (Or.inl ⟨by rfl, ?_⟩) HB3.out ?_
        rotate_left
        · (intro W hSW; go_simp; try (with_reducible rfl))
        (try simp only [Act.put, List.setIfInBounds_toArray])
        refine wpAnyH_take (i := 3) (v := .agg (frCells f).toArray) rfl (by kernel_rfl) (by kernel_rfl) (by kernel_rfl) (fun _ _ _ h => h) (yieldsIf_load_mid (by rfl) 45 (.tmp 36) rfl fb (fs.length * 14) rfl (frCells f) _ HRF.out Tryd.underlying45 rfl hfl) HB3.out ?_
        (try simp only [Act.put])
        refine wpAnyH_ready (rs := [4]) (by kernel_rfl) (by simp) ?_
        refine AllReadyH.cons rfl (fun K hK => ?_) AllReadyH.nil
        go_simp
        go_at_call 20
        refine (HPL.out _ HB3.out).mono ?_
        rintro e w4 ⟨rfl, hb4⟩
        have HB4 : Hid (Below wr.heap.size wr w4) := HB3.out.trans (hb4.mono HB3.out.size)
        dsimp only
        refine hK.out _ _ HB4.out (fun _ => ?_)
        clear hK K
        (try simp only [Act.put, List.setIfInBounds_toArray, List.set_cons_zero, List.set_cons_succ])
        refine wpAnyH_take (i := 5) (v := ?_) rfl (by kernel_rfl) (by kernel_rfl) (by kernel_rfl) (fun _ _ _ h => h) (Or.inl ⟨by rfl, ?_⟩) HB4.out ?_
        rotate_left
        · (intro W hSW; go_simp; try (with_reducible rfl))
        (try simp only [Act.put, List.setIfInBounds_toArray])
        refine wpAnyH_done (by kernel_rfl) ?_ _
        clear hHeld hb3 hb4
        go_simp
        go_wp2_with (go_at_call 22; refine (HST.out _ HB4.out).mono ?_; rintro e w5 ⟨rfl, fv5, ev5, av5, he5, hb5⟩)

        go_roundw
        case rel => exact ⟨k + 1, m', fv5, ev5, av5, by have := HMM.out; omega, rfl, he5, (HBR.out.trans (HB4.out.mono HER.out.base)).trans hb5⟩
        case measure => simp [intOf]; have := HMM.out; omega
      · have HX : Hid (walkS P N S = walkS P k S) := by
          show _ = _
          by_cases hst : (walkS P k S).status = 0
          · have : m = 0 := by
              rcases Nat.eq_zero_or_pos m with h | h
              · exact h
              · exact absurd ⟨h, hst⟩ hrun
            rw [show N = k by omega]
          · exact walkS_ended P k N S (by omega) hst
        have HXB : Hid (Below w.heap.size w wr) := HB1.out.trans (HBR.out.mono HB1.out.size)
        have hsi2 : (Tryd.prog.info? 34).map (·.size) = some (stCells (walkS P k S) (.slice fa3 (walkS P k S).frames.length fc3) (.slice ea3 (walkS P k S).events.length ec3) (.slice aa3 (walkS P k S).answers.length ac3)).toArray.size := by rw [List.size_toArray]; exact hsi
        clear hen hbn OUT
        rcases Nat.eq_zero_or_pos m with h0 | h0
        · subst h0
          clear hrun
          go_wp2_with (first
            | (refine wpList_load_mid rfl _ _ rfl G 0 rfl (stCells (walkS P k S) (.slice fa3 (walkS P k S).frames.length fc3) (.slice ea3 (walkS P k S).events.length ec3) (.slice aa3 (walkS P k S).answers.length ac3)) _ ORG Tryd.underlying34 rfl hsi ?_)
            | (refine wpList_store_row rfl _ _ _ rfl _ _ rfl rfl _ _ h6r hsi2 hold hone ?_))
          try simp only [Exit.inBlock, Exit.then]
          exact bodyPost_ret (results_row_tmp rfl _ _ (w.heap.size + 1 + 1) 34 _ (0, 0) _ rfl (setRow_heap _ _ _ _ _ _ h6r) Tryd.underlying34 rfl hsi2) rfl ⟨_, rfl, by rw [HX.out]; exact StP.mono HOUT.out HB1.out.size, below_setRow HXB.out (by omega) _⟩
        · have hst : ¬ (walkS P k S).status = 0 := fun h => hrun ⟨h0, h⟩
          have hmI : (0 : Int) < (m : Int) := by omega
          clear hrun
          go_wp2_with (first
            | (refine wpList_load_mid rfl _ _ rfl G 0 rfl (stCells (walkS P k S) (.slice fa3 (walkS P k S).frames.length fc3) (.slice ea3 (walkS P k S).events.length ec3) (.slice aa3 (walkS P k S).answers.length ac3)) _ ORG Tryd.underlying34 rfl hsi ?_)
            | (refine wpList_store_row rfl _ _ _ rfl _ _ rfl rfl _ _ h6r hsi2 hold hone ?_))
          try simp only [Exit.inBlock, Exit.then]
          exact bodyPost_ret (results_row_tmp rfl _ _ (w.heap.size + 1 + 1) 34 _ (0, 0) _ rfl (setRow_heap _ _ _ _ _ _ h6r) Tryd.underlying34 rfl hsi2) rfl ⟨_, rfl, by rw [HX.out]; exact StP.mono HOUT.out HB1.out.size, below_setRow HXB.out (by omega) _⟩
  · go_simp
    refine hK.out _ _ (((Below.refl _ _).alloc (Nat.le_refl _) _).drew) (fun hHeld2 => ?_)
    clear hK K
    (try simp only [Act.put, List.setIfInBounds_toArray, List.set_cons_zero, List.set_cons_succ])
    refine wpAnyH_ready (rs := [1]) (by kernel_rfl) (by simp) ?_
    refine AllReadyH.cons rfl (fun K hK => ?_) AllReadyH.nil
    go_simp
    go_at_call 19
    refine (HOWN.out _ hHeld2).mono ?_
    rintro e w2 ⟨v2, fv2, ev2, av2, rfl, ho2, hb2⟩
    obtain rfl := ho2.val
    obtain ⟨fa2, fc2, rfl⟩ := own_shape ho2.frames
    obtain ⟨ea2, ec2, rfl⟩ := own_shape ho2.events
    obtain ⟨aa2, ac2, rfl⟩ := own_shape ho2.answers
    have HB2 : Hid (Below w1.heap.size w1 w2) := hHeld2.trans (hb2.mono (by simp))
    have hg2 : w2.heap[w1.heap.size]? = some (.cells zeroEngCells 73 (0, 0)) := (hb2.block _ (by simp)).trans (heap_alloc_last w1 _)
    dsimp only
    refine hK.out _ _ HB2.out (fun _ => ?_)
    clear hK K
    (try simp only [Act.put, List.setIfInBounds_toArray, List.set_cons_zero, List.set_cons_succ])
    refine wpAnyH_take (i := 3) (v := .agg (engCells S (.slice fa2 S.frames.length fc2) (.slice ea2 S.events.length ec2) (.slice aa2 S.answers.length ac2) (.slice ao n0 cap0)).toArray) rfl (by kernel_rfl) (by kernel_rfl) (by kernel_rfl) (fun _ _ _ h => h) (yieldsIf_build (by rfl) _ _ rfl _ (by simpa [Act.eval] using built_eng S (.slice fa2 S.frames.length fc2) (.slice ea2 S.events.length ec2) (.slice aa2 S.answers.length ac2) (.slice ao n0 cap0) HM.out)) HB2.out ?_
    (try simp only [Act.put, List.setIfInBounds_toArray])
    simp only [List.getElem_toArray, List.getElem_cons_succ, List.getElem_cons_zero, List.set_cons_zero, List.set_cons_succ]
    (try simp only [Act.put, List.setIfInBounds_toArray, List.set_cons_zero, List.set_cons_succ])
    refine wpAnyH_done (by kernel_rfl) ?_ _
    refine Or.inl ?_
    refine wp_store_row 73 _ _ rfl w1.heap.size (engCells S (.slice fa2 S.frames.length fc2) (.slice ea2 S.events.length ec2) (.slice aa2 S.answers.length ac2) (.slice ao n0 cap0)).toArray rfl rfl 73 zeroEngCells hg2 (by rw [List.size_toArray, engCells_length _ _ _ _ HM.out]; exact infoEng) ((show zeroEngCells.size = 23 from rfl).trans (by rw [List.size_toArray, engCells_length _ _ _ _ HM.out])) (engCells_one _ _ _ _ _ rfl rfl rfl rfl) ?_
    have HBN : Hid (Below w1.heap.size w1 (World.setRow w2 w1.heap.size (engCells S (.slice fa2 S.frames.length fc2) (.slice ea2 S.events.length ec2) (.slice aa2 S.answers.length ac2) (.slice ao n0 cap0)).toArray)) := below_setRow HB2.out (Nat.le_refl _) _
    have HEN : Hid (EngAt (World.setRow w2 w1.heap.size (engCells S (.slice fa2 S.frames.length fc2) (.slice ea2 S.events.length ec2) (.slice aa2 S.answers.length ac2) (.slice ao n0 cap0)).toArray) w1.heap.size w1.heap.size P (.slice ao n0 cap0) S (.slice fa2 S.frames.length fc2) (.slice ea2 S.events.length ec2) (.slice aa2 S.answers.length ac2)) := eng_new ho2 (by simp) (Nat.le_refl _) hg2 (fun W hW => HPV.out W (HBN.out.trans hW))
    generalize World.setRow w2 w1.heap.size (engCells S (.slice fa2 S.frames.length fc2) (.slice ea2 S.events.length ec2) (.slice aa2 S.answers.length ac2) (.slice ao n0 cap0)).toArray = WW at HBN HEN ⊢
    obtain ⟨G, hG⟩ : ∃ G : Nat, G = w1.heap.size := ⟨_, rfl⟩
    have HEM : Hid (EngAt WW w1.heap.size G P (.slice ao n0 cap0) S (.slice fa2 S.frames.length fc2) (.slice ea2 S.events.length ec2) (.slice aa2 S.answers.length ac2)) := by rw [hG]; exact HEN
    rw [← hG]
    clear HEN
    clear hG ho2 hb2 hHeld
    (try simp only [Act.put])
    go_wp2_with fail
    go_loopw [2] (fun n wr => ∃ (k m : Nat) (fv ev av : Value), k + m = N ∧ n = .int .i64 (m : Int) ∧ EngAt wr w1.heap.size G P (.slice ao n0 cap0) (walkS P k S) fv ev av ∧ Below w1.heap.size w1 wr) (fun n _ => (intOf n).toNat)
    case atStart => exact ⟨0, N, _, _, _, by omega, rfl, HEM.out, HBN.out⟩
    case round =>
      obtain ⟨k, m, fv3, ev3, av3, hkm, rfl, hen, hbn⟩ := hrel
      obtain ⟨q0, -⟩ := hen.own
      obtain ⟨fa3, fc3, rfl⟩ := own_shape hen.frames
      obtain ⟨ea3, ec3, rfl⟩ := own_shape hen.events
      obtain ⟨aa3, ac3, rfl⟩ := hen.answers.shape
      have HER : Hid (EngAt wr w1.heap.size G P (.slice ao n0 cap0) (walkS P k S) (.slice fa3 (walkS P k S).frames.length fc3) (.slice ea3 (walkS P k S).events.length ec3) (.slice aa3 (walkS P k S).answers.length ac3)) := hen
      have HBR : Hid (Below w1.heap.size w1 wr) := hbn
      have k0r : wr.cell? ⟨w.heap.size, 0, none⟩ = some (.slice ao n0 cap0) := keeps_below hbn _ _ k0
      have h6r : wr.heap[w.heap.size + 1 + 1]? = some (.cells zeroStCells 34 (0, 0)) := (hbn.block _ (by have := HZ1.out; omega)).trans h6
      obtain ⟨OUT, ORG⟩ := eng_outP hen (show w.heap.size + 1 + 1 < w1.heap.size by have := HZ1.out; omega)
      have HOUT : Hid _ := OUT
      have hsi : (Tryd.prog.info? 34).map (·.size) = some (stCells (walkS P k S) (.slice fa3 (walkS P k S).frames.length fc3) (.slice ea3 (walkS P k S).events.length ec3) (.slice aa3 (walkS P k S).answers.length ac3)).length := by rw [stCells_length _ _ _ _ hen.mem]; exact infoSt
      have hold : zeroStCells.size = (stCells (walkS P k S) (.slice fa3 (walkS P k S).frames.length fc3) (.slice ea3 (walkS P k S).events.length ec3) (.slice aa3 (walkS P k S).answers.length ac3)).toArray.size := (show zeroStCells.size = 22 from rfl).trans (by rw [List.size_toArray, stCells_length _ _ _ _ hen.mem])
      have hone := stCells_one (walkS P k S) (.slice fa3 (walkS P k S).frames.length fc3) (.slice ea3 (walkS P k S).events.length ec3) (.slice aa3 (walkS P k S).answers.length ac3) rfl rfl rfl
      by_cases hrun : 0 < m ∧ (walkS P k S).status = 0
      · obtain ⟨hm0, hst⟩ := hrun
        obtain ⟨gm, gf⟩ := hg k (Or.inr (by omega))
        have hfr : (walkS P k S).frames ≠ [] := by
          intro e
          have := ((mayB_iff _).1 gm).2.2.2.2.2.2.1.2 (by rw [e]; rfl)
          omega
        obtain ⟨fs, f, hSf⟩ : ∃ fs f, (walkS P k S).frames = fs ++ [f] := ⟨_, _, (List.dropLast_concat_getLast hfr).symm⟩
        have hpf : placeB P f = true := gf.place f (by rw [hSf]; simp)
        have hf12 : f.regs.length = 12 := hen.wf f (by rw [hSf]; simp)
        obtain ⟨fb, cap3, hfa⟩ := hen.fshape hfr
        obtain ⟨rfl, rfl⟩ : fa3 = some ⟨fb, 0, none⟩ ∧ fc3 = cap3 := by simpa using hfa
        have HST : Hid (∀ W, Below wr.heap.size wr W → Calls Tryd.prog 22 #[.pointer (some ⟨G, 0, none⟩)] W (EngPost w1.heap.size G P (.slice ao n0 cap0) (walkS P (k + 1) S) W)) := fun W hb => by
          rw [walkS_succ P k S hst]
          exact step_any w1.heap.size G P (.slice ao n0 cap0) (walkS P k S) _ _ _ W (HER.out.below hb) (right_code hR) gf gm hst (by have := walkS_events_len P k S; omega)
        have HLA : Hid (∀ W, Below wr.heap.size wr W → Calls Tryd.prog 21 #[.pointer (some ⟨G, 0, none⟩)] W fun e w' => e = .returned (.pointer (some ⟨fb, fs.length * 14, none⟩)) ∧ Below W.heap.size W w') := fun W hb => last_eng (HER.out.below hb) hSf
        have HPL : Hid (∀ W, Below wr.heap.size wr W → Calls Tryd.prog 20 #[.agg #[.slice ao n0 cap0], .agg (frCells f).toArray] W fun e w' => e = .returned (.bool true) ∧ Below W.heap.size W w') := fun W hb => by
          have := hasPlace_any P (.slice ao n0 cap0) f W (HPV.out W (HBR.out.trans (hb.mono HER.out.base))) hf12
          rw [hpf] at this; exact this
        have HRF : Hid (∀ W, Below wr.heap.size wr W → W.rangeAt fb (fs.length * 14) (frCells f)) := fun W hb => eng_last (HER.out.below hb) hSf
        have hfl : (Tryd.prog.info? 45).map (·.size) = some (frCells f).length := by rw [frCells_length f hf12]; exact infoFr
        rw [hst] at q0
        obtain ⟨m', rfl⟩ : ∃ m' : Nat, m = m' + 1 := ⟨m - 1, by omega⟩
        have hmI : (0 : Int) < ((m' + 1 : Nat) : Int) := by omega
        have hw1 : IntKind.i64.wrap (((m' + 1 : Nat) : Int) - 1) = (m' : Int) := by rw [show ((m' + 1 : Nat) : Int) - 1 = m' by omega]; exact wrap_fits _ (by omega) (by omega)
        generalize hmm : m' + 1 = mm at hmI hw1 ⊢
        have HMM : Hid (m' + 1 = mm) := hmm
        clear hmm hen hbn OUT ORG hsi hold hone gm gf hfr hSf hfa hst hpf h6r hm0
        go_upto_region 9 with fail
        refine wp_region_held_drew (S := fun W => Below wr.heap.size wr W) (by kernel_rfl) ((Below.refl _ _).drew) (fun hHeld => ?_)
        show wpAnyH _ _ _ _ _ 6 _ _ _
        refine wpAnyH_take (i := 0) (v := ?_) rfl (by kernel_rfl) (by kernel_rfl) (by kernel_rfl) (fun _ _ _ h => h) (Or.inl ⟨by rfl, ?_⟩) (by assumption) ?_
        rotate_left
        · (intro W hSW; have zz := keeps_below hSW _ _ k0r; go_simp; try (with_reducible rfl))
        (try simp only [Act.put, List.setIfInBounds_toArray])
        refine wpAnyH_ready (rs := [1]) (by kernel_rfl) (by simp) ?_
        refine AllReadyH.cons rfl (fun K hK => ?_) AllReadyH.nil
        go_simp
        go_at_call 21
        refine (HLA.out _ hHeld).mono ?_
        rintro e w3 ⟨rfl, hb3⟩
        have HB3 : Hid (Below wr.heap.size wr w3) := hHeld.trans (hb3.mono (Nat.le_refl _))
        dsimp only
        refine hK.out _ _ HB3.out (fun _ => ?_)
        clear hK K
        (try simp only [Act.put, List.setIfInBounds_toArray, List.set_cons_zero, List.set_cons_succ])
        refine wpAnyH_take (i := 2) (v := ?_) rfl (by kernel_rfl) (by kernel_rfl) (by kernel_rfl) (fun _ _ _ h => h) (Or.inl ⟨by rfl, ?_⟩) HB3.out ?_
        rotate_left
        · (intro W hSW; go_simp; try (with_reducible rfl))
        (try simp only [Act.put, List.setIfInBounds_toArray])
        refine wpAnyH_take (i := 3) (v := .agg (frCells f).toArray) rfl (by kernel_rfl) (by kernel_rfl) (by kernel_rfl) (fun _ _ _ h => h) (yieldsIf_load_mid (by rfl) 45 (.tmp 36) rfl fb (fs.length * 14) rfl (frCells f) _ HRF.out Tryd.underlying45 rfl hfl) HB3.out ?_
        (try simp only [Act.put])
        refine wpAnyH_ready (rs := [4]) (by kernel_rfl) (by simp) ?_
        refine AllReadyH.cons rfl (fun K hK => ?_) AllReadyH.nil
        go_simp
        go_at_call 20
        refine (HPL.out _ HB3.out).mono ?_
        rintro e w4 ⟨rfl, hb4⟩
        have HB4 : Hid (Below wr.heap.size wr w4) := HB3.out.trans (hb4.mono HB3.out.size)
        dsimp only
        refine hK.out _ _ HB4.out (fun _ => ?_)
        clear hK K
        (try simp only [Act.put, List.setIfInBounds_toArray, List.set_cons_zero, List.set_cons_succ])
        refine wpAnyH_take (i := 5) (v := ?_) rfl (by kernel_rfl) (by kernel_rfl) (by kernel_rfl) (fun _ _ _ h => h) (Or.inl ⟨by rfl, ?_⟩) HB4.out ?_
        rotate_left
        · (intro W hSW; go_simp; try (with_reducible rfl))
        (try simp only [Act.put, List.setIfInBounds_toArray])
        refine wpAnyH_done (by kernel_rfl) ?_ _
        clear hHeld hb3 hb4
        go_simp
        go_wp2_with (go_at_call 22; refine (HST.out _ HB4.out).mono ?_; rintro e w5 ⟨rfl, fv5, ev5, av5, he5, hb5⟩)

        go_roundw
        case rel => exact ⟨k + 1, m', fv5, ev5, av5, by have := HMM.out; omega, rfl, he5, (HBR.out.trans (HB4.out.mono HER.out.base)).trans hb5⟩
        case measure => simp [intOf]; have := HMM.out; omega
      · have HX : Hid (walkS P N S = walkS P k S) := by
          show _ = _
          by_cases hst : (walkS P k S).status = 0
          · have : m = 0 := by
              rcases Nat.eq_zero_or_pos m with h | h
              · exact h
              · exact absurd ⟨h, hst⟩ hrun
            rw [show N = k by omega]
          · exact walkS_ended P k N S (by omega) hst
        have HXB : Hid (Below w.heap.size w wr) := HB1.out.trans (HBR.out.mono HB1.out.size)
        have hsi2 : (Tryd.prog.info? 34).map (·.size) = some (stCells (walkS P k S) (.slice fa3 (walkS P k S).frames.length fc3) (.slice ea3 (walkS P k S).events.length ec3) (.slice aa3 (walkS P k S).answers.length ac3)).toArray.size := by rw [List.size_toArray]; exact hsi
        clear hen hbn OUT
        rcases Nat.eq_zero_or_pos m with h0 | h0
        · subst h0
          clear hrun
          go_wp2_with (first
            | (refine wpList_load_mid rfl _ _ rfl G 0 rfl (stCells (walkS P k S) (.slice fa3 (walkS P k S).frames.length fc3) (.slice ea3 (walkS P k S).events.length ec3) (.slice aa3 (walkS P k S).answers.length ac3)) _ ORG Tryd.underlying34 rfl hsi ?_)
            | (refine wpList_store_row rfl _ _ _ rfl _ _ rfl rfl _ _ h6r hsi2 hold hone ?_))
          try simp only [Exit.inBlock, Exit.then]
          exact bodyPost_ret (results_row_tmp rfl _ _ (w.heap.size + 1 + 1) 34 _ (0, 0) _ rfl (setRow_heap _ _ _ _ _ _ h6r) Tryd.underlying34 rfl hsi2) rfl ⟨_, rfl, by rw [HX.out]; exact StP.mono HOUT.out HB1.out.size, below_setRow HXB.out (by omega) _⟩
        · have hst : ¬ (walkS P k S).status = 0 := fun h => hrun ⟨h0, h⟩
          have hmI : (0 : Int) < (m : Int) := by omega
          clear hrun
          go_wp2_with (first
            | (refine wpList_load_mid rfl _ _ rfl G 0 rfl (stCells (walkS P k S) (.slice fa3 (walkS P k S).frames.length fc3) (.slice ea3 (walkS P k S).events.length ec3) (.slice aa3 (walkS P k S).answers.length ac3)) _ ORG Tryd.underlying34 rfl hsi ?_)
            | (refine wpList_store_row rfl _ _ _ rfl _ _ rfl rfl _ _ h6r hsi2 hold hone ?_))
          try simp only [Exit.inBlock, Exit.then]
          exact bodyPost_ret (results_row_tmp rfl _ _ (w.heap.size + 1 + 1) 34 _ (0, 0) _ rfl (setRow_heap _ _ _ _ _ _ h6r) Tryd.underlying34 rfl hsi2) rfl ⟨_, rfl, by rw [HX.out]; exact StP.mono HOUT.out HB1.out.size, below_setRow HXB.out (by omega) _⟩
end Go.Proofs.YtgdmdlkhnokieaaDoor
