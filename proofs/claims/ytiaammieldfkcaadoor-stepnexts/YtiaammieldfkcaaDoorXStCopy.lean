/- Contract of the document's StateCopy (package tierlineref): a state whose lists are new memory. -/
import Derived.Test.YtiaammieldfkcaaDoorGroupD
import Derived.Test.YtiaammieldfkcaaDoorXRefBegin
namespace Go.Proofs.YtiaammieldfkcaaDoor
open Go Go.RowKit

theorem frs_take (fs : List Fr) (q : Nat) (hq : q < fs.length) : framesCells (fs.take q) ++ frCells fs[q] = framesCells (fs.take (q + 1)) := by
  rw [List.take_add_one, List.getElem?_eq_getElem hq, framesCells_append]; simp [framesCells]

set_option maxRecDepth 100000 in
set_option maxHeartbeats 2000000 in
theorem stCopy_any (s : St) (v : Value) (w : World) (hv : StVal w v s) (h1 : s.frames.length * 112 ≤ 140737488351232) (h2 : s.events.length * 8 ≤ 140737488355328) (h3 : s.answers.length * 8 ≤ 140737488355328) :
    Calls Tryd.prog 20 #[v] w fun e w' => ∃ v' fv ev av, e = .returned v' ∧ OwnState w' w.heap.size v' s fv ev av ∧ Below w.heap.size w w' := by
  obtain ⟨i, hi, e1, e2⟩ : ∃ i, Tryd.prog.info? 55 = some i ∧ i.size = 14 ∧ i.bytes = 112 := by
    have := infoFrame
    cases h : Tryd.prog.info? 55 with
    | none => rw [h] at this; simp at this
    | some i => rw [h] at this; simp at this; exact ⟨i, rfl, this.1, this.2⟩
  have ez : i.zero = some (.agg (zeroFr 0).toArray) := by have := zeroFrame; rw [hi] at this; simpa using this
  obtain ⟨fv, ev, av, rfl, hm, hf, he, ha⟩ := hv
  obtain ⟨fa, fc, rfl⟩ := hf.shape
  obtain ⟨ea, ec, rfl⟩ := he.shape
  obtain ⟨aa, ac, rfl⟩ := ha.shape
  have HWF : Hid (FrsWf s.frames) := hf.1
  have hbx : ∀ o o', Below w.heap.size w ((w.alloc o).alloc o') := fun o o' => ((Below.refl _ _).alloc (Nat.le_refl _) _).alloc (by simp) _
  have HF : Hid (∀ W, Below w.heap.size w W → FramesVal W (.slice fa s.frames.length fc) s.frames ∧ IntsVal W (.slice ea s.events.length ec) s.events ∧ IntsVal W (.slice aa s.answers.length ac) s.answers) := fun W hW => ⟨hf.keeps (keeps_below hW), he.keeps (keeps_below hW), ha.keeps (keeps_below hW)⟩
  obtain ⟨g2, g20, g21⟩ := stCells_get s (.slice fa s.frames.length fc) (.slice ea s.events.length ec) (.slice aa s.answers.length ac) hm
  have HM : Hid (s.mem.length = 16) := hm
  obtain ⟨cs, hcs⟩ : ∃ cs, cs = (stCells s (.slice fa s.frames.length fc) (.slice ea s.events.length ec) (.slice aa s.answers.length ac)).toArray := ⟨_, rfl⟩
  have HCS : Hid (cs = (stCells s (.slice fa s.frames.length fc) (.slice ea s.events.length ec) (.slice aa s.answers.length ac)).toArray) := hcs
  rw [← hcs] at g2 g20 g21
  rw [← hcs]
  clear hf he ha hm hcs
  have HFR : Hid (∃ b off, (0 < s.frames.length → fa = some ⟨b, off, none⟩) ∧ s.frames.length ≤ fc ∧ ∀ W, Below w.heap.size w W → ∀ q (hq : q < s.frames.length), W.rangeAt b (off + q * 14) (frCells s.frames[q]) ∧ s.frames[q].regs.length = 12) := by
    obtain ⟨hw, ao, b, off, n, cap, e, hl, hp, hr, hc, hx⟩ := (HF.out w (Below.refl _ _)).1
    obtain ⟨rfl, rfl, rfl⟩ : fa = ao ∧ s.frames.length = n ∧ fc = cap := by simpa using e
    exact ⟨b, off, hp, hc.1, fun W hW q hq => ⟨fun j u h => keeps_below hW _ _ (hr q hq j u h), hw _ (List.getElem_mem hq)⟩⟩
  obtain ⟨fb, fo, hfa, hfc, hfr⟩ := HFR.out
  have HRG : Hid (∀ W, Below w.heap.size w W → ∀ q (hq : q < s.frames.length), W.rangeAt fb (fo + q * 14) (frCells s.frames[q]) ∧ s.frames[q].regs.length = 12) := hfr
  clear hfr HFR
  go_enter Tryd.func20, Tryd.ntmps20
  go_wp2
  have r0 : ((w.alloc (.cells cs 29)).alloc (.cells zeroStCells 29)).heap[w.heap.size]? = some (.cells cs 29 (0, 0)) := heap_alloc2_old _ _ _
  have r1 : ((w.alloc (.cells cs 29)).alloc (.cells zeroStCells 29)).heap[w.heap.size + 1]? = some (.cells zeroStCells 29 (0, 0)) := heap_alloc2_new _ _ _
  have HB0 : Hid (Below w.heap.size w ((w.alloc (.cells cs 29)).alloc (.cells zeroStCells 29))) := hbx _ _
  have hz0 : w.heap.size + 2 ≤ ((w.alloc (.cells cs 29)).alloc (.cells zeroStCells 29)).heap.size := by simp
  have HZE : Hid ((w.alloc (.cells cs 29)).alloc (.cells zeroStCells 29) = (w.alloc (.cells cs 29)).alloc (.cells zeroStCells 29)) := rfl
  generalize hW0 : (w.alloc (.cells cs 29)).alloc (.cells zeroStCells 29) = W0 at r0 r1 HB0 hz0 HZE
  rw [show ((w.alloc (Obj.cells cs 29)).alloc (Obj.cells #[.int .i64 0, .int .i64 0, .slice none 0 0, .int .i64 0, .int .i64 0, .int .i64 0, .int .i64 0, .int .i64 0, .int .i64 0, .int .i64 0, .int .i64 0, .int .i64 0, .int .i64 0, .int .i64 0, .int .i64 0, .int .i64 0, .int .i64 0, .int .i64 0, .int .i64 0, .int .i64 0, .slice none 0 0, .slice none 0 0] 29)) = W0 from hW0]
  clear hW0 HZE
  go_loopw [3, 4] (fun v i wr => ∃ q : Nat, q ≤ s.frames.length ∧ i = .int .i64 q ∧ wr.ownsRow (w.heap.size + 2) 55 14 v q (framesCells (s.frames.take q)) ∧ Below (w.heap.size + 2) W0 wr) (fun _ i _ => s.frames.length - (intOf i).toNat)
  case atStart => exact ⟨0, Nat.zero_le _, rfl, World.ownsRow_nil _ _ _ _, Below.refl _ _⟩
  case round =>
    obtain ⟨q, hq, rfl, hown, hbr⟩ := hrel
    have HBR : Hid (Below (w.heap.size + 2) W0 wr) := hbr
    have HBW : Hid (Below w.heap.size w wr) := HB0.out.trans (hbr.mono (by omega))
    have h8 : wr.heap[w.heap.size]? = some (.cells cs 29 (0, 0)) := (hbr.block _ (by omega)).trans r0
    have x2 : wr.cell? ⟨w.heap.size, 2, none⟩ = some (.slice fa s.frames.length fc) := by rw [cell_of_row _ _ _ _ _ _ h8]; exact g2
    have hzr : w.heap.size + 2 ≤ wr.heap.size := Nat.le_trans hz0 hbr.size
    obtain ⟨av0, cv0, rfl⟩ := own_shape hown
    by_cases hlt : q < s.frames.length
    · obtain ⟨hrg, h12⟩ := HRG.out wr HBW.out q hlt
      obtain rfl := hfa (by omega)
      have hqI : (q : Int) < s.frames.length := by omega
      have HTK := frs_take s.frames q hlt
      obtain ⟨⟨ffn, fpc, fregs⟩, hfe⟩ : ∃ f, f = s.frames[q] := ⟨_, rfl⟩
      rw [← hfe] at hrg h12 HTK
      dsimp only at h12
      obtain ⟨r0', r1', r2', r3', r4', r5', r6', r7', r8', r9', r10', r11', hrr⟩ := list12 h12
      subst hrr
      have HFC : Hid (framesCells (s.frames.take q) ++ [.int .i64 ffn, .int .i64 fpc, .int .i64 r0', .int .i64 r1', .int .i64 r2', .int .i64 r3', .int .i64 r4', .int .i64 r5', .int .i64 r6', .int .i64 r7', .int .i64 r8', .int .i64 r9', .int .i64 r10', .int .i64 r11'] = framesCells (s.frames.take (q + 1))) := HTK
      have c0 : wr.cell? ⟨fb, fo + q * 14, none⟩ = some (.int .i64 ffn) := by have := hrg 0 _ rfl; simpa using this
      have c1 : wr.cell? ⟨fb, fo + q * 14 + 1, none⟩ = some (.int .i64 fpc) := by have := hrg 1 _ rfl; simpa using this
      have c2 : wr.cell? ⟨fb, fo + q * 14 + 2, none⟩ = some (.int .i64 r0') := by have := hrg 2 _ rfl; simpa using this
      have c3 : wr.cell? ⟨fb, fo + q * 14 + 3, none⟩ = some (.int .i64 r1') := by have := hrg 3 _ rfl; simpa using this
      have c4 : wr.cell? ⟨fb, fo + q * 14 + 4, none⟩ = some (.int .i64 r2') := by have := hrg 4 _ rfl; simpa using this
      have c5 : wr.cell? ⟨fb, fo + q * 14 + 5, none⟩ = some (.int .i64 r3') := by have := hrg 5 _ rfl; simpa using this
      have c6 : wr.cell? ⟨fb, fo + q * 14 + 6, none⟩ = some (.int .i64 r4') := by have := hrg 6 _ rfl; simpa using this
      have c7 : wr.cell? ⟨fb, fo + q * 14 + 7, none⟩ = some (.int .i64 r5') := by have := hrg 7 _ rfl; simpa using this
      have c8 : wr.cell? ⟨fb, fo + q * 14 + 8, none⟩ = some (.int .i64 r6') := by have := hrg 8 _ rfl; simpa using this
      have c9 : wr.cell? ⟨fb, fo + q * 14 + 9, none⟩ = some (.int .i64 r7') := by have := hrg 9 _ rfl; simpa using this
      have c10 : wr.cell? ⟨fb, fo + q * 14 + 10, none⟩ = some (.int .i64 r8') := by have := hrg 10 _ rfl; simpa using this
      have c11 : wr.cell? ⟨fb, fo + q * 14 + 11, none⟩ = some (.int .i64 r9') := by have := hrg 11 _ rfl; simpa using this
      have c12 : wr.cell? ⟨fb, fo + q * 14 + 12, none⟩ = some (.int .i64 r10') := by have := hrg 12 _ rfl; simpa using this
      have c13 : wr.cell? ⟨fb, fo + q * 14 + 13, none⟩ = some (.int .i64 r11') := by have := hrg 13 _ rfl; simpa using this
      have HOW : Hid (wr.ownsRow (w.heap.size + 2) 55 14 (.slice av0 q cv0) q (framesCells (s.frames.take q))) := hown
      clear hrg h12 hfe HTK hown hbr h8
      generalize framesCells (s.frames.take q) = FC at *
      go_wp2_with (at_builtin; refine wpList_append_own _ rfl (.tmp 12) (.tmp 18) 25 rfl (w.heap.size + 2) 55 i _ 14 112 Tryd.underlying25 hi ez e1 e2 rfl (by decide) _ _ _ rfl (HOW.out.alloc _) ⟨_, 0, none⟩ 1 1 [.int .i64 ffn, .int .i64 fpc, .int .i64 r0', .int .i64 r1', .int .i64 r2', .int .i64 r3', .int .i64 r4', .int .i64 r5', .int .i64 r6', .int .i64 r7', .int .i64 r8', .int .i64 r9', .int .i64 r10', .int .i64 r11'] rfl rfl (news_list _ _ _ _ rfl) (by simp [Value.oneCell']) (by unfold maxLen; omega) (by omega) (by simp; omega) ?_; intro v2 w3 hown2 hg2 _; have hb2 : Below (w.heap.size + 2) W0 w3 := (HBR.out.alloc (by omega) _).trans (grown_base (HOW.out.alloc _) (by simp; omega) hg2))
      go_roundw
      case rel => exact ⟨q + 1, by omega, by go_num, by rw [← HFC.out]; exact hown2, hb2⟩
      case measure => simp [intOf]; omega
    · obtain rfl : q = s.frames.length := by omega
      rw [List.take_length] at hown
      obtain ⟨a1, ha1⟩ : ∃ a1, a1 = av0 := ⟨_, rfl⟩
      obtain ⟨c1, hc1⟩ : ∃ c1, c1 = cv0 := ⟨_, rfl⟩
      subst ha1 hc1
      have y2 : wr.frozen? ⟨w.heap.size, 2, none⟩ = false := frozen_of_row _ _ _ _ _ h8
      have BW1 : Below w.heap.size w (wr.setCell ⟨w.heap.size, 2, none⟩ (.slice a1 s.frames.length c1)) := HBW.out.setCell (Nat.le_refl _) _
      have R1 : (wr.setCell ⟨w.heap.size, 2, none⟩ (.slice a1 s.frames.length c1)).ownsRow (w.heap.size + 2) 55 14 (.slice a1 s.frames.length c1) s.frames.length (framesCells s.frames) := ownsRow_setCell_below hown (by simp) _
      have Z1 : (wr.setCell ⟨w.heap.size, 2, none⟩ (.slice a1 s.frames.length c1)).heap[w.heap.size + 1]? = some (.cells zeroStCells 29 (0, 0)) := by
        rw [heap_setCell_other _ _ _ _ (by simp)]
        exact (hbr.block _ (by omega)).trans r1
      have S1 : (wr.setCell ⟨w.heap.size, 2, none⟩ (.slice a1 s.frames.length c1)).heap[w.heap.size]? = some (.cells (stCells s (.slice a1 s.frames.length c1) (.slice ea s.events.length ec) (.slice aa s.answers.length ac)).toArray 29 (0, 0)) := by
        rw [heap_setCell_same _ _ _ _ _ _ h8, HCS.out, stCells_set2]
      have zz1 : w.heap.size + 2 ≤ (wr.setCell ⟨w.heap.size, 2, none⟩ (.slice a1 s.frames.length c1)).heap.size := by simpa using hzr
      clear hown hbr HBW HBR
      go_upto_region 7 with fail
      generalize wr.setCell ⟨w.heap.size, 2, none⟩ (.slice a1 s.frames.length c1) = W1 at BW1 R1 Z1 S1 zz1
      clear x2 y2 h8 hbx g2 g20 g21 HCS r0 r1 hz0 HB0 hzr
      obtain ⟨p2, p20, p21⟩ := stCells_get s (.slice a1 s.frames.length c1) (.slice ea s.events.length ec) (.slice aa s.answers.length ac) HM.out
      have x20 : W1.cell? ⟨w.heap.size, 20, none⟩ = some (.slice ea s.events.length ec) := by rw [cell_of_row _ _ _ _ _ _ S1]; exact p20
      go_upto_region 8 with (go_at_call 29; refine (numbers_any _ s.events _ (HF.out _ BW1).2.1 h2).mono ?_; rintro e w2 ⟨v2, rfl, ho2, hb2⟩; obtain ⟨a2, c2, rfl⟩ := own_shape ho2; have h8 : w2.heap[w.heap.size]? = some (.cells (stCells s (.slice a1 s.frames.length c1) (.slice ea s.events.length ec) (.slice aa s.answers.length ac)).toArray 29 (0, 0)) := (hb2.block _ (by omega)).trans S1; have x2 : w2.cell? ⟨w.heap.size, 20, none⟩ = some (.slice ea s.events.length ec) := (by rw [cell_of_row _ _ _ _ _ _ h8]; exact p20); have y2 : w2.frozen? ⟨w.heap.size, 20, none⟩ = false := frozen_of_row _ _ _ _ _ h8)
      have z2 : w.heap.size + 2 ≤ w2.heap.size := by have := hb2.size; omega
      have BW2 : Below w.heap.size w (w2.setCell ⟨w.heap.size, 20, none⟩ (.slice a2 s.events.length c2)) := (BW1.trans (hb2.mono (by omega))).setCell (Nat.le_refl _) _
      have R2 : (w2.setCell ⟨w.heap.size, 20, none⟩ (.slice a2 s.events.length c2)).ownsRow (w.heap.size + 2) 55 14 (.slice a1 s.frames.length c1) s.frames.length (framesCells s.frames) := ownsRow_setCell_below (ownsRow_below R1 hb2) (by simp) _
      have E2 : (w2.setCell ⟨w.heap.size, 20, none⟩ (.slice a2 s.events.length c2)).ownsRow (w.heap.size + 2) 3 1 (.slice a2 s.events.length c2) s.events.length (i64s s.events) := ownsRow_setCell_below (ownsRow_mono ho2 zz1) (by simp) _
      have Z2 : (w2.setCell ⟨w.heap.size, 20, none⟩ (.slice a2 s.events.length c2)).heap[w.heap.size + 1]? = some (.cells zeroStCells 29 (0, 0)) := by
        rw [heap_setCell_other _ _ _ _ (by simp)]
        exact (hb2.block _ (by omega)).trans Z1
      have S2 : (w2.setCell ⟨w.heap.size, 20, none⟩ (.slice a2 s.events.length c2)).heap[w.heap.size]? = some (.cells (stCells s (.slice a1 s.frames.length c1) (.slice a2 s.events.length c2) (.slice aa s.answers.length ac)).toArray 29 (0, 0)) := by
        rw [heap_setCell_same _ _ _ _ _ _ h8, stCells_set5 _ _ _ _ _ HM.out]
      have zz2 : w.heap.size + 2 ≤ (w2.setCell ⟨w.heap.size, 20, none⟩ (.slice a2 s.events.length c2)).heap.size := by simpa using z2
      generalize w2.setCell ⟨w.heap.size, 20, none⟩ (.slice a2 s.events.length c2) = W2 at BW2 R2 E2 Z2 S2 zz2
      clear x2 y2 h8 ho2 hb2 z2 x20 p2 p20 p21 w2 R1 Z1 S1 zz1 BW1 W1
      obtain ⟨p2, p20, p21⟩ := stCells_get s (.slice a1 s.frames.length c1) (.slice a2 s.events.length c2) (.slice aa s.answers.length ac) HM.out
      have x21 : W2.cell? ⟨w.heap.size, 21, none⟩ = some (.slice aa s.answers.length ac) := by rw [cell_of_row _ _ _ _ _ _ S2]; exact p21
      go_upto_region 9 with (go_at_call 29; refine (numbers_any _ s.answers _ (HF.out _ BW2).2.2 h3).mono ?_; rintro e w3 ⟨v3, rfl, ho3, hb3⟩; obtain ⟨a3, c3, rfl⟩ := own_shape ho3; have h8 : w3.heap[w.heap.size]? = some (.cells (stCells s (.slice a1 s.frames.length c1) (.slice a2 s.events.length c2) (.slice aa s.answers.length ac)).toArray 29 (0, 0)) := (hb3.block _ (by omega)).trans S2; have x2 : w3.cell? ⟨w.heap.size, 21, none⟩ = some (.slice aa s.answers.length ac) := (by rw [cell_of_row _ _ _ _ _ _ h8]; exact p21); have y2 : w3.frozen? ⟨w.heap.size, 21, none⟩ = false := frozen_of_row _ _ _ _ _ h8)
      have z3 : w.heap.size + 2 ≤ w3.heap.size := by have := hb3.size; omega
      have BW3 : Below w.heap.size w (w3.setCell ⟨w.heap.size, 21, none⟩ (.slice a3 s.answers.length c3)) := (BW2.trans (hb3.mono (by omega))).setCell (Nat.le_refl _) _
      have R3 : (w3.setCell ⟨w.heap.size, 21, none⟩ (.slice a3 s.answers.length c3)).ownsRow (w.heap.size + 2) 55 14 (.slice a1 s.frames.length c1) s.frames.length (framesCells s.frames) := ownsRow_setCell_below (ownsRow_below R2 hb3) (by simp) _
      have E3 : (w3.setCell ⟨w.heap.size, 21, none⟩ (.slice a3 s.answers.length c3)).ownsRow (w.heap.size + 2) 3 1 (.slice a2 s.events.length c2) s.events.length (i64s s.events) := ownsRow_setCell_below (ownsRow_below E2 hb3) (by simp) _
      have A3 : (w3.setCell ⟨w.heap.size, 21, none⟩ (.slice a3 s.answers.length c3)).ownsRow (w.heap.size + 2) 3 1 (.slice a3 s.answers.length c3) s.answers.length (i64s s.answers) := ownsRow_setCell_below (ownsRow_mono ho3 zz2) (by simp) _
      have AP : (Value.slice a2 s.events.length c2).ownBlock = none ∨ (Value.slice a3 s.answers.length c3).ownBlock = none ∨ (Value.slice a2 s.events.length c2).ownBlock ≠ (Value.slice a3 s.answers.length c3).ownBlock := by
        cases hx : (Value.slice a2 s.events.length c2).ownBlock with
        | none => exact .inl rfl
        | some k =>
          right; right
          intro e
          have h4 := own_new ho3 k e.symm
          have h5 := (E2.lt k hx).2
          omega
      have Z3 : (w3.setCell ⟨w.heap.size, 21, none⟩ (.slice a3 s.answers.length c3)).heap[w.heap.size + 1]? = some (.cells zeroStCells 29 (0, 0)) := by
        rw [heap_setCell_other _ _ _ _ (by simp)]
        exact (hb3.block _ (by omega)).trans Z2
      have S3 : (w3.setCell ⟨w.heap.size, 21, none⟩ (.slice a3 s.answers.length c3)).heap[w.heap.size]? = some (.cells (stCells s (.slice a1 s.frames.length c1) (.slice a2 s.events.length c2) (.slice a3 s.answers.length c3)).toArray 29 (0, 0)) := by
        rw [heap_setCell_same _ _ _ _ _ _ h8, stCells_set6 _ _ _ _ _ HM.out]
      generalize (w3.setCell ⟨w.heap.size, 21, none⟩ (.slice a3 s.answers.length c3)) = W3 at BW3 R3 E3 A3 Z3 S3
      have hl := stCells_length s (.slice a1 s.frames.length c1) (.slice a2 s.events.length c2) (.slice a3 s.answers.length c3) HM.out
      have hsi : (Tryd.prog.info? 29).map (·.size) = some (stCells s (.slice a1 s.frames.length c1) (.slice a2 s.events.length c2) (.slice a3 s.answers.length c3)).toArray.size := by rw [List.size_toArray, hl]; exact infoSt
      have hold : zeroStCells.size = (stCells s (.slice a1 s.frames.length c1) (.slice a2 s.events.length c2) (.slice a3 s.answers.length c3)).toArray.size := (show zeroStCells.size = 22 from rfl).trans (by rw [List.size_toArray, hl])
      have hone : (stCells s (.slice a1 s.frames.length c1) (.slice a2 s.events.length c2) (.slice a3 s.answers.length c3)).toArray.all (·.oneCell') = true := stCells_one _ _ _ _ rfl rfl rfl
      clear x2 y2 h8 ho3 hb3 z3 x21 p2 p20 p21 w3 R2 Z2 S2 zz2 BW2 W2 E2 hl
      go_wp2_with (first
        | (refine wpList_load_row rfl _ _ rfl _ rfl _ _ _ _ S3 Tryd.underlying29 rfl hsi ?_)
        | (refine wpList_store_row rfl _ _ _ rfl _ _ rfl rfl _ _ Z3 hsi hold hone ?_))
      refine bodyPost_ret (results_cell_row rfl _ _ (w.heap.size + 1) 29 (stCells s (.slice a1 s.frames.length c1) (.slice a2 s.events.length c2) (.slice a3 s.answers.length c3)).toArray (0, 0) _ rfl (setRow_heap _ _ _ _ _ _ Z3) Tryd.underlying29 rfl hsi) rfl ⟨_, _, _, _, rfl, ⟨rfl, HM.out, HWF.out, ownsRow_mono (ownsRow_setRow R3 (by omega) _) (by omega), ownsRow_mono (ownsRow_setRow E3 (by omega) _) (by omega), ownsRow_mono (ownsRow_setRow A3 (by omega) _) (by omega), AP⟩, below_setRow BW3 (by omega) _⟩
end Go.Proofs.YtiaammieldfkcaaDoor
