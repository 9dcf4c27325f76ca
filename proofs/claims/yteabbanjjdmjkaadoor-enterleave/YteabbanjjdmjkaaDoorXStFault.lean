/- Contract of the document's StateFault (package tierlineref): which states may be. -/
import Derived.Test.YteabbanjjdmjkaaDoorGroupD
import Derived.Test.YteabbanjjdmjkaaDoorGroupW
import Derived.Test.YteabbanjjdmjkaaDoorXStValAt
import Derived.Test.YteabbanjjdmjkaaDoorGroupB
import Derived.BigQuiet
namespace Go.Proofs.YteabbanjjdmjkaaDoor
open Go Go.RowKit

/-- What the document asks of one frame. -/
def frokI (P : List Fn) (fs : List Fr) (i : Nat) : Prop := placeB P (frOf fs i) = true ∧ (i = 0 ∨ ((insOfFr P (frOf fs (i - 1))).op = 17 ∧ (insOfFr P (frOf fs (i - 1))).imm = (frOf fs i).fn))
theorem frok_all {P : List Fn} {fs : List Fr} (h : ∀ i, i < fs.length → frokI P fs i) : framesB P fs = true := by
  rw [framesB_iff]
  refine ⟨fun f hf => ?_, fun k f g h1 h2 => ?_⟩
  · obtain ⟨i, hi, rfl⟩ := List.getElem_of_mem hf
    have := (h i hi).1
    rwa [frOf_get hi] at this
  · obtain ⟨hk1, rfl⟩ := List.getElem?_eq_some_iff.1 h2
    obtain ⟨hk0, rfl⟩ := List.getElem?_eq_some_iff.1 h1
    rcases (h (k + 1) hk1).2 with h0 | h0
    · omega
    · rw [show k + 1 - 1 = k by omega, frOf_get hk0, frOf_get hk1] at h0
      exact h0
theorem frok_none {P : List Fn} {fs : List Fr} {i : Nat} (hi : i < fs.length) (h : ¬ frokI P fs i) : framesB P fs = false := by
  cases hb : framesB P fs with
  | false => rfl
  | true =>
    rw [framesB_iff] at hb
    refine absurd ⟨?_, ?_⟩ h
    · rw [frOf_get hi]; exact hb.place _ (List.getElem_mem hi)
    · rcases Nat.eq_zero_or_pos i with h0 | h0
      · exact Or.inl h0
      · right
        have h1 : i - 1 < fs.length := by omega
        have := hb.calls (i - 1) fs[i - 1] fs[i] (List.getElem?_eq_getElem h1) (by rw [show i - 1 + 1 = i by omega]; exact List.getElem?_eq_getElem hi)
        rw [frOf_get h1, frOf_get hi]; exact this

set_option maxRecDepth 100000 in
set_option maxHeartbeats 20000000 in
theorem stateFault_any (P : List Fn) (v sv : Value) (s : St) (w : World) (hv : ProgVal w v P) (hs : StVal w sv s) :
    Calls Tryd.prog 55 #[.agg #[v], sv] w fun e w' => ∃ E, ProofAns P E ∧ e = .returned (.int .i64 (checkE E P s)) ∧ Below w.heap.size w w' := by
  have hbx : ∀ o o', Below w.heap.size w ((w.alloc o).alloc o') := fun o o' => ((Below.refl _ _).alloc (Nat.le_refl _) _).alloc (by simp) _
  obtain ⟨ao, n0, cap0, rfl⟩ := hv.shape
  have HV : Hid (∀ W, Below w.heap.size w W → ProgVal W (.slice ao n0 cap0) P) := fun W hW => hv.keeps (keeps_below hW)
  obtain ⟨status, value, frames, mem, fuel, events, answers⟩ := s
  have hS := hs
  obtain ⟨fv, ev, av, rfl, hm, hf, he, ha⟩ := hs
  dsimp only at hm hf he ha
  obtain ⟨hwf, fo, fb, foff, fn0, fc, rfl, hfl, hfp, hfr, hfc, hfx⟩ := hf
  subst hfl
  obtain ⟨ea, ec, rfl⟩ := he.shape
  obtain ⟨aa, ac, rfl⟩ := ha.shape
  have HRG : Hid (∀ W, Below w.heap.size w W → ∀ q (hq : q < frames.length), W.rangeAt fb (foff + q * 14) (frCells frames[q]) ∧ frames[q].regs.length = 12) := fun W hW q hq => ⟨fun j u h => keeps_below hW _ _ (hfr q hq j u h), hwf _ (List.getElem_mem hq)⟩
  have HFP : Hid (0 < frames.length → fo = some ⟨fb, foff, none⟩) := hfp
  have hfc1 := hfc.1
  unfold maxLen at hfx
  obtain ⟨cs, hcs⟩ : ∃ cs, cs = (stCells ⟨status, value, frames, mem, fuel, events, answers⟩ (.slice fo frames.length fc) (.slice ea events.length ec) (.slice aa answers.length ac)).toArray := ⟨_, rfl⟩
  have hsz : (Tryd.prog.info? 29).map (·.size) = some cs.size := by rw [hcs, List.size_toArray, stCells_length _ _ _ _ hm]; exact infoSt
  rw [← hcs] at hS
  rw [← hcs]
  have a0 := hS.at.1
  have a1 := hS.at.2.1
  have a19 := hS.at.2.2.1
  have a2 : cs[2]? = some (.slice fo frames.length fc) := by rw [hcs]; simp [stCells]
  have a21 : cs[21]? = some (.slice aa answers.length ac) := by rw [hcs]; exact (stCells_get _ _ _ _ hm).2.2
  have hC := fun o o' => proven_any P (.slice ao n0 cap0) ((w.alloc o).alloc o') (hv.keeps (keeps_below (hbx o o')))
  dsimp only at a0 a1 a19
  clear he ha hS hcs hm hv hfr hwf hfp hfc
  go_enter Tryd.func55, Tryd.ntmps55
  go_upto_region 2 with (go_at_call 87; refine (hC _ _).mono ?_; rintro e w1 ⟨E, rfl, hE, hb1⟩)
  have k0 := keeps_below hb1 ⟨w.heap.size, 0, none⟩ (.slice ao n0 cap0) (by rw [cell_of_row _ _ _ _ _ _ (heap_alloc2_old _ _ _)]; rfl)
  have h9 : w1.heap[w.heap.size + 1]? = some (.cells cs 29 (0, 0)) := (hb1.block _ (by simp)).trans (heap_alloc2_new _ _ _)
  have HB1 : Hid (Below w.heap.size w w1) := (hbx _ _).trans (hb1.mono (by simp; omega))
  have hz1 : w.heap.size + 2 ≤ w1.heap.size := by have := hb1.size; simpa using this
  have s0 : w1.cell? ⟨w.heap.size + 1, 0, none⟩ = some (.int .i64 status) := by rw [cell_of_row _ _ _ _ _ _ h9]; exact a0
  have s1 : w1.cell? ⟨w.heap.size + 1, 1, none⟩ = some (.int .i64 value) := by rw [cell_of_row _ _ _ _ _ _ h9]; exact a1
  have s2 : w1.cell? ⟨w.heap.size + 1, 2, none⟩ = some (.slice fo frames.length fc) := by rw [cell_of_row _ _ _ _ _ _ h9]; exact a2
  have s19 : w1.cell? ⟨w.heap.size + 1, 19, none⟩ = some (.int .i64 fuel) := by rw [cell_of_row _ _ _ _ _ _ h9]; exact a19
  have s21 : w1.cell? ⟨w.heap.size + 1, 21, none⟩ = some (.slice aa answers.length ac) := by rw [cell_of_row _ _ _ _ _ _ h9]; exact a21
  have HE : Hid (ProofAns P E) := hE
  clear hE hC a0 a1 a19 a2 a21 hb1 h9 hsz hbx
  by_cases hE0 : E = 0
  case neg =>
    have hne : (E != 0) = true := by simpa using hE0
    have HX : Hid (checkE E P ⟨status, value, frames, mem, fuel, events, answers⟩ = E) := by show _ = _; unfold checkE; rw [if_pos hE0]
    clear hE0
    go_wp2
    go_ret
    exact ⟨E, HE.out, by rw [HX.out]; rfl, HB1.out⟩
  subst hE0
  have HNO : Hid (mayB ⟨status, value, frames, mem, fuel, events, answers⟩ = false → checkE 0 P ⟨status, value, frames, mem, fuel, events, answers⟩ = 8) := fun h => by unfold checkE; rw [if_neg (by simp), h]; rfl
  have HIF : Hid (mayB ⟨status, value, frames, mem, fuel, events, answers⟩ = true ↔ (0 ≤ status ∧ status ≤ 5 ∧ 0 ≤ fuel ∧ fuel ≤ 10000 ∧ frames.length ≤ 8 ∧ answers.length ≤ 100 ∧ (status = 1 ↔ frames.length = 0) ∧ (status = 1 ∨ value = 0))) := mayB_iff _
  have HBAD : Hid (∀ (_ : ¬ (0 ≤ status ∧ status ≤ 5 ∧ 0 ≤ fuel ∧ fuel ≤ 10000 ∧ frames.length ≤ 8 ∧ answers.length ≤ 100 ∧ (status = 1 ↔ frames.length = 0) ∧ (status = 1 ∨ value = 0))), checkE 0 P ⟨status, value, frames, mem, fuel, events, answers⟩ = 8) := fun h => HNO.out (by cases hb : mayB ⟨status, value, frames, mem, fuel, events, answers⟩ with | false => rfl | true => exact absurd (HIF.out.1 hb) h)
  clear HNO
  by_cases c1 : 0 ≤ status ∧ status ≤ 5
  case neg =>
    have hi : inB status 0 5 = false := by unfold inB; simpa using c1
    have HX : Hid (checkE 0 P ⟨status, value, frames, mem, fuel, events, answers⟩ = 8) := HBAD.out (fun h => c1 ⟨h.1, h.2.1⟩)
    clear c1
    go_wp2_with (go_at_call 39; refine (in_any _ _ _ _).mono ?_; rintro e w' ⟨rfl, hw'⟩; replace hw' := hw'.symm; subst hw')
    go_ret
    exact ⟨0, HE.out, by rw [HX.out]; rfl, HB1.out⟩
  have hi1 : inB status 0 5 = true := by unfold inB; simpa using c1
  by_cases c2 : 0 ≤ fuel ∧ fuel ≤ 10000
  case neg =>
    have hi : inB fuel 0 10000 = false := by unfold inB; simpa using c2
    have HX : Hid (checkE 0 P ⟨status, value, frames, mem, fuel, events, answers⟩ = 8) := HBAD.out (fun h => c2 ⟨h.2.2.1, h.2.2.2.1⟩)
    clear c1 c2
    go_wp2_with (go_at_call 39; refine (in_any _ _ _ _).mono ?_; rintro e w' ⟨rfl, hw'⟩; replace hw' := hw'.symm; subst hw')
    go_ret
    exact ⟨0, HE.out, by rw [HX.out]; rfl, HB1.out⟩
  have hi2 : inB fuel 0 10000 = true := by unfold inB; simpa using c2
  by_cases c3 : frames.length ≤ 8
  case neg =>
    have hi : (8 : Int) < frames.length := by omega
    have HX : Hid (checkE 0 P ⟨status, value, frames, mem, fuel, events, answers⟩ = 8) := HBAD.out (fun h => c3 h.2.2.2.2.1)
    clear c1 c2 c3
    go_wp2_with (go_at_call 39; refine (in_any _ _ _ _).mono ?_; rintro e w' ⟨rfl, hw'⟩; replace hw' := hw'.symm; subst hw')
    go_ret
    exact ⟨0, HE.out, by rw [HX.out]; rfl, HB1.out⟩
  have hi3 : ¬ ((8 : Int) < frames.length) := by omega
  by_cases c4 : answers.length ≤ 100
  case neg =>
    have hi : (100 : Int) < answers.length := by omega
    have HX : Hid (checkE 0 P ⟨status, value, frames, mem, fuel, events, answers⟩ = 8) := HBAD.out (fun h => c4 h.2.2.2.2.2.1)
    clear c1 c2 c3 c4
    go_wp2_with (go_at_call 39; refine (in_any _ _ _ _).mono ?_; rintro e w' ⟨rfl, hw'⟩; replace hw' := hw'.symm; subst hw')
    go_ret
    exact ⟨0, HE.out, by rw [HX.out]; rfl, HB1.out⟩
  have hi4 : ¬ ((100 : Int) < answers.length) := by omega
  go_upto_region 6 with (go_at_call 39; refine (in_any _ _ _ _).mono ?_; rintro e w' ⟨rfl, hw'⟩; replace hw' := hw'.symm; subst hw')
  clear hi1 hi2 hi4 s19 s21
  by_cases c5 : status = 1
  · subst c5
    by_cases c6 : frames.length = 0
    case neg =>
      have hi : (0 : Int) < frames.length := by omega
      have hi5 : 0 < frames.length := by omega
      have hi6 : frames ≠ [] := fun h => c6 (by rw [h]; rfl)
      have HX : Hid (checkE 0 P ⟨1, value, frames, mem, fuel, events, answers⟩ = 8) := HBAD.out (fun h => c6 (h.2.2.2.2.2.2.1.1 rfl))
      clear c1 c2 c6
      go_wp2
      go_ret
      exact ⟨0, HE.out, by rw [HX.out]; rfl, HB1.out⟩
    obtain rfl : frames = [] := List.length_eq_zero_iff.1 c6
    have HX : Hid (checkE 0 P ⟨1, value, [], mem, fuel, events, answers⟩ = 0) := by
      show _ = _
      unfold checkE
      rw [if_neg (by simp), HIF.out.2 ⟨c1.1, c1.2, c2.1, c2.2, c3, c4, ⟨fun _ => rfl, fun _ => rfl⟩, Or.inl rfl⟩]
      rfl
    clear c1 c2 c6 HBAD HIF
    dsimp only [List.length_nil] at s2 hi3
    go_wp2
    go_loopw [6] (fun i wr => i = .int .i64 0 ∧ wr = w1) (fun _ _ => 0)
    case atStart => exact ⟨rfl, rfl⟩
    case round =>
      obtain ⟨rfl, rfl⟩ := hrel
      go_wp2
      go_ret
      exact ⟨0, HE.out, by rw [HX.out]; rfl, HB1.out⟩
  have hne1 : (status == 1) = false := by simpa using c5
  have hne2 : (status != 1) = true := by simpa using c5
  by_cases c6 : frames.length = 0
  case pos =>
    obtain rfl : frames = [] := List.length_eq_zero_iff.1 c6
    have HX : Hid (checkE 0 P ⟨status, value, [], mem, fuel, events, answers⟩ = 8) := HBAD.out (fun h => c5 (h.2.2.2.2.2.2.1.2 rfl))
    clear c1 c2 c5 c6
    go_wp2
    go_ret
    exact ⟨0, HE.out, by rw [HX.out]; rfl, HB1.out⟩
  have hl0 : (((frames.length : Nat) : Int) == 0) = false := by rw [beq_eq_false_iff_ne]; omega
  by_cases c7 : value = 0
  case neg =>
    have hv0 : (value != 0) = true := by simpa using c7
    have HX : Hid (checkE 0 P ⟨status, value, frames, mem, fuel, events, answers⟩ = 8) := HBAD.out (fun h => by rcases h.2.2.2.2.2.2.2 with h | h; exact c5 h; exact c7 h)
    clear c1 c2 c5 c7
    go_wp2
    go_ret
    exact ⟨0, HE.out, by rw [HX.out]; rfl, HB1.out⟩
  subst c7
  have HM : Hid (mayB ⟨status, 0, frames, mem, fuel, events, answers⟩ = true) := HIF.out.2 ⟨c1.1, c1.2, c2.1, c2.2, c3, c4, ⟨fun h => absurd h c5, fun h => absurd h c6⟩, Or.inr rfl⟩
  have HXF : Hid (framesB P frames = false → checkE 0 P ⟨status, 0, frames, mem, fuel, events, answers⟩ = 8) := fun h => by unfold checkE; rw [if_neg (by simp), HM.out, h]; rfl
  have HXT : Hid (framesB P frames = true → checkE 0 P ⟨status, 0, frames, mem, fuel, events, answers⟩ = 0) := fun h => by unfold checkE; rw [if_neg (by simp), HM.out, h]; rfl
  clear HBAD HIF HM
  obtain rfl := HFP.out (by omega)
  have HS2 : Hid (∀ W, Below w1.heap.size w1 W → W.cell? ⟨w.heap.size + 1, 2, none⟩ = some (.slice (some ⟨fb, foff, none⟩) frames.length fc) ∧ W.cell? ⟨w.heap.size, 0, none⟩ = some (.slice ao n0 cap0)) := fun W hW => ⟨keeps_below hW _ _ s2, keeps_below hW _ _ k0⟩
  go_wp2
  clear s0 s1 hne1 hne2 hl0 c1 c2 c5
  go_loopw [6] (fun i wr => ∃ q : Nat, q ≤ frames.length ∧ i = .int .i64 q ∧ (∀ j, j < q → frokI P frames j) ∧ Below w1.heap.size w1 wr) (fun i _ => frames.length - (intOf i).toNat)
  case atStart => exact ⟨0, Nat.zero_le _, rfl, fun j hj => by omega, Below.refl _ _⟩
  case round =>
    obtain ⟨q, hq, rfl, hok, hbr⟩ := hrel
    have HOK : Hid (∀ j, j < q → frokI P frames j) := hok
    have HBR : Hid (Below w1.heap.size w1 wr) := hbr
    have HBW : Hid (Below w.heap.size w wr) := HB1.out.trans (hbr.mono HB1.out.size)
    obtain ⟨x2, kp⟩ := HS2.out wr hbr
    clear hok hbr s2 k0
    by_cases hlt : q < frames.length
    · obtain ⟨hrg, h12⟩ := HRG.out wr HBW.out q hlt
      have hqI : (q : Int) < frames.length := by omega
      have eF : frOf frames q = frames[q] := frOf_get hlt
      have hfl : (Tryd.prog.info? 54).map (·.size) = some (frCells frames[q]).length := by rw [frCells_length _ h12]; exact infoFr
      have hfs : (Tryd.prog.info? 54).map (·.size) = some (frCells frames[q]).toArray.size := by rw [List.size_toArray]; exact hfl
      have hfo : (frCells frames[q]).toArray.all (·.oneCell') = true := by rw [Array.all_eq_true_iff_forall_mem]; intro u hu; exact frCells_one _ u (by simpa using hu)
      have hfz : (zeroFr 0).toArray.size = (frCells frames[q]).toArray.size := by rw [List.size_toArray, List.size_toArray, frCells_length _ h12]; rfl
      obtain ⟨f, hf⟩ : ∃ f, f = frames[q] := ⟨_, rfl⟩
      rw [← hf] at hrg h12 hfl hfs hfo hfz eF
      have HFQ : Hid (frOf frames q = f) := eF
      clear hf eF
      go_upto_region 12 with (first
        | (refine wpList_load_mid rfl _ _ rfl fb (foff + q * 14) rfl (frCells f) _ hrg Tryd.underlying54 rfl hfl ?_)
        | (refine wpList_store_row rfl _ _ _ rfl _ (frCells f).toArray rfl rfl 54 (zeroFr 0).toArray (heap_alloc_last wr _) hfs hfz hfo ?_; rw [World.setRow_alloc_new]))
      have B5 : Hid (Below wr.heap.size wr (wr.alloc (.cells (frCells f).toArray 54))) := (Below.refl _ _).alloc (Nat.le_refl _) _
      have rt : (wr.alloc (.cells (frCells f).toArray 54)).heap[wr.heap.size]? = some (.cells (frCells f).toArray 54 (0, 0)) := heap_alloc_last wr _
      have t0 : (wr.alloc (.cells (frCells f).toArray 54)).cell? ⟨wr.heap.size, 0, none⟩ = some (.int .i64 f.fn) := by rw [cell_of_row _ _ _ _ _ _ rt]; rfl
      have t1 : (wr.alloc (.cells (frCells f).toArray 54)).cell? ⟨wr.heap.size, 1, none⟩ = some (.int .i64 f.pc) := by rw [cell_of_row _ _ _ _ _ _ rt]; rfl
      have kp5 := keeps_below B5.out _ _ kp
      have HB5 : Hid (Below w1.heap.size w1 (wr.alloc (.cells (frCells f).toArray 54))) := HBR.out.trans (B5.out.mono HBR.out.size)
      have HBW5 : Hid (Below w.heap.size w (wr.alloc (.cells (frCells f).toArray 54))) := HBW.out.trans (B5.out.mono HBW.out.size)
      clear hrg hfl hfs hfo hfz rt kp x2
      generalize (wr.alloc (.cells (frCells f).toArray 54)) = W5 at *
      generalize wr.heap.size = TB at *
      have HALL : Hid (q < frames.length ∧ q ≤ frames.length ∧ frames.length ≤ 8 ∧ frames.length ≤ fc ∧ fc ≤ 2 ^ 63 - 1) := ⟨hlt, hq, c3, hfc1, hfx⟩
      have HP14 : Hid (1 ≤ P.length ∧ P.length ≤ 1000) := by
        have h := codeProg_zero (proof_code HE.out)
        exact ⟨h.1, by have := h.2.1; omega⟩
      obtain ⟨hP1, hP4⟩ := HP14.out
      obtain ⟨b, off, cap, -, -, hve, -, hpc1, hpc2⟩ := prog_code (HV.out W5 HBW5.out) (show 0 < P.length by omega)
      obtain ⟨rfl, rfl, rfl⟩ : ao = some ⟨b, off, none⟩ ∧ n0 = P.length ∧ cap0 = cap := by simpa using hve
      obtain ⟨pl, hpl⟩ : ∃ pl : Nat, P.length = pl + 1 := ⟨P.length - 1, by omega⟩
      have hwp : IntKind.i64.wrap (((P.length : Nat) : Int) - 1) = (pl : Int) := by rw [show ((P.length : Nat) : Int) - 1 = pl by omega]; exact wrap_fits _ (by omega) (by omega)
      have HEQ : Hid (placeB P f = true ↔ (0 ≤ f.fn ∧ f.fn < P.length ∧ 0 ≤ f.pc ∧ f.pc < ((P.getD f.fn.toNat ⟨0, 0, []⟩).code.length : Int))) := by show _ ↔ _; unfold placeB; rw [decide_eq_true_eq]
      clear hve
      by_cases d1 : 0 ≤ f.fn ∧ f.fn < P.length
      case neg =>
        have hIN : Hid (∀ W, Calls Tryd.prog 39 #[.int .i64 f.fn, .int .i64 0, .int .i64 (pl : Int)] W fun e w' => e = .returned (.bool false) ∧ w' = W) := fun W => by
          have h := in_any f.fn 0 (pl : Int) W
          rw [show inB f.fn 0 (pl : Int) = false by unfold inB; rw [decide_eq_false_iff_not]; omega] at h
          exact h
        have HX : Hid (checkE 0 P ⟨status, 0, frames, mem, fuel, events, answers⟩ = 8) := HXF.out (frok_none hlt (fun h => by
          have h1 := h.1
          rw [HFQ.out] at h1
          have h2 := HEQ.out.1 h1
          exact d1 ⟨h2.1, h2.2.1⟩))
        clear d1 hpl
        clear hlt hq hqI c3 c4 c6 hi3 hfx hfc1 hz1 h12 hpc1 hpc2 hP1 hP4
        refine wp_region_held_drew (S := fun W => Below W5.heap.size W5 W) (by kernel_rfl) ((Below.refl _ _).drew) (fun hHeld => ?_)
        show wpAnyH _ _ _ _ _ 23 _ _ _
        refine wpAnyH_take (i := 0) (v := ?_) rfl (by kernel_rfl) (by kernel_rfl) (by kernel_rfl) (fun _ _ _ h => h) (Or.inl ⟨by rfl, ?_⟩) (by assumption) ?_
        rotate_left
        · (intro W hSW; go_simp; try (with_reducible rfl))
        (try simp only [Act.put, List.setIfInBounds_toArray])
        refine wpAnyH_take (i := 1) (v := ?_) rfl (by kernel_rfl) (by kernel_rfl) (by kernel_rfl) (fun _ _ _ h => h) (Or.inl ⟨by rfl, ?_⟩) (by assumption) ?_
        rotate_left
        · (intro W hSW; have z0 := keeps_below hSW _ _ t0; go_simp; try (with_reducible rfl))
        (try simp only [Act.put])
        refine wpAnyH_take (i := 2) (v := ?_) rfl (by kernel_rfl) (by kernel_rfl) (by kernel_rfl) (fun _ _ _ h => h) (Or.inl ⟨by rfl, ?_⟩) (by assumption) ?_
        rotate_left
        · (intro W hSW; go_simp; try (with_reducible rfl))
        (try simp only [Act.put])
        refine wpAnyH_take (i := 3) (v := ?_) rfl (by kernel_rfl) (by kernel_rfl) (by kernel_rfl) (fun _ _ _ h => h) (Or.inl ⟨by rfl, ?_⟩) (by assumption) ?_
        rotate_left
        · (intro W hSW; have z0 := keeps_below hSW _ _ kp5; go_simp; try (with_reducible rfl))
        (try simp only [Act.put])
        refine wpAnyH_take (i := 4) (v := ?_) rfl (by kernel_rfl) (by kernel_rfl) (by kernel_rfl) (fun _ _ _ h => h) (Or.inl ⟨by rfl, ?_⟩) (by assumption) ?_
        rotate_left
        · (intro W hSW; go_simp; try (with_reducible rfl))
        (try simp only [Act.put])
        refine wpAnyH_take (i := 5) (v := ?_) rfl (by kernel_rfl) (by kernel_rfl) (by kernel_rfl) (fun _ _ _ h => h) (Or.inl ⟨by rfl, ?_⟩) (by assumption) ?_
        rotate_left
        · (intro W hSW; go_simp; try (with_reducible rfl))
        (try simp only [Act.put])
        refine wpAnyH_ready (rs := [6]) (by kernel_rfl) (by simp) ?_
        refine AllReadyH.cons rfl (fun K hK => ?_) AllReadyH.nil
        go_simp
        go_at_call 39
        refine (hIN.out _).mono ?_
        rintro e wp ⟨rfl, hwp⟩
        replace hwp := hwp.symm
        subst hwp
        dsimp only
        refine hK.out _ _ hHeld (fun _ => ?_)
        clear hK K
        (try simp only [Act.put, List.setIfInBounds_toArray, List.set_cons_zero, List.set_cons_succ])
        refine wpAnyH_take (i := 7) (v := ?_) rfl (by kernel_rfl) (by kernel_rfl) (by kernel_rfl) (fun _ _ _ h => h) (Or.inl ⟨by rfl, ?_⟩) (by assumption) ?_
        rotate_left
        · (intro W hSW; go_simp; try (with_reducible rfl))
        (try simp only [Act.put, List.setIfInBounds_toArray])
        refine wpAnyH_take (i := 8) (v := ?_) rfl (by kernel_rfl) (by kernel_rfl) (by kernel_rfl) (fun _ _ _ h => h) (Or.inl ⟨by rfl, ?_⟩) (by assumption) ?_
        rotate_left
        · (intro W hSW; go_simp; try (with_reducible rfl))
        (try simp only [Act.put])
        refine wpAnyH_take (i := 9) (v := undef) rfl (by kernel_rfl) (by kernel_rfl) (by kernel_rfl) (fun _ _ _ h => h) (Or.inr ⟨by kernel_rfl, rfl⟩) (by assumption) ?_
        (try simp only [Act.put, List.getElem_toArray, List.getElem_cons_succ, List.getElem_cons_zero, List.setIfInBounds_toArray, List.set_cons_zero, List.set_cons_succ])
        refine wpAnyH_take (i := 10) (v := undef) rfl (by kernel_rfl) (by kernel_rfl) (by kernel_rfl) (fun _ _ _ h => h) (Or.inr ⟨by kernel_rfl, rfl⟩) (by assumption) ?_
        (try simp only [Act.put, List.getElem_toArray, List.getElem_cons_succ, List.getElem_cons_zero, List.setIfInBounds_toArray, List.set_cons_zero, List.set_cons_succ])
        refine wpAnyH_take (i := 11) (v := undef) rfl (by kernel_rfl) (by kernel_rfl) (by kernel_rfl) (fun _ _ _ h => h) (Or.inr ⟨by kernel_rfl, rfl⟩) (by assumption) ?_
        (try simp only [Act.put, List.getElem_toArray, List.getElem_cons_succ, List.getElem_cons_zero, List.setIfInBounds_toArray, List.set_cons_zero, List.set_cons_succ])
        refine wpAnyH_take (i := 12) (v := undef) rfl (by kernel_rfl) (by kernel_rfl) (by kernel_rfl) (fun _ _ _ h => h) (Or.inr ⟨by kernel_rfl, rfl⟩) (by assumption) ?_
        (try simp only [Act.put, List.getElem_toArray, List.getElem_cons_succ, List.getElem_cons_zero, List.setIfInBounds_toArray, List.set_cons_zero, List.set_cons_succ])
        refine wpAnyH_take (i := 13) (v := undef) rfl (by kernel_rfl) (by kernel_rfl) (by kernel_rfl) (fun _ _ _ h => h) (Or.inr ⟨by kernel_rfl, rfl⟩) (by assumption) ?_
        (try simp only [Act.put, List.getElem_toArray, List.getElem_cons_succ, List.getElem_cons_zero, List.setIfInBounds_toArray, List.set_cons_zero, List.set_cons_succ])
        refine wpAnyH_take (i := 14) (v := undef) rfl (by kernel_rfl) (by kernel_rfl) (by kernel_rfl) (fun _ _ _ h => h) (Or.inr ⟨by kernel_rfl, rfl⟩) (by assumption) ?_
        (try simp only [Act.put, List.getElem_toArray, List.getElem_cons_succ, List.getElem_cons_zero, List.setIfInBounds_toArray, List.set_cons_zero, List.set_cons_succ])
        refine wpAnyH_take (i := 15) (v := undef) rfl (by kernel_rfl) (by kernel_rfl) (by kernel_rfl) (fun _ _ _ h => h) (Or.inr ⟨by kernel_rfl, rfl⟩) (by assumption) ?_
        (try simp only [Act.put, List.getElem_toArray, List.getElem_cons_succ, List.getElem_cons_zero, List.setIfInBounds_toArray, List.set_cons_zero, List.set_cons_succ])
        refine wpAnyH_take (i := 16) (v := undef) rfl (by kernel_rfl) (by kernel_rfl) (by kernel_rfl) (fun _ _ _ h => h) (Or.inr ⟨by kernel_rfl, rfl⟩) (by assumption) ?_
        (try simp only [Act.put, List.getElem_toArray, List.getElem_cons_succ, List.getElem_cons_zero, List.setIfInBounds_toArray, List.set_cons_zero, List.set_cons_succ])
        refine wpAnyH_take (i := 17) (v := undef) rfl (by kernel_rfl) (by kernel_rfl) (by kernel_rfl) (fun _ _ _ h => h) (Or.inr ⟨by kernel_rfl, rfl⟩) (by assumption) ?_
        (try simp only [Act.put, List.getElem_toArray, List.getElem_cons_succ, List.getElem_cons_zero, List.setIfInBounds_toArray, List.set_cons_zero, List.set_cons_succ])
        refine wpAnyH_take (i := 18) (v := undef) rfl (by kernel_rfl) (by kernel_rfl) (by kernel_rfl) (fun _ _ _ h => h) (Or.inr ⟨by kernel_rfl, rfl⟩) (by assumption) ?_
        (try simp only [Act.put, List.getElem_toArray, List.getElem_cons_succ, List.getElem_cons_zero, List.setIfInBounds_toArray, List.set_cons_zero, List.set_cons_succ])
        refine wpAnyH_take (i := 19) (v := undef) rfl (by kernel_rfl) (by kernel_rfl) (by kernel_rfl) (fun _ _ _ h => h) (Or.inr ⟨by kernel_rfl, rfl⟩) (by assumption) ?_
        (try simp only [Act.put, List.getElem_toArray, List.getElem_cons_succ, List.getElem_cons_zero, List.setIfInBounds_toArray, List.set_cons_zero, List.set_cons_succ])
        refine wpAnyH_take (i := 20) (v := undef) rfl (by kernel_rfl) (by kernel_rfl) (by kernel_rfl) (fun _ _ _ h => h) (Or.inr ⟨by kernel_rfl, rfl⟩) (by assumption) ?_
        (try simp only [Act.put, List.getElem_toArray, List.getElem_cons_succ, List.getElem_cons_zero, List.setIfInBounds_toArray, List.set_cons_zero, List.set_cons_succ])
        refine wpAnyH_take (i := 21) (v := undef) rfl (by kernel_rfl) (by kernel_rfl) (by kernel_rfl) (fun _ _ _ h => h) (Or.inr ⟨by kernel_rfl, rfl⟩) (by assumption) ?_
        (try simp only [Act.put, List.getElem_toArray, List.getElem_cons_succ, List.getElem_cons_zero, List.setIfInBounds_toArray, List.set_cons_zero, List.set_cons_succ])
        refine wpAnyH_take (i := 22) (v := ?_) rfl (by kernel_rfl) (by kernel_rfl) (by kernel_rfl) (fun _ _ _ h => h) (Or.inl ⟨by kernel_rfl, ?_⟩) (by assumption) ?_
        rotate_left
        · (intro W hSW; go_simp; try (with_reducible rfl))
        (try simp only [Act.put, List.setIfInBounds_toArray])
        refine wpAnyH_done (by kernel_rfl) ?_ _
        go_wp2
        go_ret
        exact ⟨0, HE.out, by rw [HX.out]; rfl, HBW5.out.drew⟩
      obtain ⟨k, hk⟩ := Int.eq_ofNat_of_zero_le d1.1
      have hkl : k < P.length := by omega
      have hkI : (k : Int) < P.length := by omega
      have hIN1 : Hid (∀ W, Calls Tryd.prog 39 #[.int .i64 (k : Int), .int .i64 0, .int .i64 (pl : Int)] W fun e w' => e = .returned (.bool true) ∧ w' = W) := fun W => by
        have h := in_any (k : Int) 0 (pl : Int) W
        rw [show inB (k : Int) 0 (pl : Int) = true by unfold inB; rw [decide_eq_true_eq]; omega] at h
        exact h
      obtain ⟨b', off', cap', a1, cap1, hve, d2, -, -⟩ := prog_code (HV.out W5 HBW5.out) hkl
      obtain ⟨⟨rfl, rfl⟩, rfl⟩ : (b = b' ∧ off = off') ∧ cap0 = cap' := by simpa using hve
      have hcl := (fnOk_of (proof_code HE.out) (List.getElem_mem hkl)).1
      have hcl1 := hcl.len1
      have hcl2 := hcl.len2
      have HGD : Hid ((P.getD f.fn.toNat ⟨0, 0, []⟩).code.length = P[k].code.length) := by show _ = _; rw [hk]; simp [List.getD, hkl]
      obtain ⟨cl, hcle⟩ : ∃ cl : Nat, P[k].code.length = cl + 1 := ⟨P[k].code.length - 1, by omega⟩
      have HKF : Hid (f.fn = (k : Int)) := hk
      rw [hk] at t0
      rw [hcle] at d2 HGD hcl2
      have hwc : IntKind.i64.wrap (((cl + 1 : Nat) : Int) - 1) = (cl : Int) := by rw [show ((cl + 1 : Nat) : Int) - 1 = cl by omega]; exact wrap_fits _ (by omega) (by omega)
      have hwc2 : IntKind.i64.wrap (cl : Int) = (cl : Int) := wrap_fits _ (by omega) (by omega)
      clear hve hk d1 hcl hcl1 hcle hpl
      by_cases d3 : 0 ≤ f.pc ∧ f.pc ≤ cl
      case neg =>
        have hIN2 : Hid (∀ W, Calls Tryd.prog 39 #[.int .i64 f.pc, .int .i64 0, .int .i64 (cl : Int)] W fun e w' => e = .returned (.bool false) ∧ w' = W) := fun W => by
          have h := in_any f.pc 0 (cl : Int) W
          rw [show inB f.pc 0 (cl : Int) = false by unfold inB; rw [decide_eq_false_iff_not]; exact d3] at h
          exact h
        have HX : Hid (checkE 0 P ⟨status, 0, frames, mem, fuel, events, answers⟩ = 8) := HXF.out (frok_none hlt (fun h => by
          have h1 := h.1
          rw [HFQ.out] at h1
          have h2 := HEQ.out.1 h1
          rw [HGD.out] at h2
          exact d3 ⟨h2.2.2.1, by omega⟩))
        clear d3
        clear hlt hq hqI c3 c4 c6 hi3 hfx hfc1 hz1 h12 hpc1 hpc2 hP1 hP4
        refine wp_region_held_drew (S := fun W => Below W5.heap.size W5 W) (by kernel_rfl) ((Below.refl _ _).drew) (fun hHeld => ?_)
        show wpAnyH _ _ _ _ _ 23 _ _ _
        refine wpAnyH_take (i := 0) (v := ?_) rfl (by kernel_rfl) (by kernel_rfl) (by kernel_rfl) (fun _ _ _ h => h) (Or.inl ⟨by rfl, ?_⟩) (by assumption) ?_
        rotate_left
        · (intro W hSW; go_simp; try (with_reducible rfl))
        (try simp only [Act.put, List.setIfInBounds_toArray])
        refine wpAnyH_take (i := 1) (v := ?_) rfl (by kernel_rfl) (by kernel_rfl) (by kernel_rfl) (fun _ _ _ h => h) (Or.inl ⟨by rfl, ?_⟩) (by assumption) ?_
        rotate_left
        · (intro W hSW; have z0 := keeps_below hSW _ _ t0; go_simp; try (with_reducible rfl))
        (try simp only [Act.put])
        refine wpAnyH_take (i := 2) (v := ?_) rfl (by kernel_rfl) (by kernel_rfl) (by kernel_rfl) (fun _ _ _ h => h) (Or.inl ⟨by rfl, ?_⟩) (by assumption) ?_
        rotate_left
        · (intro W hSW; go_simp; try (with_reducible rfl))
        (try simp only [Act.put])
        refine wpAnyH_take (i := 3) (v := ?_) rfl (by kernel_rfl) (by kernel_rfl) (by kernel_rfl) (fun _ _ _ h => h) (Or.inl ⟨by rfl, ?_⟩) (by assumption) ?_
        rotate_left
        · (intro W hSW; have z0 := keeps_below hSW _ _ kp5; go_simp; try (with_reducible rfl))
        (try simp only [Act.put])
        refine wpAnyH_take (i := 4) (v := ?_) rfl (by kernel_rfl) (by kernel_rfl) (by kernel_rfl) (fun _ _ _ h => h) (Or.inl ⟨by rfl, ?_⟩) (by assumption) ?_
        rotate_left
        · (intro W hSW; go_simp; try (with_reducible rfl))
        (try simp only [Act.put])
        refine wpAnyH_take (i := 5) (v := ?_) rfl (by kernel_rfl) (by kernel_rfl) (by kernel_rfl) (fun _ _ _ h => h) (Or.inl ⟨by rfl, ?_⟩) (by assumption) ?_
        rotate_left
        · (intro W hSW; go_simp; try (with_reducible rfl))
        (try simp only [Act.put])
        refine wpAnyH_ready (rs := [6]) (by kernel_rfl) (by simp) ?_
        refine AllReadyH.cons rfl (fun K hK => ?_) AllReadyH.nil
        go_simp
        go_at_call 39
        refine (hIN1.out _).mono ?_
        rintro e wp ⟨rfl, hwp⟩
        replace hwp := hwp.symm
        subst hwp
        dsimp only
        refine hK.out _ _ hHeld (fun _ => ?_)
        clear hK K
        (try simp only [Act.put, List.setIfInBounds_toArray, List.set_cons_zero, List.set_cons_succ])
        refine wpAnyH_take (i := 7) (v := ?_) rfl (by kernel_rfl) (by kernel_rfl) (by kernel_rfl) (fun _ _ _ h => h) (Or.inl ⟨by rfl, ?_⟩) (by assumption) ?_
        rotate_left
        · (intro W hSW; go_simp; try (with_reducible rfl))
        (try simp only [Act.put, List.setIfInBounds_toArray])
        refine wpAnyH_take (i := 8) (v := ?_) rfl (by kernel_rfl) (by kernel_rfl) (by kernel_rfl) (fun _ _ _ h => h) (Or.inl ⟨by rfl, ?_⟩) (by assumption) ?_
        rotate_left
        · (intro W hSW; go_simp; try (with_reducible rfl))
        (try simp only [Act.put])
        refine wpAnyH_take (i := 9) (v := ?_) rfl (by kernel_rfl) (by kernel_rfl) (by kernel_rfl) (fun _ _ _ h => h) (Or.inl ⟨by kernel_rfl, ?_⟩) (by assumption) ?_
        rotate_left
        · (intro W hSW; go_simp; try (with_reducible rfl))
        (try simp only [Act.put])
        refine wpAnyH_take (i := 10) (v := ?_) rfl (by kernel_rfl) (by kernel_rfl) (by kernel_rfl) (fun _ _ _ h => h) (Or.inl ⟨by kernel_rfl, ?_⟩) (by assumption) ?_
        rotate_left
        · (intro W hSW; have z0 := keeps_below hSW _ _ t1; go_simp; try (with_reducible rfl))
        (try simp only [Act.put])
        refine wpAnyH_take (i := 11) (v := ?_) rfl (by kernel_rfl) (by kernel_rfl) (by kernel_rfl) (fun _ _ _ h => h) (Or.inl ⟨by kernel_rfl, ?_⟩) (by assumption) ?_
        rotate_left
        · (intro W hSW; go_simp; try (with_reducible rfl))
        (try simp only [Act.put])
        refine wpAnyH_take (i := 12) (v := ?_) rfl (by kernel_rfl) (by kernel_rfl) (by kernel_rfl) (fun _ _ _ h => h) (Or.inl ⟨by kernel_rfl, ?_⟩) (by assumption) ?_
        rotate_left
        · (intro W hSW; have z0 := keeps_below hSW _ _ kp5; go_simp; try (with_reducible rfl))
        (try simp only [Act.put])
        refine wpAnyH_take (i := 13) (v := ?_) rfl (by kernel_rfl) (by kernel_rfl) (by kernel_rfl) (fun _ _ _ h => h) (Or.inl ⟨by kernel_rfl, ?_⟩) (by assumption) ?_
        rotate_left
        · (intro W hSW; go_simp; try (with_reducible rfl))
        (try simp only [Act.put])
        refine wpAnyH_take (i := 14) (v := ?_) rfl (by kernel_rfl) (by kernel_rfl) (by kernel_rfl) (fun _ _ _ h => h) (Or.inl ⟨by kernel_rfl, ?_⟩) (by assumption) ?_
        rotate_left
        · (intro W hSW; have z0 := keeps_below hSW _ _ t0; go_simp; try (with_reducible rfl))
        (try simp only [Act.put])
        refine wpAnyH_take (i := 15) (v := ?_) rfl (by kernel_rfl) (by kernel_rfl) (by kernel_rfl) (fun _ _ _ h => h) (Or.inl ⟨by kernel_rfl, ?_⟩) (by assumption) ?_
        rotate_left
        · (intro W hSW; go_simp; try (with_reducible rfl))
        (try simp only [Act.put])
        refine wpAnyH_take (i := 16) (v := ?_) rfl (by kernel_rfl) (by kernel_rfl) (by kernel_rfl) (fun _ _ _ h => h) (Or.inl ⟨by kernel_rfl, ?_⟩) (by assumption) ?_
        rotate_left
        · (intro W hSW; go_simp; try (with_reducible rfl))
        (try simp only [Act.put])
        refine wpAnyH_take (i := 17) (v := ?_) rfl (by kernel_rfl) (by kernel_rfl) (by kernel_rfl) (fun _ _ _ h => h) (Or.inl ⟨by kernel_rfl, ?_⟩) (by assumption) ?_
        rotate_left
        · (intro W hSW; have z0 := keeps_below hSW _ _ d2; go_simp; try (with_reducible rfl))
        (try simp only [Act.put])
        refine wpAnyH_take (i := 18) (v := ?_) rfl (by kernel_rfl) (by kernel_rfl) (by kernel_rfl) (fun _ _ _ h => h) (Or.inl ⟨by kernel_rfl, ?_⟩) (by assumption) ?_
        rotate_left
        · (intro W hSW; go_simp; try (with_reducible rfl))
        (try simp only [Act.put])
        refine wpAnyH_take (i := 19) (v := ?_) rfl (by kernel_rfl) (by kernel_rfl) (by kernel_rfl) (fun _ _ _ h => h) (Or.inl ⟨by kernel_rfl, ?_⟩) (by assumption) ?_
        rotate_left
        · (intro W hSW; go_simp; try (with_reducible rfl))
        (try simp only [Act.put])
        refine wpAnyH_ready (rs := [20]) (by kernel_rfl) (by simp) ?_
        refine AllReadyH.cons rfl (fun K hK => ?_) AllReadyH.nil
        go_simp
        go_at_call 39
        refine (hIN2.out _).mono ?_
        rintro e wp ⟨rfl, hwp⟩
        replace hwp := hwp.symm
        subst hwp
        dsimp only
        refine hK.out _ _ hHeld (fun _ => ?_)
        clear hK K
        (try simp only [Act.put, List.setIfInBounds_toArray, List.set_cons_zero, List.set_cons_succ])
        refine wpAnyH_take (i := 21) (v := ?_) rfl (by kernel_rfl) (by kernel_rfl) (by kernel_rfl) (fun _ _ _ h => h) (Or.inl ⟨by kernel_rfl, ?_⟩) (by assumption) ?_
        rotate_left
        · (intro W hSW; go_simp; try (with_reducible rfl))
        (try simp only [Act.put, List.setIfInBounds_toArray])
        refine wpAnyH_take (i := 22) (v := ?_) rfl (by kernel_rfl) (by kernel_rfl) (by kernel_rfl) (fun _ _ _ h => h) (Or.inl ⟨by kernel_rfl, ?_⟩) (by assumption) ?_
        rotate_left
        · (intro W hSW; go_simp; try (with_reducible rfl))
        (try simp only [Act.put])
        refine wpAnyH_done (by kernel_rfl) ?_ _
        go_wp2
        go_ret
        exact ⟨0, HE.out, by rw [HX.out]; rfl, HBW5.out.drew⟩
      have hIN2 : Hid (∀ W, Calls Tryd.prog 39 #[.int .i64 f.pc, .int .i64 0, .int .i64 (cl : Int)] W fun e w' => e = .returned (.bool true) ∧ w' = W) := fun W => by
        have h := in_any f.pc 0 (cl : Int) W
        rw [show inB f.pc 0 (cl : Int) = true by unfold inB; rw [decide_eq_true_eq]; exact d3] at h
        exact h
      have HPB : Hid (placeB P f = true) := HEQ.out.2 ⟨by rw [HKF.out]; omega, by rw [HKF.out]; exact hkI, d3.1, by rw [HGD.out]; omega⟩
      clear d3
      clear hlt hq hqI c3 c4 c6 hi3 hfx hfc1 hz1 h12 hpc1 hpc2 hP1 hP4
      refine wp_region_held_drew (S := fun W => Below W5.heap.size W5 W) (by kernel_rfl) ((Below.refl _ _).drew) (fun hHeld => ?_)
      show wpAnyH _ _ _ _ _ 23 _ _ _
      refine wpAnyH_take (i := 0) (v := ?_) rfl (by kernel_rfl) (by kernel_rfl) (by kernel_rfl) (fun _ _ _ h => h) (Or.inl ⟨by rfl, ?_⟩) (by assumption) ?_
      rotate_left
      · (intro W hSW; go_simp; try (with_reducible rfl))
      (try simp only [Act.put, List.setIfInBounds_toArray])
      refine wpAnyH_take (i := 1) (v := ?_) rfl (by kernel_rfl) (by kernel_rfl) (by kernel_rfl) (fun _ _ _ h => h) (Or.inl ⟨by rfl, ?_⟩) (by assumption) ?_
      rotate_left
      · (intro W hSW; have z0 := keeps_below hSW _ _ t0; go_simp; try (with_reducible rfl))
      (try simp only [Act.put])
      refine wpAnyH_take (i := 2) (v := ?_) rfl (by kernel_rfl) (by kernel_rfl) (by kernel_rfl) (fun _ _ _ h => h) (Or.inl ⟨by rfl, ?_⟩) (by assumption) ?_
      rotate_left
      · (intro W hSW; go_simp; try (with_reducible rfl))
      (try simp only [Act.put])
      refine wpAnyH_take (i := 3) (v := ?_) rfl (by kernel_rfl) (by kernel_rfl) (by kernel_rfl) (fun _ _ _ h => h) (Or.inl ⟨by rfl, ?_⟩) (by assumption) ?_
      rotate_left
      · (intro W hSW; have z0 := keeps_below hSW _ _ kp5; go_simp; try (with_reducible rfl))
      (try simp only [Act.put])
      refine wpAnyH_take (i := 4) (v := ?_) rfl (by kernel_rfl) (by kernel_rfl) (by kernel_rfl) (fun _ _ _ h => h) (Or.inl ⟨by rfl, ?_⟩) (by assumption) ?_
      rotate_left
      · (intro W hSW; go_simp; try (with_reducible rfl))
      (try simp only [Act.put])
      refine wpAnyH_take (i := 5) (v := ?_) rfl (by kernel_rfl) (by kernel_rfl) (by kernel_rfl) (fun _ _ _ h => h) (Or.inl ⟨by rfl, ?_⟩) (by assumption) ?_
      rotate_left
      · (intro W hSW; go_simp; try (with_reducible rfl))
      (try simp only [Act.put])
      refine wpAnyH_ready (rs := [6]) (by kernel_rfl) (by simp) ?_
      refine AllReadyH.cons rfl (fun K hK => ?_) AllReadyH.nil
      go_simp
      go_at_call 39
      refine (hIN1.out _).mono ?_
      rintro e wp ⟨rfl, hwp⟩
      replace hwp := hwp.symm
      subst hwp
      dsimp only
      refine hK.out _ _ hHeld (fun _ => ?_)
      clear hK K
      (try simp only [Act.put, List.setIfInBounds_toArray, List.set_cons_zero, List.set_cons_succ])
      refine wpAnyH_take (i := 7) (v := ?_) rfl (by kernel_rfl) (by kernel_rfl) (by kernel_rfl) (fun _ _ _ h => h) (Or.inl ⟨by rfl, ?_⟩) (by assumption) ?_
      rotate_left
      · (intro W hSW; go_simp; try (with_reducible rfl))
      (try simp only [Act.put, List.setIfInBounds_toArray])
      refine wpAnyH_take (i := 8) (v := ?_) rfl (by kernel_rfl) (by kernel_rfl) (by kernel_rfl) (fun _ _ _ h => h) (Or.inl ⟨by rfl, ?_⟩) (by assumption) ?_
      rotate_left
      · (intro W hSW; go_simp; try (with_reducible rfl))
      (try simp only [Act.put])
      refine wpAnyH_take (i := 9) (v := ?_) rfl (by kernel_rfl) (by kernel_rfl) (by kernel_rfl) (fun _ _ _ h => h) (Or.inl ⟨by kernel_rfl, ?_⟩) (by assumption) ?_
      rotate_left
      · (intro W hSW; go_simp; try (with_reducible rfl))
      (try simp only [Act.put])
      refine wpAnyH_take (i := 10) (v := ?_) rfl (by kernel_rfl) (by kernel_rfl) (by kernel_rfl) (fun _ _ _ h => h) (Or.inl ⟨by kernel_rfl, ?_⟩) (by assumption) ?_
      rotate_left
      · (intro W hSW; have z0 := keeps_below hSW _ _ t1; go_simp; try (with_reducible rfl))
      (try simp only [Act.put])
      refine wpAnyH_take (i := 11) (v := ?_) rfl (by kernel_rfl) (by kernel_rfl) (by kernel_rfl) (fun _ _ _ h => h) (Or.inl ⟨by kernel_rfl, ?_⟩) (by assumption) ?_
      rotate_left
      · (intro W hSW; go_simp; try (with_reducible rfl))
      (try simp only [Act.put])
      refine wpAnyH_take (i := 12) (v := ?_) rfl (by kernel_rfl) (by kernel_rfl) (by kernel_rfl) (fun _ _ _ h => h) (Or.inl ⟨by kernel_rfl, ?_⟩) (by assumption) ?_
      rotate_left
      · (intro W hSW; have z0 := keeps_below hSW _ _ kp5; go_simp; try (with_reducible rfl))
      (try simp only [Act.put])
      refine wpAnyH_take (i := 13) (v := ?_) rfl (by kernel_rfl) (by kernel_rfl) (by kernel_rfl) (fun _ _ _ h => h) (Or.inl ⟨by kernel_rfl, ?_⟩) (by assumption) ?_
      rotate_left
      · (intro W hSW; go_simp; try (with_reducible rfl))
      (try simp only [Act.put])
      refine wpAnyH_take (i := 14) (v := ?_) rfl (by kernel_rfl) (by kernel_rfl) (by kernel_rfl) (fun _ _ _ h => h) (Or.inl ⟨by kernel_rfl, ?_⟩) (by assumption) ?_
      rotate_left
      · (intro W hSW; have z0 := keeps_below hSW _ _ t0; go_simp; try (with_reducible rfl))
      (try simp only [Act.put])
      refine wpAnyH_take (i := 15) (v := ?_) rfl (by kernel_rfl) (by kernel_rfl) (by kernel_rfl) (fun _ _ _ h => h) (Or.inl ⟨by kernel_rfl, ?_⟩) (by assumption) ?_
      rotate_left
      · (intro W hSW; go_simp; try (with_reducible rfl))
      (try simp only [Act.put])
      refine wpAnyH_take (i := 16) (v := ?_) rfl (by kernel_rfl) (by kernel_rfl) (by kernel_rfl) (fun _ _ _ h => h) (Or.inl ⟨by kernel_rfl, ?_⟩) (by assumption) ?_
      rotate_left
      · (intro W hSW; go_simp; try (with_reducible rfl))
      (try simp only [Act.put])
      refine wpAnyH_take (i := 17) (v := ?_) rfl (by kernel_rfl) (by kernel_rfl) (by kernel_rfl) (fun _ _ _ h => h) (Or.inl ⟨by kernel_rfl, ?_⟩) (by assumption) ?_
      rotate_left
      · (intro W hSW; have z0 := keeps_below hSW _ _ d2; go_simp; try (with_reducible rfl))
      (try simp only [Act.put])
      refine wpAnyH_take (i := 18) (v := ?_) rfl (by kernel_rfl) (by kernel_rfl) (by kernel_rfl) (fun _ _ _ h => h) (Or.inl ⟨by kernel_rfl, ?_⟩) (by assumption) ?_
      rotate_left
      · (intro W hSW; go_simp; try (with_reducible rfl))
      (try simp only [Act.put])
      refine wpAnyH_take (i := 19) (v := ?_) rfl (by kernel_rfl) (by kernel_rfl) (by kernel_rfl) (fun _ _ _ h => h) (Or.inl ⟨by kernel_rfl, ?_⟩) (by assumption) ?_
      rotate_left
      · (intro W hSW; go_simp; try (with_reducible rfl))
      (try simp only [Act.put])
      refine wpAnyH_ready (rs := [20]) (by kernel_rfl) (by simp) ?_
      refine AllReadyH.cons rfl (fun K hK => ?_) AllReadyH.nil
      go_simp
      go_at_call 39
      refine (hIN2.out _).mono ?_
      rintro e wp ⟨rfl, hwp⟩
      replace hwp := hwp.symm
      subst hwp
      dsimp only
      refine hK.out _ _ hHeld (fun _ => ?_)
      clear hK K
      (try simp only [Act.put, List.setIfInBounds_toArray, List.set_cons_zero, List.set_cons_succ])
      refine wpAnyH_take (i := 21) (v := ?_) rfl (by kernel_rfl) (by kernel_rfl) (by kernel_rfl) (fun _ _ _ h => h) (Or.inl ⟨by kernel_rfl, ?_⟩) (by assumption) ?_
      rotate_left
      · (intro W hSW; go_simp; try (with_reducible rfl))
      (try simp only [Act.put, List.setIfInBounds_toArray])
      refine wpAnyH_take (i := 22) (v := ?_) rfl (by kernel_rfl) (by kernel_rfl) (by kernel_rfl) (fun _ _ _ h => h) (Or.inl ⟨by kernel_rfl, ?_⟩) (by assumption) ?_
      rotate_left
      · (intro W hSW; go_simp; try (with_reducible rfl))
      (try simp only [Act.put])
      refine wpAnyH_done (by kernel_rfl) ?_ _
      clear hIN1 hIN2 hwp hwc hwc2 d2 t1 kp5
      have HB5n : Hid (Below w1.heap.size w1 W5.drew) := HB5.out.drew
      have HTB : Hid (W5.drew.cell? ⟨TB, 0, none⟩ = some (.int .i64 (k : Int))) := t0
      clear t0
      generalize W5.drew = W6 at *
      obtain ⟨hlt, hq, c3, hfc1, hfx⟩ := HALL.out
      have hqI : (q : Int) < frames.length := by omega
      by_cases hq0 : q = 0
      case pos =>
        subst hq0
        have HOK2 : Hid (∀ j, j < 0 + 1 → frokI P frames j) := fun j hj => by
          obtain rfl : j = 0 := by omega
          exact ⟨by rw [HFQ.out]; exact HPB.out, Or.inl rfl⟩
        go_wp2
        go_roundw
        case rel => exact ⟨0 + 1, by omega, by go_num, HOK2.out, HB5n.out⟩
        case measure => simp [intOf]; omega
      have hqp : (0 : Int) < q := by omega
      have hqp2 : 0 < q := by omega
      obtain ⟨qu, hqu⟩ : ∃ qu : Nat, q = qu + 1 := ⟨q - 1, by omega⟩
      subst hqu
      have hqul : qu < frames.length := by omega
      have hwq : IntKind.i64.wrap (((qu + 1 : Nat) : Int) - 1) = (qu : Int) := by rw [show ((qu + 1 : Nat) : Int) - 1 = qu by omega]; exact wrap_fits _ (by omega) (by omega)
      have hwq2 : IntKind.i64.wrap (qu : Int) = (qu : Int) := wrap_fits _ (by omega) (by omega)
      have hquI : (qu : Int) < frames.length := by omega
      have x2n : W6.cell? ⟨w.heap.size + 1, 2, none⟩ = some (.slice (some ⟨fb, foff, none⟩) frames.length fc) := (HS2.out _ HB5n.out).1
      obtain ⟨up, hup⟩ : ∃ up, up = frames[qu] := ⟨_, rfl⟩
      have urn : W6.rangeAt fb (foff + qu * 14) (frCells up) := by rw [hup]; exact (HRG.out _ (HB1.out.trans (HB5n.out.mono HB1.out.size)) qu hqul).1
      have u12 : up.regs.length = 12 := by rw [hup]; exact (HRG.out _ (HB1.out.trans (HB5n.out.mono HB1.out.size)) qu hqul).2
      have HUQ : Hid (frOf frames qu = up) := by show _ = _; rw [hup]; exact frOf_get hqul
      have HUP : Hid (placeB P up = true) := by have := (HOK.out qu (by omega)).1; rw [HUQ.out] at this; exact this
      have hfl : (Tryd.prog.info? 54).map (·.size) = some (frCells up).length := by rw [frCells_length _ u12]; exact infoFr
      have hfs : (Tryd.prog.info? 54).map (·.size) = some (frCells up).toArray.size := by rw [List.size_toArray]; exact hfl
      have hfo : (frCells up).toArray.all (·.oneCell') = true := by rw [Array.all_eq_true_iff_forall_mem]; intro u hu; exact frCells_one _ u (by simpa using hu)
      have hfz : (zeroFr 0).toArray.size = (frCells up).toArray.size := by rw [List.size_toArray, List.size_toArray, frCells_length _ u12]; rfl
      clear hup hq0
      go_upto_region 16 with (first
        | (refine wpList_load_mid rfl _ _ rfl fb (foff + qu * 14) rfl (frCells up) _ urn Tryd.underlying54 rfl hfl ?_)
        | (refine wpList_store_row rfl _ _ _ rfl _ (frCells up).toArray rfl rfl 54 (zeroFr 0).toArray (heap_alloc_last _ _) hfs hfz hfo ?_; rw [World.setRow_alloc_new]))
      have B7 : Hid (Below W6.heap.size W6 (W6.alloc (.cells (frCells up).toArray 54))) := (Below.refl _ _).alloc (Nat.le_refl _) _
      have HB7 : Hid (Below w1.heap.size w1 (W6.alloc (.cells (frCells up).toArray 54))) := HB5n.out.trans (B7.out.mono HB5n.out.size)
      have rt : (W6.alloc (.cells (frCells up).toArray 54)).heap[W6.heap.size]? = some (.cells (frCells up).toArray 54 (0, 0)) := heap_alloc_last W6 _
      have tb7 := keeps_below B7.out _ _ HTB.out
      clear hfl hfs hfo hfz urn x2n HTB B7
      generalize (W6.alloc (.cells (frCells up).toArray 54)) = W7 at *
      generalize W6.heap.size = UB at *
      have HBW7 : Hid (Below w.heap.size w W7) := HB1.out.trans (HB7.out.mono HB1.out.size)
      have kp7 := (HS2.out _ HB7.out).2
      obtain ⟨ku, ju, b', off', cap', b1, off1, m1, cap1, g1, g2, hve, hkul, e2, hjm, hm1, hc1, -, -, hins⟩ := prog_ins (HV.out W7 HBW7.out) HUP.out
      obtain ⟨⟨rfl, rfl⟩, rfl⟩ : (b = b' ∧ off = off') ∧ cap0 = cap' := by simpa using hve
      have u0 : W7.cell? ⟨UB, 0, none⟩ = some (.int .i64 (ku : Int)) := by rw [cell_of_row _ _ _ _ _ _ rt, ← g1]; rfl
      have u1 : W7.cell? ⟨UB, 1, none⟩ = some (.int .i64 (ju : Int)) := by rw [cell_of_row _ _ _ _ _ _ rt, ← g2]; rfl
      have hkuI : (ku : Int) < P.length := by omega
      have hjuI : (ju : Int) < m1 := by omega
      have hins2 : insAt W7 b1 (off1 + ju * 5) (insOfFr P up) := hins
      obtain ⟨xo, xd, xa, xb, xi, HXE, i0, i1, i2, i3, i4⟩ : ∃ xo xd xa xb xi, Hid (insOfFr P up = ⟨xo, xd, xa, xb, xi⟩) ∧ W7.cell? ⟨b1, off1 + ju * 5, none⟩ = some (.int .i64 xo) ∧ W7.cell? ⟨b1, off1 + ju * 5 + 1, none⟩ = some (.int .i64 xd) ∧ W7.cell? ⟨b1, off1 + ju * 5 + 2, none⟩ = some (.int .i64 xa) ∧ W7.cell? ⟨b1, off1 + ju * 5 + 3, none⟩ = some (.int .i64 xb) ∧ W7.cell? ⟨b1, off1 + ju * 5 + 4, none⟩ = some (.int .i64 xi) := ⟨_, _, _, _, _, (rfl : insOfFr P up = _), hins2.1, hins2.2.1, hins2.2.2.1, hins2.2.2.2.1, hins2.2.2.2.2⟩
      clear hins hins2 rt g1 g2 hve
      simp only [Act.put]
      go_cut [9] from 105 to 115 (fun t wx => ∃ G : Nat, t = .pointer (some ⟨G, 0, none⟩) ∧ wx.heap[G]? = some (.cells #[.int .i64 xo, .int .i64 xd, .int .i64 xa, .int .i64 xb, .int .i64 xi] 60 (0, 0)) ∧ Below W7.heap.size W7 wx)
      case first =>
        refine wp_region_held_drew (S := fun W => Below W7.heap.size W7 W) (by kernel_rfl) ((Below.refl _ _).drew) (fun hHeld => ?_)
        show wpAnyH _ _ _ _ _ 13 _ _ _
        refine wpAnyH_take (i := 0) (v := ?_) rfl (by kernel_rfl) (by kernel_rfl) (by kernel_rfl) (fun _ _ _ h => h) (Or.inl ⟨by rfl, ?_⟩) (by assumption) ?_
        rotate_left
        · (intro W hSW; go_simp; try (with_reducible rfl))
        (try simp only [Act.put, List.setIfInBounds_toArray])
        refine wpAnyH_take (i := 1) (v := ?_) rfl (by kernel_rfl) (by kernel_rfl) (by kernel_rfl) (fun _ _ _ h => h) (Or.inl ⟨by rfl, ?_⟩) (by assumption) ?_
        rotate_left
        · (intro W hSW; have z0 := keeps_below hSW _ _ kp7; go_simp; try (with_reducible rfl))
        (try simp only [Act.put])
        refine wpAnyH_take (i := 2) (v := ?_) rfl (by kernel_rfl) (by kernel_rfl) (by kernel_rfl) (fun _ _ _ h => h) (Or.inl ⟨by rfl, ?_⟩) (by assumption) ?_
        rotate_left
        · (intro W hSW; go_simp; try (with_reducible rfl))
        (try simp only [Act.put])
        refine wpAnyH_take (i := 3) (v := ?_) rfl (by kernel_rfl) (by kernel_rfl) (by kernel_rfl) (fun _ _ _ h => h) (Or.inl ⟨by rfl, ?_⟩) (by assumption) ?_
        rotate_left
        · (intro W hSW; have z0 := keeps_below hSW _ _ u0; go_simp; try (with_reducible rfl))
        (try simp only [Act.put])
        refine wpAnyH_take (i := 4) (v := ?_) rfl (by kernel_rfl) (by kernel_rfl) (by kernel_rfl) (fun _ _ _ h => h) (Or.inl ⟨by rfl, ?_⟩) (by assumption) ?_
        rotate_left
        · (intro W hSW; go_simp; try (with_reducible rfl))
        (try simp only [Act.put])
        refine wpAnyH_take (i := 5) (v := ?_) rfl (by kernel_rfl) (by kernel_rfl) (by kernel_rfl) (fun _ _ _ h => h) (Or.inl ⟨by rfl, ?_⟩) (by assumption) ?_
        rotate_left
        · (intro W hSW; go_simp; try (with_reducible rfl))
        (try simp only [Act.put])
        refine wpAnyH_take (i := 6) (v := ?_) rfl (by kernel_rfl) (by kernel_rfl) (by kernel_rfl) (fun _ _ _ h => h) (Or.inl ⟨by rfl, ?_⟩) (by assumption) ?_
        rotate_left
        · (intro W hSW; have z0 := keeps_below hSW _ _ e2; go_simp; try (with_reducible rfl))
        (try simp only [Act.put])
        refine wpAnyH_take (i := 7) (v := ?_) rfl (by kernel_rfl) (by kernel_rfl) (by kernel_rfl) (fun _ _ _ h => h) (Or.inl ⟨by rfl, ?_⟩) (by assumption) ?_
        rotate_left
        · (intro W hSW; go_simp; try (with_reducible rfl))
        (try simp only [Act.put])
        refine wpAnyH_take (i := 8) (v := ?_) rfl (by kernel_rfl) (by kernel_rfl) (by kernel_rfl) (fun _ _ _ h => h) (Or.inl ⟨by rfl, ?_⟩) (by assumption) ?_
        rotate_left
        · (intro W hSW; have z0 := keeps_below hSW _ _ u1; go_simp; try (with_reducible rfl))
        (try simp only [Act.put])
        refine wpAnyH_take (i := 9) (v := ?_) rfl (by kernel_rfl) (by kernel_rfl) (by kernel_rfl) (fun _ _ _ h => h) (Or.inl ⟨by rfl, ?_⟩) (by assumption) ?_
        rotate_left
        · (intro W hSW; go_simp; try (with_reducible rfl))
        (try simp only [Act.put])
        refine wpAnyH_take (i := 10) (v := ?_) rfl (by kernel_rfl) (by kernel_rfl) (by kernel_rfl) (fun _ _ _ h => h) (Or.inl ⟨by rfl, ?_⟩) (by assumption) ?_
        rotate_left
        · (intro W hSW; have z0 := keeps_below hSW _ _ i0; have z1 := keeps_below hSW _ _ i1; have z2 := keeps_below hSW _ _ i2; have z3 := keeps_below hSW _ _ i3; have z4 := keeps_below hSW _ _ i4; go_simp; try (with_reducible rfl))
        (try simp only [Act.put])
        refine wpAnyH_ready (rs := [11]) (by kernel_rfl) (by simp) ?_
        refine AllReadyH.cons rfl (fun K hK => ?_) AllReadyH.nil
        go_simp
        refine hK.out _ _ ((Below.refl _ _).alloc (Nat.le_refl _) _).drew (fun _ => ?_)
        clear hK K
        (try simp only [Act.put, List.setIfInBounds_toArray, List.set_cons_zero, List.set_cons_succ])
        refine wpAnyH_ready (rs := [12]) (by kernel_rfl) (by simp) ?_
        refine AllReadyH.cons rfl (fun K hK => ?_) AllReadyH.nil
        go_simp
        refine hK.out _ _ ((Below.refl _ _).alloc (Nat.le_refl _) _).drew (fun _ => ?_)
        clear hK K
        (try simp only [Act.put, List.setIfInBounds_toArray, List.set_cons_zero, List.set_cons_succ])
        refine wpAnyH_done (by kernel_rfl) ?_ _
        go_wp2_with fail
        go_meet
        exact ⟨_, rfl, heap_alloc_last W7 _, ((Below.refl _ _).alloc (Nat.le_refl _) _).drew⟩
      case rest =>
        rename World => WX
        obtain ⟨G, rfl, rowX, BX⟩ := hcut
        have x0 : WX.cell? ⟨G, 0, none⟩ = some (.int .i64 xo) := by rw [cell_of_row _ _ _ _ _ _ rowX]; rfl
        have x4 : WX.cell? ⟨G, 4, none⟩ = some (.int .i64 xi) := by rw [cell_of_row _ _ _ _ _ _ rowX]; rfl
        have tbX := keeps_below BX _ _ tb7
        have HBX : Hid (Below w1.heap.size w1 WX) := HB7.out.trans (BX.mono HB7.out.size)
        have HBWX : Hid (Below w.heap.size w WX) := HB1.out.trans (HBX.out.mono HB1.out.size)
        have HIF2 : Hid (frokI P frames (qu + 1) ↔ (xo = 17 ∧ xi = (k : Int))) := by
          show _ ↔ _
          unfold frokI
          rw [show qu + 1 - 1 = qu by omega, HFQ.out, HUQ.out, HXE.out, HKF.out]
          constructor
          · rintro ⟨_, h | h⟩
            · omega
            · exact h
          · intro h; exact ⟨HPB.out, Or.inr h⟩
        clear kp7 u0 u1 e2 i0 i1 i2 i3 i4 tb7 rowX BX
        by_cases h17 : xo = 17
        case neg =>
          have hne : (xo != 17) = true := by simpa using h17
          have HX : Hid (checkE 0 P ⟨status, 0, frames, mem, fuel, events, answers⟩ = 8) := HXF.out (frok_none hlt (fun h => h17 (HIF2.out.1 h).1))
          clear h17
          go_wp2
          go_ret
          exact ⟨0, HE.out, by rw [HX.out]; rfl, HBWX.out⟩
        subst h17
        by_cases hxi : xi = (k : Int)
        case neg =>
          have hne : (xi != (k : Int)) = true := by simpa using hxi
          have HX : Hid (checkE 0 P ⟨status, 0, frames, mem, fuel, events, answers⟩ = 8) := HXF.out (frok_none hlt (fun h => hxi (HIF2.out.1 h).2))
          clear hxi
          go_wp2
          go_ret
          exact ⟨0, HE.out, by rw [HX.out]; rfl, HBWX.out⟩
        subst hxi
        have HOK2 : Hid (∀ j, j < qu + 1 + 1 → frokI P frames j) := fun j hj => by
          rcases Nat.lt_or_ge j (qu + 1) with h | h
          · exact HOK.out j h
          · obtain rfl : j = qu + 1 := by omega
            exact HIF2.out.2 ⟨rfl, rfl⟩
        go_wp2
        go_roundw
        case rel => exact ⟨qu + 1 + 1, by omega, by go_num, HOK2.out, HBX.out⟩
        case measure => simp [intOf]; omega
    · have HX : Hid (checkE 0 P ⟨status, 0, frames, mem, fuel, events, answers⟩ = 0) := HXT.out (frok_all (fun i hi => HOK.out i (by omega)))
      obtain rfl : q = frames.length := by omega
      go_wp2
      go_ret
      exact ⟨0, HE.out, by rw [HX.out]; rfl, HBW.out⟩
end Go.Proofs.YteabbanjjdmjkaaDoor
