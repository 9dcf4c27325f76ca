/- Contract of sheet.Show: a program's text. -/
import Derived.Test.YtedicikcmpehnaaDoorAppIns
import Derived.Test.YtedicikcmpehnaaDoorCheck
import Derived.Test.YtedicikcmpehnaaDoorLater
import Derived.Laws.IdiomStrings
namespace Go.Proofs.YtedicikcmpehnaaDoor
open Go Go.RowKit

theorem Std.push {w : World} (h : Std w.heap.size w) (o : Obj) : Std (w.heap.size + 1) (w.alloc o) :=
  ⟨fun w' hb => h.pow w' (((Below.refl _ _).alloc (Nat.le_refl _) o).trans (hb.mono (by omega))), fun w' hb => h.tabs w' (((Below.refl _ _).alloc (Nat.le_refl _) o).trans (hb.mono (by omega)))⟩
theorem txt_nil (w : World) (B : Nat) : Txt w B (.slice none 0 0) [] := ⟨rfl, .inl ⟨rfl, rfl⟩⟩
theorem txt_conv {w : World} {B : Nat} {v : Value} {l : List UInt8} (h : Txt w B v l) (hl : 0 < l.length) : ∃ g cap, v = .slice (some ⟨g, 0, none⟩) l.length cap ∧ (convert 35 9 (.slice (some ⟨g, 0, none⟩) l.length cap)).run Tryd.prog w = .ok (.string ⟨l.toArray⟩) w := by
  obtain ⟨g, cap, rfl, hc⟩ := own_some h hl
  refine ⟨g, cap, rfl, run_convert_bytes_back w _ _ _ _ cap l Tryd.underlying35 Tryd.underlying5 Tryd.underlying9 fun j hj => hc j _ ?_⟩
  simp [Lib.byteCells, hj]
theorem showOf_pos (p : List Fn) (h : 1 ≤ p.length) : 0 < (showOf p).length := by
  cases p with
  | nil => simp at h
  | cons f r =>
    rw [showOf, List.flatMap_cons, List.length_append, fnLines, List.length_append, fnLine, List.length_append]
    simp only [List.length_cons]
    omega

set_option maxHeartbeats 400000 in
theorem show_bad (p : List Fn) (v : Value) (w : World) (ht : TabOk w) (hv : ProgVal w v p) (hc : codeProg p ≠ 0) :
    Calls Tryd.prog 5 #[.agg #[v]] w fun e w' => e = .returned (.tuple #[.string ⟨#[]⟩, .int .i64 (codeProg p)]) ∧ Below w.heap.size w w' := by
  obtain ⟨ao, n, cap, rfl⟩ := hv.shape
  have hb0 : Below w.heap.size w (w.alloc (.cells #[.slice ao n cap] 24)) := (Below.refl _ _).alloc (Nat.le_refl _) _
  have hT := ht.below hb0
  have hP := hv.keeps (keeps_below hb0)
  have hq : (codeProg p != 0) = true := by simpa using hc
  clear hv ht hc
  go_enter Tryd.func5, Tryd.ntmps5
  go_wp2_with (go_at_call 8; refine (check_any p _ _ hT hP).mono ?_; rintro e w1 ⟨rfl, hb1⟩)
  go_ret2
  exact ⟨rfl, hb0.trans (hb1.mono (by simp))⟩

set_option maxRecDepth 100000 in
set_option maxHeartbeats 4000000 in
theorem show_ok (p : List Fn) (v : Value) (w : World) (hs : Std w.heap.size w) (hv : ProgVal w v p) (hwf : ∀ f ∈ p, f.wf) (hc : codeProg p = 0) :
    Calls Tryd.prog 5 #[.agg #[v]] w fun e w' => e = .returned (.tuple #[.string ⟨(showOf p).toArray⟩, .int .i64 0]) ∧ Below w.heap.size w w' := by
  obtain ⟨ao, n, cap, rfl⟩ := hv.shape
  have hb0 : Below w.heap.size w (w.alloc (.cells #[.slice ao n cap] 24)) := (Below.refl _ _).alloc (Nat.le_refl _) _
  have hT : TabOk (w.alloc (.cells #[.slice ao n cap] 24)) := (hs.tabs _ hb0).2
  have hP := hv.keeps (keeps_below hb0)
  have HST : Hid (Std (w.heap.size + 1) (w.alloc (.cells #[.slice ao n cap] 24))) := hs.push _
  obtain ⟨hp1, hp4, hpf⟩ := codeProg_zero hc
  have HPOS : Hid (0 < (showOf p).length) := showOf_pos p hp1
  have HSL : Hid (∀ k, (showPart p k).length ≤ 20000) := fun k => by
    have := showPart_len p k hwf fun f hf => (codeFunc_zero (hpf f hf)).2.2.2.2.2.2.1
    omega
  obtain ⟨ao', b, off, n', cap', hve, ⟨hlen, haddr, hat⟩, hcap, hmax⟩ := hv
  simp only [Value.slice.injEq] at hve
  obtain ⟨rfl, rfl, rfl⟩ := hve
  obtain rfl := haddr (by omega)
  have HL : Hid (p.length = n) := hlen
  have hn1 : 1 ≤ n := by omega
  have hn4 : n ≤ 4 := by omega
  have HF : Hid (∀ f ∈ p, codeFunc f p.length = 0) := hpf
  have HW : Hid (∀ f ∈ p, f.wf) := hwf
  have HAT : Hid (∀ (k : Nat) (h : k < p.length), ∃ v, FnAt w b (off + k * 3) p[k] v) := hat
  have HPB : Hid (showOf p = showPart p n) := by show _ = _; rw [showOf, showPart, ← hlen, List.take_length]
  generalize showOf p = R at HPB HPOS
  clear haddr hlen hp1 hp4 hpf hat hcap hwf hs
  go_enter Tryd.func5, Tryd.ntmps5
  go_wp2_with (go_at_call 8; refine (check_any p _ _ hT hP).mono ?_; rintro e w1 ⟨rfl, hb1⟩; rw [hc]; have c1 : w1.cell? ⟨w.heap.size, 0, none⟩ = some (.slice (some ⟨b, off, none⟩) n cap) := keeps_below hb1 _ _ (by simp))
  have HB1 : Hid (Below (w.heap.size + 1) (w.alloc (.cells #[.slice (some ⟨b, off, none⟩) n cap] 24)) w1) := hb1.mono (by simp)
  clear hb1 hc hP hT c1
  go_loopw [5, 18] (fun l i wr => ∃ k : Nat, k ≤ n ∧ i = .int .i64 k ∧ Txt wr (w.heap.size + 1) l (showPart p k) ∧ Below (w.heap.size + 1) (w.alloc (.cells #[.slice (some ⟨b, off, none⟩) n cap] 24)) wr) (fun _ i _ => n - (intOf i).toNat)
  case atStart => exact ⟨0, Nat.zero_le _, rfl, by simpa [showPart] using txt_nil _ _, HB1.out⟩
  case round =>
    obtain ⟨k, hk, rfl, hr, hb⟩ := hrel
    clear HB1
    have hbw : Below w.heap.size w wr := hb0.trans (hb.mono (by omega))
    have hz : w.heap.size + 1 ≤ wr.heap.size := by have := hb.size; simp at this; omega
    have HB : Hid (Below (w.heap.size + 1) (w.alloc (.cells #[.slice (some ⟨b, off, none⟩) n cap] 24)) wr) := hb
    by_cases hlt : k < n
    · obtain ⟨aor, capr, rfl⟩ := own_shape hr
      have hkx : k < p.length := by rw [HL.out]; exact hlt
      obtain ⟨u, hfn⟩ := HAT.out k hkx
      obtain ⟨d0, d1, d2, hu⟩ := hfn
      replace d0 := keeps_below hbw _ _ d0
      replace d1 := keeps_below hbw _ _ d1
      replace d2 := keeps_below hbw _ _ d2
      obtain ⟨r1, r12, r0, r2, _, r3, r40, rall⟩ := codeFunc_zero (HF.out p[k] (List.getElem_mem hkx))
      have HWX : Hid (p[k].wf) := HW.out p[k] (List.getElem_mem hkx)
      have HS : Hid (showPart p (k + 1) = showPart p k ++ fnLines p[k]) := showPart_succ p k hkx
      generalize hx : p[k] = x at d0 d1 d2 hu r1 r12 r0 r2 r3 r40 rall HS HWX
      obtain ⟨params, regs, xs⟩ := x
      obtain ⟨ao1, b1, off1, n1, cap1, rfl, ⟨hlen1, haddr1, hat1⟩, hcap1, hmax1⟩ := hu
      dsimp only at d0 d1 d2 hlen1 hat1 r1 r12 r0 r2 r3 r40 rall
      have HL1 : Hid (xs.length = n1) := hlen1
      have HOP : Hid (∀ x ∈ xs, 1 ≤ x.op ∧ x.op < 20) := fun x hx => op_of_zero (rall x hx)
      have HWI : Hid (∀ x ∈ xs, x.wf) := HWX.out.2.2
      rw [hlen1] at r3 r40
      obtain rfl := haddr1 (by omega)
      have HC1 : Hid (∀ (k : Nat) (h : k < xs.length), insAt w b1 (off1 + k * 5) xs[k]) := hat1
      have hS := HSL.out k
      generalize showPart p k = S at hS HS hr
      have HR : Hid (Txt wr (w.heap.size + 1) (.slice aor S.length capr) S) := hr
      have HU : Hid (showPart p (k + 1) = S ++ fnLine ⟨params, regs, xs⟩ ++ xs.flatMap insLine) := by
        have h := HS.out
        show _ = _
        rw [h, fnLines, ← List.append_assoc]
      have hfl : (fnLine ⟨params, regs, xs⟩).length ≤ 49 := fnLine_len _ HWX.out
      have HFA : Hid (∀ v w', Txt w' (w.heap.size + 1) v S → w.heap.size + 1 ≤ w'.heap.size → PowB (w.heap.size + 1) w' → Calls Tryd.prog 9 #[v, .agg #[.int .i64 params, .int .i64 regs, .slice (some ⟨b1, off1, none⟩) n1 cap1]] w' fun e w2 => ∃ v', e = .returned v' ∧ Txt w2 (w.heap.size + 1) v' (S ++ fnLine ⟨params, regs, xs⟩) ∧ Grew (w.heap.size + 1) w' w2) := fun v w' h1 h2 h3 => func_any _ params regs _ xs v S w' HWX.out.1 HWX.out.2.1 h1 h2 (by omega) h3
      generalize fnLine ⟨params, regs, xs⟩ = FL at HU hfl HFA
      clear hx hat1 haddr1 hlen1 hb HS hcap1 rall hr
      rename World => wo
      go_wp2_with (go_at_call 9; refine (HFA.out _ _ (HR.out.alloc _) (by simp; omega) (HST.out.pow.on (HB.out.alloc hz _))).mono ?_; rintro e w2 ⟨v2, rfl, hown2, hg2⟩; have X2 : w2.heap[wo.heap.size]? = some (.cells #[.int .i64 params, .int .i64 regs, .slice (some ⟨b1, off1, none⟩) n1 cap1] 33) := hg2.box (heap_alloc_new wo _) (by decide); have c2 : w2.cell? ⟨wo.heap.size, 2, none⟩ = some (.slice (some ⟨b1, off1, none⟩) n1 cap1) := (by simp [World.cell?, X2]); have HB2 : Hid (Below (w.heap.size + 1) (w.alloc (.cells #[.slice (some ⟨b, off, none⟩) n cap] 24)) w2) := (show Below _ _ _ from (HB.out.alloc hz _).trans hg2.below); have T2 : Hid (Txt w2 (w.heap.size + 1) v2 (S ++ FL)) := hown2; clear hown2 hg2 X2)
      clear d0 d1 d2 c2 hbw
      go_loopw [5, 28] (fun l i wi => ∃ j : Nat, j ≤ n1 ∧ i = .int .i64 j ∧ Txt wi (w.heap.size + 1) l (S ++ FL ++ (xs.take j).flatMap insLine) ∧ Below (w.heap.size + 1) (w.alloc (.cells #[.slice (some ⟨b, off, none⟩) n cap] 24)) wi) (fun _ i _ => n1 - (intOf i).toNat)
      case atStart => exact ⟨0, Nat.zero_le _, rfl, by simpa using T2.out, HB2.out⟩
      case round =>
        obtain ⟨j, hj, rfl, hri, hbi⟩ := hrel
        clear T2 HB2
        have hbwi : Below w.heap.size w wr := hb0.trans (hbi.mono (by omega))
        have hzi : w.heap.size + 1 ≤ wr.heap.size := by have := hbi.size; simp at this; omega
        have HBI : Hid (Below (w.heap.size + 1) (w.alloc (.cells #[.slice (some ⟨b, off, none⟩) n cap] 24)) wr) := hbi
        by_cases hlj : j < n1
        · have hjx : j < xs.length := by rw [HL1.out]; exact hlj
          obtain ⟨g0, g1, g2, g3, g4⟩ := (HC1.out j hjx).keeps (keeps_below hbwi)
          have HTI : Hid ((xs.take (j + 1)).flatMap insLine = (xs.take j).flatMap insLine ++ insLine xs[j]) := linePart_succ xs j hjx
          obtain ⟨o0, o1⟩ := HOP.out xs[j] (List.getElem_mem hjx)
          obtain ⟨_, w1', w2', w3', w4'⟩ := HWI.out xs[j] (List.getElem_mem hjx)
          have hll : (S ++ FL ++ (xs.take j).flatMap insLine).length ≤ 30000 := by
            have h1 := insLines_len (xs.take j) fun x hx => HWI.out x (List.mem_of_mem_take hx)
            have h2 : (xs.take j).length ≤ 40 := by rw [List.length_take]; omega
            rw [List.length_append, List.length_append]
            omega
          generalize hxx : xs[j] = x at g0 g1 g2 g3 g4 HTI o0 o1 w1' w2' w3' w4'
          obtain ⟨op, dst, a, b9, imm⟩ := x
          dsimp only at g0 g1 g2 g3 g4 o0 o1 w1' w2' w3' w4'
          have HE : Hid (S ++ FL ++ (xs.take (j + 1)).flatMap insLine = (S ++ FL ++ (xs.take j).flatMap insLine) ++ insLine ⟨op, dst, a, b9, imm⟩) := by
            show _ = _
            rw [HTI.out]
            simp only [List.append_assoc]
          obtain ⟨aoi, capi, rfl⟩ := own_shape hri
          generalize S ++ FL ++ (xs.take j).flatMap insLine = T at hll HE hri
          have HRI : Hid (Txt wr (w.heap.size + 1) (.slice aoi T.length capi) T) := hri
          have HIA : Hid (∀ v w', Txt w' (w.heap.size + 1) v T → w.heap.size + 1 ≤ w'.heap.size → Std (w.heap.size + 1) w' → Calls Tryd.prog 10 #[v, .agg #[.int .i64 op, .int .i64 dst, .int .i64 a, .int .i64 b9, .int .i64 imm]] w' fun e w2 => ∃ v', e = .returned v' ∧ Txt w2 (w.heap.size + 1) v' (T ++ insLine ⟨op, dst, a, b9, imm⟩) ∧ Grew (w.heap.size + 1) w' w2) := fun v w' h1 h2 h3 => appInstr_any _ op dst a b9 imm v T w' o0 o1 w1' w2' w3' w4' h1 h2 (by omega) h3
          generalize insLine ⟨op, dst, a, b9, imm⟩ = LN at HIA HE
          clear hbi hbwi hxx hri o0 o1 w1' w2' w3' w4'
          go_wp2_with (go_at_call 10; refine (HIA.out _ _ (HRI.out.alloc _) (by simp; omega) (HST.out.on (HBI.out.alloc hzi _))).mono ?_; rintro e w3 ⟨v3, rfl, hown3, hg3⟩; have HB3 : Hid (Below (w.heap.size + 1) (w.alloc (.cells #[.slice (some ⟨b, off, none⟩) n cap] 24)) w3) := (show Below _ _ _ from (HBI.out.alloc hzi _).trans hg3.below); have T3 : Hid (Txt w3 (w.heap.size + 1) v3 (T ++ LN)) := hown3; clear hown3 hg3)
          go_roundw
          case rel => exact ⟨j + 1, by omega, by go_num, txt_eq HE.out T3.out, HB3.out⟩
          case measure => simp [intOf]; omega
        · have hxj : xs.take j = xs := List.take_of_length_le (by rw [HL1.out]; omega)
          rw [hxj, ← HU.out] at hri
          have HRI : Hid (Txt wr (w.heap.size + 1) _ (showPart p (k + 1))) := hri
          clear hbi hbwi hxj hri
          go_wp2
          go_roundw
          case rel => exact ⟨k + 1, by omega, by go_num, HRI.out, HBI.out⟩
          case measure => simp [intOf]; omega
    · have hkn : k = n := by omega
      subst hkn
      rw [← HPB.out] at hr
      obtain ⟨g, cg, rfl, hcv⟩ := txt_conv hr HPOS.out
      clear hb hr
      go_wp2
      go_ret2
      exact ⟨rfl, hbw⟩

end Go.Proofs.YtedicikcmpehnaaDoor
