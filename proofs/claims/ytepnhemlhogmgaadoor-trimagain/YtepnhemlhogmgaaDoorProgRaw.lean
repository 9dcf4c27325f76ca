/- Contract of tierlinekeep.Program: a right program of raw numbers, in memory of its own. -/
import Derived.Test.YtepnhemlhogmgaaDoorFullMath
import Derived.Test.YtepnhemlhogmgaaDoorPCheck
import Derived.Deep.AppendLies
namespace Go.Proofs.YtepnhemlhogmgaaDoor
open Go Go.RowKit

def RowsApart (a b : Value) : Prop := a.ownBlock = none ∨ b.ownBlock = none ∨ a.ownBlock ≠ b.ownBlock
theorem built_pair {W w3 : World} {base tF tI tP Oa Ob g cap m : Nat} {va vb u u' : Value} {Pa Pb : List Fn} {ua ub : List Value} {f : Fn} {ys : List Value} {o : Obj} (ht : tI ≠ tF) (hab : RowsApart va vb) (hOO : Oa ≠ Ob) (hOa : Oa < base) (hOb : Ob < base)
    (hba : Built W base tF tI va Pa ua) (hbb : Built W base tF tI vb Pb ub) (ha : W.heap[Oa]? = some (.cells #[va] tP (0, 0))) (hb : W.heap[Ob]? = some (.cells #[vb] tP (0, 0)))
    (hu : W.ownsRow base tI 5 u f.code.length (codeCells f.code)) (hu' : W.ownsRow base tI 5 u' m ys) (hB : base ≤ W.heap.size)
    (hg : (W.alloc o).grownBy w3 va.ownBlock) (hown3 : w3.ownsRow base tF 3 (.slice (some ⟨g, 0, none⟩) (Pa.length + 1) cap) (Pa.length + 1) (fnsCells Pa ua ++ fnCells f u)) (hlie : va.ownBlock = some g ∨ g = (W.alloc o).heap.size) :
    w3.heap[Oa]? = some (.cells #[va] tP (0, 0)) ∧ (w3.setCell ⟨Oa, 0, none⟩ (.slice (some ⟨g, 0, none⟩) (Pa.length + 1) cap)).heap[Oa]? = some (.cells #[.slice (some ⟨g, 0, none⟩) (Pa.length + 1) cap] tP (0, 0)) ∧
      (w3.setCell ⟨Oa, 0, none⟩ (.slice (some ⟨g, 0, none⟩) (Pa.length + 1) cap)).heap[Ob]? = some (.cells #[vb] tP (0, 0)) ∧
      Built (w3.setCell ⟨Oa, 0, none⟩ (.slice (some ⟨g, 0, none⟩) (Pa.length + 1) cap)) base tF tI (.slice (some ⟨g, 0, none⟩) (Pa.length + 1) cap) (Pa ++ [f]) (ua ++ [u]) ∧
      Built (w3.setCell ⟨Oa, 0, none⟩ (.slice (some ⟨g, 0, none⟩) (Pa.length + 1) cap)) base tF tI vb Pb ub ∧ RowsApart (.slice (some ⟨g, 0, none⟩) (Pa.length + 1) cap) vb ∧
      (w3.setCell ⟨Oa, 0, none⟩ (.slice (some ⟨g, 0, none⟩) (Pa.length + 1) cap)).ownsRow base tI 5 u' m ys ∧
      ∀ B' W0, B' ≤ Oa → Below B' W0 W → Below B' W0 (w3.setCell ⟨Oa, 0, none⟩ (.slice (some ⟨g, 0, none⟩) (Pa.length + 1) cap)) := by
  have hrow : ∀ k, va.ownBlock = some k → base ≤ k := fun k hk => (hba.row.lt k hk).1
  have old : ∀ j, j < base → (W.alloc o).heap[j]? = W.heap[j]? := fun j hj => heap_alloc_old _ _ (by omega)
  have keep : ∀ j ob, j < base → W.heap[j]? = some ob → w3.heap[j]? = some ob := fun j ob hj h => (hg.block j (by simp; omega) (fun e => by have := hrow j e.symm; omega)).trans ((old j hj).trans h)
  have ha3 := keep _ _ hOa ha
  have hb3 := keep _ _ hOb hb
  have hbaA := hba.alloc o
  have hbbA := hbb.alloc o
  have huA : (W.alloc o).ownsRow base tI 5 u f.code.length (codeCells f.code) := hu.alloc o
  have huA' : (W.alloc o).ownsRow base tI 5 u' m ys := hu'.alloc o
  have hsym : vb.ownBlock = none ∨ vb.ownBlock ≠ va.ownBlock := by
    rcases hab with h | h | h
    · cases hv : vb.ownBlock with
      | none => exact Or.inl rfl
      | some k => right; rw [h]; simp
    · exact Or.inl h
    · exact Or.inr (Ne.symm h)
  have hbb3 : Built w3 base tF tI vb Pb ub := ⟨hbb.len, hbbA.row.kept hg hsym, fun i hi => (hbbA.codes i hi).kept hg (own_apart (hbbA.codes i hi) hbaA.row ht)⟩
  refine ⟨ha3, one_setCell ha3, ?_, (hbaA.snoc ht huA hown3 hg).setCell hOa _, hbb3.setCell hOa _, ?_, ownsRow_setCell_below (huA'.kept hg (own_apart huA' hbaA.row ht)) hOa _, fun B' W0 hB' h => ?_⟩
  · rw [Below.heap_setCell _ _ _ _ (by simpa using Ne.symm hOO)]; exact hb3
  · rcases hlie with h | h
    · rcases hsym with h2 | h2
      · exact Or.inr (Or.inl h2)
      · right; right
        simp only [Value.ownBlock]
        rw [← h]
        exact Ne.symm h2
    · right
      cases hv : vb.ownBlock with
      | none => exact Or.inl rfl
      | some k =>
        right
        have := (hbb.row.lt k hv).2
        simp only [Value.ownBlock]
        intro e
        have : g = k := by simpa using e
        simp at h
        omega
  · exact ((h.alloc (by omega) _).grown hg (by simp; omega) (fun k hk => by have := hrow k hk; omega)).setCell hB' _

theorem apart_symm {a b : Value} (h : RowsApart a b) : RowsApart b a := by
  rcases h with h | h | h
  · exact Or.inr (Or.inl h)
  · exact Or.inl h
  · exact Or.inr (Or.inr (Ne.symm h))
theorem own_len3 {w : World} {base t g cap k m : Nat} {P : List Fn} {xs : List Value} {F : Fn} {ao : Option Addr} {c : Nat} (hP : P.length = k) (hm : F.code.length = m) (h : w.ownsRow base t 3 (.slice (some ⟨g, 0, none⟩) (k + 1) cap) (k + 1) (xs ++ fnCells F (.slice ao m c))) :
    w.ownsRow base t 3 (.slice (some ⟨g, 0, none⟩) (P.length + 1) cap) (P.length + 1) (xs ++ fnCells F (.slice ao F.code.length c)) := by
  subst hP
  subst hm
  exact h
/-- A box that was made behind a row is as it was when the row has grown, and another box was set. -/
theorem y_kept {wr w2 w3 : World} {base tF tI : Nat} {va : Value} {P : List Fn} {us : List Value} {a b c : Value} {t : Nat} {o : Obj} (hbt : Built wr base tF tI va P us) (hz : wr.heap.size < w2.heap.size) (hg : ((w2.alloc (.cells #[a, b, c] t)).alloc o).grownBy w3 va.ownBlock) (O : Nat) (hO : O < w2.heap.size) (u : Value) :
    (w3.setCell ⟨O, 0, none⟩ u).cell? ⟨w2.heap.size, 0, none⟩ = some a ∧ (w3.setCell ⟨O, 0, none⟩ u).cell? ⟨w2.heap.size, 1, none⟩ = some b ∧ (w3.setCell ⟨O, 0, none⟩ u).cell? ⟨w2.heap.size, 2, none⟩ = some c := by
  have h1 : ((w2.alloc (.cells #[a, b, c] t)).alloc o).heap[w2.heap.size]? = some (.cells #[a, b, c] t) := (heap_alloc_old _ _ (by simp)).trans (heap_alloc_new w2 _)
  have h3 : w3.heap[w2.heap.size]? = some (.cells #[a, b, c] t) := (hg.block _ (by simp; omega) (fun e => by have := (hbt.row.lt _ e.symm).2; omega)).trans h1
  have h4 : (w3.setCell ⟨O, 0, none⟩ u).heap[w2.heap.size]? = some (.cells #[a, b, c] t) := by
    rw [Below.heap_setCell _ _ _ _ (by simp; omega)]; exact h3
  exact ⟨by simp [World.cell?, h4], by simp [World.cell?, h4], by simp [World.cell?, h4]⟩

set_option maxRecDepth 100000 in
set_option maxHeartbeats 2000000 in
theorem program_raw (l : List Fn) (v : Value) (w : World) (ht : TabOk w) (hc : CallOk w) (hv : ProgVal w v l) (hwf : ∀ f ∈ l, f.wf) :
    Calls Tryd.prog 19 #[v] w fun e w' => ∃ v' P us, e = .returned (.agg #[v']) ∧ ProgIs l P ∧ Built w' w.heap.size 44 70 v' P us ∧ Below w.heap.size w w' := by
  have HPV : Hid (∀ W, Below w.heap.size w W → TabOk W ∧ CallOk W) := fun W hb => ⟨ht.below hb, hc.below hb⟩
  clear ht hc
  obtain ⟨ao, b, off, n, cap, rfl, ⟨hlen, haddr, hat⟩, hcap, hmax⟩ := hv
  obtain ⟨iF, hiF, hzF0, hzF1, hzF2⟩ := info_parts infoF
  unfold maxLen at hmax
  obtain ⟨N, hN⟩ : ∃ N, N = shapedN l := ⟨_, rfl⟩
  have HN : Hid (N = shapedN l) := hN
  have hN1 : 1 ≤ N := by rw [hN]; unfold shapedN; omega
  have hN4 : N ≤ 4 := by rw [hN]; unfold shapedN; omega
  have HNn : Hid (N = min (max n 1) 4) := by show _ = _; rw [hN, shapedN, hlen]
  clear hN
  go_enter Tryd.func19, Tryd.ntmps19
  go_upto_region 1 with fail
  go_cut [3] (fun s3 wx => s3 = .int .i64 N ∧ wx = w.alloc (.cells #[.slice none 0 0] 24))
  case first =>
    rcases (show n = 0 ∨ (1 ≤ n ∧ n ≤ 4) ∨ 4 < n by omega) with h | h | h
    · subst h
      have HE : Hid (N = 1) := HNn.out.trans (by omega)
      go_wp2_with fail
      go_meet
      exact ⟨by rw [HE.out]; rfl, rfl⟩
    · have HE : Hid (N = n) := HNn.out.trans (by omega)
      go_wp2_with fail
      go_meet
      exact ⟨by rw [HE.out], rfl⟩
    · have HE : Hid (N = 4) := HNn.out.trans (by omega)
      go_wp2_with fail
      go_meet
      exact ⟨by rw [HE.out]; rfl, rfl⟩
  case rest =>
    obtain ⟨rfl, rfl⟩ := hcut
    go_wp2
    have HE0 : Hid ((((w.alloc (.cells #[.slice none 0 0] 24)).alloc (.cells #[.slice none 0 0] 24)).alloc (.cells #[.slice none 0 0] 24)).heap[w.heap.size + 1]? = some (.cells #[.slice none 0 0] 24) ∧ (((w.alloc (.cells #[.slice none 0 0] 24)).alloc (.cells #[.slice none 0 0] 24)).alloc (.cells #[.slice none 0 0] 24)).heap[w.heap.size + 1 + 1]? = some (.cells #[.slice none 0 0] 24) ∧ (((w.alloc (.cells #[.slice none 0 0] 24)).alloc (.cells #[.slice none 0 0] 24)).alloc (.cells #[.slice none 0 0] 24)).heap[w.heap.size]? = some (.cells #[.slice none 0 0] 24)) := by
      have h1 := heap_alloc_new (w.alloc (.cells #[.slice none 0 0] 24)) (.cells #[.slice none 0 0] 24)
      have h2 := heap_alloc_new ((w.alloc (.cells #[.slice none 0 0] 24)).alloc (.cells #[.slice none 0 0] 24)) (.cells #[.slice none 0 0] 24)
      simp only [World.size_alloc] at h1 h2
      exact ⟨(heap_alloc_old _ _ (by simp)).trans h1, h2, (heap_alloc_old _ _ (by simp; omega)).trans ((heap_alloc_old _ _ (by simp)).trans (heap_alloc_new w _))⟩
    go_loopw [6] (fun i wr => ∃ k : Nat, k ≤ N ∧ i = .int .i64 k ∧ Below (w.heap.size + 1) (((w.alloc (.cells #[.slice none 0 0] 24)).alloc (.cells #[.slice none 0 0] 24)).alloc (.cells #[.slice none 0 0] 24)) wr ∧
        ∃ vb ub vf uf, wr.heap[w.heap.size + 1]? = some (.cells #[vb] 24 (0, 0)) ∧ wr.heap[w.heap.size + 1 + 1]? = some (.cells #[vf] 24 (0, 0)) ∧ Built wr (w.heap.size + 3) 44 70 vb (shapedPart l N k) ub ∧ Built wr (w.heap.size + 3) 44 70 vf (fullPart l N k) uf ∧ RowsApart vb vf) (fun i _ => N - (intOf i).toNat)
    case atStart => exact ⟨0, Nat.zero_le _, rfl, Below.refl _ _, .slice none 0 0, [], .slice none 0 0, [], HE0.out.1, HE0.out.2.1, built_nil _ _ _ _, built_nil _ _ _ _, Or.inl rfl⟩
    case round =>
      obtain ⟨k, hk, rfl, hb, vb, ub, vf, uf, hob, hof, hbtb, hbtf, hap⟩ := hrel
      have hbw' : Below w.heap.size w wr := ((((Below.refl _ _).alloc (Nat.le_refl _) _).alloc (by simp) _).alloc (by simp; omega) _).trans (hb.mono (by omega))
      have cob := cell_of_one hob
      have cof := cell_of_one hof
      have hz : w.heap.size + 1 + 1 < wr.heap.size := lt_of_block hof
      have HB : Hid (Below (w.heap.size + 1) (((w.alloc (.cells #[.slice none 0 0] 24)).alloc (.cells #[.slice none 0 0] 24)).alloc (.cells #[.slice none 0 0] 24)) wr) := hb
      have HOB : Hid (wr.heap[w.heap.size + 1]? = some (.cells #[vb] 24 (0, 0))) := hob
      have HOF : Hid (wr.heap[w.heap.size + 1 + 1]? = some (.cells #[vf] 24 (0, 0))) := hof
      have HBTB : Hid (Built wr (w.heap.size + 3) 44 70 vb (shapedPart l N k) ub) := hbtb
      have HBTF : Hid (Built wr (w.heap.size + 3) 44 70 vf (fullPart l N k) uf) := hbtf
      have HAP : Hid (RowsApart vb vf) := hap
      by_cases hlt : k < N
      · by_cases hkn : k < n
        · have hkx : k < l.length := by rw [hlen]; exact hkn
          obtain rfl := haddr (by omega)
          obtain ⟨uu, hfn⟩ := hat k hkx
          obtain ⟨d0, d1, d2, hcv⟩ := hfn.keeps (keeps_below hbw')
          have hbw := hwf l[k] (List.getElem_mem hkx)
          have HBD : Hid (l[k] = bodyAt l k) := by show _ = _; simp [bodyAt, List.getD, hkx]
          generalize l[k] = bd at d0 d1 d2 hcv hbw HBD
          have hcv' := hcv
          obtain ⟨ao0, b0, off0, n0, cap0, rfl, _⟩ := hcv'
          have t0 := cell_alloc d0
          have t1 := cell_alloc d1
          have t2 := cell_alloc d2
          have BC0 := way_box wr #[.int .i64 bd.params, .int .i64 bd.regs, .slice ao0 n0 cap0] 74 0 (.int .i64 bd.params) rfl
          have BC1 := way_box wr #[.int .i64 bd.params, .int .i64 bd.regs, .slice ao0 n0 cap0] 74 1 (.int .i64 bd.regs) rfl
          have BC2 := way_box wr #[.int .i64 bd.params, .int .i64 bd.regs, .slice ao0 n0 cap0] 74 2 (.slice ao0 n0 cap0) rfl
          clear hat haddr hwf hfn hb hob hof hbtb hbtf HE0 hap
          go_upto_region 11 with (go_at_call 34; refine (function_mk bd _ N _ (hcv.keeps (keeps_below ((Below.refl _ _).alloc (Nat.le_refl _) _))) hbw (by omega) (by omega)).mono ?_; rintro e w1 ⟨u1, rfl, hown1, hb1⟩; obtain ⟨ao1, cap1, rfl⟩ := own_shape hown1; have hz1 : wr.heap.size + 1 ≤ w1.heap.size := (by have := hb1.size; simp at this; omega); have kb := keeps_below hb1 _ _ BC0; have kb1 := keeps_below hb1 _ _ BC1; have kb2 := keeps_below hb1 _ _ BC2; have HB1 : Hid (Below wr.heap.size wr w1) := ((Below.refl _ wr).alloc (Nat.le_refl _) _).trans (hb1.mono (by simp)))
          generalize hF1 : mkFn bd N = F1 at hown1 ⊢
          have HF1 : Hid (mkFn bd N = F1) := hF1
          generalize hm1 : F1.code.length = m1 at hown1 ⊢
          have HM1 : Hid (F1.code.length = m1) := hm1
          have hFA := fun W cv (hW : CodeVal W cv bd.code) => function_all bd cv N W hW hbw (by omega) (by omega)
          generalize hF2 : mkAll bd N = F2 at hFA
          have HF2 : Hid (mkAll bd N = F2) := hF2
          generalize hm2 : F2.code.length = m2 at hFA
          have HM2 : Hid (F2.code.length = m2) := hm2
          have hX : Below w1.heap.size w1 (w1.alloc (.cells #[.int .i64 F1.params, .int .i64 F1.regs, .slice ao1 m1 cap1] 44)) := (Below.refl _ _).alloc (Nat.le_refl _) _
          have HCV2 : Hid (CodeVal (w1.alloc (.cells #[.int .i64 F1.params, .int .i64 F1.regs, .slice ao1 m1 cap1] 44)) _ bd.code) := (((hcv.keeps (keeps_below HB1.out)))).keeps (keeps_below hX)
          have HBX : Hid (Below wr.heap.size wr (w1.alloc (.cells #[.int .i64 F1.params, .int .i64 F1.regs, .slice ao1 m1 cap1] 44))) := HB1.out.alloc (by omega) _
          have HU1 : Hid ((w1.alloc (.cells #[.int .i64 F1.params, .int .i64 F1.regs, .slice ao1 m1 cap1] 44)).ownsRow (w.heap.size + 3) 70 5 (.slice ao1 m1 cap1) m1 (codeCells F1.code)) := (own_base hown1 (by simp; omega)).alloc _
          have lb := cell_alloc kb
          have lb1 := cell_alloc kb1
          have lb2 := cell_alloc kb2
          have HMA1 := F1.code.length
          clear hF1 hm1 hF2 hm2 hown1 hb1 BC0 BC1 BC2 HMA1
          go_wp2_with (first
            | (go_at_call 34; refine (hFA _ _ HCV2.out).mono ?_; rintro e w2 ⟨u2, rfl, hown2, hb2⟩; obtain ⟨ao2, cap2, rfl⟩ := own_shape hown2; have HB2 : Hid (Below wr.heap.size wr w2) := HBX.out.trans (hb2.mono (by simp; omega)); have hz2 : w1.heap.size < w2.heap.size := (by have := hb2.size; simp at this; omega); have hzw : wr.heap.size < w2.heap.size := (by omega); have x0 := keeps_below hb2 _ _ (way_box w1 _ _ 0 (.int .i64 F1.params) rfl); have x1 := keeps_below hb2 _ _ (way_box w1 _ _ 1 (.int .i64 F1.regs) rfl); have x2 := keeps_below hb2 _ _ (way_box w1 _ _ 2 (.slice ao1 m1 cap1) rfl); have xx0 := cell_alloc x0; have xx1 := cell_alloc x1; have xx2 := cell_alloc x2; have cb2 := cell_alloc (keeps_below HB2.out _ _ cob); have HU1b : Hid ((w2.alloc (.cells #[.int .i64 F2.params, .int .i64 F2.regs, .slice ao2 m2 cap2] 44)).ownsRow (w.heap.size + 3) 70 5 (.slice ao1 F1.code.length cap1) F1.code.length (codeCells F1.code)) := (by have h := (ownsRow_below HU1.out hb2).alloc (.cells #[.int .i64 F2.params, .int .i64 F2.regs, .slice ao2 m2 cap2] 44); rw [← HM1.out] at h; exact h); have HU2b : Hid ((w2.alloc (.cells #[.int .i64 F2.params, .int .i64 F2.regs, .slice ao2 m2 cap2] 44)).ownsRow (w.heap.size + 3) 70 5 (.slice ao2 m2 cap2) m2 (codeCells F2.code)) := (own_base hown2 (by simp; omega)).alloc _; have HWB : Hid (Built (w2.alloc (.cells #[.int .i64 F2.params, .int .i64 F2.regs, .slice ao2 m2 cap2] 44)) (w.heap.size + 3) 44 70 vb (shapedPart l N k) ub) := (HBTB.out.below HB2.out).alloc _; have HWF : Hid (Built (w2.alloc (.cells #[.int .i64 F2.params, .int .i64 F2.regs, .slice ao2 m2 cap2] 44)) (w.heap.size + 3) 44 70 vf (fullPart l N k) uf) := (HBTF.out.below HB2.out).alloc _; have HOB2 : Hid ((w2.alloc (.cells #[.int .i64 F2.params, .int .i64 F2.regs, .slice ao2 m2 cap2] 44)).heap[w.heap.size + 1]? = some (.cells #[vb] 24 (0, 0))) := (heap_alloc_old _ _ (by omega)).trans ((HB2.out.block _ (by omega)).trans HOB.out); have HOF2 : Hid ((w2.alloc (.cells #[.int .i64 F2.params, .int .i64 F2.regs, .slice ao2 m2 cap2] 44)).heap[w.heap.size + 1 + 1]? = some (.cells #[vf] 24 (0, 0))) := (heap_alloc_old _ _ (by omega)).trans ((HB2.out.block _ (by omega)).trans HOF.out); clear hown2 hb2 hFA)
            | (at_builtin; refine wpList_append_lies _ rfl (.tmp 35) (.tmp 37) 22 rfl (w.heap.size + 3) 44 iF _ 3 40 Tryd.underlying22 hiF hzF0 hzF1 hzF2 rfl (by decide) vb k (fnsCells (shapedPart l N k) ub) rfl (by have h := (HWB.out.alloc (.cells #[.int .i64 F1.params, .int .i64 F1.regs, .slice ao1 m1 cap1] 44)).row; rw [shapedPart_length] at h; exact h) ⟨_, 0, none⟩ 1 1 (fnCells F1 (.slice ao1 m1 cap1)) rfl rfl (news_list _ _ _ _ (by simp)) (fnCells_one _ _ _ _) (by decide) (by unfold maxLen; omega) (by omega) (by simp; omega) _ rfl ?_; intro g3 cap3 w3 hown3 hg3 hlie3 hlt3; have hown3' := own_len3 (shapedPart_length l N k) HM1.out hown3; have Q := built_pair (f := F1) (m := m2) (by decide) HAP.out (by omega) (by omega) (by omega) HWB.out HWF.out HOB2.out HOF2.out HU1b.out HU2b.out (by simp; omega) hg3 hown3' hlie3; rw [shapedPart_length] at Q; have co3 := cell_of_one Q.1; have cf3 := free_of_one Q.1; have cq := cell_of_one Q.2.2.1; have HYY := y_kept HBTB.out hzw hg3 (w.heap.size + 1) (by omega) (.slice (some ⟨g3, 0, none⟩) (k + 1) cap3); have yc0 := HYY.1; have yc1 := HYY.2.1; have yc2 := HYY.2.2; have HQ1 : Hid ((w3.setCell ⟨w.heap.size + 1, 0, none⟩ (.slice (some ⟨g3, 0, none⟩) (k + 1) cap3)).heap[w.heap.size + 1]? = some (.cells #[.slice (some ⟨g3, 0, none⟩) (k + 1) cap3] 24 (0, 0))) := Q.2.1; have HQ2 : Hid ((w3.setCell ⟨w.heap.size + 1, 0, none⟩ (.slice (some ⟨g3, 0, none⟩) (k + 1) cap3)).heap[w.heap.size + 1 + 1]? = some (.cells #[vf] 24 (0, 0))) := Q.2.2.1; have HQ3 : Hid (Built (w3.setCell ⟨w.heap.size + 1, 0, none⟩ (.slice (some ⟨g3, 0, none⟩) (k + 1) cap3)) (w.heap.size + 3) 44 70 (.slice (some ⟨g3, 0, none⟩) (k + 1) cap3) (shapedPart l N k ++ [F1]) (ub ++ [.slice ao1 F1.code.length cap1])) := Q.2.2.2.1; have HQ4 : Hid (Built (w3.setCell ⟨w.heap.size + 1, 0, none⟩ (.slice (some ⟨g3, 0, none⟩) (k + 1) cap3)) (w.heap.size + 3) 44 70 vf (fullPart l N k) uf) := Q.2.2.2.2.1; have HQ5 : Hid (RowsApart vf (.slice (some ⟨g3, 0, none⟩) (k + 1) cap3)) := apart_symm Q.2.2.2.2.2.1; have HQ6 : Hid ((w3.setCell ⟨w.heap.size + 1, 0, none⟩ (.slice (some ⟨g3, 0, none⟩) (k + 1) cap3)).ownsRow (w.heap.size + 3) 70 5 (.slice ao2 m2 cap2) m2 (codeCells F2.code)) := Q.2.2.2.2.2.2.1; have HQ7 : Hid (Below (w.heap.size + 1) (((w.alloc (.cells #[.slice none 0 0] 24)).alloc (.cells #[.slice none 0 0] 24)).alloc (.cells #[.slice none 0 0] 24)) (w3.setCell ⟨w.heap.size + 1, 0, none⟩ (.slice (some ⟨g3, 0, none⟩) (k + 1) cap3))) := Q.2.2.2.2.2.2.2 _ _ (by omega) ((HB.out.trans (HB2.out.mono (by omega))).alloc (by omega) _); have hz3 : w2.heap.size < w3.heap.size := (by have := hg3.size; simp at this; omega); clear Q HYY hown3 hown3' hg3 hlie3)
            | (at_builtin; refine wpList_append_lies _ rfl (.tmp 41) (.tmp 43) 22 rfl (w.heap.size + 3) 44 iF _ 3 40 Tryd.underlying22 hiF hzF0 hzF1 hzF2 rfl (by decide) vf k (fnsCells (fullPart l N k) uf) rfl (by have h := (HQ4.out.alloc (.cells #[.int .i64 F2.params, .int .i64 F2.regs, .slice ao2 m2 cap2] 44)).row; rw [fullPart_length] at h; exact h) ⟨_, 0, none⟩ 1 1 (fnCells F2 (.slice ao2 m2 cap2)) rfl rfl (news_list _ _ _ _ (by simp)) (fnCells_one _ _ _ _) (by decide) (by unfold maxLen; omega) (by omega) (by simp; omega) _ rfl ?_; intro g4 cap4 w4 hown4 hg4 hlie4 hlt4; have hown4' := own_len3 (fullPart_length l N k) HM2.out hown4; have HQ6' := HQ6.out; rw [← HM2.out] at HQ6'; have Q4 := built_pair (f := F2) (by decide) HQ5.out (by omega) (by omega) (by omega) HQ4.out HQ3.out HQ2.out HQ1.out HQ6' HQ6' (by simp; omega) hg4 hown4' hlie4; rw [fullPart_length] at Q4; have co4 := cell_of_one Q4.1; have cf4 := free_of_one Q4.1))
          have HR := Q4.2
          have HR1 : Hid (Below (w.heap.size + 1) (((w.alloc (.cells #[.slice none 0 0] 24)).alloc (.cells #[.slice none 0 0] 24)).alloc (.cells #[.slice none 0 0] 24)) (w4.setCell ⟨w.heap.size + 1 + 1, 0, none⟩ (.slice (some ⟨g4, 0, none⟩) (k + 1) cap4))) := HR.2.2.2.2.2.2 _ _ (by omega) HQ7.out
          go_roundw
          case rel => exact ⟨k + 1, by omega, by go_num, HR1.out, _, _, _, _, HR.2.1, HR.1, by rw [shapedPart_succ, ← HBD.out, HF1.out]; exact HR.2.2.2.1, by rw [fullPart_succ, ← HBD.out, HF2.out]; exact HR.2.2.1, apart_symm HR.2.2.2.2.1⟩
          case measure => simp [intOf]; omega
        · have hcv : CodeVal wr (.slice none 0 0) [] := ⟨none, 0, 0, 0, 0, rfl, ⟨rfl, fun h => by omega, fun k h => by simp at h⟩, ⟨Nat.le_refl _, fun _ => rfl⟩, by simp [maxLen]⟩
          have hbw : (⟨0, 0, []⟩ : Fn).wf := ⟨by simp [I64], by simp [I64], by simp⟩
          have HBD : Hid ((⟨0, 0, []⟩ : Fn) = bodyAt l k) := by show _ = _; simp [bodyAt, List.getD, List.getElem?_eq_none (show l.length ≤ k by omega)]
          have BC0 := way_box wr #[.int .i64 0, .int .i64 0, .slice none 0 0] 74 0 (.int .i64 0) rfl
          have BC1 := way_box wr #[.int .i64 0, .int .i64 0, .slice none 0 0] 74 1 (.int .i64 0) rfl
          have BC2 := way_box wr #[.int .i64 0, .int .i64 0, .slice none 0 0] 74 2 (.slice none 0 0) rfl
          clear hat haddr hwf hb hob hof hbtb hbtf HE0 hap
          go_upto_region 11 with (go_at_call 34; refine (function_mk ⟨0, 0, []⟩ _ N _ (hcv.keeps (keeps_below ((Below.refl _ _).alloc (Nat.le_refl _) _))) hbw (by omega) (by omega)).mono ?_; rintro e w1 ⟨u1, rfl, hown1, hb1⟩; obtain ⟨ao1, cap1, rfl⟩ := own_shape hown1; have hz1 : wr.heap.size + 1 ≤ w1.heap.size := (by have := hb1.size; simp at this; omega); have kb := keeps_below hb1 _ _ BC0; have kb1 := keeps_below hb1 _ _ BC1; have kb2 := keeps_below hb1 _ _ BC2; have HB1 : Hid (Below wr.heap.size wr w1) := ((Below.refl _ wr).alloc (Nat.le_refl _) _).trans (hb1.mono (by simp)))
          generalize hF1 : mkFn ⟨0, 0, []⟩ N = F1 at hown1 ⊢
          have HF1 : Hid (mkFn ⟨0, 0, []⟩ N = F1) := hF1
          generalize hm1 : F1.code.length = m1 at hown1 ⊢
          have HM1 : Hid (F1.code.length = m1) := hm1
          have hFA := fun W cv (hW : CodeVal W cv ([] : List Ins)) => function_all ⟨0, 0, []⟩ cv N W hW hbw (by omega) (by omega)
          generalize hF2 : mkAll ⟨0, 0, []⟩ N = F2 at hFA
          have HF2 : Hid (mkAll ⟨0, 0, []⟩ N = F2) := hF2
          generalize hm2 : F2.code.length = m2 at hFA
          have HM2 : Hid (F2.code.length = m2) := hm2
          have hX : Below w1.heap.size w1 (w1.alloc (.cells #[.int .i64 F1.params, .int .i64 F1.regs, .slice ao1 m1 cap1] 44)) := (Below.refl _ _).alloc (Nat.le_refl _) _
          have HCV2 : Hid (CodeVal (w1.alloc (.cells #[.int .i64 F1.params, .int .i64 F1.regs, .slice ao1 m1 cap1] 44)) _ ([] : List Ins)) := (((hcv.keeps (keeps_below HB1.out)))).keeps (keeps_below hX)
          have HBX : Hid (Below wr.heap.size wr (w1.alloc (.cells #[.int .i64 F1.params, .int .i64 F1.regs, .slice ao1 m1 cap1] 44))) := HB1.out.alloc (by omega) _
          have HU1 : Hid ((w1.alloc (.cells #[.int .i64 F1.params, .int .i64 F1.regs, .slice ao1 m1 cap1] 44)).ownsRow (w.heap.size + 3) 70 5 (.slice ao1 m1 cap1) m1 (codeCells F1.code)) := (own_base hown1 (by simp; omega)).alloc _
          have lb := cell_alloc kb
          have lb1 := cell_alloc kb1
          have lb2 := cell_alloc kb2
          have HMA1 := F1.code.length
          clear hF1 hm1 hF2 hm2 hown1 hb1 BC0 BC1 BC2 HMA1
          go_wp2_with (first
            | (go_at_call 34; refine (hFA _ _ HCV2.out).mono ?_; rintro e w2 ⟨u2, rfl, hown2, hb2⟩; obtain ⟨ao2, cap2, rfl⟩ := own_shape hown2; have HB2 : Hid (Below wr.heap.size wr w2) := HBX.out.trans (hb2.mono (by simp; omega)); have hz2 : w1.heap.size < w2.heap.size := (by have := hb2.size; simp at this; omega); have hzw : wr.heap.size < w2.heap.size := (by omega); have x0 := keeps_below hb2 _ _ (way_box w1 _ _ 0 (.int .i64 F1.params) rfl); have x1 := keeps_below hb2 _ _ (way_box w1 _ _ 1 (.int .i64 F1.regs) rfl); have x2 := keeps_below hb2 _ _ (way_box w1 _ _ 2 (.slice ao1 m1 cap1) rfl); have xx0 := cell_alloc x0; have xx1 := cell_alloc x1; have xx2 := cell_alloc x2; have cb2 := cell_alloc (keeps_below HB2.out _ _ cob); have HU1b : Hid ((w2.alloc (.cells #[.int .i64 F2.params, .int .i64 F2.regs, .slice ao2 m2 cap2] 44)).ownsRow (w.heap.size + 3) 70 5 (.slice ao1 F1.code.length cap1) F1.code.length (codeCells F1.code)) := (by have h := (ownsRow_below HU1.out hb2).alloc (.cells #[.int .i64 F2.params, .int .i64 F2.regs, .slice ao2 m2 cap2] 44); rw [← HM1.out] at h; exact h); have HU2b : Hid ((w2.alloc (.cells #[.int .i64 F2.params, .int .i64 F2.regs, .slice ao2 m2 cap2] 44)).ownsRow (w.heap.size + 3) 70 5 (.slice ao2 m2 cap2) m2 (codeCells F2.code)) := (own_base hown2 (by simp; omega)).alloc _; have HWB : Hid (Built (w2.alloc (.cells #[.int .i64 F2.params, .int .i64 F2.regs, .slice ao2 m2 cap2] 44)) (w.heap.size + 3) 44 70 vb (shapedPart l N k) ub) := (HBTB.out.below HB2.out).alloc _; have HWF : Hid (Built (w2.alloc (.cells #[.int .i64 F2.params, .int .i64 F2.regs, .slice ao2 m2 cap2] 44)) (w.heap.size + 3) 44 70 vf (fullPart l N k) uf) := (HBTF.out.below HB2.out).alloc _; have HOB2 : Hid ((w2.alloc (.cells #[.int .i64 F2.params, .int .i64 F2.regs, .slice ao2 m2 cap2] 44)).heap[w.heap.size + 1]? = some (.cells #[vb] 24 (0, 0))) := (heap_alloc_old _ _ (by omega)).trans ((HB2.out.block _ (by omega)).trans HOB.out); have HOF2 : Hid ((w2.alloc (.cells #[.int .i64 F2.params, .int .i64 F2.regs, .slice ao2 m2 cap2] 44)).heap[w.heap.size + 1 + 1]? = some (.cells #[vf] 24 (0, 0))) := (heap_alloc_old _ _ (by omega)).trans ((HB2.out.block _ (by omega)).trans HOF.out); clear hown2 hb2 hFA)
            | (at_builtin; refine wpList_append_lies _ rfl (.tmp 35) (.tmp 37) 22 rfl (w.heap.size + 3) 44 iF _ 3 40 Tryd.underlying22 hiF hzF0 hzF1 hzF2 rfl (by decide) vb k (fnsCells (shapedPart l N k) ub) rfl (by have h := (HWB.out.alloc (.cells #[.int .i64 F1.params, .int .i64 F1.regs, .slice ao1 m1 cap1] 44)).row; rw [shapedPart_length] at h; exact h) ⟨_, 0, none⟩ 1 1 (fnCells F1 (.slice ao1 m1 cap1)) rfl rfl (news_list _ _ _ _ (by simp)) (fnCells_one _ _ _ _) (by decide) (by unfold maxLen; omega) (by omega) (by simp; omega) _ rfl ?_; intro g3 cap3 w3 hown3 hg3 hlie3 hlt3; have hown3' := own_len3 (shapedPart_length l N k) HM1.out hown3; have Q := built_pair (f := F1) (m := m2) (by decide) HAP.out (by omega) (by omega) (by omega) HWB.out HWF.out HOB2.out HOF2.out HU1b.out HU2b.out (by simp; omega) hg3 hown3' hlie3; rw [shapedPart_length] at Q; have co3 := cell_of_one Q.1; have cf3 := free_of_one Q.1; have cq := cell_of_one Q.2.2.1; have HYY := y_kept HBTB.out hzw hg3 (w.heap.size + 1) (by omega) (.slice (some ⟨g3, 0, none⟩) (k + 1) cap3); have yc0 := HYY.1; have yc1 := HYY.2.1; have yc2 := HYY.2.2; have HQ1 : Hid ((w3.setCell ⟨w.heap.size + 1, 0, none⟩ (.slice (some ⟨g3, 0, none⟩) (k + 1) cap3)).heap[w.heap.size + 1]? = some (.cells #[.slice (some ⟨g3, 0, none⟩) (k + 1) cap3] 24 (0, 0))) := Q.2.1; have HQ2 : Hid ((w3.setCell ⟨w.heap.size + 1, 0, none⟩ (.slice (some ⟨g3, 0, none⟩) (k + 1) cap3)).heap[w.heap.size + 1 + 1]? = some (.cells #[vf] 24 (0, 0))) := Q.2.2.1; have HQ3 : Hid (Built (w3.setCell ⟨w.heap.size + 1, 0, none⟩ (.slice (some ⟨g3, 0, none⟩) (k + 1) cap3)) (w.heap.size + 3) 44 70 (.slice (some ⟨g3, 0, none⟩) (k + 1) cap3) (shapedPart l N k ++ [F1]) (ub ++ [.slice ao1 F1.code.length cap1])) := Q.2.2.2.1; have HQ4 : Hid (Built (w3.setCell ⟨w.heap.size + 1, 0, none⟩ (.slice (some ⟨g3, 0, none⟩) (k + 1) cap3)) (w.heap.size + 3) 44 70 vf (fullPart l N k) uf) := Q.2.2.2.2.1; have HQ5 : Hid (RowsApart vf (.slice (some ⟨g3, 0, none⟩) (k + 1) cap3)) := apart_symm Q.2.2.2.2.2.1; have HQ6 : Hid ((w3.setCell ⟨w.heap.size + 1, 0, none⟩ (.slice (some ⟨g3, 0, none⟩) (k + 1) cap3)).ownsRow (w.heap.size + 3) 70 5 (.slice ao2 m2 cap2) m2 (codeCells F2.code)) := Q.2.2.2.2.2.2.1; have HQ7 : Hid (Below (w.heap.size + 1) (((w.alloc (.cells #[.slice none 0 0] 24)).alloc (.cells #[.slice none 0 0] 24)).alloc (.cells #[.slice none 0 0] 24)) (w3.setCell ⟨w.heap.size + 1, 0, none⟩ (.slice (some ⟨g3, 0, none⟩) (k + 1) cap3))) := Q.2.2.2.2.2.2.2 _ _ (by omega) ((HB.out.trans (HB2.out.mono (by omega))).alloc (by omega) _); have hz3 : w2.heap.size < w3.heap.size := (by have := hg3.size; simp at this; omega); clear Q HYY hown3 hown3' hg3 hlie3)
            | (at_builtin; refine wpList_append_lies _ rfl (.tmp 41) (.tmp 43) 22 rfl (w.heap.size + 3) 44 iF _ 3 40 Tryd.underlying22 hiF hzF0 hzF1 hzF2 rfl (by decide) vf k (fnsCells (fullPart l N k) uf) rfl (by have h := (HQ4.out.alloc (.cells #[.int .i64 F2.params, .int .i64 F2.regs, .slice ao2 m2 cap2] 44)).row; rw [fullPart_length] at h; exact h) ⟨_, 0, none⟩ 1 1 (fnCells F2 (.slice ao2 m2 cap2)) rfl rfl (news_list _ _ _ _ (by simp)) (fnCells_one _ _ _ _) (by decide) (by unfold maxLen; omega) (by omega) (by simp; omega) _ rfl ?_; intro g4 cap4 w4 hown4 hg4 hlie4 hlt4; have hown4' := own_len3 (fullPart_length l N k) HM2.out hown4; have HQ6' := HQ6.out; rw [← HM2.out] at HQ6'; have Q4 := built_pair (f := F2) (by decide) HQ5.out (by omega) (by omega) (by omega) HQ4.out HQ3.out HQ2.out HQ1.out HQ6' HQ6' (by simp; omega) hg4 hown4' hlie4; rw [fullPart_length] at Q4; have co4 := cell_of_one Q4.1; have cf4 := free_of_one Q4.1))
          have HR := Q4.2
          have HR1 : Hid (Below (w.heap.size + 1) (((w.alloc (.cells #[.slice none 0 0] 24)).alloc (.cells #[.slice none 0 0] 24)).alloc (.cells #[.slice none 0 0] 24)) (w4.setCell ⟨w.heap.size + 1 + 1, 0, none⟩ (.slice (some ⟨g4, 0, none⟩) (k + 1) cap4))) := HR.2.2.2.2.2.2 _ _ (by omega) HQ7.out
          go_roundw
          case rel => exact ⟨k + 1, by omega, by go_num, HR1.out, _, _, _, _, HR.2.1, HR.1, by rw [shapedPart_succ, ← HBD.out, HF1.out]; exact HR.2.2.2.1, by rw [fullPart_succ, ← HBD.out, HF2.out]; exact HR.2.2.1, apart_symm HR.2.2.2.2.1⟩
          case measure => simp [intOf]; omega
      · have hkN : k = N := by omega
        subst hkN
        have HSP : Hid (shapedP l = shapedPart l k k) := by show _ = _; rw [shapedP, ← HN.out]
        have HFP : Hid (fullP l = fullPart l k k) := by show _ = _; rw [fullP, ← HN.out]
        have hpv := hbtb.prog
        have hpc := HPV.out wr hbw'
        have hck := pcheck_any (shapedPart l k k) vb wr hpc.1 hpc.2 hpv
        rw [← HSP.out] at hck
        obtain ⟨ao3, cap3, rfl⟩ := own_shape hbtb.row
        obtain ⟨ao4, cap4, rfl⟩ := own_shape hbtf.row
        rw [shapedPart_length] at *
        rw [fullPart_length] at *
        have g1 : wr.heap[w.heap.size]? = some (.cells #[.slice none 0 0] 24 (0, 0)) := (hb.block _ (by omega)).trans HE0.out.2.2
        clear hat haddr hwf hpv hpc
        have HBTB2 : Hid (Built wr (w.heap.size + 3) 44 70 (.slice ao3 k cap3) (shapedPart l k k) ub) := hbtb
        have HBTF2 : Hid (Built wr (w.heap.size + 3) 44 70 (.slice ao4 k cap4) (fullPart l k k) uf) := hbtf
        clear hbtb hbtf hap hb hob hof
        go_wp2_with (go_at_call 21; refine hck.mono ?_; rintro e w5 ⟨E, rfl, hE, hb5⟩; have g5 := (hb5.block _ (by omega)).trans g1; have c5 := cell_of_one g5; have f5 := free_of_one g5; have cb5 := keeps_below hb5 _ _ cob; have cf5 := keeps_below hb5 _ _ cof; have HE : Hid (ProofAns (shapedP l) E) := hE; clear hE)
        · have hE0 : E = 0 := by simpa using (show (E == 0) = true by assumption)
          subst hE0
          exact bodyPost_ret (v := .agg #[.slice ao3 k cap3]) (by simp [results, Tryd.results19, go_sem, c5]) rfl ⟨_, shapedP l, ub, rfl, Or.inl ⟨HE.out, rfl⟩, by rw [HSP.out]; exact built_base ((HBTB2.out.below hb5).setCell (by simp) _) (by omega), (below_call hbw' (by omega) hb5).setCell (by simp) _⟩
        · have hE0 : E ≠ 0 := by
            have h : (E == 0) = false := by assumption
            simpa using h
          exact bodyPost_ret (v := .agg #[.slice ao4 k cap4]) (by simp [results, Tryd.results19, go_sem, c5]) rfl ⟨_, fullP l, uf, rfl, Or.inr ⟨fun h => hE0 (proofAns_unique HE.out h), rfl⟩, by rw [HFP.out]; exact built_base ((HBTF2.out.below hb5).setCell (by simp) _) (by omega), (below_call hbw' (by omega) hb5).setCell (by simp) _⟩

end Go.Proofs.YtepnhemlhogmgaaDoor
