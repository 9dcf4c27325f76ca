/- Contract of tierlinekeep.shaped: a program of raw numbers, in memory of its own. -/
import Derived.Test.YthnajfekhnocaaaDoorFunc
namespace Go.Proofs.YthnajfekhnocaaaDoor
open Go Go.RowKit

/-- One function more, laid beside the others; the variable that leads to them was set. -/
theorem built_more {wx w3 : World} {base tF tI tP O : Nat} {vo u v3 : Value} {P : List Fn} {us : List Value} {f : Fn} (ht : tI ≠ tF) (hO : O < base)
    (hbt : Built wx base tF tI vo P us) (ho : wx.heap[O]? = some (.cells #[vo] tP (0, 0))) (hu : wx.ownsRow base tI 5 u f.code.length (codeCells f.code)) (hB : base ≤ wx.heap.size)
    (hg : wx.grownBy w3 vo.ownBlock) (hown3 : w3.ownsRow base tF 3 v3 (P.length + 1) (fnsCells P us ++ fnCells f u)) :
    w3.heap[O]? = some (.cells #[vo] tP (0, 0)) ∧ Built (w3.setCell ⟨O, 0, none⟩ v3) base tF tI v3 (P ++ [f]) (us ++ [u]) ∧ (w3.setCell ⟨O, 0, none⟩ v3).heap[O]? = some (.cells #[v3] tP (0, 0)) ∧
      ∀ B' W0, B' ≤ O → Below B' W0 wx → Below B' W0 (w3.setCell ⟨O, 0, none⟩ v3) := by
  have hrow : ∀ k, vo.ownBlock = some k → base ≤ k := fun k hk => (hbt.row.lt k hk).1
  have ho3 : w3.heap[O]? = some (.cells #[vo] tP (0, 0)) := (hg.block O (lt_of_block ho) (fun e => by have := hrow O e.symm; omega)).trans ho
  refine ⟨ho3, (hbt.snoc ht hu hown3 hg).setCell hO _, one_setCell ho3, fun B' W0 hB' h => ?_⟩
  exact (h.grown hg (by omega) (fun k hk => by have := hrow k hk; omega)).setCell hB' _

theorem built_base {w : World} {base base' tF tI : Nat} {v : Value} {p : List Fn} {us : List Value} (h : Built w base tF tI v p us) (hb : base' ≤ base) : Built w base' tF tI v p us :=
  ⟨h.len, own_base h.row hb, fun i hi => own_base (h.codes i hi) hb⟩

/-- The codes of a built program lie in blocks of their own. -/
def CodesApart (us : List Value) : Prop := ∀ (i j : Nat) (u v : Value), us[i]? = some u → us[j]? = some v → i ≠ j → u.ownBlock = none ∨ u.ownBlock ≠ v.ownBlock
theorem codesApart_nil : CodesApart [] := fun i j u v hu _ _ => by simp at hu
theorem codesApart_snoc {us : List Value} {u : Value} (h : CodesApart us) (hu : ∀ v ∈ us, ∀ k, v.ownBlock = some k → u.ownBlock ≠ some k) : CodesApart (us ++ [u]) := by
  intro i j x y hx hy hij
  have get : ∀ (m : Nat) (z : Value), (us ++ [u])[m]? = some z → (m < us.length ∧ us[m]? = some z) ∨ (m = us.length ∧ z = u) := fun m z hz => by
    rcases Nat.lt_or_ge m us.length with h1 | h1
    · rw [List.getElem?_append_left h1] at hz; exact Or.inl ⟨h1, hz⟩
    · rw [List.getElem?_append_right h1] at hz
      rcases Nat.eq_zero_or_pos (m - us.length) with h2 | h2
      · rw [h2] at hz; simp at hz; exact Or.inr ⟨by omega, hz.symm⟩
      · rw [List.getElem?_eq_none (by simp; omega)] at hz; simp at hz
  rcases get i x hx with ⟨_, hx'⟩ | ⟨hi, hxu⟩ <;> rcases get j y hy with ⟨_, hy'⟩ | ⟨hj, hyu⟩
  · exact h i j x y hx' hy' hij
  · cases hb : x.ownBlock with
    | none => exact Or.inl rfl
    | some k => right; intro e; rw [hyu] at e; exact hu x (List.mem_of_getElem? hx') k hb e.symm
  · cases hb : x.ownBlock with
    | none => exact Or.inl rfl
    | some k => right; intro e; rw [hxu] at hb; exact hu y (List.mem_of_getElem? hy') k e.symm hb
  · omega
/-- A code that lies in new memory is none of the others'. -/
theorem codesApart_new {w w1 : World} {base base1 tF tI m : Nat} {vo u : Value} {P : List Fn} {us : List Value} {xs : List Value} (hbt : Built w base tF tI vo P us) (ha : CodesApart us) (hu : w1.ownsRow base1 tI 5 u m xs) (hb : w.heap.size ≤ base1) : CodesApart (us ++ [u]) :=
  codesApart_snoc ha fun v hv k hk e => by
    obtain ⟨i, hi⟩ := List.getElem?_of_mem hv
    have hil : i < us.length := (List.getElem?_eq_some_iff.1 hi).1
    have hip : i < P.length := by rw [← hbt.len]; exact hil
    have h1 := hbt.codes i hip
    have e1 : us[i] = v := by rw [List.getElem?_eq_getElem hil] at hi; exact Option.some.inj hi
    rw [e1] at h1
    have h2 := (h1.lt k hk).2
    have h3 := (hu.lt k e).1
    omega

/-- The body at a place; none: an empty one. -/
def bodyAt (l : List Fn) (i : Nat) : Fn := l.getD i ⟨0, 0, []⟩
def shapedN (l : List Fn) : Nat := min (max l.length 1) 4
def shapedPart (l : List Fn) (N k : Nat) : List Fn := (List.range k).map fun i => mkFn (bodyAt l i) N
theorem shapedPart_length (l : List Fn) (N k : Nat) : (shapedPart l N k).length = k := by simp [shapedPart]
theorem shapedPart_succ (l : List Fn) (N k : Nat) : shapedPart l N (k + 1) = shapedPart l N k ++ [mkFn (bodyAt l k) N] := by simp [shapedPart, List.range_succ]
def shapedP (l : List Fn) : List Fn := shapedPart l (shapedN l) (shapedN l)

set_option maxHeartbeats 1000000 in
theorem shaped_apart (l : List Fn) (v : Value) (w : World) (hv : ProgVal w v l) (hwf : ∀ f ∈ l, f.wf) :
    Calls Tryd.prog 18 #[v] w fun e w' => ∃ v' us, e = .returned (.agg #[v']) ∧ Built w' w.heap.size 43 47 v' (shapedP l) us ∧ CodesApart us ∧ Below w.heap.size w w' := by
  obtain ⟨ao, b, off, n, cap, rfl, ⟨hlen, haddr, hat⟩, hcap, hmax⟩ := hv
  obtain ⟨iF, hiF, hzF0, hzF1, hzF2⟩ := info_parts infoF
  unfold maxLen at hmax
  obtain ⟨N, hN⟩ : ∃ N, N = shapedN l := ⟨_, rfl⟩
  have HN : Hid (N = shapedN l) := hN
  have hN1 : 1 ≤ N := by rw [hN]; unfold shapedN; omega
  have hN4 : N ≤ 4 := by rw [hN]; unfold shapedN; omega
  have HNn : Hid (N = min (max n 1) 4) := by show _ = _; rw [hN, shapedN, hlen]
  clear hN
  go_enter Tryd.func18, Tryd.ntmps18
  go_upto_region 2 with fail
  go_cut [4] (fun s4 wx => s4 = .int .i64 N ∧ wx = (w.alloc (.cells #[.slice none 0 0] 24)).alloc (.cells #[.slice none 0 0] 24))
  case first =>
    rcases (show n = 0 ∨ (1 ≤ n ∧ n ≤ 4) ∨ 4 < n by omega) with h | h | h
    · subst h
      have HE : Hid (N = 1) := HNn.out.trans (by omega)
      go_wp2_with fail
      go_meet
      exact ⟨by rw [HE.out]; rfl, rfl⟩
    · have HE : Hid (N = n) := HNn.out.trans (by omega)
      go_wp2_with fail
      go_meet
      exact ⟨by rw [HE.out], rfl⟩
    · have HE : Hid (N = 4) := HNn.out.trans (by omega)
      go_wp2_with fail
      go_meet
      exact ⟨by rw [HE.out]; rfl, rfl⟩
  case rest =>
    obtain ⟨rfl, rfl⟩ := hcut
    go_wp2
    have HE0 : Hid (((w.alloc (.cells #[.slice none 0 0] 24)).alloc (.cells #[.slice none 0 0] 24)).heap[w.heap.size + 1]? = some (.cells #[.slice none 0 0] 24)) := by
      have h := heap_alloc_new (w.alloc (.cells #[.slice none 0 0] 24)) (.cells #[.slice none 0 0] 24)
      simp only [World.size_alloc] at h
      exact h
    go_loopw [5] (fun i wr => ∃ k : Nat, k ≤ N ∧ i = .int .i64 k ∧ Below (w.heap.size + 1) ((w.alloc (.cells #[.slice none 0 0] 24)).alloc (.cells #[.slice none 0 0] 24)) wr ∧
        ∃ vo us, wr.heap[w.heap.size + 1]? = some (.cells #[vo] 24 (0, 0)) ∧ Built wr (w.heap.size + 2) 43 47 vo (shapedPart l N k) us ∧ CodesApart us) (fun i _ => N - (intOf i).toNat)
    case atStart => exact ⟨0, Nat.zero_le _, rfl, Below.refl _ _, .slice none 0 0, [], HE0.out, built_nil _ _ _ _, codesApart_nil⟩
    case round =>
      obtain ⟨k, hk, rfl, hb, vo, us, ho, hbt, hca⟩ := hrel
      have HCA : Hid (CodesApart us) := hca
      have hbw' : Below w.heap.size w wr := (((Below.refl _ _).alloc (Nat.le_refl _) _).alloc (by simp) _).trans (hb.mono (by omega))
      have co := cell_of_one ho
      have hz : w.heap.size + 1 < wr.heap.size := lt_of_block ho
      have HB : Hid (Below (w.heap.size + 1) ((w.alloc (.cells #[.slice none 0 0] 24)).alloc (.cells #[.slice none 0 0] 24)) wr) := hb
      have HO : Hid (wr.heap[w.heap.size + 1]? = some (.cells #[vo] 24 (0, 0))) := ho
      have HBT : Hid (Built wr (w.heap.size + 2) 43 47 vo (shapedPart l N k) us) := hbt
      by_cases hlt : k < N
      · by_cases hkn : k < n
        · have hkx : k < l.length := by rw [hlen]; exact hkn
          obtain rfl := haddr (by omega)
          obtain ⟨uu, hfn⟩ := hat k hkx
          obtain ⟨d0, d1, d2, hcv⟩ := hfn.keeps (keeps_below hbw')
          have hbw := hwf l[k] (List.getElem_mem hkx)
          have HBD : Hid (l[k] = bodyAt l k) := by show _ = _; simp [bodyAt, List.getD, hkx]
          generalize l[k] = bd at d0 d1 d2 hcv hbw HBD
          have hcv' := hcv
          obtain ⟨ao1, b1, off1, n1, cap1, rfl, _⟩ := hcv'
          have t0 := cell_alloc d0
          have t1 := cell_alloc d1
          have t2 := cell_alloc d2
          clear hat haddr hwf hfn hb ho hbt HE0 hca
          go_wp2_with (first
            | (go_at_call 35; refine (function_mk bd _ N _ (hcv.keeps (keeps_below ((Below.refl _ _).alloc (Nat.le_refl _) _))) hbw (by omega) (by omega)).mono ?_; rintro e w1 ⟨u, rfl, hown1, hb1⟩; obtain ⟨aou, capu, rfl⟩ := own_shape hown1; have z1 : wr.heap.size + 1 ≤ w1.heap.size := (by have := hb1.size; simp at this; omega); have HB1 : Hid (Below wr.heap.size wr w1) := ((Below.refl _ wr).alloc (Nat.le_refl _) _).trans (hb1.mono (by simp)); have k1 := keeps_below HB1.out _ _ co; have k2 := cell_alloc k1)
            | (at_builtin; refine wpList_append_own _ rfl (.tmp 30) (.tmp 32) 22 rfl (w.heap.size + 2) 43 iF _ 3 40 Tryd.underlying22 hiF hzF0 hzF1 hzF2 rfl (by decide) vo k (fnsCells (shapedPart l N k) us) rfl (by have h := (((HBT.out.below HB1.out).alloc (.cells #[.int .i64 (mkFn bd N).params, .int .i64 (mkFn bd N).regs, .slice aou (mkFn bd N).code.length capu] 43)).alloc (.cells #[.int .i64 (mkFn bd N).params, .int .i64 (mkFn bd N).regs, .slice aou (mkFn bd N).code.length capu] 43)).row; rw [shapedPart_length] at h; exact h) ⟨w1.heap.size + 1, 0, none⟩ 1 1 (fnCells (mkFn bd N) (.slice aou (mkFn bd N).code.length capu)) rfl rfl (news_list _ _ _ _ (by simp)) (fnCells_one _ _ _ _) (by unfold maxLen; omega) (by omega) (by simp; omega) ?_; intro v3 w3 hown3 hg3 _; obtain ⟨ao3, cap3, rfl⟩ := own_shape hown3; have RR := built_more (f := mkFn bd N) (O := w.heap.size + 1) (by decide) (by omega) (((HBT.out.below HB1.out).alloc _).alloc _) ((heap_alloc_old _ _ (by simp; omega)).trans ((heap_alloc_old _ _ (by omega)).trans ((HB1.out.block _ hz).trans HO.out))) (((own_base hown1 (by simp; omega)).alloc _).alloc _) (by simp; omega) hg3 (by rw [shapedPart_length]; exact hown3); have co3 := cell_of_one RR.1; have cf3 := free_of_one RR.1))
          have HRR := RR.2
          have HBX : Hid (Below (w.heap.size + 1) ((w.alloc (.cells #[.slice none 0 0] 24)).alloc (.cells #[.slice none 0 0] 24)) _) := HRR.2.2 (w.heap.size + 1) _ (by omega) (((HB.out.trans (HB1.out.mono (by omega))).alloc (by omega) _).alloc (by simp; omega) _)
          have HCX : Hid (CodesApart (us ++ [_])) := codesApart_new HBT.out HCA.out hown1 (by simp)
          clear RR
          go_roundw
          case rel => exact ⟨k + 1, by omega, by go_num, HBX.out, _, _, HRR.2.1, by rw [shapedPart_succ, ← HBD.out]; exact HRR.1, HCX.out⟩
          case measure => simp [intOf]; omega
        · have hcv : CodeVal wr (.slice none 0 0) [] := ⟨none, 0, 0, 0, 0, rfl, ⟨rfl, fun h => by omega, fun k h => by simp at h⟩, ⟨Nat.le_refl _, fun _ => rfl⟩, by simp [maxLen]⟩
          have hbw : (⟨0, 0, []⟩ : Fn).wf := ⟨by simp [I64], by simp [I64], by simp⟩
          have HBD : Hid ((⟨0, 0, []⟩ : Fn) = bodyAt l k) := by show _ = _; simp [bodyAt, List.getD, List.getElem?_eq_none (show l.length ≤ k by omega)]
          clear hat haddr hwf hb ho hbt HE0 hca
          go_wp2_with (first
            | (go_at_call 35; refine (function_mk ⟨0, 0, []⟩ _ N _ (hcv.keeps (keeps_below ((Below.refl _ _).alloc (Nat.le_refl _) _))) hbw (by omega) (by omega)).mono ?_; rintro e w1 ⟨u, rfl, hown1, hb1⟩; obtain ⟨aou, capu, rfl⟩ := own_shape hown1; have z1 : wr.heap.size + 1 ≤ w1.heap.size := (by have := hb1.size; simp at this; omega); have HB1 : Hid (Below wr.heap.size wr w1) := ((Below.refl _ wr).alloc (Nat.le_refl _) _).trans (hb1.mono (by simp)); have k1 := keeps_below HB1.out _ _ co; have k2 := cell_alloc k1)
            | (at_builtin; refine wpList_append_own _ rfl (.tmp 30) (.tmp 32) 22 rfl (w.heap.size + 2) 43 iF _ 3 40 Tryd.underlying22 hiF hzF0 hzF1 hzF2 rfl (by decide) vo k (fnsCells (shapedPart l N k) us) rfl (by have h := (((HBT.out.below HB1.out).alloc (.cells #[.int .i64 (mkFn ⟨0, 0, []⟩ N).params, .int .i64 (mkFn ⟨0, 0, []⟩ N).regs, .slice aou (mkFn ⟨0, 0, []⟩ N).code.length capu] 43)).alloc (.cells #[.int .i64 (mkFn ⟨0, 0, []⟩ N).params, .int .i64 (mkFn ⟨0, 0, []⟩ N).regs, .slice aou (mkFn ⟨0, 0, []⟩ N).code.length capu] 43)).row; rw [shapedPart_length] at h; exact h) ⟨w1.heap.size + 1, 0, none⟩ 1 1 (fnCells (mkFn ⟨0, 0, []⟩ N) (.slice aou (mkFn ⟨0, 0, []⟩ N).code.length capu)) rfl rfl (news_list _ _ _ _ (by simp)) (fnCells_one _ _ _ _) (by unfold maxLen; omega) (by omega) (by simp; omega) ?_; intro v3 w3 hown3 hg3 _; obtain ⟨ao3, cap3, rfl⟩ := own_shape hown3; have RR := built_more (f := mkFn ⟨0, 0, []⟩ N) (O := w.heap.size + 1) (by decide) (by omega) (((HBT.out.below HB1.out).alloc _).alloc _) ((heap_alloc_old _ _ (by simp; omega)).trans ((heap_alloc_old _ _ (by omega)).trans ((HB1.out.block _ hz).trans HO.out))) (((own_base hown1 (by simp; omega)).alloc _).alloc _) (by simp; omega) hg3 (by rw [shapedPart_length]; exact hown3); have co3 := cell_of_one RR.1; have cf3 := free_of_one RR.1))
          have HRR := RR.2
          have HBX : Hid (Below (w.heap.size + 1) ((w.alloc (.cells #[.slice none 0 0] 24)).alloc (.cells #[.slice none 0 0] 24)) _) := HRR.2.2 (w.heap.size + 1) _ (by omega) (((HB.out.trans (HB1.out.mono (by omega))).alloc (by omega) _).alloc (by simp; omega) _)
          have HCX : Hid (CodesApart (us ++ [_])) := codesApart_new HBT.out HCA.out hown1 (by simp)
          clear RR
          go_roundw
          case rel => exact ⟨k + 1, by omega, by go_num, HBX.out, _, _, HRR.2.1, by rw [shapedPart_succ, ← HBD.out]; exact HRR.1, HCX.out⟩
          case measure => simp [intOf]; omega
      · have hkN : k = N := by omega
        subst hkN
        obtain ⟨ao3, cap3, rfl⟩ := own_shape hbt.row
        rw [shapedPart_length] at *
        have HP : Hid (∀ a, a.block < w.heap.size + 2 → ∀ u, Built (wr.setCell a u) (w.heap.size + 2) 43 47 (.slice ao3 k cap3) (shapedPart l k k) us) := fun a ha u => hbt.setCell ha u
        have HSP : Hid (shapedP l = shapedPart l k k) := by show _ = _; rw [shapedP, ← HN.out]
        have g1 : wr.heap[w.heap.size]? = some (.cells #[.slice none 0 0] 24 (0, 0)) := (hb.block _ (by omega)).trans ((heap_alloc_old _ _ (by simp)).trans (heap_alloc_new w _))
        have c1 := cell_of_one g1
        have f1 := free_of_one g1
        clear hat haddr hb hbt hwf g1 ho hca
        go_wp2
        exact bodyPost_ret (v := .agg #[.slice ao3 k cap3]) (by simp [results, Tryd.results18, go_sem, c1]) rfl ⟨_, us, rfl, by rw [HSP.out]; exact built_base (HP.out ⟨w.heap.size, 0, none⟩ (by simp) _) (by omega), HCA.out, hbw'.setCell (by simp) _⟩

theorem shaped_mk (l : List Fn) (v : Value) (w : World) (hv : ProgVal w v l) (hwf : ∀ f ∈ l, f.wf) :
    Calls Tryd.prog 18 #[v] w fun e w' => ∃ v' us, e = .returned (.agg #[v']) ∧ Built w' w.heap.size 43 47 v' (shapedP l) us ∧ Below w.heap.size w w' :=
  (shaped_apart l v w hv hwf).mono fun _ _ ⟨v', us, h1, h2, _, h4⟩ => ⟨v', us, h1, h2, h4⟩

end Go.Proofs.YthnajfekhnocaaaDoor
