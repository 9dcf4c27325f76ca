/- Contracts of trim.moved and trim.Program. -/
import Derived.Test.YtpkgibdbmmhgdaaDoorXKeptMath
import Derived.Test.YtpkgibdbmmhgdaaDoorXWhereAll
import Derived.Test.YtpkgibdbmmhgdaaDoorGroupA
import Derived.Test.YtpkgibdbmmhgdaaDoorXCalledAll
import Derived.Test.YtpkgibdbmmhgdaaDoorGroupB
namespace Go.Proofs.YtpkgibdbmmhgdaaDoor
open Go Go.RowKit

theorem codeCells_snoc (xs : List Ins) (x : Ins) : codeCells (xs ++ [x]) = codeCells xs ++ insCells x := by simp [codeCells]
theorem insCells_one (x : Ins) : ∀ u ∈ insCells x, u.oneCell' = true := by
  intro u hu
  simp [insCells] at hu
  rcases hu with rfl | rfl | rfl | rfl | rfl <;> rfl

set_option maxRecDepth 100000 in
set_option maxHeartbeats 4000000 in
theorem moved_any (f : Fn) (N : Nat) (hok : MvOk f N) (hops : ∀ pc, pc < f.code.length → 1 ≤ (insD f pc).op ∧ (insD f pc).op ≤ 19) (hl1 : 1 ≤ f.code.length) (hl2 : f.code.length ≤ 40) (_hN1 : 1 ≤ N) (_hN : N ≤ 4)
    (W F : List Int) (cv : Value) (gW gF : Nat) (w : World) (ht : TabOk w) (hcv : CodeVal w cv f.code) (hWl : W.length = f.code.length) (_hFl : F.length = N)
    (hW : w.ownsRow 0 3 1 (.slice (some ⟨gW, 0, none⟩) f.code.length f.code.length) f.code.length (i64s W)) (hF : w.ownsRow 0 3 1 (.slice (some ⟨gF, 0, none⟩) N N) N (i64s F)) :
    Calls Tryd.prog 45 #[cv, .slice (some ⟨gW, 0, none⟩) f.code.length f.code.length, .slice (some ⟨gF, 0, none⟩) N N] w
      fun e w' => ∃ v', e = .returned v' ∧ w'.ownsRow w.heap.size 46 5 v' (movedTo f W F f.code.length).length (codeCells (movedTo f W F f.code.length)) ∧ Below w.heap.size w w' := by
  obtain ⟨iI, hiI, hzI0, hzI1, hzI2⟩ := info_parts infoI
  obtain ⟨ao1, b1, off1, n, cap1, rfl, ⟨hln, had1, hat1⟩, hcp1, hmx1⟩ := hcv
  obtain rfl := had1 (by omega)
  have HAT : Hid (∀ q (h : q < f.code.length), insAt w b1 (off1 + q * 5) f.code[q]) := hat1
  have HLN : Hid (f.code.length = n) := hln
  have HW : Hid (∀ q, q < n → w.cell? ⟨gW, q, none⟩ = some (.int .i64 (W.getD q 0))) := fun q hq => by
    have := hW; rw [hln] at this; exact row_cell this q hq
  have HF : Hid (∀ q, q < N → w.cell? ⟨gF, q, none⟩ = some (.int .i64 (F.getD q 0))) := fun q hq => row_cell hF q hq
  have HTG : Hid (∀ pc, pc < n → (insD f pc).op = 15 ∨ (insD f pc).op = 16 → ∃ t : Nat, (insD f pc).imm = t ∧ t < n) := fun pc hp h => by have := hok.target pc (by omega) h; rw [hln] at this; exact this
  have HCLL : Hid (∀ pc, pc < n → (insD f pc).op = 17 → ∃ t : Nat, (insD f pc).imm = t ∧ t < N) := fun pc hp h => hok.call pc (by omega) h
  have HOPS : Hid (∀ pc, pc < n → 1 ≤ (insD f pc).op ∧ (insD f pc).op ≤ 19) := fun pc hp => hops pc (by omega)
  have HGONE : Hid (∀ k, W.getD k 0 = -1 → movedTo f W F (k + 1) = movedTo f W F k) := fun k h => movedTo_gone h
  have HKEPT : Hid (∀ k, W.getD k 0 ≠ -1 → movedTo f W F (k + 1) = movedTo f W F k ++ [mvIns (insD f k) W F]) := fun k h => movedTo_kept h
  have HT : Hid (TabOk w) := ht
  rw [hln] at hl1 hl2 ⊢
  unfold maxLen at hmx1
  have hcpi := hcp1.1
  clear hat1 had1 hln hok hops hW hF hcp1 ht hWl _hFl
  go_enter Tryd.func45, Tryd.ntmps45
  go_wp2
  go_loopw [7, 13] (fun v i wr => ∃ q : Nat, q ≤ n ∧ i = .int .i64 q ∧ wr.ownsRow w.heap.size 46 5 v (movedTo f W F q).length (codeCells (movedTo f W F q)) ∧ Below w.heap.size w wr) (fun _ i _ => n - (intOf i).toNat)
  case atStart => exact ⟨0, Nat.zero_le _, rfl, World.ownsRow_nil _ _ _ _, Below.refl _ _⟩
  case round =>
    obtain ⟨q, hq, rfl, hown, hbr⟩ := hrel
    have hzr : w.heap.size ≤ wr.heap.size := hbr.size
    have HBR : Hid (Below w.heap.size w wr) := hbr
    by_cases hlt : q < n
    · have hqx : q < f.code.length := by rw [HLN.out]; exact hlt
      have hx := (HAT.out q hqx).keeps (keeps_below hbr)
      have hiD : insD f q = f.code[q] := insD_eq hqx
      have cw := keeps_below hbr _ _ (HW.out q hlt)
      have cw2 := fun o => cell_alloc cw o
      have hop := HOPS.out q hlt
      have htg := HTG.out q hlt
      have hcl := HCLL.out q hlt
      have hkept := HKEPT.out q
      rw [hiD] at hop htg hcl hkept
      have hml := movedTo_len f W F q
      have HGO : Hid (W.getD q 0 = -1 → movedTo f W F (q + 1) = movedTo f W F q) := HGONE.out q
      generalize f.code[q] = x at hx hop htg hcl hkept
      obtain ⟨op, dst, xa, xb, imm⟩ := x
      obtain ⟨e0, e1, e2, e3, e4⟩ := hx
      dsimp only at e0 e1 e2 e3 e4 hop htg hcl
      have HKE : Hid (W.getD q 0 ≠ -1 → movedTo f W F (q + 1) = movedTo f W F q ++ [mvIns ⟨op, dst, xa, xb, imm⟩ W F]) := hkept
      have hqI : (q : Int) < n := by omega
      have hha := fun o => has_any op (wr.alloc o) ((HT.out.below hbr).below ((Below.refl _ _).alloc (Nat.le_refl _) o))
      have HTW : Hid (∀ t, t < n → ∀ o, (wr.alloc o).cell? ⟨gW, t, none⟩ = some (.int .i64 (W.getD t 0))) := fun t h o => cell_alloc (keeps_below HBR.out _ _ (HW.out t h)) o
      have HTF : Hid (∀ t, t < N → ∀ o, (wr.alloc o).cell? ⟨gF, t, none⟩ = some (.int .i64 (F.getD t 0))) := fun t h o => cell_alloc (keeps_below HBR.out _ _ (HF.out t h)) o
      obtain ⟨ho1, ho2⟩ := op_has hop.1 hop.2
      generalize movedTo f W F q = M at hown hml HGO HKE
      obtain ⟨aov, capv, rfl⟩ := own_shape hown
      have HOW := fun o => hown.alloc o
      clear hbr hqx hiD hkept hop
      by_cases hgone : W.getD q 0 = -1
      · have HM := HGO.out hgone
        have HMM : Hid (movedTo f W F (q + 1) = M) := HM
        rw [hgone] at cw cw2
        clear HM hgone ho1 ho2 hha htg hcl
        go_wp2
        go_roundw
        case rel => exact ⟨q + 1, by omega, by go_num, by rw [HMM.out]; exact HOW _, HBR.out.alloc (by omega) _⟩
        case measure => simp [intOf]; omega
      · have hgb : (W.getD q 0 == -1) = false := by simpa using hgone
        have HM : Hid (movedTo f W F (q + 1) = M ++ [mvIns ⟨op, dst, xa, xb, imm⟩ W F]) := HKE.out hgone
        generalize W.getD q 0 = z at cw cw2 hgb
        generalize hasOf op = ha at hha ho1 ho2
        by_cases h15 : op = 15 ∨ op = 16
        · obtain ⟨t, rfl, htn⟩ := htg h15
          have ct := HTW.out t htn
          have htI : (t : Int) < n := by omega
          have HMV : Hid (mvIns ⟨op, dst, xa, xb, (t : Int)⟩ W F = ⟨op, dst, xa, xb, W.getD t 0⟩) := by
            show _ = _
            rw [mvIns_target h15]; rfl
          rw [show decide (op = 15 ∨ op = 16) = true by simpa using h15] at ho1
          generalize W.getD t 0 = z2 at ct HMV
          clear h15 hgone ho2 htg hcl
          go_wp2_with (first
            | (go_at_call 67; refine (hha _).mono ?_; rintro e w' ⟨rfl, hw'⟩; replace hw' := hw'.symm; subst hw')
            | (at_builtin; (refine wpList_append_own _ rfl (.tmp 46) (.tmp 48) 39 rfl w.heap.size 46 iI _ 5 40 Tryd.underlying39 hiI hzI0 hzI1 hzI2 rfl (by decide) _ _ _ rfl ((hown.alloc _).alloc _) ⟨_, 0, none⟩ 1 1 (insCells ⟨op, dst, xa, xb, z2⟩) rfl rfl (news_list _ _ _ _ (by simp)) (insCells_one _) (by unfold maxLen; omega) (by omega) (by simp; omega) ?_; intro v2 w3 hown2 hg2 _; rw [← codeCells_snoc] at hown2; have hb2 : Below w.heap.size w w3 := ((HBR.out.alloc (by omega) _).alloc (by simp; omega) _).trans (grown_base ((hown.alloc _).alloc _) (by simp; omega) hg2))))
          go_roundw
          case rel => exact ⟨q + 1, by omega, by go_num, by rw [HM.out, HMV.out]; simpa using hown2, hb2⟩
          case measure => simp [intOf]; omega
        · rw [show decide (op = 15 ∨ op = 16) = false by simpa using h15] at ho1
          by_cases h17 : op = 17
          · subst h17
            obtain ⟨t, rfl, htn⟩ := hcl rfl
            have ct := HTF.out t htn
            have htI : (t : Int) < N := by omega
            have HMV : Hid (mvIns ⟨17, dst, xa, xb, (t : Int)⟩ W F = ⟨17, dst, xa, xb, F.getD t 0⟩) := by
              show _ = _
              rw [mvIns_call]; rfl
            rw [show decide ((17 : Int) = 17) = true by simp] at ho2
            generalize F.getD t 0 = z2 at ct HMV
            clear h15 hgone htg hcl
            go_wp2_with (first
              | (go_at_call 67; refine (hha _).mono ?_; rintro e w' ⟨rfl, hw'⟩; replace hw' := hw'.symm; subst hw')
              | (at_builtin; (refine wpList_append_own _ rfl (.tmp 46) (.tmp 48) 39 rfl w.heap.size 46 iI _ 5 40 Tryd.underlying39 hiI hzI0 hzI1 hzI2 rfl (by decide) _ _ _ rfl ((hown.alloc _).alloc _) ⟨_, 0, none⟩ 1 1 (insCells ⟨17, dst, xa, xb, z2⟩) rfl rfl (news_list _ _ _ _ (by simp)) (insCells_one _) (by unfold maxLen; omega) (by omega) (by simp; omega) ?_; intro v2 w3 hown2 hg2 _; rw [← codeCells_snoc] at hown2; have hb2 : Below w.heap.size w w3 := ((HBR.out.alloc (by omega) _).alloc (by simp; omega) _).trans (grown_base ((hown.alloc _).alloc _) (by simp; omega) hg2))))
            go_roundw
            case rel => exact ⟨q + 1, by omega, by go_num, by rw [HM.out, HMV.out]; simpa using hown2, hb2⟩
            case measure => simp [intOf]; omega
          · rw [show decide (op = 17) = false by simpa using h17] at ho2
            have HMV : Hid (mvIns ⟨op, dst, xa, xb, imm⟩ W F = ⟨op, dst, xa, xb, imm⟩) := mvIns_else (fun h => h15 (Or.inl h)) (fun h => h15 (Or.inr h)) h17
            clear h15 h17 hgone htg hcl
            go_wp2_with (first
              | (go_at_call 67; refine (hha _).mono ?_; rintro e w' ⟨rfl, hw'⟩; replace hw' := hw'.symm; subst hw')
              | (at_builtin; (refine wpList_append_own _ rfl (.tmp 46) (.tmp 48) 39 rfl w.heap.size 46 iI _ 5 40 Tryd.underlying39 hiI hzI0 hzI1 hzI2 rfl (by decide) _ _ _ rfl ((hown.alloc _).alloc _) ⟨_, 0, none⟩ 1 1 (insCells ⟨op, dst, xa, xb, imm⟩) rfl rfl (news_list _ _ _ _ (by simp)) (insCells_one _) (by unfold maxLen; omega) (by omega) (by simp; omega) ?_; intro v2 w3 hown2 hg2 _; rw [← codeCells_snoc] at hown2; have hb2 : Below w.heap.size w w3 := ((HBR.out.alloc (by omega) _).alloc (by simp; omega) _).trans (grown_base ((hown.alloc _).alloc _) (by simp; omega) hg2))))
            go_roundw
            case rel => exact ⟨q + 1, by omega, by go_num, by rw [HM.out, HMV.out]; simpa using hown2, hb2⟩
            case measure => simp [intOf]; omega
    · obtain rfl : q = n := by omega
      have HOWN : Hid _ := hown
      obtain ⟨aov, capv, rfl⟩ := own_shape hown
      clear hown hbr
      go_wp2
      go_ret
      exact ⟨_, rfl, HOWN.out, HBR.out⟩


/-- What a call that answers P5.3 leaves. -/
def TrimPost (P : List Fn) (w : World) (e : Ending) (w' : World) : Prop :=
  ∃ v' E Q us, e = .returned (.tuple #[.agg #[v'], .int .i64 E]) ∧ TrimAns P E Q ∧ Built w' w.heap.size 41 46 v' Q us ∧ Below w.heap.size w w'

theorem built_mono {w : World} {base base' tF tI : Nat} {v : Value} {p : List Fn} {us : List Value} (h : Built w base tF tI v p us) (hb : base' ≤ base) : Built w base' tF tI v p us :=
  ⟨h.len, own_base h.row hb, fun i hi => own_base (h.codes i hi) hb⟩

set_option maxRecDepth 100000 in
set_option maxHeartbeats 8000000 in
theorem Trim_any (P : List Fn) (v : Value) (w : World) (ht : TabOk w) (hc : CallOk w) (hv : ProgVal w v P) :
    Calls Tryd.prog 25 #[.agg #[v]] w fun e w' => TrimPost P w e w' := by
  have hbx : ∀ o o', Below w.heap.size w ((w.alloc o).alloc o') := fun o o' => ((Below.refl _ _).alloc (Nat.le_refl _) _).alloc (by simp) _
  by_cases h0 : ProofAns P 0
  · have hC := fun o o' => pcheck_zero P h0 v ((w.alloc o).alloc o') (ht.below (hbx o o')) (hc.below (hbx o o')) (hv.keeps (keeps_below (hbx o o')))
    have hP := proof_code h0
    have hp1 := (codeProg_zero hP).1
    have hp4 := (codeProg_zero hP).2.1
    obtain ⟨iF, hiF, hzF0, hzF1, hzF2⟩ := info_parts infoF
    have hCD := fun W (hb : Below w.heap.size w W) => called_any P hP v W (ht.below hb) (hv.keeps (keeps_below hb))
    have HRE : Hid (∀ k (hk : k < P.length) W, Below w.heap.size w W → Calls Tryd.prog 46 #[.agg #[v], .int .i64 k] W fun e w' => ∃ g s, e = .returned (.slice (some ⟨g, 0, none⟩) P[k].code.length P[k].code.length) ∧ Reach P[k] s ∧ BoolRow w' g P[k].code.length s ∧ W.heap.size ≤ g ∧ Below W.heap.size W w') :=
      fun k hk W hb => reached_any P hP k hk v W (ht.below hb) (hv.keeps (keeps_below hb))
    have HMV : Hid (∀ k (hk : k < P.length) s c gW gF cv W, Reach P[k] s → c.length = P.length → Below w.heap.size w W → CodeVal W cv P[k].code → W.ownsRow 0 3 1 (.slice (some ⟨gW, 0, none⟩) P[k].code.length P[k].code.length) P[k].code.length (i64s (whereL s)) → W.ownsRow 0 3 1 (.slice (some ⟨gF, 0, none⟩) P.length P.length) P.length (i64s (whereL c)) →
        Calls Tryd.prog 45 #[cv, .slice (some ⟨gW, 0, none⟩) P[k].code.length P[k].code.length, .slice (some ⟨gF, 0, none⟩) P.length P.length] W fun e w' => ∃ v', e = .returned v' ∧ w'.ownsRow W.heap.size 46 5 v' (keptF P[k] s c).code.length (codeCells (keptF P[k] s c).code) ∧ Below W.heap.size W w') :=
      fun k hk s c gW gF cv W hs hcl hb hcv hW hF => by
        have hok := (fnOk_of hP (List.getElem_mem hk))
        exact moved_any P[k] P.length (mvOk_of hP (List.getElem_mem hk)) (fun pc hpc => by rw [insD_eq hpc]; have := (hok.2 _ (List.getElem_mem hpc)).1; exact ⟨this.op1, this.op2⟩) hok.1.len1 hok.1.len2 hp1 hp4 (whereL s) (whereL c) cv gW gF W (ht.below hb) hcv (by rw [whereL_length, hs.1]) (by rw [whereL_length, hcl]) hW hF
    have HOK : Hid (∀ k (hk : k < P.length), 1 ≤ P[k].code.length ∧ P[k].code.length ≤ 40) := fun k hk => ⟨(fnOk_of hP (List.getElem_mem hk)).1.len1, (fnOk_of hP (List.getElem_mem hk)).1.len2⟩
    have HAN : Hid (∀ c Q, CalledSpec P c → KeptTo P c P.length Q → TrimAns P 0 Q) := fun c Q a b => Or.inr ⟨h0, rfl, c, a, b⟩
    obtain ⟨ao, b, off, N, cap, rfl, ⟨hlen, haddr, hat⟩, hcap, hmax⟩ := hv
    obtain rfl := haddr (by omega)
    unfold maxLen at hmax
    have HAT : Hid (∀ k (h : k < P.length), ∃ u, FnAt w b (off + k * 3) P[k] u) := hat
    subst hlen
    have hcp := hcap.1
    clear h0 hP hbx hat haddr hcap ht hc
    go_enter Tryd.func25, Tryd.ntmps25
    go_wp2_with (first
      | (go_at_call 16; refine (hC _ _).mono ?_; rintro e w1 ⟨rfl, hb1⟩; have k0 := keeps_below hb1 ⟨w.heap.size, 0, none⟩ (.slice (some ⟨b, off, none⟩) P.length cap) (by simp); have k1 : w1.heap[w.heap.size + 1]? = some (.cells #[.slice none 0 0] 29 (0, 0)) := (hb1.block _ (by simp)).trans (by simpa only [World.size_alloc] using heap_alloc_new (w.alloc (.cells #[.slice (some ⟨b, off, none⟩) P.length cap] 29)) (.cells #[.slice none 0 0] 29)); have HB1 : Hid (Below w.heap.size w w1) := (((Below.refl _ _).alloc (Nat.le_refl _) _).alloc (by simp) _).trans (hb1.mono (by simp; omega)); have hz1 : w.heap.size + 2 ≤ w1.heap.size := (by have := hb1.size; simp at this; omega); clear hb1)
      | (go_at_call 43; refine (hCD _ HB1.out).mono ?_; rintro e w2 ⟨g2, c, rfl, hcs, hrow, hg2, hb2⟩; have HCS : Hid (CalledSpec P c) := hcs; have hcl : c.length = P.length := hcs.1; have HROW : Hid (BoolRow w2 g2 P.length c) := hrow; have hWH := where_any P.length g2 c w2 hp1 (by omega) hcl hrow; have HB2 : Hid (Below w1.heap.size w1 w2) := hb2; clear hcs hrow hb2)
      | (go_at_call 44; refine hWH.mono ?_; rintro e w3 ⟨g3, rfl, hown3, hg3, hb3⟩; have HOF : Hid (w3.ownsRow 0 3 1 (.slice (some ⟨g3, 0, none⟩) P.length P.length) P.length (i64s (whereL c))) := hown3; have HB3 : Hid (Below w1.heap.size w1 w3) := below_call HB2.out HB2.out.size hb3; have HROW3 : Hid (BoolRow w3 g2 P.length c) := ownsRow_below HROW.out hb3; have k2 := keeps_below HB3.out _ _ k0; have k2a := (fun o => cell_alloc k2 o); have hz3 : w1.heap.size ≤ w3.heap.size := HB3.out.size; have k3 := (HB3.out.block (w.heap.size + 1) (by omega)).trans k1; clear hown3 hb3))
    have hzw3 : w.heap.size + 2 ≤ w3.heap.size := by omega
    have HBW3 : Hid (Below w.heap.size w w3) := below_call HB1.out (by omega) HB3.out
    have HO : Hid ((w3.alloc (.cells #[.slice none 0 0] 29)).heap[w3.heap.size]? = some (.cells #[.slice none 0 0] 29 (0, 0))) := heap_alloc_new w3 _
    have hg2l : g2 < w3.heap.size := (HROW3.out.lt g2 rfl).2
    have hg3l : g3 < w3.heap.size := (HOF.out.lt g3 rfl).2
    clear hWH hCD hC k0 k1 HB1 HB2 HB3 HROW
    go_loopw [23] (fun i wr => ∃ (k : Nat) (vo : Value) (Q : List Fn) (us : List Value), k ≤ P.length ∧ i = .int .i64 k ∧ Below w3.heap.size w3 wr ∧ wr.heap[w3.heap.size]? = some (.cells #[vo] 29 (0, 0)) ∧ Built wr (w3.heap.size + 1) 41 46 vo Q us ∧ KeptTo P c k Q) (fun i _ => P.length - (intOf i).toNat)
    case atStart => exact ⟨0, _, [], [], Nat.zero_le _, rfl, (Below.refl _ _).alloc (Nat.le_refl _) _, HO.out, built_nil _ _ _ _, KeptTo.zero⟩
    case round =>
      obtain ⟨k, vo, Q, us, hk, rfl, hbr, ho, hbt, hkt⟩ := hrel
      have j2 := keeps_below hbr _ _ k2
      have j3 := (hbr.block (w.heap.size + 1) (by omega)).trans k3
      have co := cell_of_one ho
      have cf := free_of_one ho
      have hzr : w3.heap.size < wr.heap.size := lt_of_block ho
      have HBR : Hid (Below w3.heap.size w3 wr) := hbr
      have HBWR : Hid (Below w.heap.size w wr) := HBW3.out.trans (hbr.mono (by omega))
      have hQl := keptTo_len hkt
      have HKT : Hid (KeptTo P c k Q) := hkt
      have HBT : Hid (Built wr (w3.heap.size + 1) 41 46 vo Q us) := hbt
      have HOO : Hid (wr.heap[w3.heap.size]? = some (.cells #[vo] 29 (0, 0))) := ho
      clear hkt ho
      by_cases hlt : k < P.length
      · have hkI : (k : Int) < P.length := by omega
        have ck := keeps_below hbr _ _ (bool_cell HROW3.out hcl k hlt)
        have ck2 := fun o => cell_alloc ck o
        obtain ⟨u, hfn⟩ := HAT.out k hlt
        obtain ⟨d0, d1, d2, hcv⟩ := hfn.keeps (keeps_below HBWR.out)
        have hre := HRE.out k hlt
        have hmv := HMV.out k hlt
        obtain ⟨hl1, hl2⟩ := HOK.out k hlt
        have HKG : Hid (c.getD k false = false → KeptTo P c (k + 1) Q) := fun h => KeptTo.gone HKT.out h
        have HKK : Hid (c.getD k false = true → ∀ s, Reach P[k] s → KeptTo P c (k + 1) (Q ++ [keptF P[k] s c])) := fun h s hs => KeptTo.kept HKT.out hlt h hs
        have HRL : Hid (∀ s, Reach P[k] s → s.length = P[k].code.length) := fun s hs => hs.1
        have HKP : Hid (∀ s, (keptF P[k] s c).params = P[k].params ∧ (keptF P[k] s c).regs = P[k].regs ∧ (keptF P[k] s c).code.length ≤ P[k].code.length) := fun s => ⟨rfl, rfl, movedTo_len _ _ _ _⟩
        generalize P[k] = f at d0 d1 hcv hre hmv hl1 hl2 HKK HRL HKP
        obtain ⟨fp, fr, fc⟩ := f
        dsimp only at d0 d1 hcv hre hmv hl1 hl2 HRL HKP
        have HCV : Hid (CodeVal wr u fc) := hcv
        obtain ⟨ao1, b1, off1, n, cap1, rfl, ⟨hln, -, -⟩, -, -⟩ := hcv
        rw [hln] at hl1 hl2 HRL HKP
        simp only [hln] at hre hmv
        clear hln
        have HRX : Hid _ := hre
        have HMX : Hid _ := hmv
        generalize hsb : c.getD k false = sb at ck2 HKG HKK
        clear hsb ck hbr hbt hfn hre hmv
        cases sb
        · go_wp2
          go_roundw
          case rel => exact ⟨k + 1, vo, Q, us, by omega, by go_num, HBR.out.alloc (by omega) _, (heap_alloc_old _ _ hzr).trans HOO.out, HBT.out.alloc _, HKG.out rfl⟩
          case measure => simp [intOf]; omega
        · go_upto_region 11 with fail
          have F0 : (wr.alloc (.cells #[.int .i64 fp, .int .i64 fr, .slice ao1 n cap1] 41)).cell? ⟨wr.heap.size, 0, none⟩ = some (.int .i64 fp) := way_box wr _ _ 0 _ rfl
          have F1 : (wr.alloc (.cells #[.int .i64 fp, .int .i64 fr, .slice ao1 n cap1] 41)).cell? ⟨wr.heap.size, 1, none⟩ = some (.int .i64 fr) := way_box wr _ _ 1 _ rfl
          have F2 : (wr.alloc (.cells #[.int .i64 fp, .int .i64 fr, .slice ao1 n cap1] 41)).cell? ⟨wr.heap.size, 2, none⟩ = some (.slice ao1 n cap1) := way_box wr _ _ 2 _ rfl
          have FZ : (wr.alloc (.cells #[.int .i64 fp, .int .i64 fr, .slice ao1 n cap1] 41)).frozen? ⟨wr.heap.size, 2, none⟩ = false := by simp
          have P0 := cell_alloc j2 (.cells #[.int .i64 fp, .int .i64 fr, .slice ao1 n cap1] 41)
          have O0 := cell_alloc co (.cells #[.int .i64 fp, .int .i64 fr, .slice ao1 n cap1] 41)
          have HBF : Hid (Below w.heap.size w (wr.alloc (.cells #[.int .i64 fp, .int .i64 fr, .slice ao1 n cap1] 41)).drew) := (HBWR.out.alloc (by omega) _).drew
          refine wp_region_last (S := fun W => Below (wr.alloc (.cells #[.int .i64 fp, .int .i64 fr, .slice ao1 n cap1] 41)).heap.size (wr.alloc (.cells #[.int .i64 fp, .int .i64 fr, .slice ao1 n cap1] 41)) W) _ 9 (by kernel_rfl) (by kernel_rfl) rfl ((Below.refl _ _).drew) (fun hHeld => ?_)
          simp only [List.pop_toArray, List.dropLast]
          refine wpAnyH_take (i := 0) (v := ?_) rfl (by kernel_rfl) (by kernel_rfl) (by kernel_rfl) (fun _ _ _ h => h) (Or.inl ⟨by rfl, ?_⟩) (by assumption) ?_
          rotate_left
          · (intro W hSW; go_simp; try (with_reducible rfl))
          (try simp only [Act.put, List.setIfInBounds_toArray])
          refine wpAnyH_take (i := 1) (v := ?_) rfl (by kernel_rfl) (by kernel_rfl) (by kernel_rfl) (fun _ _ _ h => h) (Or.inl ⟨by rfl, ?_⟩) (by assumption) ?_
          rotate_left
          · (intro W hSW; have zz := keeps_below hSW _ _ F2; go_simp; try (with_reducible rfl))
          (try simp only [Act.put])
          refine wpAnyH_take (i := 2) (v := ?_) rfl (by kernel_rfl) (by kernel_rfl) (by kernel_rfl) (fun _ _ _ h => h) (Or.inl ⟨by rfl, ?_⟩) (by assumption) ?_
          rotate_left
          · (intro W hSW; have zz := keeps_below hSW _ _ P0; go_simp; try (with_reducible rfl))
          (try simp only [Act.put])
          refine wpAnyH_take (i := 3) (v := ?_) rfl (by kernel_rfl) (by kernel_rfl) (by kernel_rfl) (fun _ _ _ h => h) (Or.inl ⟨by rfl, ?_⟩) (by assumption) ?_
          rotate_left
          · (intro W hSW; go_simp; try (with_reducible rfl))
          (try simp only [Act.put])
          refine wpAnyH_take (i := 6) (v := ?_) rfl (by kernel_rfl) (by kernel_rfl) (by kernel_rfl) (fun _ _ _ h => h) (Or.inl ⟨by rfl, ?_⟩) (by assumption) ?_
          rotate_left
          · (intro W hSW; go_simp; try (with_reducible rfl))
          (try simp only [Act.put])
          refine wpAnyH_ready (rs := [4]) (by kernel_rfl) (by simp) ?_
          refine AllReadyH.cons rfl (fun K hK => ?_) AllReadyH.nil
          go_simp
          go_at_call 46
          refine (HRX.out _ HBF.out).mono ?_
          rintro e w4 ⟨g4, s, rfl, hrs, hrow4, hg4, hb4⟩
          have hsl := HRL.out s hrs
          have HB4 : Hid (Below (wr.alloc (.cells #[.int .i64 fp, .int .i64 fr, .slice ao1 n cap1] 41)).heap.size (wr.alloc (.cells #[.int .i64 fp, .int .i64 fr, .slice ao1 n cap1] 41)) w4) := (Below.refl _ _).drew.trans (hb4.mono (by simp))
          have hWH := where_any n g4 s w4 (by omega) (by omega) hsl hrow4
          dsimp only
          refine hK.out _ _ HB4.out (fun _ => ?_)
          clear hK K
          (try simp only [Act.put, List.setIfInBounds_toArray, List.set_cons_zero, List.set_cons_succ])
          refine wpAnyH_ready (rs := [5]) (by kernel_rfl) (by simp) ?_
          refine AllReadyH.cons rfl (fun K hK => ?_) AllReadyH.nil
          go_simp
          go_at_call 44
          refine hWH.mono ?_
          rintro e w5 ⟨g5, rfl, hown5, hg5, hb5⟩
          have HB5 : Hid (Below (wr.alloc (.cells #[.int .i64 fp, .int .i64 fr, .slice ao1 n cap1] 41)).heap.size (wr.alloc (.cells #[.int .i64 fp, .int .i64 fr, .slice ao1 n cap1] 41)) w5) := HB4.out.trans (hb5.mono HB4.out.size)
          have HBW5 : Hid (Below w.heap.size w w5) := (HBWR.out.alloc (by omega) _).trans (HB5.out.mono (by simp; omega))
          have hmv5 := HMX.out s c g5 g3 (.slice ao1 n cap1) w5 hrs hcl HBW5.out (HCV.out.keeps (keeps_below (((Below.refl _ _).alloc (Nat.le_refl _) _).trans (HB5.out.mono (by simp))))) hown5 (ownsRow_below HOF.out ((HBR.out.alloc (by omega) _).trans (HB5.out.mono (by simp; omega))))
          dsimp only
          refine hK.out _ _ HB5.out (fun _ => ?_)
          clear hK K
          (try simp only [Act.put, List.setIfInBounds_toArray, List.set_cons_zero, List.set_cons_succ])
          refine wpAnyH_ready (rs := [7]) (by kernel_rfl) (by simp) ?_
          refine AllReadyH.cons rfl (fun K hK => ?_) AllReadyH.nil
          go_simp
          go_at_call 45
          refine hmv5.mono ?_
          rintro e w6 ⟨u1, rfl, hown6, hb6⟩
          have HB6 : Hid (Below (wr.alloc (.cells #[.int .i64 fp, .int .i64 fr, .slice ao1 n cap1] 41)).heap.size (wr.alloc (.cells #[.int .i64 fp, .int .i64 fr, .slice ao1 n cap1] 41)) w6) := HB5.out.trans (hb6.mono HB5.out.size)
          have HKF := HKK.out rfl s hrs
          have HK3 := (HKP.out s).2.2
          have HKE : keptF ⟨fp, fr, fc⟩ s c = ⟨fp, fr, (keptF ⟨fp, fr, fc⟩ s c).code⟩ := rfl
          rw [HKE] at HKF
          generalize (keptF ⟨fp, fr, fc⟩ s c).code = M at hown6 HKF HK3
          clear HKE
          obtain ⟨ao6, cap6, rfl⟩ := own_shape hown6
          dsimp only
          refine hK.out _ _ HB6.out (fun _ => ?_)
          clear hK K
          (try simp only [Act.put, List.setIfInBounds_toArray, List.set_cons_zero, List.set_cons_succ])
          refine wpAnyH_take (i := 8) (v := ?_) rfl (by kernel_rfl) (by kernel_rfl) (by kernel_rfl) (fun _ _ _ h => h) (Or.inl ⟨by rfl, ?_⟩) HB6.out ?_
          rotate_left
          · (intro W hSW; go_simp; try (with_reducible rfl))
          (try simp only [Act.put, List.setIfInBounds_toArray])
          refine wpAnyH_done (by kernel_rfl) ?_ _
          refine Or.inl ?_
          have k4 := keeps_below HB6.out _ _ F0
          have k5 := keeps_below HB6.out _ _ F1
          have k6 := keeps_below HB6.out _ _ F2
          have kf : w6.frozen? ⟨wr.heap.size, 2, none⟩ = false := (HB6.out.frozen (p := ⟨wr.heap.size, 2, none⟩) (by simp)).trans FZ
          have ko := keeps_below HB6.out _ _ O0
          have kz : wr.heap.size < w6.heap.size := by have := HB6.out.size; simp at this; omega
          have HG6 : Hid ((wr.alloc (.cells #[.int .i64 fp, .int .i64 fr, .slice ao1 n cap1] 41)).grownBy w6 none) := gb_below none HB6.out
          have HOW6 : Hid (w6.ownsRow (w3.heap.size + 1) 46 5 (.slice ao6 M.length cap6) M.length (codeCells M)) := own_base hown6 (by have := HB5.out.size; simp at this; omega)
          have HKQ : Hid (KeptTo P c (k + 1) (Q ++ [⟨fp, fr, M⟩])) := HKF
          have HB6' : Hid (Below wr.heap.size wr w6) := ((Below.refl _ _).alloc (Nat.le_refl _) _).trans (HB6.out.mono (by simp))
          clear F0 F1 F2 FZ P0 O0 hWH hmv5 hown5 hown6 hrow4 HKF hb4 hb5 hb6 hHeld hrs
          go_simp
          go_wp2_with (at_builtin; go_loud (refine wpList_append_own _ rfl (.tmp 42) (.tmp 44) 27 rfl (w3.heap.size + 1) 41 iF _ 3 40 Tryd.underlying27 hiF hzF0 hzF1 hzF2 rfl (by decide) vo Q.length (fnsCells Q us) rfl ((HBT.out.below (HB6'.out.setCell (Nat.le_refl _) _)).alloc _).row ⟨w6.heap.size, 0, none⟩ 1 1 (fnCells ⟨fp, fr, M⟩ (.slice ao6 M.length cap6)) rfl rfl (news_three _ _ _ _ _ _ (by simp)) (fnCells_one _ _ _ _) (by unfold maxLen; omega) (by omega) (by simp; omega) ?_; intro v7 w7 hown7 hg7 _; obtain ⟨ao7, cap7, rfl⟩ := own_shape hown7; have R := built_step (f := ⟨fp, fr, M⟩) (by decide) (by omega) hzr HBT.out HOO.out HG6.out HOW6.out hg7 hown7; have ho7 := R.1; have co7 := cell_of_one ho7; have cf7 := free_of_one ho7))
          have HR := R
          go_roundw
          case rel => exact ⟨k + 1, _, _, _, by omega, by go_num, HR.2.2.2 _ _ (Nat.le_refl _) HBR.out, HR.2.2.1, HR.2.1, HKQ.out⟩
          case measure => simp [intOf]; omega
      · obtain rfl : k = P.length := by omega
        obtain ⟨ao7, cap7, rfl⟩ := own_shape hbt.row
        have HANS : Hid (TrimAns P 0 Q) := HAN.out c Q HCS.out HKT.out
        have c1 := cell_of_one j3
        have f1 := free_of_one j3
        clear hbt hbr
        go_wp2
        exact bodyPost_ret (v := .tuple #[.agg #[.slice ao7 Q.length cap7], .int .i64 0]) (by simp [results, Tryd.results25, go_sem, c1]) rfl ⟨_, _, _, us, rfl, HANS.out, built_mono (HBT.out.setCell (by simp; omega) _) (by omega), HBWR.out.setCell (by simp) _⟩
  · have hC := fun o o' => pcheck_bad P h0 v ((w.alloc o).alloc o') (ht.below (hbx o o')) (hc.below (hbx o o')) (hv.keeps (keeps_below (hbx o o')))
    have HAN : Hid (∀ E : Int, (E != 0) = true → ProofAns P E → TrimAns P E []) := fun E a b => Or.inl ⟨a, b, rfl⟩
    obtain ⟨ao, b, off, n, cap, rfl, _⟩ := hv
    clear h0 hbx ht hc
    go_enter Tryd.func25, Tryd.ntmps25
    go_wp2_with (go_at_call 16; refine (hC _ _).mono ?_; rintro e w1 ⟨E, rfl, hne, hE, hb1⟩; have k1 : w1.heap[w.heap.size + 1]? = some (.cells #[.slice none 0 0] 29 (0, 0)) := (hb1.block _ (by simp)).trans (by simpa only [World.size_alloc] using heap_alloc_new (w.alloc (.cells #[.slice ao n cap] 29)) (.cells #[.slice none 0 0] 29)); have c1 := cell_of_one k1; have f1 := free_of_one k1; have HE : Hid (ProofAns P E) := hE; clear hE)
    have hbw : Below w.heap.size w w1 := (((Below.refl _ _).alloc (Nat.le_refl _) _).alloc (by simp) _).trans (hb1.mono (by simp; omega))
    exact bodyPost_ret (v := .tuple #[.agg #[.slice none 0 0], .int .i64 E]) (by simp [results, Tryd.results25, go_sem, c1]) rfl ⟨_, _, _, _, rfl, HAN.out E hne HE.out, built_nil _ _ _ _, hbw.setCell (by simp) _⟩

end Go.Proofs.YtpkgibdbmmhgdaaDoor
