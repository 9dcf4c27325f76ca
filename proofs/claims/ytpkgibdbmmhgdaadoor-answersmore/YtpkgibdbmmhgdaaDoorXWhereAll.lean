/- Contracts of trim.reached, trim.where and trim.Where. -/
import Derived.Test.YtpkgibdbmmhgdaaDoorXKeptMath
import Derived.Test.YtpkgibdbmmhgdaaDoorGroupC
namespace Go.Proofs.YtpkgibdbmmhgdaaDoor
open Go Go.RowKit

theorem made_ints (c : Nat) : (madeCells (Value.int .i64 0).cells (c * 1)).toList = i64s (List.replicate c 0) := by
  simp [madeCells, i64s, Value.cells]
  apply List.ext_getElem
  · simp
  · intro i h1 h2
    have : i % 1 = 0 := Nat.mod_one i
    simp [this]
theorem iget_set (s : List Int) (i q : Nat) (v : Int) (hi : i < s.length) : (s.set i v).getD q 0 = if q = i then v else s.getD q 0 := by
  rw [List.getD_eq_getElem?_getD, List.getElem?_set, List.getD_eq_getElem?_getD]
  by_cases h : i = q
  · subst h; simp [hi]
  · simp [h, Ne.symm h]

set_option maxRecDepth 100000 in
set_option maxHeartbeats 1000000 in
theorem reached_any (P : List Fn) (hP : codeProg P = 0) (k : Nat) (hk : k < P.length) (v : Value) (w : World) (ht : TabOk w) (hv : ProgVal w v P) :
    Calls Tryd.prog 46 #[.agg #[v], .int .i64 k] w fun e w' => ∃ g s, e = .returned (.slice (some ⟨g, 0, none⟩) P[k].code.length P[k].code.length) ∧ Reach P[k] s ∧ BoolRow w' g P[k].code.length s ∧ w.heap.size ≤ g ∧ Below w.heap.size w w' := by
  obtain ⟨iB, hiB, hzB0, hzB1, hzB2⟩ := info_parts infoBool
  have hfe := fnErr_ok hP hk
  have hfo := (fnOk_of hP (List.getElem_mem hk)).1
  have hl1 := hfo.len1
  have hl2 := hfo.len2
  have HRE : Hid (∀ A, SureAns P k A → A.length = P[k].code.length ∧ ∀ q, q < P[k].code.length → (0 ≤ A.getD q 0 ↔ Way P[k] 63 q)) := fun A hA => reach_sure hfe hk hA
  have hbx : ∀ o, Below w.heap.size w (w.alloc o) := fun o => (Below.refl _ _).alloc (Nat.le_refl _) _
  have hSu := fun o => sure_all P v k (w.alloc o) (ht.below (hbx o)) (hv.keeps (keeps_below (hbx o)))
  rw [hfe] at hSu
  obtain ⟨aoP, nP, capP, rfl⟩ := hv.shape
  have HRO : Hid (∀ s : List Bool, s.length = P[k].code.length → (∀ q, q < P[k].code.length → (s.getD q false = true ↔ Way P[k] 63 q)) → Reach P[k] s) := fun s a b => ⟨a, b⟩
  clear hfo hfe hbx ht hv
  generalize P[k] = f at HRE HRO hl1 hl2 ⊢
  generalize f.code.length = n at HRE HRO hl1 hl2 ⊢
  have hm0 := made_false n
  go_enter Tryd.func46, Tryd.ntmps46
  go_wp2_with (first
    | (go_at_call 17; refine (hSu _).mono ?_; rintro e w1 ⟨v1, A, rfl, hA, hI, hb1⟩; obtain ⟨hAl, hAw⟩ := HRE.out A hA; obtain ⟨ao1, b1, off1, n1, cap1, rfl, hl, ha, hc, hcp, hm⟩ := ints_get hI; obtain rfl : n = n1 := hAl.symm.trans hl; obtain rfl := ha (by omega); have HAW : Hid (∀ q, q < n → (0 ≤ A.getD q 0 ↔ Way f 63 q)) := hAw; have HC : Hid (∀ q, q < n → w1.cell? ⟨b1, off1 + q, none⟩ = some (.int .i64 (A.getD q 0))) := hc; clear hAl hAw hl ha hc hI hA)
    | (at_make; refine wpList_make_full _ rfl (.tmp 17) (.tmp 17) 77 rfl 0 4 iB _ 1 Tryd.underlying77 hiB hzB0 hzB1 .i64 .i64 _ _ n rfl rfl (by simp) (by simp) (by rw [hzB2]; omega) (by unfold maxLen; omega) (Nat.zero_le _) ?_; intro w2 hown2 hg2; rw [hm0] at hown2; have hb2 := below_grown hg2))
  have hz1 : w.heap.size ≤ w1.heap.size := by have := hb1.size; simp at this; omega
  have HB2 : Hid (Below w.heap.size w w2) := below_call (((Below.refl _ _).alloc (Nat.le_refl _) _).trans (hb1.mono (by simp))) hz1 hb2
  have HC2 : Hid (∀ q, q < n → w2.cell? ⟨b1, off1 + q, none⟩ = some (.int .i64 (A.getD q 0))) := fun q hq => keeps_below hb2 _ _ (HC.out q hq)
  have hb1l : b1 < w1.heap.size := World.block_lt_of_cell? _ _ (HC.out 0 (by omega))
  have HOWN : Hid (BoolRow w2 w1.heap.size n (List.replicate n false)) := hown2
  clear hown2 hg2 hb2 HC hSu hb1
  have hz2 := HB2.out.size
  go_loopw [21] (fun i wr => ∃ (q : Nat) (s : List Bool), q ≤ n ∧ i = .int .i64 q ∧ (s.length = n ∧ ∀ j, j < q → s.getD j false = decide (0 ≤ A.getD j 0)) ∧ BoolRow wr w1.heap.size n s ∧ w2.grownBy wr (some w1.heap.size)) (fun i _ => n - (intOf i).toNat)
  case atStart => exact ⟨0, _, Nat.zero_le _, rfl, ⟨by simp, fun j h => by omega⟩, HOWN.out, gb_refl _ _⟩
  case round =>
    obtain ⟨q, s, hq, rfl, hs, hrow, hgr⟩ := hrel
    have HB3 : Hid (Below w.heap.size w wr) := below_gb HB2.out hgr hz1 (by omega)
    by_cases hlt : q < n
    · have c1 := gb_cell hgr (HC2.out q hlt) (by show b1 ≠ _; omega)
      have c2 := bool_cell hrow hs.1 q hlt
      have cf := hrow.frozenAt q
      have HST := bool_store hrow q (decide (0 ≤ A.getD q 0))
      have HX1 : Hid (BoolRow (wr.setCell ⟨w1.heap.size, q, none⟩ (.bool (decide (0 ≤ A.getD q 0)))) w1.heap.size n (s.set q (decide (0 ≤ A.getD q 0)))) := HST.1
      have HX2 : Hid (w2.grownBy (wr.setCell ⟨w1.heap.size, q, none⟩ (.bool (decide (0 ≤ A.getD q 0)))) (some w1.heap.size)) := gb_trans hgr HST.2
      have HS : Hid ((s.set q (decide (0 ≤ A.getD q 0))).length = n ∧ ∀ j, j < q + 1 → (s.set q (decide (0 ≤ A.getD q 0))).getD j false = decide (0 ≤ A.getD j 0)) := ⟨by simp [hs.1], fun j hj => by
        rw [bget_set s q j _ (by omega)]
        by_cases h : j = q
        · rw [if_pos h, h]
        · rw [if_neg h]; exact hs.2 j (by omega)⟩
      have hqI : (q : Int) < n := by omega
      clear HST hs hgr hrow
      generalize A.getD q 0 = z at c1 HX1 HX2 HS
      go_wp2
      go_roundw
      case rel => exact ⟨q + 1, _, by omega, by go_num, HS.out, HX1.out, HX2.out⟩
      case measure => simp [intOf]; omega
    · obtain rfl : q = n := by omega
      have HRS : Hid (Reach f s) := HRO.out s hs.1 fun j hj => by rw [hs.2 j hj, decide_eq_true_eq]; exact HAW.out j hj
      have HRW : Hid (BoolRow wr w1.heap.size q s) := hrow
      clear hs hrow hgr
      go_wp2
      go_ret
      exact ⟨_, s, rfl, HRS.out, HRW.out, hz1, HB3.out⟩

set_option maxRecDepth 100000 in
set_option maxHeartbeats 1000000 in
theorem where_any (n g : Nat) (s : List Bool) (w : World) (h1 : 1 ≤ n) (h2 : n ≤ 1000) (hl : s.length = n) (hr : BoolRow w g n s) :
    Calls Tryd.prog 44 #[.slice (some ⟨g, 0, none⟩) n n] w fun e w' => ∃ g', e = .returned (.slice (some ⟨g', 0, none⟩) n n) ∧ w'.ownsRow 0 3 1 (.slice (some ⟨g', 0, none⟩) n n) n (i64s (whereL s)) ∧ w.heap.size ≤ g' ∧ Below w.heap.size w w' := by
  obtain ⟨i64i, hi64, hz0, hz1', hz2⟩ := info_parts info64
  have hm0 := made_ints n
  have HEQ : Hid (∀ O : List Int, O.length = n → (∀ q, q < n → O.getD q 0 = whereI s q) → O = whereL s) := fun O a b => eq_whereL hl a b
  have HC : Hid (∀ q, q < n → w.cell? ⟨g, q, none⟩ = some (.bool (s.getD q false))) := fun q hq => bool_cell hr hl q hq
  have HY : Hid (∀ q, q < n → s.getD q false = true → ctT s (q + 1) = ctT s q + 1 ∧ whereI s q = ctT s q) := fun q hq h => ⟨ctT_yes (by omega) h, whereI_yes h⟩
  have HN : Hid (∀ q, q < n → s.getD q false = false → ctT s (q + 1) = ctT s q ∧ whereI s q = -1) := fun q hq h => ⟨ctT_no (by omega) h, whereI_no h⟩
  have hgl : g < w.heap.size := (hr.lt g rfl).2
  clear hr hl
  go_enter Tryd.func44, Tryd.ntmps44
  go_wp2_with (at_make; refine wpList_make_full _ rfl (.tmp 8) (.tmp 8) 24 rfl 0 3 i64i _ 1 Tryd.underlying24 hi64 hz0 hz1' .i64 .i64 _ _ n rfl rfl (by simp) (by simp) (by rw [hz2]; omega) (by unfold maxLen; omega) (Nat.zero_le _) ?_; intro w2 hown2 hg2; rw [hm0] at hown2; have hb2 := below_grown hg2)
  have HB2 : Hid (Below w.heap.size w w2) := hb2
  have HC2 : Hid (∀ q, q < n → w2.cell? ⟨g, q, none⟩ = some (.bool (s.getD q false))) := fun q hq => keeps_below hb2 _ _ (HC.out q hq)
  have HOWN : Hid (w2.ownsRow 0 3 1 (.slice (some ⟨w.heap.size, 0, none⟩) n n) n (i64s (List.replicate n 0))) := hown2
  have hz2 := hb2.size
  clear hown2 hg2 hb2 HC
  go_loopw [4, 12] (fun c i wr => ∃ (q : Nat) (O : List Int), q ≤ n ∧ i = .int .i64 q ∧ c = .int .i64 (ctT s q : Nat) ∧ (O.length = n ∧ ∀ j, j < q → O.getD j 0 = whereI s j) ∧ wr.ownsRow 0 3 1 (.slice (some ⟨w.heap.size, 0, none⟩) n n) n (i64s O) ∧ w2.grownBy wr (some w.heap.size)) (fun _ i _ => n - (intOf i).toNat)
  case atStart => exact ⟨0, _, Nat.zero_le _, rfl, by simp [ctT_zero], ⟨by simp, fun j h => by omega⟩, HOWN.out, gb_refl _ _⟩
  case round =>
    obtain ⟨q, O, hq, rfl, rfl, hO, hrow, hgr⟩ := hrel
    have HB3 : Hid (Below w.heap.size w wr) := below_gb HB2.out hgr (Nat.le_refl _) (by omega)
    by_cases hlt : q < n
    · have c1 := gb_cell hgr (HC2.out q hlt) (by show g ≠ _; omega)
      have c2 := row_cell hrow q hlt
      have cf := hrow.frozenAt q
      have HST := row_store hrow q (-1)
      have HX1 : Hid ((wr.setCell ⟨w.heap.size, q, none⟩ (.int .i64 (-1))).ownsRow 0 3 1 (.slice (some ⟨w.heap.size, 0, none⟩) n n) n (i64s (O.set q (-1)))) := HST.1
      have HX2 : Hid (w2.grownBy (wr.setCell ⟨w.heap.size, q, none⟩ (.int .i64 (-1))) (some w.heap.size)) := gb_trans hgr HST.2
      have hset : ∀ z, z = whereI s q → (O.set q z).length = n ∧ ∀ j, j < q + 1 → (O.set q z).getD j 0 = whereI s j := fun z hz => ⟨by simp [hO.1], fun j hj => by
        rw [iget_set O q j _ (by omega)]
        by_cases h : j = q
        · rw [if_pos h, h]; exact hz
        · rw [if_neg h]; exact hO.2 j (by omega)⟩
      have hqI : (q : Int) < n := by omega
      have hct := ctT_le s q
      cases hs : s.getD q false
      · obtain ⟨e1, e2⟩ := HN.out q hlt hs
        have HS : Hid _ := hset (-1) e2.symm
        have HCT : Hid (ctT s (q + 1) = ctT s q) := e1
        rw [hs] at c1
        clear HST hgr hrow hset e1 e2 hO hs
        go_wp2
        go_roundw
        case rel => exact ⟨q + 1, _, by omega, by go_num, by rw [HCT.out], HS.out, HX1.out, HX2.out⟩
        case measure => simp [intOf]; omega
      · obtain ⟨e1, e2⟩ := HY.out q hlt hs
        have HS : Hid _ := hset (ctT s q) e2.symm
        have HCT : Hid (ctT s (q + 1) = ctT s q + 1) := e1
        have c3 := row_cell HX1.out q hlt
        have cf3 := HX1.out.frozenAt q
        have HST2 := row_store HX1.out q (ctT s q)
        rw [List.set_set] at HST2
        have HX3 : Hid _ := HST2.1
        have HX4 : Hid _ := gb_trans HX2.out HST2.2
        rw [hs] at c1
        clear HST HST2 hgr hrow hset e1 e2 hO hs
        generalize ctT s q = c at *
        go_wp2
        go_roundw
        case rel => exact ⟨q + 1, _, by omega, by go_num, by rw [HCT.out]; go_num, HS.out, HX3.out, HX4.out⟩
        case measure => simp [intOf]; omega
    · obtain rfl : q = n := by omega
      obtain rfl := HEQ.out O hO.1 hO.2
      have HRW : Hid (wr.ownsRow 0 3 1 (.slice (some ⟨w.heap.size, 0, none⟩) q q) q (i64s (whereL s))) := hrow
      clear hrow hgr hO
      go_wp2
      go_ret
      exact ⟨_, rfl, HRW.out, Nat.le_refl _, HB3.out⟩


theorem pcheck_zero (P : List Fn) (h : ProofAns P 0) (v : Value) (w : World) (ht : TabOk w) (hc : CallOk w) (hv : ProgVal w v P) :
    Calls Tryd.prog 16 #[.agg #[v]] w fun e w' => e = .returned (.int .i64 0) ∧ Below w.heap.size w w' :=
  (pcheck_any P v w ht hc hv).mono fun _ _ ⟨_, he, hE, hb⟩ => ⟨by rw [he, proofAns_unique hE h], hb⟩
theorem pcheck_bad (P : List Fn) (h : ¬ ProofAns P 0) (v : Value) (w : World) (ht : TabOk w) (hc : CallOk w) (hv : ProgVal w v P) :
    Calls Tryd.prog 16 #[.agg #[v]] w fun e w' => ∃ E, e = .returned (.int .i64 E) ∧ (E != 0) = true ∧ ProofAns P E ∧ Below w.heap.size w w' :=
  (pcheck_any P v w ht hc hv).mono fun _ _ ⟨E, he, hE, hb⟩ => ⟨E, he, by simp only [bne_iff_ne, ne_eq]; intro h0; exact h (h0 ▸ hE), hE, hb⟩

/-- What a call that answers P5.1 leaves. -/
def WherePost (P : List Fn) (fn : Int) (w : World) (e : Ending) (w' : World) : Prop :=
  ∃ v' E A, e = .returned (.tuple #[v', .int .i64 E]) ∧ WhereAns P fn E A ∧ IntsVal w' v' A ∧ Below w.heap.size w w'

theorem own_row_ints {w : World} {g n : Nat} {l : List Int} (h : w.ownsRow 0 3 1 (.slice (some ⟨g, 0, none⟩) n n) n (i64s l)) (hl : l.length = n) : IntsVal w (.slice (some ⟨g, 0, none⟩) n n) l := by
  rw [← hl] at h ⊢
  exact ints_of_own h

set_option maxRecDepth 100000 in
set_option maxHeartbeats 1000000 in
theorem Where_any (P : List Fn) (v : Value) (fn : Int) (w : World) (ht : TabOk w) (hc : CallOk w) (hv : ProgVal w v P) :
    Calls Tryd.prog 27 #[.agg #[v], .int .i64 fn] w fun e w' => WherePost P fn w e w' := by
  have hbx : ∀ o, Below w.heap.size w (w.alloc o) := fun o => (Below.refl _ _).alloc (Nat.le_refl _) _
  by_cases h0 : ProofAns P 0
  · have hC := fun o => pcheck_zero P h0 v (w.alloc o) (ht.below (hbx o)) (hc.below (hbx o)) (hv.keeps (keeps_below (hbx o)))
    have hP := proof_code h0
    have hp1 := (codeProg_zero hP).1
    have hp4 := (codeProg_zero hP).2.1
    by_cases hr : 0 ≤ fn ∧ fn < P.length
    · obtain ⟨k, rfl⟩ := Int.eq_ofNat_of_zero_le hr.1
      have hk : k < P.length := by omega
      have hR := fun W (hb : Below w.heap.size w W) => reached_any P hP k hk v W (ht.below hb) (hv.keeps (keeps_below hb))
      have hok := (fnOk_of hP (List.getElem_mem hk)).1
      have hl1 := hok.len1
      have hl2 := hok.len2
      have HAN : Hid (∀ s, Reach P[k] s → s.length = P[k].code.length ∧ WhereAns P k 0 (whereL s)) := fun s hs => ⟨hs.1, Or.inr (Or.inr ⟨h0, rfl, k, rfl, hk, s, hs, rfl⟩)⟩
      obtain ⟨ao, b, off, n, cap, rfl, ⟨hlen, _, _⟩, hcap, hmax⟩ := hv
      unfold maxLen at hmax
      have hkI : (k : Int) < n := by omega
      have hgeB : decide ((n : Int) ≤ (k : Int)) = false := by simp only [decide_eq_false_iff_not]; omega
      clear h0 hP hr hok hbx ht hc
      generalize P[k] = f at hR HAN hl1 hl2
      generalize f.code.length = m at hR HAN hl1 hl2
      go_enter Tryd.func27, Tryd.ntmps27
      go_wp2_with (first
        | (go_at_call 16; refine (hC _).mono ?_; rintro e w1 ⟨rfl, hb1⟩; have k0 := keeps_below hb1 ⟨w.heap.size, 0, none⟩ (.slice ao n cap) (by simp); have HB1 : Hid (Below w.heap.size w w1) := ((Below.refl _ _).alloc (Nat.le_refl _) _).trans (hb1.mono (by simp)); have hz1 : w.heap.size ≤ w1.heap.size := HB1.out.size; clear hb1)
        | (go_at_call 46; refine (hR _ HB1.out).mono ?_; rintro e w2 ⟨g, s, rfl, hre, hrow, hg, hb2⟩; obtain ⟨hsl, HAS⟩ := HAN.out s hre; have hW := where_any m g s w2 (by omega) (by omega) hsl hrow; have HB2 : Hid (Below w.heap.size w w2) := below_call HB1.out hz1 hb2; clear hre hrow hb2)
        | (go_at_call 44; refine hW.mono ?_; rintro e w3 ⟨g3, rfl, hown3, hg3, hb3⟩))
      go_ret2
      have hz2 := HB2.out.size
      exact ⟨_, _, _, rfl, HAS, own_row_ints hown3 (by rw [whereL_length, hsl]), below_call HB2.out hz2 hb3⟩
    · have HAN : Hid (WhereAns P fn 2 []) := Or.inr (Or.inl ⟨h0, hr, rfl, rfl⟩)
      obtain ⟨ao, b, off, n, cap, rfl, ⟨hlen, _, _⟩, hcap, hmax⟩ := hv
      unfold maxLen at hmax
      rw [hlen] at hr hp1 hp4
      clear h0 hP hbx ht hc hlen
      by_cases hn : fn < 0
      · have hneg : decide (fn < 0) = true := by simpa using hn
        clear hr
        go_enter Tryd.func27, Tryd.ntmps27
        go_wp2_with (first
          | (go_at_call 16; refine (hC _).mono ?_; rintro e w1 ⟨rfl, hb1⟩; have k0 := keeps_below hb1 ⟨w.heap.size, 0, none⟩ (.slice ao n cap) (by simp)))
        go_ret2
        exact ⟨_, _, _, rfl, HAN.out, ints_nil _, ((Below.refl _ _).alloc (Nat.le_refl _) _).trans (hb1.mono (by simp))⟩
      · have hneg : decide (fn < 0) = false := by simpa using hn
        have hge : decide ((n : Int) ≤ fn) = true := by simp only [decide_eq_true_eq]; omega
        clear hr hn
        go_enter Tryd.func27, Tryd.ntmps27
        go_wp2_with (first
          | (go_at_call 16; refine (hC _).mono ?_; rintro e w1 ⟨rfl, hb1⟩; have k0 := keeps_below hb1 ⟨w.heap.size, 0, none⟩ (.slice ao n cap) (by simp)))
        go_ret2
        exact ⟨_, _, _, rfl, HAN.out, ints_nil _, ((Below.refl _ _).alloc (Nat.le_refl _) _).trans (hb1.mono (by simp))⟩
  · have hC := fun o => pcheck_bad P h0 v (w.alloc o) (ht.below (hbx o)) (hc.below (hbx o)) (hv.keeps (keeps_below (hbx o)))
    have HAN : Hid (∀ E : Int, (E != 0) = true → ProofAns P E → WhereAns P fn E []) := fun E a b => Or.inl ⟨by simpa using a, b, rfl⟩
    obtain ⟨ao, b, off, n, cap, rfl, _⟩ := hv
    clear h0 hbx ht hc
    go_enter Tryd.func27, Tryd.ntmps27
    go_wp2_with (go_at_call 16; refine (hC _).mono ?_; rintro e w1 ⟨E, rfl, hne, hE, hb1⟩; have HE : Hid (ProofAns P E) := hE; clear hE)
    go_ret2
    exact ⟨_, _, _, rfl, HAN.out E hne HE.out, ints_nil _, ((Below.refl _ _).alloc (Nat.le_refl _) _).trans (hb1.mono (by simp))⟩

end Go.Proofs.YtpkgibdbmmhgdaaDoor
