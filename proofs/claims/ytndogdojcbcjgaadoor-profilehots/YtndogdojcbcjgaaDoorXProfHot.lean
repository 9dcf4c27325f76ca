/- Contracts of profile.sum and of profile.Hot, where nothing is refused. -/
import Derived.Test.YtndogdojcbcjgaaDoorXCountSum
namespace Go.Proofs.YtndogdojcbcjgaaDoor
open Go Go.RowKit

theorem cnt_ended (P : List Fn) (S : St) (n : Nat) (h : (walkS P n S).status ≠ 0) : ∀ d, cntS P S (n + d) = cntS P S n
  | 0 => rfl
  | d + 1 => by
    rw [← Nat.add_assoc, cntS, stepC_end, cnt_ended P S n h d]
    rw [walkS_ended P n (n + d) S (by omega) h]; exact h
/-- Counts of a run that has ended are the same, wherever one looks. -/
theorem cnt_same (P : List Fn) (S : St) (n m : Nat) (h1 : (walkS P n S).status ≠ 0) (h2 : (walkS P m S).status ≠ 0) : cntS P S n = cntS P S m := by
  rcases Nat.le_total n m with h | h
  · obtain ⟨d, rfl⟩ := Nat.exists_eq_add_of_le h; exact (cnt_ended P S n h1 d).symm
  · obtain ⟨d, rfl⟩ := Nat.exists_eq_add_of_le h; exact cnt_ended P S m h2 d
/-- The function that did most of the first ones. -/
structure HotOk (C : List (List Int)) (q h : Nat) (m : Int) : Prop where
  all : ∀ i, i < q → sumL (C.getD i []) ≤ m
  ahead : ∀ i, i < h → sumL (C.getD i []) < m
  le : h ≤ q
  pos : 0 ≤ m
  top : 0 < q → h < q ∧ sumL (C.getD h []) = m
  none : q = 0 → h = 0 ∧ m = 0
theorem HotOk.start (C : List (List Int)) : HotOk C 0 0 0 := ⟨fun i h => by omega, fun i h => by omega, Nat.le_refl _, Int.le_refl _, fun h => by omega, fun _ => ⟨rfl, rfl⟩⟩
theorem HotOk.more {C : List (List Int)} {q h : Nat} {m : Int} (ok : HotOk C q h m) (hn : m < sumL (C.getD q [])) : HotOk C (q + 1) q (sumL (C.getD q [])) :=
  ⟨fun i hi => by
    by_cases e : i = q
    · rw [e]; exact Int.le_refl _
    · have := ok.all i (by omega); omega, fun i hi => by have := ok.all i hi; omega, by omega, by have := ok.pos; omega, fun _ => ⟨by omega, rfl⟩, fun h => by omega⟩
theorem HotOk.less {C : List (List Int)} {q h : Nat} {m : Int} (ok : HotOk C q h m) (h0 : 0 ≤ sumL (C.getD q [])) (hn : ¬ m < sumL (C.getD q [])) : HotOk C (q + 1) h m := by
  refine ⟨fun i hi => ?_, ok.ahead, by have := ok.le; omega, ok.pos, fun _ => ?_, fun h => by omega⟩
  · by_cases e : i = q
    · rw [e]; omega
    · exact ok.all i (by omega)
  · rcases Nat.eq_zero_or_pos q with rfl | hq
    · obtain ⟨rfl, rfl⟩ := ok.none rfl
      exact ⟨by omega, by omega⟩
    · have := ok.top hq; exact ⟨by omega, this.2⟩

set_option maxRecDepth 100000 in
set_option maxHeartbeats 1000000 in
theorem sum_any (l : List Int) (v : Value) (w : World) (h : IntsVal w v l) (hp : ∀ b, 0 ≤ l.getD b 0) (hs : sumL l ≤ 100000) :
    Calls Tryd.prog 69 #[v] w fun e w' => e = .returned (.int .i64 (sumL l)) ∧ w' = w := by
  obtain ⟨ao, b, off, n, cap, rfl, hl, ha, hc, hcp, hm⟩ := ints_get h
  have HC : Hid (∀ q, q < n → ao = some ⟨b, off, none⟩ ∧ w.cell? ⟨b, off + q, none⟩ = some (.int .i64 (l.getD q 0))) := fun q hq => ⟨ha (by omega), hc q hq⟩
  have HPS : Hid (∀ q, 0 ≤ sumL (l.take q) ∧ sumL (l.take q) ≤ 100000) := fun q => by have := sumL_take_le hp q; omega
  have HNX : Hid (∀ q, q < n → sumL (l.take (q + 1)) = sumL (l.take q) + l.getD q 0) := fun q hq => by
    have hql : q < l.length := by omega
    rw [List.take_add_one, List.getElem?_eq_getElem hql, sumL_append]
    simp [sumL, List.getD, hql]
  have HEN : Hid (sumL (l.take n) = sumL l) := by show _ = _; rw [List.take_of_length_le (by omega)]
  have HST : Hid (sumL (l.take 0) = 0) := by show _ = _; simp [sumL]
  clear h ha hc hl hp hs
  go_enter Tryd.func69, Tryd.ntmps69
  go_wp2
  go_loopw [3, 8] (fun c i wr => ∃ q : Nat, q ≤ n ∧ i = .int .i64 q ∧ c = .int .i64 (sumL (l.take q)) ∧ wr = w) (fun _ i _ => n - (intOf i).toNat)
  case atStart => exact ⟨0, Nat.zero_le _, rfl, by rw [HST.out], rfl⟩
  case round =>
    obtain ⟨q, hq, rfl, rfl, hwr⟩ := hrel
    subst hwr
    by_cases hlt : q < n
    · obtain ⟨e1, c1⟩ := HC.out q hlt
      subst e1
      have hqI : (q : Int) < n := by omega
      have h1 := HPS.out q
      have h2 := HPS.out (q + 1)
      have h3 := HNX.out q hlt
      have HN : Hid (sumL (l.take (q + 1)) = sumL (l.take q) + l.getD q 0) := h3
      have hw : IntKind.i64.wrap (sumL (l.take q) + l.getD q 0) = sumL (l.take q) + l.getD q 0 := wrap_fits _ (by omega) (by omega)
      clear h1 h2 h3
      generalize l.getD q 0 = y at *
      generalize sumL (l.take q) = x at *
      go_wp2
      go_roundw
      case rel => exact ⟨q + 1, by omega, by go_num, by rw [HN.out], by trivial⟩
      case measure => simp [intOf]; omega
    · obtain rfl : q = n := by omega
      go_wp2
      go_ret
      exact ⟨by rw [HEN.out]; rfl, by trivial⟩

set_option maxRecDepth 100000 in
set_option maxHeartbeats 4000000 in
theorem hot_any (P : List Fn) (v va vn : Value) (args answers : List Int) (fuel : Nat) (w : World) (ht : TabOk w) (hc : CallOk w) (hR : ProofAns P 0) (hv : ProgVal w v P) (hva : IntsVal w va args) (hvn : IntsVal w vn answers)
    (h1 : (args.length : Int) = par0 P) (h2 : answers.length ≤ 100) (h4 : fuel ≤ 10000) :
    Calls Tryd.prog 34 #[.agg #[v], va, vn, .int .i64 (fuel : Int)] w fun e w' => ∃ (n h : Nat) (m : Int), e = .returned (.tuple #[.int .i64 (h : Int), .int .i64 m, .int .i64 0]) ∧ HotOk (cntS P (beginSt args answers fuel) n) P.length h m ∧ (walkS P n (beginSt args answers fuel)).status ≠ 0 ∧ Below w.heap.size w w' := by
  have hbx : ∀ o, Below w.heap.size w (w.alloc o) := fun o => (Below.refl _ _).alloc (Nat.le_refl _) _
  have hCT := fun o => counts_any P v va vn args answers fuel (w.alloc o) (ht.below (hbx o)) (hc.below (hbx o)) hR (hv.keeps (keeps_below (hbx o))) (hva.keeps (keeps_below (hbx o))) (hvn.keeps (keeps_below (hbx o))) h1 h2 h4
  have hal : args.length ≤ 12 := by
    have := (right_head hR hv).choose_spec.choose_spec.choose_spec
    omega
  have HRV : Hid (RunInv P (beginSt args answers fuel)) := runInv_begin hR args answers fuel hal h2 (by omega) (by omega)
  have hN := (codeProg_zero (right_code hR))
  have hn4 := hN.2.1
  have HSF : Hid ((beginSt args answers fuel).fuel ≤ 10000) := by show (fuel : Int) ≤ 10000; omega
  have HR : Hid (ProofAns P 0) := hR
  obtain ⟨ao, n0, cap0, rfl⟩ := hv.shape
  obtain ⟨aa, ca, rfl⟩ := hva.shape
  obtain ⟨an, cn, rfl⟩ := hvn.shape
  have HBX : Hid _ := hbx
  clear ht hc hv hva hvn hbx hal h1 h2 hR hN
  generalize beginSt args answers fuel = S at *
  go_enter Tryd.func34, Tryd.ntmps34
  go_wp2_with (go_at_call 31; refine (hCT _).mono ?_; rintro e w1 ⟨g, VV, n, rfl, hcn, hend, hgw, hb1⟩)
  have HB1 : Hid (Below w.heap.size w w1) := (HBX.out _).trans (hb1.mono (by simp))
  have HEND : Hid ((walkS P n S).status ≠ 0) := hend
  have hNN : ∀ a b, 0 ≤ cellC (cntS P S n) a b := fun a b => (cnt_cell HR.out HRV.out a b n).1
  have HRW : Hid (∀ i, (hi : i < P.length) → 0 ≤ sumL ((cntS P S n).getD i []) ∧ ∃ r c, w1.cell? ⟨g, i, none⟩ = some (.slice r ((cntS P S n).getD i []).length c) ∧ Calls Tryd.prog 69 #[.slice r ((cntS P S n).getD i []).length c] w1 fun e w' => e = .returned (.int .i64 (sumL ((cntS P S n).getD i []))) ∧ w' = w1) := fun i hi => by
    have ho := hcn.slots.own i hi
    obtain ⟨r, c, e⟩ := own_shape ho
    refine ⟨(sumL_get (fun b => hNN i b) 0).2, r, c, by rw [← e]; exact out_cell hcn.out i hi, ?_⟩
    rw [← e]
    refine sum_any _ _ w1 (ints_of_own ho) (fun b => hNN i b) ?_
    have h1 := (sumLL_get hNN i).1
    rw [cnt_sum HR.out HRV.out n] at h1
    have h2 := HSF.out
    have h3 := ((mayB_iff _).1 (runInv_walk HR.out n HRV.out).may).2.2.1
    omega
  clear hcn hend hgw hb1 hNN hCT
  obtain ⟨C, hC⟩ : ∃ C, C = cntS P S n := ⟨_, rfl⟩
  have HFIN : Hid (∀ h m, HotOk C P.length h m → HotOk (cntS P S n) P.length h m) := fun h m h1 => by rw [← hC]; exact h1
  rw [← hC] at HRW
  clear hC
  go_loopw [13, 14, 28] (fun a b i wr => ∃ (q h : Nat) (m : Int), q ≤ P.length ∧ i = .int .i64 q ∧ a = .int .i64 (h : Int) ∧ b = .int .i64 m ∧ HotOk C q h m ∧ wr = w1) (fun _ _ i _ => P.length - (intOf i).toNat)
  case atStart => exact ⟨0, 0, 0, Nat.zero_le _, rfl, rfl, rfl, HotOk.start C, rfl⟩
  case round =>
    obtain ⟨q, h, m, hq, rfl, rfl, rfl, hok, hwr⟩ := hrel
    subst hwr
    have HOK : Hid (HotOk C q h m) := hok
    clear hok
    by_cases hlt : q < P.length
    · obtain ⟨h0, r, c, cg, hsum⟩ := HRW.out q hlt
      have hqI : (q : Int) < P.length := by omega
      by_cases hn : m < sumL (C.getD q [])
      · have HN : Hid (HotOk C (q + 1) q (sumL (C.getD q []))) := HOK.out.more hn
        have hd : decide (m < sumL (C.getD q [])) = true := by simpa using hn
        clear hn h0
        generalize sumL (C.getD q []) = x at *
        go_wp2_with (go_at_call 69; refine hsum.mono ?_; rintro e w2 ⟨rfl, hw2⟩; replace hw2 := hw2.symm; subst hw2)
        go_roundw
        case rel => exact ⟨q + 1, q, x, by omega, by go_num, rfl, rfl, HN.out, by trivial⟩
        case measure => simp [intOf]; omega
      · have HN : Hid (HotOk C (q + 1) h m) := HOK.out.less h0 hn
        have hd : decide (m < sumL (C.getD q [])) = false := by simpa using hn
        clear hn h0
        generalize sumL (C.getD q []) = x at *
        go_wp2_with (go_at_call 69; refine hsum.mono ?_; rintro e w2 ⟨rfl, hw2⟩; replace hw2 := hw2.symm; subst hw2)
        go_roundw
        case rel => exact ⟨q + 1, h, m, by omega, by go_num, rfl, rfl, HN.out, by trivial⟩
        case measure => simp [intOf]; omega
    · obtain rfl : q = P.length := by omega
      go_wp2
      go_ret3
      exact ⟨n, h, m, rfl, HFIN.out _ _ HOK.out, HEND.out, HB1.out⟩
end Go.Proofs.YtndogdojcbcjgaaDoor
