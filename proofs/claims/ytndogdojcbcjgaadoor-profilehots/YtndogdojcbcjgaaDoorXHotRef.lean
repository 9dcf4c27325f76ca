/- Contracts of profile.Hot and of the document's HotOf (package tierlineref) at every argument. -/
import Derived.Test.YtndogdojcbcjgaaDoorXProfAll
namespace Go.Proofs.YtndogdojcbcjgaaDoor
open Go Go.RowKit

theorem sumL_next (l : List Int) (t : Nat) (h : t < l.length) : sumL (l.take (t + 1)) = sumL (l.take t) + l.getD t 0 := by
  rw [List.take_add_one, List.getElem?_eq_getElem h, sumL_append]
  simp [sumL, List.getD, h]
/-- The function that did most of the last ones. -/
structure HotDn (C : List (List Int)) (N q h : Nat) (m : Int) : Prop where
  all : ∀ i, q ≤ i → i < N → sumL (C.getD i []) ≤ m
  first : ∀ i, q ≤ i → i < h → sumL (C.getD i []) < m
  top : q < N → q ≤ h ∧ h < N ∧ sumL (C.getD h []) = m
  pos : 0 ≤ m
  none : q = N → m = 0
  le : h < N
theorem HotDn.start (C : List (List Int)) {N h : Nat} (hN : N = h + 1) : HotDn C N N h 0 := ⟨fun i h1 h2 => by omega, fun i h1 h2 => by omega, fun h => by omega, Int.le_refl _, fun _ => rfl, by omega⟩
theorem HotDn.more {C : List (List Int)} {N q h : Nat} {m : Int} (ok : HotDn C N (q + 1) h m) (hq : q < N) (hn : m ≤ sumL (C.getD q [])) : HotDn C N q q (sumL (C.getD q [])) :=
  ⟨fun i h1 h2 => by
    by_cases e : i = q
    · rw [e]; exact Int.le_refl _
    · have := ok.all i (by omega) h2; omega, fun i h1 h2 => by omega, fun _ => ⟨Nat.le_refl _, hq, rfl⟩, by have := ok.pos; omega, fun h => by omega, hq⟩
theorem HotDn.less {C : List (List Int)} {N q h : Nat} {m : Int} (ok : HotDn C N (q + 1) h m) (h0 : 0 ≤ sumL (C.getD q [])) (hq : q < N) (hn : ¬ m ≤ sumL (C.getD q [])) : HotDn C N q h m := by
  refine ⟨fun i h1 h2 => ?_, fun i h1 h2 => ?_, fun _ => ?_, ok.pos, fun h => by omega, ok.le⟩
  · by_cases e : i = q
    · rw [e]; omega
    · exact ok.all i (by omega) h2
  · by_cases e : i = q
    · rw [e]; omega
    · exact ok.first i (by omega) h2
  · by_cases e : q + 1 = N
    · have := ok.none e; omega
    · have := ok.top (by omega); exact ⟨by omega, this.2⟩
theorem HotDn.ok {C : List (List Int)} {N h : Nat} {m : Int} (hN : 0 < N) (ok : HotDn C N 0 h m) : HotOk C N h m :=
  ⟨fun i hi => ok.all i (by omega) hi, fun i hi => ok.first i (by omega) hi, by have := ok.le; omega, ok.pos, fun _ => (ok.top hN).2, fun h => by omega⟩
theorem HotOk.unique {C : List (List Int)} {N h h' : Nat} {m m' : Int} (hN : 0 < N) (a : HotOk C N h m) (b : HotOk C N h' m') : h = h' ∧ m = m' := by
  obtain ⟨a1, a2⟩ := a.top hN
  obtain ⟨b1, b2⟩ := b.top hN
  have c1 := a.all h' b1
  have c2 := b.all h a1
  have e : m = m' := by omega
  refine ⟨?_, e⟩
  rcases Nat.lt_trichotomy h h' with h1 | h1 | h1
  · have := b.ahead h h1; omega
  · exact h1
  · have := a.ahead h' h1; omega
/-- What both answer. -/
def HotPost (P : List Fn) (args answers : List Int) (fuel c : Int) (w : World) (e : Ending) (w' : World) : Prop :=
  ∃ (h : Nat) (m : Int), e = .returned (.tuple #[.int .i64 (h : Int), .int .i64 m, .int .i64 c]) ∧ (c = 0 → HotOk (cntA P args answers fuel c) P.length h m) ∧ (c ≠ 0 → h = 0 ∧ m = 0) ∧ Below w.heap.size w w'

set_option maxRecDepth 100000 in
set_option maxHeartbeats 2000000 in
theorem hot_bad (P : List Fn) (v va vn : Value) (args answers : List Int) (fuel c : Int) (w : World) (ht : TabOk w) (hc : CallOk w) (hv : ProgVal w v P) (hva : IntsVal w va args) (hvn : IntsVal w vn answers) (hE : ∀ E, ProofAns P E → beginE E P args answers fuel = c) (h0 : ¬ c = 0) :
    Calls Tryd.prog 34 #[.agg #[v], va, vn, .int .i64 fuel] w fun e w' => e = .returned (.tuple #[.int .i64 0, .int .i64 0, .int .i64 c]) ∧ Below w.heap.size w w' := by
  have hbx : ∀ o, Below w.heap.size w (w.alloc o) := fun o => (Below.refl _ _).alloc (Nat.le_refl _) _
  have HCT : Hid _ := fun o => counts_bad P v va vn args answers fuel c (w.alloc o) (ht.below (hbx o)) (hc.below (hbx o)) (hv.keeps (keeps_below (hbx o))) (hva.keeps (keeps_below (hbx o))) (hvn.keeps (keeps_below (hbx o))) hE h0
  obtain ⟨ao, n0, cap0, rfl⟩ := hv.shape
  obtain ⟨aa, ca, rfl⟩ := hva.shape
  obtain ⟨an, cn, rfl⟩ := hvn.shape
  have HBX : Hid _ := hbx
  clear ht hc hv hva hvn hbx hE h0
  go_enter Tryd.func34, Tryd.ntmps34
  go_wp2_with (go_at_call 31; refine (HCT.out _).mono ?_; rintro e w1 ⟨rfl, hb1⟩)
  have HB1 : Hid (Below w.heap.size w w1) := (HBX.out _).trans (hb1.mono (by simp))
  clear hb1
  go_loopw [13, 14, 28] (fun a b i wr => i = .int .i64 0 ∧ a = .int .i64 0 ∧ b = .int .i64 0 ∧ wr = w1) (fun _ _ _ _ => 0)
  case atStart => exact ⟨rfl, rfl, rfl, rfl⟩
  case round =>
    obtain ⟨rfl, rfl, rfl, hwr⟩ := hrel
    subst hwr
    go_wp2
    go_ret3
    exact ⟨rfl, HB1.out⟩

set_option maxRecDepth 100000 in
set_option maxHeartbeats 2000000 in
theorem hotOf_bad (P : List Fn) (v va vn : Value) (args answers : List Int) (fuel c : Int) (w : World) (hv : ProgVal w v P) (hva : IntsVal w va args) (hvn : IntsVal w vn answers) (hE : ∀ E, ProofAns P E → beginE E P args answers fuel = c) (h0 : ¬ c = 0) :
    Calls Tryd.prog 35 #[.agg #[v], va, vn, .int .i64 fuel] w fun e w' => e = .returned (.tuple #[.int .i64 0, .int .i64 0, .int .i64 c]) ∧ Below w.heap.size w w' := by
  have hbx : ∀ o, Below w.heap.size w (w.alloc o) := fun o => (Below.refl _ _).alloc (Nat.le_refl _) _
  have HCT : Hid _ := fun o => countsOf_bad P v va vn args answers fuel c (w.alloc o) (hv.keeps (keeps_below (hbx o))) (hva.keeps (keeps_below (hbx o))) (hvn.keeps (keeps_below (hbx o))) hE h0
  obtain ⟨ao, n0, cap0, rfl⟩ := hv.shape
  obtain ⟨aa, ca, rfl⟩ := hva.shape
  obtain ⟨an, cn, rfl⟩ := hvn.shape
  have HBX : Hid _ := hbx
  have hcb : (c != 0) = true := by simpa using h0
  clear hv hva hvn hbx hE h0
  go_enter Tryd.func35, Tryd.ntmps35
  go_wp2_with (go_at_call 32; refine (HCT.out _).mono ?_; rintro e w1 ⟨rfl, hb1⟩)
  go_ret3
  exact ⟨rfl, (HBX.out _).trans (hb1.mono (by simp))⟩

set_option maxRecDepth 100000 in
set_option maxHeartbeats 4000000 in
theorem hotOf_ok (P : List Fn) (v va vn : Value) (args answers : List Int) (fuel : Nat) (w : World) (hR : ProofAns P 0) (hv : ProgVal w v P) (hva : IntsVal w va args) (hvn : IntsVal w vn answers)
    (h1 : (args.length : Int) = par0 P) (h2 : answers.length ≤ 100) (h4 : fuel ≤ 10000) (hP : FitP P) (hfa : ∀ z ∈ args, Fits z) (hfn : ∀ z ∈ answers, Fits z) :
    Calls Tryd.prog 35 #[.agg #[v], va, vn, .int .i64 (fuel : Int)] w fun e w' => ∃ (h : Nat) (m : Int), e = .returned (.tuple #[.int .i64 (h : Int), .int .i64 m, .int .i64 0]) ∧ HotOk (cntA P args answers (fuel : Int) 0) P.length h m ∧ Below w.heap.size w w' := by
  have hbx : ∀ o, Below w.heap.size w (w.alloc o) := fun o => (Below.refl _ _).alloc (Nat.le_refl _) _
  have hal : args.length ≤ 12 := by
    have := (right_head hR hv).choose_spec.choose_spec.choose_spec
    omega
  have hI : RunInv P (beginSt args answers fuel) := runInv_begin hR args answers fuel hal h2 (by omega) (by omega)
  have hE : ∀ E, ProofAns P E → beginE E P args answers (fuel : Int) = 0 := fun E hE => by
    obtain rfl := proofAns_unique hE hR
    unfold beginE
    rw [if_neg (by simp), if_neg (by omega), if_neg (by omega)]
  have HCT : Hid (∀ o, Calls Tryd.prog 32 #[.agg #[v], va, vn, .int .i64 (fuel : Int)] (w.alloc o) fun e w' => ∃ v', e = .returned (.tuple #[v', .int .i64 0]) ∧ ListsVal w' v' (cntA P args answers (fuel : Int) 0) ∧ Below (w.alloc o).heap.size (w.alloc o) w') := fun o => countsOf_all P v va vn args answers fuel 0 (w.alloc o) (hv.keeps (keeps_below (hbx o))) (hva.keeps (keeps_below (hbx o))) (hvn.keeps (keeps_below (hbx o))) hE (fun _ => ⟨hR, h1, h2, by omega, by omega⟩) hP hfa hfn
  have eC : cntA P args answers (fuel : Int) 0 = cntS P (beginSt args answers fuel) (fuel + 1) := by unfold cntA; rw [if_pos rfl]; rfl
  have hCL : (cntA P args answers (fuel : Int) 0).length = P.length := by rw [eC]; exact (cshape_cnt P _ _).1
  have hNN : ∀ a b, 0 ≤ cellC (cntA P args answers (fuel : Int) 0) a b := fun a b => by rw [eC]; exact (cnt_cell hR hI a b _).1
  have HS : Hid (∀ i, (∀ b, 0 ≤ ((cntA P args answers (fuel : Int) 0).getD i []).getD b 0) ∧ 0 ≤ sumL ((cntA P args answers (fuel : Int) 0).getD i []) ∧ sumL ((cntA P args answers (fuel : Int) 0).getD i []) ≤ 100000) := fun i => by
    refine ⟨fun b => hNN i b, (sumL_get (fun b => hNN i b) 0).2, ?_⟩
    have e1 := (sumLL_get hNN i).1
    rw [eC] at e1 ⊢
    rw [cnt_sum hR hI (fuel + 1)] at e1
    have e2 : (beginSt args answers fuel).fuel ≤ 10000 := by show (fuel : Int) ≤ 10000; omega
    have e3 := ((mayB_iff _).1 (runInv_walk hR (fuel + 1) hI).may).2.2.1
    omega
  obtain ⟨hN1, hN4, -⟩ := codeProg_zero (right_code hR)
  obtain ⟨ao, n0, cap0, rfl⟩ := hv.shape
  obtain ⟨aa, ca, rfl⟩ := hva.shape
  obtain ⟨an, cn, rfl⟩ := hvn.shape
  have HBX : Hid _ := hbx
  clear hv hva hvn hbx hal hI hE h1 h2 hR hP hfa hfn eC hNN
  generalize cntA P args answers (fuel : Int) 0 = C at *
  generalize P.length = N at *
  obtain ⟨n1, hn1⟩ : ∃ n1, N = n1 + 1 := ⟨N - 1, by omega⟩
  have HN1 : Hid (N = n1 + 1) := hn1
  have hM0 : IntKind.i64.wrap ((N : Int) - 1) = (n1 : Int) := by rw [show (N : Int) - 1 = n1 by omega]; exact wrap_fits _ (by omega) (by omega)
  have HCL : Hid (C.length = N) := hCL
  clear hn1 hCL
  go_enter Tryd.func35, Tryd.ntmps35
  go_upto_region 7 with (go_at_call 32; refine (HCT.out _).mono ?_; rintro e w1 ⟨v1, rfl, hL, hb1⟩; obtain ⟨al, gl, capl, rfl, hl1, hl2, hl3⟩ := hL; rw [HCL.out])
  have HB1 : Hid (Below w.heap.size w w1) := (HBX.out _).trans (hb1.mono (by simp))
  have HRW : Hid (∀ i, i < N → al = some ⟨gl, 0, none⟩ ∧ ∃ ra rb roff rn rc, w1.cell? ⟨gl, i, none⟩ = some (.slice ra rn rc) ∧ (C.getD i []).length = rn ∧ rn ≤ rc ∧ rc ≤ 9223372036854775807 ∧ ∀ k, k < rn → ra = some ⟨rb, roff, none⟩ ∧ w1.cell? ⟨rb, roff + k, none⟩ = some (.int .i64 ((C.getD i []).getD k 0))) := fun i hi => by
    obtain ⟨e1, ao', cap', e2, e3⟩ := hl3 i (by rw [HCL.out]; exact hi)
    refine ⟨e1, ?_⟩
    obtain ⟨ra, rb, roff, rn, rc, e, hl, ha, hc, hcp, hm⟩ := ints_get e3
    rw [e] at e2
    exact ⟨ra, rb, roff, rn, rc, e2, hl, hcp, hm, fun k hk => ⟨ha (by omega), hc k hk⟩⟩
  have hlc : N ≤ capl := by rw [HCL.out] at hl1; exact hl1
  clear hb1 hl1 hl3
  go_loopw [13, 14, 15] (fun a b i wr => ∃ (q h : Nat) (m z : Int), q ≤ N ∧ z = (q : Int) - 1 ∧ i = .int .i64 z ∧ a = .int .i64 (h : Int) ∧ b = .int .i64 m ∧ HotDn C N q h m ∧ wr = w1) (fun _ _ i _ => (intOf i + 1).toNat)
  case atStart => exact ⟨N, n1, 0, (n1 : Int), Nat.le_refl _, by have := HN1.out; omega, rfl, rfl, rfl, HotDn.start C HN1.out, rfl⟩
  case round =>
    rename World => wl
    obtain ⟨q, h, m, z, hq, hz, rfl, rfl, rfl, hok, hwr⟩ := hrel
    subst hwr
    have HOK : Hid (HotDn C N q h m) := hok
    clear hok
    cases q with
    | zero =>
      obtain rfl : z = -1 := by omega
      clear hz
      go_wp2
      go_ret3
      exact ⟨h, m, rfl, HOK.out.ok (by omega), HB1.out⟩
    | succ u =>
      obtain rfl : z = (u : Int) := by omega
      clear hz
      obtain ⟨rfl, ra, rb, roff, rn, rc, cg, hrl, hrc, hrm, hcell⟩ := HRW.out u (by omega)
      obtain ⟨hp, hs0, hs1⟩ := HS.out u
      have huN : (u : Int) < N := by omega
      have huN2 : u < N := by omega
      obtain ⟨z1, hz1e⟩ : ∃ z1 : Int, z1 = (u : Int) - 1 := ⟨_, rfl⟩
      have hw1 : IntKind.i64.wrap ((u : Int) - 1) = z1 := by rw [hz1e]; exact wrap_signed _ (by omega) (by omega)
      have HZ1 : Hid (z1 = (u : Int) - 1) := hz1e
      have HMO : Hid (m ≤ sumL (C.getD u []) → HotDn C N u u (sumL (C.getD u []))) := fun hn => HOK.out.more huN2 hn
      have HLE : Hid (¬ m ≤ sumL (C.getD u []) → HotDn C N u h m) := fun hn => HOK.out.less hs0 huN2 hn
      have HPS : Hid (∀ t, 0 ≤ sumL ((C.getD u []).take t) ∧ sumL ((C.getD u []).take t) ≤ 100000) := fun t => by have := sumL_take_le hp t; omega
      have HNX : Hid (∀ t, t < rn → sumL ((C.getD u []).take (t + 1)) = sumL ((C.getD u []).take t) + (C.getD u []).getD t 0) := fun t ht => sumL_next _ t (by omega)
      have HEN : Hid (sumL ((C.getD u []).take rn) = sumL (C.getD u [])) := by show _ = _; rw [List.take_of_length_le (by omega)]
      have HCE : Hid _ := hcell
      clear hz1e hp hrl hcell HOK
      generalize C.getD u [] = row at *
      go_wp2
      go_loopw [16, 17] (fun a i wr => ∃ t : Nat, t ≤ rn ∧ i = .int .i64 t ∧ a = .int .i64 (sumL (row.take t)) ∧ wr = wl) (fun _ i _ => rn - (intOf i).toNat)
      case atStart => exact ⟨0, Nat.zero_le _, rfl, by simp [sumL], rfl⟩
      case round =>
        rename World => wk
        obtain ⟨t, ht, rfl, rfl, hwr⟩ := hrel
        subst hwr
        by_cases htn : t < rn
        · obtain ⟨rfl, c1⟩ := HCE.out t htn
          have htI : (t : Int) < rn := by omega
          have e1 := HPS.out t
          have e2 := HPS.out (t + 1)
          have e3 := HNX.out t htn
          have HN : Hid (sumL (row.take (t + 1)) = sumL (row.take t) + row.getD t 0) := e3
          have hw : IntKind.i64.wrap (sumL (row.take t) + row.getD t 0) = sumL (row.take t) + row.getD t 0 := wrap_fits _ (by omega) (by omega)
          clear e1 e2 e3
          generalize row.getD t 0 = y at *
          generalize sumL (row.take t) = x at *
          go_wp2
          go_roundw
          case rel => exact ⟨t + 1, by omega, by go_num, by rw [HN.out], by trivial⟩
          case measure => simp [intOf]; omega
        · obtain rfl : t = rn := by omega
          rw [HEN.out]
          clear HEN HNX HPS HCE
          by_cases hn : m ≤ sumL row
          · have HD : Hid (HotDn C N u u (sumL row)) := HMO.out hn
            have hd : decide (m ≤ sumL row) = true := by simpa using hn
            clear hn HMO HLE
            generalize sumL row = x at *
            go_wp2
            go_roundw
            case rel => exact ⟨u, u, x, z1, by omega, HZ1.out, rfl, rfl, rfl, HD.out, by trivial⟩
            case measure => have := HZ1.out; simp [intOf]; omega
          · have HD : Hid (HotDn C N u h m) := HLE.out (by omega)
            have hd : decide (m ≤ sumL row) = false := by simpa using hn
            clear hn HMO HLE
            generalize sumL row = x at *
            go_wp2
            go_roundw
            case rel => exact ⟨u, h, m, z1, by omega, HZ1.out, rfl, rfl, rfl, HD.out, by trivial⟩
            case measure => have := HZ1.out; simp [intOf]; omega
theorem hot_all (P : List Fn) (v va vn : Value) (args answers : List Int) (fuel c : Int) (w : World) (ht : TabOk w) (hc : CallOk w) (hv : ProgVal w v P) (hva : IntsVal w va args) (hvn : IntsVal w vn answers) (hE : ∀ E, ProofAns P E → beginE E P args answers fuel = c) (h0 : c = 0 → ProofAns P 0 ∧ (args.length : Int) = par0 P ∧ answers.length ≤ 100 ∧ 0 ≤ fuel ∧ fuel ≤ 10000) :
    Calls Tryd.prog 34 #[.agg #[v], va, vn, .int .i64 fuel] w (HotPost P args answers fuel c w) := by
  by_cases hc0 : c = 0
  · obtain ⟨hR, k1, k2, k3, k4⟩ := h0 hc0
    subst hc0
    obtain ⟨n, rfl⟩ := Int.eq_ofNat_of_zero_le k3
    have hal : args.length ≤ 12 := by
      have := (right_head hR hv).choose_spec.choose_spec.choose_spec
      omega
    refine (hot_any P v va vn args answers n w ht hc hR hv hva hvn k1 k2 (by omega)).mono ?_
    rintro e w' ⟨m, h, x, rfl, hok, hm, hb⟩
    exact ⟨h, x, rfl, fun _ => by rw [cntA_ok hR hal k2 (by omega) hm]; exact hok, fun h => absurd rfl h, hb⟩
  · refine (hot_bad P v va vn args answers fuel c w ht hc hv hva hvn hE hc0).mono ?_
    rintro e w' ⟨rfl, hb⟩
    exact ⟨0, 0, rfl, fun h => absurd h hc0, fun _ => ⟨rfl, rfl⟩, hb⟩
theorem hotOf_all (P : List Fn) (v va vn : Value) (args answers : List Int) (fuel c : Int) (w : World) (hv : ProgVal w v P) (hva : IntsVal w va args) (hvn : IntsVal w vn answers) (hE : ∀ E, ProofAns P E → beginE E P args answers fuel = c) (h0 : c = 0 → ProofAns P 0 ∧ (args.length : Int) = par0 P ∧ answers.length ≤ 100 ∧ 0 ≤ fuel ∧ fuel ≤ 10000) (hP : FitP P) (hfa : ∀ z ∈ args, Fits z) (hfn : ∀ z ∈ answers, Fits z) :
    Calls Tryd.prog 35 #[.agg #[v], va, vn, .int .i64 fuel] w (HotPost P args answers fuel c w) := by
  by_cases hc0 : c = 0
  · obtain ⟨hR, k1, k2, k3, k4⟩ := h0 hc0
    subst hc0
    obtain ⟨n, rfl⟩ := Int.eq_ofNat_of_zero_le k3
    refine (hotOf_ok P v va vn args answers n w hR hv hva hvn k1 k2 (by omega) hP hfa hfn).mono ?_
    rintro e w' ⟨h, x, rfl, hok, hb⟩
    exact ⟨h, x, rfl, fun _ => hok, fun h => absurd rfl h, hb⟩
  · refine (hotOf_bad P v va vn args answers fuel c w hv hva hvn hE hc0).mono ?_
    rintro e w' ⟨rfl, hb⟩
    exact ⟨0, 0, rfl, fun h => absurd h hc0, fun _ => ⟨rfl, rfl⟩, hb⟩
theorem HotPost.same {P : List Fn} {args answers : List Int} {fuel c : Int} (h0 : c = 0 → 0 < P.length) {h h' : Nat} {m m' : Int} (a1 : c = 0 → HotOk (cntA P args answers fuel c) P.length h m) (a2 : c ≠ 0 → h = 0 ∧ m = 0) (b1 : c = 0 → HotOk (cntA P args answers fuel c) P.length h' m') (b2 : c ≠ 0 → h' = 0 ∧ m' = 0) : h' = h ∧ m' = m := by
  by_cases hc : c = 0
  · exact HotOk.unique (h0 hc) (b1 hc) (a1 hc)
  · have := a2 hc; have := b2 hc; omega
end Go.Proofs.YtndogdojcbcjgaaDoor
