/- What profile.Counts and the document's CountsOf (package tierlineref) answer at every argument. -/
import Derived.Test.YtndogdojcbcjgaaDoorXProfRef
import Derived.Test.YtndogdojcbcjgaaDoorXProfHot
import Derived.Test.YtndogdojcbcjgaaDoorXSameLst
import Derived.Test.YtndogdojcbcjgaaDoorXRunAll
namespace Go.Proofs.YtndogdojcbcjgaaDoor
open Go Go.RowKit

theorem CntAt.reads {w : World} {g N : Nat} {VV : Nat → Value} {C : List (List Int)} (h : CntAt w g N VV C) (hl : C.length = N) (hN : N ≤ 1000) : ListsVal w (.slice (some ⟨g, 0, none⟩) N N) C := by
  refine ⟨some ⟨g, 0, none⟩, g, N, by rw [hl], by omega, by omega, fun i hi => ⟨rfl, ?_⟩⟩
  have ho := h.slots.own i (by omega)
  obtain ⟨ao', cap', e'⟩ := own_shape ho
  refine ⟨ao', cap', ?_, ?_⟩
  · rw [← e']; exact out_cell h.out i (by omega)
  · have := ints_of_own ho
    rw [e'] at this
    exact this
/-- The counts that are answered. -/
def cntA (P : List Fn) (args answers : List Int) (fuel c : Int) : List (List Int) := if c = 0 then cntS P (beginSt args answers fuel) (fuel.toNat + 1) else []
/-- What both answer. -/
def CntPost (P : List Fn) (args answers : List Int) (fuel c : Int) (w : World) (e : Ending) (w' : World) : Prop := ∃ v, e = .returned (.tuple #[v, .int .i64 c]) ∧ ListsVal w' v (cntA P args answers fuel c) ∧ Below w.heap.size w w'
theorem cntA_ok {P : List Fn} (hR : ProofAns P 0) {args answers : List Int} {fuel n : Nat} (ha : args.length ≤ 12) (h2 : answers.length ≤ 100) (h4 : fuel ≤ 10000) (hn : (walkS P n (beginSt args answers fuel)).status ≠ 0) : cntA P args answers (fuel : Int) 0 = cntS P (beginSt args answers fuel) n := by
  unfold cntA
  rw [if_pos rfl]
  have hI : RunInv P (beginSt args answers fuel) := runInv_begin hR args answers fuel ha h2 (by omega) (by omega)
  exact cnt_same P _ _ _ (run_ended hR hI (fuel + 1) (by show (fuel : Int) < _; omega)) hn

set_option maxRecDepth 100000 in
set_option maxHeartbeats 2000000 in
theorem counts_bad (P : List Fn) (v va vn : Value) (args answers : List Int) (fuel c : Int) (w : World) (ht : TabOk w) (hc : CallOk w) (hv : ProgVal w v P) (hva : IntsVal w va args) (hvn : IntsVal w vn answers) (hE : ∀ E, ProofAns P E → beginE E P args answers fuel = c) (h0 : ¬ c = 0) :
    Calls Tryd.prog 31 #[.agg #[v], va, vn, .int .i64 fuel] w fun e w' => e = .returned (.tuple #[.slice none 0 0, .int .i64 c]) ∧ Below w.heap.size w w' := by
  have hbx : ∀ o, Below w.heap.size w (w.alloc o) := fun o => (Below.refl _ _).alloc (Nat.le_refl _) _
  have HBG : Hid (∀ o, Calls Tryd.prog 64 #[.agg #[v], va, vn, .int .i64 fuel] (w.alloc o) fun e w' => ∃ cs, e = .returned (.tuple #[.agg cs, .int .i64 c]) ∧ (Tryd.prog.info? 29).map (·.size) = some cs.size ∧ zeroStCells.size = cs.size ∧ cs.all (·.oneCell') = true ∧ Below (w.alloc o).heap.size (w.alloc o) w') := fun o =>
    (begin_any P v va vn args answers fuel _ (ht.below (hbx o)) (hc.below (hbx o)) (hv.keeps (keeps_below (hbx o))) (hva.keeps (keeps_below (hbx o))) (hvn.keeps (keeps_below (hbx o)))).mono fun e w' ⟨E, v', h1, h2, h3, h4⟩ => by
      obtain ⟨cs, rfl, c1, c2, c3⟩ := h3.cells
      exact ⟨cs, by rw [h2, hE E h1], c1, c2, c3, h4⟩
  obtain ⟨ao, n0, cap0, rfl⟩ := hv.shape
  obtain ⟨aa, ca, rfl⟩ := hva.shape
  obtain ⟨an, cn, rfl⟩ := hvn.shape
  have HBX : Hid _ := hbx
  have hcb : (c != 0) = true := by simpa using h0
  clear ht hc hv hva hvn hbx hE h0
  go_enter Tryd.func31, Tryd.ntmps31
  go_wp2_with (first
    | (go_at_call 64; refine (HBG.out _).mono ?_; rintro e w1 ⟨cs1, rfl, a1, a2, a3, hb1⟩; have HB1 : Hid (Below w.heap.size w (w1.alloc (.cells cs1 29))) := ((HBX.out _).trans (hb1.mono (by simp))).alloc (by have := hb1.size; simp at this; omega) _; clear hb1)
    | (refine wpList_store_row rfl _ _ _ rfl _ _ rfl rfl _ _ (heap_alloc_last w1 _) a1 a2 a3 ?_; rw [World.setRow_alloc_new]))
  go_ret2
  exact ⟨rfl, HB1.out⟩

set_option maxRecDepth 100000 in
set_option maxHeartbeats 2000000 in
theorem countsOf_bad (P : List Fn) (v va vn : Value) (args answers : List Int) (fuel c : Int) (w : World) (hv : ProgVal w v P) (hva : IntsVal w va args) (hvn : IntsVal w vn answers) (hE : ∀ E, ProofAns P E → beginE E P args answers fuel = c) (h0 : ¬ c = 0) :
    Calls Tryd.prog 32 #[.agg #[v], va, vn, .int .i64 fuel] w fun e w' => e = .returned (.tuple #[.slice none 0 0, .int .i64 c]) ∧ Below w.heap.size w w' := by
  have hbx : ∀ o, Below w.heap.size w (w.alloc o) := fun o => (Below.refl _ _).alloc (Nat.le_refl _) _
  have HBG : Hid (∀ o, Calls Tryd.prog 65 #[.agg #[v], va, vn, .int .i64 fuel] (w.alloc o) fun e w' => ∃ cs, e = .returned (.tuple #[.agg cs, .int .i64 c]) ∧ (Tryd.prog.info? 29).map (·.size) = some cs.size ∧ zeroStCells.size = cs.size ∧ cs.all (·.oneCell') = true ∧ Below (w.alloc o).heap.size (w.alloc o) w') := fun o =>
    (begun_ref P v va vn args answers fuel _ (hv.keeps (keeps_below (hbx o))) (hva.keeps (keeps_below (hbx o))) (hvn.keeps (keeps_below (hbx o)))).mono fun e w' ⟨E, v', h1, h2, h3, h4⟩ => by
      obtain ⟨cs, rfl, c1, c2, c3⟩ := h3.cells
      exact ⟨cs, by rw [h2, hE E h1], c1, c2, c3, h4⟩
  obtain ⟨ao, n0, cap0, rfl⟩ := hv.shape
  obtain ⟨aa, ca, rfl⟩ := hva.shape
  obtain ⟨an, cn, rfl⟩ := hvn.shape
  have HBX : Hid _ := hbx
  have hcb : (c != 0) = true := by simpa using h0
  clear hv hva hvn hbx hE h0
  go_enter Tryd.func32, Tryd.ntmps32
  go_wp2_with (first
    | (go_at_call 65; refine (HBG.out _).mono ?_; rintro e w1 ⟨cs1, rfl, a1, a2, a3, hb1⟩; have HB1 : Hid (Below w.heap.size w (w1.alloc (.cells cs1 29))) := ((HBX.out _).trans (hb1.mono (by simp))).alloc (by have := hb1.size; simp at this; omega) _; clear hb1)
    | (refine wpList_store_row rfl _ _ _ rfl _ _ rfl rfl _ _ (heap_alloc_last w1 _) a1 a2 a3 ?_; rw [World.setRow_alloc_new]))
  go_ret2
  exact ⟨rfl, HB1.out⟩
theorem counts_all (P : List Fn) (v va vn : Value) (args answers : List Int) (fuel c : Int) (w : World) (ht : TabOk w) (hc : CallOk w) (hv : ProgVal w v P) (hva : IntsVal w va args) (hvn : IntsVal w vn answers) (hE : ∀ E, ProofAns P E → beginE E P args answers fuel = c) (h0 : c = 0 → ProofAns P 0 ∧ (args.length : Int) = par0 P ∧ answers.length ≤ 100 ∧ 0 ≤ fuel ∧ fuel ≤ 10000) :
    Calls Tryd.prog 31 #[.agg #[v], va, vn, .int .i64 fuel] w (CntPost P args answers fuel c w) := by
  by_cases hc0 : c = 0
  · obtain ⟨hR, k1, k2, k3, k4⟩ := h0 hc0
    subst hc0
    obtain ⟨n, rfl⟩ := Int.eq_ofNat_of_zero_le k3
    have hal : args.length ≤ 12 := by
      have := (right_head hR hv).choose_spec.choose_spec.choose_spec
      omega
    have hN := (codeProg_zero (right_code hR)).2.1
    refine (counts_any P v va vn args answers n w ht hc hR hv hva hvn k1 k2 (by omega)).mono ?_
    rintro e w' ⟨g, VV, m, rfl, hcn, hm, -, hb⟩
    refine ⟨_, rfl, ?_, hb⟩
    rw [cntA_ok hR hal k2 (by omega) hm]
    exact hcn.reads (cshape_cnt P _ m).1 (by omega)
  · refine (counts_bad P v va vn args answers fuel c w ht hc hv hva hvn hE hc0).mono ?_
    rintro e w' ⟨rfl, hb⟩
    exact ⟨_, rfl, by rw [show cntA P args answers fuel c = [] from if_neg hc0]; exact ListsVal.nil _, hb⟩
theorem countsOf_all (P : List Fn) (v va vn : Value) (args answers : List Int) (fuel c : Int) (w : World) (hv : ProgVal w v P) (hva : IntsVal w va args) (hvn : IntsVal w vn answers) (hE : ∀ E, ProofAns P E → beginE E P args answers fuel = c) (h0 : c = 0 → ProofAns P 0 ∧ (args.length : Int) = par0 P ∧ answers.length ≤ 100 ∧ 0 ≤ fuel ∧ fuel ≤ 10000) (hP : FitP P) (hfa : ∀ z ∈ args, Fits z) (hfn : ∀ z ∈ answers, Fits z) :
    Calls Tryd.prog 32 #[.agg #[v], va, vn, .int .i64 fuel] w (CntPost P args answers fuel c w) := by
  by_cases hc0 : c = 0
  · obtain ⟨hR, k1, k2, k3, k4⟩ := h0 hc0
    subst hc0
    obtain ⟨n, rfl⟩ := Int.eq_ofNat_of_zero_le k3
    have hal : args.length ≤ 12 := by
      have := (right_head hR hv).choose_spec.choose_spec.choose_spec
      omega
    refine (countsOf_ok P v va vn args answers n w hR hv hva hvn k1 k2 (by omega) hP hfa hfn).mono ?_
    rintro e w' ⟨v', vs, m, base, rfl, hra, hm, hb⟩
    refine ⟨_, rfl, ?_, hb⟩
    rw [cntA_ok hR hal k2 (by omega) hm]
    exact hra.reads
  · refine (countsOf_bad P v va vn args answers fuel c w hv hva hvn hE hc0).mono ?_
    rintro e w' ⟨rfl, hb⟩
    exact ⟨_, rfl, by rw [show cntA P args answers fuel c = [] from if_neg hc0]; exact ListsVal.nil _, hb⟩
end Go.Proofs.YtndogdojcbcjgaaDoor
