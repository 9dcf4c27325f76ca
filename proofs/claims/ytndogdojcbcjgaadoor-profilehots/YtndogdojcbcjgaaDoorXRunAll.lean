/- What step.Run and the document's RunOf (package tierlineref) answer at every argument. -/
import Derived.Test.YtndogdojcbcjgaaDoorXRunRef
namespace Go.Proofs.YtndogdojcbcjgaaDoor
open Go Go.RowKit

/-- The state that is answered. -/
def runS (P : List Fn) (args answers : List Int) (fuel c : Int) : St := if c = 0 then walkS P (fuel.toNat + 1) (beginSt args answers fuel) else zeroSt
theorem begin_num (P : List Fn) (args answers : List Int) (fuel : Int) : ∃ c, (∀ E, ProofAns P E → beginE E P args answers fuel = c) ∧ (c = 0 → ProofAns P 0 ∧ (args.length : Int) = par0 P ∧ answers.length ≤ 100 ∧ 0 ≤ fuel ∧ fuel ≤ 10000) := by
  by_cases h : ∃ E, ProofAns P E
  · obtain ⟨E, hE⟩ := h
    refine ⟨beginE E P args answers fuel, fun E' hE' => by rw [proofAns_unique hE' hE], fun h0 => ?_⟩
    unfold beginE at h0
    by_cases e : E = 0
    · subst e
      rw [if_neg (by simp)] at h0
      by_cases c1 : ¬ (args.length : Int) = par0 P ∨ 100 < answers.length
      · rw [if_pos c1] at h0; omega
      · rw [if_neg c1] at h0
        by_cases c2 : fuel < 0 ∨ 10000 < fuel
        · rw [if_pos c2] at h0; omega
        · exact ⟨hE, by omega, by omega, by omega, by omega⟩
    · rw [if_pos e] at h0; exact absurd h0 e
  · exact ⟨1, fun E hE => absurd ⟨E, hE⟩ h, fun h0 => by omega⟩

set_option maxRecDepth 100000 in
set_option maxHeartbeats 2000000 in
theorem run_bad (P : List Fn) (v va vn : Value) (args answers : List Int) (fuel c : Int) (w : World) (ht : TabOk w) (hc : CallOk w) (hv : ProgVal w v P) (hva : IntsVal w va args) (hvn : IntsVal w vn answers) (hE : ∀ E, ProofAns P E → beginE E P args answers fuel = c) (h0 : ¬ c = 0) :
    Calls Tryd.prog 28 #[.agg #[v], va, vn, .int .i64 fuel] w fun e w' => e = .returned (.tuple #[.agg zeroStCells, .int .i64 c]) ∧ Below w.heap.size w w' := by
  have hbx : ∀ o o', Below w.heap.size w ((w.alloc o).alloc o') := fun o o' => ((Below.refl _ _).alloc (Nat.le_refl _) _).alloc (by simp) _
  have HBG : Hid (∀ o o', Calls Tryd.prog 64 #[.agg #[v], va, vn, .int .i64 fuel] ((w.alloc o).alloc o') fun e w' => ∃ cs, e = .returned (.tuple #[.agg cs, .int .i64 c]) ∧ (Tryd.prog.info? 29).map (·.size) = some cs.size ∧ zeroStCells.size = cs.size ∧ cs.all (·.oneCell') = true ∧ Below ((w.alloc o).alloc o').heap.size ((w.alloc o).alloc o') w') := fun o o' =>
    (begin_any P v va vn args answers fuel _ (ht.below (hbx o o')) (hc.below (hbx o o')) (hv.keeps (keeps_below (hbx o o'))) (hva.keeps (keeps_below (hbx o o'))) (hvn.keeps (keeps_below (hbx o o')))).mono fun e w' ⟨E, v', h1, h2, h3, h4⟩ => by
      obtain ⟨cs, rfl, c1, c2, c3⟩ := h3.cells
      exact ⟨cs, by rw [h2, hE E h1], c1, c2, c3, h4⟩
  obtain ⟨ao, n0, cap0, rfl⟩ := hv.shape
  obtain ⟨aa, ca, rfl⟩ := hva.shape
  obtain ⟨an, cn, rfl⟩ := hvn.shape
  have HBX : Hid _ := hbx
  have hcb : (c != 0) = true := by simpa using h0
  clear ht hc hv hva hvn hbx hE h0
  go_enter Tryd.func28, Tryd.ntmps28
  go_wp2_with (first
    | (go_at_call 64; refine (HBG.out _ _).mono ?_; rintro e w1 ⟨cs1, rfl, a1, a2, a3, hb1⟩; have hz : w.heap.size + 1 < w1.heap.size := Nat.lt_of_lt_of_le (by simp) hb1.size; have h7 : (w1.alloc (.cells cs1 29)).heap[w.heap.size + 1]? = some (.cells zeroStCells 29 (0, 0)) := (heap_alloc_old _ _ hz).trans ((hb1.block _ (by simp)).trans (heap_alloc2_new _ _ _)); have HB1 : Hid (Below w.heap.size w (w1.alloc (.cells cs1 29))) := ((HBX.out _ _).trans (hb1.mono (by simp; omega))).alloc (by omega) _; clear hb1)
    | (refine wpList_store_row rfl _ _ _ rfl _ _ rfl rfl _ _ (heap_alloc_last w1 _) a1 a2 a3 ?_; rw [World.setRow_alloc_new])
    | (refine wpList_build_store rfl _ _ rfl zeroStCells (by simpa using built_zero) rfl _ _ rfl _ rfl rfl _ _ h7 infoSt rfl zeroSt_one ?_)
    | (refine wpList_store_row rfl _ _ _ rfl _ zeroStCells rfl rfl _ _ h7 infoSt rfl zeroSt_one ?_))
  try simp only [Exit.inBlock, Exit.then]
  exact bodyPost_ret (results_row_tmp rfl _ _ (w.heap.size + 1) 29 zeroStCells (0, 0) _ rfl (setRow_heap _ _ _ _ _ _ h7) Tryd.underlying29 rfl infoSt) rfl ⟨rfl, below_setRow HB1.out (by omega) h7 _⟩

set_option maxRecDepth 100000 in
set_option maxHeartbeats 2000000 in
theorem runOf_bad (P : List Fn) (v va vn : Value) (args answers : List Int) (fuel c : Int) (w : World) (hv : ProgVal w v P) (hva : IntsVal w va args) (hvn : IntsVal w vn answers) (hE : ∀ E, ProofAns P E → beginE E P args answers fuel = c) (h0 : ¬ c = 0) :
    Calls Tryd.prog 30 #[.agg #[v], va, vn, .int .i64 fuel] w fun e w' => e = .returned (.tuple #[.agg zeroStCells, .int .i64 c]) ∧ Below w.heap.size w w' := by
  have hbx : ∀ o o', Below w.heap.size w ((w.alloc o).alloc o') := fun o o' => ((Below.refl _ _).alloc (Nat.le_refl _) _).alloc (by simp) _
  have HBG : Hid (∀ o o', Calls Tryd.prog 65 #[.agg #[v], va, vn, .int .i64 fuel] ((w.alloc o).alloc o') fun e w' => ∃ cs, e = .returned (.tuple #[.agg cs, .int .i64 c]) ∧ (Tryd.prog.info? 29).map (·.size) = some cs.size ∧ zeroStCells.size = cs.size ∧ cs.all (·.oneCell') = true ∧ Below ((w.alloc o).alloc o').heap.size ((w.alloc o).alloc o') w') := fun o o' =>
    (begun_ref P v va vn args answers fuel _ (hv.keeps (keeps_below (hbx o o'))) (hva.keeps (keeps_below (hbx o o'))) (hvn.keeps (keeps_below (hbx o o')))).mono fun e w' ⟨E, v', h1, h2, h3, h4⟩ => by
      obtain ⟨cs, rfl, c1, c2, c3⟩ := h3.cells
      exact ⟨cs, by rw [h2, hE E h1], c1, c2, c3, h4⟩
  obtain ⟨ao, n0, cap0, rfl⟩ := hv.shape
  obtain ⟨aa, ca, rfl⟩ := hva.shape
  obtain ⟨an, cn, rfl⟩ := hvn.shape
  have HBX : Hid _ := hbx
  have hcb : (c != 0) = true := by simpa using h0
  clear hv hva hvn hbx hE h0
  go_enter Tryd.func30, Tryd.ntmps30
  go_wp2_with (first
    | (go_at_call 65; refine (HBG.out _ _).mono ?_; rintro e w1 ⟨cs1, rfl, a1, a2, a3, hb1⟩; have hz : w.heap.size + 1 < w1.heap.size := Nat.lt_of_lt_of_le (by simp) hb1.size; have h7 : (w1.alloc (.cells cs1 29)).heap[w.heap.size + 1]? = some (.cells zeroStCells 29 (0, 0)) := (heap_alloc_old _ _ hz).trans ((hb1.block _ (by simp)).trans (heap_alloc2_new _ _ _)); have HB1 : Hid (Below w.heap.size w (w1.alloc (.cells cs1 29))) := ((HBX.out _ _).trans (hb1.mono (by simp; omega))).alloc (by omega) _; clear hb1)
    | (refine wpList_store_row rfl _ _ _ rfl _ _ rfl rfl _ _ (heap_alloc_last w1 _) a1 a2 a3 ?_; rw [World.setRow_alloc_new])
    | (refine wpList_build_store rfl _ _ rfl zeroStCells (by simpa using built_zero) rfl _ _ rfl _ rfl rfl _ _ h7 infoSt rfl zeroSt_one ?_)
    | (refine wpList_store_row rfl _ _ _ rfl _ zeroStCells rfl rfl _ _ h7 infoSt rfl zeroSt_one ?_))
  try simp only [Exit.inBlock, Exit.then]
  exact bodyPost_ret (results_row_tmp rfl _ _ (w.heap.size + 1) 29 zeroStCells (0, 0) _ rfl (setRow_heap _ _ _ _ _ _ h7) Tryd.underlying29 rfl infoSt) rfl ⟨rfl, below_setRow HB1.out (by omega) h7 _⟩

/-- What both answer. -/
def RunPost (P : List Fn) (args answers : List Int) (fuel c : Int) (w : World) (e : Ending) (w' : World) : Prop :=
  ∃ cs, e = .returned (.tuple #[.agg cs, .int .i64 c]) ∧ (Tryd.prog.info? 29).map (·.size) = some cs.size ∧ zeroStCells.size = cs.size ∧ cs.all (·.oneCell') = true ∧ StVal w' (.agg cs) (runS P args answers fuel c) ∧ Below w.heap.size w w'
theorem runS_ok (P : List Fn) (args answers : List Int) (fuel : Nat) : runS P args answers fuel 0 = walkS P (fuel + 1) (beginSt args answers fuel) := by unfold runS; rw [if_pos rfl]; rfl
theorem run_all (P : List Fn) (v va vn : Value) (args answers : List Int) (fuel c : Int) (w : World) (ht : TabOk w) (hc : CallOk w) (hv : ProgVal w v P) (hva : IntsVal w va args) (hvn : IntsVal w vn answers) (hE : ∀ E, ProofAns P E → beginE E P args answers fuel = c) (h0 : c = 0 → ProofAns P 0 ∧ (args.length : Int) = par0 P ∧ answers.length ≤ 100 ∧ 0 ≤ fuel ∧ fuel ≤ 10000) :
    Calls Tryd.prog 28 #[.agg #[v], va, vn, .int .i64 fuel] w (RunPost P args answers fuel c w) := by
  by_cases hc0 : c = 0
  · obtain ⟨hR, k1, k2, k3, k4⟩ := h0 hc0
    subst hc0
    obtain ⟨n, rfl⟩ := Int.eq_ofNat_of_zero_le k3
    refine (run_any P v va vn args answers n w ht hc hR hv hva hvn k1 k2 (by omega)).mono ?_
    rintro e w' ⟨cs, rfl, c1, c2, c3, hst, hb⟩
    exact ⟨cs, rfl, c1, c2, c3, by rw [runS_ok]; exact hst.val, hb⟩
  · refine (run_bad P v va vn args answers fuel c w ht hc hv hva hvn hE hc0).mono ?_
    rintro e w' ⟨rfl, hb⟩
    refine ⟨zeroStCells, rfl, infoSt, rfl, zeroSt_one, ?_, hb⟩
    rw [show runS P args answers fuel c = zeroSt from if_neg hc0]
    exact zero_stVal w'
theorem runOf_all (P : List Fn) (v va vn : Value) (args answers : List Int) (fuel c : Int) (w : World) (hv : ProgVal w v P) (hva : IntsVal w va args) (hvn : IntsVal w vn answers) (hE : ∀ E, ProofAns P E → beginE E P args answers fuel = c) (h0 : c = 0 → ProofAns P 0 ∧ (args.length : Int) = par0 P ∧ answers.length ≤ 100 ∧ 0 ≤ fuel ∧ fuel ≤ 10000) (hP : FitP P) (hfa : ∀ z ∈ args, Fits z) (hfn : ∀ z ∈ answers, Fits z) :
    Calls Tryd.prog 30 #[.agg #[v], va, vn, .int .i64 fuel] w (RunPost P args answers fuel c w) := by
  by_cases hc0 : c = 0
  · obtain ⟨hR, k1, k2, k3, k4⟩ := h0 hc0
    subst hc0
    obtain ⟨n, rfl⟩ := Int.eq_ofNat_of_zero_le k3
    have hal : args.length ≤ 12 := by
      have := (right_head hR hv).choose_spec.choose_spec.choose_spec
      omega
    refine (runOf_ok P v va vn args answers n w hR hv hva hvn k1 k2 (by omega) hal hP hfa hfn).mono ?_
    rintro e w' ⟨cs, rfl, c1, hst, hb⟩
    obtain ⟨cs', e', d1, d2, d3⟩ := hst.cells
    obtain rfl := Value.agg.inj e'
    exact ⟨cs, rfl, c1, d2, d3, by rw [runS_ok]; exact hst, hb⟩
  · refine (runOf_bad P v va vn args answers fuel c w hv hva hvn hE hc0).mono ?_
    rintro e w' ⟨rfl, hb⟩
    refine ⟨zeroStCells, rfl, infoSt, rfl, zeroSt_one, ?_, hb⟩
    rw [show runS P args answers fuel c = zeroSt from if_neg hc0]
    exact zero_stVal w'
end Go.Proofs.YtndogdojcbcjgaaDoor
