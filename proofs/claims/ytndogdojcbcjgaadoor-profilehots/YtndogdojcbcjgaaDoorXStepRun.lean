/- Contract of step.Run, where nothing is refused. -/
import Derived.Test.YtndogdojcbcjgaaDoorGroupE
import Derived.Test.YtndogdojcbcjgaaDoorGroupD
namespace Go.Proofs.YtndogdojcbcjgaaDoor
open Go Go.RowKit

/-- Begin, where nothing is refused, with the cells laid open. -/
theorem begin_right (P : List Fn) (v va vn : Value) (args answers : List Int) (fuel : Int) (w : World) (ht : TabOk w) (hc : CallOk w) (hR : ProofAns P 0) (hv : ProgVal w v P) (hva : IntsVal w va args) (hvn : IntsVal w vn answers)
    (h1 : (args.length : Int) = par0 P) (h2 : answers.length ≤ 100) (h3 : 0 ≤ fuel) (h4 : fuel ≤ 10000) :
    Calls Tryd.prog 64 #[.agg #[v], va, vn, .int .i64 fuel] w fun e w' => ∃ cs, e = .returned (.tuple #[.agg cs, .int .i64 0]) ∧ (Tryd.prog.info? 29).map (·.size) = some cs.size ∧ zeroStCells.size = cs.size ∧ cs.all (·.oneCell') = true ∧ StAt w' w.heap.size (.agg cs) (beginSt args answers fuel) ∧ Below w.heap.size w w' := by
  refine (begin_at P v va vn args answers fuel w ht hc hv hva hvn).mono ?_
  rintro e w' ⟨E, v', hE, rfl, hst, hb⟩
  obtain rfl := proofAns_unique hE hR
  have e0 : beginE 0 P args answers fuel = 0 := by
    unfold beginE
    rw [if_neg (by simp), if_neg (by omega), if_neg (by omega)]
  rw [e0, beginS_zero] at hst
  rw [e0]
  obtain ⟨cs, rfl, q1, q2, q3⟩ := hst.val.cells
  exact ⟨cs, rfl, q1, q2, q3, hst, hb⟩

set_option maxRecDepth 100000 in
set_option maxHeartbeats 4000000 in
theorem run_any (P : List Fn) (v va vn : Value) (args answers : List Int) (fuel : Nat) (w : World) (ht : TabOk w) (hc : CallOk w) (hR : ProofAns P 0) (hv : ProgVal w v P) (hva : IntsVal w va args) (hvn : IntsVal w vn answers)
    (h1 : (args.length : Int) = par0 P) (h2 : answers.length ≤ 100) (h4 : fuel ≤ 10000) :
    Calls Tryd.prog 28 #[.agg #[v], va, vn, .int .i64 (fuel : Int)] w fun e w' => ∃ cs, e = .returned (.tuple #[.agg cs, .int .i64 0]) ∧ (Tryd.prog.info? 29).map (·.size) = some cs.size ∧ zeroStCells.size = cs.size ∧ cs.all (·.oneCell') = true ∧ StAt w' w.heap.size (.agg cs) (walkS P (fuel + 1) (beginSt args answers fuel)) ∧ Below w.heap.size w w' := by
  have hbx : ∀ o o', Below w.heap.size w ((w.alloc o).alloc o') := fun o o' => ((Below.refl _ _).alloc (Nat.le_refl _) _).alloc (by simp) _
  have HBG : Hid (∀ o o', Calls Tryd.prog 64 #[.agg #[v], va, vn, .int .i64 (fuel : Int)] ((w.alloc o).alloc o') fun e w' => ∃ cs, e = .returned (.tuple #[.agg cs, .int .i64 0]) ∧ (Tryd.prog.info? 29).map (·.size) = some cs.size ∧ zeroStCells.size = cs.size ∧ cs.all (·.oneCell') = true ∧ StAt w' ((w.alloc o).alloc o').heap.size (.agg cs) (beginSt args answers fuel) ∧ Below ((w.alloc o).alloc o').heap.size ((w.alloc o).alloc o') w') := fun o o' =>
    begin_right P v va vn args answers fuel ((w.alloc o).alloc o') (ht.below (hbx o o')) (hc.below (hbx o o')) hR (hv.keeps (keeps_below (hbx o o'))) (hva.keeps (keeps_below (hbx o o'))) (hvn.keeps (keeps_below (hbx o o'))) h1 h2 (by omega) (by omega)
  have hal : args.length ≤ 12 := by
    have := (right_head hR hv).choose_spec.choose_spec.choose_spec
    omega
  have HSY : Hid (Stays P (fuel + 1) (beginSt args answers fuel)) := stays_of_run hR (runInv_begin hR args answers fuel hal h2 (by omega) (by omega)) (fuel + 1)
  have HWK : Hid (∀ W sv, Below w.heap.size w W → StVal W sv (beginSt args answers fuel) → Calls Tryd.prog 25 #[.agg #[v], sv, .int .i64 ((fuel : Int) + 1)] W fun e w' => ∃ cs, e = .returned (.tuple #[.agg cs, .int .i64 0]) ∧ (Tryd.prog.info? 29).map (·.size) = some cs.size ∧ zeroStCells.size = cs.size ∧ cs.all (·.oneCell') = true ∧ StAt w' W.heap.size (.agg cs) (walkS P (fuel + 1) (beginSt args answers fuel)) ∧ Below W.heap.size W w') := fun W sv hb hs => by
    refine (walk_any P v sv _ (fuel + 1) W (ht.below hb) (hc.below hb) hR (hv.keeps (keeps_below hb)) hs HSY.out (by omega) (by show (0 + (fuel + 1)) * 8 + 8 ≤ _; omega)).mono ?_
    rintro e w' ⟨v', rfl, hst, hb⟩
    obtain ⟨cs, rfl, c1, c2, c3⟩ := hst.val.cells
    exact ⟨cs, rfl, c1, c2, c3, hst, hb⟩
  obtain ⟨ao, n0, cap0, rfl⟩ := hv.shape
  obtain ⟨aa, ca, rfl⟩ := hva.shape
  obtain ⟨an, cn, rfl⟩ := hvn.shape
  have HBX : Hid _ := hbx
  have hwr : IntKind.i64.wrap ((fuel : Int) + 1) = (fuel : Int) + 1 := wrap_fits _ (by omega) (by omega)
  clear ht hc hv hva hvn hbx hal h1 h2
  go_enter Tryd.func28, Tryd.ntmps28
  go_upto_region 2 with (first
    | (go_at_call 64; refine (HBG.out _ _).mono ?_; rintro e w1 ⟨cs1, rfl, a1, a2, a3, hst1, hb1⟩)
    | (refine wpList_store_row rfl _ _ _ rfl _ _ rfl rfl _ _ (heap_alloc_last w1 _) a1 a2 a3 ?_; rw [World.setRow_alloc_new]))
  have hz1 : w.heap.size + 2 ≤ w1.heap.size := by have := hb1.size; simpa using this
  have k0 := cell_alloc (keeps_below hb1 ⟨w.heap.size, 0, none⟩ (.slice ao n0 cap0) (by rw [cell_of_row _ _ _ _ _ _ (heap_alloc2_old _ _ _)]; rfl)) (.cells cs1 29)
  have z8 : (w1.alloc (.cells cs1 29)).heap[w.heap.size + 1]? = some (.cells zeroStCells 29 (0, 0)) := (heap_alloc_old _ _ (by omega)).trans ((hb1.block _ (by simp)).trans (heap_alloc2_new _ _ _))
  have r1 : (w1.alloc (.cells cs1 29)).heap[w1.heap.size]? = some (.cells cs1 29 (0, 0)) := heap_alloc_last w1 _
  have HB2 : Hid (Below w.heap.size w (w1.alloc (.cells cs1 29))) := ((HBX.out _ _).trans (hb1.mono (by simp; omega))).alloc (by omega) _
  have HSV : Hid (StVal (w1.alloc (.cells cs1 29)) (.agg cs1) (beginSt args answers fuel)) := hst1.val.keeps (keeps_below ((Below.refl _ _).alloc (Nat.le_refl _) _))
  have HZ2 : Hid (w.heap.size + 3 ≤ (w1.alloc (.cells cs1 29)).heap.size) := by show _ ≤ _; simp; omega
  have hwk := HWK.out _ _ HB2.out HSV.out
  clear hst1 hb1 a2 a3
  generalize (w1.alloc (.cells cs1 29)) = WB at *
  generalize w1.heap.size = G at *
  go_wp2_with (first
    | (refine wpList_load_row rfl _ _ rfl _ rfl _ _ _ _ r1 Tryd.underlying29 rfl a1 ?_)
    | (go_at_call 25; refine hwk.mono ?_; rintro e w3 ⟨cs3, rfl, b1, b2, b3, hst3, hb3⟩; have z83 := (hb3.block _ (by have := HZ2.out; omega)).trans z8)
    | (refine wpList_store_row rfl _ _ _ rfl _ _ rfl rfl _ _ z83 b1 b2 b3 ?_))
  try simp only [Exit.inBlock, Exit.then]
  have hz2 := HZ2.out
  exact bodyPost_ret (results_row_tmp rfl _ _ (w.heap.size + 1) 29 _ (0, 0) _ rfl (setRow_heap _ _ _ _ _ _ z83) Tryd.underlying29 rfl b1) rfl ⟨_, rfl, b1, b2, b3, (hst3.setRow (by omega) _).mono (by omega), below_setRow (HB2.out.trans (hb3.mono (by omega))) (by omega) _⟩
end Go.Proofs.YtndogdojcbcjgaaDoor
