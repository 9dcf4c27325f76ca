/- The walk of tierlinekeep.CpuJumps (written by gen/mkcpulaw.py): at all numbers it says true, and nothing that was there has turned. -/
import Derived.Test.YtapjfiihfgndeaaDoorCpuIs
namespace Go.Proofs.YtapjfiihfgndeaaDoor
open Go Go.RowKit

theorem jumps_ok (op : Int) (o0 : 22 ≤ op) (o1 : op ≤ 25) : ∀ z ∈ ([⟨op, 0, 5, 6, 8⟩, ⟨29, 0, 0, 0, 0⟩, ⟨26, 1, 0, 0, 8⟩, ⟨29, 0, 0, 0, 0⟩, ⟨27, 2, 1, 0, 0⟩] : List Mi), MiOk z := by
  intro z hz
  rcases (show op = 22 ∨ op = 23 ∨ op = 24 ∨ op = 25 by omega) with rfl | rfl | rfl | rfl
  all_goals
    simp only [List.mem_cons, List.not_mem_nil, or_false] at hz
    rcases hz with rfl | rfl | rfl | rfl | rfl
    all_goals exact ⟨by decide, by decide, by decide⟩
theorem jumps_run (op a b : Int) (o0 : 22 ≤ op) (o1 : op ≤ 25) : ∃ D : Cp, runAns (([⟨op, 0, 5, 6, 8⟩, ⟨29, 0, 0, 0, 0⟩, ⟨26, 1, 0, 0, 8⟩, ⟨29, 0, 0, 0, 0⟩, ⟨27, 2, 1, 0, 0⟩] : List Mi).map wordI) ((zeroCp.set 5 a).set 6 b) 9 = (D, (if holdsB op a b = true then 4 else 2), 0) ∧ D.Ok ∧ D.pc = (if holdsB op a b = true then 3 else 1) ∧ D.reg 1 = (if holdsB op a b = true then 12 else 0) ∧ (holdsB op a b = true → D.reg 2 = 20) := by
  have ok := jumps_ok op o0 o1
  obtain ⟨ws, hws⟩ : ∃ ws, ws = ([⟨op, 0, 5, 6, 8⟩, ⟨29, 0, 0, 0, 0⟩, ⟨26, 1, 0, 0, 8⟩, ⟨29, 0, 0, 0, 0⟩, ⟨27, 2, 1, 0, 0⟩] : List Mi).map wordI := ⟨_, rfl⟩
  have hC := (zero_ok.set 5 a).set 6 b
  have h0 := Is.begun hC rfl rfl
  have f5 : (((zeroCp.set 5 a).set 6 b)).reg 5 = a := by rw [reg_set (zero_ok.set 5 a) b (by decide) (by decide) (by decide), if_neg (by decide), reg_set zero_ok a (by decide) (by decide) (by decide), if_pos rfl]
  have f6 : (((zeroCp.set 5 a).set 6 b)).reg 6 = b := by rw [reg_set (zero_ok.set 5 a) b (by decide) (by decide) (by decide), if_pos rfl]
  have f1 : (((zeroCp.set 5 a).set 6 b)).reg 1 = 0 := by rw [reg_set (zero_ok.set 5 a) b (by decide) (by decide) (by decide), if_neg (by decide), reg_set zero_ok a (by decide) (by decide) (by decide), if_neg (by decide)]; exact reg_zero 1
  cases hh : holdsB op a b
  · obtain ⟨c1, e1, h1⟩ := is_br (ws := ws) h0 op 5 6 8 o0 o1 1 (by simp [f5, f6, hh]) (by rw [hws]; rfl) (ok _ (by simp))
    obtain ⟨D, e3, hD, hr, hp, hh', hd⟩ := is_end (ws := ws) h1 7 1 (by rw [hws]; rfl)
    refine ⟨D, ?_, hD, by rw [hp]; rfl, ?_, fun h => by cases h⟩
    · rw [← hws, show (9 : Int) = ((9 : Nat) : Int) from rfl, runAns_eq 9 (by rw [hws]; simp) (by decide), e1, e3]; rfl
    · rw [hr 1 (by decide) (by decide)]; simp [f1]
  · obtain ⟨c1, e1, h1⟩ := is_br (ws := ws) h0 op 5 6 8 o0 o1 2 (by simp [f5, f6, hh]) (by rw [hws]; rfl) (ok _ (by simp))
    obtain ⟨c2, e2, h2⟩ := is_jal (ws := ws) h1 1 8 4 (by simp) (by rw [hws]; rfl) (ok _ (by simp))
    obtain ⟨c3, e3, h3⟩ := is_jalr (ws := ws) h2 2 1 0 3 (by simp [upd]) (by decide) (by rw [hws]; rfl) (ok _ (by simp))
    obtain ⟨D, e4, hD, hr, hp, hh', hd⟩ := is_end (ws := ws) h3 5 3 (by rw [hws]; rfl)
    refine ⟨D, ?_, hD, by rw [hp]; rfl, ?_, fun _ => ?_⟩
    · rw [← hws, show (9 : Int) = ((9 : Nat) : Int) from rfl, runAns_eq 9 (by rw [hws]; simp) (by decide), e1, e2, e3, e4]; rfl
    · rw [hr 1 (by decide) (by decide)]; simp [upd]
    · rw [hr 2 (by decide) (by decide)]; simp [upd]

set_option maxRecDepth 100000 in
set_option maxHeartbeats 4000000 in
theorem cpuJumps_no22 (a b r : Int) (hp : pickB r 4 = 0) (hg : holdsB 22 a b = false) (hr : Fits r) (w : World) (ht : RvTab w) :
    Calls Tryd.prog 10 #[.int .i64 a, .int .i64 b, .int .i64 r] w fun e w' => e = .returned (.bool true) ∧ Below w.heap.size w w' := by
  have hpr := fun w => picked_big r 4 w hr (by decide)
  rw [hp] at hpr
  obtain ⟨D, hR, hD, d3, d1, d2⟩ := jumps_run 22 a b (by decide) (by decide)
  simp only [hg, Bool.false_eq_true, if_false] at hR d3 d1
  have HOK : Hid (∀ z ∈ ([⟨22, 0, 5, 6, 8⟩, ⟨29, 0, 0, 0, 0⟩, ⟨26, 1, 0, 0, 8⟩, ⟨29, 0, 0, 0, 0⟩, ⟨27, 2, 1, 0, 0⟩] : List Mi), MiOk z) := jumps_ok _ (by decide) (by decide)
  have HT : Hid (∀ V, Below w.heap.size w V → RvTab V) := fun V hV => ht.below hV
  have HRUN : Hid (∀ ao cap V, RvTab V → IntsVal V (.slice ao 5 cap) (([⟨22, 0, 5, 6, 8⟩, ⟨29, 0, 0, 0, 0⟩, ⟨26, 1, 0, 0, 8⟩, ⟨29, 0, 0, 0, 0⟩, ⟨27, 2, 1, 0, 0⟩] : List Mi).map wordI) → Calls Tryd.prog 17 #[.slice ao 5 cap, .agg (cpuCells ((zeroCp.set 5 a).set 6 b)).toArray, .int .i64 (9)] V fun e w' => e = .returned (.tuple #[.agg (cpuCells D).toArray, .int .i64 (2), .int .i64 (0)]) ∧ Below V.heap.size V w') := fun ao cap V hV hI => by
    have := cpuRun_any ((zeroCp.set 5 a).set 6 b) ((zero_ok.set _ _).set _ _) (([⟨22, 0, 5, 6, 8⟩, ⟨29, 0, 0, 0, 0⟩, ⟨26, 1, 0, 0, 8⟩, ⟨29, 0, 0, 0, 0⟩, ⟨27, 2, 1, 0, 0⟩] : List Mi).map wordI) ao cap (9) V hV hI
    rw [hR] at this
    exact this
  have HD1 : Hid (D.reg 1 = 0) := d1
  have HD3 : Hid (D.pc = 1) := d3
  have hgo0 : decide (a = b) = false := by simpa [holdsB] using hg
  have hgo1 : (a == b) = false := by simpa [holdsB] using hg
  clear hR ht d1 d2 d3 hp hg
  go_enter Tryd.func10, Tryd.ntmps10
  go_wp2_with (first
    | (go_at_call 19; first | (with_reducible refine (hpr _).mono ?_; rintro e w' ⟨rfl, hw'⟩; replace hw' := hw'.symm; subst hw'))
    | (go_at_call 20; refine (words_any ([⟨22, 0, 5, 6, 8⟩, ⟨29, 0, 0, 0, 0⟩, ⟨26, 1, 0, 0, 8⟩, ⟨29, 0, 0, 0, 0⟩, ⟨27, 2, 1, 0, 0⟩] : List Mi) HOK.out (by simp) w.heap.size 5 (w.alloc (.cells (List.flatMap miC ([⟨22, 0, 5, 6, 8⟩, ⟨29, 0, 0, 0, 0⟩, ⟨26, 1, 0, 0, 8⟩, ⟨29, 0, 0, 0, 0⟩, ⟨27, 2, 1, 0, 0⟩] : List Mi)).toArray 41)) (HT.out _ ((Below.refl _ _).alloc (Nat.le_refl _) _)) (rvs_new w ([⟨22, 0, 5, 6, 8⟩, ⟨29, 0, 0, 0, 0⟩, ⟨26, 1, 0, 0, 8⟩, ⟨29, 0, 0, 0, 0⟩, ⟨27, 2, 1, 0, 0⟩] : List Mi)) (by simp)).mono ?_; rintro e w1 ⟨v1, rfl, hown1, hb1⟩; obtain ⟨ao1, cap1, rfl⟩ := own_shape hown1; have HI1 : Hid (∀ V, Below w1.heap.size w1 V → IntsVal V (.slice ao1 5 cap1) (([⟨22, 0, 5, 6, 8⟩, ⟨29, 0, 0, 0, 0⟩, ⟨26, 1, 0, 0, 8⟩, ⟨29, 0, 0, 0, 0⟩, ⟨27, 2, 1, 0, 0⟩] : List Mi).map wordI)) := (fun V hV => (ints_of_own (base := w.heap.size + 1) (l := ([⟨22, 0, 5, 6, 8⟩, ⟨29, 0, 0, 0, 0⟩, ⟨26, 1, 0, 0, 8⟩, ⟨29, 0, 0, 0, 0⟩, ⟨27, 2, 1, 0, 0⟩] : List Mi).map wordI) (by simpa using hown1)).keeps (keeps_below hV)); have HB1 : Hid (Below w.heap.size w w1) := ((Below.refl _ _).alloc (Nat.le_refl _) _).trans (hb1.mono (by simp)); clear hown1 hb1; have hC0 := CAt.new w1; have HCM : Hid (CAt (w1.alloc (.cells ((Tryd.zeroCells26.setIfInBounds 5 (.int .i64 (a))).setIfInBounds 6 (.int .i64 (b))) 26)) w1.heap.size ((zeroCp.set 5 (a)).set 6 (b))) := CAt.new2 w1 5 6 (by decide) (by decide) _ _; have HBV : Hid (Below w1.heap.size w1 (w1.alloc (.cells ((Tryd.zeroCells26.setIfInBounds 5 (.int .i64 (a))).setIfInBounds 6 (.int .i64 (b))) 26))) := (Below.refl _ _).alloc (Nat.le_refl _) _; clear hC0)
    | (refine wpList_load_row rfl _ _ rfl _ rfl _ _ _ _ HCM.out.cells Tryd.underlying26 rfl (infoCpC HCM.out.ok) ?_)
    | (go_at_call 17; refine (HRUN.out _ _ _ (HT.out _ (HB1.out.trans (HBV.out.mono HB1.out.size))) (HI1.out _ HBV.out)).mono ?_; rintro e w2 ⟨rfl, hb2'⟩; have HB2 : Hid (Below w.heap.size w w2) := (HB1.out.trans (HBV.out.mono HB1.out.size)).trans (hb2'.mono (HB1.out.trans (HBV.out.mono HB1.out.size)).size); clear hb2')
    | (refine wpList_store_row rfl _ _ _ rfl _ (cpuCells D).toArray rfl rfl _ _ (heap_alloc_last w2 _) (infoCpC hD) (by rw [zc_cp, List.size_toArray, cp_len hD]) (cp_one _) ?_; have hC : CAt ((w2.alloc (.cells Tryd.zeroCells26 26)).setRow w2.heap.size (cpuCells D).toArray) w2.heap.size D := CAt.row hD (heap_alloc_last w2 _); have c1 := hC.regv 1 (by first | decide | omega) HD1.out rfl; have cp := hC.pc; rw [HD3.out] at cp; clear hC))
  go_ret
  exact ⟨by simp, ((below_setRowR (HB2.out.alloc HB2.out.size _) HB2.out.size _).alloc (by have := HB2.out.size; simp; omega) _)⟩
set_option maxRecDepth 100000 in
set_option maxHeartbeats 4000000 in
theorem cpuJumps_no23 (a b r : Int) (hp : pickB r 4 = 1) (hg : holdsB 23 a b = false) (hr : Fits r) (w : World) (ht : RvTab w) :
    Calls Tryd.prog 10 #[.int .i64 a, .int .i64 b, .int .i64 r] w fun e w' => e = .returned (.bool true) ∧ Below w.heap.size w w' := by
  have hpr := fun w => picked_big r 4 w hr (by decide)
  rw [hp] at hpr
  obtain ⟨D, hR, hD, d3, d1, d2⟩ := jumps_run 23 a b (by decide) (by decide)
  simp only [hg, Bool.false_eq_true, if_false] at hR d3 d1
  have HOK : Hid (∀ z ∈ ([⟨23, 0, 5, 6, 8⟩, ⟨29, 0, 0, 0, 0⟩, ⟨26, 1, 0, 0, 8⟩, ⟨29, 0, 0, 0, 0⟩, ⟨27, 2, 1, 0, 0⟩] : List Mi), MiOk z) := jumps_ok _ (by decide) (by decide)
  have HT : Hid (∀ V, Below w.heap.size w V → RvTab V) := fun V hV => ht.below hV
  have HRUN : Hid (∀ ao cap V, RvTab V → IntsVal V (.slice ao 5 cap) (([⟨23, 0, 5, 6, 8⟩, ⟨29, 0, 0, 0, 0⟩, ⟨26, 1, 0, 0, 8⟩, ⟨29, 0, 0, 0, 0⟩, ⟨27, 2, 1, 0, 0⟩] : List Mi).map wordI) → Calls Tryd.prog 17 #[.slice ao 5 cap, .agg (cpuCells ((zeroCp.set 5 a).set 6 b)).toArray, .int .i64 (9)] V fun e w' => e = .returned (.tuple #[.agg (cpuCells D).toArray, .int .i64 (2), .int .i64 (0)]) ∧ Below V.heap.size V w') := fun ao cap V hV hI => by
    have := cpuRun_any ((zeroCp.set 5 a).set 6 b) ((zero_ok.set _ _).set _ _) (([⟨23, 0, 5, 6, 8⟩, ⟨29, 0, 0, 0, 0⟩, ⟨26, 1, 0, 0, 8⟩, ⟨29, 0, 0, 0, 0⟩, ⟨27, 2, 1, 0, 0⟩] : List Mi).map wordI) ao cap (9) V hV hI
    rw [hR] at this
    exact this
  have HD1 : Hid (D.reg 1 = 0) := d1
  have HD3 : Hid (D.pc = 1) := d3
  have hgo0 : decide (a = b) = true := by simpa [holdsB] using hg
  have hgo1 : (a == b) = true := by simpa [holdsB] using hg
  have hgo2 : (a != b) = false := by simpa [holdsB] using hg
  clear hR ht d1 d2 d3 hp hg
  go_enter Tryd.func10, Tryd.ntmps10
  go_wp2_with (first
    | (go_at_call 19; first | (with_reducible refine (hpr _).mono ?_; rintro e w' ⟨rfl, hw'⟩; replace hw' := hw'.symm; subst hw'))
    | (go_at_call 20; refine (words_any ([⟨23, 0, 5, 6, 8⟩, ⟨29, 0, 0, 0, 0⟩, ⟨26, 1, 0, 0, 8⟩, ⟨29, 0, 0, 0, 0⟩, ⟨27, 2, 1, 0, 0⟩] : List Mi) HOK.out (by simp) w.heap.size 5 (w.alloc (.cells (List.flatMap miC ([⟨23, 0, 5, 6, 8⟩, ⟨29, 0, 0, 0, 0⟩, ⟨26, 1, 0, 0, 8⟩, ⟨29, 0, 0, 0, 0⟩, ⟨27, 2, 1, 0, 0⟩] : List Mi)).toArray 41)) (HT.out _ ((Below.refl _ _).alloc (Nat.le_refl _) _)) (rvs_new w ([⟨23, 0, 5, 6, 8⟩, ⟨29, 0, 0, 0, 0⟩, ⟨26, 1, 0, 0, 8⟩, ⟨29, 0, 0, 0, 0⟩, ⟨27, 2, 1, 0, 0⟩] : List Mi)) (by simp)).mono ?_; rintro e w1 ⟨v1, rfl, hown1, hb1⟩; obtain ⟨ao1, cap1, rfl⟩ := own_shape hown1; have HI1 : Hid (∀ V, Below w1.heap.size w1 V → IntsVal V (.slice ao1 5 cap1) (([⟨23, 0, 5, 6, 8⟩, ⟨29, 0, 0, 0, 0⟩, ⟨26, 1, 0, 0, 8⟩, ⟨29, 0, 0, 0, 0⟩, ⟨27, 2, 1, 0, 0⟩] : List Mi).map wordI)) := (fun V hV => (ints_of_own (base := w.heap.size + 1) (l := ([⟨23, 0, 5, 6, 8⟩, ⟨29, 0, 0, 0, 0⟩, ⟨26, 1, 0, 0, 8⟩, ⟨29, 0, 0, 0, 0⟩, ⟨27, 2, 1, 0, 0⟩] : List Mi).map wordI) (by simpa using hown1)).keeps (keeps_below hV)); have HB1 : Hid (Below w.heap.size w w1) := ((Below.refl _ _).alloc (Nat.le_refl _) _).trans (hb1.mono (by simp)); clear hown1 hb1; have hC0 := CAt.new w1; have HCM : Hid (CAt (w1.alloc (.cells ((Tryd.zeroCells26.setIfInBounds 5 (.int .i64 (a))).setIfInBounds 6 (.int .i64 (b))) 26)) w1.heap.size ((zeroCp.set 5 (a)).set 6 (b))) := CAt.new2 w1 5 6 (by decide) (by decide) _ _; have HBV : Hid (Below w1.heap.size w1 (w1.alloc (.cells ((Tryd.zeroCells26.setIfInBounds 5 (.int .i64 (a))).setIfInBounds 6 (.int .i64 (b))) 26))) := (Below.refl _ _).alloc (Nat.le_refl _) _; clear hC0)
    | (refine wpList_load_row rfl _ _ rfl _ rfl _ _ _ _ HCM.out.cells Tryd.underlying26 rfl (infoCpC HCM.out.ok) ?_)
    | (go_at_call 17; refine (HRUN.out _ _ _ (HT.out _ (HB1.out.trans (HBV.out.mono HB1.out.size))) (HI1.out _ HBV.out)).mono ?_; rintro e w2 ⟨rfl, hb2'⟩; have HB2 : Hid (Below w.heap.size w w2) := (HB1.out.trans (HBV.out.mono HB1.out.size)).trans (hb2'.mono (HB1.out.trans (HBV.out.mono HB1.out.size)).size); clear hb2')
    | (refine wpList_store_row rfl _ _ _ rfl _ (cpuCells D).toArray rfl rfl _ _ (heap_alloc_last w2 _) (infoCpC hD) (by rw [zc_cp, List.size_toArray, cp_len hD]) (cp_one _) ?_; have hC : CAt ((w2.alloc (.cells Tryd.zeroCells26 26)).setRow w2.heap.size (cpuCells D).toArray) w2.heap.size D := CAt.row hD (heap_alloc_last w2 _); have c1 := hC.regv 1 (by first | decide | omega) HD1.out rfl; have cp := hC.pc; rw [HD3.out] at cp; clear hC))
  go_ret
  exact ⟨by simp, ((below_setRowR (HB2.out.alloc HB2.out.size _) HB2.out.size _).alloc (by have := HB2.out.size; simp; omega) _)⟩
set_option maxRecDepth 100000 in
set_option maxHeartbeats 4000000 in
theorem cpuJumps_no24 (a b r : Int) (hp : pickB r 4 = 2) (hg : holdsB 24 a b = false) (hr : Fits r) (w : World) (ht : RvTab w) :
    Calls Tryd.prog 10 #[.int .i64 a, .int .i64 b, .int .i64 r] w fun e w' => e = .returned (.bool true) ∧ Below w.heap.size w w' := by
  have hpr := fun w => picked_big r 4 w hr (by decide)
  rw [hp] at hpr
  obtain ⟨D, hR, hD, d3, d1, d2⟩ := jumps_run 24 a b (by decide) (by decide)
  simp only [hg, Bool.false_eq_true, if_false] at hR d3 d1
  have HOK : Hid (∀ z ∈ ([⟨24, 0, 5, 6, 8⟩, ⟨29, 0, 0, 0, 0⟩, ⟨26, 1, 0, 0, 8⟩, ⟨29, 0, 0, 0, 0⟩, ⟨27, 2, 1, 0, 0⟩] : List Mi), MiOk z) := jumps_ok _ (by decide) (by decide)
  have HT : Hid (∀ V, Below w.heap.size w V → RvTab V) := fun V hV => ht.below hV
  have HRUN : Hid (∀ ao cap V, RvTab V → IntsVal V (.slice ao 5 cap) (([⟨24, 0, 5, 6, 8⟩, ⟨29, 0, 0, 0, 0⟩, ⟨26, 1, 0, 0, 8⟩, ⟨29, 0, 0, 0, 0⟩, ⟨27, 2, 1, 0, 0⟩] : List Mi).map wordI) → Calls Tryd.prog 17 #[.slice ao 5 cap, .agg (cpuCells ((zeroCp.set 5 a).set 6 b)).toArray, .int .i64 (9)] V fun e w' => e = .returned (.tuple #[.agg (cpuCells D).toArray, .int .i64 (2), .int .i64 (0)]) ∧ Below V.heap.size V w') := fun ao cap V hV hI => by
    have := cpuRun_any ((zeroCp.set 5 a).set 6 b) ((zero_ok.set _ _).set _ _) (([⟨24, 0, 5, 6, 8⟩, ⟨29, 0, 0, 0, 0⟩, ⟨26, 1, 0, 0, 8⟩, ⟨29, 0, 0, 0, 0⟩, ⟨27, 2, 1, 0, 0⟩] : List Mi).map wordI) ao cap (9) V hV hI
    rw [hR] at this
    exact this
  have HD1 : Hid (D.reg 1 = 0) := d1
  have HD3 : Hid (D.pc = 1) := d3
  have hgo0 : decide (a < b) = false := by simpa [holdsB] using hg
  clear hR ht d1 d2 d3 hp hg
  go_enter Tryd.func10, Tryd.ntmps10
  go_wp2_with (first
    | (go_at_call 19; first | (with_reducible refine (hpr _).mono ?_; rintro e w' ⟨rfl, hw'⟩; replace hw' := hw'.symm; subst hw'))
    | (go_at_call 20; refine (words_any ([⟨24, 0, 5, 6, 8⟩, ⟨29, 0, 0, 0, 0⟩, ⟨26, 1, 0, 0, 8⟩, ⟨29, 0, 0, 0, 0⟩, ⟨27, 2, 1, 0, 0⟩] : List Mi) HOK.out (by simp) w.heap.size 5 (w.alloc (.cells (List.flatMap miC ([⟨24, 0, 5, 6, 8⟩, ⟨29, 0, 0, 0, 0⟩, ⟨26, 1, 0, 0, 8⟩, ⟨29, 0, 0, 0, 0⟩, ⟨27, 2, 1, 0, 0⟩] : List Mi)).toArray 41)) (HT.out _ ((Below.refl _ _).alloc (Nat.le_refl _) _)) (rvs_new w ([⟨24, 0, 5, 6, 8⟩, ⟨29, 0, 0, 0, 0⟩, ⟨26, 1, 0, 0, 8⟩, ⟨29, 0, 0, 0, 0⟩, ⟨27, 2, 1, 0, 0⟩] : List Mi)) (by simp)).mono ?_; rintro e w1 ⟨v1, rfl, hown1, hb1⟩; obtain ⟨ao1, cap1, rfl⟩ := own_shape hown1; have HI1 : Hid (∀ V, Below w1.heap.size w1 V → IntsVal V (.slice ao1 5 cap1) (([⟨24, 0, 5, 6, 8⟩, ⟨29, 0, 0, 0, 0⟩, ⟨26, 1, 0, 0, 8⟩, ⟨29, 0, 0, 0, 0⟩, ⟨27, 2, 1, 0, 0⟩] : List Mi).map wordI)) := (fun V hV => (ints_of_own (base := w.heap.size + 1) (l := ([⟨24, 0, 5, 6, 8⟩, ⟨29, 0, 0, 0, 0⟩, ⟨26, 1, 0, 0, 8⟩, ⟨29, 0, 0, 0, 0⟩, ⟨27, 2, 1, 0, 0⟩] : List Mi).map wordI) (by simpa using hown1)).keeps (keeps_below hV)); have HB1 : Hid (Below w.heap.size w w1) := ((Below.refl _ _).alloc (Nat.le_refl _) _).trans (hb1.mono (by simp)); clear hown1 hb1; have hC0 := CAt.new w1; have HCM : Hid (CAt (w1.alloc (.cells ((Tryd.zeroCells26.setIfInBounds 5 (.int .i64 (a))).setIfInBounds 6 (.int .i64 (b))) 26)) w1.heap.size ((zeroCp.set 5 (a)).set 6 (b))) := CAt.new2 w1 5 6 (by decide) (by decide) _ _; have HBV : Hid (Below w1.heap.size w1 (w1.alloc (.cells ((Tryd.zeroCells26.setIfInBounds 5 (.int .i64 (a))).setIfInBounds 6 (.int .i64 (b))) 26))) := (Below.refl _ _).alloc (Nat.le_refl _) _; clear hC0)
    | (refine wpList_load_row rfl _ _ rfl _ rfl _ _ _ _ HCM.out.cells Tryd.underlying26 rfl (infoCpC HCM.out.ok) ?_)
    | (go_at_call 17; refine (HRUN.out _ _ _ (HT.out _ (HB1.out.trans (HBV.out.mono HB1.out.size))) (HI1.out _ HBV.out)).mono ?_; rintro e w2 ⟨rfl, hb2'⟩; have HB2 : Hid (Below w.heap.size w w2) := (HB1.out.trans (HBV.out.mono HB1.out.size)).trans (hb2'.mono (HB1.out.trans (HBV.out.mono HB1.out.size)).size); clear hb2')
    | (refine wpList_store_row rfl _ _ _ rfl _ (cpuCells D).toArray rfl rfl _ _ (heap_alloc_last w2 _) (infoCpC hD) (by rw [zc_cp, List.size_toArray, cp_len hD]) (cp_one _) ?_; have hC : CAt ((w2.alloc (.cells Tryd.zeroCells26 26)).setRow w2.heap.size (cpuCells D).toArray) w2.heap.size D := CAt.row hD (heap_alloc_last w2 _); have c1 := hC.regv 1 (by first | decide | omega) HD1.out rfl; have cp := hC.pc; rw [HD3.out] at cp; clear hC))
  go_ret
  exact ⟨by simp, ((below_setRowR (HB2.out.alloc HB2.out.size _) HB2.out.size _).alloc (by have := HB2.out.size; simp; omega) _)⟩
set_option maxRecDepth 100000 in
set_option maxHeartbeats 4000000 in
theorem cpuJumps_no25 (a b r : Int) (hp : pickB r 4 = 3) (hg : holdsB 25 a b = false) (hr : Fits r) (w : World) (ht : RvTab w) :
    Calls Tryd.prog 10 #[.int .i64 a, .int .i64 b, .int .i64 r] w fun e w' => e = .returned (.bool true) ∧ Below w.heap.size w w' := by
  have hpr := fun w => picked_big r 4 w hr (by decide)
  rw [hp] at hpr
  obtain ⟨D, hR, hD, d3, d1, d2⟩ := jumps_run 25 a b (by decide) (by decide)
  simp only [hg, Bool.false_eq_true, if_false] at hR d3 d1
  have HOK : Hid (∀ z ∈ ([⟨25, 0, 5, 6, 8⟩, ⟨29, 0, 0, 0, 0⟩, ⟨26, 1, 0, 0, 8⟩, ⟨29, 0, 0, 0, 0⟩, ⟨27, 2, 1, 0, 0⟩] : List Mi), MiOk z) := jumps_ok _ (by decide) (by decide)
  have HT : Hid (∀ V, Below w.heap.size w V → RvTab V) := fun V hV => ht.below hV
  have HRUN : Hid (∀ ao cap V, RvTab V → IntsVal V (.slice ao 5 cap) (([⟨25, 0, 5, 6, 8⟩, ⟨29, 0, 0, 0, 0⟩, ⟨26, 1, 0, 0, 8⟩, ⟨29, 0, 0, 0, 0⟩, ⟨27, 2, 1, 0, 0⟩] : List Mi).map wordI) → Calls Tryd.prog 17 #[.slice ao 5 cap, .agg (cpuCells ((zeroCp.set 5 a).set 6 b)).toArray, .int .i64 (9)] V fun e w' => e = .returned (.tuple #[.agg (cpuCells D).toArray, .int .i64 (2), .int .i64 (0)]) ∧ Below V.heap.size V w') := fun ao cap V hV hI => by
    have := cpuRun_any ((zeroCp.set 5 a).set 6 b) ((zero_ok.set _ _).set _ _) (([⟨25, 0, 5, 6, 8⟩, ⟨29, 0, 0, 0, 0⟩, ⟨26, 1, 0, 0, 8⟩, ⟨29, 0, 0, 0, 0⟩, ⟨27, 2, 1, 0, 0⟩] : List Mi).map wordI) ao cap (9) V hV hI
    rw [hR] at this
    exact this
  have HD1 : Hid (D.reg 1 = 0) := d1
  have HD3 : Hid (D.pc = 1) := d3
  have hgo0 : decide (b ≤ a) = false := by simpa [holdsB] using hg
  clear hR ht d1 d2 d3 hp hg
  go_enter Tryd.func10, Tryd.ntmps10
  go_wp2_with (first
    | (go_at_call 19; first | (with_reducible refine (hpr _).mono ?_; rintro e w' ⟨rfl, hw'⟩; replace hw' := hw'.symm; subst hw'))
    | (go_at_call 20; refine (words_any ([⟨25, 0, 5, 6, 8⟩, ⟨29, 0, 0, 0, 0⟩, ⟨26, 1, 0, 0, 8⟩, ⟨29, 0, 0, 0, 0⟩, ⟨27, 2, 1, 0, 0⟩] : List Mi) HOK.out (by simp) w.heap.size 5 (w.alloc (.cells (List.flatMap miC ([⟨25, 0, 5, 6, 8⟩, ⟨29, 0, 0, 0, 0⟩, ⟨26, 1, 0, 0, 8⟩, ⟨29, 0, 0, 0, 0⟩, ⟨27, 2, 1, 0, 0⟩] : List Mi)).toArray 41)) (HT.out _ ((Below.refl _ _).alloc (Nat.le_refl _) _)) (rvs_new w ([⟨25, 0, 5, 6, 8⟩, ⟨29, 0, 0, 0, 0⟩, ⟨26, 1, 0, 0, 8⟩, ⟨29, 0, 0, 0, 0⟩, ⟨27, 2, 1, 0, 0⟩] : List Mi)) (by simp)).mono ?_; rintro e w1 ⟨v1, rfl, hown1, hb1⟩; obtain ⟨ao1, cap1, rfl⟩ := own_shape hown1; have HI1 : Hid (∀ V, Below w1.heap.size w1 V → IntsVal V (.slice ao1 5 cap1) (([⟨25, 0, 5, 6, 8⟩, ⟨29, 0, 0, 0, 0⟩, ⟨26, 1, 0, 0, 8⟩, ⟨29, 0, 0, 0, 0⟩, ⟨27, 2, 1, 0, 0⟩] : List Mi).map wordI)) := (fun V hV => (ints_of_own (base := w.heap.size + 1) (l := ([⟨25, 0, 5, 6, 8⟩, ⟨29, 0, 0, 0, 0⟩, ⟨26, 1, 0, 0, 8⟩, ⟨29, 0, 0, 0, 0⟩, ⟨27, 2, 1, 0, 0⟩] : List Mi).map wordI) (by simpa using hown1)).keeps (keeps_below hV)); have HB1 : Hid (Below w.heap.size w w1) := ((Below.refl _ _).alloc (Nat.le_refl _) _).trans (hb1.mono (by simp)); clear hown1 hb1; have hC0 := CAt.new w1; have HCM : Hid (CAt (w1.alloc (.cells ((Tryd.zeroCells26.setIfInBounds 5 (.int .i64 (a))).setIfInBounds 6 (.int .i64 (b))) 26)) w1.heap.size ((zeroCp.set 5 (a)).set 6 (b))) := CAt.new2 w1 5 6 (by decide) (by decide) _ _; have HBV : Hid (Below w1.heap.size w1 (w1.alloc (.cells ((Tryd.zeroCells26.setIfInBounds 5 (.int .i64 (a))).setIfInBounds 6 (.int .i64 (b))) 26))) := (Below.refl _ _).alloc (Nat.le_refl _) _; clear hC0)
    | (refine wpList_load_row rfl _ _ rfl _ rfl _ _ _ _ HCM.out.cells Tryd.underlying26 rfl (infoCpC HCM.out.ok) ?_)
    | (go_at_call 17; refine (HRUN.out _ _ _ (HT.out _ (HB1.out.trans (HBV.out.mono HB1.out.size))) (HI1.out _ HBV.out)).mono ?_; rintro e w2 ⟨rfl, hb2'⟩; have HB2 : Hid (Below w.heap.size w w2) := (HB1.out.trans (HBV.out.mono HB1.out.size)).trans (hb2'.mono (HB1.out.trans (HBV.out.mono HB1.out.size)).size); clear hb2')
    | (refine wpList_store_row rfl _ _ _ rfl _ (cpuCells D).toArray rfl rfl _ _ (heap_alloc_last w2 _) (infoCpC hD) (by rw [zc_cp, List.size_toArray, cp_len hD]) (cp_one _) ?_; have hC : CAt ((w2.alloc (.cells Tryd.zeroCells26 26)).setRow w2.heap.size (cpuCells D).toArray) w2.heap.size D := CAt.row hD (heap_alloc_last w2 _); have c1 := hC.regv 1 (by first | decide | omega) HD1.out rfl; have cp := hC.pc; rw [HD3.out] at cp; clear hC))
  go_ret
  exact ⟨by simp, ((below_setRowR (HB2.out.alloc HB2.out.size _) HB2.out.size _).alloc (by have := HB2.out.size; simp; omega) _)⟩
set_option maxRecDepth 100000 in
set_option maxHeartbeats 4000000 in
theorem cpuJumps_yes22 (a b r : Int) (hp : pickB r 4 = 0) (hg : holdsB 22 a b = true) (hr : Fits r) (w : World) (ht : RvTab w) :
    Calls Tryd.prog 10 #[.int .i64 a, .int .i64 b, .int .i64 r] w fun e w' => e = .returned (.bool true) ∧ Below w.heap.size w w' := by
  have hpr := fun w => picked_big r 4 w hr (by decide)
  rw [hp] at hpr
  obtain ⟨D, hR, hD, d3, d1, d2⟩ := jumps_run 22 a b (by decide) (by decide)
  simp only [hg, if_true] at hR d3 d1
  have HOK : Hid (∀ z ∈ ([⟨22, 0, 5, 6, 8⟩, ⟨29, 0, 0, 0, 0⟩, ⟨26, 1, 0, 0, 8⟩, ⟨29, 0, 0, 0, 0⟩, ⟨27, 2, 1, 0, 0⟩] : List Mi), MiOk z) := jumps_ok _ (by decide) (by decide)
  have HT : Hid (∀ V, Below w.heap.size w V → RvTab V) := fun V hV => ht.below hV
  have HRUN : Hid (∀ ao cap V, RvTab V → IntsVal V (.slice ao 5 cap) (([⟨22, 0, 5, 6, 8⟩, ⟨29, 0, 0, 0, 0⟩, ⟨26, 1, 0, 0, 8⟩, ⟨29, 0, 0, 0, 0⟩, ⟨27, 2, 1, 0, 0⟩] : List Mi).map wordI) → Calls Tryd.prog 17 #[.slice ao 5 cap, .agg (cpuCells ((zeroCp.set 5 a).set 6 b)).toArray, .int .i64 (9)] V fun e w' => e = .returned (.tuple #[.agg (cpuCells D).toArray, .int .i64 (4), .int .i64 (0)]) ∧ Below V.heap.size V w') := fun ao cap V hV hI => by
    have := cpuRun_any ((zeroCp.set 5 a).set 6 b) ((zero_ok.set _ _).set _ _) (([⟨22, 0, 5, 6, 8⟩, ⟨29, 0, 0, 0, 0⟩, ⟨26, 1, 0, 0, 8⟩, ⟨29, 0, 0, 0, 0⟩, ⟨27, 2, 1, 0, 0⟩] : List Mi).map wordI) ao cap (9) V hV hI
    rw [hR] at this
    exact this
  have HD1 : Hid (D.reg 1 = 12) := d1
  have HD2 : Hid (D.reg 2 = 20) := d2 hg
  have HD3 : Hid (D.pc = 3) := d3
  have hgo0 : decide (a = b) = true := by simpa [holdsB] using hg
  have hgo1 : (a == b) = true := by simpa [holdsB] using hg
  clear hR ht d1 d2 d3 hp hg
  go_enter Tryd.func10, Tryd.ntmps10
  go_wp2_with (first
    | (go_at_call 19; first | (with_reducible refine (hpr _).mono ?_; rintro e w' ⟨rfl, hw'⟩; replace hw' := hw'.symm; subst hw'))
    | (go_at_call 20; refine (words_any ([⟨22, 0, 5, 6, 8⟩, ⟨29, 0, 0, 0, 0⟩, ⟨26, 1, 0, 0, 8⟩, ⟨29, 0, 0, 0, 0⟩, ⟨27, 2, 1, 0, 0⟩] : List Mi) HOK.out (by simp) w.heap.size 5 (w.alloc (.cells (List.flatMap miC ([⟨22, 0, 5, 6, 8⟩, ⟨29, 0, 0, 0, 0⟩, ⟨26, 1, 0, 0, 8⟩, ⟨29, 0, 0, 0, 0⟩, ⟨27, 2, 1, 0, 0⟩] : List Mi)).toArray 41)) (HT.out _ ((Below.refl _ _).alloc (Nat.le_refl _) _)) (rvs_new w ([⟨22, 0, 5, 6, 8⟩, ⟨29, 0, 0, 0, 0⟩, ⟨26, 1, 0, 0, 8⟩, ⟨29, 0, 0, 0, 0⟩, ⟨27, 2, 1, 0, 0⟩] : List Mi)) (by simp)).mono ?_; rintro e w1 ⟨v1, rfl, hown1, hb1⟩; obtain ⟨ao1, cap1, rfl⟩ := own_shape hown1; have HI1 : Hid (∀ V, Below w1.heap.size w1 V → IntsVal V (.slice ao1 5 cap1) (([⟨22, 0, 5, 6, 8⟩, ⟨29, 0, 0, 0, 0⟩, ⟨26, 1, 0, 0, 8⟩, ⟨29, 0, 0, 0, 0⟩, ⟨27, 2, 1, 0, 0⟩] : List Mi).map wordI)) := (fun V hV => (ints_of_own (base := w.heap.size + 1) (l := ([⟨22, 0, 5, 6, 8⟩, ⟨29, 0, 0, 0, 0⟩, ⟨26, 1, 0, 0, 8⟩, ⟨29, 0, 0, 0, 0⟩, ⟨27, 2, 1, 0, 0⟩] : List Mi).map wordI) (by simpa using hown1)).keeps (keeps_below hV)); have HB1 : Hid (Below w.heap.size w w1) := ((Below.refl _ _).alloc (Nat.le_refl _) _).trans (hb1.mono (by simp)); clear hown1 hb1; have hC0 := CAt.new w1; have HCM : Hid (CAt (w1.alloc (.cells ((Tryd.zeroCells26.setIfInBounds 5 (.int .i64 (a))).setIfInBounds 6 (.int .i64 (b))) 26)) w1.heap.size ((zeroCp.set 5 (a)).set 6 (b))) := CAt.new2 w1 5 6 (by decide) (by decide) _ _; have HBV : Hid (Below w1.heap.size w1 (w1.alloc (.cells ((Tryd.zeroCells26.setIfInBounds 5 (.int .i64 (a))).setIfInBounds 6 (.int .i64 (b))) 26))) := (Below.refl _ _).alloc (Nat.le_refl _) _; clear hC0)
    | (refine wpList_load_row rfl _ _ rfl _ rfl _ _ _ _ HCM.out.cells Tryd.underlying26 rfl (infoCpC HCM.out.ok) ?_)
    | (go_at_call 17; refine (HRUN.out _ _ _ (HT.out _ (HB1.out.trans (HBV.out.mono HB1.out.size))) (HI1.out _ HBV.out)).mono ?_; rintro e w2 ⟨rfl, hb2'⟩; have HB2 : Hid (Below w.heap.size w w2) := (HB1.out.trans (HBV.out.mono HB1.out.size)).trans (hb2'.mono (HB1.out.trans (HBV.out.mono HB1.out.size)).size); clear hb2')
    | (refine wpList_store_row rfl _ _ _ rfl _ (cpuCells D).toArray rfl rfl _ _ (heap_alloc_last w2 _) (infoCpC hD) (by rw [zc_cp, List.size_toArray, cp_len hD]) (cp_one _) ?_; have hC : CAt ((w2.alloc (.cells Tryd.zeroCells26 26)).setRow w2.heap.size (cpuCells D).toArray) w2.heap.size D := CAt.row hD (heap_alloc_last w2 _); have c1 := hC.regv 1 (by first | decide | omega) HD1.out rfl; have cp := hC.pc; rw [HD3.out] at cp; have c2 := hC.regv 2 (by first | decide | omega) HD2.out rfl; clear hC))
  go_ret
  exact ⟨by simp, ((below_setRowR (HB2.out.alloc HB2.out.size _) HB2.out.size _).alloc (by have := HB2.out.size; simp; omega) _)⟩
set_option maxRecDepth 100000 in
set_option maxHeartbeats 4000000 in
theorem cpuJumps_yes23 (a b r : Int) (hp : pickB r 4 = 1) (hg : holdsB 23 a b = true) (hr : Fits r) (w : World) (ht : RvTab w) :
    Calls Tryd.prog 10 #[.int .i64 a, .int .i64 b, .int .i64 r] w fun e w' => e = .returned (.bool true) ∧ Below w.heap.size w w' := by
  have hpr := fun w => picked_big r 4 w hr (by decide)
  rw [hp] at hpr
  obtain ⟨D, hR, hD, d3, d1, d2⟩ := jumps_run 23 a b (by decide) (by decide)
  simp only [hg, if_true] at hR d3 d1
  have HOK : Hid (∀ z ∈ ([⟨23, 0, 5, 6, 8⟩, ⟨29, 0, 0, 0, 0⟩, ⟨26, 1, 0, 0, 8⟩, ⟨29, 0, 0, 0, 0⟩, ⟨27, 2, 1, 0, 0⟩] : List Mi), MiOk z) := jumps_ok _ (by decide) (by decide)
  have HT : Hid (∀ V, Below w.heap.size w V → RvTab V) := fun V hV => ht.below hV
  have HRUN : Hid (∀ ao cap V, RvTab V → IntsVal V (.slice ao 5 cap) (([⟨23, 0, 5, 6, 8⟩, ⟨29, 0, 0, 0, 0⟩, ⟨26, 1, 0, 0, 8⟩, ⟨29, 0, 0, 0, 0⟩, ⟨27, 2, 1, 0, 0⟩] : List Mi).map wordI) → Calls Tryd.prog 17 #[.slice ao 5 cap, .agg (cpuCells ((zeroCp.set 5 a).set 6 b)).toArray, .int .i64 (9)] V fun e w' => e = .returned (.tuple #[.agg (cpuCells D).toArray, .int .i64 (4), .int .i64 (0)]) ∧ Below V.heap.size V w') := fun ao cap V hV hI => by
    have := cpuRun_any ((zeroCp.set 5 a).set 6 b) ((zero_ok.set _ _).set _ _) (([⟨23, 0, 5, 6, 8⟩, ⟨29, 0, 0, 0, 0⟩, ⟨26, 1, 0, 0, 8⟩, ⟨29, 0, 0, 0, 0⟩, ⟨27, 2, 1, 0, 0⟩] : List Mi).map wordI) ao cap (9) V hV hI
    rw [hR] at this
    exact this
  have HD1 : Hid (D.reg 1 = 12) := d1
  have HD2 : Hid (D.reg 2 = 20) := d2 hg
  have HD3 : Hid (D.pc = 3) := d3
  have hgo0 : decide (a = b) = false := by simpa [holdsB] using hg
  have hgo1 : (a == b) = false := by simpa [holdsB] using hg
  have hgo2 : (a != b) = true := by simpa [holdsB] using hg
  clear hR ht d1 d2 d3 hp hg
  go_enter Tryd.func10, Tryd.ntmps10
  go_wp2_with (first
    | (go_at_call 19; first | (with_reducible refine (hpr _).mono ?_; rintro e w' ⟨rfl, hw'⟩; replace hw' := hw'.symm; subst hw'))
    | (go_at_call 20; refine (words_any ([⟨23, 0, 5, 6, 8⟩, ⟨29, 0, 0, 0, 0⟩, ⟨26, 1, 0, 0, 8⟩, ⟨29, 0, 0, 0, 0⟩, ⟨27, 2, 1, 0, 0⟩] : List Mi) HOK.out (by simp) w.heap.size 5 (w.alloc (.cells (List.flatMap miC ([⟨23, 0, 5, 6, 8⟩, ⟨29, 0, 0, 0, 0⟩, ⟨26, 1, 0, 0, 8⟩, ⟨29, 0, 0, 0, 0⟩, ⟨27, 2, 1, 0, 0⟩] : List Mi)).toArray 41)) (HT.out _ ((Below.refl _ _).alloc (Nat.le_refl _) _)) (rvs_new w ([⟨23, 0, 5, 6, 8⟩, ⟨29, 0, 0, 0, 0⟩, ⟨26, 1, 0, 0, 8⟩, ⟨29, 0, 0, 0, 0⟩, ⟨27, 2, 1, 0, 0⟩] : List Mi)) (by simp)).mono ?_; rintro e w1 ⟨v1, rfl, hown1, hb1⟩; obtain ⟨ao1, cap1, rfl⟩ := own_shape hown1; have HI1 : Hid (∀ V, Below w1.heap.size w1 V → IntsVal V (.slice ao1 5 cap1) (([⟨23, 0, 5, 6, 8⟩, ⟨29, 0, 0, 0, 0⟩, ⟨26, 1, 0, 0, 8⟩, ⟨29, 0, 0, 0, 0⟩, ⟨27, 2, 1, 0, 0⟩] : List Mi).map wordI)) := (fun V hV => (ints_of_own (base := w.heap.size + 1) (l := ([⟨23, 0, 5, 6, 8⟩, ⟨29, 0, 0, 0, 0⟩, ⟨26, 1, 0, 0, 8⟩, ⟨29, 0, 0, 0, 0⟩, ⟨27, 2, 1, 0, 0⟩] : List Mi).map wordI) (by simpa using hown1)).keeps (keeps_below hV)); have HB1 : Hid (Below w.heap.size w w1) := ((Below.refl _ _).alloc (Nat.le_refl _) _).trans (hb1.mono (by simp)); clear hown1 hb1; have hC0 := CAt.new w1; have HCM : Hid (CAt (w1.alloc (.cells ((Tryd.zeroCells26.setIfInBounds 5 (.int .i64 (a))).setIfInBounds 6 (.int .i64 (b))) 26)) w1.heap.size ((zeroCp.set 5 (a)).set 6 (b))) := CAt.new2 w1 5 6 (by decide) (by decide) _ _; have HBV : Hid (Below w1.heap.size w1 (w1.alloc (.cells ((Tryd.zeroCells26.setIfInBounds 5 (.int .i64 (a))).setIfInBounds 6 (.int .i64 (b))) 26))) := (Below.refl _ _).alloc (Nat.le_refl _) _; clear hC0)
    | (refine wpList_load_row rfl _ _ rfl _ rfl _ _ _ _ HCM.out.cells Tryd.underlying26 rfl (infoCpC HCM.out.ok) ?_)
    | (go_at_call 17; refine (HRUN.out _ _ _ (HT.out _ (HB1.out.trans (HBV.out.mono HB1.out.size))) (HI1.out _ HBV.out)).mono ?_; rintro e w2 ⟨rfl, hb2'⟩; have HB2 : Hid (Below w.heap.size w w2) := (HB1.out.trans (HBV.out.mono HB1.out.size)).trans (hb2'.mono (HB1.out.trans (HBV.out.mono HB1.out.size)).size); clear hb2')
    | (refine wpList_store_row rfl _ _ _ rfl _ (cpuCells D).toArray rfl rfl _ _ (heap_alloc_last w2 _) (infoCpC hD) (by rw [zc_cp, List.size_toArray, cp_len hD]) (cp_one _) ?_; have hC : CAt ((w2.alloc (.cells Tryd.zeroCells26 26)).setRow w2.heap.size (cpuCells D).toArray) w2.heap.size D := CAt.row hD (heap_alloc_last w2 _); have c1 := hC.regv 1 (by first | decide | omega) HD1.out rfl; have cp := hC.pc; rw [HD3.out] at cp; have c2 := hC.regv 2 (by first | decide | omega) HD2.out rfl; clear hC))
  go_ret
  exact ⟨by simp, ((below_setRowR (HB2.out.alloc HB2.out.size _) HB2.out.size _).alloc (by have := HB2.out.size; simp; omega) _)⟩
set_option maxRecDepth 100000 in
set_option maxHeartbeats 4000000 in
theorem cpuJumps_yes24 (a b r : Int) (hp : pickB r 4 = 2) (hg : holdsB 24 a b = true) (hr : Fits r) (w : World) (ht : RvTab w) :
    Calls Tryd.prog 10 #[.int .i64 a, .int .i64 b, .int .i64 r] w fun e w' => e = .returned (.bool true) ∧ Below w.heap.size w w' := by
  have hpr := fun w => picked_big r 4 w hr (by decide)
  rw [hp] at hpr
  obtain ⟨D, hR, hD, d3, d1, d2⟩ := jumps_run 24 a b (by decide) (by decide)
  simp only [hg, if_true] at hR d3 d1
  have HOK : Hid (∀ z ∈ ([⟨24, 0, 5, 6, 8⟩, ⟨29, 0, 0, 0, 0⟩, ⟨26, 1, 0, 0, 8⟩, ⟨29, 0, 0, 0, 0⟩, ⟨27, 2, 1, 0, 0⟩] : List Mi), MiOk z) := jumps_ok _ (by decide) (by decide)
  have HT : Hid (∀ V, Below w.heap.size w V → RvTab V) := fun V hV => ht.below hV
  have HRUN : Hid (∀ ao cap V, RvTab V → IntsVal V (.slice ao 5 cap) (([⟨24, 0, 5, 6, 8⟩, ⟨29, 0, 0, 0, 0⟩, ⟨26, 1, 0, 0, 8⟩, ⟨29, 0, 0, 0, 0⟩, ⟨27, 2, 1, 0, 0⟩] : List Mi).map wordI) → Calls Tryd.prog 17 #[.slice ao 5 cap, .agg (cpuCells ((zeroCp.set 5 a).set 6 b)).toArray, .int .i64 (9)] V fun e w' => e = .returned (.tuple #[.agg (cpuCells D).toArray, .int .i64 (4), .int .i64 (0)]) ∧ Below V.heap.size V w') := fun ao cap V hV hI => by
    have := cpuRun_any ((zeroCp.set 5 a).set 6 b) ((zero_ok.set _ _).set _ _) (([⟨24, 0, 5, 6, 8⟩, ⟨29, 0, 0, 0, 0⟩, ⟨26, 1, 0, 0, 8⟩, ⟨29, 0, 0, 0, 0⟩, ⟨27, 2, 1, 0, 0⟩] : List Mi).map wordI) ao cap (9) V hV hI
    rw [hR] at this
    exact this
  have HD1 : Hid (D.reg 1 = 12) := d1
  have HD2 : Hid (D.reg 2 = 20) := d2 hg
  have HD3 : Hid (D.pc = 3) := d3
  have hgo0 : decide (a < b) = true := by simpa [holdsB] using hg
  clear hR ht d1 d2 d3 hp hg
  go_enter Tryd.func10, Tryd.ntmps10
  go_wp2_with (first
    | (go_at_call 19; first | (with_reducible refine (hpr _).mono ?_; rintro e w' ⟨rfl, hw'⟩; replace hw' := hw'.symm; subst hw'))
    | (go_at_call 20; refine (words_any ([⟨24, 0, 5, 6, 8⟩, ⟨29, 0, 0, 0, 0⟩, ⟨26, 1, 0, 0, 8⟩, ⟨29, 0, 0, 0, 0⟩, ⟨27, 2, 1, 0, 0⟩] : List Mi) HOK.out (by simp) w.heap.size 5 (w.alloc (.cells (List.flatMap miC ([⟨24, 0, 5, 6, 8⟩, ⟨29, 0, 0, 0, 0⟩, ⟨26, 1, 0, 0, 8⟩, ⟨29, 0, 0, 0, 0⟩, ⟨27, 2, 1, 0, 0⟩] : List Mi)).toArray 41)) (HT.out _ ((Below.refl _ _).alloc (Nat.le_refl _) _)) (rvs_new w ([⟨24, 0, 5, 6, 8⟩, ⟨29, 0, 0, 0, 0⟩, ⟨26, 1, 0, 0, 8⟩, ⟨29, 0, 0, 0, 0⟩, ⟨27, 2, 1, 0, 0⟩] : List Mi)) (by simp)).mono ?_; rintro e w1 ⟨v1, rfl, hown1, hb1⟩; obtain ⟨ao1, cap1, rfl⟩ := own_shape hown1; have HI1 : Hid (∀ V, Below w1.heap.size w1 V → IntsVal V (.slice ao1 5 cap1) (([⟨24, 0, 5, 6, 8⟩, ⟨29, 0, 0, 0, 0⟩, ⟨26, 1, 0, 0, 8⟩, ⟨29, 0, 0, 0, 0⟩, ⟨27, 2, 1, 0, 0⟩] : List Mi).map wordI)) := (fun V hV => (ints_of_own (base := w.heap.size + 1) (l := ([⟨24, 0, 5, 6, 8⟩, ⟨29, 0, 0, 0, 0⟩, ⟨26, 1, 0, 0, 8⟩, ⟨29, 0, 0, 0, 0⟩, ⟨27, 2, 1, 0, 0⟩] : List Mi).map wordI) (by simpa using hown1)).keeps (keeps_below hV)); have HB1 : Hid (Below w.heap.size w w1) := ((Below.refl _ _).alloc (Nat.le_refl _) _).trans (hb1.mono (by simp)); clear hown1 hb1; have hC0 := CAt.new w1; have HCM : Hid (CAt (w1.alloc (.cells ((Tryd.zeroCells26.setIfInBounds 5 (.int .i64 (a))).setIfInBounds 6 (.int .i64 (b))) 26)) w1.heap.size ((zeroCp.set 5 (a)).set 6 (b))) := CAt.new2 w1 5 6 (by decide) (by decide) _ _; have HBV : Hid (Below w1.heap.size w1 (w1.alloc (.cells ((Tryd.zeroCells26.setIfInBounds 5 (.int .i64 (a))).setIfInBounds 6 (.int .i64 (b))) 26))) := (Below.refl _ _).alloc (Nat.le_refl _) _; clear hC0)
    | (refine wpList_load_row rfl _ _ rfl _ rfl _ _ _ _ HCM.out.cells Tryd.underlying26 rfl (infoCpC HCM.out.ok) ?_)
    | (go_at_call 17; refine (HRUN.out _ _ _ (HT.out _ (HB1.out.trans (HBV.out.mono HB1.out.size))) (HI1.out _ HBV.out)).mono ?_; rintro e w2 ⟨rfl, hb2'⟩; have HB2 : Hid (Below w.heap.size w w2) := (HB1.out.trans (HBV.out.mono HB1.out.size)).trans (hb2'.mono (HB1.out.trans (HBV.out.mono HB1.out.size)).size); clear hb2')
    | (refine wpList_store_row rfl _ _ _ rfl _ (cpuCells D).toArray rfl rfl _ _ (heap_alloc_last w2 _) (infoCpC hD) (by rw [zc_cp, List.size_toArray, cp_len hD]) (cp_one _) ?_; have hC : CAt ((w2.alloc (.cells Tryd.zeroCells26 26)).setRow w2.heap.size (cpuCells D).toArray) w2.heap.size D := CAt.row hD (heap_alloc_last w2 _); have c1 := hC.regv 1 (by first | decide | omega) HD1.out rfl; have cp := hC.pc; rw [HD3.out] at cp; have c2 := hC.regv 2 (by first | decide | omega) HD2.out rfl; clear hC))
  go_ret
  exact ⟨by simp, ((below_setRowR (HB2.out.alloc HB2.out.size _) HB2.out.size _).alloc (by have := HB2.out.size; simp; omega) _)⟩
set_option maxRecDepth 100000 in
set_option maxHeartbeats 4000000 in
theorem cpuJumps_yes25 (a b r : Int) (hp : pickB r 4 = 3) (hg : holdsB 25 a b = true) (hr : Fits r) (w : World) (ht : RvTab w) :
    Calls Tryd.prog 10 #[.int .i64 a, .int .i64 b, .int .i64 r] w fun e w' => e = .returned (.bool true) ∧ Below w.heap.size w w' := by
  have hpr := fun w => picked_big r 4 w hr (by decide)
  rw [hp] at hpr
  obtain ⟨D, hR, hD, d3, d1, d2⟩ := jumps_run 25 a b (by decide) (by decide)
  simp only [hg, if_true] at hR d3 d1
  have HOK : Hid (∀ z ∈ ([⟨25, 0, 5, 6, 8⟩, ⟨29, 0, 0, 0, 0⟩, ⟨26, 1, 0, 0, 8⟩, ⟨29, 0, 0, 0, 0⟩, ⟨27, 2, 1, 0, 0⟩] : List Mi), MiOk z) := jumps_ok _ (by decide) (by decide)
  have HT : Hid (∀ V, Below w.heap.size w V → RvTab V) := fun V hV => ht.below hV
  have HRUN : Hid (∀ ao cap V, RvTab V → IntsVal V (.slice ao 5 cap) (([⟨25, 0, 5, 6, 8⟩, ⟨29, 0, 0, 0, 0⟩, ⟨26, 1, 0, 0, 8⟩, ⟨29, 0, 0, 0, 0⟩, ⟨27, 2, 1, 0, 0⟩] : List Mi).map wordI) → Calls Tryd.prog 17 #[.slice ao 5 cap, .agg (cpuCells ((zeroCp.set 5 a).set 6 b)).toArray, .int .i64 (9)] V fun e w' => e = .returned (.tuple #[.agg (cpuCells D).toArray, .int .i64 (4), .int .i64 (0)]) ∧ Below V.heap.size V w') := fun ao cap V hV hI => by
    have := cpuRun_any ((zeroCp.set 5 a).set 6 b) ((zero_ok.set _ _).set _ _) (([⟨25, 0, 5, 6, 8⟩, ⟨29, 0, 0, 0, 0⟩, ⟨26, 1, 0, 0, 8⟩, ⟨29, 0, 0, 0, 0⟩, ⟨27, 2, 1, 0, 0⟩] : List Mi).map wordI) ao cap (9) V hV hI
    rw [hR] at this
    exact this
  have HD1 : Hid (D.reg 1 = 12) := d1
  have HD2 : Hid (D.reg 2 = 20) := d2 hg
  have HD3 : Hid (D.pc = 3) := d3
  have hgo0 : decide (b ≤ a) = true := by simpa [holdsB] using hg
  clear hR ht d1 d2 d3 hp hg
  go_enter Tryd.func10, Tryd.ntmps10
  go_wp2_with (first
    | (go_at_call 19; first | (with_reducible refine (hpr _).mono ?_; rintro e w' ⟨rfl, hw'⟩; replace hw' := hw'.symm; subst hw'))
    | (go_at_call 20; refine (words_any ([⟨25, 0, 5, 6, 8⟩, ⟨29, 0, 0, 0, 0⟩, ⟨26, 1, 0, 0, 8⟩, ⟨29, 0, 0, 0, 0⟩, ⟨27, 2, 1, 0, 0⟩] : List Mi) HOK.out (by simp) w.heap.size 5 (w.alloc (.cells (List.flatMap miC ([⟨25, 0, 5, 6, 8⟩, ⟨29, 0, 0, 0, 0⟩, ⟨26, 1, 0, 0, 8⟩, ⟨29, 0, 0, 0, 0⟩, ⟨27, 2, 1, 0, 0⟩] : List Mi)).toArray 41)) (HT.out _ ((Below.refl _ _).alloc (Nat.le_refl _) _)) (rvs_new w ([⟨25, 0, 5, 6, 8⟩, ⟨29, 0, 0, 0, 0⟩, ⟨26, 1, 0, 0, 8⟩, ⟨29, 0, 0, 0, 0⟩, ⟨27, 2, 1, 0, 0⟩] : List Mi)) (by simp)).mono ?_; rintro e w1 ⟨v1, rfl, hown1, hb1⟩; obtain ⟨ao1, cap1, rfl⟩ := own_shape hown1; have HI1 : Hid (∀ V, Below w1.heap.size w1 V → IntsVal V (.slice ao1 5 cap1) (([⟨25, 0, 5, 6, 8⟩, ⟨29, 0, 0, 0, 0⟩, ⟨26, 1, 0, 0, 8⟩, ⟨29, 0, 0, 0, 0⟩, ⟨27, 2, 1, 0, 0⟩] : List Mi).map wordI)) := (fun V hV => (ints_of_own (base := w.heap.size + 1) (l := ([⟨25, 0, 5, 6, 8⟩, ⟨29, 0, 0, 0, 0⟩, ⟨26, 1, 0, 0, 8⟩, ⟨29, 0, 0, 0, 0⟩, ⟨27, 2, 1, 0, 0⟩] : List Mi).map wordI) (by simpa using hown1)).keeps (keeps_below hV)); have HB1 : Hid (Below w.heap.size w w1) := ((Below.refl _ _).alloc (Nat.le_refl _) _).trans (hb1.mono (by simp)); clear hown1 hb1; have hC0 := CAt.new w1; have HCM : Hid (CAt (w1.alloc (.cells ((Tryd.zeroCells26.setIfInBounds 5 (.int .i64 (a))).setIfInBounds 6 (.int .i64 (b))) 26)) w1.heap.size ((zeroCp.set 5 (a)).set 6 (b))) := CAt.new2 w1 5 6 (by decide) (by decide) _ _; have HBV : Hid (Below w1.heap.size w1 (w1.alloc (.cells ((Tryd.zeroCells26.setIfInBounds 5 (.int .i64 (a))).setIfInBounds 6 (.int .i64 (b))) 26))) := (Below.refl _ _).alloc (Nat.le_refl _) _; clear hC0)
    | (refine wpList_load_row rfl _ _ rfl _ rfl _ _ _ _ HCM.out.cells Tryd.underlying26 rfl (infoCpC HCM.out.ok) ?_)
    | (go_at_call 17; refine (HRUN.out _ _ _ (HT.out _ (HB1.out.trans (HBV.out.mono HB1.out.size))) (HI1.out _ HBV.out)).mono ?_; rintro e w2 ⟨rfl, hb2'⟩; have HB2 : Hid (Below w.heap.size w w2) := (HB1.out.trans (HBV.out.mono HB1.out.size)).trans (hb2'.mono (HB1.out.trans (HBV.out.mono HB1.out.size)).size); clear hb2')
    | (refine wpList_store_row rfl _ _ _ rfl _ (cpuCells D).toArray rfl rfl _ _ (heap_alloc_last w2 _) (infoCpC hD) (by rw [zc_cp, List.size_toArray, cp_len hD]) (cp_one _) ?_; have hC : CAt ((w2.alloc (.cells Tryd.zeroCells26 26)).setRow w2.heap.size (cpuCells D).toArray) w2.heap.size D := CAt.row hD (heap_alloc_last w2 _); have c1 := hC.regv 1 (by first | decide | omega) HD1.out rfl; have cp := hC.pc; rw [HD3.out] at cp; have c2 := hC.regv 2 (by first | decide | omega) HD2.out rfl; clear hC))
  go_ret
  exact ⟨by simp, ((below_setRowR (HB2.out.alloc HB2.out.size _) HB2.out.size _).alloc (by have := HB2.out.size; simp; omega) _)⟩
theorem cpuJumps_walk (a b r : Int) (_ha : Fits a) (_hb : Fits b) (hr : Fits r) (w : World) (ht : RvTab w) :
    Calls Tryd.prog 10 #[.int .i64 a, .int .i64 b, .int .i64 r] w fun e w' => e = .returned (.bool true) ∧ Below w.heap.size w w' := by
  have hb := pickB_bounds r 4 (by decide)
  rcases (show pickB r 4 = 0 ∨ pickB r 4 = 1 ∨ pickB r 4 = 2 ∨ pickB r 4 = 3 by omega) with h | h | h | h
  · cases hg : holdsB 22 a b
    · exact cpuJumps_no22 a b r h hg hr w ht
    · exact cpuJumps_yes22 a b r h hg hr w ht
  · cases hg : holdsB 23 a b
    · exact cpuJumps_no23 a b r h hg hr w ht
    · exact cpuJumps_yes23 a b r h hg hr w ht
  · cases hg : holdsB 24 a b
    · exact cpuJumps_no24 a b r h hg hr w ht
    · exact cpuJumps_yes24 a b r h hg hr w ht
  · cases hg : holdsB 25 a b
    · exact cpuJumps_no25 a b r h hg hr w ht
    · exact cpuJumps_yes25 a b r h hg hr w ht
end Go.Proofs.YtapjfiihfgndeaaDoor
