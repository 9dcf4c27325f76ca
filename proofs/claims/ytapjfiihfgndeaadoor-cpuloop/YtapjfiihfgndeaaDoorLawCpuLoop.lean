/- The walk of tierlinekeep.CpuLoop (written by gen/mkcpulaw.py): at all numbers it says true, and nothing that was there has turned. -/
import Derived.Test.YtapjfiihfgndeaaDoorCpuIs
namespace Go.Proofs.YtapjfiihfgndeaaDoor
open Go Go.RowKit

theorem loop_ok : ∀ z ∈ ([⟨22, 0, 5, 0, 16⟩, ⟨1, 6, 6, 5, 0⟩, ⟨12, 5, 5, 0, -1⟩, ⟨26, 0, 0, 0, -12⟩, ⟨29, 0, 0, 0, 0⟩] : List Mi), MiOk z := by
  intro z hz
  simp only [List.mem_cons, List.not_mem_nil, or_false] at hz
  rcases hz with rfl | rfl | rfl | rfl | rfl
  all_goals exact ⟨by decide, by decide, by decide⟩
def tri : Nat → Nat
  | 0 => 0
  | i + 1 => tri i + (i + 1)
theorem tri_two (i : Nat) : 2 * tri i = i * (i + 1) := by
  induction i with
  | zero => rfl
  | succ i ih =>
    unfold tri
    rw [Nat.mul_add, ih, Nat.add_mul i 1 (i + 1 + 1), Nat.mul_add i (i + 1) 1]
    omega
theorem tri_le (i : Nat) (h : i ≤ 200) : tri i ≤ 20100 := by
  have := tri_two i
  have h2 : i * (i + 1) ≤ 200 * 201 := Nat.mul_le_mul h (by omega)
  omega
theorem loop_run (dt : List Int) (i : Nat) : ∀ (c : Cp) (f : Int → Int), Is c 0 f dt → f 5 = i → f 0 = 0 → 0 ≤ f 6 → f 6 ≤ 1000000 - 300 * i → i ≤ 200 →
    (∃ D : Cp, (∀ n j, runA (([⟨22, 0, 5, 0, 16⟩, ⟨1, 6, 6, 5, 0⟩, ⟨12, 5, 5, 0, -1⟩, ⟨26, 0, 0, 0, -12⟩, ⟨29, 0, 0, 0, 0⟩] : List Mi).map wordI) (4 * i + 2 + n) j c = (D, ((j + 4 * i + 2 : Nat) : Int), 0)) ∧ D.Ok ∧ D.reg 6 = f 6 + (tri i : Int) ∧ D.reg 5 = 0) ∧ ∀ j, runA (([⟨22, 0, 5, 0, 16⟩, ⟨1, 6, 6, 5, 0⟩, ⟨12, 5, 5, 0, -1⟩, ⟨26, 0, 0, 0, -12⟩, ⟨29, 0, 0, 0, 0⟩] : List Mi).map wordI) (4 * i + 1) j c = (zeroCp, 0, 10) := by
  have ok := loop_ok
  obtain ⟨ws, hws⟩ : ∃ ws, ws = ([⟨22, 0, 5, 0, 16⟩, ⟨1, 6, 6, 5, 0⟩, ⟨12, 5, 5, 0, -1⟩, ⟨26, 0, 0, 0, -12⟩, ⟨29, 0, 0, 0, 0⟩] : List Mi).map wordI := ⟨_, rfl⟩
  rw [← hws]
  induction i with
  | zero =>
    intro c f h f5 f0 s0 s1 _
    obtain ⟨c1, e1, h1⟩ := is_br (ws := ws) h 22 5 0 16 (by decide) (by decide) 4 (by simp [f5, f0, holdsB]) (by rw [hws]; rfl) (ok _ (by simp))
    refine ⟨?_, fun j => ?_⟩
    · have hk : ws[4]? = some (wordI ⟨29, 0, 0, 0, 0⟩) := by rw [hws]; rfl
      refine ⟨c1.stop, fun n j => ?_, h1.ok.stop, ?_, ?_⟩
      · rw [show 4 * 0 + 2 + n = n + 1 + 1 by omega, e1, run_ecall n 4 (j + 1) h1.runs h1.pc hk halt_ok]
      · rw [reg_stop, h1.reg 6 (by decide) (by decide)]; simp [tri]
      · rw [reg_stop, h1.reg 5 (by decide) (by decide), f5]; rfl
    · rw [show 4 * 0 + 1 = 0 + 1 from rfl, e1, runA_short _ h1.runs]
  | succ i ih =>
    intro c f h f5 f0 s0 s1 hi
    have hne : ¬ ((i + 1 : Nat) : Int) = 0 := by omega
    obtain ⟨c1, e1, h1⟩ := is_br (ws := ws) h 22 5 0 16 (by decide) (by decide) 1 (by rw [f5, f0]; simp [holdsB]; omega) (by rw [hws]; rfl) (ok _ (by simp))
    obtain ⟨c2, e2, h2⟩ := is_mk (ws := ws) h1 ⟨1, 6, 6, 5, 0⟩ (by rw [hws]; rfl) (ok _ (by simp)) (by simp)
    obtain ⟨c3, e3, h3⟩ := is_mk (ws := ws) h2 ⟨12, 5, 5, 0, -1⟩ (by rw [hws]; rfl) (ok _ (by simp)) (by simp)
    obtain ⟨c4, e4, h4⟩ := is_jal (ws := ws) h3 0 (-12) 0 (by decide) (by rw [hws]; rfl) (ok _ (by simp))
    have g5 : (upd (upd (upd f 6 (mdC 1 (f 6) (f 5))) 5 (mdC 12 (upd f 6 (mdC 1 (f 6) (f 5)) 5) (-1))) 0 ((((0 + 1 + 1 + 1 : Nat) : Int) + 1) * 4)) 5 = (i : Int) := by
      simp [upd, mdC, f5]
      rw [wrap64_small _ (by omega) (by omega)]; omega
    have g6 : (upd (upd (upd f 6 (mdC 1 (f 6) (f 5))) 5 (mdC 12 (upd f 6 (mdC 1 (f 6) (f 5)) 5) (-1))) 0 ((((0 + 1 + 1 + 1 : Nat) : Int) + 1) * 4)) 6 = f 6 + ((i : Int) + 1) := by
      simp [upd, mdC, f5]
      rw [wrap64_small _ (by omega) (by omega)]
    have g0 : (upd (upd (upd f 6 (mdC 1 (f 6) (f 5))) 5 (mdC 12 (upd f 6 (mdC 1 (f 6) (f 5)) 5) (-1))) 0 ((((0 + 1 + 1 + 1 : Nat) : Int) + 1) * 4)) 0 = 0 := by
      simp [upd, f0]
    have h4' : Is c4 0 (upd (upd (upd f 6 (mdC 1 (f 6) (f 5))) 5 (mdC 12 (upd f 6 (mdC 1 (f 6) (f 5)) 5) (-1))) 0 ((((0 + 1 + 1 + 1 : Nat) : Int) + 1) * 4)) dt := h4
    obtain ⟨⟨D, hD1, hD2, hD3, hD4⟩, hS⟩ := ih c4 _ h4' g5 g0 (by rw [g6]; omega) (by rw [g6]; omega) (by omega)
    refine ⟨⟨D, fun n j => ?_, hD2, ?_, hD4⟩, fun j => ?_⟩
    · rw [show 4 * (i + 1) + 2 + n = (4 * i + 2 + n) + 1 + 1 + 1 + 1 by omega, e1, e2, e3, e4, hD1]
      congr 2
      omega
    · rw [hD3, g6, show tri (i + 1) = tri i + (i + 1) from rfl]; omega
    · rw [show 4 * (i + 1) + 1 = (4 * i + 1) + 1 + 1 + 1 + 1 by omega, e1, e2, e3, e4, hS]
theorem loop_all (k : Nat) (hk : k < 200) : ∃ D : Cp, runAns (([⟨22, 0, 5, 0, 16⟩, ⟨1, 6, 6, 5, 0⟩, ⟨12, 5, 5, 0, -1⟩, ⟨26, 0, 0, 0, -12⟩, ⟨29, 0, 0, 0, 0⟩] : List Mi).map wordI) (zeroCp.set 5 (k : Int)) 1000 = (D, 4 * (k : Int) + 2, 0) ∧ runAns (([⟨22, 0, 5, 0, 16⟩, ⟨1, 6, 6, 5, 0⟩, ⟨12, 5, 5, 0, -1⟩, ⟨26, 0, 0, 0, -12⟩, ⟨29, 0, 0, 0, 0⟩] : List Mi).map wordI) (zeroCp.set 5 (k : Int)) (4 * (k : Int) + 1) = (zeroCp, 0, 10) ∧ D.Ok ∧ D.reg 6 = (tri k : Int) ∧ D.reg 5 = 0 := by
  have h0 := Is.begun (zero_ok.set 5 (k : Int)) rfl rfl
  have r5 : (zeroCp.set 5 (k : Int)).reg 5 = k := by rw [reg_set zero_ok _ (by decide) (by decide) (by decide), if_pos rfl]
  have r6 : (zeroCp.set 5 (k : Int)).reg 6 = 0 := by rw [reg_set zero_ok _ (by decide) (by decide) (by decide), if_neg (by decide)]; exact reg_zero 6
  obtain ⟨⟨D, h1, h2, h3, h4⟩, hS⟩ := loop_run _ k _ _ h0 (by simp [r5]) (by simp) (by simp [r6]) (by simp [r6]; omega) (by omega)
  refine ⟨D, ?_, ?_, h2, by rw [h3]; simp [r6], h4⟩
  · rw [show (1000 : Int) = ((1000 : Nat) : Int) from rfl, runAns_eq 1000 (by simp) (by decide), show 1000 = 4 * k + 2 + (998 - 4 * k) by omega, h1]
    congr 2
    omega
  · rw [show 4 * (k : Int) + 1 = ((4 * k + 1 : Nat) : Int) by omega, runAns_eq (4 * k + 1) (by simp) (by omega), hS]

set_option maxRecDepth 100000 in
set_option maxHeartbeats 4000000 in
theorem cpuLoop_at (n : Int) (k : Nat) (hk : k < 200) (hp : pickB n 200 = (k : Int)) (hn : Fits n) (w : World) (ht : RvTab w) :
    Calls Tryd.prog 13 #[.int .i64 n] w fun e w' => e = .returned (.bool true) ∧ Below w.heap.size w w' := by
  have hpr := fun w => picked_big n 200 w hn (by decide)
  rw [hp] at hpr
  obtain ⟨D, hR1, hR2, hD, d6, d5⟩ := loop_all k hk
  have HOK : Hid (∀ z ∈ ([⟨22, 0, 5, 0, 16⟩, ⟨1, 6, 6, 5, 0⟩, ⟨12, 5, 5, 0, -1⟩, ⟨26, 0, 0, 0, -12⟩, ⟨29, 0, 0, 0, 0⟩] : List Mi), MiOk z) := loop_ok
  have HT : Hid (∀ V, Below w.heap.size w V → RvTab V) := fun V hV => ht.below hV
  have HRUN : Hid (∀ ao cap V, RvTab V → IntsVal V (.slice ao 5 cap) (([⟨22, 0, 5, 0, 16⟩, ⟨1, 6, 6, 5, 0⟩, ⟨12, 5, 5, 0, -1⟩, ⟨26, 0, 0, 0, -12⟩, ⟨29, 0, 0, 0, 0⟩] : List Mi).map wordI) → Calls Tryd.prog 17 #[.slice ao 5 cap, .agg (cpuCells (zeroCp.set 5 (k : Int))).toArray, .int .i64 (1000)] V fun e w' => e = .returned (.tuple #[.agg (cpuCells D).toArray, .int .i64 (4 * (k : Int) + 2), .int .i64 (0)]) ∧ Below V.heap.size V w') := fun ao cap V hV hI => by
    have := cpuRun_any (zeroCp.set 5 (k : Int)) (zero_ok.set _ _) (([⟨22, 0, 5, 0, 16⟩, ⟨1, 6, 6, 5, 0⟩, ⟨12, 5, 5, 0, -1⟩, ⟨26, 0, 0, 0, -12⟩, ⟨29, 0, 0, 0, 0⟩] : List Mi).map wordI) ao cap (1000) V hV hI
    rw [hR1] at this
    exact this
  have HRUN2 : Hid (∀ ao cap V, RvTab V → IntsVal V (.slice ao 5 cap) (([⟨22, 0, 5, 0, 16⟩, ⟨1, 6, 6, 5, 0⟩, ⟨12, 5, 5, 0, -1⟩, ⟨26, 0, 0, 0, -12⟩, ⟨29, 0, 0, 0, 0⟩] : List Mi).map wordI) → Calls Tryd.prog 17 #[.slice ao 5 cap, .agg (cpuCells (zeroCp.set 5 (k : Int))).toArray, .int .i64 (4 * (k : Int) + 1)] V fun e w' => e = .returned (.tuple #[.agg (cpuCells zeroCp).toArray, .int .i64 (0), .int .i64 (10)]) ∧ Below V.heap.size V w') := fun ao cap V hV hI => by
    have := cpuRun_any (zeroCp.set 5 (k : Int)) (zero_ok.set _ _) (([⟨22, 0, 5, 0, 16⟩, ⟨1, 6, 6, 5, 0⟩, ⟨12, 5, 5, 0, -1⟩, ⟨26, 0, 0, 0, -12⟩, ⟨29, 0, 0, 0, 0⟩] : List Mi).map wordI) ao cap (4 * (k : Int) + 1) V hV hI
    rw [hR2] at this
    exact this
  have HD6 : Hid (D.reg 6 = (tri k : Int)) := d6
  have HD5 : Hid (D.reg 5 = 0) := d5
  have hkI : (k : Int) < 200 := by omega
  have t2 := tri_two k
  have tl := tri_le k (by omega)
  have hX0 : (k : Int) * ((k : Int) + 1) = 2 * (tri k : Int) := by exact_mod_cast t2.symm
  obtain ⟨X, hX⟩ : ∃ X, (k : Int) * ((k : Int) + 1) = X := ⟨_, rfl⟩
  rw [hX] at hX0
  have x0 : 0 ≤ X := by omega
  have x1 : X ≤ 40200 := by omega
  have hXd : X.tdiv 2 = (tri k : Int) := by rw [hX0]; exact Int.mul_tdiv_cancel_left _ (by decide)
  have hXe : X / 2 = (tri k : Int) := by omega
  have hXw : wrap64 X = X := wrap64_small _ (by omega) (by omega)
  clear tl hX0
  generalize (tri k : Int) = TK at *
  clear hR1 hR2 ht d5 d6 hp t2
  go_enter Tryd.func13, Tryd.ntmps13
  go_upto_region 7 with (first
    | (go_at_call 19; first | (with_reducible refine (hpr _).mono ?_; rintro e w' ⟨rfl, hw'⟩; replace hw' := hw'.symm; subst hw'))
    | (go_at_call 20; refine (words_any ([⟨22, 0, 5, 0, 16⟩, ⟨1, 6, 6, 5, 0⟩, ⟨12, 5, 5, 0, -1⟩, ⟨26, 0, 0, 0, -12⟩, ⟨29, 0, 0, 0, 0⟩] : List Mi) HOK.out (by simp) w.heap.size 5 (w.alloc (.cells (List.flatMap miC ([⟨22, 0, 5, 0, 16⟩, ⟨1, 6, 6, 5, 0⟩, ⟨12, 5, 5, 0, -1⟩, ⟨26, 0, 0, 0, -12⟩, ⟨29, 0, 0, 0, 0⟩] : List Mi)).toArray 41)) (HT.out _ ((Below.refl _ _).alloc (Nat.le_refl _) _)) (rvs_new w ([⟨22, 0, 5, 0, 16⟩, ⟨1, 6, 6, 5, 0⟩, ⟨12, 5, 5, 0, -1⟩, ⟨26, 0, 0, 0, -12⟩, ⟨29, 0, 0, 0, 0⟩] : List Mi)) (by simp)).mono ?_; rintro e w1 ⟨v1, rfl, hown1, hb1⟩; obtain ⟨ao1, cap1, rfl⟩ := own_shape hown1; have HI1 : Hid (∀ V, Below w1.heap.size w1 V → IntsVal V (.slice ao1 5 cap1) (([⟨22, 0, 5, 0, 16⟩, ⟨1, 6, 6, 5, 0⟩, ⟨12, 5, 5, 0, -1⟩, ⟨26, 0, 0, 0, -12⟩, ⟨29, 0, 0, 0, 0⟩] : List Mi).map wordI)) := (fun V hV => (ints_of_own (base := w.heap.size + 1) (l := ([⟨22, 0, 5, 0, 16⟩, ⟨1, 6, 6, 5, 0⟩, ⟨12, 5, 5, 0, -1⟩, ⟨26, 0, 0, 0, -12⟩, ⟨29, 0, 0, 0, 0⟩] : List Mi).map wordI) (by simpa using hown1)).keeps (keeps_below hV)); have HB1 : Hid (Below w.heap.size w w1) := ((Below.refl _ _).alloc (Nat.le_refl _) _).trans (hb1.mono (by simp)); clear hown1 hb1; have hC0 := CAt.new w1; have HCM : Hid (CAt (w1.alloc (.cells (Tryd.zeroCells26.setIfInBounds 5 (.int .i64 ((k : Int)))) 26)) w1.heap.size (zeroCp.set 5 ((k : Int)))) := CAt.new1 w1 5 (by decide) _; have HBV : Hid (Below w1.heap.size w1 (w1.alloc (.cells (Tryd.zeroCells26.setIfInBounds 5 (.int .i64 ((k : Int)))) 26))) := (Below.refl _ _).alloc (Nat.le_refl _) _; clear hC0)
    | (refine wpList_load_row rfl _ _ rfl _ rfl _ _ _ _ HCM.out.cells Tryd.underlying26 rfl (infoCpC HCM.out.ok) ?_)
    | (go_at_call 17; refine (HRUN.out _ _ _ (HT.out _ (HB1.out.trans (HBV.out.mono HB1.out.size))) (HI1.out _ HBV.out)).mono ?_; rintro e w2 ⟨rfl, hb2'⟩; have HB2 : Hid (Below w.heap.size w w2) := (HB1.out.trans (HBV.out.mono HB1.out.size)).trans (hb2'.mono (HB1.out.trans (HBV.out.mono HB1.out.size)).size); have HBX : Hid (Below (w1.alloc (.cells (Tryd.zeroCells26.setIfInBounds 5 (.int .i64 ((k : Int)))) 26)).heap.size (w1.alloc (.cells (Tryd.zeroCells26.setIfInBounds 5 (.int .i64 ((k : Int)))) 26)) w2) := hb2'; have HBW2 : Hid (Below w1.heap.size w1 w2) := HBV.out.trans (hb2'.mono HBV.out.size); clear hb2'; have HI2 : Hid (∀ V, Below w2.heap.size w2 V → IntsVal V (.slice ao1 5 cap1) (([⟨22, 0, 5, 0, 16⟩, ⟨1, 6, 6, 5, 0⟩, ⟨12, 5, 5, 0, -1⟩, ⟨26, 0, 0, 0, -12⟩, ⟨29, 0, 0, 0, 0⟩] : List Mi).map wordI)) := (fun V hV => HI1.out V (HBW2.out.trans (hV.mono HBW2.out.size))); have HCM2 : Hid (CAt w2 w1.heap.size (zeroCp.set 5 (k : Int))) := HCM.out.below HBX.out HCM.out.lt; clear HRUN)
    | (refine wpList_load_row rfl _ _ rfl _ rfl _ _ _ _ HCM3.out.cells Tryd.underlying26 rfl (infoCpC HCM3.out.ok) ?_)
    | (go_at_call 17; refine (HRUN2.out _ _ _ (HT.out _ HB3.out) HI3.out).mono ?_; rintro e w4 ⟨rfl, hb4⟩; have HB4 : Hid (Below w.heap.size w w4) := HB3.out.trans (hb4.mono HB3.out.size); have HC4 : Hid (CAt w4 w2.heap.size D) := HC3.out.below hb4 HC3.out.lt; clear hb4)
    | (refine wpList_store_row rfl _ _ _ rfl _ (cpuCells D).toArray rfl rfl _ _ (heap_alloc_last w2 _) (infoCpC hD) (by rw [zc_cp, List.size_toArray, cp_len hD]) (cp_one _) ?_; have hC : CAt ((w2.alloc (.cells Tryd.zeroCells26 26)).setRow w2.heap.size (cpuCells D).toArray) w2.heap.size D := CAt.row hD (heap_alloc_last w2 _); have c6 := hC.regv 6 (by first | decide | omega) HD6.out rfl; have c5 := hC.regv 5 (by first | decide | omega) HD5.out rfl; have HC3 : Hid (CAt ((w2.alloc (.cells Tryd.zeroCells26 26)).setRow w2.heap.size (cpuCells D).toArray) w2.heap.size D) := hC; have HCM3 : Hid (CAt ((w2.alloc (.cells Tryd.zeroCells26 26)).setRow w2.heap.size (cpuCells D).toArray) w1.heap.size (zeroCp.set 5 (k : Int))) := (HCM2.out.below (below_setRowR ((Below.refl _ _).alloc (Nat.le_refl _) _) (Nat.le_refl _) _) HCM2.out.lt); have HB3 : Hid (Below w.heap.size w ((w2.alloc (.cells Tryd.zeroCells26 26)).setRow w2.heap.size (cpuCells D).toArray)) := below_setRowR (HB2.out.alloc HB2.out.size _) HB2.out.size _; have HI3 : Hid (IntsVal ((w2.alloc (.cells Tryd.zeroCells26 26)).setRow w2.heap.size (cpuCells D).toArray) (.slice ao1 5 cap1) (([⟨22, 0, 5, 0, 16⟩, ⟨1, 6, 6, 5, 0⟩, ⟨12, 5, 5, 0, -1⟩, ⟨26, 0, 0, 0, -12⟩, ⟨29, 0, 0, 0, 0⟩] : List Mi).map wordI)) := HI2.out _ (below_setRowR ((Below.refl _ _).alloc (Nat.le_refl _) _) (Nat.le_refl _) _); clear HCM HCM2 c5 c6; clear hC)
    | (refine wpList_store_row rfl _ _ _ rfl _ (cpuCells zeroCp).toArray rfl rfl _ _ (heap_alloc_last w4 _) infoCp0 (by rw [zc_cp]; rfl) (cp_one _) ?_))
  have HB5 : Hid (Below w.heap.size w ((w4.alloc (.cells Tryd.zeroCells26 26)).setRow w4.heap.size (cpuCells zeroCp).toArray)) := below_setRowR (HB4.out.alloc HB4.out.size _) HB4.out.size _
  have HC5 := HC4.out.below (below_setRowR ((Below.refl _ _).alloc (Nat.le_refl _) (.cells Tryd.zeroCells26 26)) (Nat.le_refl _) (cpuCells zeroCp).toArray) HC4.out.lt
  have c6 := HC5.regv 6 (by decide) HD6.out rfl
  have c5 := HC5.regv 5 (by decide) HD5.out rfl
  clear HC5 HC4 HC3 HCM3 HI1 HI2 HI3 HRUN2 HT HB1 HB2 HB3 HB4
  generalize (w4.alloc (.cells Tryd.zeroCells26 26)).setRow w4.heap.size (cpuCells zeroCp).toArray = W5 at HB5 c5 c6 ⊢
  go_wp2
  go_ret
  exact ⟨by simp, HB5.out⟩
theorem cpuLoop_walk (n : Int) (hn : Fits n) (w : World) (ht : RvTab w) :
    Calls Tryd.prog 13 #[.int .i64 n] w fun e w' => e = .returned (.bool true) ∧ Below w.heap.size w w' := by
  have hb := pickB_bounds n 200 (by decide)
  obtain ⟨k, hk⟩ := Int.eq_ofNat_of_zero_le hb.1
  exact cpuLoop_at n k (by omega) hk hn w ht
end Go.Proofs.YtapjfiihfgndeaaDoor
