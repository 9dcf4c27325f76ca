/- The walk of tierlinekeep.CpuMakes (written by gen/mkcpulaw.py): at all numbers it says true, and nothing that was there has turned. -/
import Derived.Test.YtapjfiihfgndeaaDoorCpuIs
namespace Go.Proofs.YtapjfiihfgndeaaDoor
open Go Go.RowKit

theorem makes_ok (i : Nat) (hi : i < 10) : ∀ z ∈ ([⟨(i : Int) + 1, 7, 5, 6, 0⟩] : List Mi), MiOk z := by
  intro z hz
  simp only [List.mem_cons, List.not_mem_nil, or_false] at hz
  subst hz
  rcases (show i = 0 ∨ i = 1 ∨ i = 2 ∨ i = 3 ∨ i = 4 ∨ i = 5 ∨ i = 6 ∨ i = 7 ∨ i = 8 ∨ i = 9 by omega) with rfl | rfl | rfl | rfl | rfl | rfl | rfl | rfl | rfl | rfl
  all_goals exact ⟨by decide, by decide, by decide⟩
theorem makes_run (i : Nat) (hi : i < 10) (a b : Int) : ∃ D : Cp, stepAns (([⟨(i : Int) + 1, 7, 5, 6, 0⟩] : List Mi).map wordI) ((zeroCp.set 5 a).set 6 b) = (D, 0) ∧ D.Ok ∧ D.reg 7 = mdC ((i : Int) + 1) a b ∧ D.reg 5 = a ∧ D.pc = 1 := by
  have ok := makes_ok i hi _ (List.mem_cons_self ..)
  have hC := (zero_ok.set 5 a).set 6 b
  have h0 := Is.begun hC rfl rfl
  have f5 : (((zeroCp.set 5 a).set 6 b)).reg 5 = a := by rw [reg_set (zero_ok.set 5 a) b (by decide) (by decide) (by decide), if_neg (by decide), reg_set zero_ok a (by decide) (by decide) (by decide), if_pos rfl]
  have f6 : (((zeroCp.set 5 a).set 6 b)).reg 6 = b := by rw [reg_set (zero_ok.set 5 a) b (by decide) (by decide) (by decide), if_pos rfl]
  have g5 := h0.reg 5 (by decide) (by decide)
  have g6 := h0.reg 6 (by decide) (by decide)
  simp only [f5, f6, show ¬ (5 : Int) = 0 by decide, show ¬ (6 : Int) = 0 by decide, if_false] at g5 g6
  have ho : (⟨(i : Int) + 1, 7, 5, 6, 0⟩ : Mi).op ≤ 19 := by show (i : Int) + 1 ≤ 19; omega
  obtain ⟨s1, s2⟩ := step_at (ws := ([⟨(i : Int) + 1, 7, 5, 6, 0⟩] : List Mi).map wordI) (x := ⟨(i : Int) + 1, 7, 5, 6, 0⟩) 0 h0.pc rfl ok
  rw [doE_mk _ ho] at s1
  rw [doC_mk _ _ _ ho] at s2
  have hs : snd ⟨(i : Int) + 1, 7, 5, 6, 0⟩ b = b := by unfold snd; rw [if_neg (by show ¬ 12 ≤ (i : Int) + 1; omega)]
  refine ⟨(((zeroCp.set 5 a).set 6 b).begun.put 7 (mdC ((i : Int) + 1) a b)).go 1, ?_, (h0.ok.put _ _).go _, ?_, ?_, rfl⟩
  · unfold stepAns
    rw [if_neg (by simp), if_neg (show ¬ (((zeroCp.set 5 a).set 6 b).halted = true) from fun h => by cases h), if_pos s1, s2]
    dsimp only
    rw [g5, g6, hs, h0.pc]; rfl
  · rw [reg_go, reg_put h0.ok _ (by decide) (by decide) (by decide), if_pos (by decide)]
  · rw [reg_go, reg_put h0.ok _ (by decide) (by decide) (by decide), if_neg (by decide)]; exact g5
theorem makes_mk (i : Nat) (hi : i < 10) (a b : Int) : mdC ((i : Int) + 1) a b = if mkE ((i : Int) + 2) b = 0 then mk ((i : Int) + 2) a b 0 else -1 := by
  rcases (show i = 0 ∨ i = 1 ∨ i = 2 ∨ i = 3 ∨ i = 4 ∨ i = 5 ∨ i = 6 ∨ i = 7 ∨ i = 8 ∨ i = 9 by omega) with rfl | rfl | rfl | rfl | rfl | rfl | rfl | rfl | rfl | rfl
  all_goals first | (simp [mdC, mk, mkE]; done) | (by_cases hb : b = 0 <;> simp [mdC, mk, mkE, hb])
theorem pairs_at (w : World) (i : Nat) (hi : i < 10) : (w.alloc (.cells #[.int .i64 1, .int .i64 2, .int .i64 2, .int .i64 3, .int .i64 3, .int .i64 4, .int .i64 4, .int .i64 5, .int .i64 5, .int .i64 6, .int .i64 6, .int .i64 7, .int .i64 7, .int .i64 8, .int .i64 8, .int .i64 9, .int .i64 9, .int .i64 10, .int .i64 10, .int .i64 11] 35)).rangeAt w.heap.size (i * 2) [.int .i64 ((i : Int) + 1), .int .i64 ((i : Int) + 2)] := by
  have h := heap_alloc_last w (.cells #[.int .i64 1, .int .i64 2, .int .i64 2, .int .i64 3, .int .i64 3, .int .i64 4, .int .i64 4, .int .i64 5, .int .i64 5, .int .i64 6, .int .i64 6, .int .i64 7, .int .i64 7, .int .i64 8, .int .i64 8, .int .i64 9, .int .i64 9, .int .i64 10, .int .i64 10, .int .i64 11] 35)
  intro j u hu
  rw [cell_of_row _ _ _ _ _ _ h]
  match j, hu with
  | 0, hu =>
    rw [← Option.some.inj (show some (Value.int .i64 ((i : Int) + 1)) = some u from hu)]
    rcases (show i = 0 ∨ i = 1 ∨ i = 2 ∨ i = 3 ∨ i = 4 ∨ i = 5 ∨ i = 6 ∨ i = 7 ∨ i = 8 ∨ i = 9 by omega) with rfl | rfl | rfl | rfl | rfl | rfl | rfl | rfl | rfl | rfl <;> rfl
  | 1, hu =>
    rw [← Option.some.inj (show some (Value.int .i64 ((i : Int) + 2)) = some u from hu)]
    rcases (show i = 0 ∨ i = 1 ∨ i = 2 ∨ i = 3 ∨ i = 4 ∨ i = 5 ∨ i = 6 ∨ i = 7 ∨ i = 8 ∨ i = 9 by omega) with rfl | rfl | rfl | rfl | rfl | rfl | rfl | rfl | rfl | rfl <;> rfl
  | j + 2, hu => simp at hu
theorem infoP2 : (Tryd.prog.info? 35).map (·.size) = some 2 := by kernel_rfl

set_option maxRecDepth 100000 in
set_option maxHeartbeats 4000000 in
theorem cpuMakes_good (op a b : Int) (i : Nat) (hi : i < 10) (hp : pickB op 10 = (i : Int)) (hop : Fits op) (he : mkE ((i : Int) + 2) b = 0) (w : World) (ht : RvTab w) :
    Calls Tryd.prog 5 #[.int .i64 op, .int .i64 a, .int .i64 b] w fun e w' => e = .returned (.bool true) ∧ Below w.heap.size w w' := by
  have hpr := fun w => picked_big op 10 w hop (by decide)
  rw [hp] at hpr
  obtain ⟨D, hR, hD, d7, d5, d1⟩ := makes_run i hi a b
  rw [makes_mk i hi, if_pos he] at d7
  have HOK : Hid (∀ z ∈ ([⟨(i : Int) + 1, 7, 5, 6, 0⟩] : List Mi), MiOk z) := makes_ok i hi
  have HMK := fun w => make_any ((i : Int) + 2) a b 0 w
  rw [he] at HMK
  generalize mk ((i : Int) + 2) a b 0 = M at *
  have HT0 : Hid (∀ V, Below w.heap.size w V → RvTab V) := fun V hV => ht.below hV
  have HRUN : Hid (∀ ao cap V, RvTab V → IntsVal V (.slice ao 1 cap) (([⟨(i : Int) + 1, 7, 5, 6, 0⟩] : List Mi).map wordI) → Calls Tryd.prog 14 #[.slice ao 1 cap, .agg (cpuCells ((zeroCp.set 5 a).set 6 b)).toArray] V fun e w' => e = .returned (.tuple #[.agg (cpuCells D).toArray, .int .i64 0]) ∧ Below V.heap.size V w') := fun ao cap V hV hI => by
    have := cpuStep_any ((zeroCp.set 5 a).set 6 b) ((zero_ok.set _ _).set _ _) (([⟨(i : Int) + 1, 7, 5, 6, 0⟩] : List Mi).map wordI) ao cap V hV hI
    rw [hR] at this
    exact this
  have HD7 : Hid (D.reg 7 = M) := d7
  have HD5 : Hid (D.reg 5 = a) := d5
  have HD1 : Hid (D.pc = 1) := d1
  have HPR : Hid ((w.alloc (.cells #[.int .i64 1, .int .i64 2, .int .i64 2, .int .i64 3, .int .i64 3, .int .i64 4, .int .i64 4, .int .i64 5, .int .i64 5, .int .i64 6, .int .i64 6, .int .i64 7, .int .i64 7, .int .i64 8, .int .i64 8, .int .i64 9, .int .i64 9, .int .i64 10, .int .i64 10, .int .i64 11] 35)).rangeAt w.heap.size (i * 2) [.int .i64 ((i : Int) + 1), .int .i64 ((i : Int) + 2)]) := pairs_at w i hi
  have HKB : Hid (Below w.heap.size w ((w.alloc (.cells #[.int .i64 1, .int .i64 2, .int .i64 2, .int .i64 3, .int .i64 3, .int .i64 4, .int .i64 4, .int .i64 5, .int .i64 5, .int .i64 6, .int .i64 6, .int .i64 7, .int .i64 7, .int .i64 8, .int .i64 8, .int .i64 9, .int .i64 9, .int .i64 10, .int .i64 10, .int .i64 11] 35)).alloc (.cells #[.int .i64 ((i : Int) + 1), .int .i64 ((i : Int) + 2)] 35))) := ((Below.refl _ _).alloc (Nat.le_refl _) _).alloc (by simp) _
  have HKC : Hid (((w.alloc (.cells #[.int .i64 1, .int .i64 2, .int .i64 2, .int .i64 3, .int .i64 3, .int .i64 4, .int .i64 4, .int .i64 5, .int .i64 5, .int .i64 6, .int .i64 6, .int .i64 7, .int .i64 7, .int .i64 8, .int .i64 8, .int .i64 9, .int .i64 9, .int .i64 10, .int .i64 10, .int .i64 11] 35)).alloc (.cells #[.int .i64 ((i : Int) + 1), .int .i64 ((i : Int) + 2)] 35)).heap[w.heap.size + 1]? = some (.cells #[.int .i64 ((i : Int) + 1), .int .i64 ((i : Int) + 2)] 35 (0, 0))) := heap_alloc2_new _ _ _
  have hiI : (i : Int) < 10 := by omega
  clear hR ht d7 d5 d1 hp he
  go_enter Tryd.func5, Tryd.ntmps5
  go_upto_region 3 with (first
    | (go_at_call 19; first | (with_reducible refine (hpr _).mono ?_; rintro e w' ⟨rfl, hw'⟩; replace hw' := hw'.symm; subst hw'))
    | (refine wpList_load_mid rfl 35 _ rfl w.heap.size (i * 2) rfl [.int .i64 ((i : Int) + 1), .int .i64 ((i : Int) + 2)] _ HPR.out Tryd.underlying35 rfl infoP2 ?_))
  generalize (w.alloc (.cells #[.int .i64 1, .int .i64 2, .int .i64 2, .int .i64 3, .int .i64 3, .int .i64 4, .int .i64 4, .int .i64 5, .int .i64 5, .int .i64 6, .int .i64 6, .int .i64 7, .int .i64 7, .int .i64 8, .int .i64 8, .int .i64 9, .int .i64 9, .int .i64 10, .int .i64 10, .int .i64 11] 35)).alloc (.cells #[.int .i64 ((i : Int) + 1), .int .i64 ((i : Int) + 2)] 35) = w0 at HKB HKC ⊢
  have HK : Hid (w.heap.size + 1 < w0.heap.size ∧ ∀ V, Below w0.heap.size w0 V → V.cell? ⟨w.heap.size + 1, 1, none⟩ = some (.int .i64 ((i : Int) + 2))) := ⟨lt_of_block HKC.out, fun V hV => by rw [cell_of_row _ _ _ _ _ _ ((hV.block _ (lt_of_block HKC.out)).trans HKC.out)]; rfl⟩
  have xk0 : w0.cell? ⟨w.heap.size + 1, 0, none⟩ = some (.int .i64 ((i : Int) + 1)) := by rw [cell_of_row _ _ _ _ _ _ HKC.out]; rfl
  have HT : Hid (∀ V, Below w0.heap.size w0 V → RvTab V) := fun V hV => HT0.out V (HKB.out.trans (hV.mono HKB.out.size))
  clear HPR HKC HT0
  generalize hgk : w.heap.size + 1 = gk at HK xk0 ⊢
  clear hgk
  go_wp2_with (first
    | (go_at_call 20; refine (words_any ([⟨(i : Int) + 1, 7, 5, 6, 0⟩] : List Mi) HOK.out (by simp) w0.heap.size 1 (w0.alloc (.cells (List.flatMap miC ([⟨(i : Int) + 1, 7, 5, 6, 0⟩] : List Mi)).toArray 41)) (HT.out _ ((Below.refl _ _).alloc (Nat.le_refl _) _)) (rvs_new w0 ([⟨(i : Int) + 1, 7, 5, 6, 0⟩] : List Mi)) (by simp)).mono ?_; rintro e w1 ⟨v1, rfl, hown1, hb1⟩; obtain ⟨ao1, cap1, rfl⟩ := own_shape hown1; have HI1 : Hid (∀ V, Below w1.heap.size w1 V → IntsVal V (.slice ao1 1 cap1) (([⟨(i : Int) + 1, 7, 5, 6, 0⟩] : List Mi).map wordI)) := (fun V hV => (ints_of_own (base := w0.heap.size + 1) (l := ([⟨(i : Int) + 1, 7, 5, 6, 0⟩] : List Mi).map wordI) (by simpa using hown1)).keeps (keeps_below hV)); have HB1 : Hid (Below w0.heap.size w0 w1) := ((Below.refl _ _).alloc (Nat.le_refl _) _).trans (hb1.mono (by simp)); clear hown1 hb1; have hC0 := CAt.new w1; have HCM : Hid (CAt (w1.alloc (.cells ((Tryd.zeroCells26.setIfInBounds 5 (.int .i64 (a))).setIfInBounds 6 (.int .i64 (b))) 26)) w1.heap.size ((zeroCp.set 5 (a)).set 6 (b))) := CAt.new2 w1 5 6 (by decide) (by decide) _ _; have HBV : Hid (Below w1.heap.size w1 (w1.alloc (.cells ((Tryd.zeroCells26.setIfInBounds 5 (.int .i64 (a))).setIfInBounds 6 (.int .i64 (b))) 26))) := (Below.refl _ _).alloc (Nat.le_refl _) _; clear hC0)
    | (refine wpList_load_row rfl _ _ rfl _ rfl _ _ _ _ HCM.out.cells Tryd.underlying26 rfl (infoCpC HCM.out.ok) ?_)
    | (go_at_call 14; refine (HRUN.out _ _ _ (HT.out _ (HB1.out.trans (HBV.out.mono HB1.out.size))) (HI1.out _ HBV.out)).mono ?_; rintro e w2 ⟨rfl, hb2'⟩; have HB2 : Hid (Below w0.heap.size w0 w2) := (HB1.out.trans (HBV.out.mono HB1.out.size)).trans (hb2'.mono (HB1.out.trans (HBV.out.mono HB1.out.size)).size); clear hb2')
    | (go_at_call 21; refine (HMK _).mono ?_; rintro e w' ⟨rfl, hw'⟩; replace hw' := hw'.symm; subst hw')
    | (refine wpList_store_row rfl _ _ _ rfl _ (cpuCells D).toArray rfl rfl _ _ (heap_alloc_last w2 _) (infoCpC hD) (by rw [zc_cp, List.size_toArray, cp_len hD]) (cp_one _) ?_; have hC : CAt ((w2.alloc (.cells Tryd.zeroCells26 26)).setRow w2.heap.size (cpuCells D).toArray) w2.heap.size D := CAt.row hD (heap_alloc_last w2 _); have c7 := hC.regv 7 (by first | decide | omega) HD7.out rfl; have c5 := hC.regv 5 (by first | decide | omega) HD5.out rfl; have cp := hC.pc; rw [HD1.out] at cp; have xk := (HK.out.2 ((w2.alloc (.cells Tryd.zeroCells26 26)).setRow w2.heap.size (cpuCells D).toArray) (HB2.out.trans (below_setRowR ((Below.refl _ _).alloc (Nat.le_refl _) _) (Nat.le_refl _) _ |>.mono HB2.out.size))); clear hC))
  go_ret
  exact ⟨by simp, HKB.out.trans ((below_setRowR (HB2.out.alloc HB2.out.size _) HB2.out.size _).mono HKB.out.size)⟩
set_option maxRecDepth 100000 in
set_option maxHeartbeats 4000000 in
theorem cpuMakes_bad (op a b : Int) (i : Nat) (hi : i < 10) (hp : pickB op 10 = (i : Int)) (hop : Fits op) (he : ¬ mkE ((i : Int) + 2) b = 0) (w : World) (ht : RvTab w) :
    Calls Tryd.prog 5 #[.int .i64 op, .int .i64 a, .int .i64 b] w fun e w' => e = .returned (.bool true) ∧ Below w.heap.size w w' := by
  have hpr := fun w => picked_big op 10 w hop (by decide)
  rw [hp] at hpr
  obtain ⟨D, hR, hD, d7, d5, d1⟩ := makes_run i hi a b
  rw [makes_mk i hi, if_neg he] at d7
  have HOK : Hid (∀ z ∈ ([⟨(i : Int) + 1, 7, 5, 6, 0⟩] : List Mi), MiOk z) := makes_ok i hi
  have HMK := fun w => make_any ((i : Int) + 2) a b 0 w
  have hne : (mkE ((i : Int) + 2) b != 0) = true := by simpa using he
  generalize mk ((i : Int) + 2) a b 0 = M at *
  generalize mkE ((i : Int) + 2) b = E at *
  have HT0 : Hid (∀ V, Below w.heap.size w V → RvTab V) := fun V hV => ht.below hV
  have HRUN : Hid (∀ ao cap V, RvTab V → IntsVal V (.slice ao 1 cap) (([⟨(i : Int) + 1, 7, 5, 6, 0⟩] : List Mi).map wordI) → Calls Tryd.prog 14 #[.slice ao 1 cap, .agg (cpuCells ((zeroCp.set 5 a).set 6 b)).toArray] V fun e w' => e = .returned (.tuple #[.agg (cpuCells D).toArray, .int .i64 0]) ∧ Below V.heap.size V w') := fun ao cap V hV hI => by
    have := cpuStep_any ((zeroCp.set 5 a).set 6 b) ((zero_ok.set _ _).set _ _) (([⟨(i : Int) + 1, 7, 5, 6, 0⟩] : List Mi).map wordI) ao cap V hV hI
    rw [hR] at this
    exact this
  have HD7 : Hid (D.reg 7 = -1) := d7
  have HD5 : Hid (D.reg 5 = a) := d5
  have HD1 : Hid (D.pc = 1) := d1
  have HPR : Hid ((w.alloc (.cells #[.int .i64 1, .int .i64 2, .int .i64 2, .int .i64 3, .int .i64 3, .int .i64 4, .int .i64 4, .int .i64 5, .int .i64 5, .int .i64 6, .int .i64 6, .int .i64 7, .int .i64 7, .int .i64 8, .int .i64 8, .int .i64 9, .int .i64 9, .int .i64 10, .int .i64 10, .int .i64 11] 35)).rangeAt w.heap.size (i * 2) [.int .i64 ((i : Int) + 1), .int .i64 ((i : Int) + 2)]) := pairs_at w i hi
  have HKB : Hid (Below w.heap.size w ((w.alloc (.cells #[.int .i64 1, .int .i64 2, .int .i64 2, .int .i64 3, .int .i64 3, .int .i64 4, .int .i64 4, .int .i64 5, .int .i64 5, .int .i64 6, .int .i64 6, .int .i64 7, .int .i64 7, .int .i64 8, .int .i64 8, .int .i64 9, .int .i64 9, .int .i64 10, .int .i64 10, .int .i64 11] 35)).alloc (.cells #[.int .i64 ((i : Int) + 1), .int .i64 ((i : Int) + 2)] 35))) := ((Below.refl _ _).alloc (Nat.le_refl _) _).alloc (by simp) _
  have HKC : Hid (((w.alloc (.cells #[.int .i64 1, .int .i64 2, .int .i64 2, .int .i64 3, .int .i64 3, .int .i64 4, .int .i64 4, .int .i64 5, .int .i64 5, .int .i64 6, .int .i64 6, .int .i64 7, .int .i64 7, .int .i64 8, .int .i64 8, .int .i64 9, .int .i64 9, .int .i64 10, .int .i64 10, .int .i64 11] 35)).alloc (.cells #[.int .i64 ((i : Int) + 1), .int .i64 ((i : Int) + 2)] 35)).heap[w.heap.size + 1]? = some (.cells #[.int .i64 ((i : Int) + 1), .int .i64 ((i : Int) + 2)] 35 (0, 0))) := heap_alloc2_new _ _ _
  have hiI : (i : Int) < 10 := by omega
  clear hR ht d7 d5 d1 hp he
  go_enter Tryd.func5, Tryd.ntmps5
  go_upto_region 3 with (first
    | (go_at_call 19; first | (with_reducible refine (hpr _).mono ?_; rintro e w' ⟨rfl, hw'⟩; replace hw' := hw'.symm; subst hw'))
    | (refine wpList_load_mid rfl 35 _ rfl w.heap.size (i * 2) rfl [.int .i64 ((i : Int) + 1), .int .i64 ((i : Int) + 2)] _ HPR.out Tryd.underlying35 rfl infoP2 ?_))
  generalize (w.alloc (.cells #[.int .i64 1, .int .i64 2, .int .i64 2, .int .i64 3, .int .i64 3, .int .i64 4, .int .i64 4, .int .i64 5, .int .i64 5, .int .i64 6, .int .i64 6, .int .i64 7, .int .i64 7, .int .i64 8, .int .i64 8, .int .i64 9, .int .i64 9, .int .i64 10, .int .i64 10, .int .i64 11] 35)).alloc (.cells #[.int .i64 ((i : Int) + 1), .int .i64 ((i : Int) + 2)] 35) = w0 at HKB HKC ⊢
  have HK : Hid (w.heap.size + 1 < w0.heap.size ∧ ∀ V, Below w0.heap.size w0 V → V.cell? ⟨w.heap.size + 1, 1, none⟩ = some (.int .i64 ((i : Int) + 2))) := ⟨lt_of_block HKC.out, fun V hV => by rw [cell_of_row _ _ _ _ _ _ ((hV.block _ (lt_of_block HKC.out)).trans HKC.out)]; rfl⟩
  have xk0 : w0.cell? ⟨w.heap.size + 1, 0, none⟩ = some (.int .i64 ((i : Int) + 1)) := by rw [cell_of_row _ _ _ _ _ _ HKC.out]; rfl
  have HT : Hid (∀ V, Below w0.heap.size w0 V → RvTab V) := fun V hV => HT0.out V (HKB.out.trans (hV.mono HKB.out.size))
  clear HPR HKC HT0
  generalize hgk : w.heap.size + 1 = gk at HK xk0 ⊢
  clear hgk
  go_wp2_with (first
    | (go_at_call 20; refine (words_any ([⟨(i : Int) + 1, 7, 5, 6, 0⟩] : List Mi) HOK.out (by simp) w0.heap.size 1 (w0.alloc (.cells (List.flatMap miC ([⟨(i : Int) + 1, 7, 5, 6, 0⟩] : List Mi)).toArray 41)) (HT.out _ ((Below.refl _ _).alloc (Nat.le_refl _) _)) (rvs_new w0 ([⟨(i : Int) + 1, 7, 5, 6, 0⟩] : List Mi)) (by simp)).mono ?_; rintro e w1 ⟨v1, rfl, hown1, hb1⟩; obtain ⟨ao1, cap1, rfl⟩ := own_shape hown1; have HI1 : Hid (∀ V, Below w1.heap.size w1 V → IntsVal V (.slice ao1 1 cap1) (([⟨(i : Int) + 1, 7, 5, 6, 0⟩] : List Mi).map wordI)) := (fun V hV => (ints_of_own (base := w0.heap.size + 1) (l := ([⟨(i : Int) + 1, 7, 5, 6, 0⟩] : List Mi).map wordI) (by simpa using hown1)).keeps (keeps_below hV)); have HB1 : Hid (Below w0.heap.size w0 w1) := ((Below.refl _ _).alloc (Nat.le_refl _) _).trans (hb1.mono (by simp)); clear hown1 hb1; have hC0 := CAt.new w1; have HCM : Hid (CAt (w1.alloc (.cells ((Tryd.zeroCells26.setIfInBounds 5 (.int .i64 (a))).setIfInBounds 6 (.int .i64 (b))) 26)) w1.heap.size ((zeroCp.set 5 (a)).set 6 (b))) := CAt.new2 w1 5 6 (by decide) (by decide) _ _; have HBV : Hid (Below w1.heap.size w1 (w1.alloc (.cells ((Tryd.zeroCells26.setIfInBounds 5 (.int .i64 (a))).setIfInBounds 6 (.int .i64 (b))) 26))) := (Below.refl _ _).alloc (Nat.le_refl _) _; clear hC0)
    | (refine wpList_load_row rfl _ _ rfl _ rfl _ _ _ _ HCM.out.cells Tryd.underlying26 rfl (infoCpC HCM.out.ok) ?_)
    | (go_at_call 14; refine (HRUN.out _ _ _ (HT.out _ (HB1.out.trans (HBV.out.mono HB1.out.size))) (HI1.out _ HBV.out)).mono ?_; rintro e w2 ⟨rfl, hb2'⟩; have HB2 : Hid (Below w0.heap.size w0 w2) := (HB1.out.trans (HBV.out.mono HB1.out.size)).trans (hb2'.mono (HB1.out.trans (HBV.out.mono HB1.out.size)).size); clear hb2')
    | (go_at_call 21; refine (HMK _).mono ?_; rintro e w' ⟨rfl, hw'⟩; replace hw' := hw'.symm; subst hw')
    | (refine wpList_store_row rfl _ _ _ rfl _ (cpuCells D).toArray rfl rfl _ _ (heap_alloc_last w2 _) (infoCpC hD) (by rw [zc_cp, List.size_toArray, cp_len hD]) (cp_one _) ?_; have hC : CAt ((w2.alloc (.cells Tryd.zeroCells26 26)).setRow w2.heap.size (cpuCells D).toArray) w2.heap.size D := CAt.row hD (heap_alloc_last w2 _); have c7 := hC.regv 7 (by first | decide | omega) HD7.out rfl; have c5 := hC.regv 5 (by first | decide | omega) HD5.out rfl; have cp := hC.pc; rw [HD1.out] at cp; have xk := (HK.out.2 ((w2.alloc (.cells Tryd.zeroCells26 26)).setRow w2.heap.size (cpuCells D).toArray) (HB2.out.trans (below_setRowR ((Below.refl _ _).alloc (Nat.le_refl _) _) (Nat.le_refl _) _ |>.mono HB2.out.size))); clear hC))
  go_ret
  exact ⟨by simp, HKB.out.trans ((below_setRowR (HB2.out.alloc HB2.out.size _) HB2.out.size _).mono HKB.out.size)⟩
theorem cpuMakes_walk (op a b : Int) (hop : Fits op) (_ha : Fits a) (_hb : Fits b) (w : World) (ht : RvTab w) :
    Calls Tryd.prog 5 #[.int .i64 op, .int .i64 a, .int .i64 b] w fun e w' => e = .returned (.bool true) ∧ Below w.heap.size w w' := by
  have hb := pickB_bounds op 10 (by decide)
  obtain ⟨i, hi⟩ := Int.eq_ofNat_of_zero_le hb.1
  by_cases he : mkE ((i : Int) + 2) b = 0
  · exact cpuMakes_good op a b i (by omega) hi hop he w ht
  · exact cpuMakes_bad op a b i (by omega) hi hop he w ht
end Go.Proofs.YtapjfiihfgndeaaDoor
