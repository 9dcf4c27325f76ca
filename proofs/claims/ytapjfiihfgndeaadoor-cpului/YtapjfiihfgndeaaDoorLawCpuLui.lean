/- The walk of tierlinekeep.CpuLui (written by gen/mkcpulaw.py): at all numbers it says true, and nothing that was there has turned. -/
import Derived.Test.YtapjfiihfgndeaaDoorCpuIs
namespace Go.Proofs.YtapjfiihfgndeaaDoor
open Go Go.RowKit

theorem lui_ok (x y : Int) (x0 : -524288 ≤ x) (x1 : x ≤ 524287) (y0 : -2048 ≤ y) (y1 : y ≤ 2047) : ∀ z ∈ (([⟨28, 3, 0, 0, x⟩, ⟨12, 4, 3, 0, y⟩, ⟨29, 0, 0, 0, 0⟩] : List Mi) : List Mi), MiOk z := by
  intro z hz
  simp only [List.mem_cons, List.not_mem_nil, or_false] at hz
  rcases hz with rfl | rfl | rfl
  · refine ⟨by simp, by simp, ?_⟩
    rw [fits_iff]
    simp [shOf, ptL, shF, shL]; omega
  · refine ⟨by simp, by simp, ?_⟩
    rw [fits_iff]
    simp [shOf, ptL, shF, shL]; omega
  · exact halt_ok

theorem lui_run (x y : Int) (x0 : -524288 ≤ x) (x1 : x ≤ 524287) (y0 : -2048 ≤ y) (y1 : y ≤ 2047) : ∃ D : Cp, runAns (([⟨28, 3, 0, 0, x⟩, ⟨12, 4, 3, 0, y⟩, ⟨29, 0, 0, 0, 0⟩] : List Mi).map wordI) zeroCp 5 = (D, 3, 0) ∧ D.Ok ∧ D.reg 3 = 4096 * x ∧ D.reg 4 = 4096 * x + y := by
  have ok := lui_ok x y x0 x1 y0 y1
  obtain ⟨ws, hws⟩ : ∃ ws, ws = ([⟨28, 3, 0, 0, x⟩, ⟨12, 4, 3, 0, y⟩, ⟨29, 0, 0, 0, 0⟩] : List Mi).map wordI := ⟨_, rfl⟩
  have h0 := Is.begun zero_ok rfl rfl
  obtain ⟨c1, e1, h1⟩ := is_lui (ws := ws) h0 3 x (by rw [hws]; rfl) (ok _ (by simp))
  obtain ⟨c2, e2, h2⟩ := is_mk (ws := ws) h1 ⟨12, 4, 3, 0, y⟩ (by rw [hws]; rfl) (ok _ (by simp)) (by simp)
  obtain ⟨D, e3, hD, hr, hp, hh, hd⟩ := is_end (ws := ws) h2 2 2 (by rw [hws]; rfl)
  refine ⟨D, ?_, hD, ?_, ?_⟩
  · rw [← hws, show (5 : Int) = ((5 : Nat) : Int) from rfl, runAns_eq 5 (by rw [hws]; simp) (by decide), e1, e2, e3]; rfl
  · rw [hr 3 (by decide) (by decide)]
    simp [upd]; omega
  · rw [hr 4 (by decide) (by decide)]
    show mdC 12 _ _ = _
    simp [upd, mdC, snd]
    rw [wrap64_small _ (by omega) (by omega)]; omega

set_option maxRecDepth 100000 in
set_option maxHeartbeats 4000000 in
theorem cpuLui_walk (a b : Int) (ha : Fits a) (hb : Fits b) (w : World) (ht : RvTab w) :
    Calls Tryd.prog 12 #[.int .i64 a, .int .i64 b] w fun e w' => e = .returned (.bool true) ∧ Below w.heap.size w w' := by
  have hpa := fun w => picked_big a 1048576 w ha (by decide)
  have hpb := fun w => picked_big b 4096 w hb (by decide)
  obtain ⟨ha1, ha2⟩ := pickB_bounds a 1048576 (by decide)
  obtain ⟨hb1, hb2⟩ := pickB_bounds b 4096 (by decide)
  generalize pickB a 1048576 = p at *
  generalize pickB b 4096 = q at *
  obtain ⟨D, hR, hD, d3, d4⟩ := lui_run (p - 524288) (q - 2048) (by omega) (by omega) (by omega) (by omega)
  have HOK : Hid (∀ z ∈ ([⟨28, 3, 0, 0, p - 524288⟩, ⟨12, 4, 3, 0, q - 2048⟩, ⟨29, 0, 0, 0, 0⟩] : List Mi), MiOk z) := lui_ok _ _ (by omega) (by omega) (by omega) (by omega)
  have HT : Hid (∀ V, Below w.heap.size w V → RvTab V) := fun V hV => ht.below hV
  have HRUN : Hid (∀ ao cap V, RvTab V → IntsVal V (.slice ao 3 cap) (([⟨28, 3, 0, 0, p - 524288⟩, ⟨12, 4, 3, 0, q - 2048⟩, ⟨29, 0, 0, 0, 0⟩] : List Mi).map wordI) → Calls Tryd.prog 17 #[.slice ao 3 cap, .agg (cpuCells zeroCp).toArray, .int .i64 5] V fun e w' => e = .returned (.tuple #[.agg (cpuCells D).toArray, .int .i64 3, .int .i64 0]) ∧ Below V.heap.size V w') := fun ao cap V hV hI => by
    have := cpuRun_any zeroCp zero_ok (([⟨28, 3, 0, 0, p - 524288⟩, ⟨12, 4, 3, 0, q - 2048⟩, ⟨29, 0, 0, 0, 0⟩] : List Mi).map wordI) ao cap 5 V hV hI
    rw [hR] at this
    exact this
  have hw1 : wrap64 (4096 * (p - 524288)) = 4096 * (p - 524288) := wrap64_small _ (by omega) (by omega)
  have hw2 : wrap64 (4096 * (p - 524288) + (q - 2048)) = 4096 * (p - 524288) + (q - 2048) := wrap64_small _ (by omega) (by omega)
  have HD3 : Hid (D.reg 3 = 4096 * (p - 524288)) := d3
  have HD4 : Hid (D.reg 4 = 4096 * (p - 524288) + (q - 2048)) := d4
  clear hR ht d3 d4
  go_enter Tryd.func12, Tryd.ntmps12
  go_wp2_with (first
    | (go_at_call 19; first | (with_reducible refine (hpa _).mono ?_; rintro e w' ⟨rfl, hw'⟩; replace hw' := hw'.symm; subst hw') | (with_reducible refine (hpb _).mono ?_; rintro e w' ⟨rfl, hw'⟩; replace hw' := hw'.symm; subst hw'))
    | (go_at_call 20; refine (words_any ([⟨28, 3, 0, 0, p - 524288⟩, ⟨12, 4, 3, 0, q - 2048⟩, ⟨29, 0, 0, 0, 0⟩] : List Mi) HOK.out (by simp) w.heap.size 3 (w.alloc (.cells (List.flatMap miC ([⟨28, 3, 0, 0, p - 524288⟩, ⟨12, 4, 3, 0, q - 2048⟩, ⟨29, 0, 0, 0, 0⟩] : List Mi)).toArray 41)) (HT.out _ ((Below.refl _ _).alloc (Nat.le_refl _) _)) (rvs_new w ([⟨28, 3, 0, 0, p - 524288⟩, ⟨12, 4, 3, 0, q - 2048⟩, ⟨29, 0, 0, 0, 0⟩] : List Mi)) (by simp)).mono ?_; rintro e w1 ⟨v1, rfl, hown1, hb1⟩; obtain ⟨ao1, cap1, rfl⟩ := own_shape hown1; have HI1 : Hid (∀ V, Below w1.heap.size w1 V → IntsVal V (.slice ao1 3 cap1) (([⟨28, 3, 0, 0, p - 524288⟩, ⟨12, 4, 3, 0, q - 2048⟩, ⟨29, 0, 0, 0, 0⟩] : List Mi).map wordI)) := (fun V hV => (ints_of_own (base := w.heap.size + 1) (l := ([⟨28, 3, 0, 0, p - 524288⟩, ⟨12, 4, 3, 0, q - 2048⟩, ⟨29, 0, 0, 0, 0⟩] : List Mi).map wordI) (by simpa using hown1)).keeps (keeps_below hV)); have HB1 : Hid (Below w.heap.size w w1) := ((Below.refl _ _).alloc (Nat.le_refl _) _).trans (hb1.mono (by simp)); clear hown1 hb1)
    | (refine wpList_build_to rfl _ _ rfl (cpuCells zeroCp).toArray built_cp0 ?_)
    | (go_at_call 17; refine (HRUN.out _ _ _ (HT.out _ HB1.out) (HI1.out _ (Below.refl _ _))).mono ?_; rintro e w2 ⟨rfl, hb2'⟩; have HB2 : Hid (Below w.heap.size w w2) := HB1.out.trans (hb2'.mono HB1.out.size); clear hb2')
    | (refine wpList_store_row rfl _ _ _ rfl _ (cpuCells D).toArray rfl rfl _ _ (heap_alloc_last w2 _) (infoCpC hD) (by rw [zc_cp, List.size_toArray, cp_len hD]) (cp_one _) ?_; have hC : CAt ((w2.alloc (.cells Tryd.zeroCells26 26)).setRow w2.heap.size (cpuCells D).toArray) w2.heap.size D := CAt.row hD (heap_alloc_last w2 _); have c3 := hC.regv 3 (by first | decide | omega) HD3.out rfl; have c4 := hC.regv 4 (by first | decide | omega) HD4.out rfl; clear hC))
  go_ret
  exact ⟨by simp, below_setRowR (HB2.out.alloc HB2.out.size _) HB2.out.size _⟩
end Go.Proofs.YtapjfiihfgndeaaDoor
