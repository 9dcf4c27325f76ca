/- The walk of tierlinekeep.CpuSelf (written by gen/mkcpulaw.py): at all numbers it says true, and nothing that was there has turned. -/
import Derived.Test.YtapjfiihfgndeaaDoorCpuIs
namespace Go.Proofs.YtapjfiihfgndeaaDoor
open Go Go.RowKit

theorem self_ok (n : Int) (n0 : 0 ≤ n) (n1 : n < 32) : ∀ z ∈ (([⟨1, n, n, n, 0⟩, ⟨12, 0, n, 0, 5⟩, ⟨29, 0, 0, 0, 0⟩] : List Mi) : List Mi), MiOk z := by
  intro z hz
  simp only [List.mem_cons, List.not_mem_nil, or_false] at hz
  rcases hz with rfl | rfl | rfl
  · refine ⟨by simp, by simp, ?_⟩
    rw [fits_iff]
    simp [shOf, ptL, shF, shL]; omega
  · refine ⟨by simp, by simp, ?_⟩
    rw [fits_iff]
    simp [shOf, ptL, shF, shL]; omega
  · exact halt_ok

theorem self_run (n a b : Int) (n0 : 0 ≤ n) (n1 : n < 32) : ∃ D : Cp, runAns (([⟨1, n, n, n, 0⟩, ⟨12, 0, n, 0, 5⟩, ⟨29, 0, 0, 0, 0⟩] : List Mi).map wordI) ((zeroCp.set n a).set 0 b) 9 = (D, 3, 0) ∧ D.Ok ∧ D.reg n = (if n = 0 then 0 else wrap64 (a + a)) ∧ D.reg 0 = 0 ∧ D.pc = 2 ∧ D.halted = true := by
  have ok := self_ok n n0 n1
  obtain ⟨ws, hws⟩ : ∃ ws, ws = ([⟨1, n, n, n, 0⟩, ⟨12, 0, n, 0, 5⟩, ⟨29, 0, 0, 0, 0⟩] : List Mi).map wordI := ⟨_, rfl⟩
  have h0 := Is.begun ((zero_ok.set n a).set 0 b) rfl rfl
  obtain ⟨c1, e1, h1⟩ := is_mk (ws := ws) h0 ⟨1, n, n, n, 0⟩ (by rw [hws]; rfl) (ok _ (by simp)) (by simp)
  obtain ⟨c2, e2, h2⟩ := is_mk (ws := ws) h1 ⟨12, 0, n, 0, 5⟩ (by rw [hws]; rfl) (ok _ (by simp)) (by simp)
  obtain ⟨D, e3, hD, hr, hp, hh, hd⟩ := is_end (ws := ws) h2 6 2 (by rw [hws]; rfl)
  have hcn : ¬ n = 0 → (((zeroCp.set n a).set 0 b)).reg n = a := fun h => by
    rw [reg_set (zero_ok.set n a) b (by decide) (by decide) n0, if_neg (by omega), reg_set zero_ok a n0 n1 n0, if_pos rfl]
  refine ⟨D, ?_, hD, ?_, ?_, hp, hh⟩
  · rw [← hws, show (9 : Int) = ((9 : Nat) : Int) from rfl, runAns_eq 9 (by rw [hws]; simp) (by decide), e1, e2, e3]; rfl
  · rw [hr n n0 n1]
    by_cases e : n = 0
    · subst e; simp [upd]
    · simp [upd, e, mdC, snd, hcn e]
  · rw [hr 0 (by decide) (by decide)]
    by_cases e : n = 0 <;> simp [upd, e]

set_option maxRecDepth 100000 in
set_option maxHeartbeats 4000000 in
theorem cpuSelf_zero (a b r : Int) (hp : pickB r 32 = 0) (hr : Fits r) (w : World) (ht : RvTab w) :
    Calls Tryd.prog 6 #[.int .i64 a, .int .i64 b, .int .i64 r] w fun e w' => e = .returned (.bool true) ∧ Below w.heap.size w w' := by
  have hpr := fun w => picked_big r 32 w hr (by decide)
  rw [hp] at hpr
  obtain ⟨D, hR, hD, d1, d2, d3, d4⟩ := self_run 0 a b (by omega) (by omega)
  rw [if_pos rfl] at d1
  rw [set_set] at hR
  have HOK : Hid (∀ z ∈ ([⟨1, 0, 0, 0, 0⟩, ⟨12, 0, 0, 0, 5⟩, ⟨29, 0, 0, 0, 0⟩] : List Mi), MiOk z) := self_ok _ (by omega) (by omega)
  have HT : Hid (∀ V, Below w.heap.size w V → RvTab V) := fun V hV => ht.below hV
  have HRUN : Hid (∀ ao cap V, RvTab V → IntsVal V (.slice ao 3 cap) (([⟨1, 0, 0, 0, 0⟩, ⟨12, 0, 0, 0, 5⟩, ⟨29, 0, 0, 0, 0⟩] : List Mi).map wordI) → Calls Tryd.prog 17 #[.slice ao 3 cap, .agg (cpuCells (zeroCp.set 0 b)).toArray, .int .i64 (9)] V fun e w' => e = .returned (.tuple #[.agg (cpuCells D).toArray, .int .i64 (3), .int .i64 (0)]) ∧ Below V.heap.size V w') := fun ao cap V hV hI => by
    have := cpuRun_any (zeroCp.set 0 b) (zero_ok.set _ _) (([⟨1, 0, 0, 0, 0⟩, ⟨12, 0, 0, 0, 5⟩, ⟨29, 0, 0, 0, 0⟩] : List Mi).map wordI) ao cap (9) V hV hI
    rw [hR] at this
    exact this
  have HD1 : Hid (D.reg 0 = 0) := d1
  have HD2 : Hid (D.reg 0 = 0) := d2
  have HD3 : Hid (D.pc = 2) := d3
  have HD4 : Hid (D.halted = true) := d4
  clear hR ht d1 d2 d3 d4 hp
  go_enter Tryd.func6, Tryd.ntmps6
  go_wp2_with (first
    | (go_at_call 19; first | (with_reducible refine (hpr _).mono ?_; rintro e w' ⟨rfl, hw'⟩; replace hw' := hw'.symm; subst hw'))
    | (go_at_call 20; refine (words_any ([⟨1, 0, 0, 0, 0⟩, ⟨12, 0, 0, 0, 5⟩, ⟨29, 0, 0, 0, 0⟩] : List Mi) HOK.out (by simp) w.heap.size 3 (w.alloc (.cells (List.flatMap miC ([⟨1, 0, 0, 0, 0⟩, ⟨12, 0, 0, 0, 5⟩, ⟨29, 0, 0, 0, 0⟩] : List Mi)).toArray 41)) (HT.out _ ((Below.refl _ _).alloc (Nat.le_refl _) _)) (rvs_new w ([⟨1, 0, 0, 0, 0⟩, ⟨12, 0, 0, 0, 5⟩, ⟨29, 0, 0, 0, 0⟩] : List Mi)) (by simp)).mono ?_; rintro e w1 ⟨v1, rfl, hown1, hb1⟩; obtain ⟨ao1, cap1, rfl⟩ := own_shape hown1; have HI1 : Hid (∀ V, Below w1.heap.size w1 V → IntsVal V (.slice ao1 3 cap1) (([⟨1, 0, 0, 0, 0⟩, ⟨12, 0, 0, 0, 5⟩, ⟨29, 0, 0, 0, 0⟩] : List Mi).map wordI)) := (fun V hV => (ints_of_own (base := w.heap.size + 1) (l := ([⟨1, 0, 0, 0, 0⟩, ⟨12, 0, 0, 0, 5⟩, ⟨29, 0, 0, 0, 0⟩] : List Mi).map wordI) (by simpa using hown1)).keeps (keeps_below hV)); have HB1 : Hid (Below w.heap.size w w1) := ((Below.refl _ _).alloc (Nat.le_refl _) _).trans (hb1.mono (by simp)); clear hown1 hb1; have hC0 := CAt.new w1; have HCM : Hid (CAt (w1.alloc (.cells (Tryd.zeroCells26.setIfInBounds 0 (.int .i64 (b))) 26)) w1.heap.size (zeroCp.set 0 (b))) := CAt.new1 w1 0 (by decide) _; have HBV : Hid (Below w1.heap.size w1 (w1.alloc (.cells (Tryd.zeroCells26.setIfInBounds 0 (.int .i64 (b))) 26))) := (Below.refl _ _).alloc (Nat.le_refl _) _; clear hC0)
    | (refine wpList_load_row rfl _ _ rfl _ rfl _ _ _ _ HCM.out.cells Tryd.underlying26 rfl (infoCpC HCM.out.ok) ?_)
    | (go_at_call 17; refine (HRUN.out _ _ _ (HT.out _ (HB1.out.trans (HBV.out.mono HB1.out.size))) (HI1.out _ HBV.out)).mono ?_; rintro e w2 ⟨rfl, hb2'⟩; have HB2 : Hid (Below w.heap.size w w2) := (HB1.out.trans (HBV.out.mono HB1.out.size)).trans (hb2'.mono (HB1.out.trans (HBV.out.mono HB1.out.size)).size); clear hb2')
    | (refine wpList_store_row rfl _ _ _ rfl _ (cpuCells D).toArray rfl rfl _ _ (heap_alloc_last w2 _) (infoCpC hD) (by rw [zc_cp, List.size_toArray, cp_len hD]) (cp_one _) ?_; have hC : CAt ((w2.alloc (.cells Tryd.zeroCells26 26)).setRow w2.heap.size (cpuCells D).toArray) w2.heap.size D := CAt.row hD (heap_alloc_last w2 _); have cn := hC.regv 0 (by first | decide | omega) HD1.out rfl; have c0 := hC.regv 0 (by first | decide | omega) HD2.out rfl; have cp := hC.pc; rw [HD3.out] at cp; have ch := hC.halt; rw [HD4.out] at ch; clear hC))
  go_ret
  exact ⟨by simp, below_setRowR (HB2.out.alloc HB2.out.size _) HB2.out.size _⟩
set_option maxRecDepth 100000 in
set_option maxHeartbeats 4000000 in
theorem cpuSelf_some (a b r : Int) (k : Nat) (hk : k < 32) (hk0 : k ≠ 0) (hp : pickB r 32 = (k : Int)) (hr : Fits r) (w : World) (ht : RvTab w) :
    Calls Tryd.prog 6 #[.int .i64 a, .int .i64 b, .int .i64 r] w fun e w' => e = .returned (.bool true) ∧ Below w.heap.size w w' := by
  have hpr := fun w => picked_big r 32 w hr (by decide)
  rw [hp] at hpr
  obtain ⟨D, hR, hD, d1, d2, d3, d4⟩ := self_run (k : Int) a b (by omega) (by omega)
  rw [if_neg (by omega)] at d1
  have HOK : Hid (∀ z ∈ ([⟨1, (k : Int), (k : Int), (k : Int), 0⟩, ⟨12, 0, (k : Int), 0, 5⟩, ⟨29, 0, 0, 0, 0⟩] : List Mi), MiOk z) := self_ok _ (by omega) (by omega)
  have HT : Hid (∀ V, Below w.heap.size w V → RvTab V) := fun V hV => ht.below hV
  have HRUN : Hid (∀ ao cap V, RvTab V → IntsVal V (.slice ao 3 cap) (([⟨1, (k : Int), (k : Int), (k : Int), 0⟩, ⟨12, 0, (k : Int), 0, 5⟩, ⟨29, 0, 0, 0, 0⟩] : List Mi).map wordI) → Calls Tryd.prog 17 #[.slice ao 3 cap, .agg (cpuCells ((zeroCp.set (k : Int) a).set 0 b)).toArray, .int .i64 (9)] V fun e w' => e = .returned (.tuple #[.agg (cpuCells D).toArray, .int .i64 (3), .int .i64 (0)]) ∧ Below V.heap.size V w') := fun ao cap V hV hI => by
    have := cpuRun_any ((zeroCp.set (k : Int) a).set 0 b) ((zero_ok.set _ _).set _ _) (([⟨1, (k : Int), (k : Int), (k : Int), 0⟩, ⟨12, 0, (k : Int), 0, 5⟩, ⟨29, 0, 0, 0, 0⟩] : List Mi).map wordI) ao cap (9) V hV hI
    rw [hR] at this
    exact this
  have HD1 : Hid (D.reg (k : Int) = wrap64 (a + a)) := d1
  have HD2 : Hid (D.reg 0 = 0) := d2
  have HD3 : Hid (D.pc = 2) := d3
  have HD4 : Hid (D.halted = true) := d4
  have hkI : (k : Int) < 32 := by omega
  have hnk : ¬ (k : Int) = 0 := by omega
  clear hR ht d1 d2 d3 d4 hp
  go_enter Tryd.func6, Tryd.ntmps6
  go_wp2_with (first
    | (go_at_call 19; first | (with_reducible refine (hpr _).mono ?_; rintro e w' ⟨rfl, hw'⟩; replace hw' := hw'.symm; subst hw'))
    | (go_at_call 20; refine (words_any ([⟨1, (k : Int), (k : Int), (k : Int), 0⟩, ⟨12, 0, (k : Int), 0, 5⟩, ⟨29, 0, 0, 0, 0⟩] : List Mi) HOK.out (by simp) w.heap.size 3 (w.alloc (.cells (List.flatMap miC ([⟨1, (k : Int), (k : Int), (k : Int), 0⟩, ⟨12, 0, (k : Int), 0, 5⟩, ⟨29, 0, 0, 0, 0⟩] : List Mi)).toArray 41)) (HT.out _ ((Below.refl _ _).alloc (Nat.le_refl _) _)) (rvs_new w ([⟨1, (k : Int), (k : Int), (k : Int), 0⟩, ⟨12, 0, (k : Int), 0, 5⟩, ⟨29, 0, 0, 0, 0⟩] : List Mi)) (by simp)).mono ?_; rintro e w1 ⟨v1, rfl, hown1, hb1⟩; obtain ⟨ao1, cap1, rfl⟩ := own_shape hown1; have HI1 : Hid (∀ V, Below w1.heap.size w1 V → IntsVal V (.slice ao1 3 cap1) (([⟨1, (k : Int), (k : Int), (k : Int), 0⟩, ⟨12, 0, (k : Int), 0, 5⟩, ⟨29, 0, 0, 0, 0⟩] : List Mi).map wordI)) := (fun V hV => (ints_of_own (base := w.heap.size + 1) (l := ([⟨1, (k : Int), (k : Int), (k : Int), 0⟩, ⟨12, 0, (k : Int), 0, 5⟩, ⟨29, 0, 0, 0, 0⟩] : List Mi).map wordI) (by simpa using hown1)).keeps (keeps_below hV)); have HB1 : Hid (Below w.heap.size w w1) := ((Below.refl _ _).alloc (Nat.le_refl _) _).trans (hb1.mono (by simp)); clear hown1 hb1; have hC0 := CAt.new w1; have kc0 := hC0.reg k hk; have kf0 := hC0.free k; have HCM : Hid (CAt (w1.alloc (.cells ((Tryd.zeroCells26.setIfInBounds k (.int .i64 (a))).setIfInBounds 0 (.int .i64 (b))) 26)) w1.heap.size ((zeroCp.set (k : Int) (a)).set 0 (b))) := CAt.new2 w1 k 0 hk (by decide) _ _; have HBV : Hid (Below w1.heap.size w1 (w1.alloc (.cells ((Tryd.zeroCells26.setIfInBounds k (.int .i64 (a))).setIfInBounds 0 (.int .i64 (b))) 26))) := (Below.refl _ _).alloc (Nat.le_refl _) _; clear hC0)
    | (refine wpList_load_row rfl _ _ rfl _ rfl _ _ _ _ HCM.out.cells Tryd.underlying26 rfl (infoCpC HCM.out.ok) ?_)
    | (go_at_call 17; refine (HRUN.out _ _ _ (HT.out _ (HB1.out.trans (HBV.out.mono HB1.out.size))) (HI1.out _ HBV.out)).mono ?_; rintro e w2 ⟨rfl, hb2'⟩; have HB2 : Hid (Below w.heap.size w w2) := (HB1.out.trans (HBV.out.mono HB1.out.size)).trans (hb2'.mono (HB1.out.trans (HBV.out.mono HB1.out.size)).size); clear hb2')
    | (refine wpList_store_row rfl _ _ _ rfl _ (cpuCells D).toArray rfl rfl _ _ (heap_alloc_last w2 _) (infoCpC hD) (by rw [zc_cp, List.size_toArray, cp_len hD]) (cp_one _) ?_; have hC : CAt ((w2.alloc (.cells Tryd.zeroCells26 26)).setRow w2.heap.size (cpuCells D).toArray) w2.heap.size D := CAt.row hD (heap_alloc_last w2 _); have cn := hC.regv k (by first | decide | omega) HD1.out rfl; have c0 := hC.regv 0 (by first | decide | omega) HD2.out rfl; have cp := hC.pc; rw [HD3.out] at cp; have ch := hC.halt; rw [HD4.out] at ch; clear hC))
  go_ret
  exact ⟨by simp, below_setRowR (HB2.out.alloc HB2.out.size _) HB2.out.size _⟩
theorem cpuSelf_walk (a b r : Int) (_ha : Fits a) (_hb : Fits b) (hr : Fits r) (w : World) (ht : RvTab w) :
    Calls Tryd.prog 6 #[.int .i64 a, .int .i64 b, .int .i64 r] w fun e w' => e = .returned (.bool true) ∧ Below w.heap.size w w' := by
  have hb := pickB_bounds r 32 (by decide)
  obtain ⟨k, hk⟩ := Int.eq_ofNat_of_zero_le hb.1
  by_cases h0 : k = 0
  · exact cpuSelf_zero a b r (by rw [hk, h0]; rfl) hr w ht
  · exact cpuSelf_some a b r k (by omega) h0 hk hr w ht
end Go.Proofs.YtapjfiihfgndeaaDoor
