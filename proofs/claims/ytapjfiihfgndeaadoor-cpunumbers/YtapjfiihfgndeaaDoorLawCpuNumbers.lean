/- The walk of tierlinekeep.CpuNumbers (written by gen/mkcpunum.py): at every number it says true, and nothing that was there has turned. -/
import Derived.Test.YtapjfiihfgndeaaDoorCpuIs
import Derived.Laws.OwnMore
namespace Go.Proofs.YtapjfiihfgndeaaDoor
open Go Go.RowKit

theorem bits_2047 (b : Int) : bits .and .i64 b 2047 = b % 2048 := by
  show IntKind.i64.wrap ((BitVec.ofInt 64 b &&& BitVec.ofInt 64 2047).toNat : Int) = _
  have e : (BitVec.ofInt 64 b &&& BitVec.ofInt 64 2047).toNat = (b % 2048).toNat := by
    rw [BitVec.toNat_and, BitVec.toNat_ofInt]
    have e2 : (BitVec.ofInt 64 2047).toNat = 2 ^ 11 - 1 := by decide
    rw [e2, Nat.and_two_pow_sub_one_eq_mod]
    omega
  rw [e, wrap_small _ (by omega)]
  omega
/-- Low bits, and all above them. -/
theorem or_low (y : Int) (h : Fits y) : bits .or .i64 (wrap64 (y / 2048 * 2048)) (y % 2048) = y := by
  have h0 := h.1
  have h1 := h.2
  have hw : wrap64 (y / 2048 * 2048) = y / 2048 * 2048 := wrap64_small _ (by omega) (by omega)
  rw [hw]
  obtain ⟨Y, hY⟩ := bv_of h
  obtain ⟨x, hx⟩ := bv_of (a := y / 2048 * 2048) ⟨by omega, by omega⟩
  obtain ⟨z, hz⟩ := bv_of (a := y % 2048) ⟨by omega, by omega⟩
  have e2047 : (2047#64 : BitVec 64).toInt = 2047 := by decide
  have hx0 : x &&& 2047#64 = 0#64 := by
    apply BitVec.eq_of_toInt_eq
    rw [← bits_and_bv, e2047, ← hx, bits_2047]
    show _ = 0
    omega
  have hzY : z = Y &&& 2047#64 := by
    apply BitVec.eq_of_toInt_eq
    rw [← bits_and_bv, e2047, ← hY, bits_2047, hz]
  have hand : x &&& z = 0#64 := by
    rw [hzY, BitVec.and_comm Y, ← BitVec.and_assoc, hx0, BitVec.zero_and]
  have hor : x ||| z = x + z := by
    have := and_add_or x z
    rw [hand, BitVec.zero_add] at this
    exact this
  rw [hx, hz, bits_or_bv, hor, ← wrap_add_bv, ← hx, ← hz, show y / 2048 * 2048 + y % 2048 = y by omega]
  exact wrap64_small _ (by omega) (by omega)

def numL (q : Int) (m : Nat → Int) : Nat → List Mi
  | 0 => [⟨12, 5, 0, 0, q⟩]
  | j + 1 => numL q m j ++ [⟨18, 5, 5, 0, 11⟩, ⟨14, 5, 5, 0, m j⟩]
theorem numL_len (q : Int) (m : Nat → Int) (j : Nat) : (numL q m j).length = 2 * j + 1 := by
  induction j with
  | zero => rfl
  | succ j ih => unfold numL; rw [List.length_append, ih]; simp; omega
theorem num_ok (q : Int) (m : Nat → Int) (q0 : -2048 ≤ q) (q1 : q ≤ 2047) (hm : ∀ j, 0 ≤ m j ∧ m j ≤ 2047) : ∀ z ∈ (numL q m 5 ++ [(⟨29, 0, 0, 0, 0⟩ : Mi)]), MiOk z := by
  have ho : ∀ j, MiOk ⟨14, 5, 5, 0, m j⟩ := fun j => by
    obtain ⟨a, b⟩ := hm j
    refine ⟨by simp, by simp, ?_⟩
    rw [fits_iff]
    simp [shOf, ptL, shF, shL]; omega
  have hs : MiOk ⟨18, 5, 5, 0, 11⟩ := ⟨by decide, by decide, by decide⟩
  have ha : MiOk ⟨12, 5, 0, 0, q⟩ := by
    refine ⟨by simp, by simp, ?_⟩
    rw [fits_iff]
    simp [shOf, ptL, shF, shL]; omega
  intro z hz
  simp only [numL, List.mem_append, List.mem_cons, List.not_mem_nil, or_false] at hz
  rcases hz with (((((rfl | rfl | rfl) | rfl | rfl) | rfl | rfl) | rfl | rfl) | rfl | rfl) | rfl
  all_goals first | exact ha | exact hs | exact halt_ok | exact ho _
theorem num_one {ws : List Int} {c : Cp} {k : Nat} {f : Int → Int} {dt : List Int} (h : Is c k f dt) (y m : Int) (hy : Fits y) (h5 : f 5 = y / 2048) (hm : m = y % 2048) (o1 : MiOk ⟨18, 5, 5, 0, 11⟩) (o2 : MiOk ⟨14, 5, 5, 0, m⟩) (k1 : ws[k]? = some (wordI ⟨18, 5, 5, 0, 11⟩)) (k2 : ws[k + 1]? = some (wordI ⟨14, 5, 5, 0, m⟩)) :
    ∃ c1 c2 f', Steps ws c c1 ∧ Steps ws c1 c2 ∧ Is c2 (k + 2) f' dt ∧ f' 5 = y := by
  obtain ⟨a, ea, ia⟩ := is_mk h ⟨18, 5, 5, 0, 11⟩ k1 o1 (by simp)
  obtain ⟨b, eb, ib⟩ := is_mk ia ⟨14, 5, 5, 0, m⟩ k2 o2 (by simp)
  refine ⟨a, b, _, ea, eb, ib, ?_⟩
  have e1 : (upd f 5 (mdC 18 (f 5) 11)) 5 = wrap64 (y / 2048 * 2048) := by rw [h5]; rfl
  show bits .or .i64 ((upd f 5 (mdC 18 (f 5) 11)) 5) m = _
  rw [e1, hm]
  exact or_low y hy
set_option maxHeartbeats 4000000 in
theorem num_run (n : Int) (hn : Fits n) (q : Int) (m : Nat → Int) (hq : q = n / 2 ^ 55) (hm : ∀ j, m j = n / 2 ^ (44 - 11 * j) % 2048) :
    ∃ D : Cp, runAns ((numL q m 5 ++ [(⟨29, 0, 0, 0, 0⟩ : Mi)]).map wordI) zeroCp 20 = (D, 12, 0) ∧ D.Ok ∧ D.reg 5 = n := by
  have h0 := hn.1
  have h1 := hn.2
  have ok := num_ok q m (by omega) (by omega) (fun j => by rw [hm j]; omega)
  obtain ⟨ws, hws⟩ : ∃ ws, ws = (numL q m 5 ++ [(⟨29, 0, 0, 0, 0⟩ : Mi)]).map wordI := ⟨_, rfl⟩
  have g0 := Is.begun zero_ok rfl rfl
  obtain ⟨c0, e0, i0⟩ := is_mk (ws := ws) g0 ⟨12, 5, 0, 0, q⟩ (by rw [hws]; rfl) (ok _ (by simp [numL])) (by simp)
  have v0 : (upd (fun q => if q = 0 then 0 else zeroCp.reg q) 5 (mdC 12 0 q)) 5 = n / 2 ^ 55 := by
    rw [← hq]
    simp [upd, mdC]; exact wrap64_small _ (by omega) (by omega)
  replace i0 : Is c0 1 (upd (fun q => if q = 0 then 0 else zeroCp.reg q) 5 (mdC 12 0 q)) zeroCp.data := i0
  generalize upd (fun q => if q = 0 then 0 else zeroCp.reg q) 5 (mdC 12 0 q) = f0 at i0 v0
  obtain ⟨a0, c1, f1, ea0, e1, i1, v1⟩ := num_one (ws := ws) i0 (n / 2 ^ 44) (m 0) (by unfold Fits; omega) (by rw [v0]; omega) (hm 0) (ok _ (by simp [numL])) (ok _ (by simp [numL])) (by rw [hws]; rfl) (by rw [hws]; rfl)
  obtain ⟨a1, c2, f2, ea1, e2, i2, v2⟩ := num_one (ws := ws) i1 (n / 2 ^ 33) (m 1) (by unfold Fits; omega) (by rw [v1]; omega) (hm 1) (ok _ (by simp [numL])) (ok _ (by simp [numL])) (by rw [hws]; rfl) (by rw [hws]; rfl)
  obtain ⟨a2, c3, f3, ea2, e3, i3, v3⟩ := num_one (ws := ws) i2 (n / 2 ^ 22) (m 2) (by unfold Fits; omega) (by rw [v2]; omega) (hm 2) (ok _ (by simp [numL])) (ok _ (by simp [numL])) (by rw [hws]; rfl) (by rw [hws]; rfl)
  obtain ⟨a3, c4, f4, ea3, e4, i4, v4⟩ := num_one (ws := ws) i3 (n / 2 ^ 11) (m 3) (by unfold Fits; omega) (by rw [v3]; omega) (hm 3) (ok _ (by simp [numL])) (ok _ (by simp [numL])) (by rw [hws]; rfl) (by rw [hws]; rfl)
  obtain ⟨a4, c5, f5, ea4, e5, i5, v5⟩ := num_one (ws := ws) i4 (n / 2 ^ 0) (m 4) (by unfold Fits; omega) (by rw [v4]; omega) (hm 4) (ok _ (by simp [numL])) (ok _ (by simp [numL])) (by rw [hws]; rfl) (by rw [hws]; rfl)
  obtain ⟨D, eD, hD, hr, hp, hh, hd⟩ := is_end (ws := ws) i5 8 11 (by rw [hws]; rfl)
  refine ⟨D, ?_, hD, ?_⟩
  · rw [← hws, show (20 : Int) = ((20 : Nat) : Int) from rfl, runAns_eq 20 (by rw [hws]; simp [numL]) (by decide), e0, ea0, e1, ea1, e2, ea2, e3, ea3, e4, ea4, e5, eD]; rfl
  · rw [hr 5 (by decide) (by decide), v5]; omega
theorem infoRvF : (Tryd.prog.info? 41).map (fun i => (i.zero, i.size, i.bytes)) = some (some (.agg #[.int .i64 0, .int .i64 0, .int .i64 0, .int .i64 0, .int .i64 0]), 5, 40) := by kernel_rfl
theorem flat_len (xs : List Mi) : (xs.flatMap miC).length = xs.length * 5 := by
  induction xs with
  | nil => rfl
  | cons x xs ih => rw [List.flatMap_cons, List.length_append, ih]; simp [miC]; omega
theorem own_rvs {w : World} {base : Nat} {v : Value} {xs : List Mi} (h : w.ownsRow base 41 5 v xs.length (xs.flatMap miC)) (hn : 0 < xs.length) : ∃ g cap, v = .slice (some ⟨g, 0, none⟩) xs.length cap ∧ RvsAt w g xs ∧ g < w.heap.size ∧ base ≤ g := by
  rcases h.2 with ⟨_, e⟩ | ⟨g, cap, cur, rfl, hb, hg, hc, _, hs, ht⟩
  · omega
  · refine ⟨g, cap, rfl, fun k hk j u hu => ?_, lt_of_block hg, hb⟩
    rw [cell_of_row _ _ _ _ _ _ hg]
    have hj : j < 5 := by have := (List.getElem?_eq_some_iff.1 hu).1; simpa [miC] using this
    have key := (rvs_new w xs) k hk j u hu
    rw [cell_of_row _ _ _ _ _ _ (heap_alloc_last w _), List.getElem?_toArray, ← ht, List.getElem?_take] at key
    split at key
    · simpa using key
    · cases key
theorem miC_ones (xs : List Mi) : ∀ u ∈ xs.flatMap miC, u.oneCell' = true := by
  intro u hu
  obtain ⟨x, _, hx⟩ := List.mem_flatMap.1 hu
  simp [miC] at hx
  rcases hx with rfl | rfl | rfl | rfl | rfl <;> rfl

set_option maxRecDepth 100000 in
set_option maxHeartbeats 4000000 in
theorem cpuNumbers_walk (n : Int) (hn : Fits n) (w : World) (ht : RvTab w) :
    Calls Tryd.prog 11 #[.int .i64 n] w fun e w' => e = .returned (.bool true) ∧ Below w.heap.size w w' := by
  obtain ⟨iR, hiR, hz0, hz1, hz2⟩ := info_parts infoRvF
  obtain ⟨m, hm⟩ : ∃ m : Nat → Int, ∀ j, m j = n / 2 ^ (44 - 11 * j) % 2048 := ⟨_, fun _ => rfl⟩
  obtain ⟨q, hq⟩ : ∃ q, q = n / 2 ^ 55 := ⟨_, rfl⟩
  obtain ⟨D, hR, hD, d5⟩ := num_run n hn q m hq hm
  have n0 := hn.1
  have n1 := hn.2
  have HOK : Hid (∀ z ∈ (numL q m 5 ++ [(⟨29, 0, 0, 0, 0⟩ : Mi)]), MiOk z) := num_ok q m (by omega) (by omega) (fun j => by rw [hm j]; omega)
  have HT : Hid (∀ V, Below w.heap.size w V → RvTab V) := fun V hV => ht.below hV
  have HRUN : Hid (∀ ao cap V, RvTab V → IntsVal V (.slice ao 12 cap) ((numL q m 5 ++ [(⟨29, 0, 0, 0, 0⟩ : Mi)]).map wordI) → Calls Tryd.prog 17 #[.slice ao 12 cap, .agg (cpuCells zeroCp).toArray, .int .i64 20] V fun e w' => e = .returned (.tuple #[.agg (cpuCells D).toArray, .int .i64 12, .int .i64 0]) ∧ Below V.heap.size V w') := fun ao cap V hV hI => by
    have hlen : ((numL q m 5 ++ [(⟨29, 0, 0, 0, 0⟩ : Mi)]).map wordI).length = 12 := by rw [List.length_map, List.length_append, numL_len]; rfl
    have := cpuRun_any zeroCp zero_ok ((numL q m 5 ++ [(⟨29, 0, 0, 0, 0⟩ : Mi)]).map wordI) ao cap 20 V hV (by rw [hlen]; exact hI)
    rw [hlen, hR] at this
    exact this
  have HD5 : Hid (D.reg 5 = n) := d5
  have hq' : n / 36028797018963968 = q := by rw [hq]; rfl
  have hm0 : bits .and .i64 (n / 17592186044416) 2047 = m 0 := by rw [bits_2047, hm 0]; rfl
  have hm1 : bits .and .i64 (n / 8589934592) 2047 = m 1 := by rw [bits_2047, hm 1]; rfl
  have hm2 : bits .and .i64 (n / 4194304) 2047 = m 2 := by rw [bits_2047, hm 2]; rfl
  have hm3 : bits .and .i64 (n / 2048) 2047 = m 3 := by rw [bits_2047, hm 3]; rfl
  have hm4 : bits .and .i64 (n / 1) 2047 = m 4 := by rw [bits_2047, hm 4]; rfl
  have hm9 : bits .and .i64 n 2047 = m 4 := by rw [bits_2047, hm 4]; simp
  have HM : Hid (∀ j, m j = n / 2 ^ (44 - 11 * j) % 2048) := hm
  clear hR ht d5 hm hq n0 n1 hn
  go_enter Tryd.func11, Tryd.ntmps11
  go_wp2
  go_loopw [3, 4] (fun l s wr => ∃ j : Nat, j ≤ 5 ∧ s = .int .i64 (44 - 11 * (j : Int)) ∧ wr.ownsRow w.heap.size 41 5 l (2 * j + 1) ((numL q m j).flatMap miC) ∧ Below w.heap.size w wr) (fun _ s _ => (intOf s + 11).toNat)
  case atStart => exact ⟨0, by omega, rfl, World.ownsRow_lit w _ 1 (Nat.le_refl _) (by unfold maxLen; omega) rfl, (Below.refl _ _).alloc (Nat.le_refl _) _⟩
  case round =>
    obtain ⟨j, hj, hs, hr, hb⟩ := hrel
    have hz : w.heap.size ≤ wr.heap.size := hb.size
    have HB : Hid (Below w.heap.size w wr) := hb
    obtain ⟨ao1, cap1, rfl⟩ := own_shape hr
    rcases (show j = 0 ∨ j = 1 ∨ j = 2 ∨ j = 3 ∨ j = 4 ∨ j = 5 by omega) with rfl | rfl | rfl | rfl | rfl | rfl
    · replace hs := hs.trans (show _ = Value.int .i64 44 from rfl)
      subst hs
      have HR : Hid (wr.ownsRow w.heap.size 41 5 (.slice ao1 1 cap1) 1 ((numL q m 0).flatMap miC)) := hr
      clear hb hr
      go_wp2_with (at_builtin; refine wpList_append_own _ rfl (.tmp 18) (.tmp 25) 53 rfl w.heap.size 41 iR _ 5 40 Tryd.underlying53 hiR hz0 hz1 hz2 rfl (by decide) _ _ _ rfl (HR.out.alloc _) ⟨wr.heap.size, 0, none⟩ 2 2 (([⟨18, 5, 5, 0, 11⟩, ⟨14, 5, 5, 0, m 0⟩] : List Mi).flatMap miC) rfl rfl (news_list _ _ _ _ rfl) (miC_ones _) (by unfold maxLen; omega) (by omega) (by simp; omega) ?_; intro v2 w2 hown2 hg2 _)
      go_roundw
      case rel => exact ⟨1, by omega, by first | rfl | go_num, by rw [show numL q m 1 = numL q m 0 ++ [⟨18, 5, 5, 0, 11⟩, ⟨14, 5, 5, 0, m 0⟩] from rfl, List.flatMap_append]; exact hown2, (HB.out.alloc hz _).trans (grown_base (HR.out.alloc _) (by simp; omega) hg2)⟩
      case measure => simp [intOf]
    · replace hs := hs.trans (show _ = Value.int .i64 33 from rfl)
      subst hs
      have HR : Hid (wr.ownsRow w.heap.size 41 5 (.slice ao1 3 cap1) 3 ((numL q m 1).flatMap miC)) := hr
      clear hb hr
      go_wp2_with (at_builtin; refine wpList_append_own _ rfl (.tmp 18) (.tmp 25) 53 rfl w.heap.size 41 iR _ 5 40 Tryd.underlying53 hiR hz0 hz1 hz2 rfl (by decide) _ _ _ rfl (HR.out.alloc _) ⟨wr.heap.size, 0, none⟩ 2 2 (([⟨18, 5, 5, 0, 11⟩, ⟨14, 5, 5, 0, m 1⟩] : List Mi).flatMap miC) rfl rfl (news_list _ _ _ _ rfl) (miC_ones _) (by unfold maxLen; omega) (by omega) (by simp; omega) ?_; intro v2 w2 hown2 hg2 _)
      go_roundw
      case rel => exact ⟨2, by omega, by first | rfl | go_num, by rw [show numL q m 2 = numL q m 1 ++ [⟨18, 5, 5, 0, 11⟩, ⟨14, 5, 5, 0, m 1⟩] from rfl, List.flatMap_append]; exact hown2, (HB.out.alloc hz _).trans (grown_base (HR.out.alloc _) (by simp; omega) hg2)⟩
      case measure => simp [intOf]
    · replace hs := hs.trans (show _ = Value.int .i64 22 from rfl)
      subst hs
      have HR : Hid (wr.ownsRow w.heap.size 41 5 (.slice ao1 5 cap1) 5 ((numL q m 2).flatMap miC)) := hr
      clear hb hr
      go_wp2_with (at_builtin; refine wpList_append_own _ rfl (.tmp 18) (.tmp 25) 53 rfl w.heap.size 41 iR _ 5 40 Tryd.underlying53 hiR hz0 hz1 hz2 rfl (by decide) _ _ _ rfl (HR.out.alloc _) ⟨wr.heap.size, 0, none⟩ 2 2 (([⟨18, 5, 5, 0, 11⟩, ⟨14, 5, 5, 0, m 2⟩] : List Mi).flatMap miC) rfl rfl (news_list _ _ _ _ rfl) (miC_ones _) (by unfold maxLen; omega) (by omega) (by simp; omega) ?_; intro v2 w2 hown2 hg2 _)
      go_roundw
      case rel => exact ⟨3, by omega, by first | rfl | go_num, by rw [show numL q m 3 = numL q m 2 ++ [⟨18, 5, 5, 0, 11⟩, ⟨14, 5, 5, 0, m 2⟩] from rfl, List.flatMap_append]; exact hown2, (HB.out.alloc hz _).trans (grown_base (HR.out.alloc _) (by simp; omega) hg2)⟩
      case measure => simp [intOf]
    · replace hs := hs.trans (show _ = Value.int .i64 11 from rfl)
      subst hs
      have HR : Hid (wr.ownsRow w.heap.size 41 5 (.slice ao1 7 cap1) 7 ((numL q m 3).flatMap miC)) := hr
      clear hb hr
      go_wp2_with (at_builtin; refine wpList_append_own _ rfl (.tmp 18) (.tmp 25) 53 rfl w.heap.size 41 iR _ 5 40 Tryd.underlying53 hiR hz0 hz1 hz2 rfl (by decide) _ _ _ rfl (HR.out.alloc _) ⟨wr.heap.size, 0, none⟩ 2 2 (([⟨18, 5, 5, 0, 11⟩, ⟨14, 5, 5, 0, m 3⟩] : List Mi).flatMap miC) rfl rfl (news_list _ _ _ _ rfl) (miC_ones _) (by unfold maxLen; omega) (by omega) (by simp; omega) ?_; intro v2 w2 hown2 hg2 _)
      go_roundw
      case rel => exact ⟨4, by omega, by first | rfl | go_num, by rw [show numL q m 4 = numL q m 3 ++ [⟨18, 5, 5, 0, 11⟩, ⟨14, 5, 5, 0, m 3⟩] from rfl, List.flatMap_append]; exact hown2, (HB.out.alloc hz _).trans (grown_base (HR.out.alloc _) (by simp; omega) hg2)⟩
      case measure => simp [intOf]
    · replace hs := hs.trans (show _ = Value.int .i64 0 from rfl)
      subst hs
      have HR : Hid (wr.ownsRow w.heap.size 41 5 (.slice ao1 9 cap1) 9 ((numL q m 4).flatMap miC)) := hr
      clear hb hr
      go_wp2_with (at_builtin; refine wpList_append_own _ rfl (.tmp 18) (.tmp 25) 53 rfl w.heap.size 41 iR _ 5 40 Tryd.underlying53 hiR hz0 hz1 hz2 rfl (by decide) _ _ _ rfl (HR.out.alloc _) ⟨wr.heap.size, 0, none⟩ 2 2 (([⟨18, 5, 5, 0, 11⟩, ⟨14, 5, 5, 0, m 4⟩] : List Mi).flatMap miC) rfl rfl (news_list _ _ _ _ rfl) (miC_ones _) (by unfold maxLen; omega) (by omega) (by simp; omega) ?_; intro v2 w2 hown2 hg2 _)
      go_roundw
      case rel => exact ⟨5, by omega, by first | rfl | go_num, by rw [show numL q m 5 = numL q m 4 ++ [⟨18, 5, 5, 0, 11⟩, ⟨14, 5, 5, 0, m 4⟩] from rfl, List.flatMap_append]; exact hown2, (HB.out.alloc hz _).trans (grown_base (HR.out.alloc _) (by simp; omega) hg2)⟩
      case measure => simp [intOf]
    · replace hs := hs.trans (show _ = Value.int .i64 (-11) from rfl)
      subst hs
      have HR : Hid (wr.ownsRow w.heap.size 41 5 (.slice ao1 11 cap1) 11 ((numL q m 5).flatMap miC)) := hr
      clear hb hr
      go_upto_region 7 with (at_builtin; refine wpList_append_own _ rfl (.tmp 27) (.tmp 29) 53 rfl w.heap.size 41 iR _ 5 40 Tryd.underlying53 hiR hz0 hz1 hz2 rfl (by decide) _ _ _ rfl (HR.out.alloc _) ⟨wr.heap.size, 0, none⟩ 1 1 (([⟨29, 0, 0, 0, 0⟩] : List Mi).flatMap miC) rfl rfl (news_list _ _ _ _ rfl) (miC_ones _) (by unfold maxLen; omega) (by omega) (by simp; omega) ?_; intro v2 w2 hown2 hg2 _)
      have HB2 : Hid (Below w.heap.size w w2) := (HB.out.alloc hz _).trans (grown_base (HR.out.alloc _) (by simp; omega) hg2)
      have hl12 : (numL q m 5 ++ [(⟨29, 0, 0, 0, 0⟩ : Mi)] : List Mi).length = 12 := by rw [List.length_append, numL_len]; rfl
      obtain ⟨g, cap, hgv, hrv, hgl, hgb⟩ := own_rvs (w := w2) (xs := numL q m 5 ++ [(⟨29, 0, 0, 0, 0⟩ : Mi)]) (v := v2) (base := w.heap.size) (by rw [hl12, List.flatMap_append]; exact hown2) (by omega)
      have hwd := words_any (numL q m 5 ++ [(⟨29, 0, 0, 0, 0⟩ : Mi)]) HOK.out (by omega) g cap w2 (HT.out _ HB2.out) hrv hgl
      rw [hl12] at hgv hwd
      have HWD : Hid (Calls Tryd.prog 20 #[.slice (some ⟨g, 0, none⟩) 12 cap] w2 fun e w' => ∃ v', e = .returned (.tuple #[v', .bool true]) ∧ w'.ownsRow w2.heap.size 3 1 v' 12 (i64s ((numL q m 5 ++ [(⟨29, 0, 0, 0, 0⟩ : Mi)]).map wordI)) ∧ Below w2.heap.size w2 w') := hwd
      have hl12' : ((numL q m 5 ++ [(⟨29, 0, 0, 0, 0⟩ : Mi)] : List Mi).map wordI).length = 12 := by rw [List.length_map, hl12]
      subst hgv
      clear hwd hrv hgl hgb hown2 hg2 HR hl12
      go_wp2_with (first
        | (go_at_call 20; refine HWD.out.mono ?_; rintro e w3 ⟨v3, rfl, hown3, hb3⟩; obtain ⟨ao3, cap3, rfl⟩ := own_shape hown3; have HI3 : Hid (IntsVal w3 (.slice ao3 12 cap3) ((numL q m 5 ++ [(⟨29, 0, 0, 0, 0⟩ : Mi)]).map wordI)) := ints_of_own (base := w2.heap.size) (by rw [hl12']; exact hown3); have HB3 : Hid (Below w.heap.size w w3) := HB2.out.trans (hb3.mono HB2.out.size); clear hown3 hb3)
        | (refine wpList_build_to rfl _ _ rfl (cpuCells zeroCp).toArray built_cp0 ?_)
        | (go_at_call 17; refine (HRUN.out _ _ _ (HT.out _ HB3.out) HI3.out).mono ?_; rintro e w4 ⟨rfl, hb4⟩; have HB4 : Hid (Below w.heap.size w w4) := HB3.out.trans (hb4.mono HB3.out.size); clear hb4)
        | (refine wpList_store_row rfl _ _ _ rfl _ (cpuCells D).toArray rfl rfl _ _ (heap_alloc_last w4 _) (infoCpC hD) (by rw [zc_cp, List.size_toArray, cp_len hD]) (cp_one _) ?_; have hC : CAt ((w4.alloc (.cells Tryd.zeroCells26 26)).setRow w4.heap.size (cpuCells D).toArray) w4.heap.size D := CAt.row hD (heap_alloc_last w4 _); have c5 := hC.regv 5 (by decide) HD5.out rfl; clear hC))
      go_ret
      exact ⟨by simp, below_setRowR (HB4.out.alloc HB4.out.size _) HB4.out.size _⟩
end Go.Proofs.YtapjfiihfgndeaaDoor
