/- Contract of profile.noughts; counts in memory. -/
import Derived.Test.YtndogdojcbcjgaaDoorXCountMath
import Derived.Test.YtndogdojcbcjgaaDoorXOwnInts
import Derived.Test.YtndogdojcbcjgaaDoorGroupE
import Derived.Test.YtndogdojcbcjgaaDoorGroupD
namespace Go.Proofs.YtndogdojcbcjgaaDoor
open Go Go.RowKit

theorem infoRows : (Tryd.prog.info? 27).map (fun i => (i.zero, i.size, i.bytes)) = some (some (.slice none 0 0), 1, 24) := by kernel_rfl
/-- A row of lists. -/
abbrev OutRow (w : World) (g N : Nat) (VV : Nat → Value) : Prop := w.ownsRow 0 27 1 (.slice (some ⟨g, 0, none⟩) N N) N ((List.range N).map VV)
theorem out_cell {w : World} {g N : Nat} {VV : Nat → Value} (h : OutRow w g N VV) (k : Nat) (hk : k < N) : w.cell? ⟨g, k, none⟩ = some (VV k) := by
  rw [h.cellAt k (by simpa using hk)]
  simp [hk]
theorem out_store {w : World} {g N : Nat} {VV : Nat → Value} (h : OutRow w g N VV) (k : Nat) (v : Value) : OutRow (w.setCell ⟨g, k, none⟩ v) g N (upd VV k v) ∧ w.grownBy (w.setCell ⟨g, k, none⟩ v) (some g) := by
  have h1 := h.stored k v
  have e : ((List.range N).map VV).set k v = (List.range N).map (upd VV k v) := by
    apply List.ext_getElem?
    intro j
    rw [List.getElem?_set]
    by_cases hj : k = j
    · subst hj
      by_cases hN : k < N
      · simp [hN, upd_same]
      · simp [hN]
    · rw [if_neg hj]
      by_cases hN : j < N
      · simp [hN, upd_other VV (Ne.symm hj) v]
      · simp [hN]
  rw [e] at h1
  exact h1
theorem made_nils (N : Nat) : (madeCells (Value.slice none 0 0).cells (N * 1)).toList = (List.range N).map fun _ => Value.slice none 0 0 := by
  apply List.ext_getElem?
  intro j
  simp only [madeCells, Value.cells]
  by_cases hN : j < N
  · have : j % 1 = 0 := Nat.mod_one j
    simp [hN, this]
  · simp [hN]
/-- Counts in memory: a row of lists, each in a row of its own. -/
structure CntAt (w : World) (g N : Nat) (VV : Nat → Value) (C : List (List Int)) : Prop where
  out : OutRow w g N VV
  slots : Slots w (g + 1) N VV (fun k => C.getD k [])
theorem CntAt.below {w w' : World} {g N : Nat} {VV : Nat → Value} {C : List (List Int)} (h : CntAt w g N VV C) (hb : Below w.heap.size w w') : CntAt w' g N VV C := ⟨ownsRow_below h.out hb, h.slots.below hb⟩
/-- Something else is written, that is no row of it. -/
theorem CntAt.kept {w w' : World} {g N r : Nat} {VV : Nat → Value} {C : List (List Int)} (h : CntAt w g N VV C) (hg : w.grownBy w' (some r)) (hr : r < g) : CntAt w' g N VV C :=
  ⟨h.out.kept hg (Or.inr (by simp [Value.ownBlock]; omega)), h.slots.kept hg (fun g' e => by cases e; omega)⟩
theorem gb_setCell (w : World) (r i : Nat) (v : Value) : w.grownBy (w.setCell ⟨r, i, none⟩ v) (some r) :=
  ⟨rfl, rfl, rfl, by simp, fun b _ hne => heap_setCell_other w ⟨r, i, none⟩ b v (fun e => hne (by rw [e]))⟩
theorem gb_setRow (w : World) (r : Nat) (cs : Array Value) : w.grownBy (w.setRow r cs) (some r) :=
  ⟨rfl, rfl, rfl, by simp [World.setRow], fun b _ hne => setRow_other w r cs b (fun e => hne (by rw [e]))⟩
/-- A state's box is none of its rows. -/
theorem CntAt.other {w w' : World} {g N r : Nat} {VV : Nat → Value} {C : List (List Int)} {cs : Array Value} (h : CntAt w g N VV C) (hg : w.grownBy w' (some r)) (hr : w.heap[r]? = some (.cells cs 29 (0, 0))) : CntAt w' g N VV C := by
  refine ⟨h.out.kept hg (Or.inr ?_), ⟨fun s hs => (h.slots.own s hs).kept hg ?_, h.slots.apart⟩⟩
  · exact block_ne_own h.out hr (by decide)
  · exact Or.inr (block_ne_own (h.slots.own s hs) hr (by decide))
theorem take_upd (C : List (List Int)) (q : Nat) (hq : q < C.length) : (fun k => (C.take (q + 1)).getD k []) = upd (fun k => (C.take q).getD k []) q (C.getD q []) := by
  funext k
  unfold upd
  simp only [List.getD_eq_getElem?_getD, List.getElem?_take]
  by_cases h : k = q
  · subst h; simp
  · rw [if_neg h]
    by_cases h2 : k < q
    · rw [if_pos (by omega), if_pos h2]
    · rw [if_neg (by omega), if_neg h2]

set_option maxRecDepth 100000 in
set_option maxHeartbeats 8000000 in
theorem noughts_any (P : List Fn) (hP : codeProg P = 0) (v : Value) (w : World) (hv : ProgVal w v P) :
    Calls Tryd.prog 67 #[.agg #[v]] w fun e w' => ∃ g VV, e = .returned (.slice (some ⟨g, 0, none⟩) P.length P.length) ∧ CntAt w' g P.length VV (noC P) ∧ w.heap.size ≤ g ∧ Below w.heap.size w w' := by
  obtain ⟨iI, hiI, hzI0, hzI1, hzI2⟩ := info_parts infoRows
  obtain ⟨i64i, hi64, hz0, hz1', hz2⟩ := info_parts info64
  obtain ⟨hn1, hn4, -⟩ := codeProg_zero hP
  have HFN : Hid (∀ k, (hk : k < P.length) → ∃ b off cap ao n c, v = .slice (some ⟨b, off, none⟩) P.length cap ∧ (∀ W, Below w.heap.size w W → W.cell? ⟨b, off + k * 3, none⟩ = some (.int .i64 P[k].params) ∧ W.cell? ⟨b, off + k * 3 + 1, none⟩ = some (.int .i64 P[k].regs) ∧ W.cell? ⟨b, off + k * 3 + 2, none⟩ = some (.slice ao n c)) ∧ P[k].code.length = n ∧ n ≤ 40 ∧ cap ≤ 9223372036854775807 ∧ P.length ≤ cap ∧ n ≤ c) := fun k hk => by
    obtain ⟨b, off, cap, u, e, d0, d1, d2, hcv, hm, hcc⟩ := prog_fn hv hk
    have hl2 := (fnOk_of hP (List.getElem_mem hk)).1.len2
    obtain ⟨ao1, b1, off1, n, cap1, rfl, ⟨hln, had1, hat1⟩, hcp1, hmx1⟩ := hcv
    exact ⟨b, off, cap, ao1, n, cap1, e, fun W hW => ⟨keeps_below hW _ _ d0, keeps_below hW _ _ d1, keeps_below hW _ _ d2⟩, hln, by omega, hm, hcc, hcp1.1⟩
  obtain ⟨b, off, cap, ao, n, c, rfl, -, -, -, hcm, hcp, -⟩ := HFN.out 0 (by omega)
  have HFN2 : Hid (∀ k, (hk : k < P.length) → ∃ (pa re : Int) (ao : Option Addr) (n c : Nat), (∀ W, Below w.heap.size w W → W.cell? ⟨b, off + k * 3, none⟩ = some (.int .i64 pa) ∧ W.cell? ⟨b, off + k * 3 + 1, none⟩ = some (.int .i64 re) ∧ W.cell? ⟨b, off + k * 3 + 2, none⟩ = some (.slice ao n c)) ∧ (noC P).getD k [] = List.replicate n 0 ∧ n ≤ 40 ∧ n ≤ c) := fun k hk => by
    obtain ⟨b', off', cap', ao, n, c, e, hc, hn, h40, -, -, hnc⟩ := HFN.out k hk
    obtain ⟨⟨rfl, rfl⟩, -⟩ : (b = b' ∧ off = off') ∧ cap = cap' := by simpa using e
    refine ⟨_, _, ao, n, c, hc, ?_, h40, hnc⟩
    simp [noC, List.getD, hk, hn]
  have HCL : Hid ((noC P).length = P.length) := by show _ = _; simp [noC]
  clear HFN hv hP
  generalize noC P = C at *
  generalize P.length = N at *
  have hm0 := made_nils N
  go_enter Tryd.func67, Tryd.ntmps67
  go_wp2_with (at_make; refine wpList_make_full _ rfl (.tmp 8) (.tmp 8) 75 rfl 0 27 iI _ 1 Tryd.underlying75 hiI hzI0 hzI1 .i64 .i64 _ _ N rfl rfl (by simp) (by simp) (by rw [hzI2]; omega) (by unfold maxLen; omega) (Nat.zero_le _) ?_; intro w1 hown1 hg1; rw [hm0] at hown1; simp only [World.size_alloc] at hown1; have hb1 := below_grown hg1; have k0 := keeps_below hb1 _ _ (way_box w _ _ 0 (.slice (some ⟨b, off, none⟩) N cap) rfl))
  have hz1 : w.heap.size + 1 < w1.heap.size := (hown1.lt (w.heap.size + 1) rfl).2
  have HB1 : Hid (Below w.heap.size w w1) := ((Below.refl _ _).alloc (Nat.le_refl _) _).trans (hb1.mono (by simp))
  have HR1 : Hid (OutRow w1 (w.heap.size + 1) N (fun _ => .slice none 0 0)) := hown1
  clear hown1 hg1 hb1
  go_loopw [13] (fun i wr => ∃ (q : Nat) (VV : Nat → Value), q ≤ N ∧ i = .int .i64 q ∧ CntAt wr (w.heap.size + 1) N VV (C.take q) ∧ (∀ k, q ≤ k → VV k = .slice none 0 0) ∧ Below w.heap.size w wr) (fun i _ => N - (intOf i).toNat)
  case atStart => exact ⟨0, _, Nat.zero_le _, rfl, ⟨HR1.out, by simpa using Slots.nils w1 (w.heap.size + 1 + 1) N⟩, fun _ _ => rfl, HB1.out⟩
  case round =>
    obtain ⟨q, VV, hq, rfl, hcn, hnil, hbr⟩ := hrel
    have HCN : Hid (CntAt wr (w.heap.size + 1) N VV (C.take q)) := hcn
    have HBR : Hid (Below w.heap.size w wr) := hbr
    have hzr : w.heap.size + 1 < wr.heap.size := (hcn.out.lt (w.heap.size + 1) rfl).2
    by_cases hlt : q < N
    · obtain ⟨pa, re, ao, n, c, hcell, hrep, h40, hnc⟩ := HFN2.out q hlt
      obtain ⟨j0, j1, j2⟩ := hcell wr hbr
      have hqI : (q : Int) < N := by omega
      have HNI : Hid (∀ k, q ≤ k → VV k = .slice none 0 0) := hnil
      have HRE : Hid (C.getD q [] = List.replicate n 0) := hrep
      have hqC : q < C.length := by rw [HCL.out]; exact hlt
      have HQC : Hid (q < C.length) := hqC
      have HW2 : Hid (CntAt (wr.alloc (.cells #[.int .i64 pa, .int .i64 re, .slice ao n c] 64)) (w.heap.size + 1) N VV (C.take q)) := hcn.below ((Below.refl _ _).alloc (Nat.le_refl _) _)
      have HB2 : Hid (Below w.heap.size w (wr.alloc (.cells #[.int .i64 pa, .int .i64 re, .slice ao n c] 64))) := hbr.alloc (by omega) _
      have hmi := made_ints0 n
      clear hcell hnil hbr hcn hrep hqC
      go_wp2_with (at_make; refine wpList_make_full _ rfl (.tmp 22) (.tmp 22) 27 rfl (w.heap.size + 1 + 1) 3 i64i _ 1 Tryd.underlying27 hi64 hz0 hz1' .i64 .i64 _ _ n rfl rfl (by simp) (by simp) (by rw [hz2]; omega) (by unfold maxLen; omega) (by simp; omega) ?_; intro w2 hown2 hg2; rw [hmi] at hown2; simp only [World.size_alloc] at hown2; have ho3 : OwnI w2 (w.heap.size + 1 + 1) (.slice (some ⟨wr.heap.size + 1, 0, none⟩) n n) (List.replicate n 0) := (by rw [OwnI, List.length_replicate]; exact hown2); have hro := HW2.out.out.kept hg2 (Or.inr (by simp [Value.ownBlock])); have co := out_cell hro q hlt; have cf := hro.frozenAt q; have HRO : Hid (OutRow w2 (w.heap.size + 1) N VV) := hro; have HSL : Hid (Slots w2 (w.heap.size + 1 + 1) N (upd VV q (.slice (some ⟨wr.heap.size + 1, 0, none⟩) n n)) (upd (fun k => (C.take q).getD k []) q (List.replicate n 0))) := HW2.out.slots.upd hlt (by rw [HNI.out q (Nat.le_refl _)]; exact hg2) ho3 (Or.inr ⟨_, rfl, by simp⟩); have HB3 : Hid (Below w.heap.size w w2) := HB2.out.trans ((below_grown hg2).mono (by simp; omega)); clear hro hg2 hown2 ho3)
      have hz3 := HB3.out.size
      obtain ⟨s1, s2⟩ := out_store HRO.out q (.slice (some ⟨wr.heap.size + 1, 0, none⟩) n n)
      have HN3 : Hid (CntAt (w2.setCell ⟨w.heap.size + 1, q, none⟩ (.slice (some ⟨wr.heap.size + 1, 0, none⟩) n n)) (w.heap.size + 1) N (upd VV q (.slice (some ⟨wr.heap.size + 1, 0, none⟩) n n)) (C.take (q + 1))) := ⟨s1, by rw [take_upd C q HQC.out, HRE.out]; exact HSL.out.kept s2 (fun g' e => by cases e; omega)⟩
      have HB4 := below_gb HB3.out s2 (by omega) hz3
      have HNI2 : Hid (∀ k, q + 1 ≤ k → upd VV q (.slice (some ⟨wr.heap.size + 1, 0, none⟩) n n) k = .slice none 0 0) := fun k hk => by rw [upd_other VV (by omega)]; exact HNI.out k (by omega)
      go_roundw
      case rel => exact ⟨q + 1, _, by omega, by go_num, by simpa using HN3.out, by simpa using HNI2.out, by simpa using HB4⟩
      case measure => simp [intOf]; omega
    · obtain rfl : q = N := by omega
      have HT : Hid (CntAt wr (w.heap.size + 1) q VV C) := by
        have := HCN.out
        rw [List.take_of_length_le (by rw [HCL.out]; exact Nat.le_refl _)] at this
        exact this
      clear hcn hbr hnil
      go_wp2
      go_ret
      exact ⟨_, VV, rfl, HT.out, by omega, HBR.out⟩
end Go.Proofs.YtndogdojcbcjgaaDoor
