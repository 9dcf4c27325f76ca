/- The document's way to the block above: plain mathematics. -/
import Derived.Test.YteilohamjijpbaaDoorXFlowAboves
import Derived.Test.YteilohamjijpbaaDoorXFwdMath
namespace Go.Proofs.YteilohamjijpbaaDoor
open Go Go.RowKit

/-- Which round has been done for a block. -/
def stg (g c j : Nat) : Nat := if j < c then g + 1 else g
theorem stg_at (g c : Nat) : stg g c c = g := if_neg (Nat.lt_irrefl _)
theorem stg_next (g c : Nat) : stg g (c + 1) c = g + 1 := if_pos (Nat.lt_succ_self _)
theorem stg_ne (g c : Nat) {j : Nat} (h : j ≠ c) : stg g (c + 1) j = stg g c j := by
  unfold stg
  by_cases h1 : j < c
  · rw [if_pos h1, if_pos (by omega)]
  · rw [if_neg h1, if_neg (by omega)]
theorem stg_round {K j : Nat} (g : Nat) (h : j < K) : stg g K j = stg (g + 1) 0 j := by
  unfold stg
  rw [if_pos h, if_neg (by omega)]
theorem domCt_next (pv : Nat → List Nat) (b k : Nat) (h : Dom pv k b) : domCt pv b (k + 1) = domCt pv b k + 1 := by rw [domCt, if_pos h]
theorem domCt_none (pv : Nat → List Nat) (b k : Nat) (h : ¬ Dom pv k b) : domCt pv b (k + 1) = domCt pv b k := by rw [domCt, if_neg h]; rfl
/-- How many stand above each block, as far as the rounds have come. -/
def CntTo (pv : Nat → List Nat) (K g c : Nat) (C : List Int) : Prop := C.length = K ∧ ∀ j, j < K → C.getD j 0 + (if j < stg g c j then 1 else 0) = ((domCt pv j (stg g c j) : Nat) : Int)
theorem CntTo.start (pv : Nat → List Nat) (K : Nat) : CntTo pv K 0 0 (List.replicate K 0) := by
  refine ⟨by simp, fun j hj => ?_⟩
  have e : stg 0 0 j = 0 := if_neg (by omega)
  rw [e, if_neg (by omega)]
  simp [List.getD, hj, domCt]
theorem CntTo.round {pv : Nat → List Nat} {K g : Nat} {C : List Int} (h : CntTo pv K g K C) : CntTo pv K (g + 1) 0 C := ⟨h.1, fun j hj => by rw [← stg_round g hj]; exact h.2 j hj⟩
theorem CntTo.yes {pv : Nat → List Nat} {K g c : Nat} {C : List Int} (h : CntTo pv K g c C) (hc : c < K) (hne : c ≠ g) (hd : Dom pv g c) : CntTo pv K g (c + 1) (C.set c (C.getD c 0 + 1)) := by
  refine ⟨by rw [List.length_set]; exact h.1, fun j hj => ?_⟩
  rw [igetD_set _ _ _ _ (by rw [h.1]; exact hc)]
  by_cases e : j = c
  · subst e
    have h1 := h.2 j hj
    rw [stg_at] at h1
    rw [if_pos rfl, stg_next, domCt_next pv j g hd]
    by_cases h2 : j < g
    · rw [if_pos h2] at h1; rw [if_pos (by omega)]; omega
    · rw [if_neg h2] at h1; rw [if_neg (by omega)]; omega
  · rw [if_neg e, stg_ne g c e]; exact h.2 j hj
theorem CntTo.no {pv : Nat → List Nat} {K g c : Nat} {C : List Int} (h : CntTo pv K g c C) (hn : c = g ∨ ¬ Dom pv g c) : CntTo pv K g (c + 1) C := by
  refine ⟨h.1, fun j hj => ?_⟩
  by_cases e : j = c
  · subst e
    have h1 := h.2 j hj
    rw [stg_at] at h1
    rw [stg_next]
    by_cases hg : j = g
    · subst hg
      rw [if_neg (by omega)] at h1
      rw [if_pos (by omega), domCt_next pv j j (Dom.self pv j)]; omega
    · rw [domCt_none pv j g (hn.resolve_left hg)]
      by_cases h2 : j < g
      · rw [if_pos h2] at h1; rw [if_pos (by omega)]; omega
      · rw [if_neg h2] at h1; rw [if_neg (by omega)]; omega
  · rw [stg_ne g c e]; exact h.2 j hj
theorem CntTo.all {pv : Nat → List Nat} {K : Nat} {C : List Int} (h : CntTo pv K K 0 C) {j : Nat} (hj : j < K) : C.getD j 0 + 1 = ((domCt pv j K : Nat) : Int) := by
  have h1 := h.2 j hj
  have e : stg K 0 j = K := if_neg (by omega)
  rw [e, if_pos hj] at h1
  exact h1
theorem CntTo.few {pv : Nat → List Nat} {K g c : Nat} {C : List Int} (h : CntTo pv K g c C) {j : Nat} (hj : j < K) (hg : g < K) : -1 ≤ C.getD j 0 ∧ C.getD j 0 ≤ K := by
  have h1 := h.2 j hj
  have h2 := domCt_le pv j (stg g c j)
  have h3 : stg g c j ≤ g + 1 := by unfold stg; split <;> omega
  have h4 : (if j < stg g c j then (1 : Int) else 0) = 0 ∨ (if j < stg g c j then (1 : Int) else 0) = 1 := by split <;> simp
  omega
/-- The nearest above each block, as far as the rounds have come. -/
def OutTo (pv : Nat → List Nat) (K g c : Nat) (O : List Int) : Prop := O.length = K ∧ ∀ j, j < K → NearTo pv j (stg g c j) (O.getD j 0)
theorem OutTo.start (pv : Nat → List Nat) (K : Nat) : OutTo pv K 0 0 (List.replicate K (-1)) := by
  refine ⟨by simp, fun j hj => ?_⟩
  have e : stg 0 0 j = 0 := if_neg (by omega)
  have e2 : (List.replicate K (-1 : Int)).getD j 0 = -1 := by simp [List.getD, hj]
  rw [e, e2]
  exact NearTo.start pv j
theorem OutTo.round {pv : Nat → List Nat} {K g : Nat} {O : List Int} (h : OutTo pv K g K O) : OutTo pv K (g + 1) 0 O := ⟨h.1, fun j hj => by rw [← stg_round g hj]; exact h.2 j hj⟩
theorem OutTo.put {pv : Nat → List Nat} {K g c : Nat} {O : List Int} (h : OutTo pv K g c O) (hc : c < K) {z : Int} (hz : NearTo pv c (g + 1) z) : OutTo pv K g (c + 1) (O.set c z) := by
  refine ⟨by rw [List.length_set]; exact h.1, fun j hj => ?_⟩
  rw [igetD_set _ _ _ _ (by rw [h.1]; exact hc)]
  by_cases e : j = c
  · subst e; rw [if_pos rfl, stg_next]; exact hz
  · rw [if_neg e, stg_ne g c e]; exact h.2 j hj
theorem OutTo.keep {pv : Nat → List Nat} {K g c : Nat} {O : List Int} (h : OutTo pv K g c O) (hz : NearTo pv c (g + 1) (O.getD c 0)) : OutTo pv K g (c + 1) O := by
  refine ⟨h.1, fun j hj => ?_⟩
  by_cases e : j = c
  · subst e; rw [stg_next]; exact hz
  · rw [stg_ne g c e]; exact h.2 j hj
theorem OutTo.here {pv : Nat → List Nat} {K g c : Nat} {O : List Int} (h : OutTo pv K g c O) (hc : c < K) : NearTo pv c g (O.getD c 0) := by
  have := h.2 c hc
  rw [stg_at] at this
  exact this
theorem OutTo.all {pv : Nat → List Nat} {K : Nat} {O : List Int} (h : OutTo pv K K 0 O) {j : Nat} (hj : j < K) : NearTo pv j K (O.getD j 0) := by
  have e : stg K 0 j = K := if_neg (by omega)
  have := h.2 j hj
  rw [e] at this
  exact this
/-- Of two that stand above a block the lower one has more above itself. -/
theorem more_above {pv : Nat → List Nat} {K a g c : Nat} (hcome : ∀ b, b < K → Come pv b) (hc : c < K) (hg : g < K) (ha : a < K) (hne : a ≠ g) (h1 : Dom pv a c) (h2 : Dom pv g c) : domCt pv a K < domCt pv g K ↔ Dom pv a g := by
  constructor
  · intro hl
    rcases Dom.chain (hcome c hc) h1 h2 with h | h
    · exact h
    · have := domCt_mono (fun d hd => Dom.trans hd h) (a := g) (b := a) K
      omega
  · intro hd
    exact domCt_lt (e := g) (fun d h => h.trans hd) (Dom.self pv g) (fun h => hne (Dom.anti (hcome a ha) hd h)) K hg
theorem NearTo.unique {pv : Nat → List Nat} {K blk : Nat} {z z' : Int} (hcome : ∀ b, b < K → Come pv b) (h : NearTo pv blk K z) (h' : NearTo pv blk K z') : z = z' := by
  rcases h with ⟨rfl, h1⟩ | ⟨a, rfl, h1, h2, h3, h4⟩ <;> rcases h' with ⟨rfl, g1⟩ | ⟨a', rfl, g1, g2, g3, g4⟩
  · rfl
  · exact absurd g3 (h1 a' g1 g2)
  · exact absurd h3 (g1 a h1 h2)
  · have := Dom.anti (hcome a h1) (g4 a h1 h2 h3) (h4 a' g1 g2 g3)
    rw [this]
theorem AboveOk.unique {P : List Fn} {f : Fn} (ok : FlowOk P f) {A A' : List Int} (h : AboveOk f A) (h' : AboveOk f A') : A = A' := by
  obtain ⟨S, T, hB, h1, h2⟩ := h
  obtain ⟨h3, h4⟩ := h'.of hB
  apply List.ext_getElem (by omega)
  intro i hi hi'
  have e := NearTo.unique (fun b hb => hB.come ok hb) (h2 i (by omega)) (h4 i (by omega))
  simpa [List.getD, hi, hi'] using e
/-- A row of numbers with whatever room. -/
abbrev IRow (w : World) (g n cap : Nat) (l : List Int) : Prop := w.ownsRow 0 3 1 (.slice (some ⟨g, 0, none⟩) n cap) n (i64s l)
theorem irow_cell {w : World} {g n cap : Nat} {l : List Int} (h : IRow w g n cap l) (hl : l.length = n) (i : Nat) (hi : i < n) : w.cell? ⟨g, i, none⟩ = some (.int .i64 (l.getD i 0)) := by
  rw [h.cellAt i (by omega)]
  simp [i64s, List.getD, show i < l.length by omega]
theorem irow_store {w : World} {g n cap : Nat} {l : List Int} (h : IRow w g n cap l) (i : Nat) (z : Int) : IRow (w.setCell ⟨g, i, none⟩ (.int .i64 z)) g n cap (l.set i z) ∧ w.grownBy (w.setCell ⟨g, i, none⟩ (.int .i64 z)) (some g) := by
  have := h.stored i (.int .i64 z)
  have e : (i64s l).set i (.int .i64 z) = i64s (l.set i z) := by simp [i64s, List.map_set]
  rw [e] at this
  exact this
end Go.Proofs.YteilohamjijpbaaDoor
