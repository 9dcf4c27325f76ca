/- The document's way to a function's blocks: plain mathematics; blocks as they are read; a row of blocks that was appended to. -/
import Derived.Test.YteilohamjijpbaaDoorXBlockPrev
import Derived.Test.YteilohamjijpbaaDoorXBegRef
import Derived.Test.YteilohamjijpbaaDoorGroupC
namespace Go.Proofs.YteilohamjijpbaaDoor
open Go Go.RowKit

theorem starts_exists {P : List Fn} {f : Fn} (ok : FlowOk P f) : ∃ S, Starts f S := by
  classical
  refine ⟨(List.range f.code.length).filter fun q => decide (Beg f q), List.pairwise_lt_range.filter _, fun q => ?_⟩
  rw [List.mem_filter, List.mem_range, decide_eq_true_eq]
  exact ⟨fun h => h.2, fun h => ⟨(beg_reach ok h).2, h⟩⟩
/-- Rising lists with the same members are one. -/
theorem rises_ext : ∀ {l l' : List Int}, l.Pairwise (· < ·) → l'.Pairwise (· < ·) → (∀ z, z ∈ l ↔ z ∈ l') → l = l'
  | [], [], _, _, _ => rfl
  | [], a :: _, _, _, h => absurd ((h a).2 (by simp)) (by simp)
  | a :: _, [], _, _, h => absurd ((h a).1 (by simp)) (by simp)
  | a :: l, b :: l', h1, h2, h => by
    obtain ⟨p1, p2⟩ := List.pairwise_cons.1 h1
    obtain ⟨q1, q2⟩ := List.pairwise_cons.1 h2
    have e : a = b := by
      rcases List.mem_cons.1 ((h a).1 (by simp)) with e | e
      · exact e
      · rcases List.mem_cons.1 ((h b).2 (by simp)) with e2 | e2
        · exact e2.symm
        · have := p1 b e2; have := q1 a e; omega
    subst e
    rw [rises_ext p2 q2 (fun z => ?_)]
    constructor
    · intro hz
      rcases List.mem_cons.1 ((h z).1 (by simp [hz])) with e | e
      · have := p1 z hz; omega
      · exact e
    · intro hz
      rcases List.mem_cons.1 ((h z).2 (by simp [hz])) with e | e
      · have := q1 z hz; omega
      · exact e
/-- One block leads to another. -/
def lkB (f : Fn) (S : List Nat) (T : Nat → Nat) (i k : Nat) : Bool := (behindI (insD f (T i - 1)) (T i - 1)).contains ((S.getD k 0 : Nat) : Int)
theorem lkB_mem (f : Fn) (S : List Nat) (T : Nat → Nat) (i k : Nat) : lkB f S T i k = true ↔ S.getD k 0 ∈ behind (insD f (T i - 1)) (T i - 1) := by
  unfold lkB
  rw [List.contains_iff_mem]
  unfold behindI
  rw [List.mem_map]
  constructor
  · rintro ⟨q, hq, e⟩
    have : q = S.getD k 0 := by omega
    rw [← this]; exact hq
  · intro h; exact ⟨_, h, rfl⟩
def rNx (f : Fn) (S : List Nat) (T : Nat → Nat) (m i : Nat) : List Int := ((List.range m).filter fun k => lkB f S T i k).map fun k => ((k : Nat) : Int)
def rPv (f : Fn) (S : List Nat) (T : Nat → Nat) (m i : Nat) : List Int := ((List.range m).filter fun k => lkB f S T k i).map fun k => ((k : Nat) : Int)
theorem filt_succ (p : Nat → Bool) (m : Nat) : ((List.range (m + 1)).filter p).map (fun k => ((k : Nat) : Int)) = ((List.range m).filter p).map (fun k => ((k : Nat) : Int)) ++ (if p m = true then [((m : Nat) : Int)] else []) := by
  rw [List.range_succ, List.filter_append, List.map_append]
  congr 1
  cases h : p m <;> simp [List.filter, h]
theorem filt_len (p : Nat → Bool) (m : Nat) : (((List.range m).filter p).map (fun k => ((k : Nat) : Int))).length ≤ m := by
  rw [List.length_map]
  exact Nat.le_trans (List.length_filter_le _ _) (by simp)
theorem lkB_iff {P : List Fn} {f : Fn} (ok : FlowOk P f) {S : List Nat} {T : Nat → Nat} (h : BlkOk f S T) {i k : Nat} (hi : i < S.length) (hk : k < S.length) : lkB f S T i k = true ↔ ((k : Nat) : Int) ∈ nxI f S (T i) := by
  rw [lkB_mem, nxI_mem]
  have eg : S.getD k 0 = S[k] := by simp [List.getD, hk]
  constructor
  · intro hm
    exact ⟨_, hm, by rw [eg, rank_at h.starts.rises k hk]⟩
  · rintro ⟨q, hq, e⟩
    have hqS := (h.ends i hi).leads ok h.starts (h.starts.reach ok (List.getElem_mem hi)).1 hq
    obtain ⟨h1, h2⟩ := rank_lt h.starts.rises hqS
    obtain rfl : k = rank S q := by omega
    rw [eg, h2 h1]
    exact hq
theorem filt_rises (p : Nat → Bool) (m : Nat) : (((List.range m).filter p).map (fun k => ((k : Nat) : Int))).Pairwise (· < ·) := by
  rw [List.pairwise_map]
  exact (List.pairwise_lt_range.filter _).imp fun h => by omega
theorem rNx_all {P : List Fn} {f : Fn} (ok : FlowOk P f) {S : List Nat} {T : Nat → Nat} (h : BlkOk f S T) {i : Nat} (hi : i < S.length) : rNx f S T S.length i = nxI f S (T i) := by
  refine rises_ext (filt_rises _ _) (nxI_rises f S (T i)) fun z => ?_
  unfold rNx
  rw [List.mem_map]
  constructor
  · rintro ⟨k, hk, rfl⟩
    obtain ⟨h1, h2⟩ := List.mem_filter.1 hk
    exact (lkB_iff ok h hi (List.mem_range.1 h1)).1 h2
  · intro hz
    obtain ⟨q, hq, e⟩ := (nxI_mem f S (T i) z).1 hz
    have hqS := (h.ends i hi).leads ok h.starts (h.starts.reach ok (List.getElem_mem hi)).1 hq
    obtain ⟨h1, h2⟩ := rank_lt h.starts.rises hqS
    rw [e] at hz ⊢
    exact ⟨rank S q, List.mem_filter.2 ⟨List.mem_range.2 h1, (lkB_iff ok h hi h1).2 hz⟩, rfl⟩
theorem rPv_all {P : List Fn} {f : Fn} (ok : FlowOk P f) {S : List Nat} {T : Nat → Nat} (h : BlkOk f S T) {i : Nat} (hi : i < S.length) : (if i = 0 then [-1] else []) ++ rPv f S T S.length i = pvI f S T S.length i := by
  unfold rPv pvI
  congr 2
  refine List.filter_congr fun k hk => ?_
  have hk := List.mem_range.1 hk
  have := lkB_iff ok h hk hi
  cases hl : lkB f S T k i with
  | true => exact (decide_eq_true (this.1 hl)).symm
  | false => exact (decide_eq_false (fun hh => by rw [this.2 hh] at hl; cases hl)).symm

/-- Blocks as they are read. -/
structure BlksAt (w : World) (g cap : Nat) (f : Fn) (S : List Nat) (T : Nat → Nat) (VV : Nat → Value) : Prop where
  cap1 : S.length ≤ cap
  cap2 : cap ≤ 9223372036854775807
  cells : ∀ i (_ : i < S.length), w.cell? ⟨g, i * 4, none⟩ = some (.int .i64 ((S.getD i 0 : Nat) : Int)) ∧ w.cell? ⟨g, i * 4 + 1, none⟩ = some (.int .i64 ((T i : Nat) : Int)) ∧ w.cell? ⟨g, i * 4 + 2, none⟩ = some (VV (2 * i)) ∧ w.cell? ⟨g, i * 4 + 3, none⟩ = some (VV (2 * i + 1))
  lists : ∀ i, i < S.length → IntsVal w (VV (2 * i)) (nxI f S (T i)) ∧ IntsVal w (VV (2 * i + 1)) (pvI f S T S.length i)
def BlocksVal (w : World) (v : Value) (f : Fn) (S : List Nat) (T : Nat → Nat) : Prop := ∃ g cap VV, v = .slice (some ⟨g, 0, none⟩) S.length cap ∧ BlksAt w g cap f S T VV
theorem BlksAt.below {w w' : World} {n g cap : Nat} {f : Fn} {S : List Nat} {T : Nat → Nat} {VV : Nat → Value} (h : BlksAt w g cap f S T VV) (hn : w.heap.size ≤ n) (hb : Below n w w') : BlksAt w' g cap f S T VV :=
  ⟨h.cap1, h.cap2, fun i hi => have hk := keeps_below (hb.mono hn); have c := h.cells i hi; ⟨hk _ _ c.1, hk _ _ c.2.1, hk _ _ c.2.2.1, hk _ _ c.2.2.2⟩, fun i hi => have hk := keeps_below (hb.mono hn); ⟨(h.lists i hi).1.keeps hk, (h.lists i hi).2.keeps hk⟩⟩
theorem BlocksVal.below {w w' : World} {v : Value} {f : Fn} {S : List Nat} {T : Nat → Nat} (h : BlocksVal w v f S T) (hb : Below w.heap.size w w') : BlocksVal w' v f S T := by
  obtain ⟨g, cap, VV, rfl, hB⟩ := h
  exact ⟨g, cap, VV, rfl, hB.below (Nat.le_refl _) hb⟩
theorem BlocksAt.blks {P : List Fn} {w : World} {base g : Nat} {f : Fn} (ok : FlowOk P f) {S : List Nat} {T : Nat → Nat} {VV : Nat → Value} {LL : Nat → List Int} (h : BlocksAt w base g f S T VV LL) : BlksAt w g S.length f S T VV := by
  have hl := starts_len ok h.starts
  have hl2 := ok.ok.len2
  refine ⟨Nat.le_refl _, by omega, fun i hi => ?_, fun i hi => h.next i hi⟩
  obtain ⟨a, b, c, d⟩ := h.cells i hi
  exact ⟨by rw [a]; simp [List.getD, hi], b, c, d⟩

/-- A row of blocks with whatever room. -/
abbrev BlkRowC (w : World) (g k cap : Nat) (F T : Nat → Int) (VV : Nat → Value) : Prop := w.ownsRow 0 68 4 (.slice (some ⟨g, 0, none⟩) k cap) k (bCells F T VV k)
theorem blkC_cell {w : World} {g k cap : Nat} {F T : Nat → Int} {VV : Nat → Value} (h : BlkRowC w g k cap F T VV) (i c : Nat) (hi : i < k) (hc : c < 4) : w.cell? ⟨g, i * 4 + c, none⟩ = [Value.int .i64 (F i), .int .i64 (T i), VV (2 * i), VV (2 * i + 1)][c]? := by
  rw [h.cellAt (i * 4 + c) (by omega)]
  exact bCells_get F T VV k i c hi hc
theorem blkC_from {w : World} {g k cap : Nat} {F T : Nat → Int} {VV : Nat → Value} (h : BlkRowC w g k cap F T VV) (i : Nat) (hi : i < k) : w.cell? ⟨g, i * 4, none⟩ = some (.int .i64 (F i)) := blkC_cell h i 0 hi (by omega)
theorem blkC_to {w : World} {g k cap : Nat} {F T : Nat → Int} {VV : Nat → Value} (h : BlkRowC w g k cap F T VV) (i : Nat) (hi : i < k) : w.cell? ⟨g, i * 4 + 1, none⟩ = some (.int .i64 (T i)) := blkC_cell h i 1 hi (by omega)
theorem blkC_next {w : World} {g k cap : Nat} {F T : Nat → Int} {VV : Nat → Value} (h : BlkRowC w g k cap F T VV) (i : Nat) (hi : i < k) : w.cell? ⟨g, i * 4 + 2, none⟩ = some (VV (2 * i)) := blkC_cell h i 2 hi (by omega)
theorem blkC_prev {w : World} {g k cap : Nat} {F T : Nat → Int} {VV : Nat → Value} (h : BlkRowC w g k cap F T VV) (i : Nat) (hi : i < k) : w.cell? ⟨g, i * 4 + 3, none⟩ = some (VV (2 * i + 1)) := blkC_cell h i 3 hi (by omega)
theorem blkC_store {w : World} {g k cap : Nat} {F T : Nat → Int} {VV : Nat → Value} {F' T' : Nat → Int} {VV' : Nat → Value} (h : BlkRowC w g k cap F T VV) (j : Nat) (u : Value) (e : (bCells F T VV k).set j u = bCells F' T' VV' k) : BlkRowC (w.setCell ⟨g, j, none⟩ u) g k cap F' T' VV' ∧ w.grownBy (w.setCell ⟨g, j, none⟩ u) (some g) := by
  have := h.stored j u
  rw [e] at this
  exact this
/-- A list's slot is written anew: first its row, then the block's own cell. -/
theorem slotC_put {w W W1 W' : World} {g k cap : Nat} {F T : Nat → Int} {VV : Nat → Value} {LL : Nat → List Int} (hg : g < w.heap.size) (hwW : w.grownBy W (some g)) (hrow : BlkRowC W g k cap F T VV) (hsl : Slots W w.heap.size (2 * k) VV LL)
    (h1 : Below W.heap.size W W1) {s : Nat} (hs : s < 2 * k) (h2 : W1.grownBy W' (VV s).ownBlock) {v : Value} {l : List Int} (hown : OwnI W' w.heap.size v l) (hloc : v.ownBlock = (VV s).ownBlock ∨ ∃ q, v.ownBlock = some q ∧ W1.heap.size ≤ q) :
    BlkRowC W' g k cap F T VV ∧ w.grownBy W' (some g) ∧ ∀ j, (bCells F T VV k).set j v = bCells F T (upd VV s v) k → BlkRowC (W'.setCell ⟨g, j, none⟩ v) g k cap F T (upd VV s v) ∧ Slots (W'.setCell ⟨g, j, none⟩ v) w.heap.size (2 * k) (upd VV s v) (upd LL s l) ∧ w.grownBy (W'.setCell ⟨g, j, none⟩ v) (some g) := by
  have hz : w.heap.size ≤ W.heap.size := hwW.size
  have hs1 : Slots W1 w.heap.size (2 * k) VV LL := hsl.below h1
  have hge : ∀ q, (VV s).ownBlock = some q → w.heap.size ≤ q := fun q e => ((hs1.own s hs).lt q e).1
  have hne : (VV s).ownBlock ≠ some g := fun e => by have := hge g e; omega
  have hr1 : BlkRowC W1 g k cap F T VV := ownsRow_below hrow h1
  have hr2 : BlkRowC W' g k cap F T VV := World.ownsRow.kept hr1 h2 (Or.inr (by show some g ≠ _; exact fun e => hne e.symm))
  have hw1 : w.grownBy W1 (some g) := gb_trans hwW (gb_below _ h1)
  have hw2 : w.grownBy W' (some g) := hw1.andThen h2 (fun q e => Or.inl (hge q e))
  have hs2 := hs1.upd hs h2 hown hloc
  refine ⟨hr2, hw2, fun j e => ?_⟩
  obtain ⟨a, b⟩ := blkC_store hr2 j v e
  exact ⟨a, hs2.kept b (fun q e => by cases e; exact hg), gb_trans hw2 b⟩
/-- How far the document's two loops have come. -/
def farJ (K i m j : Nat) : Nat := if j < i then K else if j = i then m else 0
def RefTo (f : Fn) (S : List Nat) (T : Nat → Nat) (i m m' : Nat) (LL : Nat → List Int) : Prop := ∀ j, j < S.length → LL (2 * j) = rNx f S T (farJ S.length i m j) j ∧ LL (2 * j + 1) = rPv f S T (farJ S.length i m' j) j
theorem RefTo.start (f : Fn) (S : List Nat) (T : Nat → Nat) : RefTo f S T 0 0 0 (fun _ => []) := fun j _ => by
  have e : farJ S.length 0 0 j = 0 := by unfold farJ; rw [if_neg (by omega)]; split <;> rfl
  rw [e]; exact ⟨rfl, rfl⟩
theorem farJ_end (K i j : Nat) : farJ K i K j = farJ K (i + 1) 0 j := by
  unfold farJ
  by_cases h1 : j < i
  · rw [if_pos h1, if_pos (by omega)]
  · rw [if_neg h1]
    by_cases h2 : j = i
    · rw [if_pos h2, if_pos (by omega)]
    · rw [if_neg h2, if_neg (by omega)]; split <;> rfl
theorem RefTo.done {f : Fn} {S : List Nat} {T : Nat → Nat} {i : Nat} {LL : Nat → List Int} (h : RefTo f S T i S.length S.length LL) : RefTo f S T (i + 1) 0 0 LL := fun j hj => by
  have := h j hj
  rw [farJ_end] at this
  exact this
theorem farJ_all {K j : Nat} (h : j < K) (m : Nat) : farJ K K m j = K := if_pos h
theorem farJ_at (K i m : Nat) : farJ K i m i = m := by unfold farJ; rw [if_neg (by omega), if_pos rfl]
theorem farJ_ne (K i m m' : Nat) {j : Nat} (h : j ≠ i) : farJ K i m j = farJ K i m' j := by unfold farJ; rw [if_neg h, if_neg h]
theorem RefTo.nextNo {f : Fn} {S : List Nat} {T : Nat → Nat} {i m m' : Nat} {LL : Nat → List Int} (h : RefTo f S T i m m' LL) (hl : lkB f S T i m = false) : RefTo f S T i (m + 1) m' LL := fun j hj => by
  obtain ⟨h1, h2⟩ := h j hj
  refine ⟨?_, h2⟩
  by_cases e : j = i
  · subst e
    rw [farJ_at] at h1 ⊢
    rw [h1]; unfold rNx; rw [filt_succ, hl]; simp
  · rw [h1, farJ_ne S.length i m (m + 1) e]
theorem RefTo.nextYes {f : Fn} {S : List Nat} {T : Nat → Nat} {i m m' : Nat} {LL : Nat → List Int} (h : RefTo f S T i m m' LL) (hi : i < S.length) (hl : lkB f S T i m = true) : RefTo f S T i (m + 1) m' (upd LL (2 * i) (LL (2 * i) ++ [((m : Nat) : Int)])) := fun j hj => by
  obtain ⟨h1, h2⟩ := h j hj
  refine ⟨?_, by rw [upd_other _ (by omega)]; exact h2⟩
  by_cases e : j = i
  · subst e
    rw [farJ_at] at h1
    rw [upd_same, farJ_at, h1]; unfold rNx; rw [filt_succ, hl]; simp
  · rw [upd_other _ (by omega), h1, farJ_ne S.length i m (m + 1) e]
theorem RefTo.prevNo {f : Fn} {S : List Nat} {T : Nat → Nat} {i m m' : Nat} {LL : Nat → List Int} (h : RefTo f S T i m m' LL) (hl : lkB f S T m' i = false) : RefTo f S T i m (m' + 1) LL := fun j hj => by
  obtain ⟨h1, h2⟩ := h j hj
  refine ⟨h1, ?_⟩
  by_cases e : j = i
  · subst e
    rw [farJ_at] at h2 ⊢
    rw [h2]; unfold rPv; rw [filt_succ, hl]; simp
  · rw [h2, farJ_ne S.length i m' (m' + 1) e]
theorem RefTo.prevYes {f : Fn} {S : List Nat} {T : Nat → Nat} {i m m' : Nat} {LL : Nat → List Int} (h : RefTo f S T i m m' LL) (hi : i < S.length) (hl : lkB f S T m' i = true) : RefTo f S T i m (m' + 1) (upd LL (2 * i + 1) (LL (2 * i + 1) ++ [((m' : Nat) : Int)])) := fun j hj => by
  obtain ⟨h1, h2⟩ := h j hj
  refine ⟨by rw [upd_other _ (by omega)]; exact h1, ?_⟩
  by_cases e : j = i
  · subst e
    rw [farJ_at] at h2
    rw [upd_same, farJ_at, h2]; unfold rPv; rw [filt_succ, hl]; simp
  · rw [upd_other _ (by omega), h2, farJ_ne S.length i m' (m' + 1) e]
theorem RefTo.len {f : Fn} {S : List Nat} {T : Nat → Nat} {i m m' : Nat} {LL : Nat → List Int} (h : RefTo f S T i m m' LL) (hi : i < S.length) (hm : m ≤ S.length) (hm' : m' ≤ S.length) : (LL (2 * i)).length ≤ S.length ∧ (LL (2 * i + 1)).length ≤ S.length := by
  obtain ⟨h1, h2⟩ := h i hi
  rw [h1, h2, farJ_at, farJ_at]
  exact ⟨Nat.le_trans (filt_len _ _) hm, Nat.le_trans (filt_len _ _) hm'⟩
theorem RefTo.all {f : Fn} {S : List Nat} {T : Nat → Nat} {LL : Nat → List Int} (h : RefTo f S T S.length 0 0 LL) {j : Nat} (hj : j < S.length) : LL (2 * j) = rNx f S T S.length j ∧ LL (2 * j + 1) = rPv f S T S.length j := by
  have := h j hj
  rw [farJ_all hj] at this
  exact this
end Go.Proofs.YteilohamjijpbaaDoor
