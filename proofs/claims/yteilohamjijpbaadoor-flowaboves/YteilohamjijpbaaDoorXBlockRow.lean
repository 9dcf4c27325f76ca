/- Rows of blocks in memory, and the lists that belong to them. -/
import Derived.Test.YteilohamjijpbaaDoorXFlowBegun
namespace Go.Proofs.YteilohamjijpbaaDoor
open Go Go.RowKit

theorem infoBlk : (Tryd.prog.info? 68).map (fun i => (i.zero, i.size, i.bytes)) = some (some (.agg #[.int .i64 0, .int .i64 0, .slice none 0 0, .slice none 0 0]), 4, 64) := by kernel_rfl
def upd {α : Type} (g : Nat → α) (i : Nat) (v : α) : Nat → α := fun j => if j = i then v else g j
theorem upd_same {α : Type} (g : Nat → α) (i : Nat) (v : α) : upd g i v i = v := if_pos rfl
theorem upd_other {α : Type} (g : Nat → α) {i j : Nat} (h : j ≠ i) (v : α) : upd g i v j = g j := if_neg h
/-- The cells of so many blocks: where each begins and ends, and its two lists (the slots 2 i and 2 i + 1). -/
def bCells (F T : Nat → Int) (VV : Nat → Value) : Nat → List Value
  | 0 => []
  | k + 1 => bCells F T VV k ++ [.int .i64 (F k), .int .i64 (T k), VV (2 * k), VV (2 * k + 1)]
theorem bCells_len (F T : Nat → Int) (VV : Nat → Value) : ∀ k, (bCells F T VV k).length = k * 4
  | 0 => rfl
  | k + 1 => by rw [bCells, List.length_append, bCells_len F T VV k]; simp; omega
theorem bCells_get (F T : Nat → Int) (VV : Nat → Value) : ∀ (k i c : Nat), i < k → c < 4 → (bCells F T VV k)[i * 4 + c]? = [Value.int .i64 (F i), .int .i64 (T i), VV (2 * i), VV (2 * i + 1)][c]?
  | 0, i, c, h, _ => by omega
  | k + 1, i, c, h, hc => by
    rw [bCells]
    by_cases he : i = k
    · subst he
      rw [List.getElem?_append_right (by rw [bCells_len]; omega), bCells_len]
      congr 1
      omega
    · rw [List.getElem?_append_left (by rw [bCells_len]; omega)]
      exact bCells_get F T VV k i c (by omega) hc
theorem bCells_same {F F' T T' : Nat → Int} {VV VV' : Nat → Value} : ∀ k, (∀ i, i < k → F i = F' i ∧ T i = T' i ∧ VV (2 * i) = VV' (2 * i) ∧ VV (2 * i + 1) = VV' (2 * i + 1)) → bCells F T VV k = bCells F' T' VV' k
  | 0, _ => rfl
  | k + 1, h => by
    obtain ⟨a, b, c, d⟩ := h k (by omega)
    rw [bCells, bCells, bCells_same k (fun i hi => h i (by omega)), a, b, c, d]
theorem bCells_ext {l : List Value} {F T : Nat → Int} {VV : Nat → Value} {k : Nat} (hl : l.length = k * 4) (h : ∀ i c, i < k → c < 4 → l[i * 4 + c]? = [Value.int .i64 (F i), .int .i64 (T i), VV (2 * i), VV (2 * i + 1)][c]?) : l = bCells F T VV k := by
  apply List.ext_getElem?
  intro j
  by_cases hj : j < k * 4
  · have e : j = j / 4 * 4 + j % 4 := by omega
    rw [e, h (j / 4) (j % 4) (by omega) (by omega), bCells_get F T VV k (j / 4) (j % 4) (by omega) (by omega)]
  · rw [List.getElem?_eq_none (by omega), List.getElem?_eq_none (by rw [bCells_len]; omega)]
theorem bCells_set (F T : Nat → Int) (VV : Nat → Value) (k i c : Nat) (hi : i < k) (hc : c < 4) (u : Value) {F' T' : Nat → Int} {VV' : Nat → Value}
    (h1 : [Value.int .i64 (F' i), .int .i64 (T' i), VV' (2 * i), VV' (2 * i + 1)] = [Value.int .i64 (F i), .int .i64 (T i), VV (2 * i), VV (2 * i + 1)].set c u)
    (h2 : ∀ j, j < k → j ≠ i → F' j = F j ∧ T' j = T j ∧ VV' (2 * j) = VV (2 * j) ∧ VV' (2 * j + 1) = VV (2 * j + 1)) : (bCells F T VV k).set (i * 4 + c) u = bCells F' T' VV' k := by
  refine bCells_ext (by rw [List.length_set, bCells_len]) fun j d hj hd => ?_
  rw [List.getElem?_set]
  by_cases he : i * 4 + c = j * 4 + d
  · obtain rfl : i = j := by omega
    obtain rfl : c = d := by omega
    rw [if_pos rfl, if_pos (by rw [bCells_len]; omega), h1]
    rw [List.getElem?_set, if_pos rfl, if_pos (by simpa using hc)]
  · rw [if_neg he, bCells_get F T VV k j d hj hd]
    by_cases hij : j = i
    · subst hij
      rw [h1, List.getElem?_set, if_neg (by omega)]
    · obtain ⟨a1, a2, a3, a4⟩ := h2 j hj hij
      rw [a1, a2, a3, a4]
theorem bCells_from (F T : Nat → Int) (VV : Nat → Value) (k i : Nat) (hi : i < k) (z : Int) : (bCells F T VV k).set (i * 4) (.int .i64 z) = bCells (upd F i z) T VV k :=
  bCells_set F T VV k i 0 hi (by omega) _ (by rw [upd_same]; rfl) (fun j _ hne => ⟨upd_other F hne z, rfl, rfl, rfl⟩)
theorem bCells_to (F T : Nat → Int) (VV : Nat → Value) (k i : Nat) (hi : i < k) (z : Int) : (bCells F T VV k).set (i * 4 + 1) (.int .i64 z) = bCells F (upd T i z) VV k :=
  bCells_set F T VV k i 1 hi (by omega) _ (by rw [upd_same]; rfl) (fun j _ hne => ⟨rfl, upd_other T hne z, rfl, rfl⟩)
theorem bCells_next (F T : Nat → Int) (VV : Nat → Value) (k i : Nat) (hi : i < k) (v : Value) : (bCells F T VV k).set (i * 4 + 2) v = bCells F T (upd VV (2 * i) v) k :=
  bCells_set F T VV k i 2 hi (by omega) _ (by rw [upd_same, upd_other VV (by omega)]; rfl) (fun j _ hne => ⟨rfl, rfl, upd_other VV (by omega) v, upd_other VV (by omega) v⟩)
theorem bCells_prev (F T : Nat → Int) (VV : Nat → Value) (k i : Nat) (hi : i < k) (v : Value) : (bCells F T VV k).set (i * 4 + 3) v = bCells F T (upd VV (2 * i + 1) v) k :=
  bCells_set F T VV k i 3 hi (by omega) _ (by rw [upd_same, upd_other VV (by omega)]; rfl) (fun j _ hne => ⟨rfl, rfl, upd_other VV (by omega) v, upd_other VV (by omega) v⟩)

/-- The blocks' row lies in memory. -/
abbrev BlkRow (w : World) (g k : Nat) (F T : Nat → Int) (VV : Nat → Value) : Prop := w.ownsRow 0 68 4 (.slice (some ⟨g, 0, none⟩) k k) k (bCells F T VV k)
theorem blk_cell {w : World} {g k : Nat} {F T : Nat → Int} {VV : Nat → Value} (h : BlkRow w g k F T VV) (i c : Nat) (hi : i < k) (hc : c < 4) : w.cell? ⟨g, i * 4 + c, none⟩ = [Value.int .i64 (F i), .int .i64 (T i), VV (2 * i), VV (2 * i + 1)][c]? := by
  rw [h.cellAt (i * 4 + c) (by omega)]
  exact bCells_get F T VV k i c hi hc
theorem blk_from {w : World} {g k : Nat} {F T : Nat → Int} {VV : Nat → Value} (h : BlkRow w g k F T VV) (i : Nat) (hi : i < k) : w.cell? ⟨g, i * 4, none⟩ = some (.int .i64 (F i)) := blk_cell h i 0 hi (by omega)
theorem blk_to {w : World} {g k : Nat} {F T : Nat → Int} {VV : Nat → Value} (h : BlkRow w g k F T VV) (i : Nat) (hi : i < k) : w.cell? ⟨g, i * 4 + 1, none⟩ = some (.int .i64 (T i)) := blk_cell h i 1 hi (by omega)
theorem blk_next {w : World} {g k : Nat} {F T : Nat → Int} {VV : Nat → Value} (h : BlkRow w g k F T VV) (i : Nat) (hi : i < k) : w.cell? ⟨g, i * 4 + 2, none⟩ = some (VV (2 * i)) := blk_cell h i 2 hi (by omega)
theorem blk_prev {w : World} {g k : Nat} {F T : Nat → Int} {VV : Nat → Value} (h : BlkRow w g k F T VV) (i : Nat) (hi : i < k) : w.cell? ⟨g, i * 4 + 3, none⟩ = some (VV (2 * i + 1)) := blk_cell h i 3 hi (by omega)
theorem blk_store {w : World} {g k : Nat} {F T : Nat → Int} {VV : Nat → Value} {F' T' : Nat → Int} {VV' : Nat → Value} (h : BlkRow w g k F T VV) (j : Nat) (u : Value) (e : (bCells F T VV k).set j u = bCells F' T' VV' k) : BlkRow (w.setCell ⟨g, j, none⟩ u) g k F' T' VV' ∧ w.grownBy (w.setCell ⟨g, j, none⟩ u) (some g) := by
  have := h.stored j u
  rw [e] at this
  exact this
theorem made_blks (k : Nat) : (madeCells (Value.agg #[.int .i64 0, .int .i64 0, .slice none 0 0, .slice none 0 0]).cells (k * 4)).toList = bCells (fun _ => 0) (fun _ => 0) (fun _ => .slice none 0 0) k := by
  refine bCells_ext (by simp [madeCells]) fun i c hi hc => ?_
  simp only [madeCells, Value.cells]
  have h1 : i * 4 + c < k * 4 := by omega
  have h2 : (i * 4 + c) % 4 = c := by omega
  simp [h1, h2]
  rcases (show c = 0 ∨ c = 1 ∨ c = 2 ∨ c = 3 by omega) with rfl | rfl | rfl | rfl <;> rfl

/-- A list of numbers that the call has built. -/
abbrev OwnI (w : World) (base : Nat) (v : Value) (l : List Int) : Prop := w.ownsRow base 3 1 v l.length (i64s l)
/-- So many lists, each in a row of its own. -/
structure Slots (w : World) (base m : Nat) (VV : Nat → Value) (LL : Nat → List Int) : Prop where
  own : ∀ s, s < m → OwnI w base (VV s) (LL s)
  apart : ∀ s t, s < m → t < m → s ≠ t → ∀ g, (VV s).ownBlock = some g → (VV t).ownBlock ≠ some g
theorem Slots.nils (w : World) (base m : Nat) : Slots w base m (fun _ => .slice none 0 0) (fun _ => []) :=
  ⟨fun _ _ => ⟨rfl, Or.inl ⟨rfl, rfl⟩⟩, fun _ _ _ _ _ g h => by cases h⟩
theorem Slots.kept {w w' : World} {base m : Nat} {VV : Nat → Value} {LL : Nat → List Int} (h : Slots w base m VV LL) {row : Option Nat} (hg : w.grownBy w' row) (hr : ∀ g, row = some g → g < base) : Slots w' base m VV LL :=
  ⟨fun s hs => (h.own s hs).kept hg (by
    cases hv : (VV s).ownBlock with
    | none => exact Or.inl rfl
    | some g =>
      refine Or.inr fun e => ?_
      have := ((h.own s hs).lt g hv).1
      have := hr g e.symm
      omega), h.apart⟩
theorem Slots.below {w w' : World} {base m : Nat} {VV : Nat → Value} {LL : Nat → List Int} (h : Slots w base m VV LL) (hb : Below w.heap.size w w') : Slots w' base m VV LL := h.kept (gb_below none hb) (fun g e => by cases e)
theorem Slots.upd {w w' : World} {base m : Nat} {VV : Nat → Value} {LL : Nat → List Int} (h : Slots w base m VV LL) {s : Nat} (hs : s < m) (hg : w.grownBy w' (VV s).ownBlock) {v : Value} {l : List Int} (hown : OwnI w' base v l)
    (hloc : v.ownBlock = (VV s).ownBlock ∨ ∃ g, v.ownBlock = some g ∧ w.heap.size ≤ g) : Slots w' base m (Go.Proofs.YteilohamjijpbaaDoor.upd VV s v) (Go.Proofs.YteilohamjijpbaaDoor.upd LL s l) := by
  have hot : ∀ t, t < m → t ≠ s → ∀ g, (VV t).ownBlock = some g → v.ownBlock ≠ some g := by
    intro t ht hne g hv e
    rcases hloc with h1 | ⟨g', h1, h2⟩
    · exact h.apart t s ht hs hne g hv (by rw [← h1]; exact e)
    · have := ((h.own t ht).lt g hv).2
      rw [h1] at e
      have := Option.some.inj e
      omega
  refine ⟨fun t ht => ?_, fun t u ht hu hne g hv => ?_⟩
  · by_cases he : t = s
    · subst he; rw [upd_same, upd_same]; exact hown
    · rw [upd_other VV he, upd_other LL he]
      exact (h.own t ht).kept hg (by
        cases hv : (VV t).ownBlock with
        | none => exact Or.inl rfl
        | some g => exact Or.inr fun e => h.apart t s ht hs he g hv e.symm)
  · by_cases he : t = s
    · subst he
      rw [upd_same] at hv
      rw [upd_other VV (Ne.symm hne)]
      exact fun e => hot u hu (Ne.symm hne) g e hv
    · rw [upd_other VV he] at hv
      by_cases he2 : u = s
      · subst he2; rw [upd_same]; exact hot t ht he g hv
      · rw [upd_other VV he2]; exact h.apart t u ht hu hne g hv
end Go.Proofs.YteilohamjijpbaaDoor
