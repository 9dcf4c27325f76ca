import Derived.Test.YtldbmdgpdolaaaaGreatDoorPGroupA
import Derived.Test.YtldbmdgpdolaaaaGreatDoorPGroupB
import Derived.Test.YtldbmdgpdolaaaaGreatDoorPGroupC
namespace Go.Proofs.YtldbmdgpdolaaaaGreatDoor
open Go Go.RowKit

theorem made_ints0 (c : Nat) : (madeCells (Value.int .i64 0).cells (c * 1)).toList = i64s (List.replicate c 0) := by
  simp [madeCells, i64s, Value.cells]
  apply List.ext_getElem
  · simp
  · intro i h1 h2
    have : i % 1 = 0 := Nat.mod_one i
    simp [this]
theorem wrap_signed (n : Int) (h0 : -9223372036854775808 ≤ n) (h1 : n ≤ 9223372036854775807) : IntKind.i64.wrap n = n := by
  by_cases h : 0 ≤ n
  · have e : n % 2 ^ 64 = n := Int.emod_eq_of_lt h (by simp; omega)
    have w1 : IntKind.i64.wrap n = if (true && decide (n ≥ 2 ^ 63)) = true then n - (2 ^ 64 : Int) else n := by
      simp only [IntKind.wrap, IntKind.bits, IntKind.signed, e]
    rw [w1, if_neg (by simp; omega)]
  · have e : n % 2 ^ 64 = n + 2 ^ 64 := by
      rw [← Int.add_emod_right]
      exact Int.emod_eq_of_lt (by simp; omega) (by simp; omega)
    have w1 : IntKind.i64.wrap n = if (true && decide (n + 2 ^ 64 ≥ 2 ^ 63)) = true then n + 2 ^ 64 - (2 ^ 64 : Int) else n + 2 ^ 64 := by
      simp only [IntKind.wrap, IntKind.bits, IntKind.signed, e]
    rw [w1, if_pos (by simp; omega)]
    omega
def upd {α : Type} (g : Nat → α) (i : Nat) (v : α) : Nat → α := fun j => if j = i then v else g j
theorem upd_same {α : Type} (g : Nat → α) (i : Nat) (v : α) : upd g i v i = v := if_pos rfl
theorem upd_other {α : Type} (g : Nat → α) {i j : Nat} (h : j ≠ i) (v : α) : upd g i v j = g j := if_neg h
abbrev OwnI (w : World) (base : Nat) (v : Value) (l : List Int) : Prop := w.ownsRow base 3 1 v l.length (i64s l)
structure Slots (w : World) (base m : Nat) (VV : Nat → Value) (LL : Nat → List Int) : Prop where
  own : ∀ s, s < m → OwnI w base (VV s) (LL s)
  apart : ∀ s t, s < m → t < m → s ≠ t → ∀ g, (VV s).ownBlock = some g → (VV t).ownBlock ≠ some g
theorem Slots.nils (w : World) (base m : Nat) : Slots w base m (fun _ => .slice none 0 0) (fun _ => []) :=
  ⟨fun _ _ => ⟨rfl, Or.inl ⟨rfl, rfl⟩⟩, fun _ _ _ _ _ g h => by cases h⟩
theorem Slots.kept {w w' : World} {base m : Nat} {VV : Nat → Value} {LL : Nat → List Int} (h : Slots w base m VV LL) {row : Option Nat} (hg : w.grownBy w' row) (hr : ∀ g, row = some g → g < base) : Slots w' base m VV LL :=
  ⟨fun s hs => (h.own s hs).kept hg (by
    cases hv : (VV s).ownBlock with
    | none => exact Or.inl rfl
    | some g =>
      refine Or.inr fun e => ?_
      have := ((h.own s hs).lt g hv).1
      have := hr g e.symm
      omega), h.apart⟩
theorem Slots.below {w w' : World} {base m : Nat} {VV : Nat → Value} {LL : Nat → List Int} (h : Slots w base m VV LL) (hb : Below w.heap.size w w') : Slots w' base m VV LL := h.kept (gb_below none hb) (fun g e => by cases e)
theorem Slots.upd {w w' : World} {base m : Nat} {VV : Nat → Value} {LL : Nat → List Int} (h : Slots w base m VV LL) {s : Nat} (hs : s < m) (hg : w.grownBy w' (VV s).ownBlock) {v : Value} {l : List Int} (hown : OwnI w' base v l)
    (hloc : v.ownBlock = (VV s).ownBlock ∨ ∃ g, v.ownBlock = some g ∧ w.heap.size ≤ g) : Slots w' base m (Go.Proofs.YtldbmdgpdolaaaaGreatDoor.upd VV s v) (Go.Proofs.YtldbmdgpdolaaaaGreatDoor.upd LL s l) := by
  have hot : ∀ t, t < m → t ≠ s → ∀ g, (VV t).ownBlock = some g → v.ownBlock ≠ some g := by
    intro t ht hne g hv e
    rcases hloc with h1 | ⟨g', h1, h2⟩
    · exact h.apart t s ht hs hne g hv (by rw [← h1]; exact e)
    · have := ((h.own t ht).lt g hv).2
      rw [h1] at e
      have := Option.some.inj e
      omega
  refine ⟨fun t ht => ?_, fun t u ht hu hne g hv => ?_⟩
  · by_cases he : t = s
    · subst he; rw [upd_same, upd_same]; exact hown
    · rw [upd_other VV he, upd_other LL he]
      exact (h.own t ht).kept hg (by
        cases hv : (VV t).ownBlock with
        | none => exact Or.inl rfl
        | some g => exact Or.inr fun e => h.apart t s ht hs he g hv e.symm)
  · by_cases he : t = s
    · subst he
      rw [upd_same] at hv
      rw [upd_other VV (Ne.symm hne)]
      exact fun e => hot u hu (Ne.symm hne) g e hv
    · rw [upd_other VV he] at hv
      by_cases he2 : u = s
      · subst he2; rw [upd_same]; exact hot t ht he g hv
      · rw [upd_other VV he2]; exact h.apart t u ht hu hne g hv
theorem own_newF {w : World} {base : Nat} (h : base ≤ w.heap.size) (l : List Int) (hl : l.length ≤ 1000) : OwnI (w.alloc (.cells (i64s l).toArray 3)) base (.slice (some ⟨w.heap.size, 0, none⟩) l.length l.length) l :=
  ⟨by simp [i64s], Or.inr ⟨w.heap.size, l.length, (i64s l).toArray, rfl, h, heap_alloc_last w _, Nat.le_refl _, by unfold maxLen; omega, by simp [i64s], List.take_of_length_le (by simp [i64s])⟩⟩
theorem own_snoc {w : World} {base n : Nat} {v : Value} {l : List Int} {z : Int} (hl : l.length = n) (h : w.ownsRow base 3 1 v (n + 1) (i64s l ++ i64s [z])) : OwnI w base v (l ++ [z]) := by
  rw [← i64s_append] at h
  have e : (l ++ [z]).length = n + 1 := by simp [hl]
  show World.ownsRow _ _ _ _ _ (l ++ [z]).length _
  rw [e]
  exact h
theorem lies_loc {v : Value} {g c n H : Nat} (h : v.ownBlock = some g ∨ g = H) : (Value.slice (some ⟨g, 0, none⟩) n c).ownBlock = v.ownBlock ∨ ∃ q, (Value.slice (some ⟨g, 0, none⟩) n c).ownBlock = some q ∧ H ≤ q := by
  rcases h with h | h
  · exact Or.inl h.symm
  · exact Or.inr ⟨g, rfl, by omega⟩
end Go.Proofs.YtldbmdgpdolaaaaGreatDoor
