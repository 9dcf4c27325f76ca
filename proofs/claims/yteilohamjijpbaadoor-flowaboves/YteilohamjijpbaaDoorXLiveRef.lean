/- The document's way to what is live, register by register: plain mathematics. -/
import Derived.Test.YteilohamjijpbaaDoorXLiveMath
namespace Go.Proofs.YteilohamjijpbaaDoor
open Go Go.RowKit

/-- Marks at reached places alone from which a register is wanted. -/
structure LRow (P : List Fn) (f : Fn) (r : Nat) (s : List Bool) : Prop where
  len : s.length = f.code.length
  sound : ∀ q, s.getD q false = true → Way f 63 q ∧ LiveW P f r q
/-- Is a place to be marked, by what is marked? -/
def lrIs (P : List Fn) (f : Fn) (r : Nat) (s : List Bool) (q : Nat) : Bool := (rdMask P (insD f q)).testBit r || (!(setMask (insD f q)).testBit r && (behind (insD f q) q).any fun t => s.getD t false)
/-- In the midst of a round. -/
structure LRMid (P : List Fn) (f : Fn) (r : Nat) (s0 : List Bool) (k : Nat) (ag : Bool) (s : List Bool) : Prop where
  row : LRow P f r s
  few : unseen s + (if ag = true then 1 else 0) ≤ unseen s0
  same : ag = false → s = s0 ∧ ∀ q, q < k → Way f 63 q → s.getD q false = false → lrIs P f r s q = false
/-- Between rounds. -/
def LRLoops (P : List Fn) (f : Fn) (r : Nat) (ag : Bool) (s : List Bool) : Prop := LRow P f r s ∧ (ag = false → ∀ q, q < f.code.length → Way f 63 q → s.getD q false = false → lrIs P f r s q = false)
section
variable {P : List Fn} {f : Fn} {r : Nat}
theorem lr_first : LRLoops P f r true (List.replicate f.code.length false) := by
  refine ⟨⟨by simp, fun q hq => ?_⟩, fun h => by cases h⟩
  simp [List.getD, List.getElem?_replicate] at hq
  split at hq <;> simp at hq
theorem LRMid.start {s : List Bool} (h : LRow P f r s) : LRMid P f r s 0 false s := ⟨h, by simp, fun _ => ⟨rfl, fun q hq => by omega⟩⟩
theorem LRMid.next {s0 s : List Bool} {k : Nat} {ag : Bool} (h : LRMid P f r s0 k ag s) (hn : Way f 63 k → s.getD k false = false → lrIs P f r s k = false) : LRMid P f r s0 (k + 1) ag s := by
  refine ⟨h.row, h.few, fun e => ⟨(h.same e).1, fun q hq hw hs => ?_⟩⟩
  rcases Nat.lt_or_ge q k with hlt | hge
  · exact (h.same e).2 q hlt hw hs
  · obtain rfl : q = k := by omega
    exact hn hw hs
theorem LRMid.yes {s0 s : List Bool} {k : Nat} {ag : Bool} (h : LRMid P f r s0 k ag s) (hk : k < f.code.length) (hw : Way f 63 k) (hs : s.getD k false = false) (hi : lrIs P f r s k = true) : LRMid P f r s0 (k + 1) true (s.set k true) := by
  have hl := h.row.len
  refine ⟨⟨by simp [hl], fun q hq => ?_⟩, ?_, fun e => by cases e⟩
  · rw [bget_set _ _ _ _ (by omega)] at hq
    by_cases e : q = k
    · subst e
      refine ⟨hw, ?_⟩
      unfold lrIs at hi
      rw [Bool.or_eq_true, Bool.and_eq_true, List.any_eq_true] at hi
      rcases hi with hi | ⟨h1, t, ht, h2⟩
      · exact LiveW.read hk hi
      · exact LiveW.on hk (by simpa using h1) ht (h.row.sound t h2).2
    · rw [if_neg e] at hq; exact h.row.sound q hq
  · have := unseen_set s k (by omega) hs
    have h2 := h.few
    rw [if_pos rfl]
    cases ag <;> simp at h2 <;> omega
theorem LRMid.ends {s0 s : List Bool} {ag : Bool} (h : LRMid P f r s0 f.code.length ag s) : LRLoops P f r ag s := ⟨h.row, fun e => (h.same e).2⟩
theorem LRLoops.done {s : List Bool} (h : LRLoops P f r false s) (ok : FlowOk P f) : ∀ q, q < f.code.length → (s.getD q false = true ↔ Way f 63 q ∧ LiveW P f r q) := by
  intro q hq
  refine ⟨fun h1 => h.1.sound q h1, fun ⟨hw, hl⟩ => ?_⟩
  induction hl with
  | @read pc hp hr =>
    cases hs : s.getD pc false with
    | true => rfl
    | false =>
      have := h.2 rfl pc hp hw hs
      unfold lrIs at this
      rw [hr] at this; cases this
  | @on pc t hp hs ht hl ih =>
    have h1 := ok.on hp hw ht
    have h2 := ih h1.2 ⟨h1.1, hl⟩ h1.1
    cases hs2 : s.getD pc false with
    | true => rfl
    | false =>
      have := h.2 rfl pc hp hw hs2
      unfold lrIs at this
      rw [Bool.or_eq_false_iff, Bool.and_eq_false_iff] at this
      rcases this.2 with h3 | h3
      · rw [hs] at h3; cases h3
      · rw [List.any_eq_false] at h3
        exact absurd h2 (h3 t ht)
/-- Numbers of which so many bits are reckoned. -/
def OutL (P : List Fn) (f : Fn) (r q : Nat) (v : Int) : Prop := (¬ Way f 63 q ∧ v = -1) ∨ (Way f 63 q ∧ ∃ m : Nat, m < 2 ^ r ∧ v = m ∧ ∀ i, i < r → (m.testBit i = true ↔ LiveW P f i q))
theorem outL_yes {q : Nat} (h : Way f 63 q) : OutL P f 0 q 0 := Or.inr ⟨h, 0, by simp, rfl, fun i hi => by omega⟩
theorem outL_no {q : Nat} (h : ¬ Way f 63 q) : OutL P f 0 q (-1) := Or.inl ⟨h, rfl⟩
theorem outL_add {q : Nat} {v : Int} (h : OutL P f r q v) (hr : r < 12) (hw : Way f 63 q) (hn : LiveW P f r q) : OutL P f (r + 1) q (v + (2 ^ r : Nat)) ∧ 0 ≤ v ∧ v < 4096 := by
  rcases h with ⟨h, _⟩ | ⟨_, m, hm, rfl, hb⟩
  · exact absurd hw h
  · have hlt : m < 4096 := Nat.lt_of_lt_of_le hm (show 2 ^ r ≤ 2 ^ 12 from Nat.pow_le_pow_right (by decide) (by omega))
    have hz : m.testBit r = false := Nat.testBit_lt_two_pow hm
    have e := or_pow m r (by omega) hr hz
    refine ⟨Or.inr ⟨hw, m + 2 ^ r, ?_, by simp, fun i hi => ?_⟩, by omega, by omega⟩
    · rw [Nat.pow_succ]; omega
    · rw [← e, Nat.testBit_or, Nat.testBit_two_pow]
      by_cases hir : r = i
      · subst hir; simp [hz, hn]
      · simp [hir, hb i (by omega)]
theorem outL_same {q : Nat} {v : Int} (h : OutL P f r q v) (hn : Way f 63 q → ¬ LiveW P f r q) : OutL P f (r + 1) q v := by
  rcases h with h | ⟨hw, m, hm, rfl, hb⟩
  · exact Or.inl h
  · refine Or.inr ⟨hw, m, by rw [Nat.pow_succ]; omega, rfl, fun i hi => ?_⟩
    rcases Nat.lt_or_ge i r with hlt | hge
    · exact hb i hlt
    · obtain rfl : i = r := by omega
      rw [Nat.testBit_lt_two_pow hm]
      simp [hn hw]
/-- Of all places up to one a bit more. -/
def OutsL (P : List Fn) (f : Fn) (n r k : Nat) (O : List Int) : Prop := O.length = n ∧ ∀ q, q < n → OutL P f (if q < k then r + 1 else r) q (O.getD q 0)
theorem outsL_snoc {k : Nat} {O : List Int} {v : Int} (h : O.length = k ∧ ∀ q, q < k → OutL P f 0 q (O.getD q 0)) (hv : OutL P f 0 k v) : (O ++ [v]).length = k + 1 ∧ ∀ q, q < k + 1 → OutL P f 0 q ((O ++ [v]).getD q 0) := by
  refine ⟨by simp [h.1], fun q hq => ?_⟩
  rcases Nat.lt_or_ge q k with hlt | hge
  · have e : (O ++ [v]).getD q 0 = O.getD q 0 := by simp [List.getD, List.getElem?_append_left (show q < O.length by omega)]
    rw [e]; exact h.2 q hlt
  · obtain rfl : q = k := by omega
    have e : (O ++ [v]).getD q 0 = v := by simp [List.getD, ← h.1]
    rw [e]; exact hv
theorem outsL_set {n k : Nat} {O : List Int} {v : Int} (h : OutsL P f n r k O) (hk : k < n) (hv : OutL P f (r + 1) k v) : OutsL P f n r (k + 1) (O.set k v) := by
  refine ⟨by simp [h.1], fun q hq => ?_⟩
  have e : (O.set k v).getD q 0 = if q = k then v else O.getD q 0 := by
    rw [List.getD_eq_getElem?_getD, List.getElem?_set, List.getD_eq_getElem?_getD]
    by_cases h' : k = q
    · subst h'; simp [h.1, hk]
    · simp [h', Ne.symm h']
  rw [e]
  by_cases hqk : q = k
  · subst hqk; rw [if_pos rfl, if_pos (by omega)]; exact hv
  · rw [if_neg hqk]
    have := h.2 q hq
    by_cases hlt : q < k
    · rw [if_pos (by omega)]; rw [if_pos hlt] at this; exact this
    · rw [if_neg (by omega)]; rw [if_neg hlt] at this; exact this
theorem outsL_same {n k : Nat} {O : List Int} (h : OutsL P f n r k O) (hk : k < n) (hn : Way f 63 k → ¬ LiveW P f r k) : OutsL P f n r (k + 1) O := by
  refine ⟨h.1, fun q hq => ?_⟩
  have := h.2 q hq
  by_cases hqk : q = k
  · subst hqk; rw [if_pos (by omega)]; rw [if_neg (by omega)] at this; exact outL_same this hn
  · by_cases hlt : q < k
    · rw [if_pos (by omega)]; rw [if_pos hlt] at this; exact this
    · rw [if_neg (by omega)]; rw [if_neg hlt] at this; exact this
theorem outsL_next {n : Nat} {O : List Int} (h : OutsL P f n r n O) : OutsL P f n (r + 1) 0 O :=
  ⟨h.1, fun q hq => by have := h.2 q hq; rw [if_pos hq] at this; rw [if_neg (by omega)]; exact this⟩
theorem outsL_spec {O : List Int} (h : OutsL P f f.code.length 12 0 O) : LiveSpec P f O :=
  ⟨h.1, fun q hq => by
    have := h.2 q hq
    rw [if_neg (by omega)] at this
    rcases this with h | ⟨hw, m, hm, e, hb⟩
    · exact Or.inl h
    · exact Or.inr ⟨hw, m, hm, e, hb⟩⟩
theorem spec_unique {L L' : List Int} (h : LiveSpec P f L) (h' : LiveSpec P f L') : L = L' := by
  refine List.ext_getElem (h.1.trans h'.1.symm) fun q h1 h2 => ?_
  have hq : q < f.code.length := by rw [← h.1]; exact h1
  have e1 : L.getD q 0 = L[q] := by simp [List.getD, h1]
  have e2 : L'.getD q 0 = L'[q] := by simp [List.getD, h2]
  rw [← e1, ← e2]
  rcases h.2 q hq with ⟨a, e3⟩ | ⟨a, m, hm, e3, hb⟩ <;> rcases h'.2 q hq with ⟨a', e4⟩ | ⟨a', m', hm', e4, hb'⟩
  · rw [e3, e4]
  · exact absurd a' a
  · exact absurd a a'
  · rw [e3, e4]
    congr 1
    apply Nat.eq_of_testBit_eq
    intro r
    rcases Nat.lt_or_ge r 12 with hr | hr
    · rw [Bool.eq_iff_iff, hb r hr, hb' r hr]
    · rw [Nat.testBit_lt_two_pow (Nat.lt_of_lt_of_le hm (Nat.pow_le_pow_right (n := 2) (by decide) hr)), Nat.testBit_lt_two_pow (Nat.lt_of_lt_of_le hm' (Nat.pow_le_pow_right (n := 2) (by decide) hr))]
end
end Go.Proofs.YteilohamjijpbaaDoor
