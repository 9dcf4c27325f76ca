/- Blocks of a function: plain mathematics. -/
import Derived.Test.YteilohamjijpbaaDoorXLiveMath
namespace Go.Proofs.YteilohamjijpbaaDoor
open Go Go.RowKit

/-- A block begins at a place. -/
def Beg (f : Fn) (q : Nat) : Prop := q = 0 ∨ ∃ pc, pc < f.code.length ∧ Way f 63 pc ∧ 15 ≤ (insD f pc).op ∧ q ∈ behind (insD f pc) pc
/-- The places where blocks begin, rising. -/
structure Starts (f : Fn) (S : List Nat) : Prop where
  rises : S.Pairwise (· < ·)
  iff : ∀ q, q ∈ S ↔ Beg f q
/-- How many of these are ahead of a place. -/
def rank (S : List Nat) (q : Nat) : Nat := (S.filter fun x => decide (x < q)).length
theorem rank_zero (S : List Nat) : rank S 0 = 0 := by unfold rank; simp
theorem rank_cons (a : Nat) (S : List Nat) (q : Nat) : rank (a :: S) q = (if a < q then 1 else 0) + rank S q := by
  unfold rank
  by_cases h : a < q
  · rw [List.filter_cons, if_pos (by simpa using h), if_pos h, List.length_cons]; omega
  · rw [List.filter_cons, if_neg (by simpa using h), if_neg h]; omega
theorem rank_low {S : List Nat} {q : Nat} (h : ∀ x ∈ S, q ≤ x) : rank S q = 0 := by
  unfold rank
  rw [List.length_eq_zero_iff, List.filter_eq_nil_iff]
  intro x hx
  have := h x hx
  simp; omega
theorem rank_at {S : List Nat} (h : S.Pairwise (· < ·)) : ∀ (i : Nat) (hi : i < S.length), rank S S[i] = i := by
  induction S with
  | nil => intro i hi; simp at hi
  | cons a S ih =>
    intro i hi
    obtain ⟨h1, h2⟩ := List.pairwise_cons.1 h
    cases i with
    | zero =>
      rw [List.getElem_cons_zero, rank_cons, if_neg (by omega), rank_low (fun x hx => Nat.le_of_lt (h1 x hx))]
    | succ i =>
      have hi' : i < S.length := by simpa using hi
      rw [List.getElem_cons_succ, rank_cons, if_pos (h1 _ (List.getElem_mem hi')), ih h2 i hi']
      omega
theorem rank_next {S : List Nat} (h : S.Pairwise (· < ·)) (q : Nat) : rank S (q + 1) = rank S q + (if q ∈ S then 1 else 0) := by
  induction S with
  | nil => rfl
  | cons a S ih =>
    obtain ⟨h1, h2⟩ := List.pairwise_cons.1 h
    rw [rank_cons, rank_cons, ih h2]
    by_cases ha : q = a
    · subst ha
      have hn : ¬ q ∈ S := fun hm => Nat.lt_irrefl _ (h1 q hm)
      rw [if_pos (by omega), if_neg hn, if_neg (by omega), if_pos (List.mem_cons_self)]
      omega
    · have e : q ∈ a :: S ↔ q ∈ S := by simp [ha]
      by_cases hm : q ∈ S
      · rw [if_pos hm, if_pos (e.2 hm)]
        by_cases hl : a < q
        · rw [if_pos (by omega), if_pos hl]; omega
        · exact absurd (h1 q hm) (by omega)
      · rw [if_neg hm, if_neg (fun hh => hm (e.1 hh))]
        by_cases hl : a < q
        · rw [if_pos (by omega), if_pos hl]; omega
        · rw [if_neg (by omega), if_neg hl]; omega
theorem rank_lt {S : List Nat} (h : S.Pairwise (· < ·)) {q : Nat} (hq : q ∈ S) : rank S q < S.length ∧ ∀ (hr : rank S q < S.length), S[rank S q] = q := by
  obtain ⟨i, hi, rfl⟩ := List.getElem_of_mem hq
  have e := rank_at h i hi
  constructor
  · omega
  · intro hr
    simp only [e]
theorem rank_le (S : List Nat) (q : Nat) : rank S q ≤ S.length := List.length_filter_le _ _
theorem rank_all {S : List Nat} {n : Nat} (h : ∀ x ∈ S, x < n) : rank S n = S.length := by
  unfold rank
  rw [List.filter_eq_self.2]
  intro x hx
  simpa using h x hx
theorem Starts.unique {f : Fn} {S S' : List Nat} (h : Starts f S) (h' : Starts f S') : S = S' := by
  have hm : ∀ q, q ∈ S ↔ q ∈ S' := fun q => (h.iff q).trans (h'.iff q).symm
  have hp := h.rises
  have hp' := h'.rises
  clear h h'
  induction S generalizing S' with
  | nil =>
    cases S' with
    | nil => rfl
    | cons a S' => exact absurd ((hm a).2 (by simp)) (by simp)
  | cons a S ih =>
    cases S' with
    | nil => exact absurd ((hm a).1 (by simp)) (by simp)
    | cons a' S' =>
      obtain ⟨h1, h2⟩ := List.pairwise_cons.1 hp
      obtain ⟨h1', h2'⟩ := List.pairwise_cons.1 hp'
      have e : a = a' := by
        rcases List.mem_cons.1 ((hm a).1 (by simp)) with e | e
        · exact e
        · rcases List.mem_cons.1 ((hm a').2 (by simp)) with e2 | e2
          · exact e2.symm
          · have := h1 a' e2; have := h1' a e; omega
      subst e
      rw [ih (fun q => ?_) h2 h2']
      constructor
      · intro hq
        rcases List.mem_cons.1 ((hm q).1 (by simp [hq])) with e | e
        · have := h1 q hq; omega
        · exact e
      · intro hq
        rcases List.mem_cons.1 ((hm q).2 (by simp [hq])) with e | e
        · have := h1' q hq; omega
        · exact e

theorem Starts.zero {f : Fn} {S : List Nat} (h : Starts f S) : 0 ∈ S := (h.iff 0).2 (Or.inl rfl)
theorem Starts.first {f : Fn} {S : List Nat} (h : Starts f S) : ∃ hl : 0 < S.length, S[0] = 0 := by
  have h0 := h.zero
  have hl : 0 < S.length := List.length_pos_of_mem h0
  refine ⟨hl, ?_⟩
  have hr : rank S 0 = 0 := rank_zero S
  have := (rank_lt h.rises h0).2 (by omega)
  simpa [hr] using this
theorem beg_reach {P : List Fn} {f : Fn} (ok : FlowOk P f) {q : Nat} (h : Beg f q) : Way f 63 q ∧ q < f.code.length := by
  rcases h with rfl | ⟨pc, h1, h2, _, h4⟩
  · exact ⟨Way.start (by have := ok.ok.p2; omega), by have := ok.ok.len1; omega⟩
  · exact ok.on h1 h2 h4
theorem Starts.reach {P : List Fn} {f : Fn} (ok : FlowOk P f) {S : List Nat} (h : Starts f S) {q : Nat} (hq : q ∈ S) : Way f 63 q ∧ q < f.code.length := beg_reach ok ((h.iff q).1 hq)

/-- The place behind the last instruction of the block that begins at a place. -/
structure EndAt (f : Fn) (S : List Nat) (fr t : Nat) : Prop where
  lt : fr < t
  le : t ≤ f.code.length
  stops : 15 ≤ (insD f (t - 1)).op ∨ t ∈ S
  goes : ∀ j, fr < j → j < t → (insD f (j - 1)).op < 15 ∧ ¬ j ∈ S
theorem EndAt.unique {f : Fn} {S : List Nat} {fr t t' : Nat} (h : EndAt f S fr t) (h' : EndAt f S fr t') : t = t' := by
  rcases Nat.lt_trichotomy t t' with hl | hl | hl
  · have := h'.goes t h.lt hl
    rcases h.stops with s | s
    · omega
    · exact absurd s this.2
  · exact hl
  · have := h.goes t' h'.lt hl
    rcases h'.stops with s | s
    · omega
    · exact absurd s this.2
theorem behind_on (x : Ins) (pc : Nat) (h : x.op < 15) : behind x pc = [pc + 1] := by
  unfold behind
  rw [if_neg (by omega), if_neg (by omega), if_neg (by omega)]
/-- All places of a block are reached. -/
theorem EndAt.reach {P : List Fn} {f : Fn} (ok : FlowOk P f) {S : List Nat} {fr t : Nat} (h : EndAt f S fr t) (hw : Way f 63 fr) : ∀ j, fr ≤ j → j < t → Way f 63 j := by
  intro j
  induction j with
  | zero =>
    intro hj _
    obtain rfl : fr = 0 := by omega
    exact hw
  | succ j ih =>
    intro hj hlt
    by_cases he : fr = j + 1
    · rw [← he]; exact hw
    have h1 := ih (by omega) (by omega)
    have hop := (h.goes (j + 1) (by omega) hlt).1
    rw [Nat.add_sub_cancel] at hop
    have hjl : j < f.code.length := by have := h.le; omega
    exact (ok.on hjl h1 (by rw [behind_on _ _ hop]; simp)).1
/-- Where a block leads. -/
theorem EndAt.leads {P : List Fn} {f : Fn} (ok : FlowOk P f) {S : List Nat} (hS : Starts f S) {fr t : Nat} (h : EndAt f S fr t) (hw : Way f 63 fr) {q : Nat} (hq : q ∈ behind (insD f (t - 1)) (t - 1)) : q ∈ S := by
  have ht : t - 1 < f.code.length := by have := h.lt; have := h.le; omega
  have hr := h.reach ok hw (t - 1) (by have := h.lt; omega) (by have := h.lt; omega)
  by_cases hop : 15 ≤ (insD f (t - 1)).op
  · exact (hS.iff q).2 (Or.inr ⟨t - 1, ht, hr, hop, hq⟩)
  · rcases h.stops with s | s
    · exact absurd s hop
    · have e : q = t := by
        rw [behind_on _ _ (by omega)] at hq
        have := h.lt
        simp at hq
        omega
      rw [e]; exact s
end Go.Proofs.YteilohamjijpbaaDoor
