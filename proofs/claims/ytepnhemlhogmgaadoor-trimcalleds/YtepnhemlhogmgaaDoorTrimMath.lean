/- What trim keeps: plain mathematics. -/
import Derived.Test.YtepnhemlhogmgaaDoorSureAll
import Derived.Test.YtepnhemlhogmgaaDoorProveMath
namespace Go.Proofs.YtepnhemlhogmgaaDoor
open Go Go.RowKit

def ctT (s : List Bool) (i : Nat) : Nat := (s.take i).count true
theorem ctT_zero (s : List Bool) : ctT s 0 = 0 := by simp [ctT]
theorem ctT_le (s : List Bool) (i : Nat) : ctT s i ≤ i := by
  have h1 := List.count_le_length (a := true) (l := s.take i)
  have h2 := List.length_take_le i s
  unfold ctT; omega
theorem ctT_succ (s : List Bool) (i : Nat) (h : i < s.length) : ctT s (i + 1) = ctT s i + if s.getD i false = true then 1 else 0 := by
  unfold ctT
  rw [List.take_add_one, List.count_append]
  simp [List.getD, h, List.count_cons]
theorem ctT_yes {s : List Bool} {i : Nat} (h : i < s.length) (hs : s.getD i false = true) : ctT s (i + 1) = ctT s i + 1 := by rw [ctT_succ s i h, if_pos hs]
theorem ctT_no {s : List Bool} {i : Nat} (h : i < s.length) (hs : s.getD i false = false) : ctT s (i + 1) = ctT s i := by rw [ctT_succ s i h, if_neg (by rw [hs]; decide)]; rfl
def whereI (s : List Bool) (i : Nat) : Int := if s.getD i false = true then (ctT s i : Int) else -1
def whereL (s : List Bool) : List Int := (List.range s.length).map (whereI s)
theorem whereL_length (s : List Bool) : (whereL s).length = s.length := by simp [whereL]
theorem whereL_getD (s : List Bool) (i : Nat) (h : i < s.length) : (whereL s).getD i 0 = whereI s i := by simp [whereL, List.getD, h]
theorem whereI_yes {s : List Bool} {i : Nat} (h : s.getD i false = true) : whereI s i = ctT s i := if_pos h
theorem whereI_no {s : List Bool} {i : Nat} (h : s.getD i false = false) : whereI s i = -1 := if_neg (by rw [h]; decide)
theorem eq_whereL {s : List Bool} {O : List Int} {n : Nat} (hs : s.length = n) (hl : O.length = n) (h : ∀ q, q < n → O.getD q 0 = whereI s q) : O = whereL s := by
  apply List.ext_getElem
  · rw [whereL_length, hl, hs]
  · intro i h1 h2
    have a := h i (by omega)
    have b := whereL_getD s i (by rw [whereL_length] at h2; exact h2)
    rw [← b] at a
    simpa [List.getD, h1, h2] using a

/-- Which places of a function are reached. -/
def Reach (f : Fn) (s : List Bool) : Prop := s.length = f.code.length ∧ ∀ q, q < f.code.length → (s.getD q false = true ↔ Way f 63 q)
theorem bools_ext {s s' : List Bool} (hl : s.length = s'.length) (h : ∀ q, q < s.length → (s.getD q false = true ↔ s'.getD q false = true)) : s = s' := by
  apply List.ext_getElem hl
  intro i h1 h2
  have := h i h1
  simp only [List.getD, List.getElem?_eq_getElem h1, List.getElem?_eq_getElem h2, Option.getD_some] at this
  exact Bool.eq_iff_iff.2 this
theorem reach_unique {f : Fn} {s s' : List Bool} (h : Reach f s) (h' : Reach f s') : s = s' :=
  bools_ext (h.1.trans h'.1.symm) fun q hq => (h.2 q (by rw [← h.1]; exact hq)).trans (h'.2 q (by rw [← h.1]; exact hq)).symm
theorem sureSpec_reach {f : Fn} {L : List Int} (h : SureSpec f L) {q : Nat} (hq : q < f.code.length + 1) : 0 ≤ L.getD q 0 ↔ Way f 63 q := by
  rcases h.2 q hq with ⟨hn, e⟩ | ⟨hw, m, _, e, _⟩
  · rw [e]; exact ⟨fun h => by omega, fun h => absurd h hn⟩
  · rw [e]; exact ⟨fun _ => hw, fun _ => by omega⟩
theorem reach_sure {P : List Fn} {k : Nat} (h : fnErr P k = 0) (hk : k < P.length) {A : List Int} (hA : SureAns P k A) :
    A.length = P[k].code.length ∧ ∀ q, q < P[k].code.length → (0 ≤ A.getD q 0 ↔ Way P[k] 63 q) := by
  have e : fnAt P (k : Int) = P[k] := by simp [fnAt, List.getD, hk]
  rcases hA with ⟨h1, _⟩ | ⟨_, L, hL, rfl⟩
  · exact absurd h h1
  · rw [e] at hL ⊢
    refine ⟨by rw [List.length_take, hL.1]; omega, fun q hq => ?_⟩
    rw [show (L.take P[k].code.length).getD q 0 = L.getD q 0 by simp [List.getD, hq]]
    exact sureSpec_reach hL (by omega)
theorem seen_reach {f : Fn} {s : List Bool} (h : s.length = f.code.length + 1 ∧ ∀ q, s.getD q false = true ↔ Way f 63 q) : Reach f (s.take f.code.length) :=
  ⟨by rw [List.length_take, h.1]; omega, fun q hq => by rw [show (s.take f.code.length).getD q false = s.getD q false by simp [List.getD, hq]]; exact h.2 q⟩
theorem fnErr_ok {P : List Fn} (h : codeProg P = 0) {k : Nat} (hk : k < P.length) : fnErr P k = 0 := by unfold fnErr; rw [if_pos h, if_pos (by omega)]

theorem proof_code {P : List Fn} (h : ProofAns P 0) : codeProg P = 0 := by
  rcases h with ⟨h1, h2⟩ | ⟨h1, _⟩
  · exact h2.symm
  · exact h1

/-- What P5.1 answers. -/
def WhereAns (P : List Fn) (fn E : Int) (A : List Int) : Prop :=
  (E ≠ 0 ∧ ProofAns P E ∧ A = []) ∨ (ProofAns P 0 ∧ ¬ (0 ≤ fn ∧ fn < P.length) ∧ E = 2 ∧ A = []) ∨ (ProofAns P 0 ∧ E = 0 ∧ ∃ k : Nat, fn = k ∧ ∃ hk : k < P.length, ∃ s, Reach P[k] s ∧ A = whereL s)
theorem whereAns_unique {P : List Fn} {fn E E' : Int} {A A' : List Int} (h : WhereAns P fn E A) (h' : WhereAns P fn E' A') : E = E' ∧ A = A' := by
  rcases h with ⟨h0, h1, rfl⟩ | ⟨h1, h2, rfl, rfl⟩ | ⟨h1, rfl, k, rfl, hk, s, hs, rfl⟩ <;> rcases h' with ⟨g0, g1, rfl⟩ | ⟨g1, g2, rfl, rfl⟩ | ⟨g1, rfl, k', g2, hk', s', hs', rfl⟩
  · exact ⟨proofAns_unique h1 g1, rfl⟩
  · exact absurd (proofAns_unique h1 g1) h0
  · exact absurd (proofAns_unique h1 g1) h0
  · exact absurd (proofAns_unique g1 h1) g0
  · exact ⟨rfl, rfl⟩
  · exact absurd (by omega) h2
  · exact absurd (proofAns_unique g1 h1) g0
  · exact absurd (by omega) g2
  · obtain rfl : k = k' := by omega
    rw [reach_unique hs hs']
    exact ⟨rfl, rfl⟩
end Go.Proofs.YtepnhemlhogmgaaDoor
