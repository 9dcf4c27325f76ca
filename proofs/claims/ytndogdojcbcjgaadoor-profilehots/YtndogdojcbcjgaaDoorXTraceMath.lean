/- Where the counted steps of a run were, one by one; the counts out of that (for the document's CountsOf). -/
import Derived.Test.YtndogdojcbcjgaaDoorXProfHot
import Derived.Test.YtndogdojcbcjgaaDoorXRunMeas
namespace Go.Proofs.YtndogdojcbcjgaaDoor
open Go Go.RowKit

/-- The place of a step, where it is counted. -/
def trI (P : List Fn) (S : St) : List (Int × Int) :=
  match S.frames.getLast? with
  | none => []
  | some f => if S.status = 0 ∧ (stepS P S).fuel < S.fuel then [(f.fn, f.pc)] else []
/-- Where the counted steps of the first ones were. -/
def trS (P : List Fn) (S : St) : Nat → List (Int × Int)
  | 0 => []
  | n + 1 => trS P S n ++ trI P (walkS P n S)
/-- How often a place stands in it. -/
def occ (T : List (Int × Int)) (i j : Nat) : Int := (T.countP fun q => decide (q.1 = (i : Int) ∧ q.2 = (j : Int)) : Nat)
/-- A row of counts. -/
def rowT (T : List (Int × Int)) (i L : Nat) : List Int := (List.range L).map fun j => occ T i j
/-- All rows. -/
def rowsT (P : List Fn) (T : List (Int × Int)) : List (List Int) := (List.range P.length).map fun i => rowT T i (P.getD i ⟨0, 0, []⟩).code.length
theorem rowT_len (T : List (Int × Int)) (i L : Nat) : (rowT T i L).length = L := by simp [rowT]
theorem rowT_get (T : List (Int × Int)) (i L j : Nat) (h : j < L) : (rowT T i L).getD j 0 = occ T i j := by simp [rowT, List.getD, h]
theorem occ_append (T U : List (Int × Int)) (i j : Nat) : occ (T ++ U) i j = occ T i j + occ U i j := by unfold occ; rw [List.countP_append]; omega
theorem occ_nil (i j : Nat) : occ [] i j = 0 := rfl
theorem occ_cons (a b : Int) (T : List (Int × Int)) (i j : Nat) : occ ((a, b) :: T) i j = (if a = (i : Int) ∧ b = (j : Int) then 1 else 0) + occ T i j := by
  unfold occ
  rw [List.countP_cons]
  by_cases h : a = (i : Int) ∧ b = (j : Int)
  · rw [if_pos (by simpa using h), if_pos h]; omega
  · rw [if_neg (by simpa using h), if_neg h]; omega
theorem occ_le (T : List (Int × Int)) (i j : Nat) : 0 ≤ occ T i j ∧ occ T i j ≤ T.length := by
  unfold occ
  have := List.countP_le_length (p := fun q : Int × Int => decide (q.1 = (i : Int) ∧ q.2 = (j : Int))) (l := T)
  omega
theorem rowsT_shape (P : List Fn) (T : List (Int × Int)) : CShape P (rowsT P T) := by
  refine ⟨by simp [rowsT], fun k h => ?_⟩
  simp [rowsT, List.getD, h, rowT_len]
theorem rowsT_cell (P : List Fn) (T : List (Int × Int)) {a b : Nat} (ha : a < P.length) (hb : b < P[a].code.length) : cellC (rowsT P T) a b = occ T a b := by
  unfold cellC
  have e : (rowsT P T).getD a [] = rowT T a P[a].code.length := by simp [rowsT, List.getD, ha]
  rw [e, rowT_get _ _ _ _ hb]
theorem shape_ext {P : List Fn} {C D : List (List Int)} (hC : CShape P C) (hD : CShape P D) (h : ∀ a b (ha : a < P.length), b < P[a].code.length → cellC C a b = cellC D a b) : C = D := by
  refine List.ext_getElem (by rw [hC.1, hD.1]) fun a h1 h2 => ?_
  have ha : a < P.length := by rw [← hC.1]; exact h1
  have e1 : C.getD a [] = C[a] := by simp [List.getD, h1]
  have e2 : D.getD a [] = D[a] := by simp [List.getD, h2]
  have l1 := hC.2 a ha
  have l2 := hD.2 a ha
  rw [e1] at l1
  rw [e2] at l2
  refine List.ext_getElem (by rw [l1, l2]) fun b g1 g2 => ?_
  have := h a b ha (by omega)
  unfold cellC at this
  rw [e1, e2] at this
  simpa [List.getD, g1, g2] using this
/-- The counts of a run are how often places stand in its trace. -/
theorem cnt_trace {P : List Fn} (hR : ProofAns P 0) {S : St} (h : RunInv P S) : ∀ n, cntS P S n = rowsT P (trS P S n)
  | 0 => by
    refine shape_ext (cshape_no P) (rowsT_shape P _) fun a b ha hb => ?_
    rw [rowsT_cell P _ ha hb]
    exact cell_no P a b
  | n + 1 => by
    have ih := cnt_trace hR h n
    refine shape_ext (cshape_cnt P S (n + 1)) (rowsT_shape P _) fun a b ha hb => ?_
    rw [rowsT_cell P _ ha hb]
    show cellC (stepC P (walkS P n S) (cntS P S n)) a b = occ (trS P S n ++ trI P (walkS P n S)) a b
    rw [occ_append, ← rowsT_cell P _ ha hb, ← ih]
    have hi := runInv_walk hR n h
    generalize walkS P n S = U at *
    by_cases hs : U.status = 0
    · obtain ⟨fs, f, k, j, hk, hj, e, e1, e2, -, -⟩ := run_last hi hs
      rw [stepC_run hs e e1 e2, cell_add (cshape_cnt P S n) hk hj]
      have eI : trI P U = if U.status = 0 ∧ (stepS P U).fuel < U.fuel then [((k : Int), (j : Int))] else [] := by
        unfold trI; rw [e, List.getLast?_concat]; dsimp only; rw [e1, e2]
      rcases stepS_fuel P U (by rw [e]; simp) with ⟨f1, -⟩ | ⟨f1, -⟩
      · have eJ : trI P U = [((k : Int), (j : Int))] := by rw [eI, if_pos ⟨hs, by omega⟩]
        rw [eJ, occ_cons, occ_nil, f1]
        by_cases hh : a = k ∧ b = j
        · rw [if_pos hh, if_pos (by omega)]; omega
        · rw [if_neg hh, if_neg (by omega)]; omega
      · have eJ : trI P U = [] := by rw [eI, if_neg (fun h => by omega)]
        rw [eJ, occ_nil, f1]
        split <;> omega
    · rw [stepC_end hs]
      have eI : trI P U = [] := by
        unfold trI
        cases U.frames.getLast? with
        | none => rfl
        | some f => exact if_neg (fun h => hs h.1)
      rw [eI, occ_nil]; omega
/-- Each place of it is one. -/
theorem tr_places {P : List Fn} (hR : ProofAns P 0) {S : St} (h : RunInv P S) : ∀ n, ∀ q ∈ trS P S n, ∃ (k j : Nat) (hk : k < P.length), q = ((k : Int), (j : Int)) ∧ j < P[k].code.length
  | 0, q, hq => by simp [trS] at hq
  | n + 1, q, hq => by
    rcases List.mem_append.1 hq with h1 | h1
    · exact tr_places hR h n q h1
    · have hi := runInv_walk hR n h
      generalize walkS P n S = U at *
      by_cases hs : U.status = 0
      · obtain ⟨fs, f, k, j, hk, hj, e, e1, e2, -, -⟩ := run_last hi hs
        have eI : trI P U = if U.status = 0 ∧ (stepS P U).fuel < U.fuel then [((k : Int), (j : Int))] else [] := by
          unfold trI; rw [e, List.getLast?_concat]; dsimp only; rw [e1, e2]
        rw [eI] at h1
        split at h1
        · rw [List.mem_singleton] at h1
          exact ⟨k, j, hk, h1, hj⟩
        · simp at h1
      · have eI : trI P U = [] := by
          unfold trI
          cases U.frames.getLast? with
          | none => rfl
          | some f => exact if_neg (fun h => hs h.1)
        rw [eI] at h1; simp at h1
theorem trI_len (P : List Fn) (S : St) : (trI P S).length ≤ 1 := by
  unfold trI
  split
  · simp
  · split <;> simp
theorem tr_len (P : List Fn) (S : St) : ∀ n, (trS P S n).length ≤ n
  | 0 => by simp [trS]
  | n + 1 => by
    have := tr_len P S n
    have := trI_len P (walkS P n S)
    simp only [trS, List.length_append]; omega
/-- A row, as it is reckoned from the end. -/
theorem rowT_step (T : List (Int × Int)) (i L k : Nat) (hk : k < T.length) (a b : Nat) (hq : T[k] = ((a : Int), (b : Int))) (hb : a = i → b < L) :
    rowT (T.drop k) i L = if a = i then (rowT (T.drop (k + 1)) i L).set b ((rowT (T.drop (k + 1)) i L).getD b 0 + 1) else rowT (T.drop (k + 1)) i L := by
  have e : T.drop k = ((a : Int), (b : Int)) :: T.drop (k + 1) := by rw [List.drop_eq_getElem_cons hk, hq]
  rw [e]
  by_cases hai : a = i
  · subst hai
    rw [if_pos rfl]
    refine List.ext_getElem (by simp [rowT_len]) fun j h1 h2 => ?_
    have g1 : (rowT (((a : Int), (b : Int)) :: T.drop (k + 1)) a L)[j] = occ (((a : Int), (b : Int)) :: T.drop (k + 1)) a j := by simp [rowT]
    rw [List.getElem_set, g1, occ_cons]
    by_cases hbj : b = j
    · subst hbj
      rw [if_pos ⟨rfl, rfl⟩, if_pos rfl, rowT_get _ _ _ _ (hb rfl)]; omega
    · rw [if_neg (by omega), if_neg hbj]
      simp [rowT]
  · rw [if_neg hai]
    refine List.ext_getElem (by simp [rowT_len]) fun j h1 h2 => ?_
    have g1 : (rowT (((a : Int), (b : Int)) :: T.drop (k + 1)) i L)[j] = occ (((a : Int), (b : Int)) :: T.drop (k + 1)) i j := by simp [rowT]
    rw [g1, occ_cons, if_neg (by omega)]
    simp [rowT]
theorem rowT_end (T : List (Int × Int)) (i L k : Nat) (h : T.length ≤ k) : rowT (T.drop k) i L = List.replicate L 0 := by
  rw [List.drop_eq_nil_of_le h]
  refine List.ext_getElem (by simp [rowT_len]) fun j h1 h2 => ?_
  simp [rowT, occ_nil]
end Go.Proofs.YtndogdojcbcjgaaDoor
