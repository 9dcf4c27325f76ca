/- Counts of a run: plain mathematics. -/
import Derived.Test.YtndogdojcbcjgaaDoorGroupK
namespace Go.Proofs.YtndogdojcbcjgaaDoor
open Go Go.RowKit

/-- A state without what was told to the host. -/
def cutE (S : St) : St := { S with events := [] }
theorem retS_cut (P : List Fn) (S : St) (fs : List Fr) (a : Int) (l : List Int) : retS P { S with events := l } fs a = { retS P S fs a with events := l } := by
  unfold retS; split <;> rfl
theorem doS_cut (P : List Fn) (S : St) (fs : List Fr) (f : Fr) (x : Ins) (l : List Int) : cutE (doS P { S with events := l } fs f x) = cutE (doS P S fs f x) := by
  unfold doS
  repeat' split
  all_goals first | rfl | (rw [retS_cut]; rfl)
/-- No step hangs on what the host was told. -/
theorem stepS_cut (P : List Fn) (S : St) : cutE (stepS P (cutE S)) = cutE (stepS P S) := by
  unfold stepS
  have e1 : (cutE S).fuel = S.fuel := rfl
  have e2 : (cutE S).frames = S.frames := rfl
  rw [e1, e2]
  by_cases h0 : S.fuel = 0
  · rw [if_pos h0, if_pos h0]; rfl
  rw [if_neg h0, if_neg h0]
  cases hl : S.frames.getLast? with
  | none => rfl
  | some f =>
    dsimp only
    by_cases hb : barredI (insOfFr P f) (regD f (insOfFr P f).a) (regD f (insOfFr P f).b) = 0
    · rw [if_pos hb, if_pos hb]; exact doS_cut P { S with fuel := S.fuel - 1, status := 0 } _ f _ []
    · rw [if_neg hb, if_neg hb]; rfl
theorem walkS_cut1 (P : List Fn) (S : St) : cutE (walkS P 1 (cutE S)) = cutE (walkS P 1 S) := by
  by_cases h : S.status = 0
  · have e1 : walkS P 1 (cutE S) = stepS P (cutE S) := if_pos (show (cutE S).status = 0 from h)
    have e2 : walkS P 1 S = stepS P S := if_pos h
    rw [e1, e2]; exact stepS_cut P S
  · rw [walkS_stays P 1 _ (show (cutE S).status ≠ 0 from h), walkS_stays P 1 S h]; rfl
theorem RunInv.cut {P : List Fn} {S : St} (h : RunInv P S) : RunInv P (cutE S) := ⟨h.may, h.fok, h.reach, h.wf, h.mem⟩

/-- One place's count grows. -/
def addC (C : List (List Int)) (k j : Nat) (d : Int) : List (List Int) := C.set k ((C.getD k []).set j ((C.getD k []).getD j 0 + d))
def noC (P : List Fn) : List (List Int) := P.map fun f => List.replicate f.code.length 0
/-- What a step adds. -/
def stepC (P : List Fn) (S : St) (C : List (List Int)) : List (List Int) :=
  match S.frames.getLast? with
  | none => C
  | some f => if S.status = 0 then addC C f.fn.toNat f.pc.toNat (S.fuel - (stepS P S).fuel) else C
/-- The counts behind so many steps. -/
def cntS (P : List Fn) (S : St) : Nat → List (List Int)
  | 0 => noC P
  | n + 1 => stepC P (walkS P n S) (cntS P S n)
/-- A row of counts for each function, a count for each place. -/
def CShape (P : List Fn) (C : List (List Int)) : Prop := C.length = P.length ∧ ∀ k (h : k < P.length), (C.getD k []).length = P[k].code.length
theorem cshape_no (P : List Fn) : CShape P (noC P) := ⟨by simp [noC], fun k h => by simp [noC, List.getD, h]⟩
theorem getD_set_row (C : List (List Int)) (k q : Nat) (v : List Int) (hk : k < C.length) : (C.set k v).getD q [] = if q = k then v else C.getD q [] := by
  simp only [List.getD_eq_getElem?_getD, List.getElem?_set]
  by_cases h : k = q
  · subst h; simp [hk]
  · rw [if_neg h, if_neg (fun e => h e.symm)]
theorem cshape_add {P : List Fn} {C : List (List Int)} (h : CShape P C) (k j : Nat) (d : Int) : CShape P (addC C k j d) := by
  refine ⟨by simp [addC, h.1], fun q hq => ?_⟩
  by_cases hk : k < C.length
  · unfold addC
    rw [getD_set_row _ _ _ _ hk]
    split
    · rename_i e; subst e; rw [List.length_set]; exact h.2 q hq
    · exact h.2 q hq
  · unfold addC
    rw [List.set_eq_of_length_le (by omega)]
    exact h.2 q hq
theorem cshape_step {P : List Fn} {C : List (List Int)} (h : CShape P C) (S : St) : CShape P (stepC P S C) := by
  unfold stepC
  split
  · exact h
  · split
    · exact cshape_add h _ _ _
    · exact h
theorem cshape_cnt (P : List Fn) (S : St) : ∀ n, CShape P (cntS P S n)
  | 0 => cshape_no P
  | n + 1 => cshape_step (cshape_cnt P S n) _
/-- All counts of a row, of all rows. -/
def sumL : List Int → Int
  | [] => 0
  | a :: l => a + sumL l
def sumLL : List (List Int) → Int
  | [] => 0
  | a :: l => sumL a + sumLL l
theorem sumL_append (a b : List Int) : sumL (a ++ b) = sumL a + sumL b := by
  induction a with
  | nil => simp [sumL]
  | cons x a ih => simp only [List.cons_append, sumL, ih]; omega
theorem sumL_set (l : List Int) (j : Nat) (v : Int) (h : j < l.length) : sumL (l.set j v) = sumL l - l.getD j 0 + v := by
  induction l generalizing j with
  | nil => simp at h
  | cons a l ih =>
    cases j with
    | zero => simp [sumL]; omega
    | succ j => simp only [List.set_cons_succ, sumL, ih j (by simpa using h)]; simp [List.getD]; omega
theorem sumLL_set (C : List (List Int)) (k : Nat) (v : List Int) (h : k < C.length) : sumLL (C.set k v) = sumLL C - sumL (C.getD k []) + sumL v := by
  induction C generalizing k with
  | nil => simp at h
  | cons a l ih =>
    cases k with
    | zero => simp [sumLL]; omega
    | succ j => simp only [List.set_cons_succ, sumLL, ih j (by simpa using h)]; simp [List.getD]; omega
theorem sumL_rep (n : Nat) : sumL (List.replicate n 0) = 0 := by
  induction n with
  | zero => rfl
  | succ n ih => rw [List.replicate_succ, sumL, ih]; rfl
theorem sumLL_no (P : List Fn) : sumLL (noC P) = 0 := by
  induction P with
  | nil => rfl
  | cons f P ih => show sumL _ + sumLL (noC P) = 0; rw [ih, sumL_rep]; rfl
theorem sum_add {P : List Fn} {C : List (List Int)} (h : CShape P C) {k j : Nat} (hk : k < P.length) (hj : j < P[k].code.length) (d : Int) : sumLL (addC C k j d) = sumLL C + d := by
  have hl := h.2 k hk
  unfold addC
  rw [sumLL_set _ _ _ (by rw [h.1]; exact hk), sumL_set _ _ _ (by omega)]
  omega
/-- The last frame of a state that runs stands at a place. -/
theorem run_last {P : List Fn} {S : St} (h : RunInv P S) (h0 : S.status = 0) : ∃ (fs : List Fr) (f : Fr) (k j : Nat) (hk : k < P.length) (_ : j < P[k].code.length), S.frames = fs ++ [f] ∧ f.fn = k ∧ f.pc = j ∧ insOfFr P f = P[k].code[j]'(by assumption) ∧ Way P[k] 63 j := by
  have hne := run_frames h h0
  rcases List.eq_nil_or_concat S.frames with e | ⟨fs, f, e⟩
  · exact absurd e hne
  · rw [List.concat_eq_append] at e
    have hm : f ∈ S.frames := by rw [e]; simp
    obtain ⟨k, j, hk, hj, h1, h2, h3, h4⟩ := place_nat (h.fok.place f hm)
    have hr := h.reach f hm
    unfold ReachFr at hr
    rw [h3, h2] at hr
    exact ⟨fs, f, k, j, hk, hj, e, h1, h2, h4, by simpa using hr⟩
theorem stepC_run {P : List Fn} {S : St} {C : List (List Int)} {fs : List Fr} {f : Fr} {k j : Nat} (h0 : S.status = 0) (e : S.frames = fs ++ [f]) (e1 : f.fn = k) (e2 : f.pc = j) : stepC P S C = addC C k j (S.fuel - (stepS P S).fuel) := by
  unfold stepC
  rw [e, List.getLast?_append]
  simp [h0, e1, e2]
theorem stepC_end {P : List Fn} {S : St} {C : List (List Int)} (h0 : S.status ≠ 0) : stepC P S C = C := by
  unfold stepC
  split
  · rfl
  · rw [if_neg h0]
/-- All counts together are the fuel that was used. -/
theorem cnt_sum {P : List Fn} (hR : ProofAns P 0) {S : St} (h : RunInv P S) : ∀ n, sumLL (cntS P S n) = S.fuel - (walkS P n S).fuel := by
  intro n
  induction n with
  | zero => rw [cntS, sumLL_no]; show 0 = S.fuel - S.fuel; omega
  | succ n ih =>
    rw [cntS]
    by_cases h0 : (walkS P n S).status = 0
    · obtain ⟨fs, f, k, j, hk, hj, e, e1, e2, -, -⟩ := run_last (runInv_walk hR n h) h0
      rw [stepC_run h0 e e1 e2, sum_add (cshape_cnt P S n) hk hj, ih, walkS_succ P n S h0]
      omega
    · rw [stepC_end h0, ih, walkS_ended P n (n + 1) S (by omega) h0]
/-- One cell of the counts. -/
def cellC (C : List (List Int)) (k j : Nat) : Int := (C.getD k []).getD j 0
theorem igetD_set2 (l : List Int) (i q : Nat) (v : Int) (hi : i < l.length) : (l.set i v).getD q 0 = if q = i then v else l.getD q 0 := by
  simp only [List.getD_eq_getElem?_getD, List.getElem?_set]
  by_cases h : i = q
  · subst h; simp [hi]
  · rw [if_neg h, if_neg (fun e => h e.symm)]
theorem cell_add {P : List Fn} {C : List (List Int)} (h : CShape P C) {k j : Nat} (hk : k < P.length) (hj : j < P[k].code.length) (d : Int) (a b : Nat) : cellC (addC C k j d) a b = cellC C a b + if a = k ∧ b = j then d else 0 := by
  have hl := h.2 k hk
  unfold cellC addC
  rw [getD_set_row _ _ _ _ (by rw [h.1]; exact hk)]
  by_cases ha : a = k
  · subst ha
    rw [if_pos rfl, igetD_set2 _ _ _ _ (by omega)]
    by_cases hb : b = j
    · subst hb; rw [if_pos rfl, if_pos ⟨rfl, rfl⟩]
    · rw [if_neg hb, if_neg (fun h => hb h.2)]; omega
  · rw [if_neg ha, if_neg (fun h => ha h.1)]; omega
theorem cell_no (P : List Fn) (a b : Nat) : cellC (noC P) a b = 0 := by
  unfold cellC noC
  by_cases ha : a < P.length
  · by_cases hb : b < P[a].code.length
    · simp [List.getD, ha, hb]
    · simp [List.getD, ha, hb]
  · simp [List.getD, ha]
/-- No count is below 0, and what is not reached counts nothing. -/
theorem cnt_cell {P : List Fn} (hR : ProofAns P 0) {S : St} (h : RunInv P S) (a b : Nat) : ∀ n, 0 ≤ cellC (cntS P S n) a b ∧ ((ha : a < P.length) → ¬ Way P[a] 63 b → cellC (cntS P S n) a b = 0) := by
  intro n
  induction n with
  | zero => rw [cntS, cell_no]; exact ⟨by omega, fun _ _ => rfl⟩
  | succ n ih =>
    rw [cntS]
    by_cases h0 : (walkS P n S).status = 0
    · have hi := runInv_walk hR n h
      obtain ⟨fs, f, k, j, hk, hj, e, e1, e2, -, hw⟩ := run_last hi h0
      have hd : 0 ≤ (walkS P n S).fuel - (stepS P (walkS P n S)).fuel := by
        rcases stepS_cases2 P (walkS P n S) (run_frames hi h0) with ⟨_, e, _⟩ | ⟨e0, e, _⟩ | ⟨_, e, _⟩ <;> omega
      rw [stepC_run h0 e e1 e2, cell_add (cshape_cnt P S n) hk hj]
      refine ⟨by split <;> omega, fun ha hn => ?_⟩
      rw [ih.2 ha hn, if_neg]
      · rfl
      · rintro ⟨rfl, rfl⟩; exact hn hw
    · rw [stepC_end h0]; exact ih
theorem sumL_get {l : List Int} (h : ∀ b, 0 ≤ l.getD b 0) (b : Nat) : l.getD b 0 ≤ sumL l ∧ 0 ≤ sumL l := by
  induction l generalizing b with
  | nil => exact ⟨by simp [sumL], by simp [sumL]⟩
  | cons a l ih =>
    have h0 : 0 ≤ a := by simpa using h 0
    have ih' := ih (fun b => by simpa using h (b + 1))
    cases b with
    | zero => have := (ih' 0).2; exact ⟨by simp [sumL]; omega, by simp [sumL]; omega⟩
    | succ b => have := ih' b; exact ⟨by simp [sumL] at this ⊢; omega, by simp [sumL]; omega⟩
theorem sumLL_get {C : List (List Int)} (h : ∀ a b, 0 ≤ cellC C a b) (a : Nat) : sumL (C.getD a []) ≤ sumLL C ∧ 0 ≤ sumLL C := by
  induction C generalizing a with
  | nil => exact ⟨by simp [sumLL, sumL], by simp [sumLL]⟩
  | cons r C ih =>
    have h0 : 0 ≤ sumL r := (sumL_get (fun b => by simpa [cellC] using h 0 b) 0).2
    have ih' := ih (fun a b => by simpa [cellC] using h (a + 1) b)
    cases a with
    | zero => have := (ih' 0).2; exact ⟨by simp [sumLL]; omega, by simp [sumLL]; omega⟩
    | succ a => have := ih' a; exact ⟨by simp [sumLL] at this ⊢; omega, by simp [sumLL]; omega⟩
/-- No count is greater than the fuel that was used. -/
theorem cnt_le {P : List Fn} (hR : ProofAns P 0) {S : St} (h : RunInv P S) (n a b : Nat) : cellC (cntS P S n) a b ≤ S.fuel - (walkS P n S).fuel := by
  have h0 := fun a b => (cnt_cell hR h a b n).1
  have h1 := (sumLL_get h0 a).1
  have h2 : cellC (cntS P S n) a b ≤ sumL ((cntS P S n).getD a []) := (sumL_get (fun b => h0 a b) b).1
  rw [cnt_sum hR h n] at h1
  omega
end Go.Proofs.YtndogdojcbcjgaaDoor
