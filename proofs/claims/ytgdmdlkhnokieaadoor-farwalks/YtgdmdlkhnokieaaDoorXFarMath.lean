/- How far machine code goes (P13.3), in plain numbers. -/
import Derived.Test.YtgdmdlkhnokieaaDoorGroupP
import Derived.Test.YtgdmdlkhnokieaaDoorXTopFr
import Derived.Test.YtgdmdlkhnokieaaDoorGroupD
import Derived.Test.YtgdmdlkhnokieaaDoorGroupK
namespace Go.Proofs.YtgdmdlkhnokieaaDoor
open Go Go.RowKit

theorem far_on {P : List Fn} {S : St} {fs : List Fr} {f : Fr} {x : Ins} (h1 : x.op ≠ 15) (h2 : x.op ≠ 16) (h3 : x.op ≠ 17) (h4 : x.op ≠ 19) : ∃ f', (doS P S fs f x).frames = fs ++ [f'] ∧ f'.fn = f.fn ∧ f'.pc = f.pc + 1 ∧ (doS P S fs f x).status = S.status := by
  unfold doS
  by_cases h13 : x.op = 13
  · rw [if_pos h13]; exact ⟨_, rfl, rfl, rfl, rfl⟩
  by_cases h14 : x.op = 14
  · rw [if_neg h13, if_pos h14]; exact ⟨_, rfl, rfl, rfl, rfl⟩
  by_cases h18 : x.op = 18
  · rw [if_neg h13, if_neg h14, if_neg h1, if_neg h2, if_neg h3, if_pos h18]; exact ⟨_, rfl, rfl, rfl, rfl⟩
  rw [if_neg h13, if_neg h14, if_neg h1, if_neg h2, if_neg h3, if_neg h18, if_neg h4]
  exact ⟨_, rfl, rfl, rfl, rfl⟩
/-- Where a step leads that neither calls nor returns. -/
theorem far_other {P : List Fn} (hR : ProofAns P 0) {S : St} (h : RunInv P S) {fs : List Fr} {f : Fr} (hS : S.frames = fs ++ [f]) (h1 : (stepS P S).status = 0) (h17 : (insOfFr P f).op ≠ 17) (h19 : (insOfFr P f).op ≠ 19) :
    ∃ f' : Fr, (stepS P S).frames = fs ++ [f'] ∧ f'.fn = f.fn ∧ ∃ q : Nat, f'.pc = (q : Int) ∧ q ∈ behind (insOfFr P f) f.pc.toNat := by
  have hpl := h.fok.place f (by rw [hS]; simp)
  obtain ⟨k, j, hk, hj, e1, e2, -, e4⟩ := place_nat hpl
  obtain ⟨_, hi⟩ := fnOk_of (right_code hR) (List.getElem_mem hk)
  have him := (hi _ (List.getElem_mem hj)).2
  rw [← e4] at him
  rw [stepS_snoc hS] at h1 ⊢
  by_cases hf : S.fuel = 0
  · rw [if_pos hf] at h1; exact absurd h1 (by show ¬ (2 : Int) = 0; decide)
  rw [if_neg hf] at h1 ⊢
  by_cases hb : barredI (insOfFr P f) (regD f (insOfFr P f).a) (regD f (insOfFr P f).b) = 0
  · rw [if_pos hb] at h1 ⊢
    have hpc : f.pc + 1 = ((f.pc.toNat + 1 : Nat) : Int) := by rw [e2]; simp
    by_cases h15 : (insOfFr P f).op = 15
    · have h0 := him (Or.inl h15)
      unfold doS
      rw [if_neg (by omega), if_neg (by omega), if_pos h15]
      exact ⟨_, rfl, rfl, (insOfFr P f).imm.toNat, by show (insOfFr P f).imm = _; omega, behind_jump _ _ (Or.inl h15)⟩
    by_cases h16 : (insOfFr P f).op = 16
    · have h0 := him (Or.inr h16)
      unfold doS
      rw [if_neg (by omega), if_neg (by omega), if_neg h15, if_pos h16]
      by_cases hz : regD f (insOfFr P f).a = 0
      · exact ⟨_, rfl, rfl, f.pc.toNat + 1, by show (if regD f (insOfFr P f).a = 0 then f.pc + 1 else (insOfFr P f).imm) = _; rw [if_pos hz]; exact hpc, behind_next _ _ h15 h19⟩
      · exact ⟨_, rfl, rfl, (insOfFr P f).imm.toNat, by show (if regD f (insOfFr P f).a = 0 then f.pc + 1 else (insOfFr P f).imm) = _; rw [if_neg hz]; omega, behind_jump _ _ (Or.inr h16)⟩
    · obtain ⟨f', ef, d1, d2, -⟩ := far_on (P := P) (S := { S with fuel := S.fuel - 1, status := 0 }) (fs := fs) (f := f) h15 h16 h17 h19
      exact ⟨f', ef, d1, f.pc.toNat + 1, by rw [d2]; exact hpc, behind_next _ _ h15 h19⟩
  · rw [if_neg hb] at h1; exact absurd h1 hb
/-- How many instructions of a block are done by machine code: all but a Call, a Host or a Ret at its end. -/
def manyB (f : Fn) (fr t : Nat) : Nat := if 17 ≤ (insD f (t - 1)).op then t - fr - 1 else t - fr
/-- How far machine code goes from a state, block by block. -/
inductive FarTo (P : List Fn) (f : Fn) (S : List Nat) (T : Nat → Nat) : St → St → Prop
  | none {s : St} (h : ∀ i (_ : i < S.length), ((S.getD i 0 : Nat) : Int) ≠ (topF s).pc) : FarTo P f S T s s
  | poor {s : St} {i : Nat} (hi : i < S.length) (h : ((S.getD i 0 : Nat) : Int) = (topF s).pc) (hp : s.fuel < (manyB f (S.getD i 0) (T i) : Nat)) : FarTo P f S T s s
  | stop {s : St} {i k : Nat} (hi : i < S.length) (h : ((S.getD i 0 : Nat) : Int) = (topF s).pc) (hp : ¬ s.fuel < (manyB f (S.getD i 0) (T i) : Nat)) (hk : k < manyB f (S.getD i 0) (T i)) (hr : (walkS P k s).status = 0) (hs : (walkS P (k + 1) s).status ≠ 0) : FarTo P f S T s (walkS P k s)
  | leave {s : St} {i : Nat} (hi : i < S.length) (h : ((S.getD i 0 : Nat) : Int) = (topF s).pc) (hp : ¬ s.fuel < (manyB f (S.getD i 0) (T i) : Nat)) (hr : (walkS P (manyB f (S.getD i 0) (T i)) s).status = 0) (ho : 17 ≤ (insD f (T i - 1)).op) : FarTo P f S T s (walkS P (manyB f (S.getD i 0) (T i)) s)
  | on {s u : St} {i : Nat} (hi : i < S.length) (h : ((S.getD i 0 : Nat) : Int) = (topF s).pc) (hp : ¬ s.fuel < (manyB f (S.getD i 0) (T i) : Nat)) (hr : (walkS P (manyB f (S.getD i 0) (T i)) s).status = 0) (ho : ¬ 17 ≤ (insD f (T i - 1)).op) (hn : FarTo P f S T (walkS P (manyB f (S.getD i 0) (T i)) s) u) : FarTo P f S T s u

theorem walk_run_le {P : List Fn} {s : St} {k n : Nat} (hk : k ≤ n) (h : (walkS P n s).status = 0) : (walkS P k s).status = 0 := by
  rcases Classical.em ((walkS P k s).status = 0) with h1 | h1
  · exact h1
  · rw [walkS_ended P k n s hk h1] at h; exact absurd h h1
theorem starts_inj {S : List Nat} (hS : S.Pairwise (· < ·)) {i j : Nat} (hi : i < S.length) (hj : j < S.length) (h : S.getD i 0 = S.getD j 0) : i = j := by
  have e1 : S.getD i 0 = S[i] := by simp [List.getD, hi]
  have e2 : S.getD j 0 = S[j] := by simp [List.getD, hj]
  rw [e1, e2] at h
  rcases Nat.lt_trichotomy i j with h1 | h1 | h1
  · have := List.pairwise_iff_getElem.1 hS i j hi hj h1; omega
  · exact h1
  · have := List.pairwise_iff_getElem.1 hS j i hj hi h1; omega
/-- It goes so far, and no further. -/
theorem FarTo.unique {P : List Fn} {f : Fn} {S : List Nat} {T : Nat → Nat} (hS : S.Pairwise (· < ·)) {s u u' : St} (h : FarTo P f S T s u) (h' : FarTo P f S T s u') : u = u' := by
  have key : ∀ {s : St} {i j : Nat}, i < S.length → j < S.length → ((S.getD i 0 : Nat) : Int) = (topF s).pc → ((S.getD j 0 : Nat) : Int) = (topF s).pc → i = j := fun hi hj h1 h2 => starts_inj hS hi hj (by omega)
  induction h generalizing u' with
  | none h =>
    cases h' with
    | none => rfl
    | poor hi h1 => exact rfl
    | stop hi h1 => exact absurd h1 (h _ hi)
    | leave hi h1 => exact absurd h1 (h _ hi)
    | on hi h1 => exact absurd h1 (h _ hi)
  | poor hi h1 hp =>
    cases h' with
    | none => rfl
    | poor => rfl
    | stop hj h2 hp2 => obtain rfl := key hi hj h1 h2; exact absurd hp hp2
    | leave hj h2 hp2 => obtain rfl := key hi hj h1 h2; exact absurd hp hp2
    | on hj h2 hp2 => obtain rfl := key hi hj h1 h2; exact absurd hp hp2
  | @stop s i k hi h1 hp hk hr hs =>
    cases h' with
    | none h2 => exact absurd h1 (h2 _ hi)
    | poor hj h2 hp2 => obtain rfl := key hi hj h1 h2; exact absurd hp2 hp
    | @stop _ j k' hj h2 hp2 hk' hr' hs' =>
      obtain rfl := key hi hj h1 h2
      rcases Nat.lt_trichotomy k k' with h3 | h3 | h3
      · exact absurd (walk_run_le (show k + 1 ≤ k' by omega) hr') hs
      · rw [h3]
      · exact absurd (walk_run_le (show k' + 1 ≤ k by omega) hr) hs'
    | leave hj h2 hp2 hr' => obtain rfl := key hi hj h1 h2; exact absurd (walk_run_le (show k + 1 ≤ _ by omega) hr') hs
    | on hj h2 hp2 hr' => obtain rfl := key hi hj h1 h2; exact absurd (walk_run_le (show k + 1 ≤ _ by omega) hr') hs
  | leave hi h1 hp hr ho =>
    cases h' with
    | none h2 => exact absurd h1 (h2 _ hi)
    | poor hj h2 hp2 => obtain rfl := key hi hj h1 h2; exact absurd hp2 hp
    | @stop _ j k' hj h2 hp2 hk' hr' hs' => obtain rfl := key hi hj h1 h2; exact absurd (walk_run_le (show k' + 1 ≤ _ by omega) hr) hs'
    | leave hj h2 => obtain rfl := key hi hj h1 h2; rfl
    | on hj h2 hp2 hr' ho' => obtain rfl := key hi hj h1 h2; exact absurd ho ho'
  | on hi h1 hp hr ho hn ih =>
    cases h' with
    | none h2 => exact absurd h1 (h2 _ hi)
    | poor hj h2 hp2 => obtain rfl := key hi hj h1 h2; exact absurd hp2 hp
    | @stop _ j k' hj h2 hp2 hk' hr' hs' => obtain rfl := key hi hj h1 h2; exact absurd (walk_run_le (show k' + 1 ≤ _ by omega) hr) hs'
    | leave hj h2 hp2 hr' ho' => obtain rfl := key hi hj h1 h2; exact absurd ho' ho
    | on hj h2 hp2 hr' ho' hn' => obtain rfl := key hi hj h1 h2; exact ih hn'
/-- What is come to is a walk's, it runs, and the fuel tells its steps. -/
theorem FarTo.walk {P : List Fn} {f : Fn} {S : List Nat} {T : Nat → Nat} {s u : St} (h : FarTo P f S T s u) : (∀ k, (walkS P k s).status = 0 → (walkS P k s).frames ≠ []) → s.status = 0 → 0 ≤ s.fuel → ∃ k : Nat, u = walkS P k s ∧ u.status = 0 ∧ u.fuel = s.fuel - k := by
  intro hne h0 hf0
  have hfu : ∀ k, (walkS P k s).status = 0 → (walkS P k s).fuel = s.fuel - k := by
    intro k
    induction k with
    | zero => intro _; show s.fuel = _; omega
    | succ k ih =>
      intro h
      have h1 := walk_run_le (show k ≤ k + 1 by omega) h
      have ih := ih h1
      rw [walkS_succ P k s h1] at h ⊢
      rcases stepS_fuel P (walkS P k s) (hne k h1) with ⟨e, -⟩ | ⟨-, e⟩
      · rw [e, ih]; omega
      · exact absurd h e
  induction h with
  | none h => exact ⟨0, rfl, h0, by omega⟩
  | poor hi h1 hp => exact ⟨0, rfl, h0, by omega⟩
  | stop hi h1 hp hk hr hs => exact ⟨_, rfl, hr, hfu _ hr⟩
  | leave hi h1 hp hr ho => exact ⟨_, rfl, hr, hfu _ hr⟩
  | @on s u i hi h1 hp hr ho hn ih =>
    have e := hfu _ hr
    obtain ⟨k, e1, e2, e3⟩ := ih (fun k hk => by rw [← walkS_add] at hk ⊢; exact hne _ hk) hr (by omega) (fun k hk => by rw [← walkS_add] at hk ⊢; rw [hfu _ hk, e]; omega)
    exact ⟨_ + k, by rw [walkS_add]; exact e1, e2, by rw [e3, e]; omega⟩
/-- A state with other frames below, and what is not touched between Calls, Hosts and Rets. -/
def lft (S0 : St) (fs : List Fr) (s : St) : St := ⟨s.status, S0.value, fs ++ s.frames, s.mem, s.fuel, S0.events, S0.answers⟩
theorem lft_step {P : List Fn} {s : St} {g : Fr} (S0 : St) (fs : List Fr) (hs : s.frames = [g]) (hop : (insOfFr P g).op < 17) : stepS P (lft S0 fs s) = lft S0 fs (stepS P s) ∧ ∃ g', (stepS P s).frames = [g'] := by
  have e1 : (lft S0 fs s).frames = fs ++ [g] := by show fs ++ s.frames = _; rw [hs]
  have e2 : s.frames = [] ++ [g] := by rw [hs]; rfl
  rw [stepS_snoc e1, stepS_snoc e2]
  have ef : (lft S0 fs s).fuel = s.fuel := rfl
  rw [ef]
  by_cases h0 : s.fuel = 0
  · rw [if_pos h0, if_pos h0]
    exact ⟨rfl, g, hs⟩
  · rw [if_neg h0, if_neg h0]
    by_cases hb : barredI (insOfFr P g) (regD g (insOfFr P g).a) (regD g (insOfFr P g).b) = 0
    · rw [if_pos hb, if_pos hb]
      generalize insOfFr P g = x at *
      unfold doS
      have n17 : ¬ x.op = 17 := by omega
      have n18 : ¬ x.op = 18 := by omega
      have n19 : ¬ x.op = 19 := by omega
      simp only [if_neg n17, if_neg n18, if_neg n19]
      by_cases h13 : x.op = 13
      · simp only [if_pos h13]; exact ⟨rfl, _, rfl⟩
      · simp only [if_neg h13]
        by_cases h14 : x.op = 14
        · simp only [if_pos h14]; exact ⟨rfl, _, rfl⟩
        · simp only [if_neg h14]
          by_cases h15 : x.op = 15
          · simp only [if_pos h15]; exact ⟨rfl, _, rfl⟩
          · simp only [if_neg h15]
            by_cases h16 : x.op = 16
            · simp only [if_pos h16]; exact ⟨rfl, _, rfl⟩
            · simp only [if_neg h16]; exact ⟨rfl, _, rfl⟩
    · rw [if_neg hb, if_neg hb]
      exact ⟨rfl, g, hs⟩
/-- A state of one frame, at a place that is reached. -/
structure OneSt (P : List Fn) (k : Nat) (s : St) (g : Fr) : Prop where
  inv : RunInv P s
  one : s.frames = [g]
  fn : g.fn = (k : Int)
theorem OneSt.top {P : List Fn} {k : Nat} {s : St} {g : Fr} (h : OneSt P k s g) : topF s = g := by unfold topF; rw [h.one]; rfl
/-- Inside of a block the way goes on. -/
theorem blk_walk {P : List Fn} (hR : ProofAns P 0) {k : Nat} (hk : k < P.length) {S : List Nat} {T : Nat → Nat} (hB : BlkOk P[k] S T) {i : Nat} (hi : i < S.length) {s : St} {g : Fr} (hs : OneSt P k s g) (hp : g.pc = ((S[i] : Nat) : Int)) :
    ∀ j, j < T i - S[i] → (walkS P j s).status = 0 → ∃ g', OneSt P k (walkS P j s) g' ∧ g'.pc = ((S[i] + j : Nat) : Int) ∧ insOfFr P g' = insD P[k] (S[i] + j)
  | 0, hj, _ => by
    refine ⟨g, hs, by rw [hp]; rfl, ?_⟩
    unfold insOfFr
    rw [hp, hs.fn]
    have : fnD P (k : Int) = P[k] := by simp [fnD, List.getD, hk]
    rw [this]; rfl
  | j + 1, hj, hst => by
    have h1 := walk_run_le (show j ≤ j + 1 by omega) hst
    obtain ⟨g', o1, p1, x1⟩ := blk_walk hR hk hB hi hs hp j (by omega) h1
    rw [walkS_succ P j s h1] at hst ⊢
    have hE := hB.ends i hi
    have hop := (hE.goes (S[i] + j + 1) (by omega) (by omega)).1
    rw [show S[i] + j + 1 - 1 = S[i] + j from rfl, ← x1] at hop
    obtain ⟨f', q1, q2, q, q3, q4⟩ := far_other hR o1.inv (show (walkS P j s).frames = [] ++ [g'] from o1.one) hst (by omega) (by omega)
    rw [behind_on _ _ hop, p1] at q4
    have hq : q = S[i] + j + 1 := by rw [Int.toNat_natCast] at q4; simpa using q4
    refine ⟨f', ⟨runInv_step hR o1.inv h1, by simpa using q1, by rw [q2, o1.fn]⟩, by rw [q3, hq]; rfl, ?_⟩
    unfold insOfFr
    rw [q3, q2, o1.fn, hq]
    have : fnD P (k : Int) = P[k] := by simp [fnD, List.getD, hk]
    rw [this]; rfl
theorem many_le (f : Fn) (fr t : Nat) : manyB f fr t ≤ t - fr := by unfold manyB; split <;> omega
/-- What is done of a block is neither Call, Host nor Ret. -/
theorem many_op {P : List Fn} {k : Nat} {hk : k < P.length} {S : List Nat} {T : Nat → Nat} (hB : BlkOk P[k] S T) {i j : Nat} (hi : i < S.length) (hj : j < manyB P[k] S[i] (T i)) : (insD P[k] (S[i] + j)).op < 17 := by
  have hE := hB.ends i hi
  have hl := hE.lt
  have hm := many_le P[k] S[i] (T i)
  by_cases h1 : S[i] + j + 1 < T i
  · have := (hE.goes (S[i] + j + 1) (by omega) h1).1
    rw [show S[i] + j + 1 - 1 = S[i] + j from rfl] at this
    omega
  · unfold manyB at hj
    split at hj
    · omega
    · rename_i h
      rw [show S[i] + j = T i - 1 by omega]; omega
/-- A block's steps with other frames below. -/
theorem lft_walk {P : List Fn} (hR : ProofAns P 0) {k : Nat} (hk : k < P.length) {S : List Nat} {T : Nat → Nat} (hB : BlkOk P[k] S T) {i : Nat} (hi : i < S.length) {s : St} {g : Fr} (hs : OneSt P k s g) (hp : g.pc = ((S[i] : Nat) : Int)) (h0 : s.status = 0) (S0 : St) (fs : List Fr) :
    ∀ j, j ≤ manyB P[k] S[i] (T i) → walkS P j (lft S0 fs s) = lft S0 fs (walkS P j s) ∧ ∃ g', (walkS P j s).frames = [g']
  | 0, _ => ⟨rfl, g, hs.one⟩
  | j + 1, hj => by
    obtain ⟨ih, g1, hg1⟩ := lft_walk hR hk hB hi hs hp h0 S0 fs j (by omega)
    have hm := many_le P[k] S[i] (T i)
    by_cases hst : (walkS P j s).status = 0
    · obtain ⟨g', o1, p1, x1⟩ := blk_walk hR hk hB hi hs hp j (by omega) hst
      have hop := many_op hB hi (show j < manyB P[k] S[i] (T i) by omega)
      rw [← x1] at hop
      have hst2 : (walkS P j (lft S0 fs s)).status = 0 := by rw [ih]; exact hst
      rw [walkS_succ P j s hst, walkS_succ P j _ hst2, ih]
      exact lft_step S0 fs o1.one hop
    · have hst2 : (walkS P j (lft S0 fs s)).status ≠ 0 := by rw [ih]; exact hst
      rw [walkS_ended P j (j + 1) s (by omega) hst, walkS_ended P j (j + 1) _ (by omega) hst2]
      exact ⟨ih, g1, hg1⟩
/-- Where all of a block was done, the next one begins where it leads. -/
theorem far_next {P : List Fn} (hR : ProofAns P 0) {k : Nat} (hk : k < P.length) {S : List Nat} {T : Nat → Nat} (hB : BlkOk P[k] S T) {i : Nat} (hi : i < S.length) {s : St} {g : Fr} (hs : OneSt P k s g) (hp : g.pc = ((S[i] : Nat) : Int)) {j : Nat} (hj : j ≤ manyB P[k] S[i] (T i)) (hst : (walkS P j s).status = 0) :
    ∃ g', OneSt P k (walkS P j s) g' := by
  cases j with
  | zero => exact ⟨g, hs⟩
  | succ j =>
    have h1 := walk_run_le (show j ≤ j + 1 by omega) hst
    have hm := many_le P[k] S[i] (T i)
    obtain ⟨g', o1, p1, x1⟩ := blk_walk hR hk hB hi hs hp j (by omega) h1
    have hop := many_op hB hi (show j < manyB P[k] S[i] (T i) by omega)
    rw [← x1] at hop
    rw [walkS_succ P j s h1] at hst ⊢
    obtain ⟨f', q1, q2, q, q3, q4⟩ := far_other hR o1.inv (show (walkS P j s).frames = [] ++ [g'] from o1.one) hst (by omega) (by omega)
    exact ⟨f', runInv_step hR o1.inv h1, by simpa using q1, by rw [q2, o1.fn]⟩
/-- How far it goes with other frames below. -/
theorem FarTo.lift {P : List Fn} (hR : ProofAns P 0) {k : Nat} (hk : k < P.length) {S : List Nat} {T : Nat → Nat} (hB : BlkOk P[k] S T) {s u : St} (h : FarTo P P[k] S T s u) (S0 : St) (fs : List Fr) : ∀ g, OneSt P k s g → s.status = 0 → FarTo P P[k] S T (lft S0 fs s) (lft S0 fs u) ∧ ∃ g', u.frames = [g'] := by
  have key : ∀ {i : Nat} (hi : i < S.length), S.getD i 0 = S[i] := fun hi => by simp [List.getD, hi]
  have tp : ∀ {s : St} {g : Fr}, s.frames = [g] → topF (lft S0 fs s) = topF s := fun {s g} hs => by
    unfold topF lft
    rw [hs]; simp
  induction h with
  | none h => intro g hg _; exact ⟨.none fun i hi => by rw [tp hg.one]; exact h i hi, g, hg.one⟩
  | poor hi h1 hp => intro g hg _; exact ⟨.poor hi (by rw [tp hg.one]; exact h1) hp, g, hg.one⟩
  | @stop s i j hi h1 hp hk2 hr hs =>
    intro g hg h0
    rw [key hi] at h1 hp hk2
    rw [hg.top] at h1
    obtain ⟨e1, f1⟩ := lft_walk hR hk hB hi hg h1.symm h0 S0 fs j (by omega)
    obtain ⟨e2, -⟩ := lft_walk hR hk hB hi hg h1.symm h0 S0 fs (j + 1) (by omega)
    refine ⟨?_, f1⟩
    rw [← e1]
    exact .stop hi (by rw [tp hg.one, hg.top, key hi]; exact h1) (by rw [key hi]; exact hp) (by rw [key hi]; exact hk2) (by rw [e1]; exact hr) (by rw [e2]; exact hs)
  | @leave s i hi h1 hp hr ho =>
    intro g hg h0
    rw [key hi] at h1 hp hr ⊢
    rw [hg.top] at h1
    obtain ⟨e1, f1⟩ := lft_walk hR hk hB hi hg h1.symm h0 S0 fs _ (Nat.le_refl _)
    refine ⟨?_, f1⟩
    rw [← e1, ← key hi]
    exact .leave hi (by rw [tp hg.one, hg.top, key hi]; exact h1) (by rw [key hi]; exact hp) (by rw [key hi, e1]; exact hr) ho
  | @on s u i hi h1 hp hr ho hn ih =>
    intro g hg h0
    rw [key hi] at h1 hp hr hn ih
    rw [hg.top] at h1
    obtain ⟨e1, -⟩ := lft_walk hR hk hB hi hg h1.symm h0 S0 fs _ (Nat.le_refl _)
    obtain ⟨g', hg'⟩ := far_next hR hk hB hi hg h1.symm (Nat.le_refl _) hr
    obtain ⟨i1, i2⟩ := ih g' hg' hr
    refine ⟨?_, i2⟩
    rw [← e1, ← key hi] at i1
    exact .on hi (by rw [tp hg.one, hg.top, key hi]; exact h1) (by rw [key hi]; exact hp) (by rw [key hi, e1]; exact hr) ho i1
end Go.Proofs.YtgdmdlkhnokieaaDoor
