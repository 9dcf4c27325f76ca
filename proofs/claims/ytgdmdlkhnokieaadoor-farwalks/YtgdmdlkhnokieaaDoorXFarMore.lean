/- How far machine code goes (P13.3): why it leaves there, what is handed back, and fuel in two parts. -/
import Derived.Test.YtgdmdlkhnokieaaDoorXFarMath
namespace Go.Proofs.YtgdmdlkhnokieaaDoor
open Go Go.RowKit

theorem doS_runs {P : List Fn} {S : St} {fs : List Fr} {f : Fr} {x : Ins} (h : x.op < 17) : (doS P S fs f x).status = S.status := by
  unfold doS
  repeat' split
  all_goals first | rfl | omega
/-- A step that ends a run, and is no Call, Host or Ret, changes the status alone. -/
theorem far_ends {P : List Fn} {s : St} {fs : List Fr} {g : Fr} (hs : s.frames = fs ++ [g]) (hop : (insOfFr P g).op < 17) (h0 : (stepS P s).status ≠ 0) : stepS P s = { s with status := (stepS P s).status } ∧ (s.fuel ≠ 0 → barredI (insOfFr P g) (regD g (insOfFr P g).a) (regD g (insOfFr P g).b) ≠ 0) := by
  rw [stepS_snoc hs] at h0 ⊢
  by_cases hf : s.fuel = 0
  · rw [if_pos hf]; exact ⟨rfl, fun h => absurd hf h⟩
  · rw [if_neg hf] at h0 ⊢
    by_cases hb : barredI (insOfFr P g) (regD g (insOfFr P g).a) (regD g (insOfFr P g).b) = 0
    · rw [if_pos hb, doS_runs hop] at h0; exact absurd rfl h0
    · rw [if_neg hb]; exact ⟨rfl, fun _ => hb⟩
/-- Where a block's steps end the run: what was come to ahead of the end, but for the status. -/
theorem far_stop {P : List Fn} (hR : ProofAns P 0) {k : Nat} (hk : k < P.length) {S : List Nat} {T : Nat → Nat} (hB : BlkOk P[k] S T) {i : Nat} (hi : i < S.length) {s : St} {g : Fr} (hs : OneSt P k s g) (hp : g.pc = ((S[i] : Nat) : Int)) (h0 : s.status = 0) :
    ∀ n, n ≤ manyB P[k] S[i] (T i) → (walkS P n s).status ≠ 0 → ∃ j, j < n ∧ (walkS P j s).status = 0 ∧ (walkS P (j + 1) s).status ≠ 0 ∧ walkS P n s = { walkS P j s with status := (walkS P n s).status }
  | 0, _, h => absurd h0 h
  | n + 1, hn, h => by
    by_cases h1 : (walkS P n s).status = 0
    · refine ⟨n, by omega, h1, h, ?_⟩
      have hm := many_le P[k] S[i] (T i)
      obtain ⟨g', o1, p1, x1⟩ := blk_walk hR hk hB hi hs hp n (by omega) h1
      have hop := many_op hB hi (show n < manyB P[k] S[i] (T i) by omega)
      rw [← x1] at hop
      rw [walkS_succ P n s h1] at h ⊢
      exact (far_ends (show (walkS P n s).frames = [] ++ [g'] from o1.one) hop h).1
    · obtain ⟨j, a, b, c, d⟩ := far_stop hR hk hB hi hs hp h0 n (by omega) h1
      rw [walkS_ended P n (n + 1) s (by omega) h1]
      exact ⟨j, by omega, b, c, d⟩
/-- What is handed back: as far as machine code goes, but for the status. -/
def FarX (P : List Fn) (f : Fn) (S : List Nat) (T : Nat → Nat) (s X : St) : Prop := ∃ u c, FarTo P f S T s u ∧ X = { u with status := c }
theorem St.same (u : St) : u = { u with status := u.status } := rfl
/-- Why machine code leaves. -/
theorem FarTo.why {P : List Fn} (hR : ProofAns P 0) {k : Nat} (hk : k < P.length) (ok : FlowOk P P[k]) {S : List Nat} {T : Nat → Nat} (hB : BlkOk P[k] S T) {s u : St} (h : FarTo P P[k] S T s u) : ∀ g, OneSt P k s g → s.status = 0 → ∃ g', OneSt P k u g' ∧ u.status = 0 ∧
    (17 ≤ (insOfFr P g').op ∨ barredI (insOfFr P g') (regD g' (insOfFr P g').a) (regD g' (insOfFr P g').b) ≠ 0 ∨ (∃ (i : Nat) (hi : i < S.length), ((S[i] : Nat) : Int) = g'.pc ∧ u.fuel < ((T i : Nat) : Int) - ((S[i] : Nat) : Int)) ∨ (u = s ∧ ∀ (i : Nat) (hi : i < S.length), ((S[i] : Nat) : Int) ≠ g'.pc)) := by
  have key : ∀ {i : Nat} (hi : i < S.length), S.getD i 0 = S[i] := fun hi => by simp [List.getD, hi]
  induction h with
  | none h =>
    intro g hg h0
    refine ⟨g, hg, h0, Or.inr (Or.inr (Or.inr ⟨rfl, fun i hi e => h i hi ?_⟩))⟩
    rw [hg.top, key hi]; exact e
  | @poor s i hi h1 hp =>
    intro g hg h0
    rw [key hi] at h1 hp
    rw [hg.top] at h1
    refine ⟨g, hg, h0, Or.inr (Or.inr (Or.inl ⟨i, hi, h1, ?_⟩))⟩
    have hm := many_le P[k] S[i] (T i)
    have hl := (hB.ends i hi).lt
    omega
  | @stop s i j hi h1 hp hk2 hr hs =>
    intro g hg h0
    rw [key hi] at h1 hp hk2
    rw [hg.top] at h1
    have hm := many_le P[k] S[i] (T i)
    obtain ⟨g', o1, p1, x1⟩ := blk_walk hR hk hB hi hg h1.symm j (by omega) hr
    have hop := many_op hB hi hk2
    rw [← x1] at hop
    have hfu := run_fuel hR hg.inv j hr
    rw [walkS_succ P j s hr] at hs
    exact ⟨g', o1, hr, Or.inr (Or.inl ((far_ends (show (walkS P j s).frames = [] ++ [g'] from o1.one) hop hs).2 (by omega)))⟩
  | @leave s i hi h1 hp hr ho =>
    intro g hg h0
    rw [key hi] at h1 hp hr ⊢
    rw [hg.top] at h1
    have hl := (hB.ends i hi).lt
    have hn : manyB P[k] S[i] (T i) = T i - S[i] - 1 := by unfold manyB; rw [if_pos ho]
    obtain ⟨g', o1, p1, x1⟩ := blk_walk hR hk hB hi hg h1.symm (manyB P[k] S[i] (T i)) (by omega) hr
    refine ⟨g', o1, hr, Or.inl ?_⟩
    rw [x1, show S[i] + manyB P[k] S[i] (T i) = T i - 1 by omega]; exact ho
  | @on s u i hi h1 hp hr ho hn ih =>
    intro g hg h0
    rw [key hi] at h1 hp hr hn ih
    rw [hg.top] at h1
    have hl := (hB.ends i hi).lt
    have hmn : manyB P[k] S[i] (T i) = T i - S[i] := by unfold manyB; rw [if_neg ho]
    obtain ⟨n, hn2⟩ : ∃ n, manyB P[k] S[i] (T i) = n + 1 := ⟨T i - S[i] - 1, by omega⟩
    obtain ⟨g1, hg1⟩ := far_next hR hk hB hi hg h1.symm (Nat.le_refl _) hr
    obtain ⟨g', o1, o2, o3⟩ := ih g1 hg1 hr
    refine ⟨g', o1, o2, ?_⟩
    rcases o3 with a | a | a | ⟨a, b⟩
    · exact Or.inl a
    · exact Or.inr (Or.inl a)
    · exact Or.inr (Or.inr (Or.inl a))
    · exfalso
      rw [a] at o1
      have hgg : g' = g1 := by have e1 := o1.one; rw [hg1.one] at e1; exact (List.cons.inj e1).1.symm
      subst hgg
      rw [hn2] at hr hg1
      have hr1 := walk_run_le (show n ≤ n + 1 by omega) hr
      obtain ⟨g2, q1, q2, q3⟩ := blk_walk hR hk hB hi hg h1.symm n (by omega) hr1
      have hop := many_op hB hi (show n < manyB P[k] S[i] (T i) by omega)
      rw [← q3] at hop
      have hst := hr
      rw [walkS_succ P n s hr1] at hst
      obtain ⟨f', r1, r2, q, r3, r4⟩ := far_other hR q1.inv (show (walkS P n s).frames = [] ++ [g2] from q1.one) hst (by omega) (by omega)
      have e1 := hg1.one
      rw [walkS_succ P n s hr1, r1] at e1
      obtain rfl : f' = g' := by simpa using e1
      rw [q3, q2, Int.toNat_natCast, show S[i] + n = T i - 1 by omega] at r4
      have hw := (hB.starts.reach ok (List.getElem_mem hi)).1
      have hq := (hB.ends i hi).leads ok hB.starts hw r4
      obtain ⟨m, hm, em⟩ := List.getElem_of_mem hq
      exact b m hm (by rw [em, r3])
/-- Machine code may be left, and entered again with more fuel. -/
theorem FarTo.parts {P : List Fn} (hR : ProofAns P 0) {k : Nat} (hk : k < P.length) {S : List Nat} {T : Nat → Nat} (hB : BlkOk P[k] S T) (d : Int) (hd : 0 ≤ d) {a b : St} (h : FarTo P P[k] S T a b) : ∀ g, OneSt P k a g → a.status = 0 → ∀ c, FarTo P P[k] S T (addF d b) c → FarTo P P[k] S T (addF d a) c := by
  have key : ∀ {i : Nat} (hi : i < S.length), S.getD i 0 = S[i] := fun hi => by simp [List.getD, hi]
  have tp : ∀ s : St, topF (addF d s) = topF s := fun s => rfl
  have fu : ∀ s : St, (addF d s).fuel = s.fuel + d := fun s => rfl
  have only : ∀ {i j : Nat} (hi : i < S.length) (h0 : 0 < j) (hj : S[i] + j < T i) {v c : St}, (topF v).pc = ((S[i] + j : Nat) : Int) → FarTo P P[k] S T v c → c = v := by
    intro i j hi h0 hj v c hv hc
    have no : ∀ m (hm : m < S.length), ((S.getD m 0 : Nat) : Int) ≠ (topF v).pc := by
      intro m hm e
      rw [hv, key hm] at e
      have e2 : S[m] = S[i] + j := by omega
      refine ((hB.ends i hi).goes (S[i] + j) (by omega) hj).2 ?_
      rw [← e2]; exact List.getElem_mem hm
    cases hc with
    | none => rfl
    | poor hi h1 => exact absurd h1 (no _ hi)
    | stop hi h1 => exact absurd h1 (no _ hi)
    | leave hi h1 => exact absurd h1 (no _ hi)
    | on hi h1 => exact absurd h1 (no _ hi)
  induction h with
  | none h => intro g hg _ c hc; exact hc
  | poor hi h1 hp => intro g hg _ c hc; exact hc
  | @stop s i j hi h1 hp hk2 hr hs =>
    intro g hg h0 c hc
    have h1' := h1
    have hp' := hp
    have hk' := hk2
    rw [key hi] at h1 hp hk2
    rw [hg.top] at h1
    have hm := many_le P[k] S[i] (T i)
    obtain ⟨g', o1, p1, x1⟩ := blk_walk hR hk hB hi hg h1.symm j (by omega) hr
    have hfu := run_fuel hR hg.inv j hr
    have hop := many_op hB hi hk2
    rw [← x1] at hop
    have e1 := walk_addF hR hg.inv d hd j (by omega)
    have hs2 : (walkS P (j + 1) s).status ≠ 2 := by
      rw [walkS_succ P j s hr]
      rcases stepS_cases P (walkS P j s) (by rw [o1.one]; simp) with ⟨_, _, n⟩ | ⟨n, _⟩ | ⟨_, _, n⟩ <;> omega
    have e2 := walk_addF hR hg.inv d hd (j + 1) hs2
    have hc2 : c = walkS P j (addF d s) ∨ j = 0 := by
      rcases Nat.eq_zero_or_pos j with e | e
      · exact Or.inr e
      · exact Or.inl ((only hi e (by omega) (by rw [tp, o1.top]; exact p1) hc).trans e1.symm)
    rcases hc2 with rfl | rfl
    · exact .stop hi (by rw [tp]; exact h1') (by rw [fu]; omega) hk' (by rw [e1]; exact hr) (by rw [e2]; exact hs)
    · exact hc
  | @leave s i hi h1 hp hr ho =>
    intro g hg h0 c hc
    have h1' := h1
    have hp' := hp
    rw [hg.top, key hi] at h1
    have hl := (hB.ends i hi).lt
    have hn : manyB P[k] (S.getD i 0) (T i) = T i - S[i] - 1 := by rw [key hi]; unfold manyB; rw [if_pos ho]
    have e1 := walk_addF hR hg.inv d hd _ (show (walkS P (manyB P[k] (S.getD i 0) (T i)) s).status ≠ 2 by omega)
    obtain ⟨g', o1, p1, x1⟩ := blk_walk hR hk hB hi hg h1.symm (manyB P[k] (S.getD i 0) (T i)) (by omega) hr
    have hc2 : c = walkS P (manyB P[k] (S.getD i 0) (T i)) (addF d s) ∨ manyB P[k] (S.getD i 0) (T i) = 0 := by
      rcases Nat.eq_zero_or_pos (manyB P[k] (S.getD i 0) (T i)) with e | e
      · exact Or.inr e
      · exact Or.inl ((only hi e (by omega) (by rw [tp, o1.top]; exact p1) hc).trans e1.symm)
    rcases hc2 with rfl | e
    · exact .leave hi (by rw [tp]; exact h1') (by rw [fu]; omega) (by rw [e1]; exact hr) ho
    · rw [e] at hc; exact hc
  | @on s u i hi h1 hp hr ho hn ih =>
    intro g hg h0 c hc
    have h1' := h1
    rw [hg.top, key hi] at h1
    have e1 := walk_addF hR hg.inv d hd _ (show (walkS P (manyB P[k] (S.getD i 0) (T i)) s).status ≠ 2 by omega)
    obtain ⟨g1, hg1⟩ := far_next hR hk hB hi hg h1.symm (j := manyB P[k] (S.getD i 0) (T i)) (by rw [key hi]; exact Nat.le_refl _) hr
    have := ih g1 hg1 hr c hc
    exact .on hi (by rw [tp]; exact h1') (by rw [fu]; omega) (by rw [e1]; exact hr) ho (by rw [e1]; exact this)
/-- A state with its last frame alone. -/
def oneS (s : St) (f : Fr) : St := ⟨0, 0, [f], s.mem, s.fuel, [], []⟩
theorem lft_one {s : St} {fs : List Fr} {f : Fr} (hfr : s.frames = fs ++ [f]) (hst : s.status = 0) : lft s fs (oneS s f) = s := by
  unfold lft oneS
  rw [← hfr, ← hst]
/-- Where a block begins machine code may go on. -/
theorem one_ok {P : List Fn} (_hR : ProofAns P 0) {s : St} {fs : List Fr} {f : Fr} (hm : mayB s = true) (hf : FOk P s.frames) (hfr : s.frames = fs ++ [f]) (hw : f.regs.length = 12) (hm16 : s.mem.length = 16) {k : Nat} (hk : k < P.length) (hfn : f.fn = (k : Int)) (hr : Way P[k] 63 f.pc.toNat) : OneSt P k (oneS s f) f := by
  refine ⟨⟨?_, ?_, ?_, ?_, hm16⟩, rfl, hfn⟩
  · have h := (mayB_iff s).1 hm
    refine (mayB_iff _).2 ⟨by show (0 : Int) ≤ 0; omega, by show (0 : Int) ≤ 5; omega, h.2.2.1, h.2.2.2.1, by show 1 ≤ 8; omega, by show 0 ≤ 100; omega, ?_, Or.inr rfl⟩
    show (0 : Int) = 1 ↔ 1 = 0
    omega
  · rw [hfr] at hf
    have h := ((fok_snoc P fs f).1 hf).2.1
    exact (fok_snoc P [] f).2 ⟨⟨fun _ h => (by cases h), fun k a b ha _ => (by simp at ha)⟩, h, fun g hg => (by cases hg)⟩
  · intro g hg
    obtain rfl := List.mem_singleton.1 hg
    unfold ReachFr
    have : fnD P g.fn = P[k] := by rw [hfn]; simp [fnD, List.getD, hk]
    rw [this]; exact hr
  · intro g hg
    obtain rfl := List.mem_singleton.1 hg
    exact hw
end Go.Proofs.YtgdmdlkhnokieaaDoor
