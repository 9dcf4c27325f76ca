/- Counts of a place and of the one behind it: plain mathematics. -/
import Derived.Test.YtpkgibdbmmhgdaaDoorXCountMath
namespace Go.Proofs.YtpkgibdbmmhgdaaDoor
open Go Go.RowKit

/-- A place to which no jump leads, behind an instruction that only goes on. -/
def Eligible (P : List Fn) (a b : Nat) : Prop := 1 ≤ b ∧ (insD (P.getD a ⟨0, 0, []⟩) (b - 1)).op < 15 ∧ ∀ q, q < (P.getD a ⟨0, 0, []⟩).code.length → (insD (P.getD a ⟨0, 0, []⟩) q).op = 15 ∨ (insD (P.getD a ⟨0, 0, []⟩) q).op = 16 → (insD (P.getD a ⟨0, 0, []⟩) q).imm ≠ b
/-- Is a place next, and was it not counted? -/
def AtTop (S : St) (a b : Nat) : Prop := S.status ≠ 5 ∧ ∃ (fs : List Fr) (f : Fr), S.frames = fs ++ [f] ∧ f.fn = (a : Int) ∧ f.pc = (b : Int)
theorem snoc_last {fs gs : List Fr} {f g : Fr} (h : fs ++ [f] = gs ++ [g]) : fs = gs ∧ f = g := by
  have := List.append_inj' h rfl
  exact ⟨this.1, by simpa using this.2⟩
theorem atTop_iff {S : St} {fs : List Fr} {f : Fr} (h : S.frames = fs ++ [f]) (h5 : S.status ≠ 5) (a b : Nat) : AtTop S a b ↔ f.fn = (a : Int) ∧ f.pc = (b : Int) := by
  constructor
  · rintro ⟨_, gs, g, e, e1, e2⟩
    rw [h] at e
    obtain ⟨-, rfl⟩ := snoc_last e
    exact ⟨e1, e2⟩
  · exact fun ⟨e1, e2⟩ => ⟨h5, fs, f, h, e1, e2⟩
theorem doS_on {P : List Fn} {S : St} {fs : List Fr} {f : Fr} {x : Ins} (h1 : x.op ≠ 15) (h2 : x.op ≠ 16) (h3 : x.op ≠ 17) (h4 : x.op ≠ 19) : ∃ f', (doS P S fs f x).frames = fs ++ [f'] ∧ f'.fn = f.fn ∧ f'.pc = f.pc + 1 ∧ (doS P S fs f x).status = S.status := by
  unfold doS
  by_cases h13 : x.op = 13
  · rw [if_pos h13]; exact ⟨_, rfl, rfl, rfl, rfl⟩
  by_cases h14 : x.op = 14
  · rw [if_neg h13, if_pos h14]; exact ⟨_, rfl, rfl, rfl, rfl⟩
  by_cases h18 : x.op = 18
  · rw [if_neg h13, if_neg h14, if_neg h1, if_neg h2, if_neg h3, if_pos h18]; exact ⟨_, rfl, rfl, rfl, rfl⟩
  rw [if_neg h13, if_neg h14, if_neg h1, if_neg h2, if_neg h3, if_neg h18, if_neg h4]
  exact ⟨_, rfl, rfl, rfl, rfl⟩
/-- Where a step that takes from the fuel leads: no place that is eligible is next, but the one behind. -/
theorem step_top {P : List Fn} {S : St} (h : RunInv P S) (h0 : S.status = 0) {fs : List Fr} {f : Fr} {k j : Nat} (hk : k < P.length) (hj : j < P[k].code.length) (hS : S.frames = fs ++ [f]) (e1 : f.fn = k) (e2 : f.pc = j) (hi : insOfFr P f = P[k].code[j])
    (a b : Nat) (hel : Eligible P a b) :
    ((stepS P S).fuel = S.fuel - 1 ∧ (AtTop (stepS P S) a b ↔ (a = k ∧ b = j + 1))) ∨ ((stepS P S).fuel = S.fuel ∧ (AtTop (stepS P S) a b ↔ AtTop S a b)) := by
  have hD : P.getD k ⟨0, 0, []⟩ = P[k] := by simp [List.getD, hk]
  have hx : insD P[k] j = insOfFr P f := by rw [hi, insD_eq hj]
  have hsnoc := stepS_snoc (P := P) hS
  by_cases hf : S.fuel = 0
  · right
    rw [if_pos hf] at hsnoc
    rw [hsnoc]
    refine ⟨rfl, ?_⟩
    rw [atTop_iff (S := { S with status := 2 }) hS (by show (2 : Int) ≠ 5; decide), atTop_iff hS (by omega)]
  rw [if_neg hf] at hsnoc
  by_cases hb : barredI (insOfFr P f) (regD f (insOfFr P f).a) (regD f (insOfFr P f).b) = 0
  · left
    rw [if_pos hb] at hsnoc
    rw [hsnoc]
    refine ⟨doS_fuel _ _ _ _ _, ?_⟩
    have hnot : (15 ≤ (insOfFr P f).op) → ¬ (a = k ∧ b = j + 1) := by
      rintro h15 ⟨rfl, rfl⟩
      have := hel.2.1
      rw [hD, Nat.add_sub_cancel, hx] at this
      omega
    by_cases h15 : (insOfFr P f).op = 15
    · have hd : doS P { S with fuel := S.fuel - 1, status := 0 } fs f (insOfFr P f) = { S with fuel := S.fuel - 1, status := 0, frames := fs ++ [⟨f.fn, (insOfFr P f).imm, f.regs⟩] } := by
        unfold doS; rw [if_neg (by omega), if_neg (by omega), if_pos h15]
      rw [hd, atTop_iff (fs := fs) (f := ⟨f.fn, (insOfFr P f).imm, f.regs⟩) rfl (by show (0 : Int) ≠ 5; decide)]
      refine ⟨fun ⟨q1, q2⟩ => ?_, fun h => absurd h (hnot (by omega))⟩
      obtain rfl : k = a := by have : f.fn = a := q1; omega
      have := hel.2.2 j (by rw [hD]; exact hj)
      rw [hD, hx] at this
      exact absurd q2 (this (Or.inl h15))
    by_cases h16 : (insOfFr P f).op = 16
    · have hd : doS P { S with fuel := S.fuel - 1, status := 0 } fs f (insOfFr P f) = { S with fuel := S.fuel - 1, status := 0, frames := fs ++ [⟨f.fn, if regD f (insOfFr P f).a = 0 then f.pc + 1 else (insOfFr P f).imm, f.regs⟩] } := by
        unfold doS; rw [if_neg (by omega), if_neg (by omega), if_neg h15, if_pos h16]
      rw [hd, atTop_iff (fs := fs) (f := ⟨f.fn, if regD f (insOfFr P f).a = 0 then f.pc + 1 else (insOfFr P f).imm, f.regs⟩) rfl (by show (0 : Int) ≠ 5; decide)]
      refine ⟨fun ⟨q1, q2⟩ => ?_, fun h => absurd h (hnot (by omega))⟩
      obtain rfl : k = a := by have : f.fn = a := q1; omega
      dsimp only at q2
      split at q2
      · exact absurd ⟨rfl, by omega⟩ (hnot (by omega))
      · have := hel.2.2 j (by rw [hD]; exact hj)
        rw [hD, hx] at this
        exact absurd q2 (this (Or.inr h16))
    by_cases h17 : (insOfFr P f).op = 17
    · unfold doS
      rw [if_neg (by omega), if_neg (by omega), if_neg h15, if_neg h16, if_pos h17]
      refine ⟨fun ht => ?_, fun h => absurd h (hnot (by omega))⟩
      split at ht
      · exact absurd rfl ht.1
      · rw [atTop_iff (fs := fs ++ [f]) (f := begunFr (insOfFr P f).imm ([regD f (insOfFr P f).a, regD f (insOfFr P f).b].take (fnD P (insOfFr P f).imm).params.toNat)) (by simp) (by show (0 : Int) ≠ 5; decide)] at ht
        have q2 : (0 : Int) = b := ht.2
        have := hel.1
        omega
    by_cases h19 : (insOfFr P f).op = 19
    · have hd : doS P { S with fuel := S.fuel - 1, status := 0 } fs f (insOfFr P f) = retS P { S with fuel := S.fuel - 1, status := 0 } fs (regD f (insOfFr P f).a) := by
        unfold doS; rw [if_neg (by omega), if_neg (by omega), if_neg h15, if_neg h16, if_neg h17, if_neg (by omega), if_pos h19]
      rw [hd]
      refine ⟨fun ht => ?_, fun h => absurd h (hnot (by omega))⟩
      exfalso
      unfold retS at ht
      rcases List.eq_nil_or_concat fs with rfl | ⟨gs, g, rfl⟩
      · obtain ⟨_, us, u, e, _⟩ := ht
        exact absurd (show ([] : List Fr) = us ++ [u] from e) (by simp)
      · rw [List.concat_eq_append] at *
        have hgl : (gs ++ [g]).getLast? = some g := by simp
        rw [hgl] at ht
        dsimp only at ht
        rw [atTop_iff (fs := gs) (f := putF g (insOfFr P g).dst (regD f (insOfFr P f).a)) (by simp) (by show (0 : Int) ≠ 5; decide)] at ht
        have hmem : g ∈ S.frames := by rw [hS]; simp
        have hcall := ((fok_snoc P (gs ++ [g]) f).1 (by rw [← hS]; exact h.fok)).2.2 g hgl
        obtain ⟨gk, gj, hgk, hgj, g1, g2, -, g4⟩ := place_nat (h.fok.place g hmem)
        obtain ⟨q1, q2⟩ := ht
        have q1' : g.fn = a := q1
        have q2' : g.pc + 1 = b := q2
        obtain rfl : gk = a := by omega
        obtain rfl : b = gj + 1 := by omega
        have := hel.2.1
        rw [Nat.add_sub_cancel, show P.getD gk ⟨0, 0, []⟩ = P[gk] by simp [List.getD, hgk], insD_eq hgj, ← g4, hcall.1] at this
        omega
    · obtain ⟨f', ef, d1, d2, d3⟩ := doS_on (P := P) (S := { S with fuel := S.fuel - 1, status := 0 }) (fs := fs) (f := f) h15 h16 h17 h19
      rw [atTop_iff ef (by rw [d3]; show (0 : Int) ≠ 5; decide), d1, d2, e1, e2]
      constructor
      · rintro ⟨q1, q2⟩; exact ⟨by omega, by omega⟩
      · rintro ⟨rfl, rfl⟩; exact ⟨rfl, by omega⟩
  · right
    rw [if_neg hb] at hsnoc
    rw [hsnoc]
    refine ⟨rfl, ?_⟩
    rw [atTop_iff (S := { S with status := barredI (insOfFr P f) (regD f (insOfFr P f).a) (regD f (insOfFr P f).b) }) hS (by
      show barredI (insOfFr P f) (regD f (insOfFr P f).a) (regD f (insOfFr P f).b) ≠ 5
      rcases barredI_cases (insOfFr P f) (regD f (insOfFr P f).a) (regD f (insOfFr P f).b) with e | e | e <;> omega), atTop_iff hS (by omega)]
open Classical in
/-- What stands behind another instruction is done as often, but for the last time. -/
theorem cnt_flow {P : List Fn} (hR : ProofAns P 0) {S : St} (h : RunInv P S) (hb : ∀ a b, Eligible P a b → ¬ AtTop S a b) {a b : Nat} (hel : Eligible P a b) : ∀ n, cellC (cntS P S n) a (b - 1) - cellC (cntS P S n) a b = if AtTop (walkS P n S) a b then 1 else 0 := by
  intro n
  induction n with
  | zero => rw [cntS, cell_no, cell_no]; show (0 : Int) - 0 = if AtTop S a b then 1 else 0; rw [if_neg (hb a b hel)]; rfl
  | succ n ih =>
    rw [cntS]
    by_cases h0 : (walkS P n S).status = 0
    · have hi := runInv_walk hR n h
      obtain ⟨fs, f, k, j, hk, hj, e, e1, e2, e3, -⟩ := run_last hi h0
      rw [stepC_run h0 e e1 e2, cell_add (cshape_cnt P S n) hk hj, cell_add (cshape_cnt P S n) hk hj, walkS_succ P n S h0]
      rw [atTop_iff e (by omega), e1, e2] at ih
      have hel1 := hel.1
      rcases step_top hi h0 hk hj e e1 e2 e3 a b hel with ⟨q1, q2⟩ | ⟨q1, q2⟩
      · rw [q1]
        by_cases hc : a = k ∧ b = j + 1
        · rw [if_pos (q2.2 hc), if_pos ⟨hc.1, by omega⟩, if_neg (fun hh => by omega)]
          rw [if_neg (fun hh => by omega)] at ih
          omega
        · rw [if_neg (fun hh => hc (q2.1 hh)), if_neg (fun hh => hc ⟨hh.1, by omega⟩)]
          by_cases hd : a = k ∧ b = j
          · rw [if_pos hd]
            rw [if_pos ⟨by omega, by omega⟩] at ih
            omega
          · rw [if_neg hd]
            rw [if_neg (fun hh => hd ⟨by omega, by omega⟩)] at ih
            omega
      · rw [q1]
        have hc2 : AtTop (walkS P n S) a b ↔ ((k : Int) = a ∧ (j : Int) = b) := by rw [atTop_iff e (by omega), e1, e2]
        have ez : (walkS P n S).fuel - (walkS P n S).fuel = 0 := by omega
        rw [ez, ite_self, ite_self]
        by_cases hc : (k : Int) = a ∧ (j : Int) = b
        · rw [if_pos (q2.2 (hc2.2 hc))]
          rw [if_pos hc] at ih
          omega
        · rw [if_neg (fun hh => hc (hc2.1 (q2.1 hh)))]
          rw [if_neg hc] at ih
          omega
    · rw [stepC_end h0, walkS_ended P n (n + 1) S (by omega) h0]; exact ih
theorem AtTop.one {S : St} {a b a' b' : Nat} (h : AtTop S a b) (h' : AtTop S a' b') : a = a' ∧ b = b' := by
  obtain ⟨h5, fs, f, e, e1, e2⟩ := h
  have := (atTop_iff e h5 a' b').1 h'
  omega
theorem begin_notTop (args answers : List Int) (fuel : Int) (P : List Fn) (a b : Nat) (h : Eligible P a b) : ¬ AtTop (beginSt args answers fuel) a b := by
  rw [atTop_iff (fs := []) (f := begunFr 0 args) rfl (by show (0 : Int) ≠ 5; decide)]
  rintro ⟨_, q⟩
  have q' : (0 : Int) = b := q
  have := h.1
  omega
end Go.Proofs.YtpkgibdbmmhgdaaDoor
