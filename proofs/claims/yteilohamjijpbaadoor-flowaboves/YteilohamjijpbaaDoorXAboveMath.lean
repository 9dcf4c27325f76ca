/- Which block stands on each way to another: plain mathematics. -/
import Derived.Test.YteilohamjijpbaaDoorXBlockPrev
namespace Go.Proofs.YteilohamjijpbaaDoor
open Go Go.RowKit

/-- From the first block there is a way to a block that does not come through another one. -/
inductive WayB (pv : Nat → List Nat) (d : Nat) : Nat → Prop
  | start (h : 0 ≠ d) : WayB pv d 0
  | step {p b : Nat} (hw : WayB pv d p) (he : p ∈ pv b) (hn : b ≠ d) : WayB pv d b
theorem WayB.ne {pv : Nat → List Nat} {d b : Nat} (h : WayB pv d b) : b ≠ d := by
  cases h with
  | start h => exact h
  | step _ _ hn => exact hn
/-- What stands on the ways to each of these blocks. -/
def andAll (on : List (BitVec 64)) (ps : List Nat) : BitVec 64 := ps.foldl (fun m p => m &&& on.getD p 0#64) (BitVec.allOnes 64)
theorem andAll_bit' (on : List (BitVec 64)) (d : Nat) : ∀ (ps : List Nat) (m : BitVec 64), (ps.foldl (fun m p => m &&& on.getD p 0#64) m).getLsbD d = true ↔ (m.getLsbD d = true ∧ ∀ p ∈ ps, (on.getD p 0#64).getLsbD d = true)
  | [], m => by simp
  | p :: ps, m => by
    rw [List.foldl_cons, andAll_bit' on d ps, BitVec.getLsbD_and, Bool.and_eq_true]
    simp only [List.mem_cons, forall_eq_or_imp, and_assoc]
theorem andAll_bit (on : List (BitVec 64)) (ps : List Nat) {d : Nat} (hd : d < 64) : (andAll on ps).getLsbD d = true ↔ ∀ p ∈ ps, (on.getD p 0#64).getLsbD d = true := by
  unfold andAll
  rw [andAll_bit', BitVec.getLsbD_allOnes]
  exact ⟨fun h => h.2, fun h => ⟨by simpa using hd, h⟩⟩
def leftB (pv : Nat → List Nat) (on : List (BitVec 64)) (b : Nat) : BitVec 64 := (1#64 <<< b) ||| andAll on (pv b)
theorem leftB_bit (pv : Nat → List Nat) (on : List (BitVec 64)) (b : Nat) {d : Nat} (hd : d < 64) : (leftB pv on b).getLsbD d = true ↔ (d = b ∨ ∀ p ∈ pv b, (on.getD p 0#64).getLsbD d = true) := by
  unfold leftB
  rw [BitVec.getLsbD_or, Bool.or_eq_true, andAll_bit on _ hd]
  have e : (1#64 <<< b).getLsbD d = true ↔ d = b := by
    rw [BitVec.getLsbD_shiftLeft, BitVec.getLsbD_one]
    simp only [hd, decide_true, Bool.true_and, Bool.and_eq_true, Bool.not_eq_true', decide_eq_false_iff_not, decide_eq_true_eq]
    omega
  rw [e]
/-- What holds all along of the blocks' numbers. -/
structure OnInv (pv : Nat → List Nat) (K : Nat) (on : List (BitVec 64)) : Prop where
  len : on.length = K
  zero : on.getD 0 0#64 = 1#64
  sound : ∀ b, b < K → ∀ d, d < 64 → ¬ WayB pv d b → (on.getD b 0#64).getLsbD d = true
  post : ∀ b, 1 ≤ b → b < K → ∀ d, d < 64 → (leftB pv on b).getLsbD d = true → (on.getD b 0#64).getLsbD d = true
theorem bgetD_set (l : List (BitVec 64)) (i q : Nat) (v : BitVec 64) (hi : i < l.length) : (l.set i v).getD q 0#64 = if q = i then v else l.getD q 0#64 := by
  simp only [List.getD_eq_getElem?_getD, List.getElem?_set]
  by_cases h : i = q
  · subst h; simp [hi]
  · rw [if_neg h, if_neg (fun e => h e.symm)]
theorem OnInv.step {pv : Nat → List Nat} {K : Nat} (hp : ∀ b p, p ∈ pv b → p < K) {on : List (BitVec 64)} (h : OnInv pv K on) {b : Nat} (hb1 : 1 ≤ b) (hb : b < K) : OnInv pv K (on.set b (leftB pv on b)) := by
  have hs : ∀ q, (on.set b (leftB pv on b)).getD q 0#64 = if q = b then leftB pv on b else on.getD q 0#64 := fun q => bgetD_set on b q _ (by rw [h.len]; exact hb)
  have hle : ∀ q d, d < 64 → ((on.set b (leftB pv on b)).getD q 0#64).getLsbD d = true → (on.getD q 0#64).getLsbD d = true := fun q d hd hq => by
    rw [hs] at hq
    by_cases he : q = b
    · subst he; rw [if_pos rfl] at hq; exact h.post q hb1 hb d hd hq
    · rw [if_neg he] at hq; exact hq
  have hmono : ∀ c d, d < 64 → (leftB pv (on.set b (leftB pv on b)) c).getLsbD d = true → (leftB pv on c).getLsbD d = true := fun c d hd hq => by
    rw [leftB_bit _ _ _ hd] at hq ⊢
    rcases hq with e | e
    · exact Or.inl e
    · exact Or.inr fun p hpm => hle p d hd (e p hpm)
  refine ⟨by rw [List.length_set]; exact h.len, ?_, fun c hc d hd hn => ?_, fun c hc1 hc d hd hq => ?_⟩
  · rw [hs, if_neg (by omega)]; exact h.zero
  · rw [hs]
    by_cases he : c = b
    · subst he
      rw [if_pos rfl, leftB_bit _ _ _ hd]
      by_cases hdc : d = c
      · exact Or.inl hdc
      · refine Or.inr fun p hpm => h.sound p (hp c p hpm) d hd fun hw => hn (WayB.step hw hpm (fun e => hdc e.symm))
    · rw [if_neg he]; exact h.sound c hc d hd hn
  · rw [hs]
    by_cases he : c = b
    · subst he; rw [if_pos rfl]; exact hmono c d hd hq
    · rw [if_neg he]; exact h.post c hc1 hc d hd (hmono c d hd hq)
/-- Where nothing falls any more, the numbers say who stands on each way. -/
theorem OnInv.done {pv : Nat → List Nat} {K : Nat} (hp : ∀ b p, p ∈ pv b → p < K ∧ b < K) {on : List (BitVec 64)} (h : OnInv pv K on) (hfix : ∀ b, 1 ≤ b → b < K → on.getD b 0#64 = leftB pv on b) {b d : Nat} (hb : b < K) (hd : d < 64) : (on.getD b 0#64).getLsbD d = true ↔ ¬ WayB pv d b := by
  refine ⟨fun hq hw => ?_, h.sound b hb d hd⟩
  clear hb
  induction hw with
  | start h0 =>
    rw [h.zero, BitVec.getLsbD_one] at hq
    simp at hq
    omega
  | @step p b hw he hn ih =>
    apply ih
    by_cases h0 : b = 0
    · subst h0
      rw [h.zero, BitVec.getLsbD_one] at hq
      simp at hq
      omega
    · rw [hfix b (by omega) (hp b p he).2, leftB_bit _ _ _ hd] at hq
      rcases hq with e | e
      · exact absurd e.symm hn
      · exact e p he

/-- One block stands on each way to another. -/
def Dom (pv : Nat → List Nat) (d b : Nat) : Prop := ¬ WayB pv d b
theorem Dom.self (pv : Nat → List Nat) (b : Nat) : Dom pv b b := fun h => h.ne rfl
theorem Dom.zero (pv : Nat → List Nat) (b : Nat) : Dom pv 0 b := fun h => by
  induction h with
  | start h => exact h rfl
  | step _ _ _ ih => exact ih
theorem WayB.cut {pv : Nat → List Nat} {d b : Nat} (h : WayB pv d b) (e : Nat) : WayB pv e b ∨ WayB pv d e := by
  induction h with
  | start h =>
    by_cases he : 0 = e
    · subst he; exact Or.inr (WayB.start h)
    · exact Or.inl (WayB.start he)
  | @step p b hw hp hn ih =>
    rcases ih with h1 | h1
    · by_cases he : b = e
      · subst he; exact Or.inr (WayB.step hw hp hn)
      · exact Or.inl (WayB.step h1 hp he)
    · exact Or.inr h1
theorem Dom.trans {pv : Nat → List Nat} {d e b : Nat} (h1 : Dom pv d e) (h2 : Dom pv e b) : Dom pv d b := fun h => by
  rcases h.cut e with h3 | h3
  · exact h2 h3
  · exact h1 h3
/-- A block that is come to at all. -/
def Come (pv : Nat → List Nat) (b : Nat) : Prop := ∃ x, WayB pv x b
theorem Dom.anti {pv : Nat → List Nat} {d e : Nat} (hd : Come pv d) (h1 : Dom pv d e) (h2 : Dom pv e d) : d = e := by
  by_cases hne : d = e
  · exact hne
  · obtain ⟨x, hx⟩ := hd
    have key : ∀ b, WayB pv x b → WayB pv d b ∧ WayB pv e b := fun b hb => by
      induction hb with
      | start _ =>
        by_cases h0 : 0 = d
        · subst h0; exact absurd (WayB.start hne) h2
        · by_cases h0e : 0 = e
          · subst h0e; exact absurd (WayB.start h0) h1
          · exact ⟨WayB.start h0, WayB.start h0e⟩
      | @step p b _ hp _ ih =>
        by_cases hbd : b = d
        · subst hbd; exact absurd (WayB.step ih.2 hp hne) h2
        · by_cases hbe : b = e
          · subst hbe; exact absurd (WayB.step ih.1 hp hbd) h1
          · exact ⟨WayB.step ih.1 hp hbd, WayB.step ih.2 hp hbe⟩
    exact absurd rfl (key d hx).1.ne
theorem Dom.chain {pv : Nat → List Nat} {d e b : Nat} (hb : Come pv b) (h1 : Dom pv d b) (h2 : Dom pv e b) : Dom pv d e ∨ Dom pv e d := by
  by_cases h3 : WayB pv d e
  · by_cases h4 : WayB pv e d
    · exfalso
      obtain ⟨x, hx⟩ := hb
      have key : ∀ c, WayB pv x c → WayB pv d c ∨ WayB pv e c := fun c hc => by
        induction hc with
        | start _ =>
          by_cases h0 : 0 = d
          · subst h0; exact Or.inr (WayB.start h3.ne.symm)
          · exact Or.inl (WayB.start h0)
        | @step p c _ hp _ ih =>
          rcases ih with h5 | h5
          · by_cases hc : c = d
            · subst hc; exact Or.inr h4
            · exact Or.inl (WayB.step h5 hp hc)
          · by_cases hc : c = e
            · subst hc; exact Or.inl h3
            · exact Or.inr (WayB.step h5 hp hc)
      rcases key b hx with h5 | h5
      · exact h1 h5
      · exact h2 h5
    · exact Or.inr h4
  · exact Or.inl h3
/-- The nearest so far of those that stand on each way to a block. -/
def NearTo (pv : Nat → List Nat) (blk b : Nat) (z : Int) : Prop := (z = -1 ∧ ∀ e, e < b → e ≠ blk → ¬ Dom pv e blk) ∨ ∃ a : Nat, z = (a : Int) ∧ a < b ∧ a ≠ blk ∧ Dom pv a blk ∧ ∀ e, e < b → e ≠ blk → Dom pv e blk → Dom pv e a
theorem NearTo.start (pv : Nat → List Nat) (blk : Nat) : NearTo pv blk 0 (-1) := Or.inl ⟨rfl, fun _ h => absurd h (Nat.not_lt_zero _)⟩
theorem NearTo.skip {pv : Nat → List Nat} {blk b : Nat} {z : Int} (h : NearTo pv blk b z) (hn : b = blk ∨ ¬ Dom pv b blk) : NearTo pv blk (b + 1) z := by
  rcases h with ⟨e, h1⟩ | ⟨a, e, h1, h2, h3, h4⟩
  · refine Or.inl ⟨e, fun c hc hne => ?_⟩
    by_cases hcb : c = b
    · subst hcb; exact hn.resolve_left hne
    · exact h1 c (by omega) hne
  · refine Or.inr ⟨a, e, by omega, h2, h3, fun c hc hne hd => ?_⟩
    by_cases hcb : c = b
    · subst hcb
      rcases hn with hn | hn
      · exact absurd hn hne
      · exact absurd hd hn
    · exact h4 c (by omega) hne hd
theorem NearTo.first {pv : Nat → List Nat} {blk b : Nat} (h : NearTo pv blk b (-1)) (hb : b ≠ blk) (hd : Dom pv b blk) : NearTo pv blk (b + 1) (b : Int) := by
  rcases h with ⟨-, h1⟩ | ⟨a, e, _⟩
  · refine Or.inr ⟨b, rfl, by omega, hb, hd, fun c hc hne hdc => ?_⟩
    by_cases hcb : c = b
    · subst hcb; exact Dom.self pv c
    · exact absurd hdc (h1 c (by omega) hne)
  · omega
theorem NearTo.take {pv : Nat → List Nat} {blk b a : Nat} (h : NearTo pv blk b (a : Int)) (hb : b ≠ blk) (hd : Dom pv b blk) (hab : Dom pv a b) : NearTo pv blk (b + 1) (b : Int) := by
  rcases h with ⟨e, _⟩ | ⟨a', e, h1, h2, h3, h4⟩
  · omega
  · obtain rfl : a = a' := by omega
    refine Or.inr ⟨b, rfl, by omega, hb, hd, fun c hc hne hdc => ?_⟩
    by_cases hcb : c = b
    · subst hcb; exact Dom.self pv c
    · exact (h4 c (by omega) hne hdc).trans hab
theorem NearTo.keep {pv : Nat → List Nat} {blk b a : Nat} (hc : Come pv blk) (h : NearTo pv blk b (a : Int)) (hd : Dom pv b blk) (hab : ¬ Dom pv a b) : NearTo pv blk (b + 1) (a : Int) := by
  rcases h with ⟨e, _⟩ | ⟨a', e, h1, h2, h3, h4⟩
  · omega
  · obtain rfl : a = a' := by omega
    refine Or.inr ⟨a, rfl, by omega, h2, h3, fun c hcb hne hdc => ?_⟩
    by_cases he : c = b
    · subst he; exact (Dom.chain hc h3 hd).resolve_left hab
    · exact h4 c (by omega) hne hdc
/-- The block above a block, if it is not the first one. -/
theorem NearTo.above {pv : Nat → List Nat} {K blk : Nat} {z : Int} (h : NearTo pv blk K z) (hk : 0 < K) (h0 : blk ≠ 0) : ∃ a : Nat, z = (a : Int) ∧ a < K ∧ a ≠ blk ∧ Dom pv a blk ∧ ∀ e, e < K → e ≠ blk → Dom pv e blk → Dom pv e a := by
  rcases h with ⟨_, h1⟩ | h1
  · exact absurd (Dom.zero pv blk) (h1 0 hk (fun e => h0 e.symm))
  · exact h1
theorem NearTo.none {pv : Nat → List Nat} {K : Nat} {z : Int} (hc : Come pv 0) (h : NearTo pv 0 K z) : z = -1 := by
  rcases h with ⟨e, _⟩ | ⟨a, _, _, h2, h3, _⟩
  · exact e
  · exact absurd (Dom.anti hc (Dom.zero pv a) h3).symm h2
/-- A block with one way to it has that one above it. -/
theorem NearTo.only {pv : Nat → List Nat} {K blk p a : Nat} (hc : Come pv blk) (hp : pv blk = [p]) (hpK : p < K) (h0 : blk ≠ 0) (ha : a ≠ blk ∧ Dom pv a blk ∧ ∀ e, e < K → e ≠ blk → Dom pv e blk → Dom pv e a) (hca : Come pv p) : a = p := by
  have hpb : p ≠ blk := fun e => by
    subst e
    obtain ⟨x, hx⟩ := hc
    have key : ∀ c, WayB pv x c → c ≠ p := fun c hw => by
      induction hw with
      | start _ => exact fun e => h0 e.symm
      | @step q c _ hq _ ih =>
        intro e
        subst e
        rw [hp] at hq
        exact ih (List.mem_singleton.1 hq)
    exact key p hx rfl
  have hd : Dom pv p blk := fun h => by
    cases h with
    | start _ => exact h0 rfl
    | step hw he _ =>
      rw [hp] at he
      obtain rfl := List.mem_singleton.1 he
      exact hw.ne rfl
  have h1 := ha.2.2 p hpK hpb hd
  have h2 : Dom pv a p := fun h => ha.2.1 (WayB.step h (by rw [hp]; exact List.mem_singleton.2 rfl) (fun e => ha.1 e.symm))
  exact (Dom.anti hca h1 h2).symm
end Go.Proofs.YteilohamjijpbaaDoor
