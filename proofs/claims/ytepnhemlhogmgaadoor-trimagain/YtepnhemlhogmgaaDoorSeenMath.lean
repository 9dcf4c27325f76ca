/- Places that are seen, round by round, and numbers that grow bit by bit: plain mathematics. -/
import Derived.Test.YtepnhemlhogmgaaDoorSureMath
import Derived.Test.YtepnhemlhogmgaaDoorReadsAll
namespace Go.Proofs.YtepnhemlhogmgaaDoor
open Go Go.RowKit

def SSound (f : Fn) (r : Nat) (s : List Bool) : Prop := ∀ q, s.getD q false = true → Way f r q
def unseen (s : List Bool) : Nat := s.count false
theorem bget_set (s : List Bool) (i q : Nat) (v : Bool) (hi : i < s.length) : (s.set i v).getD q false = if q = i then v else s.getD q false := by
  rw [List.getD_eq_getElem?_getD, List.getElem?_set, List.getD_eq_getElem?_getD]
  by_cases h : i = q
  · subst h; simp [hi]
  · simp [h, Ne.symm h]
theorem unseen_set (s : List Bool) (i : Nat) (hi : i < s.length) (h : s.getD i false = false) : unseen (s.set i true) + 1 = unseen s := by
  induction s generalizing i with
  | nil => simp at hi
  | cons a s ih =>
    cases i with
    | zero =>
      have : a = false := by simpa using h
      subst this
      simp [unseen]
    | succ i =>
      have := ih i (by simpa using hi) (by simpa using h)
      simp [unseen, List.count_cons] at this ⊢
      omega

/-- In the midst of a round. -/
structure SMid (f : Fn) (r : Nat) (s0 : List Bool) (k e : Nat) (again : Bool) (s : List Bool) : Prop where
  len : s.length = s0.length
  sound : SSound f r s0 → SSound f r s
  keeps : ∀ q, s0.getD q false = true → s.getD q false = true
  less : again = true → unseen s < unseen s0
  same : again = false → s = s0 ∧ (∀ pc, pc < k → s0.getD pc false = true → (setMask (insD f pc)).testBit r = false → ∀ to ∈ behind (insD f pc) pc, s0.getD to false = true) ∧ ∀ to ∈ (behind (insD f k) k).take e, s0.getD to false = true

theorem SMid.start (f : Fn) (r : Nat) (s0 : List Bool) : SMid f r s0 0 0 false s0 :=
  ⟨rfl, id, fun _ h => h, fun h => (by cases h), fun _ => ⟨rfl, fun pc h => (by omega), fun to h => (by simp at h)⟩⟩
theorem SMid.next {f : Fn} {r : Nat} {s0 s : List Bool} {k e : Nat} {again : Bool} (h : SMid f r s0 k e again s) (he : (behind (insD f k) k).length ≤ e) : SMid f r s0 (k + 1) 0 again s :=
  ⟨h.len, h.sound, h.keeps, h.less, fun ha => by
    obtain ⟨h1, h2, h3⟩ := h.same ha
    refine ⟨h1, fun pc hpc hs hb to hto => ?_, fun to hto => by simp at hto⟩
    rcases Nat.lt_or_ge pc k with hlt | hge
    · exact h2 pc hlt hs hb to hto
    · obtain rfl : pc = k := by omega
      exact h3 to (by rw [List.take_of_length_le he]; exact hto)⟩
theorem SMid.skip {f : Fn} {r : Nat} {s0 s : List Bool} {k : Nat} {again : Bool} (h : SMid f r s0 k 0 again s) (hk : s.getD k false = false ∨ (setMask (insD f k)).testBit r = true) : SMid f r s0 (k + 1) 0 again s :=
  ⟨h.len, h.sound, h.keeps, h.less, fun ha => by
    obtain ⟨h1, h2, h3⟩ := h.same ha
    refine ⟨h1, fun pc hpc hs hb to hto => ?_, fun to hto => by simp at hto⟩
    rcases Nat.lt_or_ge pc k with hlt | hge
    · exact h2 pc hlt hs hb to hto
    · obtain rfl : pc = k := by omega
      subst h1
      rcases hk with hk | hk
      · rw [hs] at hk; cases hk
      · rw [hb] at hk; cases hk⟩
theorem SMid.old {f : Fn} {r : Nat} {s0 s : List Bool} {k e to : Nat} {again : Bool} (h : SMid f r s0 k e again s) (he : (behind (insD f k) k)[e]? = some to) (hs : s.getD to false = true) : SMid f r s0 k (e + 1) again s :=
  ⟨h.len, h.sound, h.keeps, h.less, fun ha => by
    obtain ⟨h1, h2, h3⟩ := h.same ha
    refine ⟨h1, h2, fun t ht => ?_⟩
    rw [List.take_add_one, he] at ht
    rcases List.mem_append.1 ht with h4 | h4
    · exact h3 t h4
    · simp at h4; subst h4; subst h1; exact hs⟩
theorem SMid.new {f : Fn} {r : Nat} {s0 s : List Bool} {k e to : Nat} {again : Bool} (h : SMid f r s0 k e again s) (hk : k < f.code.length) (hk2 : s.getD k false = true) (hb : (setMask (insD f k)).testBit r = false)
    (he : (behind (insD f k) k)[e]? = some to) (hto : to < s0.length) (hs : s.getD to false = false) : SMid f r s0 k (e + 1) true (s.set to true) := by
  have htl : to < s.length := by rw [h.len]; exact hto
  have hu := unseen_set s to htl hs
  refine ⟨by simp [h.len], fun h0 q hq => ?_, fun q hq => ?_, fun _ => ?_, fun ha => by cases ha⟩
  · rw [bget_set s to q true htl] at hq
    by_cases e : q = to
    · subst e; exact Way.step hk (h.sound h0 k hk2) hb (List.mem_of_getElem? he)
    · rw [if_neg e] at hq; exact h.sound h0 q hq
  · rw [bget_set s to q true htl]
    split
    · rfl
    · exact h.keeps q hq
  · cases ha : again
    · obtain ⟨rfl, _⟩ := h.same ha; omega
    · have := h.less ha; omega

/-- What holds ahead of each round. -/
structure SLoops (f : Fn) (r : Nat) (again : Bool) (s : List Bool) : Prop where
  len : s.length = f.code.length + 1
  sound : SSound f r s
  zero : f.params ≤ (r : Int) → s.getD 0 false = true
  closed : again = false → ∀ pc, pc < f.code.length → s.getD pc false = true → (setMask (insD f pc)).testBit r = false → ∀ to ∈ behind (insD f pc) pc, s.getD to false = true
theorem SLoops.next {f : Fn} {r : Nat} {s s' : List Bool} {again again' : Bool} (h : SLoops f r again s) (m : SMid f r s f.code.length 0 again' s') :
    SLoops f r again' s' ∧ unseen s' + (if again' = true then 1 else 0) < unseen s + 1 := by
  refine ⟨⟨m.len.trans h.len, m.sound h.sound, fun hp => m.keeps 0 (h.zero hp), fun ha => ?_⟩, ?_⟩
  · obtain ⟨rfl, h2, _⟩ := m.same ha
    exact fun pc hpc hs hb to hto => h2 pc hpc hs hb to hto
  · cases again' with
    | false => obtain ⟨rfl, _⟩ := m.same rfl; simp
    | true => have := m.less rfl; simp; omega
/-- Which places are come to. -/
def SeenSpec (f : Fn) (r : Nat) (s : List Bool) : Prop := s.length = f.code.length + 1 ∧ ∀ q, s.getD q false = true ↔ Way f r q
theorem SLoops.spec {f : Fn} {r : Nat} {s : List Bool} (h : SLoops f r false s) : SeenSpec f r s := by
  refine ⟨h.len, fun q => ⟨h.sound q, fun hw => ?_⟩⟩
  induction hw with
  | start hp => exact h.zero hp
  | @step pc to hpc hw hset ht ih => exact h.closed rfl pc hpc ih hset to ht
theorem seen_none {f : Fn} {r : Nat} (hp : (r : Int) < f.params) : SeenSpec f r (List.replicate (f.code.length + 1) false) := by
  refine ⟨by simp, fun q => ⟨fun h => ?_, fun hw => ?_⟩⟩
  · rw [List.getD_eq_getElem?_getD, List.getElem?_replicate] at h
    split at h <;> simp at h
  · exfalso
    induction hw with
    | start h => omega
    | step _ _ _ _ ih => exact ih
theorem seen_first (f : Fn) (r : Nat) (hp : f.params ≤ (r : Int)) : SLoops f r true ((List.replicate (f.code.length + 1) false).set 0 true) := by
  refine ⟨by simp, fun q hq => ?_, fun _ => by rw [bget_set _ _ _ _ (by simp)]; simp, fun h => by cases h⟩
  rw [bget_set _ _ _ _ (by simp)] at hq
  by_cases e : q = 0
  · subst e; exact Way.start hp
  · rw [if_neg e, List.getD_eq_getElem?_getD, List.getElem?_replicate] at hq
    split at hq <;> simp at hq

theorem set_bit (x : Ins) (h0 : 0 ≤ x.dst) (r : Nat) : (setMask x).testBit r = (setsB x.op && (x.dst == (r : Int))) := by
  unfold setMask
  cases hs : setsB x.op
  · simp
  · simp only [if_true, Bool.true_and, Nat.testBit_two_pow]
    rw [Bool.eq_iff_iff]; simp; omega
theorem set_high (x : Ins) (h0 : 0 ≤ x.dst) (h1 : x.dst < 12) : (setMask x).testBit 63 = false := by
  rw [set_bit x h0 63]
  have : (x.dst == ((63 : Nat) : Int)) = false := by simp; omega
  rw [this]; simp

/-- A number of which so many bits are reckoned. -/
def OutOk (f : Fn) (r q : Nat) (v : Int) : Prop := (¬ Way f 63 q ∧ v = -1) ∨ (Way f 63 q ∧ ∃ m : Nat, m < 2 ^ r ∧ v = m ∧ ∀ i, i < r → (m.testBit i = true ↔ ¬ Way f i q))
theorem out_zero_yes {f : Fn} {q : Nat} (h : Way f 63 q) : OutOk f 0 q 0 := Or.inr ⟨h, 0, by simp, rfl, fun i hi => by omega⟩
theorem out_zero_no {f : Fn} {q : Nat} (h : ¬ Way f 63 q) : OutOk f 0 q (-1) := Or.inl ⟨h, rfl⟩
theorem out_add {f : Fn} {r q : Nat} {v : Int} (h : OutOk f r q v) (hr : r < 12) (hw : Way f 63 q) (hn : ¬ Way f r q) : OutOk f (r + 1) q (v + (2 ^ r : Nat)) ∧ 0 ≤ v ∧ v < 4096 := by
  rcases h with ⟨h, _⟩ | ⟨_, m, hm, rfl, hb⟩
  · exact absurd hw h
  · have hlt : m < 4096 := Nat.lt_of_lt_of_le hm (show 2 ^ r ≤ 2 ^ 12 from Nat.pow_le_pow_right (by decide) (by omega))
    have hz : m.testBit r = false := Nat.testBit_lt_two_pow hm
    have e := or_pow m r (by omega) hr hz
    refine ⟨Or.inr ⟨hw, m + 2 ^ r, ?_, by simp, fun i hi => ?_⟩, by omega, by omega⟩
    · rw [Nat.pow_succ]; omega
    · rw [← e, Nat.testBit_or, Nat.testBit_two_pow]
      by_cases hir : r = i
      · subst hir; simp [hz, hn]
      · simp [hir, hb i (by omega)]
theorem out_same {f : Fn} {r q : Nat} {v : Int} (h : OutOk f r q v) (hn : Way f 63 q → Way f r q) : OutOk f (r + 1) q v := by
  rcases h with h | ⟨hw, m, hm, rfl, hb⟩
  · exact Or.inl h
  · refine Or.inr ⟨hw, m, by rw [Nat.pow_succ]; omega, rfl, fun i hi => ?_⟩
    rcases Nat.lt_or_ge i r with hlt | hge
    · exact hb i hlt
    · obtain rfl : i = r := by omega
      rw [Nat.testBit_lt_two_pow hm]
      simp [hn hw]
theorem spec_of_out {f : Fn} {L : List Int} (hl : L.length = f.code.length + 1) (h : ∀ q, q < f.code.length + 1 → OutOk f 12 q (L.getD q 0)) : SureSpec f L :=
  ⟨hl, fun q hq => by
    rcases h q hq with h | ⟨hw, m, hm, e, hb⟩
    · exact Or.inl h
    · exact Or.inr ⟨hw, m, hm, e, hb⟩⟩

/-- What a well shaped program's functions are. -/
theorem fnOk_of {P : List Fn} (h : codeProg P = 0) {f : Fn} (hf : f ∈ P) : FnOk f ∧ ∀ x ∈ f.code, InsOk P x ∧ (x.op = 15 ∨ x.op = 16 → 0 ≤ x.imm) := by
  obtain ⟨h1, h4, hall⟩ := codeProg_zero h
  obtain ⟨r1, r2, p0, p2, _, l1, l2, hi⟩ := codeFunc_zero (hall f hf)
  have imm : ∀ x ∈ f.code, x.op = 15 ∨ x.op = 16 → 0 ≤ x.imm ∧ x.imm < f.code.length := by
    intro x hx hop
    have hz := hi x hx
    rw [instr_same] at hz
    unfold refInstr at hz
    by_cases k1 : inB x.op 1 19 = false
    · rw [if_pos k1] at hz; cases hz
    rw [if_neg k1] at hz
    by_cases k2 : refOk1 x f.regs = false
    · rw [if_pos k2] at hz; cases hz
    rw [if_neg k2] at hz
    by_cases k3 : refOk2 x f.code.length P.length = false
    · rw [if_pos k3] at hz; cases hz
    have k3 : refOk2 x f.code.length P.length = true := by simpa using k3
    have : 0 ≤ x.imm ∧ x.imm ≤ (f.code.length : Int) - 1 := by simpa [refOk2, hop, inB] using k3
    omega
  refine ⟨⟨p0, p2, fun pc => ?_, l1, l2, fun pc hpc to hto => ?_⟩, fun x hx => ⟨insOk_of h hf hx, fun ho => (imm x hx ho).1⟩⟩
  · rcases Nat.lt_or_ge pc f.code.length with hlt | hge
    · rw [insD_eq hlt]
      have ok := insOk_of h hf (List.getElem_mem hlt)
      unfold setMask
      have d0 := ok.dst0
      have d1 := ok.dst1
      have : 2 ^ f.code[pc].dst.toNat ≤ 2 ^ 11 := Nat.pow_le_pow_right (by decide) (by omega)
      split <;> omega
    · have : insD f pc = ⟨0, 0, 0, 0, 0⟩ := by unfold insD; rw [List.getD_eq_getElem?_getD, List.getElem?_eq_none hge]; rfl
      rw [this]; decide
  · rw [insD_eq hpc] at hto
    have hx := List.getElem_mem hpc
    unfold behind at hto
    split at hto
    · rename_i h15
      have := imm _ hx (Or.inl h15)
      simp at hto; omega
    · split at hto
      · rename_i h16
        have := imm _ hx (Or.inr h16)
        simp at hto; omega
      · split at hto
        · simp at hto
        · simp at hto; omega

end Go.Proofs.YtepnhemlhogmgaaDoor
