/- Ways through a function, and what is surely set: plain mathematics. -/
import Derived.Test.YtepnhemlhogmgaaDoorReads
import Derived.Test.YtepnhemlhogmgaaDoorBitsMore
namespace Go.Proofs.YtepnhemlhogmgaaDoor
open Go Go.RowKit

/-- The places behind an instruction. -/
def behind (x : Ins) (pc : Nat) : List Nat := if x.op = 15 then [x.imm.toNat] else if x.op = 16 then [pc + 1, x.imm.toNat] else if x.op = 19 then [] else [pc + 1]
def insD (f : Fn) (pc : Nat) : Ins := f.code.getD pc ⟨0, 0, 0, 0, 0⟩
theorem insD_eq {f : Fn} {pc : Nat} (h : pc < f.code.length) : insD f pc = f.code[pc] := by simp [insD, List.getD, h]

/-- There is a way to a place on which a register is not set. -/
inductive Way (f : Fn) (r : Nat) : Nat → Prop
  | start (h : f.params ≤ (r : Int)) : Way f r 0
  | step {pc to : Nat} (h : pc < f.code.length) (hw : Way f r pc) (hs : (setMask (insD f pc)).testBit r = false) (ht : to ∈ behind (insD f pc) pc) : Way f r to

def bitOf (l : List (BitVec 64)) (q r : Nat) : Bool := (l.getD q 0#64).getLsbD r
def Sound (f : Fn) (l : List (BitVec 64)) : Prop := ∀ q r, q < l.length → r < 64 → bitOf l q r = false → Way f r q
def total (l : List (BitVec 64)) : Nat := (l.map BitVec.toNat).sum
def cutV (l : List (BitVec 64)) (k : Nat) (x : Ins) (to : Nat) : BitVec 64 := l.getD to 0#64 &&& (l.getD k 0#64 ||| bvn (setMask x))
def EdgeOk (l : List (BitVec 64)) (k : Nat) (x : Ins) (to : Nat) : Prop := cutV l k x to = l.getD to 0#64

theorem bvn_bit (m r : Nat) (hr : r < 64) : (bvn m).getLsbD r = m.testBit r := by rw [bvn, BitVec.getLsbD_ofNat]; simp [hr]
theorem getD_set (l : List (BitVec 64)) (i q : Nat) (v : BitVec 64) (hi : i < l.length) : (l.set i v).getD q 0#64 = if q = i then v else l.getD q 0#64 := by
  rw [List.getD_eq_getElem?_getD, List.getElem?_set, List.getD_eq_getElem?_getD]
  by_cases h : i = q
  · subst h; simp [hi]
  · simp [h, Ne.symm h]

theorem total_set (l : List (BitVec 64)) (i : Nat) (v : BitVec 64) (hi : i < l.length) : total (l.set i v) + (l.getD i 0#64).toNat = total l + v.toNat := by
  induction l generalizing i with
  | nil => simp at hi
  | cons a l ih =>
    cases i with
    | zero => simp [total]; omega
    | succ i =>
      have := ih i (by simpa using hi)
      simp [total] at this ⊢
      omega
theorem and_le (a b : BitVec 64) : (a &&& b).toNat ≤ a.toNat := by rw [BitVec.toNat_and]; exact Nat.and_le_left
theorem and_lt_of_ne (a b : BitVec 64) (h : a &&& b ≠ a) : (a &&& b).toNat < a.toNat := by
  have h1 := and_le a b
  rcases Nat.lt_or_eq_of_le h1 with h2 | h2
  · exact h2
  · exact absurd (BitVec.eq_of_toNat_eq h2) h

/-- In the midst of a round: so many places are done, and so many of the ways from the next one. -/
structure Mid (f : Fn) (l0 : List (BitVec 64)) (k e : Nat) (again : Bool) (l : List (BitVec 64)) : Prop where
  len : l.length = l0.length
  sound : Sound f l0 → Sound f l
  zeros : ∀ q r, bitOf l0 q r = false → bitOf l q r = false
  less : again = true → total l < total l0
  same : again = false → l = l0 ∧ (∀ pc, pc < k → ∀ to ∈ behind (insD f pc) pc, EdgeOk l0 pc (insD f pc) to) ∧ ∀ to ∈ (behind (insD f k) k).take e, EdgeOk l0 k (insD f k) to

theorem Mid.start (f : Fn) (l0 : List (BitVec 64)) : Mid f l0 0 0 false l0 :=
  ⟨rfl, id, fun _ _ h => h, fun h => (by cases h), fun _ => ⟨rfl, fun pc h => (by omega), fun to h => (by simp at h)⟩⟩
theorem Mid.next {f : Fn} {l0 l : List (BitVec 64)} {k e : Nat} {again : Bool} (h : Mid f l0 k e again l) (he : (behind (insD f k) k).length ≤ e) : Mid f l0 (k + 1) 0 again l :=
  ⟨h.len, h.sound, h.zeros, h.less, fun ha => by
    obtain ⟨h1, h2, h3⟩ := h.same ha
    refine ⟨h1, fun pc hpc to hto => ?_, fun to hto => by simp at hto⟩
    rcases Nat.lt_or_ge pc k with hlt | hge
    · exact h2 pc hlt to hto
    · obtain rfl : pc = k := by omega
      exact h3 to (by rw [List.take_of_length_le he]; exact hto)⟩

theorem Mid.step {f : Fn} {l0 l : List (BitVec 64)} {k e to : Nat} {again : Bool} (h : Mid f l0 k e again l) (hk : k < f.code.length) (hkl : k < l0.length) (he : (behind (insD f k) k)[e]? = some to) (hto : to < l0.length) :
    Mid f l0 k (e + 1) (again || (cutV l k (insD f k) to != l.getD to 0#64)) (l.set to (cutV l k (insD f k) to)) := by
  have htl : to < l.length := by rw [h.len]; exact hto
  have hmem : to ∈ behind (insD f k) k := List.mem_of_getElem? he
  have hbit : ∀ q r, bitOf (l.set to (cutV l k (insD f k) to)) q r = if q = to then (bitOf l to r && (bitOf l k r || (bvn (setMask (insD f k))).getLsbD r)) else bitOf l q r := by
    intro q r
    unfold bitOf
    rw [getD_set l to q _ htl]
    split
    · simp [cutV]
    · rfl
  have hle : total (l.set to (cutV l k (insD f k) to)) ≤ total l := by
    have h1 := total_set l to (cutV l k (insD f k) to) htl
    have h2 : (cutV l k (insD f k) to).toNat ≤ (l.getD to 0#64).toNat := and_le _ _
    omega
  refine ⟨by simp [h.len], fun hs => ?_, fun q r hq => ?_, fun ha => ?_, fun ha => ?_⟩
  · intro q r hq hr hb
    rw [hbit] at hb
    by_cases hqt : q = to
    · subst hqt
      rw [if_pos rfl] at hb
      cases h1 : bitOf l q r
      · exact h.sound hs q r htl hr h1
      · rw [h1, Bool.true_and] at hb
        have h2 : bitOf l k r = false := by cases h2 : bitOf l k r <;> simp_all
        have h3 : (bvn (setMask (insD f k))).getLsbD r = false := by cases h3 : (bvn (setMask (insD f k))).getLsbD r <;> simp_all
        rw [bvn_bit _ _ hr] at h3
        exact Way.step hk (h.sound hs k r (by rw [h.len]; exact hkl) hr h2) h3 hmem
    · rw [if_neg hqt] at hb
      exact h.sound hs q r (by simpa using hq) hr hb
  · rw [hbit]
    split
    · rename_i e; subst e; rw [h.zeros q r hq]; rfl
    · exact h.zeros q r hq
  · cases hag : again
    · rw [hag, Bool.false_or] at ha
      have hne : cutV l k (insD f k) to ≠ l.getD to 0#64 := by simpa using ha
      have h1 := total_set l to (cutV l k (insD f k) to) htl
      have h2 : (cutV l k (insD f k) to).toNat < (l.getD to 0#64).toNat := and_lt_of_ne _ _ hne
      obtain ⟨rfl, _⟩ := h.same hag
      omega
    · have := h.less hag
      omega
  · simp only [Bool.or_eq_false_iff] at ha
    obtain ⟨h1, h2, h3⟩ := h.same ha.1
    subst h1
    have hee : EdgeOk l k (insD f k) to := by simpa [EdgeOk] using ha.2
    have hl : l.set to (cutV l k (insD f k) to) = l := by
      rw [show cutV l k (insD f k) to = l[to] from by rw [show cutV l k (insD f k) to = l.getD to 0#64 from hee]; simp [List.getD, htl]]
      exact List.set_getElem_self htl
    refine ⟨hl, h2, fun t ht => ?_⟩
    rw [List.take_add_one, he] at ht
    rcases List.mem_append.1 ht with h4 | h4
    · exact h3 t h4
    · simp at h4; subst h4; exact hee

/-- A whole round that has changed nothing tells all. -/
theorem way_iff {f : Fn} {l : List (BitVec 64)} (hl : l.length = f.code.length + 1) (hs : Sound f l) (h0 : ∀ r : Nat, r < 64 → f.params ≤ (r : Int) → bitOf l 0 r = false)
    (hc : ∀ pc, pc < f.code.length → ∀ to ∈ behind (insD f pc) pc, EdgeOk l pc (insD f pc) to) (q r : Nat) (hq : q < f.code.length + 1) (hr : r < 64) : bitOf l q r = false ↔ Way f r q := by
  refine ⟨hs q r (by omega) hr, fun hw => ?_⟩
  clear hq
  induction hw with
  | start h => exact h0 r hr h
  | @step pc to h hw hset ht ih =>
    have he := hc pc h to ht
    have h1 : bitOf l to r = (bitOf l to r && (bitOf l pc r || (setMask (insD f pc)).testBit r)) := by
      have : (cutV l pc (insD f pc) to).getLsbD r = (l.getD to 0#64).getLsbD r := by rw [show cutV l pc (insD f pc) to = l.getD to 0#64 from he]
      unfold bitOf
      rw [← this]
      simp only [cutV, BitVec.getLsbD_and, BitVec.getLsbD_or, bvn_bit _ _ hr]
      cases (l.getD to 0#64).getLsbD r <;> simp
    rw [h1, ih, hset]
    simp

/-- What is surely set, by ways. -/
def SureSpec (f : Fn) (L : List Int) : Prop :=
  L.length = f.code.length + 1 ∧ ∀ q, q < f.code.length + 1 → (¬ Way f 63 q ∧ L.getD q 0 = -1) ∨ (Way f 63 q ∧ ∃ m : Nat, m < 4096 ∧ L.getD q 0 = m ∧ ∀ r, r < 12 → (m.testBit r = true ↔ ¬ Way f r q))
structure FnOk (f : Fn) : Prop where
  p0 : 0 ≤ f.params
  p2 : f.params ≤ 2
  sets : ∀ pc, setMask (insD f pc) < 4096
  len1 : 1 ≤ f.code.length
  len2 : f.code.length ≤ 40
  goes : ∀ pc, pc < f.code.length → ∀ to ∈ behind (insD f pc) pc, to < f.code.length + 1

theorem pow12 {s : Nat} (h : 12 ≤ s) : 4096 ≤ 2 ^ s := by
  have := Nat.pow_le_pow_right (n := 2) (by decide) h
  simpa using this
theorem way_high {f : Fn} (hf : FnOk f) {r s q : Nat} (hr : 12 ≤ s) (h : Way f r q) : Way f s q := by
  have hp := hf.p2
  induction h with
  | start h => exact Way.start (by omega)
  | @step pc to h hw hset ht ih => exact Way.step h ih (Nat.testBit_lt_two_pow (Nat.lt_of_lt_of_le (hf.sets pc) (pow12 hr))) ht

theorem sure_unique {f : Fn} {L L' : List Int} (h : SureSpec f L) (h' : SureSpec f L') : L = L' := by
  apply List.ext_getElem?
  intro q
  rcases Nat.lt_or_ge q (f.code.length + 1) with hq | hq
  · have e : L.getD q 0 = L'.getD q 0 := by
      rcases h.2 q hq with ⟨n1, e1⟩ | ⟨w1, m, hm, e1, b1⟩ <;> rcases h'.2 q hq with ⟨n2, e2⟩ | ⟨w2, m', hm', e2, b2⟩
      · rw [e1, e2]
      · exact absurd w2 n1
      · exact absurd w1 n2
      · have : m = m' := by
          apply Nat.eq_of_testBit_eq
          intro r
          rcases Nat.lt_or_ge r 12 with hr | hr
          · have x1 := b1 r hr
            have x2 := b2 r hr
            rw [Bool.eq_iff_iff, x1, x2]
          · rw [Nat.testBit_lt_two_pow (Nat.lt_of_lt_of_le hm (pow12 hr)), Nat.testBit_lt_two_pow (Nat.lt_of_lt_of_le hm' (pow12 hr))]
        rw [e1, e2, this]
    have l1 : q < L.length := by rw [h.1]; exact hq
    have l2 : q < L'.length := by rw [h'.1]; exact hq
    simp [List.getD, l1, l2] at e ⊢
    exact e
  · rw [List.getElem?_eq_none (by rw [h.1]; exact hq), List.getElem?_eq_none (by rw [h'.1]; exact hq)]

theorem spec_of_bits {f : Fn} (hf : FnOk f) {l : List (BitVec 64)} (hl : l.length = f.code.length + 1) (h : ∀ q r, q < f.code.length + 1 → r < 64 → (bitOf l q r = false ↔ Way f r q)) : SureSpec f (l.map BitVec.toInt) := by
  refine ⟨by simp [hl], fun q hq => ?_⟩
  have hql : q < l.length := by omega
  have hg : (l.map BitVec.toInt).getD q 0 = (l.getD q 0#64).toInt := by simp [List.getD, hql]
  rw [hg]
  by_cases hw : Way f 63 q
  · right
    refine ⟨hw, (l.getD q 0#64).toNat, ?_, ?_, fun r hr => ?_⟩
    · have hb : ∀ r, 12 ≤ r → (l.getD q 0#64).toNat.testBit r = false := by
        intro r hr
        rcases Nat.lt_or_ge r 64 with h64 | h64
        · exact (h q r hq h64).2 (way_high hf hr hw)
        · exact Nat.testBit_lt_two_pow (Nat.lt_of_lt_of_le (l.getD q 0#64).isLt (Nat.pow_le_pow_right (by decide) h64))
      exact Nat.lt_pow_two_of_testBit (n := 12) _ hb
    · have hb : ∀ r, 12 ≤ r → (l.getD q 0#64).toNat.testBit r = false := by
        intro r hr
        rcases Nat.lt_or_ge r 64 with h64 | h64
        · exact (h q r hq h64).2 (way_high hf hr hw)
        · exact Nat.testBit_lt_two_pow (Nat.lt_of_lt_of_le (l.getD q 0#64).isLt (Nat.pow_le_pow_right (by decide) h64))
      have hlt : (l.getD q 0#64).toNat < 4096 := Nat.lt_pow_two_of_testBit (n := 12) _ hb
      rw [BitVec.toInt_eq_toNat_cond, if_pos (by omega)]
    · have hx := h q r hq (by omega)
      rw [← hx]
      unfold bitOf
      show ((l.getD q 0#64).getLsbD r = true ↔ _)
      cases (l.getD q 0#64).getLsbD r <;> simp
  · left
    refine ⟨hw, ?_⟩
    have : l.getD q 0#64 = BitVec.allOnes 64 := by
      apply BitVec.eq_of_getLsbD_eq
      intro r hr
      have hx := h q r hq hr
      cases hb : (l.getD q 0#64).getLsbD r
      · exact absurd (way_high hf (by decide) (hx.1 hb)) hw
      · rw [BitVec.getLsbD_allOnes]; simp [hr]
    rw [this]
    decide

end Go.Proofs.YtepnhemlhogmgaaDoor
