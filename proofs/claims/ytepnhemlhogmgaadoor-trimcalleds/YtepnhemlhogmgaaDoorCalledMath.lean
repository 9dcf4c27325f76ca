/- Functions that are called: plain mathematics. -/
import Derived.Test.YtepnhemlhogmgaaDoorTrimMath
namespace Go.Proofs.YtepnhemlhogmgaaDoor
open Go Go.RowKit

/-- A function calls another one at a reached place. -/
def CallsAt (f : Fn) (pc : Nat) (t : Int) : Prop := pc < f.code.length ∧ Way f 63 pc ∧ (insD f pc).op = 17 ∧ (insD f pc).imm = t
/-- The calls of a function, up to a place. -/
structure CallsTo (f : Fn) (q : Nat) (L : List Int) : Prop where
  len : L.length ≤ q
  here : ∀ t ∈ L, ∃ pc, CallsAt f pc t
  all : ∀ pc t, pc < q → CallsAt f pc t → t ∈ L
theorem callsTo_zero (f : Fn) : CallsTo f 0 [] := ⟨Nat.le_refl _, fun t h => by simp at h, fun pc t h => by omega⟩
theorem callsTo_skip {f : Fn} {q : Nat} {L : List Int} (h : CallsTo f q L) (hn : ∀ t, ¬ CallsAt f q t) : CallsTo f (q + 1) L :=
  ⟨by have := h.len; omega, h.here, fun pc t hp hc => by
    rcases Nat.lt_or_ge pc q with hlt | hge
    · exact h.all pc t hlt hc
    · obtain rfl : pc = q := by omega
      exact absurd hc (hn t)⟩
theorem callsTo_add {f : Fn} {q : Nat} {L : List Int} {t : Int} (h : CallsTo f q L) (hc : CallsAt f q t) : CallsTo f (q + 1) (L ++ [t]) :=
  ⟨by have := h.len; simp; omega, fun u hu => by
    rcases List.mem_append.1 hu with hu | hu
    · exact h.here u hu
    · have : u = t := by simpa using hu
      subst this
      exact ⟨q, hc⟩, fun pc u hp hu => by
    rcases Nat.lt_or_ge pc q with hlt | hge
    · exact List.mem_append_left _ (h.all pc u hlt hu)
    · obtain rfl : pc = q := by omega
      have : u = t := hu.2.2.2.symm.trans hc.2.2.2
      simp [this]⟩

/-- Called functions. -/
inductive Called (P : List Fn) : Nat → Prop
  | zero : Called P 0
  | call {fn pc t : Nat} (h : Called P fn) (hk : fn < P.length) (hc : CallsAt P[fn] pc (t : Int)) : Called P t
def CalledSpec (P : List Fn) (c : List Bool) : Prop := c.length = P.length ∧ ∀ q, q < P.length → (c.getD q false = true ↔ Called P q)
theorem calledSpec_unique {P : List Fn} {c c' : List Bool} (h : CalledSpec P c) (h' : CalledSpec P c') : c = c' :=
  bools_ext (h.1.trans h'.1.symm) fun q hq => (h.2 q (by rw [← h.1]; exact hq)).trans (h'.2 q (by rw [← h.1]; exact hq)).symm
def CSound (P : List Fn) (c : List Bool) : Prop := ∀ q, q < P.length → c.getD q false = true → Called P q
def CClosed (P : List Fn) (c : List Bool) : Prop := ∀ fn (h : fn < P.length) pc (t : Nat), c.getD fn false = true → CallsAt P[fn] pc (t : Int) → c.getD t false = true
/-- A call of a right program calls one of its functions. -/
theorem calls_fit {P : List Fn} (hP : codeProg P = 0) {fn : Nat} (h : fn < P.length) {pc : Nat} {t : Int} (hc : CallsAt P[fn] pc t) : ∃ k : Nat, t = k ∧ k < P.length := by
  have hx := List.getElem_mem hc.1
  have ok := insOk_of hP (List.getElem_mem h) hx
  have h1 := hc.2.2.1
  have h2 := hc.2.2.2
  rw [insD_eq hc.1] at h1 h2
  obtain ⟨a, b, _⟩ := ok.call h1
  obtain ⟨k, hk⟩ := Int.eq_ofNat_of_zero_le a
  exact ⟨k, by omega, by omega⟩
theorem calledSpec_of {P : List Fn} (_hP : codeProg P = 0) {c : List Bool} (hl : c.length = P.length) (hs : CSound P c) (h0 : c.getD 0 false = true) (hc : CClosed P c) : CalledSpec P c := by
  refine ⟨hl, fun q hq => ⟨hs q hq, fun h => ?_⟩⟩
  clear hq
  induction h with
  | zero => exact h0
  | call h hk hcl ih => exact hc _ hk _ _ ih hcl

/-- Functions that wait, and those that were seen to be called. -/
structure CWork (P : List Fn) (W : List Int) (c : List Bool) : Prop where
  len : c.length = P.length
  sound : CSound P c
  wait : ∀ t ∈ W, ∃ k : Nat, t = k ∧ k < P.length ∧ Called P k
  first : c.getD 0 false = true ∨ (0 : Int) ∈ W
  next : ∀ fn (h : fn < P.length) pc (t : Nat), c.getD fn false = true → CallsAt P[fn] pc (t : Int) → c.getD t false = true ∨ (t : Int) ∈ W
  few : unseen c * 41 + W.length ≤ 4 * 41 + 1
theorem cwork_start {P : List Fn} (h1 : 1 ≤ P.length) (h4 : P.length ≤ 4) : CWork P [0] (List.replicate P.length false) := by
  have e : ∀ q, (List.replicate P.length false).getD q false = false := fun q => by
    rcases Nat.lt_or_ge q P.length with h | h
    · simp [List.getD, h]
    · simp [List.getD, h]
  refine ⟨by simp, fun q _ h => ?_, fun t ht => ?_, Or.inr (by simp), fun fn h pc t hc => ?_, ?_⟩
  · rw [e] at h; cases h
  · have : t = 0 := by simpa using ht
    exact ⟨0, this, by omega, Called.zero⟩
  · rw [e] at hc; cases hc
  · simp [unseen]; omega
theorem cwork_end {P : List Fn} (hP : codeProg P = 0) {c : List Bool} (h : CWork P [] c) : CalledSpec P c :=
  calledSpec_of hP h.len h.sound (h.first.resolve_right (by simp)) fun fn hk pc t hc ht => (h.next fn hk pc t hc ht).resolve_right (by simp)
theorem cwork_old {P : List Fn} {W : List Int} {k : Nat} {c : List Bool} (h : CWork P (W ++ [(k : Int)]) c) (hk : c.getD k false = true) : CWork P W c := by
  have mem : ∀ t : Nat, (t : Int) ∈ W ++ [(k : Int)] → c.getD t false = true ∨ (t : Int) ∈ W := fun t ht => by
    rcases List.mem_append.1 ht with ht | ht
    · exact Or.inr ht
    · have : t = k := by have : (t : Int) = k := by simpa using ht
                         omega
      subst this; exact Or.inl hk
  refine ⟨h.len, h.sound, fun t ht => h.wait t (List.mem_append_left _ ht), ?_, fun fn hf pc t hc ht => ?_, by have := h.few; simp at this; omega⟩
  · rcases h.first with h0 | h0
    · exact Or.inl h0
    · exact mem 0 h0
  · rcases h.next fn hf pc t hc ht with h1 | h1
    · exact Or.inl h1
    · exact mem t h1
theorem cwork_new {P : List Fn} (hP : codeProg P = 0) {W : List Int} {k : Nat} {c : List Bool} (h : CWork P (W ++ [(k : Int)]) c) (hkl : k < P.length) (hk : c.getD k false = false) {L : List Int} (hL : CallsTo P[k] P[k].code.length L) (hn : P[k].code.length ≤ 40) :
    CWork P (W ++ L) (c.set k true) ∧ unseen (c.set k true) * 41 + (W ++ L).length < unseen c * 41 + (W ++ [(k : Int)]).length := by
  have hlen := h.len
  have hun := unseen_set c k (by omega) hk
  have hg : ∀ q, (c.set k true).getD q false = if q = k then true else c.getD q false := fun q => bget_set c k q true (by omega)
  have hc : Called P k := by
    obtain ⟨k', e, _, h3⟩ := h.wait k (by simp)
    have : k = k' := by omega
    rw [this]; exact h3
  have mem : ∀ t : Nat, c.getD t false = true ∨ (t : Int) ∈ W ++ [(k : Int)] → (c.set k true).getD t false = true ∨ (t : Int) ∈ W ++ L := fun t ht => by
    rw [hg t]
    by_cases e : t = k
    · rw [if_pos e]; exact Or.inl rfl
    · rw [if_neg e]
      rcases ht with ht | ht
      · exact Or.inl ht
      · rcases List.mem_append.1 ht with ht | ht
        · exact Or.inr (List.mem_append_left _ ht)
        · have : (t : Int) = k := by simpa using ht
          omega
  have hll := hL.len
  have hlt : unseen (c.set k true) * 41 + (W ++ L).length < unseen c * 41 + (W ++ [(k : Int)]).length := by simp; omega
  refine ⟨⟨by simp [hlen], fun q hq hs => ?_, fun t ht => ?_, mem 0 h.first, fun fn hf pc t hs ht => ?_, by have := h.few; omega⟩, hlt⟩
  · rw [hg q] at hs
    by_cases e : q = k
    · rw [e]; exact hc
    · rw [if_neg e] at hs; exact h.sound q hq hs
  · rcases List.mem_append.1 ht with ht | ht
    · exact h.wait t (List.mem_append_left _ ht)
    · obtain ⟨pc, hca⟩ := hL.here t ht
      obtain ⟨k', rfl, hk'⟩ := calls_fit hP hkl hca
      exact ⟨k', rfl, hk', Called.call hc hkl hca⟩
  · rw [hg fn] at hs
    by_cases e : fn = k
    · subst e
      exact Or.inr (List.mem_append_right _ (hL.all pc t ht.1 ht))
    · rw [if_neg e] at hs
      exact mem t (h.next fn hf pc t hs ht)

/-- In the midst of a round over all functions. -/
structure CMid (P : List Fn) (c0 : List Bool) (fn pc : Nat) (again : Bool) (c : List Bool) : Prop where
  len : c.length = c0.length
  sound : CSound P c0 → CSound P c
  keeps : ∀ q, c0.getD q false = true → c.getD q false = true
  less : again = true → unseen c < unseen c0
  same : again = false → c = c0 ∧ ∀ k (h : k < P.length) q (t : Nat), (k < fn ∨ (k = fn ∧ q < pc)) → c0.getD k false = true → CallsAt P[k] q (t : Int) → c0.getD t false = true
theorem CMid.start (P : List Fn) (c0 : List Bool) : CMid P c0 0 0 false c0 :=
  ⟨rfl, id, fun _ h => h, fun h => (by cases h), fun _ => ⟨rfl, fun k h q t hk => by omega⟩⟩
theorem CMid.next {P : List Fn} {c0 c : List Bool} {fn pc : Nat} {again : Bool} (h : CMid P c0 fn pc again c) (hf : fn < P.length) (hp : P[fn].code.length ≤ pc ∨ c.getD fn false = false) : CMid P c0 (fn + 1) 0 again c :=
  ⟨h.len, h.sound, h.keeps, h.less, fun ha => by
    obtain ⟨h1, h2⟩ := h.same ha
    refine ⟨h1, fun k hk q t hlt hc ht => ?_⟩
    rcases Nat.lt_or_ge k fn with hl | hl
    · exact h2 k hk q t (Or.inl hl) hc ht
    · obtain rfl : k = fn := by omega
      rcases hp with hp | hp
      · exact h2 k hk q t (Or.inr ⟨rfl, by have := ht.1; omega⟩) hc ht
      · subst h1; rw [hp] at hc; cases hc⟩
theorem CMid.skip {P : List Fn} {c0 c : List Bool} {fn pc : Nat} {again : Bool} (h : CMid P c0 fn pc again c) (hf : fn < P.length) (hn : ∀ t : Nat, CallsAt P[fn] pc (t : Int) → c.getD t false = true) : CMid P c0 fn (pc + 1) again c :=
  ⟨h.len, h.sound, h.keeps, h.less, fun ha => by
    obtain ⟨h1, h2⟩ := h.same ha
    refine ⟨h1, fun k hk q t hlt hc ht => ?_⟩
    by_cases hq : k < fn ∨ (k = fn ∧ q < pc)
    · exact h2 k hk q t hq hc ht
    · obtain rfl : k = fn := by omega
      obtain rfl : q = pc := by omega
      rw [← h1]; exact hn t ht⟩
theorem CMid.new {P : List Fn} {c0 c : List Bool} {fn pc t : Nat} {again : Bool} (h : CMid P c0 fn pc again c) (hf : fn < P.length) (hc : c.getD fn false = true) (ht : CallsAt P[fn] pc (t : Int)) (htl : t < c.length) (hu : c.getD t false = false) : CMid P c0 fn (pc + 1) true (c.set t true) := by
  have hun := unseen_set c t htl hu
  have hg : ∀ q, (c.set t true).getD q false = if q = t then true else c.getD q false := fun q => bget_set c t q true htl
  refine ⟨by simp [h.len], fun hs q hq hcq => ?_, fun q hq => ?_, fun _ => ?_, fun ha => by cases ha⟩
  · rw [hg q] at hcq
    by_cases e : q = t
    · rw [e]; exact Called.call (h.sound hs fn hf hc) hf ht
    · rw [if_neg e] at hcq; exact h.sound hs q hq hcq
  · rw [hg q]; split
    · rfl
    · exact h.keeps q hq
  · cases again
    · rw [(h.same rfl).1] at hun; rw [(h.same rfl).1]; omega
    · have := h.less rfl; omega
/-- What is known between two rounds. -/
def CLoops (P : List Fn) (again : Bool) (c : List Bool) : Prop := c.length = P.length ∧ CSound P c ∧ c.getD 0 false = true ∧ (again = false → CClosed P c)
theorem cloops_next {P : List Fn} {c0 c : List Bool} {again' : Bool} (h : CLoops P true c0) (hm : CMid P c0 P.length 0 again' c) : CLoops P again' c ∧ unseen c + (if again' = true then 1 else 0) < unseen c0 + (if true = true then 1 else 0) := by
  obtain ⟨h1, h2, h3, _⟩ := h
  refine ⟨⟨hm.len.trans h1, hm.sound h2, hm.keeps 0 h3, fun ha => ?_⟩, ?_⟩
  · obtain ⟨e, hcl⟩ := hm.same ha
    subst e
    exact fun fn hf pc t hc ht => hcl fn hf pc t (Or.inl hf) hc ht
  · cases again'
    · rw [(hm.same rfl).1]; simp
    · have := hm.less rfl; simp; omega
theorem cloops_start {P : List Fn} (h1 : 1 ≤ P.length) : CLoops P true ((List.replicate P.length false).set 0 true) := by
  have e : ∀ q, (List.replicate P.length false).getD q false = false := fun q => by
    rcases Nat.lt_or_ge q P.length with h | h
    · simp [List.getD, h]
    · simp [List.getD, h]
  refine ⟨by simp, fun q hq h => ?_, ?_, fun h => by cases h⟩
  · rw [bget_set _ 0 q true (by simp; omega)] at h
    by_cases e0 : q = 0
    · rw [e0]; exact Called.zero
    · rw [if_neg e0, e] at h; cases h
  · rw [bget_set _ 0 0 true (by simp; omega)]; rfl

/-- What P5.2 answers. -/
def CalledAns (P : List Fn) (E : Int) (c : List Bool) : Prop := (E ≠ 0 ∧ ProofAns P E ∧ c = []) ∨ (ProofAns P 0 ∧ E = 0 ∧ CalledSpec P c)
theorem calledAns_unique {P : List Fn} {E E' : Int} {c c' : List Bool} (h : CalledAns P E c) (h' : CalledAns P E' c') : E = E' ∧ c = c' := by
  rcases h with ⟨h0, h1, rfl⟩ | ⟨h1, rfl, hs⟩ <;> rcases h' with ⟨g0, g1, rfl⟩ | ⟨g1, rfl, gs⟩
  · exact ⟨proofAns_unique h1 g1, rfl⟩
  · exact absurd (proofAns_unique h1 g1) h0
  · exact absurd (proofAns_unique g1 h1) g0
  · exact ⟨rfl, calledSpec_unique hs gs⟩
end Go.Proofs.YtepnhemlhogmgaaDoor
