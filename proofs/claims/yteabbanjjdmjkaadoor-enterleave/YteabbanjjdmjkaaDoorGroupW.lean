/- Texts put together: KeptMath, WhereAll, Proven, RefWhere, Progs, RefBegin, StCopy, LawSures, SameSt. -/
import Derived.Test.YteabbanjjdmjkaaDoorGroupC
import Derived.Test.YteabbanjjdmjkaaDoorGroupB
import Derived.Deep.RegionHeld3
import Derived.BigRegion
import Derived.Test.YteabbanjjdmjkaaDoorProg
import Derived.Test.YteabbanjjdmjkaaDoorGroupA
import Derived.Test.YteabbanjjdmjkaaDoorGroupD
import Derived.ChangeKeysEq
import Derived.Laws.StructEq
import Derived.BigQuiet
import Derived.Deep.QuietTactic
/- What trim keeps: plain mathematics. -/
namespace Go.Proofs.YteabbanjjdmjkaaDoor
open Go Go.RowKit

def ctT (s : List Bool) (i : Nat) : Nat := (s.take i).count true
theorem ctT_zero (s : List Bool) : ctT s 0 = 0 := by simp [ctT]
theorem ctT_le (s : List Bool) (i : Nat) : ctT s i ≤ i := by
  have h1 := List.count_le_length (a := true) (l := s.take i)
  have h2 := List.length_take_le i s
  unfold ctT; omega
theorem ctT_succ (s : List Bool) (i : Nat) (h : i < s.length) : ctT s (i + 1) = ctT s i + if s.getD i false = true then 1 else 0 := by
  unfold ctT
  rw [List.take_add_one, List.count_append]
  simp [List.getD, h, List.count_cons]
theorem ctT_yes {s : List Bool} {i : Nat} (h : i < s.length) (hs : s.getD i false = true) : ctT s (i + 1) = ctT s i + 1 := by rw [ctT_succ s i h, if_pos hs]
theorem ctT_no {s : List Bool} {i : Nat} (h : i < s.length) (hs : s.getD i false = false) : ctT s (i + 1) = ctT s i := by rw [ctT_succ s i h, if_neg (by rw [hs]; decide)]; rfl
def whereI (s : List Bool) (i : Nat) : Int := if s.getD i false = true then (ctT s i : Int) else -1
def whereL (s : List Bool) : List Int := (List.range s.length).map (whereI s)
theorem whereL_length (s : List Bool) : (whereL s).length = s.length := by simp [whereL]
theorem whereL_getD (s : List Bool) (i : Nat) (h : i < s.length) : (whereL s).getD i 0 = whereI s i := by simp [whereL, List.getD, h]
theorem whereI_yes {s : List Bool} {i : Nat} (h : s.getD i false = true) : whereI s i = ctT s i := if_pos h
theorem whereI_no {s : List Bool} {i : Nat} (h : s.getD i false = false) : whereI s i = -1 := if_neg (by rw [h]; decide)
theorem eq_whereL {s : List Bool} {O : List Int} {n : Nat} (hs : s.length = n) (hl : O.length = n) (h : ∀ q, q < n → O.getD q 0 = whereI s q) : O = whereL s := by
  apply List.ext_getElem
  · rw [whereL_length, hl, hs]
  · intro i h1 h2
    have a := h i (by omega)
    have b := whereL_getD s i (by rw [whereL_length] at h2; exact h2)
    rw [← b] at a
    simpa [List.getD, h1, h2] using a

/-- Which places of a function are reached. -/
def Reach (f : Fn) (s : List Bool) : Prop := s.length = f.code.length ∧ ∀ q, q < f.code.length → (s.getD q false = true ↔ Way f 63 q)
theorem bools_ext {s s' : List Bool} (hl : s.length = s'.length) (h : ∀ q, q < s.length → (s.getD q false = true ↔ s'.getD q false = true)) : s = s' := by
  apply List.ext_getElem hl
  intro i h1 h2
  have := h i h1
  simp only [List.getD, List.getElem?_eq_getElem h1, List.getElem?_eq_getElem h2, Option.getD_some] at this
  exact Bool.eq_iff_iff.2 this
theorem reach_unique {f : Fn} {s s' : List Bool} (h : Reach f s) (h' : Reach f s') : s = s' :=
  bools_ext (h.1.trans h'.1.symm) fun q hq => (h.2 q (by rw [← h.1]; exact hq)).trans (h'.2 q (by rw [← h.1]; exact hq)).symm
theorem sureSpec_reach {f : Fn} {L : List Int} (h : SureSpec f L) {q : Nat} (hq : q < f.code.length + 1) : 0 ≤ L.getD q 0 ↔ Way f 63 q := by
  rcases h.2 q hq with ⟨hn, e⟩ | ⟨hw, m, _, e, _⟩
  · rw [e]; exact ⟨fun h => by omega, fun h => absurd h hn⟩
  · rw [e]; exact ⟨fun _ => hw, fun _ => by omega⟩
theorem reach_sure {P : List Fn} {k : Nat} (h : fnErr P k = 0) (hk : k < P.length) {A : List Int} (hA : SureAns P k A) :
    A.length = P[k].code.length ∧ ∀ q, q < P[k].code.length → (0 ≤ A.getD q 0 ↔ Way P[k] 63 q) := by
  have e : fnAt P (k : Int) = P[k] := by simp [fnAt, List.getD, hk]
  rcases hA with ⟨h1, _⟩ | ⟨_, L, hL, rfl⟩
  · exact absurd h h1
  · rw [e] at hL ⊢
    refine ⟨by rw [List.length_take, hL.1]; omega, fun q hq => ?_⟩
    rw [show (L.take P[k].code.length).getD q 0 = L.getD q 0 by simp [List.getD, hq]]
    exact sureSpec_reach hL (by omega)
theorem seen_reach {f : Fn} {s : List Bool} (h : s.length = f.code.length + 1 ∧ ∀ q, s.getD q false = true ↔ Way f 63 q) : Reach f (s.take f.code.length) :=
  ⟨by rw [List.length_take, h.1]; omega, fun q hq => by rw [show (s.take f.code.length).getD q false = s.getD q false by simp [List.getD, hq]]; exact h.2 q⟩
theorem fnErr_ok {P : List Fn} (h : codeProg P = 0) {k : Nat} (hk : k < P.length) : fnErr P k = 0 := by unfold fnErr; rw [if_pos h, if_pos (by omega)]

theorem proof_code {P : List Fn} (h : ProofAns P 0) : codeProg P = 0 := by
  rcases h with ⟨h1, h2⟩ | ⟨h1, _⟩
  · exact h2.symm
  · exact h1

/-- What P5.1 answers. -/
def WhereAns (P : List Fn) (fn E : Int) (A : List Int) : Prop :=
  (E ≠ 0 ∧ ProofAns P E ∧ A = []) ∨ (ProofAns P 0 ∧ ¬ (0 ≤ fn ∧ fn < P.length) ∧ E = 2 ∧ A = []) ∨ (ProofAns P 0 ∧ E = 0 ∧ ∃ k : Nat, fn = k ∧ ∃ hk : k < P.length, ∃ s, Reach P[k] s ∧ A = whereL s)
theorem whereAns_unique {P : List Fn} {fn E E' : Int} {A A' : List Int} (h : WhereAns P fn E A) (h' : WhereAns P fn E' A') : E = E' ∧ A = A' := by
  rcases h with ⟨h0, h1, rfl⟩ | ⟨h1, h2, rfl, rfl⟩ | ⟨h1, rfl, k, rfl, hk, s, hs, rfl⟩ <;> rcases h' with ⟨g0, g1, rfl⟩ | ⟨g1, g2, rfl, rfl⟩ | ⟨g1, rfl, k', g2, hk', s', hs', rfl⟩
  · exact ⟨proofAns_unique h1 g1, rfl⟩
  · exact absurd (proofAns_unique h1 g1) h0
  · exact absurd (proofAns_unique h1 g1) h0
  · exact absurd (proofAns_unique g1 h1) g0
  · exact ⟨rfl, rfl⟩
  · exact absurd (by omega) h2
  · exact absurd (proofAns_unique g1 h1) g0
  · exact absurd (by omega) g2
  · obtain rfl : k = k' := by omega
    rw [reach_unique hs hs']
    exact ⟨rfl, rfl⟩

/-- A function calls another one at a reached place. -/
def CallsAt (f : Fn) (pc : Nat) (t : Int) : Prop := pc < f.code.length ∧ Way f 63 pc ∧ (insD f pc).op = 17 ∧ (insD f pc).imm = t
/-- The calls of a function, up to a place. -/
structure CallsTo (f : Fn) (q : Nat) (L : List Int) : Prop where
  len : L.length ≤ q
  here : ∀ t ∈ L, ∃ pc, CallsAt f pc t
  all : ∀ pc t, pc < q → CallsAt f pc t → t ∈ L
theorem callsTo_zero (f : Fn) : CallsTo f 0 [] := ⟨Nat.le_refl _, fun t h => by simp at h, fun pc t h => by omega⟩
theorem callsTo_skip {f : Fn} {q : Nat} {L : List Int} (h : CallsTo f q L) (hn : ∀ t, ¬ CallsAt f q t) : CallsTo f (q + 1) L :=
  ⟨by have := h.len; omega, h.here, fun pc t hp hc => by
    rcases Nat.lt_or_ge pc q with hlt | hge
    · exact h.all pc t hlt hc
    · obtain rfl : pc = q := by omega
      exact absurd hc (hn t)⟩
theorem callsTo_add {f : Fn} {q : Nat} {L : List Int} {t : Int} (h : CallsTo f q L) (hc : CallsAt f q t) : CallsTo f (q + 1) (L ++ [t]) :=
  ⟨by have := h.len; simp; omega, fun u hu => by
    rcases List.mem_append.1 hu with hu | hu
    · exact h.here u hu
    · have : u = t := by simpa using hu
      subst this
      exact ⟨q, hc⟩, fun pc u hp hu => by
    rcases Nat.lt_or_ge pc q with hlt | hge
    · exact List.mem_append_left _ (h.all pc u hlt hu)
    · obtain rfl : pc = q := by omega
      have : u = t := hu.2.2.2.symm.trans hc.2.2.2
      simp [this]⟩

/-- Called functions. -/
inductive Called (P : List Fn) : Nat → Prop
  | zero : Called P 0
  | call {fn pc t : Nat} (h : Called P fn) (hk : fn < P.length) (hc : CallsAt P[fn] pc (t : Int)) : Called P t
def CalledSpec (P : List Fn) (c : List Bool) : Prop := c.length = P.length ∧ ∀ q, q < P.length → (c.getD q false = true ↔ Called P q)
theorem calledSpec_unique {P : List Fn} {c c' : List Bool} (h : CalledSpec P c) (h' : CalledSpec P c') : c = c' :=
  bools_ext (h.1.trans h'.1.symm) fun q hq => (h.2 q (by rw [← h.1]; exact hq)).trans (h'.2 q (by rw [← h.1]; exact hq)).symm
def CSound (P : List Fn) (c : List Bool) : Prop := ∀ q, q < P.length → c.getD q false = true → Called P q
def CClosed (P : List Fn) (c : List Bool) : Prop := ∀ fn (h : fn < P.length) pc (t : Nat), c.getD fn false = true → CallsAt P[fn] pc (t : Int) → c.getD t false = true
/-- A call of a right program calls one of its functions. -/
theorem calls_fit {P : List Fn} (hP : codeProg P = 0) {fn : Nat} (h : fn < P.length) {pc : Nat} {t : Int} (hc : CallsAt P[fn] pc t) : ∃ k : Nat, t = k ∧ k < P.length := by
  have hx := List.getElem_mem hc.1
  have ok := insOk_of hP (List.getElem_mem h) hx
  have h1 := hc.2.2.1
  have h2 := hc.2.2.2
  rw [insD_eq hc.1] at h1 h2
  obtain ⟨a, b, _⟩ := ok.call h1
  obtain ⟨k, hk⟩ := Int.eq_ofNat_of_zero_le a
  exact ⟨k, by omega, by omega⟩
theorem calledSpec_of {P : List Fn} (_hP : codeProg P = 0) {c : List Bool} (hl : c.length = P.length) (hs : CSound P c) (h0 : c.getD 0 false = true) (hc : CClosed P c) : CalledSpec P c := by
  refine ⟨hl, fun q hq => ⟨hs q hq, fun h => ?_⟩⟩
  clear hq
  induction h with
  | zero => exact h0
  | call h hk hcl ih => exact hc _ hk _ _ ih hcl

/-- Functions that wait, and those that were seen to be called. -/
structure CWork (P : List Fn) (W : List Int) (c : List Bool) : Prop where
  len : c.length = P.length
  sound : CSound P c
  wait : ∀ t ∈ W, ∃ k : Nat, t = k ∧ k < P.length ∧ Called P k
  first : c.getD 0 false = true ∨ (0 : Int) ∈ W
  next : ∀ fn (h : fn < P.length) pc (t : Nat), c.getD fn false = true → CallsAt P[fn] pc (t : Int) → c.getD t false = true ∨ (t : Int) ∈ W
  few : unseen c * 41 + W.length ≤ 4 * 41 + 1
theorem cwork_start {P : List Fn} (h1 : 1 ≤ P.length) (h4 : P.length ≤ 4) : CWork P [0] (List.replicate P.length false) := by
  have e : ∀ q, (List.replicate P.length false).getD q false = false := fun q => by
    rcases Nat.lt_or_ge q P.length with h | h
    · simp [List.getD, h]
    · simp [List.getD, h]
  refine ⟨by simp, fun q _ h => ?_, fun t ht => ?_, Or.inr (by simp), fun fn h pc t hc => ?_, ?_⟩
  · rw [e] at h; cases h
  · have : t = 0 := by simpa using ht
    exact ⟨0, this, by omega, Called.zero⟩
  · rw [e] at hc; cases hc
  · simp [unseen]; omega
theorem cwork_end {P : List Fn} (hP : codeProg P = 0) {c : List Bool} (h : CWork P [] c) : CalledSpec P c :=
  calledSpec_of hP h.len h.sound (h.first.resolve_right (by simp)) fun fn hk pc t hc ht => (h.next fn hk pc t hc ht).resolve_right (by simp)
theorem cwork_old {P : List Fn} {W : List Int} {k : Nat} {c : List Bool} (h : CWork P (W ++ [(k : Int)]) c) (hk : c.getD k false = true) : CWork P W c := by
  have mem : ∀ t : Nat, (t : Int) ∈ W ++ [(k : Int)] → c.getD t false = true ∨ (t : Int) ∈ W := fun t ht => by
    rcases List.mem_append.1 ht with ht | ht
    · exact Or.inr ht
    · have : t = k := by have : (t : Int) = k := by simpa using ht
                         omega
      subst this; exact Or.inl hk
  refine ⟨h.len, h.sound, fun t ht => h.wait t (List.mem_append_left _ ht), ?_, fun fn hf pc t hc ht => ?_, by have := h.few; simp at this; omega⟩
  · rcases h.first with h0 | h0
    · exact Or.inl h0
    · exact mem 0 h0
  · rcases h.next fn hf pc t hc ht with h1 | h1
    · exact Or.inl h1
    · exact mem t h1
theorem cwork_new {P : List Fn} (hP : codeProg P = 0) {W : List Int} {k : Nat} {c : List Bool} (h : CWork P (W ++ [(k : Int)]) c) (hkl : k < P.length) (hk : c.getD k false = false) {L : List Int} (hL : CallsTo P[k] P[k].code.length L) (hn : P[k].code.length ≤ 40) :
    CWork P (W ++ L) (c.set k true) ∧ unseen (c.set k true) * 41 + (W ++ L).length < unseen c * 41 + (W ++ [(k : Int)]).length := by
  have hlen := h.len
  have hun := unseen_set c k (by omega) hk
  have hg : ∀ q, (c.set k true).getD q false = if q = k then true else c.getD q false := fun q => bget_set c k q true (by omega)
  have hc : Called P k := by
    obtain ⟨k', e, _, h3⟩ := h.wait k (by simp)
    have : k = k' := by omega
    rw [this]; exact h3
  have mem : ∀ t : Nat, c.getD t false = true ∨ (t : Int) ∈ W ++ [(k : Int)] → (c.set k true).getD t false = true ∨ (t : Int) ∈ W ++ L := fun t ht => by
    rw [hg t]
    by_cases e : t = k
    · rw [if_pos e]; exact Or.inl rfl
    · rw [if_neg e]
      rcases ht with ht | ht
      · exact Or.inl ht
      · rcases List.mem_append.1 ht with ht | ht
        · exact Or.inr (List.mem_append_left _ ht)
        · have : (t : Int) = k := by simpa using ht
          omega
  have hll := hL.len
  have hlt : unseen (c.set k true) * 41 + (W ++ L).length < unseen c * 41 + (W ++ [(k : Int)]).length := by simp; omega
  refine ⟨⟨by simp [hlen], fun q hq hs => ?_, fun t ht => ?_, mem 0 h.first, fun fn hf pc t hs ht => ?_, by have := h.few; omega⟩, hlt⟩
  · rw [hg q] at hs
    by_cases e : q = k
    · rw [e]; exact hc
    · rw [if_neg e] at hs; exact h.sound q hq hs
  · rcases List.mem_append.1 ht with ht | ht
    · exact h.wait t (List.mem_append_left _ ht)
    · obtain ⟨pc, hca⟩ := hL.here t ht
      obtain ⟨k', rfl, hk'⟩ := calls_fit hP hkl hca
      exact ⟨k', rfl, hk', Called.call hc hkl hca⟩
  · rw [hg fn] at hs
    by_cases e : fn = k
    · subst e
      exact Or.inr (List.mem_append_right _ (hL.all pc t ht.1 ht))
    · rw [if_neg e] at hs
      exact mem t (h.next fn hf pc t hs ht)

/-- In the midst of a round over all functions. -/
structure CMid (P : List Fn) (c0 : List Bool) (fn pc : Nat) (again : Bool) (c : List Bool) : Prop where
  len : c.length = c0.length
  sound : CSound P c0 → CSound P c
  keeps : ∀ q, c0.getD q false = true → c.getD q false = true
  less : again = true → unseen c < unseen c0
  same : again = false → c = c0 ∧ ∀ k (h : k < P.length) q (t : Nat), (k < fn ∨ (k = fn ∧ q < pc)) → c0.getD k false = true → CallsAt P[k] q (t : Int) → c0.getD t false = true
theorem CMid.start (P : List Fn) (c0 : List Bool) : CMid P c0 0 0 false c0 :=
  ⟨rfl, id, fun _ h => h, fun h => (by cases h), fun _ => ⟨rfl, fun k h q t hk => by omega⟩⟩
theorem CMid.next {P : List Fn} {c0 c : List Bool} {fn pc : Nat} {again : Bool} (h : CMid P c0 fn pc again c) (hf : fn < P.length) (hp : P[fn].code.length ≤ pc ∨ c.getD fn false = false) : CMid P c0 (fn + 1) 0 again c :=
  ⟨h.len, h.sound, h.keeps, h.less, fun ha => by
    obtain ⟨h1, h2⟩ := h.same ha
    refine ⟨h1, fun k hk q t hlt hc ht => ?_⟩
    rcases Nat.lt_or_ge k fn with hl | hl
    · exact h2 k hk q t (Or.inl hl) hc ht
    · obtain rfl : k = fn := by omega
      rcases hp with hp | hp
      · exact h2 k hk q t (Or.inr ⟨rfl, by have := ht.1; omega⟩) hc ht
      · subst h1; rw [hp] at hc; cases hc⟩
theorem CMid.skip {P : List Fn} {c0 c : List Bool} {fn pc : Nat} {again : Bool} (h : CMid P c0 fn pc again c) (hf : fn < P.length) (hn : ∀ t : Nat, CallsAt P[fn] pc (t : Int) → c.getD t false = true) : CMid P c0 fn (pc + 1) again c :=
  ⟨h.len, h.sound, h.keeps, h.less, fun ha => by
    obtain ⟨h1, h2⟩ := h.same ha
    refine ⟨h1, fun k hk q t hlt hc ht => ?_⟩
    by_cases hq : k < fn ∨ (k = fn ∧ q < pc)
    · exact h2 k hk q t hq hc ht
    · obtain rfl : k = fn := by omega
      obtain rfl : q = pc := by omega
      rw [← h1]; exact hn t ht⟩
theorem CMid.new {P : List Fn} {c0 c : List Bool} {fn pc t : Nat} {again : Bool} (h : CMid P c0 fn pc again c) (hf : fn < P.length) (hc : c.getD fn false = true) (ht : CallsAt P[fn] pc (t : Int)) (htl : t < c.length) (hu : c.getD t false = false) : CMid P c0 fn (pc + 1) true (c.set t true) := by
  have hun := unseen_set c t htl hu
  have hg : ∀ q, (c.set t true).getD q false = if q = t then true else c.getD q false := fun q => bget_set c t q true htl
  refine ⟨by simp [h.len], fun hs q hq hcq => ?_, fun q hq => ?_, fun _ => ?_, fun ha => by cases ha⟩
  · rw [hg q] at hcq
    by_cases e : q = t
    · rw [e]; exact Called.call (h.sound hs fn hf hc) hf ht
    · rw [if_neg e] at hcq; exact h.sound hs q hq hcq
  · rw [hg q]; split
    · rfl
    · exact h.keeps q hq
  · cases again
    · rw [(h.same rfl).1] at hun; rw [(h.same rfl).1]; omega
    · have := h.less rfl; omega
/-- What is known between two rounds. -/
def CLoops (P : List Fn) (again : Bool) (c : List Bool) : Prop := c.length = P.length ∧ CSound P c ∧ c.getD 0 false = true ∧ (again = false → CClosed P c)
theorem cloops_next {P : List Fn} {c0 c : List Bool} {again' : Bool} (h : CLoops P true c0) (hm : CMid P c0 P.length 0 again' c) : CLoops P again' c ∧ unseen c + (if again' = true then 1 else 0) < unseen c0 + (if true = true then 1 else 0) := by
  obtain ⟨h1, h2, h3, _⟩ := h
  refine ⟨⟨hm.len.trans h1, hm.sound h2, hm.keeps 0 h3, fun ha => ?_⟩, ?_⟩
  · obtain ⟨e, hcl⟩ := hm.same ha
    subst e
    exact fun fn hf pc t hc ht => hcl fn hf pc t (Or.inl hf) hc ht
  · cases again'
    · rw [(hm.same rfl).1]; simp
    · have := hm.less rfl; simp; omega
theorem cloops_start {P : List Fn} (h1 : 1 ≤ P.length) : CLoops P true ((List.replicate P.length false).set 0 true) := by
  have e : ∀ q, (List.replicate P.length false).getD q false = false := fun q => by
    rcases Nat.lt_or_ge q P.length with h | h
    · simp [List.getD, h]
    · simp [List.getD, h]
  refine ⟨by simp, fun q hq h => ?_, ?_, fun h => by cases h⟩
  · rw [bget_set _ 0 q true (by simp; omega)] at h
    by_cases e0 : q = 0
    · rw [e0]; exact Called.zero
    · rw [if_neg e0, e] at h; cases h
  · rw [bget_set _ 0 0 true (by simp; omega)]; rfl

/-- What P5.2 answers. -/
def CalledAns (P : List Fn) (E : Int) (c : List Bool) : Prop := (E ≠ 0 ∧ ProofAns P E ∧ c = []) ∨ (ProofAns P 0 ∧ E = 0 ∧ CalledSpec P c)
theorem calledAns_unique {P : List Fn} {E E' : Int} {c c' : List Bool} (h : CalledAns P E c) (h' : CalledAns P E' c') : E = E' ∧ c = c' := by
  rcases h with ⟨h0, h1, rfl⟩ | ⟨h1, rfl, hs⟩ <;> rcases h' with ⟨g0, g1, rfl⟩ | ⟨g1, rfl, gs⟩
  · exact ⟨proofAns_unique h1 g1, rfl⟩
  · exact absurd (proofAns_unique h1 g1) h0
  · exact absurd (proofAns_unique g1 h1) g0
  · exact ⟨rfl, calledSpec_unique hs gs⟩

/-- Targets lie in their function. -/
theorem target_fit {P : List Fn} (h : codeProg P = 0) {f : Fn} (hf : f ∈ P) {x : Ins} (hx : x ∈ f.code) (hop : x.op = 15 ∨ x.op = 16) : 0 ≤ x.imm ∧ x.imm < f.code.length := by
  obtain ⟨h1, h4, hall⟩ := codeProg_zero h
  obtain ⟨r1, r2, p0, p2, _, l1, l2, hi⟩ := codeFunc_zero (hall f hf)
  have hz := hi x hx
  rw [instr_same] at hz
  unfold refInstr at hz
  by_cases k1 : inB x.op 1 19 = false
  · rw [if_pos k1] at hz; cases hz
  rw [if_neg k1] at hz
  by_cases k2 : refOk1 x f.regs = false
  · rw [if_pos k2] at hz; cases hz
  rw [if_neg k2] at hz
  by_cases k3 : refOk2 x f.code.length P.length = false
  · rw [if_pos k3] at hz; cases hz
  have k3 : refOk2 x f.code.length P.length = true := by simpa using k3
  have : 0 ≤ x.imm ∧ x.imm ≤ (f.code.length : Int) - 1 := by simpa [refOk2, hop, inB] using k3
  omega

/-- An instruction in what is left. -/
def mvIns (x : Ins) (W F : List Int) : Ins := if x.op = 15 ∨ x.op = 16 then { x with imm := W.getD x.imm.toNat 0 } else if x.op = 17 then { x with imm := F.getD x.imm.toNat 0 } else x
/-- The instructions that are left, up to a place. -/
def movedTo (f : Fn) (W F : List Int) : Nat → List Ins
  | 0 => []
  | k + 1 => movedTo f W F k ++ (if W.getD k 0 = -1 then [] else [mvIns (insD f k) W F])
theorem movedTo_len (f : Fn) (W F : List Int) (k : Nat) : (movedTo f W F k).length ≤ k := by
  induction k with
  | zero => simp [movedTo]
  | succ k ih => unfold movedTo; rw [List.length_append]; split <;> simp <;> omega
theorem movedTo_gone {f : Fn} {W F : List Int} {k : Nat} (h : W.getD k 0 = -1) : movedTo f W F (k + 1) = movedTo f W F k := by rw [movedTo, if_pos h, List.append_nil]
theorem movedTo_kept {f : Fn} {W F : List Int} {k : Nat} (h : W.getD k 0 ≠ -1) : movedTo f W F (k + 1) = movedTo f W F k ++ [mvIns (insD f k) W F] := by rw [movedTo, if_neg h]
theorem mvIns_target {op dst a b imm : Int} {W F : List Int} (h : op = 15 ∨ op = 16) : mvIns ⟨op, dst, a, b, imm⟩ W F = ⟨op, dst, a, b, W.getD imm.toNat 0⟩ := if_pos h
theorem mvIns_call {dst a b imm : Int} {W F : List Int} : mvIns ⟨17, dst, a, b, imm⟩ W F = ⟨17, dst, a, b, F.getD imm.toNat 0⟩ := by
  unfold mvIns
  rw [if_neg (show ¬ ((17 : Int) = 15 ∨ (17 : Int) = 16) by decide), if_pos rfl]
theorem mvIns_else {op dst a b imm : Int} {W F : List Int} (h : op ≠ 15) (h' : op ≠ 16) (h'' : op ≠ 17) : mvIns ⟨op, dst, a, b, imm⟩ W F = ⟨op, dst, a, b, imm⟩ := by
  unfold mvIns
  rw [if_neg (by simp [h, h']), if_neg h'']
/-- A function of what is left. -/
def keptF (f : Fn) (s c : List Bool) : Fn := ⟨f.params, f.regs, movedTo f (whereL s) (whereL c) f.code.length⟩
/-- The functions that are left, up to one. -/
inductive KeptTo (P : List Fn) (c : List Bool) : Nat → List Fn → Prop
  | zero : KeptTo P c 0 []
  | gone {k : Nat} {Q : List Fn} (h : KeptTo P c k Q) (hk : c.getD k false = false) : KeptTo P c (k + 1) Q
  | kept {k : Nat} {Q : List Fn} {s : List Bool} (h : KeptTo P c k Q) (hp : k < P.length) (hk : c.getD k false = true) (hs : Reach P[k] s) : KeptTo P c (k + 1) (Q ++ [keptF P[k] s c])
theorem keptTo_unique {P : List Fn} {c : List Bool} {k : Nat} {Q Q' : List Fn} (h : KeptTo P c k Q) (h' : KeptTo P c k Q') : Q = Q' := by
  induction h generalizing Q' with
  | zero => cases h'; rfl
  | gone h hk ih =>
    cases h' with
    | gone h' _ => exact ih h'
    | kept h' _ hk' _ => rw [hk] at hk'; cases hk'
  | kept h hp hk hs ih =>
    cases h' with
    | gone h' hk' => rw [hk] at hk'; cases hk'
    | kept h' _ _ hs' => rw [ih h', reach_unique hs hs']
theorem keptTo_len {P : List Fn} {c : List Bool} {k : Nat} {Q : List Fn} (h : KeptTo P c k Q) : Q.length ≤ k := by
  induction h with
  | zero => simp
  | gone h hk ih => omega
  | kept h hp hk hs ih => simp; omega
/-- What P5.3 answers. -/
def TrimAns (P : List Fn) (E : Int) (Q : List Fn) : Prop := ((E != 0) = true ∧ ProofAns P E ∧ Q = []) ∨ (ProofAns P 0 ∧ E = 0 ∧ ∃ c, CalledSpec P c ∧ KeptTo P c P.length Q)
theorem trimAns_unique {P : List Fn} {E E' : Int} {Q Q' : List Fn} (h : TrimAns P E Q) (h' : TrimAns P E' Q') : E = E' ∧ Q = Q' := by
  rcases h with ⟨h0, h1, rfl⟩ | ⟨h1, rfl, c, hc, hk⟩ <;> rcases h' with ⟨g0, g1, rfl⟩ | ⟨g1, rfl, c', hc', hk'⟩
  · exact ⟨proofAns_unique h1 g1, rfl⟩
  · rw [proofAns_unique h1 g1] at h0; cases h0
  · rw [proofAns_unique g1 h1] at g0; cases g0
  · obtain rfl := calledSpec_unique hc hc'
    exact ⟨rfl, keptTo_unique hk hk'⟩
/-- What each place and function that is left may lead to. -/
structure MvOk (f : Fn) (N : Nat) : Prop where
  target : ∀ pc, pc < f.code.length → (insD f pc).op = 15 ∨ (insD f pc).op = 16 → ∃ t : Nat, (insD f pc).imm = t ∧ t < f.code.length
  call : ∀ pc, pc < f.code.length → (insD f pc).op = 17 → ∃ t : Nat, (insD f pc).imm = t ∧ t < N
theorem mvOk_of {P : List Fn} (h : codeProg P = 0) {f : Fn} (hf : f ∈ P) : MvOk f P.length := by
  refine ⟨fun pc hp ho => ?_, fun pc hp ho => ?_⟩
  · rw [insD_eq hp] at ho ⊢
    obtain ⟨a, b⟩ := target_fit h hf (List.getElem_mem hp) ho
    obtain ⟨t, ht⟩ := Int.eq_ofNat_of_zero_le a
    exact ⟨t, ht, by omega⟩
  · rw [insD_eq hp] at ho ⊢
    obtain ⟨a, b, _⟩ := (insOk_of h hf (List.getElem_mem hp)).call ho
    obtain ⟨t, ht⟩ := Int.eq_ofNat_of_zero_le a
    exact ⟨t, ht, by omega⟩
theorem op_has {op : Int} (h1 : 1 ≤ op) (h2 : op ≤ 19) : (bits .and .i64 (hasOf op) 16 != 0) = decide (op = 15 ∨ op = 16) ∧ (bits .and .i64 (hasOf op) 32 != 0) = decide (op = 17) := by
  refine ops19 (Q := fun op => (bits .and .i64 (hasOf op) 16 != 0) = decide (op = 15 ∨ op = 16) ∧ (bits .and .i64 (hasOf op) 32 != 0) = decide (op = 17)) (fun k hk => ?_) op h1 h2
  revert hk
  revert k
  decide
end Go.Proofs.YteabbanjjdmjkaaDoor

/- Contracts of trim.reached, trim.where and trim.Where. -/
namespace Go.Proofs.YteabbanjjdmjkaaDoor
open Go Go.RowKit

theorem made_ints (c : Nat) : (madeCells (Value.int .i64 0).cells (c * 1)).toList = i64s (List.replicate c 0) := by
  simp [madeCells, i64s, Value.cells]
  apply List.ext_getElem
  · simp
  · intro i h1 h2
    have : i % 1 = 0 := Nat.mod_one i
    simp [this]
theorem iget_set (s : List Int) (i q : Nat) (v : Int) (hi : i < s.length) : (s.set i v).getD q 0 = if q = i then v else s.getD q 0 := by
  rw [List.getD_eq_getElem?_getD, List.getElem?_set, List.getD_eq_getElem?_getD]
  by_cases h : i = q
  · subst h; simp [hi]
  · simp [h, Ne.symm h]

theorem pcheck_zero (P : List Fn) (h : ProofAns P 0) (v : Value) (w : World) (ht : TabOk w) (hc : CallOk w) (hv : ProgVal w v P) :
    Calls Tryd.prog 31 #[.agg #[v]] w fun e w' => e = .returned (.int .i64 0) ∧ Below w.heap.size w w' :=
  (pcheck_any P v w ht hc hv).mono fun _ _ ⟨_, he, hE, hb⟩ => ⟨by rw [he, proofAns_unique hE h], hb⟩
theorem pcheck_bad (P : List Fn) (h : ¬ ProofAns P 0) (v : Value) (w : World) (ht : TabOk w) (hc : CallOk w) (hv : ProgVal w v P) :
    Calls Tryd.prog 31 #[.agg #[v]] w fun e w' => ∃ E, e = .returned (.int .i64 E) ∧ (E != 0) = true ∧ ProofAns P E ∧ Below w.heap.size w w' :=
  (pcheck_any P v w ht hc hv).mono fun _ _ ⟨E, he, hE, hb⟩ => ⟨E, he, by simp only [bne_iff_ne, ne_eq]; intro h0; exact h (h0 ▸ hE), hE, hb⟩

/-- What a call that answers P5.1 leaves. -/
def WherePost (P : List Fn) (fn : Int) (w : World) (e : Ending) (w' : World) : Prop :=
  ∃ v' E A, e = .returned (.tuple #[v', .int .i64 E]) ∧ WhereAns P fn E A ∧ IntsVal w' v' A ∧ Below w.heap.size w w'

theorem own_row_ints {w : World} {g n : Nat} {l : List Int} (h : w.ownsRow 0 3 1 (.slice (some ⟨g, 0, none⟩) n n) n (i64s l)) (hl : l.length = n) : IntsVal w (.slice (some ⟨g, 0, none⟩) n n) l := by
  rw [← hl] at h ⊢
  exact ints_of_own h

end Go.Proofs.YteabbanjjdmjkaaDoor

/- Contract of the document's answer to P3.3 (tierlineref.Proven). -/
namespace Go.Proofs.YteabbanjjdmjkaaDoor
open Go Go.RowKit

theorem bad_yes {P : List Fn} {m : Nat} {x : Ins} {e : Nat} (he : e < (readsL P x).length) (h : hasB m ((readsL P x)[e]).toNat = false) : badB P (m : Int) x = true := by
  unfold badB
  have hd : decide (0 ≤ (m : Int)) = true := by simp
  rw [hd, Bool.true_and, List.any_eq_true]
  exact ⟨_, List.getElem_mem he, by simp [h]⟩
theorem bad_no {P : List Fn} {m : Nat} {x : Ins} (h : ∀ e (he : e < (readsL P x).length), hasB m ((readsL P x)[e]).toNat = true) : badB P (m : Int) x = false := by
  unfold badB
  have hd : decide (0 ≤ (m : Int)) = true := by simp
  rw [hd, Bool.true_and, List.any_eq_false]
  intro r hr
  obtain ⟨e, he, rfl⟩ := List.getElem_of_mem hr
  simp [h e he]
theorem bad_minus (P : List Fn) (x : Ins) : badB P (-1) x = false := rfl

set_option maxHeartbeats 4000000 in
set_option maxRecDepth 100000 in
theorem proven_any (P : List Fn) (v : Value) (w : World) (hv : ProgVal w v P) :
    Calls Tryd.prog 87 #[.agg #[v]] w fun e w' => ∃ E, e = .returned (.int .i64 E) ∧ ProofAns P E ∧ Below w.heap.size w w' := by
  have hbx : ∀ o, Below w.heap.size w (w.alloc o) := fun o => (Below.refl _ _).alloc (Nat.le_refl _) _
  have hC := fun o => programFault_any P v (w.alloc o) (hv.keeps (keeps_below (hbx o)))
  rw [← prog_same] at hC
  by_cases h0 : codeProg P = 0
  · have HANS : Hid (∀ E, ChecksTo P P E → ProofAns P E) := fun E h => Or.inr ⟨h0, h⟩
    have HPV : Hid (∀ W, Below w.heap.size w W → ProgVal W v P) := fun W hb => hv.keeps (keeps_below hb)
    rw [h0] at hC
    have hp1 := (codeProg_zero h0).1
    have hp4 := (codeProg_zero h0).2.1
    obtain ⟨ao, b, off, N, cap, rfl, ⟨hlen, haddr, hat⟩, hcap, hmax⟩ := hv
    obtain rfl := haddr (by omega)
    have HN : Hid (P.length = N) := hlen
    rw [hlen] at hp1 hp4
    unfold maxLen at hmax
    have HAT : Hid (∀ k (h : k < P.length), ∃ u, FnAt w b (off + k * 3) P[k] u) := hat
    have HOK : Hid (∀ k (h : k < P.length), FnOk P[k] ∧ ∀ x ∈ P[k].code, InsOk P x ∧ (x.op = 15 ∨ x.op = 16 → 0 ≤ x.imm)) := fun k h => fnOk_of h0 (List.getElem_mem h)
    have HSN : Hid (∀ k (h : k < P.length), SoFar P k → ProvesTo P P[k] 0 → SoFar P (k + 1)) := fun k h a b => soFar_next a h b
    have HSB : Hid (∀ k (h : k < P.length) e, SoFar P k → ProvesTo P P[k] e → e ≠ 0 → ChecksTo P P e) := fun k h e a b c => soFar_bad a h b c
    have HSE : Hid (∀ k, SoFar P k → N ≤ k → ChecksTo P P 0) := fun k a b => soFar_end a (by omega)
    clear hat haddr h0 hlen
    go_enter Tryd.func87, Tryd.ntmps87
    go_wp2_with (go_at_call 109; refine (hC _).mono ?_; rintro e w1 ⟨rfl, hb1⟩; have k0 := keeps_below hb1 ⟨w.heap.size, 0, none⟩ (.slice (some ⟨b, off, none⟩) N cap) (by simp); have HB1 : Hid (Below w.heap.size w w1) := ((Below.refl _ _).alloc (Nat.le_refl _) _).trans (hb1.mono (by simp)); have hz1 : w.heap.size < w1.heap.size := (by have := hb1.size; simp at this; omega); clear hb1)
    go_loopw [4] (fun i wr => ∃ k : Nat, k ≤ N ∧ i = .int .i64 k ∧ SoFar P k ∧ Below w1.heap.size w1 wr) (fun i _ => N - (intOf i).toNat)
    case atStart => exact ⟨0, Nat.zero_le _, rfl, soFar_zero P, Below.refl _ _⟩
    case round =>
      rename World => wa
      obtain ⟨k, hk, rfl, hsf, hbr⟩ := hrel
      have j0 := keeps_below hbr _ _ k0
      have hzr : w1.heap.size ≤ wa.heap.size := hbr.size
      have hzz : w.heap.size < wa.heap.size := by omega
      have HSF : Hid (SoFar P k) := hsf
      have HBR : Hid (Below w1.heap.size w1 wa) := hbr
      have HBW : Hid (Below w.heap.size w wa) := HB1.out.trans (hbr.mono (by omega))
      clear hsf hbr
      by_cases hlt : k < N
      · have hkx : k < P.length := by rw [HN.out]; exact hlt
        obtain ⟨u, hfn⟩ := HAT.out k hkx
        obtain ⟨d0, d1, d2, hu⟩ := hfn.keeps (keeps_below HBW.out)
        obtain ⟨hfo, hfi⟩ := HOK.out k hkx
        have hsn := HSN.out k hkx
        have hsb := HSB.out k hkx
        generalize P[k] = f at d0 d1 hu hfo hfi hsn hsb hfn
        clear hfn
        have hl1 := hfo.len1
        have hl2 := hfo.len2
        have hso := fun W cv (hcv : CodeVal W cv f.code) => sureOf_any P f hfo hfi cv W hcv
        have hua := fun o => hu.keeps (keeps_below ((Below.refl _ wa).alloc (Nat.le_refl _) o))
        obtain ⟨ao1, b1, off1, n, cap1, rfl, ⟨hln, had1, hat1⟩, hcp1, hmx1⟩ := hu
        obtain rfl := had1 (by omega)
        have HLN : Hid (f.code.length = n) := hln
        have HAT1 : Hid (∀ q (h : q < f.code.length), insAt wa b1 (off1 + q * 5) f.code[q]) := hat1
        have HINS : Hid (∀ q (h : q < f.code.length), InsOk P f.code[q]) := fun q h => (hfi _ (List.getElem_mem h)).1
        have HSNN : Hid (SoFar P k → ProvesTo P f 0 → SoFar P (k + 1)) := hsn
        have HSBB : Hid (∀ e, SoFar P k → ProvesTo P f e → e ≠ 0 → ChecksTo P P e) := hsb
        have HBAD : Hid (∀ L q, q < n → badB P (L.getD q 0) (insD f q) = true → proveE P f L = 6) := fun L q hq h => prove_bad (by omega) h
        have HGOOD : Hid (∀ L, (∀ q, q < n → badB P (L.getD q 0) (insD f q) = false) → proveE P f L = if L.getD n 0 = -1 then 0 else 7) := fun L h => by
          have := prove_good (P := P) (f := f) (L := L) (fun q hq => h q (by omega))
          rw [hln] at this
          exact this
        have HNUM : Hid (∀ L q, SureSpec f L → q < n + 1 → SureNum (L.getD q 0)) := fun L q h hq => h.num q (by omega)
        have HLEN : Hid (∀ L, SureSpec f L → L.length = n + 1) := fun L h => by rw [← hln]; exact h.1
        rw [hln] at hl1 hl2
        have hkI : (k : Int) < N := by omega
        have hcp := hcp1.1
        unfold maxLen at hmx1
        clear hsn hsb hln hat1 had1 hfi hfo hcp1
        go_wp2_with (go_at_call 65; refine (hso _ _ (hua _)).mono ?_; rintro e w2 ⟨v2, L, rfl, hsp, hI, hb2⟩; obtain ⟨ao2, b2, off2, n2, cap2, rfl, hl2', ha2, hc2, hcp2, hm2⟩ := ints_get hI; have hn2 : n2 = n + 1 := (hl2'.symm.trans (HLEN.out L hsp)); subst hn2; obtain rfl := ha2 (by omega); have HSP : Hid (SureSpec f L) := hsp; have HC2 : Hid (∀ q, q < n + 1 → w2.cell? ⟨b2, off2 + q, none⟩ = some (.int .i64 (L.getD q 0))) := hc2; have q0 := keeps_below hb2 _ _ (cell_alloc j0 _); have q2 := keeps_below hb2 _ _ (way_box wa _ _ 2 (.slice (some ⟨b1, off1, none⟩) n cap1) rfl); have HB2 : Hid (Below wa.heap.size wa w2) := ((Below.refl _ _).alloc (Nat.le_refl _) _).trans (hb2.mono (by simp)); have hz2 : wa.heap.size < w2.heap.size := (by have := hb2.size; simp at this; omega); clear hsp hl2' ha2 hc2 hb2 hI)
        have HBW2 : Hid (Below w.heap.size w w2) := below_call HBW.out (by omega) HB2.out
        clear hua hso d0 d1 d2
        go_loopw [7] (fun i wr => ∃ q : Nat, q ≤ n ∧ i = .int .i64 q ∧ (∀ j, j < q → badB P (L.getD j 0) (insD f j) = false) ∧ Below w2.heap.size w2 wr) (fun i _ => n - (intOf i).toNat)
        case atStart => exact ⟨0, Nat.zero_le _, rfl, fun j h => by omega, Below.refl _ _⟩
        case round =>
          rename World => wb
          obtain ⟨q, hq, rfl, hgood, hbb⟩ := hrel
          have r0 := keeps_below hbb _ _ q0
          have r2 := keeps_below hbb _ _ q2
          have hzb : w2.heap.size ≤ wb.heap.size := hbb.size
          have HGD : Hid (∀ j, j < q → badB P (L.getD j 0) (insD f j) = false) := hgood
          have HBB : Hid (Below w2.heap.size w2 wb) := hbb
          have HBWB : Hid (Below w.heap.size w wb) := HBW2.out.trans (hbb.mono (by omega))
          clear hgood
          by_cases hqn : q < n
          · have hqx : q < f.code.length := by rw [HLN.out]; exact hqn
            obtain ⟨g0, g1, g2, g3, g4⟩ := ((HAT1.out q hqx).keeps (keeps_below HB2.out)).keeps (keeps_below hbb)
            have hio := HINS.out q hqx
            have HX : Hid (insD f q = f.code[q]) := insD_eq hqx
            have cz := keeps_below hbb _ _ (HC2.out q (by omega))
            have hnum := HNUM.out L q HSP.out (by omega)
            have HZZ : Hid (L.getD q 0 = L.getD q 0) := rfl
            obtain ⟨z, hz⟩ : ∃ z, z = L.getD q 0 := ⟨_, rfl⟩
            rw [← hz] at cz hnum
            have HZ : Hid (z = L.getD q 0) := hz
            clear hz HZZ
            generalize f.code[q] = x at g0 g1 g2 g3 g4 hio HX
            have hro := fun W hW => readsOf_any P (.slice (some ⟨b, off, none⟩) N cap) x W hW hio
            have hsm := readsL_small hio
            have hPd1 : ProgVal wb.drew (.slice (some ⟨b, off, none⟩) N cap) P := (HPV.out wb HBWB.out).keeps fun _ _ h => h
            have HYES : Hid (∀ m : Nat, z = m → ∀ e (he : e < (readsL P x).length), hasB m ((readsL P x)[e]).toNat = false → badB P (L.getD q 0) (insD f q) = true) := fun m hm e he h => by rw [← HZ.out, hm, HX.out]; exact bad_yes he h
            have HNO : Hid (∀ m : Nat, z = m → (∀ e (he : e < (readsL P x).length), hasB m ((readsL P x)[e]).toNat = true) → badB P (L.getD q 0) (insD f q) = false) := fun m hm h => by rw [← HZ.out, hm, HX.out]; exact bad_no h
            have HMI : Hid (z = -1 → badB P (L.getD q 0) (insD f q) = false) := fun hm => by rw [← HZ.out, hm]; exact bad_minus _ _
            generalize readsL P x = R at hro hsm HYES HNO
            have HSM : Hid (∀ r ∈ R, 0 ≤ r ∧ r < 12) := hsm
            obtain ⟨op, dst, xa, xb, imm⟩ := x
            unfold Ins.val at hro
            dsimp only at g0 g1 g2 g3 g4
            have hqI : (q : Int) < n := by omega
            clear hsm hio hbb
            go_wp2_with fail
            go_region_held3 (fun w' => w'.cell? ⟨w.heap.size, 0, none⟩ = some (.slice (some ⟨b, off, none⟩) N cap) ∧ w'.cell? ⟨wa.heap.size, 2, none⟩ = some (.slice (some ⟨b1, off1, none⟩) n cap1) ∧ w'.cell? ⟨b1, off1 + q * 5, none⟩ = some (.int .i64 op) ∧ w'.cell? ⟨b1, off1 + q * 5 + 1, none⟩ = some (.int .i64 dst) ∧ w'.cell? ⟨b1, off1 + q * 5 + 2, none⟩ = some (.int .i64 xa) ∧ w'.cell? ⟨b1, off1 + q * 5 + 3, none⟩ = some (.int .i64 xb) ∧ w'.cell? ⟨b1, off1 + q * 5 + 4, none⟩ = some (.int .i64 imm)) (go_keep) ((go_at_call 66; refine (hro _ hPd1).mono ?_; rintro e w3 ⟨v3, rfl, hown3, hb3⟩; obtain ⟨ao3, b3, off3, n3, cap3, rfl, hl3, ha3, hc3, hcp3, hmx3⟩ := ints_of_own hown3; have s0 := keeps_below hb3 _ _ r0; have s2 := keeps_below hb3 _ _ r2; have s3 := keeps_below hb3 _ _ g0; have s4 := keeps_below hb3 _ _ g1; have s5 := keeps_below hb3 _ _ g2; have s6 := keeps_below hb3 _ _ g3; have s7 := keeps_below hb3 _ _ g4))
            have HL3 : Hid (R.length = n3) := hl3
            have HA3 : Hid (0 < n3 → ao3 = some ⟨b3, off3, none⟩) := ha3
            have HC3 : Hid (∀ j (h : j < R.length), w3.cell? ⟨b3, off3 + j, none⟩ = some (.int .i64 R[j])) := hc3
            have HB3 : Hid (Below w2.heap.size w2 w3) := HBB.out.drew.trans (hb3.mono (by simpa using hzb))
            have c3 := keeps_below hb3 _ _ cz
            have hcp3' := hcp3.1
            unfold maxLen at hmx3
            rename_i hHeld
            clear hl3 ha3 hc3 hcp3 hHeld s3 s4 s5 s6 s7 g0 g1 g2 g3 g4 r0 r2 hb3 hown3 hro hPd1 cz
            go_wp2
            go_loopw [9] (fun i wr => ∃ e : Nat, e ≤ n3 ∧ i = .int .i64 e ∧ (∀ m : Nat, z = m → ∀ j (h : j < R.length), j < e → hasB m (R[j]).toNat = true) ∧ Below w3.heap.size w3 wr) (fun i _ => n3 - (intOf i).toNat)
            case atStart => exact ⟨0, Nat.zero_le _, rfl, fun _ _ j _ h => by omega, Below.refl _ _⟩
            case round =>
              obtain ⟨e, he, rfl, hall, hbw⟩ := hrel
              have HALL : Hid (∀ m : Nat, z = m → ∀ j (h : j < R.length), j < e → hasB m (R[j]).toNat = true) := hall
              have HBX : Hid (Below w3.heap.size w3 wr) := hbw
              have cz := keeps_below hbw _ _ c3
              have HBXX : Hid (Below w2.heap.size w2 wr) := HB3.out.trans (hbw.mono (by have := HB3.out.size; omega))
              clear hall
              by_cases hle : e < n3
              · obtain rfl := HA3.out (by omega)
                have heR : e < R.length := by rw [HL3.out]; exact hle
                have cr := keeps_below hbw _ _ (HC3.out e heR)
                obtain ⟨r0, r1⟩ := HSM.out R[e] (List.getElem_mem heR)
                have heI : (e : Int) < n3 := by omega
                have hqI2 : (q : Int) < n + 1 := by omega
                rcases hnum with hm | ⟨z0, z1⟩
                · subst hm
                  generalize R[e] = rr at cr r0 r1
                  clear hbw
                  go_wp2
                  go_quiet (fail)
                  go_wp2
                  go_roundw
                  case rel => exact ⟨e + 1, by omega, by go_num, fun m hm => by omega, below_drewN HBX.out _⟩
                  case measure => simp [intOf]; omega
                · obtain ⟨m, rfl⟩ := Int.eq_ofNat_of_zero_le z0
                  have hhb := fun W => hasBit_int m R[e] _ W (by omega) r0 r1 rfl
                  have HYE := HYES.out m rfl e heR
                  have HNX : Hid (hasB m (R[e]).toNat = true → ∀ m' : Nat, (m : Int) = m' → ∀ j (h : j < R.length), j < e + 1 → hasB m' (R[j]).toNat = true) := fun h m' hm j hj hlt => by
                    rcases Nat.lt_or_ge j e with h1 | h1
                    · exact HALL.out m' hm j hj h1
                    · obtain rfl : j = e := by omega
                      obtain rfl : m = m' := by omega
                      exact h
                  have HYE2 : Hid (hasB m (R[e]).toNat = false → badB P (L.getD q 0) (insD f q) = true) := HYE
                  generalize hasB m (R[e]).toNat = hb at hhb HNX HYE2
                  generalize R[e] = rr at cr r0 r1 hhb
                  clear hbw HYE
                  cases hb
                  · go_wp2
                    go_quiet ((go_at_call 40; exact Calls.quiet_of_same (hhb _)))
                    go_wp2
                    go_ret
                    exact ⟨6, rfl, HANS.out 6 (HSBB.out 6 HSF.out ⟨L, HSP.out, (HBAD.out L q hqn (HYE2.out (by first | rfl | trivial))).symm⟩ (by decide)), below_drewN (HBW2.out.trans (HBXX.out.mono (by omega))) _⟩
                  · go_wp2
                    go_quiet ((go_at_call 40; exact Calls.quiet_of_same (hhb _)))
                    go_wp2
                    go_roundw
                    case rel => exact ⟨e + 1, by omega, by go_num, HNX.out (by first | rfl | trivial), below_drewN HBX.out _⟩
                    case measure => simp [intOf]; omega
              · obtain rfl : e = n3 := by omega
                have HFIN : Hid (badB P (L.getD q 0) (insD f q) = false) := by
                  rcases hnum with hm | ⟨z0, z1⟩
                  · exact HMI.out hm
                  · obtain ⟨m, hm⟩ := Int.eq_ofNat_of_zero_le z0
                    exact HNO.out m hm fun j hj => HALL.out m hm j hj (by have := HL3.out; omega)
                clear hbw
                go_wp2
                go_roundw
                case rel => exact ⟨q + 1, by omega, by go_num, fun j hj => by
                    rcases Nat.lt_or_ge j q with h | h
                    · exact HGD.out j h
                    · obtain rfl : j = q := by omega
                      exact HFIN.out, HBXX.out⟩
                case measure => simp [intOf]; omega
          · obtain rfl : q = n := by omega
            have cz := keeps_below hbb _ _ (HC2.out q (by omega))
            have hnum := HNUM.out L q HSP.out (by omega)
            have HPE := HGOOD.out L HGD.out
            have HB12 : Hid (Below w1.heap.size w1 wb) := HBR.out.trans ((HB2.out.trans (hbb.mono (by omega))).mono hzr)
            obtain ⟨z, hz⟩ : ∃ z, z = L.getD q 0 := ⟨_, rfl⟩
            rw [← hz] at cz hnum HPE
            have hqI2 : (q : Int) < q + 1 := by omega
            clear hz hbb
            rcases hnum with hm | ⟨z0, z1⟩
            · subst hm
              rw [if_pos rfl] at HPE
              have HP0 : Hid (ProvesTo P f 0) := ⟨L, HSP.out, HPE.symm⟩
              clear HPE
              go_wp2
              go_roundw
              case rel => exact ⟨k + 1, by omega, by go_num, HSNN.out HSF.out HP0.out, HB12.out⟩
              case measure => simp [intOf]; omega
            · rw [if_neg (by omega)] at HPE
              have HP7 : Hid (ProvesTo P f 7) := ⟨L, HSP.out, HPE.symm⟩
              clear HPE
              go_wp2
              go_ret
              exact ⟨7, rfl, HANS.out 7 (HSBB.out 7 HSF.out HP7.out (by decide)), HBWB.out⟩
      · go_wp2
        go_ret
        exact ⟨0, rfl, HANS.out 0 (HSE.out k HSF.out (by omega)), HBW.out⟩
  · have HANS : Hid (ProofAns P (codeProg P)) := Or.inl ⟨h0, rfl⟩
    have h' : (codeProg P != 0) = true := by simpa using h0
    obtain ⟨ao, b, off, n, cap, rfl, _⟩ := hv
    clear h0 hbx
    go_enter Tryd.func87, Tryd.ntmps87
    go_wp2_with (go_at_call 109; refine (hC _).mono ?_; rintro e w1 ⟨rfl, hb1⟩)
    go_ret
    exact ⟨_, rfl, HANS.out, ((Below.refl _ _).alloc (Nat.le_refl _) _).trans (hb1.mono (by simp))⟩

end Go.Proofs.YteabbanjjdmjkaaDoor

/- Contracts of the document's answer to P5.1: functionFault and WhereOf of package tierlineref. -/
namespace Go.Proofs.YteabbanjjdmjkaaDoor
open Go Go.RowKit

theorem proven_zero (P : List Fn) (h : ProofAns P 0) (v : Value) (w : World) (hv : ProgVal w v P) :
    Calls Tryd.prog 87 #[.agg #[v]] w fun e w' => e = .returned (.int .i64 0) ∧ Below w.heap.size w w' :=
  (proven_any P v w hv).mono fun _ _ ⟨_, he, hE, hb⟩ => ⟨by rw [he, proofAns_unique hE h], hb⟩
theorem proven_bad (P : List Fn) (h : ¬ ProofAns P 0) (v : Value) (w : World) (hv : ProgVal w v P) :
    Calls Tryd.prog 87 #[.agg #[v]] w fun e w' => ∃ E, e = .returned (.int .i64 E) ∧ (E == 0) = false ∧ ProofAns P E ∧ Below w.heap.size w w' :=
  (proven_any P v w hv).mono fun _ _ ⟨E, he, hE, hb⟩ => ⟨E, he, by simp only [beq_eq_false_iff_ne, ne_eq]; intro h0; exact h (h0 ▸ hE), hE, hb⟩

/-- The document's fault of a program and a function of it. -/
def FaultAns (P : List Fn) (fn E : Int) : Prop := ((E == 0) = false ∧ ProofAns P E) ∨ (ProofAns P 0 ∧ ¬ (0 ≤ fn ∧ fn < P.length) ∧ E = 2) ∨ (ProofAns P 0 ∧ (0 ≤ fn ∧ fn < P.length) ∧ E = 0)

set_option maxRecDepth 100000 in
set_option maxHeartbeats 1000000 in
theorem fault_any (P : List Fn) (v : Value) (fn : Int) (w : World) (hv : ProgVal w v P) :
    Calls Tryd.prog 64 #[.agg #[v], .int .i64 fn] w fun e w' => ∃ E, e = .returned (.int .i64 E) ∧ FaultAns P fn E ∧ Below w.heap.size w w' := by
  have hbx : ∀ o, Below w.heap.size w (w.alloc o) := fun o => (Below.refl _ _).alloc (Nat.le_refl _) _
  by_cases h0 : ProofAns P 0
  · have hC := fun o => proven_zero P h0 v (w.alloc o) (hv.keeps (keeps_below (hbx o)))
    have hP := proof_code h0
    have hp1 := (codeProg_zero hP).1
    have hp4 := (codeProg_zero hP).2.1
    by_cases hr : 0 ≤ fn ∧ fn < P.length
    · have HAN : Hid (FaultAns P fn 0) := Or.inr (Or.inr ⟨h0, hr, rfl⟩)
      obtain ⟨ao, b, off, n, cap, rfl, ⟨hlen, _, _⟩, hcap, hmax⟩ := hv
      unfold maxLen at hmax
      have hi : inB fn 0 ((n : Int) - 1) = true := by simp only [inB, decide_eq_true_eq]; omega
      clear h0 hP hbx hr
      go_enter Tryd.func64, Tryd.ntmps64
      go_wp2_with (first
        | (go_at_call 87; refine (hC _).mono ?_; rintro e w1 ⟨rfl, hb1⟩; have k0 := keeps_below hb1 ⟨w.heap.size, 0, none⟩ (.slice ao n cap) (by simp))
        | (go_at_call 39; refine (in_any _ _ _ _).mono ?_; rintro e w' ⟨rfl, hw'⟩; replace hw' := hw'.symm; subst hw'))
      go_ret
      exact ⟨_, rfl, HAN.out, ((Below.refl _ _).alloc (Nat.le_refl _) _).trans (hb1.mono (by simp))⟩
    · have HAN : Hid (FaultAns P fn 2) := Or.inr (Or.inl ⟨h0, hr, rfl⟩)
      obtain ⟨ao, b, off, n, cap, rfl, ⟨hlen, _, _⟩, hcap, hmax⟩ := hv
      unfold maxLen at hmax
      have hi : inB fn 0 ((n : Int) - 1) = false := by simp only [inB, decide_eq_false_iff_not]; omega
      clear h0 hP hbx hr
      go_enter Tryd.func64, Tryd.ntmps64
      go_wp2_with (first
        | (go_at_call 87; refine (hC _).mono ?_; rintro e w1 ⟨rfl, hb1⟩; have k0 := keeps_below hb1 ⟨w.heap.size, 0, none⟩ (.slice ao n cap) (by simp))
        | (go_at_call 39; refine (in_any _ _ _ _).mono ?_; rintro e w' ⟨rfl, hw'⟩; replace hw' := hw'.symm; subst hw'))
      go_ret
      exact ⟨_, rfl, HAN.out, ((Below.refl _ _).alloc (Nat.le_refl _) _).trans (hb1.mono (by simp))⟩
  · have hC := fun o => proven_bad P h0 v (w.alloc o) (hv.keeps (keeps_below (hbx o)))
    have HAN : Hid (∀ E : Int, (E == 0) = false → ProofAns P E → FaultAns P fn E) := fun E a b => Or.inl ⟨a, b⟩
    obtain ⟨ao, b, off, n, cap, rfl, _⟩ := hv
    clear h0 hbx
    go_enter Tryd.func64, Tryd.ntmps64
    go_wp2_with (go_at_call 87; refine (hC _).mono ?_; rintro e w1 ⟨E, rfl, hne, hE, hb1⟩; have HE : Hid (ProofAns P E) := hE; clear hE)
    go_ret
    exact ⟨E, rfl, HAN.out E hne HE.out, ((Below.refl _ _).alloc (Nat.le_refl _) _).trans (hb1.mono (by simp))⟩

end Go.Proofs.YteabbanjjdmjkaaDoor

/- Contract of tierlinelaw.programs: it answers a program of new memory that reads as the one that was handed in, and nothing that was there has turned. -/
namespace Go.Proofs.YteabbanjjdmjkaaDoor
open Go Go.RowKit

set_option maxRecDepth 100000 in
set_option maxHeartbeats 1000000 in
theorem programs_any (p : List Fn) (v : Value) (w : World) (hv : ProgVal w v p) (hs : p.length * 40 ≤ 140737488355328) (hs' : ∀ f ∈ p, f.code.length * 40 ≤ 140737488355328) :
    Calls Tryd.prog 11 #[.agg #[v]] w fun e w' => ∃ v', e = .returned (.agg #[v']) ∧ ProgVal w' v' p ∧ Below w.heap.size w w' := by
  obtain ⟨ao, b, off, n, cap, rfl, ⟨hlen, haddr, hat⟩, hcap, hmax⟩ := hv
  have HL : Hid (p.length = n) := hlen
  obtain ⟨iF, hiF, hzF0, hzF1, hzF2⟩ := info_parts infoF
  obtain ⟨iI, hiI, hzI0, hzI1, hzI2⟩ := info_parts infoI
  have h47 : n * 40 ≤ 140737488355328 := by rw [← hlen]; exact hs
  clear hlen hs
  go_enter Tryd.func11, Tryd.ntmps11
  go_wp2_with fail
  go_loopw [4] (fun i wr => ∃ k : Nat, k ≤ n ∧ i = .int .i64 k ∧ Below (w.heap.size + 2) (((w.alloc (.cells #[.slice ao n cap] 24)).alloc (.cells #[.slice none 0 0] 24)).alloc (.cells #[.slice none 0 0] 24)) wr ∧
      ∃ vo us, wr.heap[w.heap.size + 1 + 1]? = some (.cells #[vo] 24 (0, 0)) ∧ Built wr (w.heap.size + 3) 63 60 vo (p.take k) us) (fun i _ => n - (intOf i).toNat)
  case atStart => exact ⟨0, Nat.zero_le _, rfl, Below.refl _ _, .slice none 0 0, [], by
    have := heap_alloc_new ((w.alloc (.cells #[.slice ao n cap] 24)).alloc (.cells #[.slice none 0 0] 24)) (.cells #[.slice none 0 0] 24)
    simpa only [World.size_alloc] using this, built_nil _ _ _ _⟩
  case round =>
    obtain ⟨k, hk, rfl, hb, vo, us, ho, hbt⟩ := hrel
    have hbw : Below w.heap.size w wr := ((((Below.refl _ _).alloc (Nat.le_refl _) _).alloc (by simp) _).alloc (by simp; omega) _).trans (hb.mono (by omega))
    have c0 : wr.cell? ⟨w.heap.size, 0, none⟩ = some (.slice ao n cap) := (hb.cell (p := ⟨w.heap.size, 0, none⟩) (by simp)).trans (cell_alloc (cell_alloc (by simp) _) _)
    have co := cell_of_one ho
    have cf := free_of_one ho
    have hz : w.heap.size + 1 + 1 < wr.heap.size := lt_of_block ho
    by_cases hlt : k < n
    · have hkx : k < p.length := by rw [HL.out]; exact hlt
      obtain rfl := haddr (by omega)
      obtain ⟨u, hfn⟩ := hat k hkx
      obtain ⟨d0, d1, d2, hu⟩ := hfn.keeps (keeps_below hbw)
      have hsk := hs' p[k] (List.getElem_mem hkx)
      have htk : p.take (k + 1) = p.take k ++ [p[k]] := by rw [List.take_succ_eq_append_getElem hkx]
      generalize hx : p[k] = x at d0 d1 d2 hu hsk htk
      obtain ⟨params, regs, xs⟩ := x
      obtain ⟨ao1, b1, off1, n1, cap1, rfl, hci, hcap1, hmax1⟩ := hu
      dsimp only at d0 d1 d2 hci hsk
      have hlen1 := hci.len
      have hcc := codeIn_cells hci
      have HB : Hid (Below (w.heap.size + 2) (((w.alloc (.cells #[.slice (some ⟨b, off, none⟩) n cap] 24)).alloc (.cells #[.slice none 0 0] 24)).alloc (.cells #[.slice none 0 0] 24)) wr) := hb
      have HT : Hid (p.take (k + 1) = p.take k ++ [⟨params, regs, xs⟩]) := htk
      have HBT : Hid (Built wr (w.heap.size + 3) 63 60 vo (p.take k) us) := hbt
      have HO : Hid (wr.heap[w.heap.size + 1 + 1]? = some (.cells #[vo] 24 (0, 0))) := ho
      have HCA : Hid (∀ o, ∀ ad, ao1 = some ad → ∀ j u, (codeCells xs)[j]? = some u → (wr.alloc o).cell? (ad.add j) = some u) := fun o ad ha j u hj => by
        have hpos : 0 < n1 := by
          rw [← hci.len]
          rcases Nat.eq_zero_or_pos xs.length with h0 | h0
          · rw [List.length_eq_zero_iff.1 h0] at hj; simp [codeCells] at hj
          · exact h0
        obtain rfl : ad = ⟨b1, off1, none⟩ := Option.some.inj (ha.symm.trans (hci.addr hpos))
        exact cell_alloc (hcc j u hj) o
      have HNN : Hid (ao1 = none → n1 = 0 ∧ cap1 = 0) := fun h => ⟨by have := hcap1.2 h; have := hcap1.1; omega, hcap1.2 h⟩
      have HLX : Hid (xs.length = n1) := hlen1
      have hsn : n1 * 40 ≤ 140737488355328 := by rw [← hlen1]; exact hsk
      have HK1 : Hid ((p.take k).length + 1 ≤ maxLen) := by show _ ≤ _; simp only [List.length_take, maxLen]; omega
      have HK2 : Hid (((p.take k).length + 1) * 40 ≤ 140737488355328) := by show _ ≤ _; simp only [List.length_take]; omega
      clear hat haddr hx hb hfn htk hbt ho hci hs' hsk hlen1 hcc
      go_wp2_with (first
        | (at_builtin; refine wpList_append_slice rfl (.const (.slice none 0 0)) (.tmp 19) 61 rfl (w.heap.size + 3) 60 iI _ 5 40 Tryd.underlying61 hiI hzI0 hzI1 hzI2 rfl (by decide) (.slice none 0 0) 0 [] rfl (World.ownsRow_nil _ _ _ _) ao1 n1 cap1 (codeCells xs) rfl HNN.out (by rw [codeCells_length, HLX.out]) (HCA.out _) (codeCells_one xs) (by unfold maxLen; omega) (by omega) (by simp; omega) ?_; intro u1 w1 hown1 hg1; simp only [Nat.zero_add, List.nil_append] at hown1; obtain ⟨ao2, cap2, rfl⟩ := own_shape hown1; have hb1 := below_grown hg1; have k0 : w1.cell? ⟨wr.heap.size, 0, none⟩ = some (.int .i64 params) := (hb1.cell (p := ⟨wr.heap.size, 0, none⟩) (by simp)).trans (by simp); have k1 : w1.cell? ⟨wr.heap.size, 1, none⟩ = some (.int .i64 regs) := (hb1.cell (p := ⟨wr.heap.size, 1, none⟩) (by simp)).trans (by simp); have k2 : w1.cell? ⟨wr.heap.size, 2, none⟩ = some (.slice ao1 n1 cap1) := (hb1.cell (p := ⟨wr.heap.size, 2, none⟩) (by simp)).trans (by simp); have kf : w1.frozen? ⟨wr.heap.size, 2, none⟩ = false := (hb1.frozen (p := ⟨wr.heap.size, 2, none⟩) (by simp)).trans (by simp); have ko : w1.cell? ⟨w.heap.size + 1 + 1, 0, none⟩ = some vo := (hb1.cell (p := ⟨w.heap.size + 1 + 1, 0, none⟩) (by simp; omega)).trans (cell_alloc co _); have kz : wr.heap.size < w1.heap.size := by (have := hb1.size; simp at this; omega))
        | (at_builtin; refine wpList_append_own _ rfl (.tmp 23) (.tmp 25) 22 rfl (w.heap.size + 3) 63 iF _ 3 40 Tryd.underlying22 hiF hzF0 hzF1 hzF2 rfl (by decide) vo (p.take k).length (fnsCells (p.take k) us) rfl ((HBT.out.below ((((Below.refl _ _).alloc (Nat.le_refl _) _).trans (hb1.mono (by simp))).setCell (Nat.le_refl _) _)).alloc _).row ⟨w1.heap.size, 0, none⟩ 1 1 (fnCells ⟨params, regs, xs⟩ (.slice ao2 n1 cap2)) rfl rfl (news_three _ _ _ _ _ _ (by simp)) (fnCells_one _ _ _ _) HK1.out HK2.out (by simp; omega) ?_; intro v3 w3 hown3 hg3 _; obtain ⟨ao3, cap3, rfl⟩ := own_shape hown3; have R := built_step (f := ⟨params, regs, xs⟩) (by decide) (by omega) hz HBT.out HO.out hg1 (by rw [HLX.out]; exact hown1) hg3 hown3; have ho3 := R.1; have co3 := cell_of_one ho3; have cf3 := free_of_one ho3))
      rw [List.length_take] at R
      have HR := R
      go_roundw
      case rel => exact ⟨k + 1, by omega, by go_num, HR.2.2.2 _ _ (by omega) HB.out, _, _, HR.2.2.1, by rw [HT.out]; exact HR.2.1⟩
      case measure => simp [intOf]; omega
    · have htk : p.take k = p := List.take_of_length_le (by rw [HL.out]; omega)
      rw [htk] at hbt
      obtain ⟨ao3, cap3, rfl⟩ := own_shape hbt.row
      have hbr : Below w.heap.size w wr := hbw
      have HP : Hid (∀ a, a.block < w.heap.size + 3 → ∀ u, ProgVal (wr.setCell a u) (.slice ao3 p.length cap3) p) := fun a ha u => (hbt.setCell ha u).prog
      have g1 : wr.heap[w.heap.size + 1]? = some (.cells #[.slice none 0 0] 24 (0, 0)) := (hb.block _ (by omega)).trans ((heap_alloc_old _ _ (by simp)).trans (by
        have := heap_alloc_new (w.alloc (.cells #[.slice ao n cap] 24)) (.cells #[.slice none 0 0] 24)
        simpa only [World.size_alloc] using this))
      have c1 := cell_of_one g1
      have f1 := free_of_one g1
      clear hat haddr hb htk hbt hs' g1
      go_wp2
      exact bodyPost_ret (v := .agg #[.slice ao3 p.length cap3]) (by simp [results, Tryd.results11, go_sem, c1]) rfl ⟨_, rfl, HP.out ⟨w.heap.size + 1, 0, none⟩ (by simp) _, hbr.setCell (by simp) _⟩

end Go.Proofs.YteabbanjjdmjkaaDoor

/- Contracts of tierlinelaw.ints, tierlineref.Numbers and tierlineref.Begun: the document's own beginning. -/
namespace Go.Proofs.YteabbanjjdmjkaaDoor
open Go Go.RowKit

theorem ints_cells {w : World} {v : Value} {l : List Int} (h : IntsVal w v l) : ∃ ao c, v = .slice ao l.length c ∧ (ao = none → l.length = 0 ∧ c = 0) ∧ ∀ ad, ao = some ad → ∀ j u, (i64s l)[j]? = some u → w.cell? (ad.add j) = some u := by
  rcases ints_some h with ⟨rfl, rfl⟩ | ⟨a, cap, rfl, hc⟩
  · exact ⟨none, 0, rfl, fun _ => ⟨rfl, rfl⟩, fun ad h => by cases h⟩
  · refine ⟨some a, cap, rfl, fun h => (by cases h), fun ad h => ?_⟩
    obtain rfl : a = ad := by simpa using h
    exact hc

set_option maxRecDepth 100000 in
set_option maxHeartbeats 400000 in
theorem numbers_any (v : Value) (l : List Int) (w : World) (hv : IntsVal w v l) (hs : l.length * 8 ≤ 140737488355328) :
    Calls Tryd.prog 63 #[v] w fun e w' => ∃ v', e = .returned v' ∧ w'.ownsRow w.heap.size 3 1 v' l.length (i64s l) ∧ Below w.heap.size w w' := by
  obtain ⟨i64i, hi64, hz0, hz1, hz2⟩ := info_parts info64
  obtain ⟨ao, b, off, n, cap, rfl, hl, ha, hc, hcap, hmx⟩ := hv
  have HL : Hid (l.length = n) := hl
  have HC : Hid (∀ k (h : k < l.length), w.cell? ⟨b, off + k, none⟩ = some (.int .i64 l[k])) := hc
  have HA : Hid (0 < n → ao = some ⟨b, off, none⟩) := ha
  have hcp := hcap.1
  unfold maxLen at hmx
  rw [hl] at hs
  clear hl hc ha hcap
  go_enter Tryd.func63, Tryd.ntmps63
  go_wp2
  go_loopw [3, 4] (fun o i wr => ∃ k : Nat, k ≤ n ∧ i = .int .i64 k ∧ wr.ownsRow w.heap.size 3 1 o k (i64s (l.take k)) ∧ Below w.heap.size w wr) (fun _ i _ => n - (intOf i).toNat)
  case atStart => exact ⟨0, Nat.zero_le _, rfl, World.ownsRow_nil _ _ _ _, Below.refl _ _⟩
  case round =>
    obtain ⟨k, hk, rfl, hr, hb⟩ := hrel
    have hz : w.heap.size ≤ wr.heap.size := hb.size
    have HB : Hid (Below w.heap.size w wr) := hb
    by_cases hlt : k < n
    · obtain rfl := HA.out (by omega)
      have hkl : k < l.length := by rw [HL.out]; exact hlt
      have c0 := keeps_below hb _ _ (HC.out k hkl)
      have HT : Hid (i64s (l.take k) ++ i64s [l[k]] = i64s (l.take (k + 1))) := by show _ = _; rw [← i64s_append, List.take_succ_eq_append_getElem hkl]
      generalize l[k] = x at c0 HT
      have hkI : (k : Int) < n := by omega
      obtain ⟨ao1, cap1, rfl⟩ := own_shape hr
      have HR : Hid (wr.ownsRow w.heap.size 3 1 (.slice ao1 k cap1) k (i64s (l.take k))) := hr
      clear hb hr HA
      go_wp2_with (at_builtin; refine wpList_append_own _ rfl (.tmp 11) (.tmp 16) 27 rfl w.heap.size 3 i64i _ 1 8 Tryd.underlying27 hi64 hz0 hz1 hz2 rfl (by decide) _ _ _ rfl (HR.out.alloc _) ⟨wr.heap.size, 0, none⟩ 1 1 (i64s [x]) rfl rfl (news_list _ _ _ _ rfl) (i64s_one _) (by unfold maxLen; omega) (by omega) (by simp; omega) ?_; intro v2 w2 hown2 hg2 _)
      rw [HT.out] at hown2
      go_roundw
      case rel => exact ⟨k + 1, by omega, by go_num, hown2, (HB.out.alloc hz _).trans (grown_base (HR.out.alloc _) (by simp; omega) hg2)⟩
      case measure => simp [intOf]; omega
    · obtain rfl : k = n := by omega
      have HT : Hid (l.take k = l) := by show _ = _; rw [← HL.out]; exact List.take_length
      have HR := hr
      rw [HT.out] at HR
      obtain ⟨ao1, cap1, rfl⟩ := own_shape hr
      clear hr hb
      go_wp2
      go_ret
      exact ⟨_, rfl, by rw [HL.out]; exact HR, HB.out⟩

theorem begunFr_set (args : List Int) (k : Nat) (hk : k < args.length) (h12 : args.length ≤ 12) : (frCells (begunFr 0 (args.take k))).toArray.setIfInBounds (2 + k) (.int .i64 args[k]) = (frCells (begunFr 0 (args.take (k + 1)))).toArray := by
  have e : ∀ j, j ≤ args.length → frCells (begunFr 0 (args.take j)) = [.int .i64 0, .int .i64 0] ++ (i64s (args.take j) ++ List.replicate (12 - j) (Value.int .i64 0)) := fun j hj => by
    unfold frCells begunFr regsOf
    rw [i64s_append]
    simp only [i64s, List.map_replicate, List.length_take, Nat.min_eq_left hj]
    rfl
  rw [e k (by omega), e (k + 1) (by omega)]
  rw [List.setIfInBounds_toArray]
  congr 1
  rw [List.set_append_right _ _ (by simp)]
  congr 1
  rw [show 2 + k - ([.int .i64 0, .int .i64 0] : List Value).length = k by simp]
  rw [List.set_append_right _ _ (by rw [i64s_length, List.length_take]; omega)]
  rw [i64s_length, List.length_take, Nat.min_eq_left (by omega), Nat.sub_self, List.take_succ_eq_append_getElem hk, i64s_append, List.append_assoc]
  congr 1
  rw [show 12 - k = (12 - (k + 1)) + 1 by omega, List.replicate_succ]
  rfl

end Go.Proofs.YteabbanjjdmjkaaDoor

/- Contract of the document's StateCopy (package tierlineref): a state whose lists are new memory. -/
namespace Go.Proofs.YteabbanjjdmjkaaDoor
open Go Go.RowKit

theorem frs_take (fs : List Fr) (q : Nat) (hq : q < fs.length) : framesCells (fs.take q) ++ frCells fs[q] = framesCells (fs.take (q + 1)) := by
  rw [List.take_add_one, List.getElem?_eq_getElem hq, framesCells_append]; simp [framesCells]

set_option maxRecDepth 100000 in
set_option maxHeartbeats 2000000 in
theorem stCopy_any (s : St) (v : Value) (w : World) (hv : StVal w v s) (h1 : s.frames.length * 112 ≤ 140737488351232) (h2 : s.events.length * 8 ≤ 140737488355328) (h3 : s.answers.length * 8 ≤ 140737488355328) :
    Calls Tryd.prog 36 #[v] w fun e w' => ∃ v' fv ev av, e = .returned v' ∧ OwnState w' w.heap.size v' s fv ev av ∧ Below w.heap.size w w' := by
  obtain ⟨i, hi, e1, e2⟩ : ∃ i, Tryd.prog.info? 54 = some i ∧ i.size = 14 ∧ i.bytes = 112 := by
    have := infoFrame
    cases h : Tryd.prog.info? 54 with
    | none => rw [h] at this; simp at this
    | some i => rw [h] at this; simp at this; exact ⟨i, rfl, this.1, this.2⟩
  have ez : i.zero = some (.agg (zeroFr 0).toArray) := by have := zeroFrame; rw [hi] at this; simpa using this
  obtain ⟨fv, ev, av, rfl, hm, hf, he, ha⟩ := hv
  obtain ⟨fa, fc, rfl⟩ := hf.shape
  obtain ⟨ea, ec, rfl⟩ := he.shape
  obtain ⟨aa, ac, rfl⟩ := ha.shape
  have HWF : Hid (FrsWf s.frames) := hf.1
  have hbx : ∀ o o', Below w.heap.size w ((w.alloc o).alloc o') := fun o o' => ((Below.refl _ _).alloc (Nat.le_refl _) _).alloc (by simp) _
  have HF : Hid (∀ W, Below w.heap.size w W → FramesVal W (.slice fa s.frames.length fc) s.frames ∧ IntsVal W (.slice ea s.events.length ec) s.events ∧ IntsVal W (.slice aa s.answers.length ac) s.answers) := fun W hW => ⟨hf.keeps (keeps_below hW), he.keeps (keeps_below hW), ha.keeps (keeps_below hW)⟩
  obtain ⟨g2, g20, g21⟩ := stCells_get s (.slice fa s.frames.length fc) (.slice ea s.events.length ec) (.slice aa s.answers.length ac) hm
  have HM : Hid (s.mem.length = 16) := hm
  obtain ⟨cs, hcs⟩ : ∃ cs, cs = (stCells s (.slice fa s.frames.length fc) (.slice ea s.events.length ec) (.slice aa s.answers.length ac)).toArray := ⟨_, rfl⟩
  have HCS : Hid (cs = (stCells s (.slice fa s.frames.length fc) (.slice ea s.events.length ec) (.slice aa s.answers.length ac)).toArray) := hcs
  rw [← hcs] at g2 g20 g21
  rw [← hcs]
  clear hf he ha hm hcs
  have HFR : Hid (∃ b off, (0 < s.frames.length → fa = some ⟨b, off, none⟩) ∧ s.frames.length ≤ fc ∧ ∀ W, Below w.heap.size w W → ∀ q (hq : q < s.frames.length), W.rangeAt b (off + q * 14) (frCells s.frames[q]) ∧ s.frames[q].regs.length = 12) := by
    obtain ⟨hw, ao, b, off, n, cap, e, hl, hp, hr, hc, hx⟩ := (HF.out w (Below.refl _ _)).1
    obtain ⟨rfl, rfl, rfl⟩ : fa = ao ∧ s.frames.length = n ∧ fc = cap := by simpa using e
    exact ⟨b, off, hp, hc.1, fun W hW q hq => ⟨fun j u h => keeps_below hW _ _ (hr q hq j u h), hw _ (List.getElem_mem hq)⟩⟩
  obtain ⟨fb, fo, hfa, hfc, hfr⟩ := HFR.out
  have HRG : Hid (∀ W, Below w.heap.size w W → ∀ q (hq : q < s.frames.length), W.rangeAt fb (fo + q * 14) (frCells s.frames[q]) ∧ s.frames[q].regs.length = 12) := hfr
  clear hfr HFR
  go_enter Tryd.func36, Tryd.ntmps36
  go_wp2
  have r0 : ((w.alloc (.cells cs 29)).alloc (.cells zeroStCells 29)).heap[w.heap.size]? = some (.cells cs 29 (0, 0)) := heap_alloc2_old _ _ _
  have r1 : ((w.alloc (.cells cs 29)).alloc (.cells zeroStCells 29)).heap[w.heap.size + 1]? = some (.cells zeroStCells 29 (0, 0)) := heap_alloc2_new _ _ _
  have HB0 : Hid (Below w.heap.size w ((w.alloc (.cells cs 29)).alloc (.cells zeroStCells 29))) := hbx _ _
  have hz0 : w.heap.size + 2 ≤ ((w.alloc (.cells cs 29)).alloc (.cells zeroStCells 29)).heap.size := by simp
  have HZE : Hid ((w.alloc (.cells cs 29)).alloc (.cells zeroStCells 29) = (w.alloc (.cells cs 29)).alloc (.cells zeroStCells 29)) := rfl
  generalize hW0 : (w.alloc (.cells cs 29)).alloc (.cells zeroStCells 29) = W0 at r0 r1 HB0 hz0 HZE
  rw [show ((w.alloc (Obj.cells cs 29)).alloc (Obj.cells #[.int .i64 0, .int .i64 0, .slice none 0 0, .int .i64 0, .int .i64 0, .int .i64 0, .int .i64 0, .int .i64 0, .int .i64 0, .int .i64 0, .int .i64 0, .int .i64 0, .int .i64 0, .int .i64 0, .int .i64 0, .int .i64 0, .int .i64 0, .int .i64 0, .int .i64 0, .int .i64 0, .slice none 0 0, .slice none 0 0] 29)) = W0 from hW0]
  clear hW0 HZE
  go_loopw [3, 4] (fun v i wr => ∃ q : Nat, q ≤ s.frames.length ∧ i = .int .i64 q ∧ wr.ownsRow (w.heap.size + 2) 54 14 v q (framesCells (s.frames.take q)) ∧ Below (w.heap.size + 2) W0 wr) (fun _ i _ => s.frames.length - (intOf i).toNat)
  case atStart => exact ⟨0, Nat.zero_le _, rfl, World.ownsRow_nil _ _ _ _, Below.refl _ _⟩
  case round =>
    obtain ⟨q, hq, rfl, hown, hbr⟩ := hrel
    have HBR : Hid (Below (w.heap.size + 2) W0 wr) := hbr
    have HBW : Hid (Below w.heap.size w wr) := HB0.out.trans (hbr.mono (by omega))
    have h8 : wr.heap[w.heap.size]? = some (.cells cs 29 (0, 0)) := (hbr.block _ (by omega)).trans r0
    have x2 : wr.cell? ⟨w.heap.size, 2, none⟩ = some (.slice fa s.frames.length fc) := by rw [cell_of_row _ _ _ _ _ _ h8]; exact g2
    have hzr : w.heap.size + 2 ≤ wr.heap.size := Nat.le_trans hz0 hbr.size
    obtain ⟨av0, cv0, rfl⟩ := own_shape hown
    by_cases hlt : q < s.frames.length
    · obtain ⟨hrg, h12⟩ := HRG.out wr HBW.out q hlt
      obtain rfl := hfa (by omega)
      have hqI : (q : Int) < s.frames.length := by omega
      have HTK := frs_take s.frames q hlt
      obtain ⟨⟨ffn, fpc, fregs⟩, hfe⟩ : ∃ f, f = s.frames[q] := ⟨_, rfl⟩
      rw [← hfe] at hrg h12 HTK
      dsimp only at h12
      obtain ⟨r0', r1', r2', r3', r4', r5', r6', r7', r8', r9', r10', r11', hrr⟩ := list12 h12
      subst hrr
      have HFC : Hid (framesCells (s.frames.take q) ++ [.int .i64 ffn, .int .i64 fpc, .int .i64 r0', .int .i64 r1', .int .i64 r2', .int .i64 r3', .int .i64 r4', .int .i64 r5', .int .i64 r6', .int .i64 r7', .int .i64 r8', .int .i64 r9', .int .i64 r10', .int .i64 r11'] = framesCells (s.frames.take (q + 1))) := HTK
      have c0 : wr.cell? ⟨fb, fo + q * 14, none⟩ = some (.int .i64 ffn) := by have := hrg 0 _ rfl; simpa using this
      have c1 : wr.cell? ⟨fb, fo + q * 14 + 1, none⟩ = some (.int .i64 fpc) := by have := hrg 1 _ rfl; simpa using this
      have c2 : wr.cell? ⟨fb, fo + q * 14 + 2, none⟩ = some (.int .i64 r0') := by have := hrg 2 _ rfl; simpa using this
      have c3 : wr.cell? ⟨fb, fo + q * 14 + 3, none⟩ = some (.int .i64 r1') := by have := hrg 3 _ rfl; simpa using this
      have c4 : wr.cell? ⟨fb, fo + q * 14 + 4, none⟩ = some (.int .i64 r2') := by have := hrg 4 _ rfl; simpa using this
      have c5 : wr.cell? ⟨fb, fo + q * 14 + 5, none⟩ = some (.int .i64 r3') := by have := hrg 5 _ rfl; simpa using this
      have c6 : wr.cell? ⟨fb, fo + q * 14 + 6, none⟩ = some (.int .i64 r4') := by have := hrg 6 _ rfl; simpa using this
      have c7 : wr.cell? ⟨fb, fo + q * 14 + 7, none⟩ = some (.int .i64 r5') := by have := hrg 7 _ rfl; simpa using this
      have c8 : wr.cell? ⟨fb, fo + q * 14 + 8, none⟩ = some (.int .i64 r6') := by have := hrg 8 _ rfl; simpa using this
      have c9 : wr.cell? ⟨fb, fo + q * 14 + 9, none⟩ = some (.int .i64 r7') := by have := hrg 9 _ rfl; simpa using this
      have c10 : wr.cell? ⟨fb, fo + q * 14 + 10, none⟩ = some (.int .i64 r8') := by have := hrg 10 _ rfl; simpa using this
      have c11 : wr.cell? ⟨fb, fo + q * 14 + 11, none⟩ = some (.int .i64 r9') := by have := hrg 11 _ rfl; simpa using this
      have c12 : wr.cell? ⟨fb, fo + q * 14 + 12, none⟩ = some (.int .i64 r10') := by have := hrg 12 _ rfl; simpa using this
      have c13 : wr.cell? ⟨fb, fo + q * 14 + 13, none⟩ = some (.int .i64 r11') := by have := hrg 13 _ rfl; simpa using this
      have HOW : Hid (wr.ownsRow (w.heap.size + 2) 54 14 (.slice av0 q cv0) q (framesCells (s.frames.take q))) := hown
      clear hrg h12 hfe HTK hown hbr h8
      generalize framesCells (s.frames.take q) = FC at *
      go_wp2_with (at_builtin; refine wpList_append_own _ rfl (.tmp 12) (.tmp 18) 25 rfl (w.heap.size + 2) 54 i _ 14 112 Tryd.underlying25 hi ez e1 e2 rfl (by decide) _ _ _ rfl (HOW.out.alloc _) ⟨_, 0, none⟩ 1 1 [.int .i64 ffn, .int .i64 fpc, .int .i64 r0', .int .i64 r1', .int .i64 r2', .int .i64 r3', .int .i64 r4', .int .i64 r5', .int .i64 r6', .int .i64 r7', .int .i64 r8', .int .i64 r9', .int .i64 r10', .int .i64 r11'] rfl rfl (news_list _ _ _ _ rfl) (by simp [Value.oneCell']) (by unfold maxLen; omega) (by omega) (by simp; omega) ?_; intro v2 w3 hown2 hg2 _; have hb2 : Below (w.heap.size + 2) W0 w3 := (HBR.out.alloc (by omega) _).trans (grown_base (HOW.out.alloc _) (by simp; omega) hg2))
      go_roundw
      case rel => exact ⟨q + 1, by omega, by go_num, by rw [← HFC.out]; exact hown2, hb2⟩
      case measure => simp [intOf]; omega
    · obtain rfl : q = s.frames.length := by omega
      rw [List.take_length] at hown
      obtain ⟨a1, ha1⟩ : ∃ a1, a1 = av0 := ⟨_, rfl⟩
      obtain ⟨c1, hc1⟩ : ∃ c1, c1 = cv0 := ⟨_, rfl⟩
      subst ha1 hc1
      have y2 : wr.frozen? ⟨w.heap.size, 2, none⟩ = false := frozen_of_row _ _ _ _ _ h8
      have BW1 : Below w.heap.size w (wr.setCell ⟨w.heap.size, 2, none⟩ (.slice a1 s.frames.length c1)) := HBW.out.setCell (Nat.le_refl _) _
      have R1 : (wr.setCell ⟨w.heap.size, 2, none⟩ (.slice a1 s.frames.length c1)).ownsRow (w.heap.size + 2) 54 14 (.slice a1 s.frames.length c1) s.frames.length (framesCells s.frames) := ownsRow_setCell_below hown (by simp) _
      have Z1 : (wr.setCell ⟨w.heap.size, 2, none⟩ (.slice a1 s.frames.length c1)).heap[w.heap.size + 1]? = some (.cells zeroStCells 29 (0, 0)) := by
        rw [heap_setCell_other _ _ _ _ (by simp)]
        exact (hbr.block _ (by omega)).trans r1
      have S1 : (wr.setCell ⟨w.heap.size, 2, none⟩ (.slice a1 s.frames.length c1)).heap[w.heap.size]? = some (.cells (stCells s (.slice a1 s.frames.length c1) (.slice ea s.events.length ec) (.slice aa s.answers.length ac)).toArray 29 (0, 0)) := by
        rw [heap_setCell_same _ _ _ _ _ _ h8, HCS.out, stCells_set2]
      have zz1 : w.heap.size + 2 ≤ (wr.setCell ⟨w.heap.size, 2, none⟩ (.slice a1 s.frames.length c1)).heap.size := by simpa using hzr
      clear hown hbr HBW HBR
      go_upto_region 7 with fail
      generalize wr.setCell ⟨w.heap.size, 2, none⟩ (.slice a1 s.frames.length c1) = W1 at BW1 R1 Z1 S1 zz1
      clear x2 y2 h8 hbx g2 g20 g21 HCS r0 r1 hz0 HB0 hzr
      obtain ⟨p2, p20, p21⟩ := stCells_get s (.slice a1 s.frames.length c1) (.slice ea s.events.length ec) (.slice aa s.answers.length ac) HM.out
      have x20 : W1.cell? ⟨w.heap.size, 20, none⟩ = some (.slice ea s.events.length ec) := by rw [cell_of_row _ _ _ _ _ _ S1]; exact p20
      go_upto_region 8 with (go_at_call 63; refine (numbers_any _ s.events _ (HF.out _ BW1).2.1 h2).mono ?_; rintro e w2 ⟨v2, rfl, ho2, hb2⟩; obtain ⟨a2, c2, rfl⟩ := own_shape ho2; have h8 : w2.heap[w.heap.size]? = some (.cells (stCells s (.slice a1 s.frames.length c1) (.slice ea s.events.length ec) (.slice aa s.answers.length ac)).toArray 29 (0, 0)) := (hb2.block _ (by omega)).trans S1; have x2 : w2.cell? ⟨w.heap.size, 20, none⟩ = some (.slice ea s.events.length ec) := (by rw [cell_of_row _ _ _ _ _ _ h8]; exact p20); have y2 : w2.frozen? ⟨w.heap.size, 20, none⟩ = false := frozen_of_row _ _ _ _ _ h8)
      have z2 : w.heap.size + 2 ≤ w2.heap.size := by have := hb2.size; omega
      have BW2 : Below w.heap.size w (w2.setCell ⟨w.heap.size, 20, none⟩ (.slice a2 s.events.length c2)) := (BW1.trans (hb2.mono (by omega))).setCell (Nat.le_refl _) _
      have R2 : (w2.setCell ⟨w.heap.size, 20, none⟩ (.slice a2 s.events.length c2)).ownsRow (w.heap.size + 2) 54 14 (.slice a1 s.frames.length c1) s.frames.length (framesCells s.frames) := ownsRow_setCell_below (ownsRow_below R1 hb2) (by simp) _
      have E2 : (w2.setCell ⟨w.heap.size, 20, none⟩ (.slice a2 s.events.length c2)).ownsRow (w.heap.size + 2) 3 1 (.slice a2 s.events.length c2) s.events.length (i64s s.events) := ownsRow_setCell_below (ownsRow_mono ho2 zz1) (by simp) _
      have Z2 : (w2.setCell ⟨w.heap.size, 20, none⟩ (.slice a2 s.events.length c2)).heap[w.heap.size + 1]? = some (.cells zeroStCells 29 (0, 0)) := by
        rw [heap_setCell_other _ _ _ _ (by simp)]
        exact (hb2.block _ (by omega)).trans Z1
      have S2 : (w2.setCell ⟨w.heap.size, 20, none⟩ (.slice a2 s.events.length c2)).heap[w.heap.size]? = some (.cells (stCells s (.slice a1 s.frames.length c1) (.slice a2 s.events.length c2) (.slice aa s.answers.length ac)).toArray 29 (0, 0)) := by
        rw [heap_setCell_same _ _ _ _ _ _ h8, stCells_set5 _ _ _ _ _ HM.out]
      have zz2 : w.heap.size + 2 ≤ (w2.setCell ⟨w.heap.size, 20, none⟩ (.slice a2 s.events.length c2)).heap.size := by simpa using z2
      generalize w2.setCell ⟨w.heap.size, 20, none⟩ (.slice a2 s.events.length c2) = W2 at BW2 R2 E2 Z2 S2 zz2
      clear x2 y2 h8 ho2 hb2 z2 x20 p2 p20 p21 w2 R1 Z1 S1 zz1 BW1 W1
      obtain ⟨p2, p20, p21⟩ := stCells_get s (.slice a1 s.frames.length c1) (.slice a2 s.events.length c2) (.slice aa s.answers.length ac) HM.out
      have x21 : W2.cell? ⟨w.heap.size, 21, none⟩ = some (.slice aa s.answers.length ac) := by rw [cell_of_row _ _ _ _ _ _ S2]; exact p21
      go_upto_region 9 with (go_at_call 63; refine (numbers_any _ s.answers _ (HF.out _ BW2).2.2 h3).mono ?_; rintro e w3 ⟨v3, rfl, ho3, hb3⟩; obtain ⟨a3, c3, rfl⟩ := own_shape ho3; have h8 : w3.heap[w.heap.size]? = some (.cells (stCells s (.slice a1 s.frames.length c1) (.slice a2 s.events.length c2) (.slice aa s.answers.length ac)).toArray 29 (0, 0)) := (hb3.block _ (by omega)).trans S2; have x2 : w3.cell? ⟨w.heap.size, 21, none⟩ = some (.slice aa s.answers.length ac) := (by rw [cell_of_row _ _ _ _ _ _ h8]; exact p21); have y2 : w3.frozen? ⟨w.heap.size, 21, none⟩ = false := frozen_of_row _ _ _ _ _ h8)
      have z3 : w.heap.size + 2 ≤ w3.heap.size := by have := hb3.size; omega
      have BW3 : Below w.heap.size w (w3.setCell ⟨w.heap.size, 21, none⟩ (.slice a3 s.answers.length c3)) := (BW2.trans (hb3.mono (by omega))).setCell (Nat.le_refl _) _
      have R3 : (w3.setCell ⟨w.heap.size, 21, none⟩ (.slice a3 s.answers.length c3)).ownsRow (w.heap.size + 2) 54 14 (.slice a1 s.frames.length c1) s.frames.length (framesCells s.frames) := ownsRow_setCell_below (ownsRow_below R2 hb3) (by simp) _
      have E3 : (w3.setCell ⟨w.heap.size, 21, none⟩ (.slice a3 s.answers.length c3)).ownsRow (w.heap.size + 2) 3 1 (.slice a2 s.events.length c2) s.events.length (i64s s.events) := ownsRow_setCell_below (ownsRow_below E2 hb3) (by simp) _
      have A3 : (w3.setCell ⟨w.heap.size, 21, none⟩ (.slice a3 s.answers.length c3)).ownsRow (w.heap.size + 2) 3 1 (.slice a3 s.answers.length c3) s.answers.length (i64s s.answers) := ownsRow_setCell_below (ownsRow_mono ho3 zz2) (by simp) _
      have AP : (Value.slice a2 s.events.length c2).ownBlock = none ∨ (Value.slice a3 s.answers.length c3).ownBlock = none ∨ (Value.slice a2 s.events.length c2).ownBlock ≠ (Value.slice a3 s.answers.length c3).ownBlock := by
        cases hx : (Value.slice a2 s.events.length c2).ownBlock with
        | none => exact .inl rfl
        | some k =>
          right; right
          intro e
          have h4 := own_new ho3 k e.symm
          have h5 := (E2.lt k hx).2
          omega
      have Z3 : (w3.setCell ⟨w.heap.size, 21, none⟩ (.slice a3 s.answers.length c3)).heap[w.heap.size + 1]? = some (.cells zeroStCells 29 (0, 0)) := by
        rw [heap_setCell_other _ _ _ _ (by simp)]
        exact (hb3.block _ (by omega)).trans Z2
      have S3 : (w3.setCell ⟨w.heap.size, 21, none⟩ (.slice a3 s.answers.length c3)).heap[w.heap.size]? = some (.cells (stCells s (.slice a1 s.frames.length c1) (.slice a2 s.events.length c2) (.slice a3 s.answers.length c3)).toArray 29 (0, 0)) := by
        rw [heap_setCell_same _ _ _ _ _ _ h8, stCells_set6 _ _ _ _ _ HM.out]
      generalize (w3.setCell ⟨w.heap.size, 21, none⟩ (.slice a3 s.answers.length c3)) = W3 at BW3 R3 E3 A3 Z3 S3
      have hl := stCells_length s (.slice a1 s.frames.length c1) (.slice a2 s.events.length c2) (.slice a3 s.answers.length c3) HM.out
      have hsi : (Tryd.prog.info? 29).map (·.size) = some (stCells s (.slice a1 s.frames.length c1) (.slice a2 s.events.length c2) (.slice a3 s.answers.length c3)).toArray.size := by rw [List.size_toArray, hl]; exact infoSt
      have hold : zeroStCells.size = (stCells s (.slice a1 s.frames.length c1) (.slice a2 s.events.length c2) (.slice a3 s.answers.length c3)).toArray.size := (show zeroStCells.size = 22 from rfl).trans (by rw [List.size_toArray, hl])
      have hone : (stCells s (.slice a1 s.frames.length c1) (.slice a2 s.events.length c2) (.slice a3 s.answers.length c3)).toArray.all (·.oneCell') = true := stCells_one _ _ _ _ rfl rfl rfl
      clear x2 y2 h8 ho3 hb3 z3 x21 p2 p20 p21 w3 R2 Z2 S2 zz2 BW2 W2 E2 hl
      go_wp2_with (first
        | (refine wpList_load_row rfl _ _ rfl _ rfl _ _ _ _ S3 Tryd.underlying29 rfl hsi ?_)
        | (refine wpList_store_row rfl _ _ _ rfl _ _ rfl rfl _ _ Z3 hsi hold hone ?_))
      refine bodyPost_ret (results_cell_row rfl _ _ (w.heap.size + 1) 29 (stCells s (.slice a1 s.frames.length c1) (.slice a2 s.events.length c2) (.slice a3 s.answers.length c3)).toArray (0, 0) _ rfl (setRow_heap _ _ _ _ _ _ Z3) Tryd.underlying29 rfl hsi) rfl ⟨_, _, _, _, rfl, ⟨rfl, HM.out, HWF.out, ownsRow_mono (ownsRow_setRow R3 (by omega) _) (by omega), ownsRow_mono (ownsRow_setRow E3 (by omega) _) (by omega), ownsRow_mono (ownsRow_setRow A3 (by omega) _) (by omega), AP⟩, below_setRow BW3 (by omega) _⟩
end Go.Proofs.YteabbanjjdmjkaaDoor

/- The walk of tierlinelaw.ProofSures: at every program and number it says true, and nothing that was there has turned. -/
namespace Go.Proofs.YteabbanjjdmjkaaDoor
open Go Go.RowKit

set_option maxRecDepth 100000 in
set_option maxHeartbeats 400000 in
theorem sameInts_true (l : List Int) (v1 v2 : Value) (w : World) (h1 : IntsVal w v1 l) (h2 : IntsVal w v2 l) :
    Calls Tryd.prog 41 #[v1, v2] w fun e w' => e = .returned (.bool true) ∧ Below w.heap.size w w' := by
  obtain ⟨ao1, b1, off1, n1, cap1, rfl, hl1, ha1, hc1, hcp1, hm1⟩ := h1
  obtain ⟨ao2, b2, off2, n2, cap2, rfl, hl2, ha2, hc2, hcp2, hm2⟩ := h2
  obtain rfl : n1 = n2 := by omega
  have HL : Hid (l.length = n1) := hl1
  have HC1 : Hid (∀ k (h : k < l.length), w.cell? ⟨b1, off1 + k, none⟩ = some (.int .i64 l[k])) := hc1
  have HC2 : Hid (∀ k (h : k < l.length), w.cell? ⟨b2, off2 + k, none⟩ = some (.int .i64 l[k])) := hc2
  have hcp := hcp1.1
  unfold maxLen at hm1
  clear hl1 hl2 hc1 hc2 hm2 hcp1 hcp2
  go_enter Tryd.func41, Tryd.ntmps41
  go_wp2
  go_loopw [5] (fun i wr => ∃ k : Nat, k ≤ n1 ∧ i = .int .i64 k ∧ Below w.heap.size w wr) (fun i _ => n1 - (intOf i).toNat)
  case atStart => exact ⟨0, Nat.zero_le _, rfl, Below.refl _ _⟩
  case round =>
    obtain ⟨k, hk, rfl, hb⟩ := hrel
    by_cases hlt : k < n1
    · obtain rfl := ha1 (by omega)
      obtain rfl := ha2 (by omega)
      have hkl : k < l.length := by rw [HL.out]; exact hlt
      have c1 := keeps_below hb _ _ (HC1.out k hkl)
      have c2 := keeps_below hb _ _ (HC2.out k hkl)
      have hkI : (k : Int) < n1 := by omega
      generalize l[k] = z at c1 c2
      clear ha1 ha2
      go_wp2
      go_quiet (fail)
      go_wp2
      go_roundw
      case rel => exact ⟨k + 1, by omega, by go_num, below_drewN hb _⟩
      case measure => simp [intOf]; omega
    · clear ha1 ha2
      go_wp2
      go_ret
      exact ⟨rfl, hb⟩

end Go.Proofs.YteabbanjjdmjkaaDoor

/- Contract of tierlinelaw.sameState: two states that are the same. -/
namespace Go.Proofs.YteabbanjjdmjkaaDoor
open Go Go.RowKit

theorem list16_law {l : List Int} (h : l.length = 16) : ∃ m0 m1 m2 m3 m4 m5 m6 m7 m8 m9 m10 m11 m12 m13 m14 m15, l = [m0, m1, m2, m3, m4, m5, m6, m7, m8, m9, m10, m11, m12, m13, m14, m15] := by
  match l, h with
  | [m0, m1, m2, m3, m4, m5, m6, m7, m8, m9, m10, m11, m12, m13, m14, m15], _ => exact ⟨m0, m1, m2, m3, m4, m5, m6, m7, m8, m9, m10, m11, m12, m13, m14, m15, rfl⟩
theorem plain_int_law : Tryd.prog.plainKey 3 = true := by kernel_rfl
theorem cells_int_law : Tryd.prog.cellsOf 3 = 1 := by kernel_rfl
theorem equal_items_law (d : Nat) (l : List Int) (w : World) : ∀ is : List Nat, (∀ i ∈ is, i < l.length) → (Op.eqItems (d + 1) 3 1 (i64s l).toArray (i64s l).toArray is).run Tryd.prog w = .ok true w := by
  intro is
  induction is with
  | nil => intro _; simp [Op.eqItems]
  | cons i is ih =>
    intro h
    have hi : i < l.length := h i (List.mem_cons_self)
    have hg : (i64s l).toArray[i * 1]? = some (.int .i64 l[i]) := by simp [i64s, hi]
    simp only [Op.eqItems, Sem.run_bind, run_part_plain w plain_int_law hg, Result.andThen_ok, run_equalIn_int w d 3 .i64 .i64 l[i] l[i] Tryd.underlying3]
    simp
    exact ih (fun j hj => h j (List.mem_cons_of_mem _ hj))
theorem equal_ints_law (t : TypeId) (l : List Int) (d : Nat) (w : World) (hu : Tryd.prog.underlying t = some (.array l.length 3)) : (Op.equalIn (d + 2) t (.agg (i64s l).toArray) (.agg (i64s l).toArray)).run Tryd.prog w = .ok true w := by
  obtain ⟨i, hi, _⟩ := info_parts info64
  rw [run_equalIn_array w (d + 1) _ _ hu hi, cells_int_law]
  exact equal_items_law d l w _ (fun j hj => by simpa using hj)

set_option maxRecDepth 100000 in
set_option maxHeartbeats 2000000 in
theorem sameState_law (s : St) (v1 v2 : Value) (w : World) (h1 : StVal w v1 s) (h2 : StVal w v2 s) :
    Calls Tryd.prog 14 #[v1, v2] w fun e w' => e = .returned (.bool true) ∧ Below w.heap.size w w' := by
  obtain ⟨status, value, frames, mem, fuel, events, answers⟩ := s
  obtain ⟨fv1, ev1, av1, rfl, hm, hf1, he1, ha1⟩ := h1
  obtain ⟨fv2, ev2, av2, rfl, _, hf2, he2, ha2⟩ := h2
  dsimp only at hm hf1 hf2 he1 he2 ha1 ha2
  obtain ⟨m0, m1, m2, m3, m4, m5, m6, m7, m8, m9, m10, m11, m12, m13, m14, m15, rfl⟩ := list16_law hm
  obtain ⟨eo1, ec1, rfl⟩ := he1.shape
  obtain ⟨eo2, ec2, rfl⟩ := he2.shape
  obtain ⟨ao1, ac1, rfl⟩ := ha1.shape
  obtain ⟨ao2, ac2, rfl⟩ := ha2.shape
  obtain ⟨hwf, fo1, b1, off1, n1, cap1, rfl, hl1, hp1, hr1, hc1, hx1⟩ := hf1
  obtain ⟨_, fo2, b2, off2, n2, cap2, rfl, hl2, hp2, hr2, hc2, hx2⟩ := hf2
  obtain rfl : n2 = n1 := hl2.symm.trans hl1
  have HL : Hid (frames.length = n2) := hl1
  have HR1 : Hid (∀ k (h : k < frames.length), w.rangeAt b1 (off1 + k * 14) (frCells frames[k])) := hr1
  have HR2 : Hid (∀ k (h : k < frames.length), w.rangeAt b2 (off2 + k * 14) (frCells frames[k])) := hr2
  have HP1 : Hid (0 < n2 → fo1 = some ⟨b1, off1, none⟩) := hp1
  have HP2 : Hid (0 < n2 → fo2 = some ⟨b2, off2, none⟩) := hp2
  have HW : Hid (FrsWf frames) := hwf
  have hcap := hc1.1
  unfold maxLen at hx1
  have HE1 : Hid (IntsVal w (.slice eo1 events.length ec1) events) := he1
  have HE2 : Hid (IntsVal w (.slice eo2 events.length ec2) events) := he2
  have HA1 : Hid (IntsVal w (.slice ao1 answers.length ac1) answers) := ha1
  have HA2 : Hid (IntsVal w (.slice ao2 answers.length ac2) answers) := ha2
  have hbx : ∀ o o', Below w.heap.size w ((w.alloc o).alloc o') := fun o o' => ((Below.refl _ _).alloc (Nat.le_refl _) _).alloc (by simp) _
  clear hl1 hl2 hr1 hr2 hp1 hp2 hwf hc1 hc2 hx2 he1 he2 ha1 ha2 hm
  simp only [stCells, i64s, List.map_cons, List.map_nil, List.cons_append, List.nil_append]
  have hq16 : ∀ w, (Op.equalIn 10000 26 (.agg #[.int .i64 m0, .int .i64 m1, .int .i64 m2, .int .i64 m3, .int .i64 m4, .int .i64 m5, .int .i64 m6, .int .i64 m7, .int .i64 m8, .int .i64 m9, .int .i64 m10, .int .i64 m11, .int .i64 m12, .int .i64 m13, .int .i64 m14, .int .i64 m15]) (.agg #[.int .i64 m0, .int .i64 m1, .int .i64 m2, .int .i64 m3, .int .i64 m4, .int .i64 m5, .int .i64 m6, .int .i64 m7, .int .i64 m8, .int .i64 m9, .int .i64 m10, .int .i64 m11, .int .i64 m12, .int .i64 m13, .int .i64 m14, .int .i64 m15])).run Tryd.prog w = .ok true w := fun w => equal_ints_law 26 [m0, m1, m2, m3, m4, m5, m6, m7, m8, m9, m10, m11, m12, m13, m14, m15] 9998 w Tryd.underlying26
  go_enter Tryd.func14, Tryd.ntmps14
  go_wp2_with (first
    | (go_at_call 41; refine (sameInts_true events _ _ _ (HE1.out.keeps (keeps_below (hbx _ _))) (HE2.out.keeps (keeps_below (hbx _ _)))).mono ?_; rintro e w1 ⟨rfl, hb1⟩; have a6 := keeps_below hb1 ⟨w.heap.size, 21, none⟩ _ (by rw [cell_of_row _ _ _ _ _ _ (heap_alloc2_old _ _ _)]; rfl); have b6 := keeps_below hb1 ⟨w.heap.size + 1, 21, none⟩ _ (by rw [cell_of_row _ _ _ _ _ _ (heap_alloc2_new _ _ _)]; rfl); have a2 := keeps_below hb1 ⟨w.heap.size, 2, none⟩ _ (by rw [cell_of_row _ _ _ _ _ _ (heap_alloc2_old _ _ _)]; rfl); have b2' := keeps_below hb1 ⟨w.heap.size + 1, 2, none⟩ _ (by rw [cell_of_row _ _ _ _ _ _ (heap_alloc2_new _ _ _)]; rfl); have HB1 : Hid (Below w.heap.size w w1) := (hbx _ _).trans (hb1.mono (by simp; omega)); have hz1 : w.heap.size + 2 ≤ w1.heap.size := (by have := hb1.size; simpa using this); clear HE1)
    | (go_at_call 41; refine (sameInts_true answers _ _ _ (HA1.out.keeps (keeps_below HB1.out)) (HA2.out.keeps (keeps_below HB1.out))).mono ?_; rintro e w2 ⟨rfl, hb2⟩; have a2' := keeps_below hb2 _ _ a2; have b2'' := keeps_below hb2 _ _ b2'; have HB2 : Hid (Below w.heap.size w w2) := HB1.out.trans (hb2.mono (by omega)); have hz2 : w.heap.size + 2 ≤ w2.heap.size := (by have := hb2.size; omega); clear hb2 a6 b6 a2 b2'))
  have HK : Hid (∀ k (h : k < frames.length), ∃ fn pc r0 r1 r2 r3 r4 r5 r6 r7 r8 r9 r10 r11, (∀ j v, ([.int .i64 fn, .int .i64 pc, .int .i64 r0, .int .i64 r1, .int .i64 r2, .int .i64 r3, .int .i64 r4, .int .i64 r5, .int .i64 r6, .int .i64 r7, .int .i64 r8, .int .i64 r9, .int .i64 r10, .int .i64 r11] : List Value)[j]? = some v → w.cell? ⟨b1, off1 + k * 14 + j, none⟩ = some v) ∧ (∀ j v, ([.int .i64 fn, .int .i64 pc, .int .i64 r0, .int .i64 r1, .int .i64 r2, .int .i64 r3, .int .i64 r4, .int .i64 r5, .int .i64 r6, .int .i64 r7, .int .i64 r8, .int .i64 r9, .int .i64 r10, .int .i64 r11] : List Value)[j]? = some v → w.cell? ⟨b2, off2 + k * 14 + j, none⟩ = some v)) := by
    intro k h
    obtain ⟨r0, r1, r2, r3, r4, r5, r6, r7, r8, r9, r10, r11, hr⟩ := list12 (HW.out _ (List.getElem_mem h))
    have e : frCells frames[k] = [.int .i64 frames[k].fn, .int .i64 frames[k].pc, .int .i64 r0, .int .i64 r1, .int .i64 r2, .int .i64 r3, .int .i64 r4, .int .i64 r5, .int .i64 r6, .int .i64 r7, .int .i64 r8, .int .i64 r9, .int .i64 r10, .int .i64 r11] := by unfold frCells; rw [hr]; rfl
    refine ⟨frames[k].fn, frames[k].pc, r0, r1, r2, r3, r4, r5, r6, r7, r8, r9, r10, r11, ?_, ?_⟩
    · rw [← e]; exact HR1.out k h
    · rw [← e]; exact HR2.out k h
  clear HR1 HR2 HW hbx hq16
  go_loopw [5] (fun i wr => ∃ k : Nat, k ≤ n2 ∧ i = .int .i64 k ∧ Below w2.heap.size w2 wr) (fun i _ => n2 - (intOf i).toNat)
  case atStart => exact ⟨0, Nat.zero_le _, rfl, Below.refl _ _⟩
  case round =>
    obtain ⟨k, hk, rfl, hb⟩ := hrel
    have x2 := keeps_below hb _ _ a2'
    have y2 := keeps_below hb _ _ b2''
    have HB : Hid (Below w.heap.size w wr) := HB2.out.trans (hb.mono (by omega))
    by_cases hlt : k < n2
    · obtain rfl := HP1.out (by omega)
      obtain rfl := HP2.out (by omega)
      have hkl : k < frames.length := by rw [HL.out]; exact hlt
      obtain ⟨fn, pc, r0, r1, r2, r3, r4, r5, r6, r7, r8, r9, r10, r11, g1, g2⟩ := HK.out k hkl
      have c0 := keeps_below HB.out _ _ (g1 0 _ rfl)
      have d0 := keeps_below HB.out _ _ (g2 0 _ rfl)
      have c1 := keeps_below HB.out _ _ (g1 1 _ rfl)
      have d1 := keeps_below HB.out _ _ (g2 1 _ rfl)
      have c2 := keeps_below HB.out _ _ (g1 2 _ rfl)
      have d2 := keeps_below HB.out _ _ (g2 2 _ rfl)
      have c3 := keeps_below HB.out _ _ (g1 3 _ rfl)
      have d3 := keeps_below HB.out _ _ (g2 3 _ rfl)
      have c4 := keeps_below HB.out _ _ (g1 4 _ rfl)
      have d4 := keeps_below HB.out _ _ (g2 4 _ rfl)
      have c5 := keeps_below HB.out _ _ (g1 5 _ rfl)
      have d5 := keeps_below HB.out _ _ (g2 5 _ rfl)
      have c6 := keeps_below HB.out _ _ (g1 6 _ rfl)
      have d6 := keeps_below HB.out _ _ (g2 6 _ rfl)
      have c7 := keeps_below HB.out _ _ (g1 7 _ rfl)
      have d7 := keeps_below HB.out _ _ (g2 7 _ rfl)
      have c8 := keeps_below HB.out _ _ (g1 8 _ rfl)
      have d8 := keeps_below HB.out _ _ (g2 8 _ rfl)
      have c9 := keeps_below HB.out _ _ (g1 9 _ rfl)
      have d9 := keeps_below HB.out _ _ (g2 9 _ rfl)
      have c10 := keeps_below HB.out _ _ (g1 10 _ rfl)
      have d10 := keeps_below HB.out _ _ (g2 10 _ rfl)
      have c11 := keeps_below HB.out _ _ (g1 11 _ rfl)
      have d11 := keeps_below HB.out _ _ (g2 11 _ rfl)
      have c12 := keeps_below HB.out _ _ (g1 12 _ rfl)
      have d12 := keeps_below HB.out _ _ (g2 12 _ rfl)
      have c13 := keeps_below HB.out _ _ (g1 13 _ rfl)
      have d13 := keeps_below HB.out _ _ (g2 13 _ rfl)
      simp only [Nat.add_zero] at c0 d0
      have hkI : (k : Int) < n2 := by omega
      have hq12 : ∀ w, (Op.equalIn 9999 52 (.agg #[.int .i64 r0, .int .i64 r1, .int .i64 r2, .int .i64 r3, .int .i64 r4, .int .i64 r5, .int .i64 r6, .int .i64 r7, .int .i64 r8, .int .i64 r9, .int .i64 r10, .int .i64 r11]) (.agg #[.int .i64 r0, .int .i64 r1, .int .i64 r2, .int .i64 r3, .int .i64 r4, .int .i64 r5, .int .i64 r6, .int .i64 r7, .int .i64 r8, .int .i64 r9, .int .i64 r10, .int .i64 r11])).run Tryd.prog w = .ok true w := fun w => equal_ints_law 52 [r0, r1, r2, r3, r4, r5, r6, r7, r8, r9, r10, r11] 9997 w Tryd.underlying52
      have HBB : Hid (Below w2.heap.size w2 wr) := hb
      clear g1 g2 hb HK HP1 HP2 a2' b2''
      go_wp2
      go_quiet (fail)
      go_wp2
      go_roundw
      case rel => exact ⟨k + 1, by omega, by go_num, below_drewN HBB.out _⟩
      case measure => simp [intOf]; omega
    · clear a2' b2''
      go_wp2
      go_ret
      exact ⟨rfl, HB.out⟩
end Go.Proofs.YteabbanjjdmjkaaDoor
