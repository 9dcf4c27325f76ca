/- Texts put together: KeptMath, WhereAll, Proven, RefWhere, Progs, RefBegin, StCopy, LawSures, SameSt. -/
import Derived.Test.YtdpaohmaafngkaaDoorGroupC
import Derived.Test.YtdpaohmaafngkaaDoorGroupB
import Derived.Deep.RegionHeld3
import Derived.BigRegion
import Derived.Test.YtdpaohmaafngkaaDoorProg
import Derived.Test.YtdpaohmaafngkaaDoorGroupA
import Derived.Test.YtdpaohmaafngkaaDoorGroupD
import Derived.ChangeKeysEq
import Derived.Laws.StructEq
import Derived.BigQuiet
import Derived.Deep.QuietTactic
/- What trim keeps: plain mathematics. -/
namespace Go.Proofs.YtdpaohmaafngkaaDoor
open Go Go.RowKit

def ctT (s : List Bool) (i : Nat) : Nat := (s.take i).count true
theorem ctT_zero (s : List Bool) : ctT s 0 = 0 := by simp [ctT]
theorem ctT_le (s : List Bool) (i : Nat) : ctT s i ≤ i := by
  have h1 := List.count_le_length (a := true) (l := s.take i)
  have h2 := List.length_take_le i s
  unfold ctT; omega
theorem ctT_succ (s : List Bool) (i : Nat) (h : i < s.length) : ctT s (i + 1) = ctT s i + if s.getD i false = true then 1 else 0 := by
  unfold ctT
  rw [List.take_add_one, List.count_append]
  simp [List.getD, h, List.count_cons]
theorem ctT_yes {s : List Bool} {i : Nat} (h : i < s.length) (hs : s.getD i false = true) : ctT s (i + 1) = ctT s i + 1 := by rw [ctT_succ s i h, if_pos hs]
theorem ctT_no {s : List Bool} {i : Nat} (h : i < s.length) (hs : s.getD i false = false) : ctT s (i + 1) = ctT s i := by rw [ctT_succ s i h, if_neg (by rw [hs]; decide)]; rfl
def whereI (s : List Bool) (i : Nat) : Int := if s.getD i false = true then (ctT s i : Int) else -1
def whereL (s : List Bool) : List Int := (List.range s.length).map (whereI s)
theorem whereL_length (s : List Bool) : (whereL s).length = s.length := by simp [whereL]
theorem whereL_getD (s : List Bool) (i : Nat) (h : i < s.length) : (whereL s).getD i 0 = whereI s i := by simp [whereL, List.getD, h]
theorem whereI_yes {s : List Bool} {i : Nat} (h : s.getD i false = true) : whereI s i = ctT s i := if_pos h
theorem whereI_no {s : List Bool} {i : Nat} (h : s.getD i false = false) : whereI s i = -1 := if_neg (by rw [h]; decide)
theorem eq_whereL {s : List Bool} {O : List Int} {n : Nat} (hs : s.length = n) (hl : O.length = n) (h : ∀ q, q < n → O.getD q 0 = whereI s q) : O = whereL s := by
  apply List.ext_getElem
  · rw [whereL_length, hl, hs]
  · intro i h1 h2
    have a := h i (by omega)
    have b := whereL_getD s i (by rw [whereL_length] at h2; exact h2)
    rw [← b] at a
    simpa [List.getD, h1, h2] using a

/-- Which places of a function are reached. -/
def Reach (f : Fn) (s : List Bool) : Prop := s.length = f.code.length ∧ ∀ q, q < f.code.length → (s.getD q false = true ↔ Way f 63 q)
theorem bools_ext {s s' : List Bool} (hl : s.length = s'.length) (h : ∀ q, q < s.length → (s.getD q false = true ↔ s'.getD q false = true)) : s = s' := by
  apply List.ext_getElem hl
  intro i h1 h2
  have := h i h1
  simp only [List.getD, List.getElem?_eq_getElem h1, List.getElem?_eq_getElem h2, Option.getD_some] at this
  exact Bool.eq_iff_iff.2 this
theorem reach_unique {f : Fn} {s s' : List Bool} (h : Reach f s) (h' : Reach f s') : s = s' :=
  bools_ext (h.1.trans h'.1.symm) fun q hq => (h.2 q (by rw [← h.1]; exact hq)).trans (h'.2 q (by rw [← h.1]; exact hq)).symm
theorem sureSpec_reach {f : Fn} {L : List Int} (h : SureSpec f L) {q : Nat} (hq : q < f.code.length + 1) : 0 ≤ L.getD q 0 ↔ Way f 63 q := by
  rcases h.2 q hq with ⟨hn, e⟩ | ⟨hw, m, _, e, _⟩
  · rw [e]; exact ⟨fun h => by omega, fun h => absurd h hn⟩
  · rw [e]; exact ⟨fun _ => hw, fun _ => by omega⟩
theorem reach_sure {P : List Fn} {k : Nat} (h : fnErr P k = 0) (hk : k < P.length) {A : List Int} (hA : SureAns P k A) :
    A.length = P[k].code.length ∧ ∀ q, q < P[k].code.length → (0 ≤ A.getD q 0 ↔ Way P[k] 63 q) := by
  have e : fnAt P (k : Int) = P[k] := by simp [fnAt, List.getD, hk]
  rcases hA with ⟨h1, _⟩ | ⟨_, L, hL, rfl⟩
  · exact absurd h h1
  · rw [e] at hL ⊢
    refine ⟨by rw [List.length_take, hL.1]; omega, fun q hq => ?_⟩
    rw [show (L.take P[k].code.length).getD q 0 = L.getD q 0 by simp [List.getD, hq]]
    exact sureSpec_reach hL (by omega)
theorem seen_reach {f : Fn} {s : List Bool} (h : s.length = f.code.length + 1 ∧ ∀ q, s.getD q false = true ↔ Way f 63 q) : Reach f (s.take f.code.length) :=
  ⟨by rw [List.length_take, h.1]; omega, fun q hq => by rw [show (s.take f.code.length).getD q false = s.getD q false by simp [List.getD, hq]]; exact h.2 q⟩
theorem fnErr_ok {P : List Fn} (h : codeProg P = 0) {k : Nat} (hk : k < P.length) : fnErr P k = 0 := by unfold fnErr; rw [if_pos h, if_pos (by omega)]

theorem proof_code {P : List Fn} (h : ProofAns P 0) : codeProg P = 0 := by
  rcases h with ⟨h1, h2⟩ | ⟨h1, _⟩
  · exact h2.symm
  · exact h1

/-- What P5.1 answers. -/
def WhereAns (P : List Fn) (fn E : Int) (A : List Int) : Prop :=
  (E ≠ 0 ∧ ProofAns P E ∧ A = []) ∨ (ProofAns P 0 ∧ ¬ (0 ≤ fn ∧ fn < P.length) ∧ E = 2 ∧ A = []) ∨ (ProofAns P 0 ∧ E = 0 ∧ ∃ k : Nat, fn = k ∧ ∃ hk : k < P.length, ∃ s, Reach P[k] s ∧ A = whereL s)
theorem whereAns_unique {P : List Fn} {fn E E' : Int} {A A' : List Int} (h : WhereAns P fn E A) (h' : WhereAns P fn E' A') : E = E' ∧ A = A' := by
  rcases h with ⟨h0, h1, rfl⟩ | ⟨h1, h2, rfl, rfl⟩ | ⟨h1, rfl, k, rfl, hk, s, hs, rfl⟩ <;> rcases h' with ⟨g0, g1, rfl⟩ | ⟨g1, g2, rfl, rfl⟩ | ⟨g1, rfl, k', g2, hk', s', hs', rfl⟩
  · exact ⟨proofAns_unique h1 g1, rfl⟩
  · exact absurd (proofAns_unique h1 g1) h0
  · exact absurd (proofAns_unique h1 g1) h0
  · exact absurd (proofAns_unique g1 h1) g0
  · exact ⟨rfl, rfl⟩
  · exact absurd (by omega) h2
  · exact absurd (proofAns_unique g1 h1) g0
  · exact absurd (by omega) g2
  · obtain rfl : k = k' := by omega
    rw [reach_unique hs hs']
    exact ⟨rfl, rfl⟩

/-- A function calls another one at a reached place. -/
def CallsAt (f : Fn) (pc : Nat) (t : Int) : Prop := pc < f.code.length ∧ Way f 63 pc ∧ (insD f pc).op = 17 ∧ (insD f pc).imm = t
/-- The calls of a function, up to a place. -/
structure CallsTo (f : Fn) (q : Nat) (L : List Int) : Prop where
  len : L.length ≤ q
  here : ∀ t ∈ L, ∃ pc, CallsAt f pc t
  all : ∀ pc t, pc < q → CallsAt f pc t → t ∈ L
theorem callsTo_zero (f : Fn) : CallsTo f 0 [] := ⟨Nat.le_refl _, fun t h => by simp at h, fun pc t h => by omega⟩
theorem callsTo_skip {f : Fn} {q : Nat} {L : List Int} (h : CallsTo f q L) (hn : ∀ t, ¬ CallsAt f q t) : CallsTo f (q + 1) L :=
  ⟨by have := h.len; omega, h.here, fun pc t hp hc => by
    rcases Nat.lt_or_ge pc q with hlt | hge
    · exact h.all pc t hlt hc
    · obtain rfl : pc = q := by omega
      exact absurd hc (hn t)⟩
theorem callsTo_add {f : Fn} {q : Nat} {L : List Int} {t : Int} (h : CallsTo f q L) (hc : CallsAt f q t) : CallsTo f (q + 1) (L ++ [t]) :=
  ⟨by have := h.len; simp; omega, fun u hu => by
    rcases List.mem_append.1 hu with hu | hu
    · exact h.here u hu
    · have : u = t := by simpa using hu
      subst this
      exact ⟨q, hc⟩, fun pc u hp hu => by
    rcases Nat.lt_or_ge pc q with hlt | hge
    · exact List.mem_append_left _ (h.all pc u hlt hu)
    · obtain rfl : pc = q := by omega
      have : u = t := hu.2.2.2.symm.trans hc.2.2.2
      simp [this]⟩

/-- Called functions. -/
inductive Called (P : List Fn) : Nat → Prop
  | zero : Called P 0
  | call {fn pc t : Nat} (h : Called P fn) (hk : fn < P.length) (hc : CallsAt P[fn] pc (t : Int)) : Called P t
def CalledSpec (P : List Fn) (c : List Bool) : Prop := c.length = P.length ∧ ∀ q, q < P.length → (c.getD q false = true ↔ Called P q)
theorem calledSpec_unique {P : List Fn} {c c' : List Bool} (h : CalledSpec P c) (h' : CalledSpec P c') : c = c' :=
  bools_ext (h.1.trans h'.1.symm) fun q hq => (h.2 q (by rw [← h.1]; exact hq)).trans (h'.2 q (by rw [← h.1]; exact hq)).symm
def CSound (P : List Fn) (c : List Bool) : Prop := ∀ q, q < P.length → c.getD q false = true → Called P q
def CClosed (P : List Fn) (c : List Bool) : Prop := ∀ fn (h : fn < P.length) pc (t : Nat), c.getD fn false = true → CallsAt P[fn] pc (t : Int) → c.getD t false = true
/-- A call of a right program calls one of its functions. -/
theorem calls_fit {P : List Fn} (hP : codeProg P = 0) {fn : Nat} (h : fn < P.length) {pc : Nat} {t : Int} (hc : CallsAt P[fn] pc t) : ∃ k : Nat, t = k ∧ k < P.length := by
  have hx := List.getElem_mem hc.1
  have ok := insOk_of hP (List.getElem_mem h) hx
  have h1 := hc.2.2.1
  have h2 := hc.2.2.2
  rw [insD_eq hc.1] at h1 h2
  obtain ⟨a, b, _⟩ := ok.call h1
  obtain ⟨k, hk⟩ := Int.eq_ofNat_of_zero_le a
  exact ⟨k, by omega, by omega⟩
theorem calledSpec_of {P : List Fn} (_hP : codeProg P = 0) {c : List Bool} (hl : c.length = P.length) (hs : CSound P c) (h0 : c.getD 0 false = true) (hc : CClosed P c) : CalledSpec P c := by
  refine ⟨hl, fun q hq => ⟨hs q hq, fun h => ?_⟩⟩
  clear hq
  induction h with
  | zero => exact h0
  | call h hk hcl ih => exact hc _ hk _ _ ih hcl

/-- Functions that wait, and those that were seen to be called. -/
structure CWork (P : List Fn) (W : List Int) (c : List Bool) : Prop where
  len : c.length = P.length
  sound : CSound P c
  wait : ∀ t ∈ W, ∃ k : Nat, t = k ∧ k < P.length ∧ Called P k
  first : c.getD 0 false = true ∨ (0 : Int) ∈ W
  next : ∀ fn (h : fn < P.length) pc (t : Nat), c.getD fn false = true → CallsAt P[fn] pc (t : Int) → c.getD t false = true ∨ (t : Int) ∈ W
  few : unseen c * 41 + W.length ≤ 4 * 41 + 1
theorem cwork_start {P : List Fn} (h1 : 1 ≤ P.length) (h4 : P.length ≤ 4) : CWork P [0] (List.replicate P.length false) := by
  have e : ∀ q, (List.replicate P.length false).getD q false = false := fun q => by
    rcases Nat.lt_or_ge q P.length with h | h
    · simp [List.getD, h]
    · simp [List.getD, h]
  refine ⟨by simp, fun q _ h => ?_, fun t ht => ?_, Or.inr (by simp), fun fn h pc t hc => ?_, ?_⟩
  · rw [e] at h; cases h
  · have : t = 0 := by simpa using ht
    exact ⟨0, this, by omega, Called.zero⟩
  · rw [e] at hc; cases hc
  · simp [unseen]; omega
theorem cwork_end {P : List Fn} (hP : codeProg P = 0) {c : List Bool} (h : CWork P [] c) : CalledSpec P c :=
  calledSpec_of hP h.len h.sound (h.first.resolve_right (by simp)) fun fn hk pc t hc ht => (h.next fn hk pc t hc ht).resolve_right (by simp)
theorem cwork_old {P : List Fn} {W : List Int} {k : Nat} {c : List Bool} (h : CWork P (W ++ [(k : Int)]) c) (hk : c.getD k false = true) : CWork P W c := by
  have mem : ∀ t : Nat, (t : Int) ∈ W ++ [(k : Int)] → c.getD t false = true ∨ (t : Int) ∈ W := fun t ht => by
    rcases List.mem_append.1 ht with ht | ht
    · exact Or.inr ht
    · have : t = k := by have : (t : Int) = k := by simpa using ht
                         omega
      subst this; exact Or.inl hk
  refine ⟨h.len, h.sound, fun t ht => h.wait t (List.mem_append_left _ ht), ?_, fun fn hf pc t hc ht => ?_, by have := h.few; simp at this; omega⟩
  · rcases h.first with h0 | h0
    · exact Or.inl h0
    · exact mem 0 h0
  · rcases h.next fn hf pc t hc ht with h1 | h1
    · exact Or.inl h1
    · exact mem t h1
theorem cwork_new {P : List Fn} (hP : codeProg P = 0) {W : List Int} {k : Nat} {c : List Bool} (h : CWork P (W ++ [(k : Int)]) c) (hkl : k < P.length) (hk : c.getD k false = false) {L : List Int} (hL : CallsTo P[k] P[k].code.length L) (hn : P[k].code.length ≤ 40) :
    CWork P (W ++ L) (c.set k true) ∧ unseen (c.set k true) * 41 + (W ++ L).length < unseen c * 41 + (W ++ [(k : Int)]).length := by
  have hlen := h.len
  have hun := unseen_set c k (by omega) hk
  have hg : ∀ q, (c.set k true).getD q false = if q = k then true else c.getD q false := fun q => bget_set c k q true (by omega)
  have hc : Called P k := by
    obtain ⟨k', e, _, h3⟩ := h.wait k (by simp)
    have : k = k' := by omega
    rw [this]; exact h3
  have mem : ∀ t : Nat, c.getD t false = true ∨ (t : Int) ∈ W ++ [(k : Int)] → (c.set k true).getD t false = true ∨ (t : Int) ∈ W ++ L := fun t ht => by
    rw [hg t]
    by_cases e : t = k
    · rw [if_pos e]; exact Or.inl rfl
    · rw [if_neg e]
      rcases ht with ht | ht
      · exact Or.inl ht
      · rcases List.mem_append.1 ht with ht | ht
        · exact Or.inr (List.mem_append_left _ ht)
        · have : (t : Int) = k := by simpa using ht
          omega
  have hll := hL.len
  have hlt : unseen (c.set k true) * 41 + (W ++ L).length < unseen c * 41 + (W ++ [(k : Int)]).length := by simp; omega
  refine ⟨⟨by simp [hlen], fun q hq hs => ?_, fun t ht => ?_, mem 0 h.first, fun fn hf pc t hs ht => ?_, by have := h.few; omega⟩, hlt⟩
  · rw [hg q] at hs
    by_cases e : q = k
    · rw [e]; exact hc
    · rw [if_neg e] at hs; exact h.sound q hq hs
  · rcases List.mem_append.1 ht with ht | ht
    · exact h.wait t (List.mem_append_left _ ht)
    · obtain ⟨pc, hca⟩ := hL.here t ht
      obtain ⟨k', rfl, hk'⟩ := calls_fit hP hkl hca
      exact ⟨k', rfl, hk', Called.call hc hkl hca⟩
  · rw [hg fn] at hs
    by_cases e : fn = k
    · subst e
      exact Or.inr (List.mem_append_right _ (hL.all pc t ht.1 ht))
    · rw [if_neg e] at hs
      exact mem t (h.next fn hf pc t hs ht)

/-- In the midst of a round over all functions. -/
structure CMid (P : List Fn) (c0 : List Bool) (fn pc : Nat) (again : Bool) (c : List Bool) : Prop where
  len : c.length = c0.length
  sound : CSound P c0 → CSound P c
  keeps : ∀ q, c0.getD q false = true → c.getD q false = true
  less : again = true → unseen c < unseen c0
  same : again = false → c = c0 ∧ ∀ k (h : k < P.length) q (t : Nat), (k < fn ∨ (k = fn ∧ q < pc)) → c0.getD k false = true → CallsAt P[k] q (t : Int) → c0.getD t false = true
theorem CMid.start (P : List Fn) (c0 : List Bool) : CMid P c0 0 0 false c0 :=
  ⟨rfl, id, fun _ h => h, fun h => (by cases h), fun _ => ⟨rfl, fun k h q t hk => by omega⟩⟩
theorem CMid.next {P : List Fn} {c0 c : List Bool} {fn pc : Nat} {again : Bool} (h : CMid P c0 fn pc again c) (hf : fn < P.length) (hp : P[fn].code.length ≤ pc ∨ c.getD fn false = false) : CMid P c0 (fn + 1) 0 again c :=
  ⟨h.len, h.sound, h.keeps, h.less, fun ha => by
    obtain ⟨h1, h2⟩ := h.same ha
    refine ⟨h1, fun k hk q t hlt hc ht => ?_⟩
    rcases Nat.lt_or_ge k fn with hl | hl
    · exact h2 k hk q t (Or.inl hl) hc ht
    · obtain rfl : k = fn := by omega
      rcases hp with hp | hp
      · exact h2 k hk q t (Or.inr ⟨rfl, by have := ht.1; omega⟩) hc ht
      · subst h1; rw [hp] at hc; cases hc⟩
theorem CMid.skip {P : List Fn} {c0 c : List Bool} {fn pc : Nat} {again : Bool} (h : CMid P c0 fn pc again c) (hf : fn < P.length) (hn : ∀ t : Nat, CallsAt P[fn] pc (t : Int) → c.getD t false = true) : CMid P c0 fn (pc + 1) again c :=
  ⟨h.len, h.sound, h.keeps, h.less, fun ha => by
    obtain ⟨h1, h2⟩ := h.same ha
    refine ⟨h1, fun k hk q t hlt hc ht => ?_⟩
    by_cases hq : k < fn ∨ (k = fn ∧ q < pc)
    · exact h2 k hk q t hq hc ht
    · obtain rfl : k = fn := by omega
      obtain rfl : q = pc := by omega
      rw [← h1]; exact hn t ht⟩
theorem CMid.new {P : List Fn} {c0 c : List Bool} {fn pc t : Nat} {again : Bool} (h : CMid P c0 fn pc again c) (hf : fn < P.length) (hc : c.getD fn false = true) (ht : CallsAt P[fn] pc (t : Int)) (htl : t < c.length) (hu : c.getD t false = false) : CMid P c0 fn (pc + 1) true (c.set t true) := by
  have hun := unseen_set c t htl hu
  have hg : ∀ q, (c.set t true).getD q false = if q = t then true else c.getD q false := fun q => bget_set c t q true htl
  refine ⟨by simp [h.len], fun hs q hq hcq => ?_, fun q hq => ?_, fun _ => ?_, fun ha => by cases ha⟩
  · rw [hg q] at hcq
    by_cases e : q = t
    · rw [e]; exact Called.call (h.sound hs fn hf hc) hf ht
    · rw [if_neg e] at hcq; exact h.sound hs q hq hcq
  · rw [hg q]; split
    · rfl
    · exact h.keeps q hq
  · cases again
    · rw [(h.same rfl).1] at hun; rw [(h.same rfl).1]; omega
    · have := h.less rfl; omega
/-- What is known between two rounds. -/
def CLoops (P : List Fn) (again : Bool) (c : List Bool) : Prop := c.length = P.length ∧ CSound P c ∧ c.getD 0 false = true ∧ (again = false → CClosed P c)
theorem cloops_next {P : List Fn} {c0 c : List Bool} {again' : Bool} (h : CLoops P true c0) (hm : CMid P c0 P.length 0 again' c) : CLoops P again' c ∧ unseen c + (if again' = true then 1 else 0) < unseen c0 + (if true = true then 1 else 0) := by
  obtain ⟨h1, h2, h3, _⟩ := h
  refine ⟨⟨hm.len.trans h1, hm.sound h2, hm.keeps 0 h3, fun ha => ?_⟩, ?_⟩
  · obtain ⟨e, hcl⟩ := hm.same ha
    subst e
    exact fun fn hf pc t hc ht => hcl fn hf pc t (Or.inl hf) hc ht
  · cases again'
    · rw [(hm.same rfl).1]; simp
    · have := hm.less rfl; simp; omega
theorem cloops_start {P : List Fn} (h1 : 1 ≤ P.length) : CLoops P true ((List.replicate P.length false).set 0 true) := by
  have e : ∀ q, (List.replicate P.length false).getD q false = false := fun q => by
    rcases Nat.lt_or_ge q P.length with h | h
    · simp [List.getD, h]
    · simp [List.getD, h]
  refine ⟨by simp, fun q hq h => ?_, ?_, fun h => by cases h⟩
  · rw [bget_set _ 0 q true (by simp; omega)] at h
    by_cases e0 : q = 0
    · rw [e0]; exact Called.zero
    · rw [if_neg e0, e] at h; cases h
  · rw [bget_set _ 0 0 true (by simp; omega)]; rfl

/-- What P5.2 answers. -/
def CalledAns (P : List Fn) (E : Int) (c : List Bool) : Prop := (E ≠ 0 ∧ ProofAns P E ∧ c = []) ∨ (ProofAns P 0 ∧ E = 0 ∧ CalledSpec P c)
theorem calledAns_unique {P : List Fn} {E E' : Int} {c c' : List Bool} (h : CalledAns P E c) (h' : CalledAns P E' c') : E = E' ∧ c = c' := by
  rcases h with ⟨h0, h1, rfl⟩ | ⟨h1, rfl, hs⟩ <;> rcases h' with ⟨g0, g1, rfl⟩ | ⟨g1, rfl, gs⟩
  · exact ⟨proofAns_unique h1 g1, rfl⟩
  · exact absurd (proofAns_unique h1 g1) h0
  · exact absurd (proofAns_unique g1 h1) g0
  · exact ⟨rfl, calledSpec_unique hs gs⟩

/-- Targets lie in their function. -/
theorem target_fit {P : List Fn} (h : codeProg P = 0) {f : Fn} (hf : f ∈ P) {x : Ins} (hx : x ∈ f.code) (hop : x.op = 15 ∨ x.op = 16) : 0 ≤ x.imm ∧ x.imm < f.code.length := by
  obtain ⟨h1, h4, hall⟩ := codeProg_zero h
  obtain ⟨r1, r2, p0, p2, _, l1, l2, hi⟩ := codeFunc_zero (hall f hf)
  have hz := hi x hx
  rw [instr_same] at hz
  unfold refInstr at hz
  by_cases k1 : inB x.op 1 19 = false
  · rw [if_pos k1] at hz; cases hz
  rw [if_neg k1] at hz
  by_cases k2 : refOk1 x f.regs = false
  · rw [if_pos k2] at hz; cases hz
  rw [if_neg k2] at hz
  by_cases k3 : refOk2 x f.code.length P.length = false
  · rw [if_pos k3] at hz; cases hz
  have k3 : refOk2 x f.code.length P.length = true := by simpa using k3
  have : 0 ≤ x.imm ∧ x.imm ≤ (f.code.length : Int) - 1 := by simpa [refOk2, hop, inB] using k3
  omega

/-- An instruction in what is left. -/
def mvIns (x : Ins) (W F : List Int) : Ins := if x.op = 15 ∨ x.op = 16 then { x with imm := W.getD x.imm.toNat 0 } else if x.op = 17 then { x with imm := F.getD x.imm.toNat 0 } else x
/-- The instructions that are left, up to a place. -/
def movedTo (f : Fn) (W F : List Int) : Nat → List Ins
  | 0 => []
  | k + 1 => movedTo f W F k ++ (if W.getD k 0 = -1 then [] else [mvIns (insD f k) W F])
theorem movedTo_len (f : Fn) (W F : List Int) (k : Nat) : (movedTo f W F k).length ≤ k := by
  induction k with
  | zero => simp [movedTo]
  | succ k ih => unfold movedTo; rw [List.length_append]; split <;> simp <;> omega
theorem movedTo_gone {f : Fn} {W F : List Int} {k : Nat} (h : W.getD k 0 = -1) : movedTo f W F (k + 1) = movedTo f W F k := by rw [movedTo, if_pos h, List.append_nil]
theorem movedTo_kept {f : Fn} {W F : List Int} {k : Nat} (h : W.getD k 0 ≠ -1) : movedTo f W F (k + 1) = movedTo f W F k ++ [mvIns (insD f k) W F] := by rw [movedTo, if_neg h]
theorem mvIns_target {op dst a b imm : Int} {W F : List Int} (h : op = 15 ∨ op = 16) : mvIns ⟨op, dst, a, b, imm⟩ W F = ⟨op, dst, a, b, W.getD imm.toNat 0⟩ := if_pos h
theorem mvIns_call {dst a b imm : Int} {W F : List Int} : mvIns ⟨17, dst, a, b, imm⟩ W F = ⟨17, dst, a, b, F.getD imm.toNat 0⟩ := by
  unfold mvIns
  rw [if_neg (show ¬ ((17 : Int) = 15 ∨ (17 : Int) = 16) by decide), if_pos rfl]
theorem mvIns_else {op dst a b imm : Int} {W F : List Int} (h : op ≠ 15) (h' : op ≠ 16) (h'' : op ≠ 17) : mvIns ⟨op, dst, a, b, imm⟩ W F = ⟨op, dst, a, b, imm⟩ := by
  unfold mvIns
  rw [if_neg (by simp [h, h']), if_neg h'']
/-- A function of what is left. -/
def keptF (f : Fn) (s c : List Bool) : Fn := ⟨f.params, f.regs, movedTo f (whereL s) (whereL c) f.code.length⟩
/-- The functions that are left, up to one. -/
inductive KeptTo (P : List Fn) (c : List Bool) : Nat → List Fn → Prop
  | zero : KeptTo P c 0 []
  | gone {k : Nat} {Q : List Fn} (h : KeptTo P c k Q) (hk : c.getD k false = false) : KeptTo P c (k + 1) Q
  | kept {k : Nat} {Q : List Fn} {s : List Bool} (h : KeptTo P c k Q) (hp : k < P.length) (hk : c.getD k false = true) (hs : Reach P[k] s) : KeptTo P c (k + 1) (Q ++ [keptF P[k] s c])
theorem keptTo_unique {P : List Fn} {c : List Bool} {k : Nat} {Q Q' : List Fn} (h : KeptTo P c k Q) (h' : KeptTo P c k Q') : Q = Q' := by
  induction h generalizing Q' with
  | zero => cases h'; rfl
  | gone h hk ih =>
    cases h' with
    | gone h' _ => exact ih h'
    | kept h' _ hk' _ => rw [hk] at hk'; cases hk'
  | kept h hp hk hs ih =>
    cases h' with
    | gone h' hk' => rw [hk] at hk'; cases hk'
    | kept h' _ _ hs' => rw [ih h', reach_unique hs hs']
theorem keptTo_len {P : List Fn} {c : List Bool} {k : Nat} {Q : List Fn} (h : KeptTo P c k Q) : Q.length ≤ k := by
  induction h with
  | zero => simp
  | gone h hk ih => omega
  | kept h hp hk hs ih => simp; omega
/-- What P5.3 answers. -/
def TrimAns (P : List Fn) (E : Int) (Q : List Fn) : Prop := ((E != 0) = true ∧ ProofAns P E ∧ Q = []) ∨ (ProofAns P 0 ∧ E = 0 ∧ ∃ c, CalledSpec P c ∧ KeptTo P c P.length Q)
theorem trimAns_unique {P : List Fn} {E E' : Int} {Q Q' : List Fn} (h : TrimAns P E Q) (h' : TrimAns P E' Q') : E = E' ∧ Q = Q' := by
  rcases h with ⟨h0, h1, rfl⟩ | ⟨h1, rfl, c, hc, hk⟩ <;> rcases h' with ⟨g0, g1, rfl⟩ | ⟨g1, rfl, c', hc', hk'⟩
  · exact ⟨proofAns_unique h1 g1, rfl⟩
  · rw [proofAns_unique h1 g1] at h0; cases h0
  · rw [proofAns_unique g1 h1] at g0; cases g0
  · obtain rfl := calledSpec_unique hc hc'
    exact ⟨rfl, keptTo_unique hk hk'⟩
/-- What each place and function that is left may lead to. -/
structure MvOk (f : Fn) (N : Nat) : Prop where
  target : ∀ pc, pc < f.code.length → (insD f pc).op = 15 ∨ (insD f pc).op = 16 → ∃ t : Nat, (insD f pc).imm = t ∧ t < f.code.length
  call : ∀ pc, pc < f.code.length → (insD f pc).op = 17 → ∃ t : Nat, (insD f pc).imm = t ∧ t < N
theorem mvOk_of {P : List Fn} (h : codeProg P = 0) {f : Fn} (hf : f ∈ P) : MvOk f P.length := by
  refine ⟨fun pc hp ho => ?_, fun pc hp ho => ?_⟩
  · rw [insD_eq hp] at ho ⊢
    obtain ⟨a, b⟩ := target_fit h hf (List.getElem_mem hp) ho
    obtain ⟨t, ht⟩ := Int.eq_ofNat_of_zero_le a
    exact ⟨t, ht, by omega⟩
  · rw [insD_eq hp] at ho ⊢
    obtain ⟨a, b, _⟩ := (insOk_of h hf (List.getElem_mem hp)).call ho
    obtain ⟨t, ht⟩ := Int.eq_ofNat_of_zero_le a
    exact ⟨t, ht, by omega⟩
theorem op_has {op : Int} (h1 : 1 ≤ op) (h2 : op ≤ 19) : (bits .and .i64 (hasOf op) 16 != 0) = decide (op = 15 ∨ op = 16) ∧ (bits .and .i64 (hasOf op) 32 != 0) = decide (op = 17) := by
  refine ops19 (Q := fun op => (bits .and .i64 (hasOf op) 16 != 0) = decide (op = 15 ∨ op = 16) ∧ (bits .and .i64 (hasOf op) 32 != 0) = decide (op = 17)) (fun k hk => ?_) op h1 h2
  revert hk
  revert k
  decide
end Go.Proofs.YtdpaohmaafngkaaDoor

/- Contracts of trim.reached, trim.where and trim.Where. -/
namespace Go.Proofs.YtdpaohmaafngkaaDoor
open Go Go.RowKit

theorem made_ints (c : Nat) : (madeCells (Value.int .i64 0).cells (c * 1)).toList = i64s (List.replicate c 0) := by
  simp [madeCells, i64s, Value.cells]
  apply List.ext_getElem
  · simp
  · intro i h1 h2
    have : i % 1 = 0 := Nat.mod_one i
    simp [this]
theorem iget_set (s : List Int) (i q : Nat) (v : Int) (hi : i < s.length) : (s.set i v).getD q 0 = if q = i then v else s.getD q 0 := by
  rw [List.getD_eq_getElem?_getD, List.getElem?_set, List.getD_eq_getElem?_getD]
  by_cases h : i = q
  · subst h; simp [hi]
  · simp [h, Ne.symm h]

theorem pcheck_zero (P : List Fn) (h : ProofAns P 0) (v : Value) (w : World) (ht : TabOk w) (hc : CallOk w) (hv : ProgVal w v P) :
    Calls Tryd.prog 10 #[.agg #[v]] w fun e w' => e = .returned (.int .i64 0) ∧ Below w.heap.size w w' :=
  (pcheck_any P v w ht hc hv).mono fun _ _ ⟨_, he, hE, hb⟩ => ⟨by rw [he, proofAns_unique hE h], hb⟩
theorem pcheck_bad (P : List Fn) (h : ¬ ProofAns P 0) (v : Value) (w : World) (ht : TabOk w) (hc : CallOk w) (hv : ProgVal w v P) :
    Calls Tryd.prog 10 #[.agg #[v]] w fun e w' => ∃ E, e = .returned (.int .i64 E) ∧ (E != 0) = true ∧ ProofAns P E ∧ Below w.heap.size w w' :=
  (pcheck_any P v w ht hc hv).mono fun _ _ ⟨E, he, hE, hb⟩ => ⟨E, he, by simp only [bne_iff_ne, ne_eq]; intro h0; exact h (h0 ▸ hE), hE, hb⟩

/-- What a call that answers P5.1 leaves. -/
def WherePost (P : List Fn) (fn : Int) (w : World) (e : Ending) (w' : World) : Prop :=
  ∃ v' E A, e = .returned (.tuple #[v', .int .i64 E]) ∧ WhereAns P fn E A ∧ IntsVal w' v' A ∧ Below w.heap.size w w'

theorem own_row_ints {w : World} {g n : Nat} {l : List Int} (h : w.ownsRow 0 3 1 (.slice (some ⟨g, 0, none⟩) n n) n (i64s l)) (hl : l.length = n) : IntsVal w (.slice (some ⟨g, 0, none⟩) n n) l := by
  rw [← hl] at h ⊢
  exact ints_of_own h

end Go.Proofs.YtdpaohmaafngkaaDoor

/- Contract of the document's answer to P3.3 (tierlineref.Proven). -/
namespace Go.Proofs.YtdpaohmaafngkaaDoor
open Go Go.RowKit

theorem bad_yes {P : List Fn} {m : Nat} {x : Ins} {e : Nat} (he : e < (readsL P x).length) (h : hasB m ((readsL P x)[e]).toNat = false) : badB P (m : Int) x = true := by
  unfold badB
  have hd : decide (0 ≤ (m : Int)) = true := by simp
  rw [hd, Bool.true_and, List.any_eq_true]
  exact ⟨_, List.getElem_mem he, by simp [h]⟩
theorem bad_no {P : List Fn} {m : Nat} {x : Ins} (h : ∀ e (he : e < (readsL P x).length), hasB m ((readsL P x)[e]).toNat = true) : badB P (m : Int) x = false := by
  unfold badB
  have hd : decide (0 ≤ (m : Int)) = true := by simp
  rw [hd, Bool.true_and, List.any_eq_false]
  intro r hr
  obtain ⟨e, he, rfl⟩ := List.getElem_of_mem hr
  simp [h e he]
theorem bad_minus (P : List Fn) (x : Ins) : badB P (-1) x = false := rfl

end Go.Proofs.YtdpaohmaafngkaaDoor

/- Contracts of the document's answer to P5.1: functionFault and WhereOf of package tierlineref. -/
namespace Go.Proofs.YtdpaohmaafngkaaDoor
open Go Go.RowKit

/-- The document's fault of a program and a function of it. -/
def FaultAns (P : List Fn) (fn E : Int) : Prop := ((E == 0) = false ∧ ProofAns P E) ∨ (ProofAns P 0 ∧ ¬ (0 ≤ fn ∧ fn < P.length) ∧ E = 2) ∨ (ProofAns P 0 ∧ (0 ≤ fn ∧ fn < P.length) ∧ E = 0)

end Go.Proofs.YtdpaohmaafngkaaDoor

/- Contract of tierlinelaw.programs: it answers a program of new memory that reads as the one that was handed in, and nothing that was there has turned. -/
namespace Go.Proofs.YtdpaohmaafngkaaDoor
open Go Go.RowKit

end Go.Proofs.YtdpaohmaafngkaaDoor

/- Contracts of tierlinelaw.ints, tierlineref.Numbers and tierlineref.Begun: the document's own beginning. -/
namespace Go.Proofs.YtdpaohmaafngkaaDoor
open Go Go.RowKit

theorem ints_cells {w : World} {v : Value} {l : List Int} (h : IntsVal w v l) : ∃ ao c, v = .slice ao l.length c ∧ (ao = none → l.length = 0 ∧ c = 0) ∧ ∀ ad, ao = some ad → ∀ j u, (i64s l)[j]? = some u → w.cell? (ad.add j) = some u := by
  rcases ints_some h with ⟨rfl, rfl⟩ | ⟨a, cap, rfl, hc⟩
  · exact ⟨none, 0, rfl, fun _ => ⟨rfl, rfl⟩, fun ad h => by cases h⟩
  · refine ⟨some a, cap, rfl, fun h => (by cases h), fun ad h => ?_⟩
    obtain rfl : a = ad := by simpa using h
    exact hc

theorem begunFr_set (args : List Int) (k : Nat) (hk : k < args.length) (h12 : args.length ≤ 12) : (frCells (begunFr 0 (args.take k))).toArray.setIfInBounds (2 + k) (.int .i64 args[k]) = (frCells (begunFr 0 (args.take (k + 1)))).toArray := by
  have e : ∀ j, j ≤ args.length → frCells (begunFr 0 (args.take j)) = [.int .i64 0, .int .i64 0] ++ (i64s (args.take j) ++ List.replicate (12 - j) (Value.int .i64 0)) := fun j hj => by
    unfold frCells begunFr regsOf
    rw [i64s_append]
    simp only [i64s, List.map_replicate, List.length_take, Nat.min_eq_left hj]
    rfl
  rw [e k (by omega), e (k + 1) (by omega)]
  rw [List.setIfInBounds_toArray]
  congr 1
  rw [List.set_append_right _ _ (by simp)]
  congr 1
  rw [show 2 + k - ([.int .i64 0, .int .i64 0] : List Value).length = k by simp]
  rw [List.set_append_right _ _ (by rw [i64s_length, List.length_take]; omega)]
  rw [i64s_length, List.length_take, Nat.min_eq_left (by omega), Nat.sub_self, List.take_succ_eq_append_getElem hk, i64s_append, List.append_assoc]
  congr 1
  rw [show 12 - k = (12 - (k + 1)) + 1 by omega, List.replicate_succ]
  rfl

end Go.Proofs.YtdpaohmaafngkaaDoor

/- Contract of the document's StateCopy (package tierlineref): a state whose lists are new memory. -/
namespace Go.Proofs.YtdpaohmaafngkaaDoor
open Go Go.RowKit

theorem frs_take (fs : List Fr) (q : Nat) (hq : q < fs.length) : framesCells (fs.take q) ++ frCells fs[q] = framesCells (fs.take (q + 1)) := by
  rw [List.take_add_one, List.getElem?_eq_getElem hq, framesCells_append]; simp [framesCells]

end Go.Proofs.YtdpaohmaafngkaaDoor

/- The walk of tierlinelaw.ProofSures: at every program and number it says true, and nothing that was there has turned. -/
namespace Go.Proofs.YtdpaohmaafngkaaDoor
open Go Go.RowKit

end Go.Proofs.YtdpaohmaafngkaaDoor

/- Contract of tierlinelaw.sameState: two states that are the same. -/
namespace Go.Proofs.YtdpaohmaafngkaaDoor
open Go Go.RowKit

theorem list16_law {l : List Int} (h : l.length = 16) : ∃ m0 m1 m2 m3 m4 m5 m6 m7 m8 m9 m10 m11 m12 m13 m14 m15, l = [m0, m1, m2, m3, m4, m5, m6, m7, m8, m9, m10, m11, m12, m13, m14, m15] := by
  match l, h with
  | [m0, m1, m2, m3, m4, m5, m6, m7, m8, m9, m10, m11, m12, m13, m14, m15], _ => exact ⟨m0, m1, m2, m3, m4, m5, m6, m7, m8, m9, m10, m11, m12, m13, m14, m15, rfl⟩
theorem plain_int_law : Tryd.prog.plainKey 3 = true := by kernel_rfl
theorem cells_int_law : Tryd.prog.cellsOf 3 = 1 := by kernel_rfl
theorem equal_items_law (d : Nat) (l : List Int) (w : World) : ∀ is : List Nat, (∀ i ∈ is, i < l.length) → (Op.eqItems (d + 1) 3 1 (i64s l).toArray (i64s l).toArray is).run Tryd.prog w = .ok true w := by
  intro is
  induction is with
  | nil => intro _; simp [Op.eqItems]
  | cons i is ih =>
    intro h
    have hi : i < l.length := h i (List.mem_cons_self)
    have hg : (i64s l).toArray[i * 1]? = some (.int .i64 l[i]) := by simp [i64s, hi]
    simp only [Op.eqItems, Sem.run_bind, run_part_plain w plain_int_law hg, Result.andThen_ok, run_equalIn_int w d 3 .i64 .i64 l[i] l[i] Tryd.underlying3]
    simp
    exact ih (fun j hj => h j (List.mem_cons_of_mem _ hj))
theorem equal_ints_law (t : TypeId) (l : List Int) (d : Nat) (w : World) (hu : Tryd.prog.underlying t = some (.array l.length 3)) : (Op.equalIn (d + 2) t (.agg (i64s l).toArray) (.agg (i64s l).toArray)).run Tryd.prog w = .ok true w := by
  obtain ⟨i, hi, _⟩ := info_parts info64
  rw [run_equalIn_array w (d + 1) _ _ hu hi, cells_int_law]
  exact equal_items_law d l w _ (fun j hj => by simpa using hj)

end Go.Proofs.YtdpaohmaafngkaaDoor
