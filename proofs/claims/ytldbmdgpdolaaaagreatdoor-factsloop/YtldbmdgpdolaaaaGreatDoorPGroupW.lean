import Derived.Test.YtldbmdgpdolaaaaGreatDoorPGroupB
import Derived.Test.YtldbmdgpdolaaaaGreatDoorPGroupC
namespace Go.Proofs.YtldbmdgpdolaaaaGreatDoor
open Go Go.RowKit

theorem sureSpec_reach {f : Fn} {L : List Int} (h : SureSpec f L) {q : Nat} (hq : q < f.code.length + 1) : 0 ≤ L.getD q 0 ↔ Way f 63 q := by
  rcases h.2 q hq with ⟨hn, e⟩ | ⟨hw, m, _, e, _⟩
  · rw [e]; exact ⟨fun h => by omega, fun h => absurd h hn⟩
  · rw [e]; exact ⟨fun _ => hw, fun _ => by omega⟩
theorem reach_sure {P : List Fn} {k : Nat} (h : fnErr P k = 0) (hk : k < P.length) {A : List Int} (hA : SureAns P k A) :
    A.length = P[k].code.length ∧ ∀ q, q < P[k].code.length → (0 ≤ A.getD q 0 ↔ Way P[k] 63 q) := by
  have e : fnAt P (k : Int) = P[k] := by simp [fnAt, List.getD, hk]
  rcases hA with ⟨h1, _⟩ | ⟨_, L, hL, rfl⟩
  · exact absurd h h1
  · rw [e] at hL ⊢
    refine ⟨by rw [List.length_take, hL.1]; omega, fun q hq => ?_⟩
    rw [show (L.take P[k].code.length).getD q 0 = L.getD q 0 by simp [List.getD, hq]]
    exact sureSpec_reach hL (by omega)
theorem fnErr_ok {P : List Fn} (h : codeProg P = 0) {k : Nat} (hk : k < P.length) : fnErr P k = 0 := by unfold fnErr; rw [if_pos h, if_pos (by omega)]
def CallsAt (f : Fn) (pc : Nat) (t : Int) : Prop := pc < f.code.length ∧ Way f 63 pc ∧ (insD f pc).op = 17 ∧ (insD f pc).imm = t
inductive Called (P : List Fn) : Nat → Prop
  | zero : Called P 0
  | call {fn pc t : Nat} (h : Called P fn) (hk : fn < P.length) (hc : CallsAt P[fn] pc (t : Int)) : Called P t
def CSound (P : List Fn) (c : List Bool) : Prop := ∀ q, q < P.length → c.getD q false = true → Called P q
structure CMid (P : List Fn) (c0 : List Bool) (fn pc : Nat) (again : Bool) (c : List Bool) : Prop where
  len : c.length = c0.length
  sound : CSound P c0 → CSound P c
  keeps : ∀ q, c0.getD q false = true → c.getD q false = true
  less : again = true → unseen c < unseen c0
  same : again = false → c = c0 ∧ ∀ k (h : k < P.length) q (t : Nat), (k < fn ∨ (k = fn ∧ q < pc)) → c0.getD k false = true → CallsAt P[k] q (t : Int) → c0.getD t false = true
theorem CMid.start (P : List Fn) (c0 : List Bool) : CMid P c0 0 0 false c0 :=
  ⟨rfl, id, fun _ h => h, fun h => (by cases h), fun _ => ⟨rfl, fun k h q t hk => by omega⟩⟩
theorem CMid.next {P : List Fn} {c0 c : List Bool} {fn pc : Nat} {again : Bool} (h : CMid P c0 fn pc again c) (hf : fn < P.length) (hp : P[fn].code.length ≤ pc ∨ c.getD fn false = false) : CMid P c0 (fn + 1) 0 again c :=
  ⟨h.len, h.sound, h.keeps, h.less, fun ha => by
    obtain ⟨h1, h2⟩ := h.same ha
    refine ⟨h1, fun k hk q t hlt hc ht => ?_⟩
    rcases Nat.lt_or_ge k fn with hl | hl
    · exact h2 k hk q t (Or.inl hl) hc ht
    · obtain rfl : k = fn := by omega
      rcases hp with hp | hp
      · exact h2 k hk q t (Or.inr ⟨rfl, by have := ht.1; omega⟩) hc ht
      · subst h1; rw [hp] at hc; cases hc⟩
theorem CMid.skip {P : List Fn} {c0 c : List Bool} {fn pc : Nat} {again : Bool} (h : CMid P c0 fn pc again c) (hf : fn < P.length) (hn : ∀ t : Nat, CallsAt P[fn] pc (t : Int) → c.getD t false = true) : CMid P c0 fn (pc + 1) again c :=
  ⟨h.len, h.sound, h.keeps, h.less, fun ha => by
    obtain ⟨h1, h2⟩ := h.same ha
    refine ⟨h1, fun k hk q t hlt hc ht => ?_⟩
    by_cases hq : k < fn ∨ (k = fn ∧ q < pc)
    · exact h2 k hk q t hq hc ht
    · obtain rfl : k = fn := by omega
      obtain rfl : q = pc := by omega
      rw [← h1]; exact hn t ht⟩
theorem CMid.new {P : List Fn} {c0 c : List Bool} {fn pc t : Nat} {again : Bool} (h : CMid P c0 fn pc again c) (hf : fn < P.length) (hc : c.getD fn false = true) (ht : CallsAt P[fn] pc (t : Int)) (htl : t < c.length) (hu : c.getD t false = false) : CMid P c0 fn (pc + 1) true (c.set t true) := by
  have hun := unseen_set c t htl hu
  have hg : ∀ q, (c.set t true).getD q false = if q = t then true else c.getD q false := fun q => bget_set c t q true htl
  refine ⟨by simp [h.len], fun hs q hq hcq => ?_, fun q hq => ?_, fun _ => ?_, fun ha => by cases ha⟩
  · rw [hg q] at hcq
    by_cases e : q = t
    · rw [e]; exact Called.call (h.sound hs fn hf hc) hf ht
    · rw [if_neg e] at hcq; exact h.sound hs q hq hcq
  · rw [hg q]; split
    · rfl
    · exact h.keeps q hq
  · cases again
    · rw [(h.same rfl).1] at hun; rw [(h.same rfl).1]; omega
    · have := h.less rfl; omega
end Go.Proofs.YtldbmdgpdolaaaaGreatDoor
