import Derived.BigQuiet
import Derived.Deep.LoopGhost
import Derived.Deep.QuietTactic
import Derived.Laws.CopyOwn
import Derived.Laws.OwnMore
import Derived.OwnWalk
import Derived.WalkLawsBesides
import Derived.Test.YtfacdhkadnmnlaaDoorPGroupA
import Derived.Test.YtfacdhkadnmnlaaDoorProg
import Derived.WalkKit
import Derived.WalkSpells
import Derived.Deep.RegionHeld
import Derived.OrdersHeld
namespace Go.Proofs.YtfacdhkadnmnlaaDoor
open Go Go.RowKit

structure Loops (f : Fn) (again : Bool) (l : List (BitVec 64)) : Prop where
 len : l.length = f.code.length + 1
 sound : Sound f l
 zero : ∀ r : Nat, r < 64 → f.params ≤ (r : Int) → bitOf l 0 r = false
 closed : again = false → ∀ pc, pc < f.code.length → ∀ to ∈ behind (insD f pc) pc, EdgeOk l pc (insD f pc) to
theorem Loops.next {f : Fn} {l l' : List (BitVec 64)} {again again' : Bool} (h : Loops f again l) (m : Mid f l f.code.length 0 again' l') :
  Loops f again' l' ∧ total l' + (if again' = true then 1 else 0) < total l + 1 := by
 refine ⟨⟨m.len.trans h.len, m.sound h.sound, fun r hr hp => m.zeros 0 r (h.zero r hr hp), fun ha => ?_⟩, ?_⟩
 ·obtain ⟨rfl, h2, _⟩ := m.same ha
  exact fun pc hpc to hto => h2 pc hpc to hto
 ·cases again' with
  | false => obtain ⟨rfl, _⟩ := m.same rfl; simp
  | true => have := m.less rfl; simp; omega
end Go.Proofs.YtfacdhkadnmnlaaDoor
namespace Go.Proofs.YtfacdhkadnmnlaaDoor
open Go Go.RowKit

def SSound (f : Fn) (r : Nat) (s : List Bool) : Prop := ∀ q, s.getD q false = true → Way f r q
def unseen (s : List Bool) : Nat := s.count false
structure SMid (f : Fn) (r : Nat) (s0 : List Bool) (k e : Nat) (again : Bool) (s : List Bool) : Prop where
 len : s.length = s0.length
 sound : SSound f r s0 → SSound f r s
 keeps : ∀ q, s0.getD q false = true → s.getD q false = true
 less : again = true → unseen s < unseen s0
 same : again = false → s = s0 ∧ (∀ pc, pc < k → s0.getD pc false = true → (setMask (insD f pc)).testBit r = false → ∀ to ∈ behind (insD f pc) pc, s0.getD to false = true) ∧ ∀ to ∈ (behind (insD f k) k).take e, s0.getD to false = true
theorem SMid.start (f : Fn) (r : Nat) (s0 : List Bool) : SMid f r s0 0 0 false s0 :=
 ⟨rfl, id, fun _ h => h, fun h => (by cases h), fun _ => ⟨rfl, fun pc h => (by omega), fun to h => (by simp at h)⟩⟩
theorem SMid.next {f : Fn} {r : Nat} {s0 s : List Bool} {k e : Nat} {again : Bool} (h : SMid f r s0 k e again s) (he : (behind (insD f k) k).length ≤ e) : SMid f r s0 (k + 1) 0 again s :=
 ⟨h.len, h.sound, h.keeps, h.less, fun ha => by
  obtain ⟨h1, h2, h3⟩ := h.same ha
  refine ⟨h1, fun pc hpc hs hb to hto => ?_, fun to hto => by simp at hto⟩
  rcases Nat.lt_or_ge pc k with hlt | hge
  ·exact h2 pc hlt hs hb to hto
  ·obtain rfl : pc = k := by omega
   exact h3 to (by rw [List.take_of_length_le he]; exact hto)⟩
structure SLoops (f : Fn) (r : Nat) (again : Bool) (s : List Bool) : Prop where
 len : s.length = f.code.length + 1
 sound : SSound f r s
 zero : f.params ≤ (r : Int) → s.getD 0 false = true
 closed : again = false → ∀ pc, pc < f.code.length → s.getD pc false = true → (setMask (insD f pc)).testBit r = false → ∀ to ∈ behind (insD f pc) pc, s.getD to false = true
theorem SLoops.next {f : Fn} {r : Nat} {s s' : List Bool} {again again' : Bool} (h : SLoops f r again s) (m : SMid f r s f.code.length 0 again' s') :
  SLoops f r again' s' ∧ unseen s' + (if again' = true then 1 else 0) < unseen s + 1 := by
 refine ⟨⟨m.len.trans h.len, m.sound h.sound, fun hp => m.keeps 0 (h.zero hp), fun ha => ?_⟩, ?_⟩
 ·obtain ⟨rfl, h2, _⟩ := m.same ha
  exact fun pc hpc hs hb to hto => h2 pc hpc hs hb to hto
 ·cases again' with
  | false => obtain ⟨rfl, _⟩ := m.same rfl; simp
  | true => have := m.less rfl; simp; omega
end Go.Proofs.YtfacdhkadnmnlaaDoor
namespace Go.Proofs.YtfacdhkadnmnlaaDoor
open Go Go.RowKit

def mk (op a b imm : Int) : Int :=
 if op = 1 then imm else if op = 2 then wrap64 (a + b) else if op = 3 then wrap64 (a - b) else if op = 4 then wrap64 (a * b)
 else if op = 5 then (if b = 0 then 0 else wrap64 (a.tdiv b)) else if op = 6 then bits .and .i64 a b else if op = 7 then bits .or .i64 a b else if op = 8 then bits .xor .i64 a b
 else if op = 9 then wrap64 (a * 2 ^ (b % 64).toNat) else if op = 10 then a / 2 ^ (b % 64).toNat
 else if op = 11 then (if a < b then 1 else 0) else if op = 12 then (if a = b then 1 else 0) else 0
end Go.Proofs.YtfacdhkadnmnlaaDoor
namespace Go.Proofs.YtfacdhkadnmnlaaDoor
open Go

def lastPost (P : Program) (o : Oper) (Q : Exit → Act → World → Prop) : Exit → Act → World → Prop
 | .normal, a, w => o.wp P a w (fun a w => Q .normal a w) Q ∨ (o.asks P a w ∧ LetsOut Q)
 | e, a, w => Q e a w
def lastB (md : Region.Mode) (ops : Array Oper) (n : Nat) : Bool :=
 ops.size == n + 1 && ops.all (fun o => o.guard.isNone) &&
 (match ops[n]? with
  | some o => (List.range n).all (fun i => (List.range (n + 1)).any fun j => decide (i < j) && (match ops[j]? with
    | some oj => oj.after.any fun e => Region.binds md e && e.on == i
    | none => false)) && o.after.all (fun e => decide (e.on < n))
  | none => false) &&
 (List.range n).all fun i => match ops[i]? with
  | some o => o.after.all fun e => decide (e.on < i)
  | none => true
section
variable {P : Program} {ops : Array Oper} {Q : Exit → Act → World → Prop} {md : Region.Mode}

theorem upon_last {o oi : Oper} {a : Act} {next : Act → World → Prop} (r : Result Next) : oi.upon P a next (lastPost P o Q) r → oi.upon P a next Q r := by
 intro h
 cases r with
 | ok n w' => cases n <;> exact h
 | halt x w' => cases x <;> exact h
theorem getD_push_lt (l : Array Bool) (i : Nat) (d : Bool) (h : i < l.size) : (l.push false).getD i d = l.getD i d := by
 simp [Array.getElem?_push, show ¬ i = l.size by omega]
theorem getD_push_ge (l : Array Bool) (i : Nat) (h : l.size ≤ i) : (l.push false).getD i false = false := by
 rcases Nat.eq_or_lt_of_le h with e | e
 ·subst e; simp
 ·simp [Array.getElem?_eq_none (show (l.push false).size ≤ i by simp; omega)]
structure Last (md : Region.Mode) (ops : Array Oper) (n : Nat) (o : Oper) : Prop where
 size : ops.size = n + 1
 guards : ∀ (i : Nat) (oi : Oper), ops[i]? = some oi → oi.guard = none
 at_ : ops[n]? = some o
 waits : ∀ i : Nat, i < n → ∃ (j : Nat) (oj : Oper), i < j ∧ j ≤ n ∧ ops[j]? = some oj ∧ ∃ e ∈ oj.after, Region.binds md e = true ∧ e.on = i
 within : ∀ e ∈ o.after, e.on < n
 down : ∀ (i : Nat) (oi : Oper), i < n → ops[i]? = some oi → ∀ e ∈ oi.after, e.on < i
theorem Last.of {n : Nat} {o : Oper} (h : lastB md ops n = true) (ho : ops[n]? = some o) : Last md ops n o := by
 simp only [lastB, ho, Bool.and_eq_true] at h
 obtain ⟨⟨⟨h1, h2⟩, h3, h4⟩, h5⟩ := h
 refine ⟨by simpa using h1, fun i oi hi => ?_, ho, fun i hi => ?_, fun e he => ?_, fun i oi hi hoi e he => ?_⟩
 ·obtain ⟨hlt, rfl⟩ := Array.getElem?_eq_some_iff.1 hi
  have := Array.all_eq_true.1 h2 i hlt
  simpa using this
 ·have := List.all_eq_true.1 h3 i (List.mem_range.2 hi)
  obtain ⟨j, hj, hb⟩ := List.any_eq_true.1 this
  simp only [Bool.and_eq_true, decide_eq_true_eq] at hb
  cases hoj : ops[j]? with
  | none => rw [hoj] at hb; simp at hb
  | some oj =>
   rw [hoj] at hb
   obtain ⟨e, he, hb2⟩ := Array.any_eq_true'.1 hb.2
   simp only [Bool.and_eq_true, beq_iff_eq] at hb2
   exact ⟨j, oj, hb.1, by have := List.mem_range.1 hj; omega, hoj, e, he, hb2.1, hb2.2⟩
 ·have := Array.all_eq_true'.1 h4 e he
  simpa using this
 ·have := List.all_eq_true.1 h5 i (List.mem_range.2 hi)
  rw [hoi] at this
  have := Array.all_eq_true'.1 this e he
  simpa using this
def Closed (md : Region.Mode) (ops : Array Oper) (n : Nat) (listed : Array Bool) : Prop :=
 ∀ (j : Nat) (oj : Oper), j < n → ops[j]? = some oj → listed.getD j false = true → ∀ e ∈ oj.after, Region.binds md e = true → listed.getD e.on false = true
theorem pop_get {n i : Nat} {o : Oper} (L : Last md ops n o) (h : i < n) : ops.pop[i]? = ops[i]? := by
 rw [Array.getElem?_pop, L.size]
 simp [h]
theorem ready_lt {n i : Nat} {o : Oper} {listed : Array Bool} (L : Last md ops n o) (hl : listed.size = n) (hcl : Closed md ops n listed) : i ∈ Region.ready md ops (listed.push false) → (i < n ∧ i ∈ Region.ready md ops.pop listed) ∨ (i = n ∧ ∀ j, j < n → listed.getD j false = true) := by
 intro h
 obtain ⟨h1, oi, hoi, hall⟩ := mem_ready.1 h
 have hi : i < n + 1 := by have := (Array.getElem?_eq_some_iff.1 hoi).1; rw [L.size] at this; exact this
 have key : ∀ e ∈ oi.after, Region.binds md e = true → listed.getD e.on false = true := fun e he hb => by
  have h2 := hall e he hb
  rcases Nat.lt_or_ge e.on listed.size with h3 | h3
  ·rwa [getD_push_lt _ _ _ h3] at h2
  ·rw [getD_push_ge _ _ h3] at h2; cases h2
 rcases Nat.lt_or_ge i n with h' | h'
 ·exact Or.inl ⟨h', mem_ready.2 ⟨by rwa [getD_push_lt _ _ _ (by omega)] at h1, oi, by rw [pop_get L h']; exact hoi, key⟩⟩
 ·obtain rfl : i = n := by omega
  obtain rfl : oi = o := Option.some.inj (hoi.symm.trans L.at_)
  have all : ∀ d j, i - j = d → j < i → listed.getD j false = true := by
   intro d
   induction d using Nat.strongRecOn with
   | _ d ih =>
    intro j hd hj
    obtain ⟨j', oj, h1, h2, h3, e, he, hb, rfl⟩ := L.waits j hj
    rcases Nat.lt_or_ge j' i with h4 | h4
    ·exact hcl j' oj h4 h3 (ih (i - j') (by omega) j' rfl h4) e he hb
    ·obtain rfl : j' = i := by omega
     obtain rfl : oj = oi := Option.some.inj (h3.symm.trans L.at_)
     exact key e he hb
  exact Or.inr ⟨rfl, fun j hj => all _ j rfl hj⟩
theorem ready_of {n i : Nat} {o : Oper} {listed : Array Bool} (L : Last md ops n o) (hl : listed.size = n) (h : i ∈ Region.ready md ops.pop listed) : i < n ∧ i ∈ Region.ready md ops (listed.push false) := by
 obtain ⟨h1, oi, hoi, hall⟩ := mem_ready.1 h
 have hi : i < n := by have := (Array.getElem?_eq_some_iff.1 hoi).1; simp [L.size] at this; exact this
 rw [pop_get L hi] at hoi
 refine ⟨hi, mem_ready.2 ⟨by rw [getD_push_lt _ _ _ (by omega)]; exact h1, oi, hoi, fun e he hb => ?_⟩⟩
 have := L.down i oi hi hoi e he
 rw [getD_push_lt _ _ _ (by omega)]
 exact hall e he hb
theorem all_listed {n : Nat} {o : Oper} {listed : Array Bool} (L : Last md ops n o) (hl : listed.size = n) (h : Region.ready md ops.pop listed = []) : ∀ j, j < n → listed.getD j false = true := by
 intro j
 induction j using Nat.strongRecOn with
 | _ j ih =>
  intro hj
  cases hd : listed.getD j false with
  | true => rfl
  | false =>
   exfalso
   obtain ⟨oj, hjo⟩ : ∃ oj, ops[j]? = some oj := ⟨ops[j]'(by rw [L.size]; omega), Array.getElem?_eq_getElem (by rw [L.size]; omega)⟩
   have hm : j ∈ Region.ready md ops.pop listed := mem_ready.2 ⟨by simp [show j < listed.size by omega] at hd ⊢; exact hd, _, by rw [pop_get L hj]; exact hjo, fun e he _ => by
    have := L.down j _ hj hjo e he
    exact ih e.on this (by omega)⟩
   rw [h] at hm
   cases hm
theorem last_ready {n : Nat} {o : Oper} {listed : Array Bool} (L : Last md ops n o) (hl : listed.size = n) (h : ∀ j, j < n → listed.getD j false = true) : n ∈ Region.ready md ops (listed.push false) :=
 mem_ready.2 ⟨by simp [← hl], o, L.at_, fun e he _ => by
  have := L.within e he
  rw [getD_push_lt _ _ _ (by omega)]
  exact h _ this⟩
theorem none_ready {m : Nat} {ops : Array Oper} {listed : Array Bool} (hs : ops.size = m) (h : ∀ j, j < m → listed.getD j false = true) : Region.ready md ops listed = [] := by
 apply List.eq_nil_iff_forall_not_mem.2
 intro j hj
 obtain ⟨h1, oi, hoi, _⟩ := mem_ready.1 hj
 have hi := (Array.getElem?_eq_some_iff.1 hoi).1
 have h2 := h j (by omega)
 rcases Nat.lt_or_ge j listed.size with h3 | h3
 ·simp [h3] at h1 h2; rw [h1] at h2; cases h2
 ·simp [Array.getElem?_eq_none h3] at h2
theorem set_push (l : Array Bool) (i : Nat) (h : i < l.size) : (l.push false).setIfInBounds i true = (l.setIfInBounds i true).push false := by
 apply Array.ext_getElem?
 intro j
 rw [Array.getElem?_setIfInBounds, Array.getElem?_push, Array.getElem?_push, Array.getElem?_setIfInBounds]
 simp only [Array.size_setIfInBounds, Array.size_push]
 by_cases hij : i = j
 ·subst hij
  simp [h, show ¬ i = l.size by omega, show i < l.size + 1 by omega]
 ·simp [hij]
theorem wanted_none {o : Oper} (h : o.guard = none) (y : Nat → Option Bool) : Region.wanted o y = true := by simp [Region.wanted, h]
theorem wp_last {o oi : Oper} {a : Act} {w : World} {K K' : Act → World → Prop} (hK : ∀ a w, K a w → K' a w) (h : oi.wp P a w K (lastPost P o Q) ∨ (oi.asks P a w ∧ LetsOut (lastPost P o Q))) : oi.wp P a w K' Q ∨ (oi.asks P a w ∧ LetsOut Q) := by
 rcases h with h | ⟨h1, h2⟩
 ·exact Or.inl (Oper.wp_mono hK (upon_last _ h))
 ·exact Or.inr ⟨h1, h2⟩
theorem last_step {n : Nat} {o : Oper} {listed : Array Bool} {a : Act} {w : World} (L : Last md ops n o) (hl : listed.size = n) (hall : ∀ j, j < n → listed.getD j false = true) (h : lastPost P o Q .normal a w) (fuel : Nat) :
  wpOp P ops Q n (wpAny P md ops Q fuel ((listed.push false).setIfInBounds n true)) a w := by
 unfold wpOp
 simp only [L.at_, wanted_none (L.guards n o L.at_), if_true]
 have hr : Region.ready md ops ((listed.push false).setIfInBounds n true) = [] := by
  refine none_ready L.size fun j hj => ?_
  rcases Nat.lt_or_ge j n with h' | h'
  ·rw [getD_set_ne false (by omega), getD_push_lt _ _ _ (by omega)]; exact hall j h'
  ·obtain rfl : j = n := by omega
   simp [← hl]
 exact h.imp (Oper.wp_mono fun a w hq => wpAny_done hr hq fuel) id
theorem closed_set {n i : Nat} {o : Oper} {listed : Array Bool} (L : Last md ops n o) (hl : listed.size = n) (hcl : Closed md ops n listed) (hi : i ∈ Region.ready md ops.pop listed) : Closed md ops n (listed.setIfInBounds i true) := by
 obtain ⟨_, oi, hoi, hall⟩ := mem_ready.1 hi
 have hin : i < n := by have := (Array.getElem?_eq_some_iff.1 hoi).1; simp [L.size] at this; exact this
 rw [pop_get L hin] at hoi
 have up : ∀ m, listed.getD m false = true → (listed.setIfInBounds i true).getD m false = true := fun m hm => by
  by_cases him : i = m
  ·subst him; simp [hl, hin]
  ·rw [getD_set_ne false him]; exact hm
 intro j oj hj hoj hlj e he hb
 by_cases hij : i = j
 ·subst hij
  obtain rfl : oj = oi := Option.some.inj (hoj.symm.trans hoi)
  exact up _ (hall e he hb)
 ·rw [getD_set_ne false hij] at hlj
  exact up _ (hcl j oj hj hoj hlj e he hb)
theorem wpAny_last {n : Nat} {o : Oper} (L : Last md ops n o) : ∀ (fuel : Nat) (listed : Array Bool) (a : Act) (w : World), listed.size = n → Closed md ops n listed →
  wpAny P md ops.pop (lastPost P o Q) fuel listed a w → wpAny P md ops Q (fuel + 1) (listed.push false) a w := by
 intro fuel
 induction fuel with
 | zero =>
  intro listed a w hl hcl h
  have hall := all_listed L hl h.1
  refine ⟨fun h0 => (by have := last_ready L hl hall; rw [h0] at this; cases this), fun i hi => ?_⟩
  rcases ready_lt L hl hcl hi with ⟨_, h2⟩ | ⟨rfl, _⟩
  ·rw [h.1] at h2; cases h2
  ·exact last_step L hl hall h.2 0
 | succ f ih =>
  intro listed a w hl hcl h
  refine ⟨fun h0 => ?_, fun i hi => ?_⟩
  ·exfalso
   cases hr : Region.ready md ops.pop listed with
   | nil => have := last_ready L hl (all_listed L hl hr); rw [h0] at this; cases this
   | cons x xs => have := (ready_of L hl (i := x) (by rw [hr]; simp)).2; rw [h0] at this; cases this
  ·rcases ready_lt L hl hcl hi with ⟨h1, h2⟩ | ⟨rfl, hall⟩
   ·have h3 := h.2 i h2
    obtain ⟨_, oi, hoi, _⟩ := mem_ready.1 h2
    have hoi' : ops[i]? = some oi := by rw [← pop_get L h1]; exact hoi
    unfold wpOp at h3 ⊢
    simp only [hoi, hoi', wanted_none (L.guards i oi hoi'), if_true] at h3 ⊢
    refine wp_last (fun a' w' hk => ?_) h3
    rw [set_push _ _ (by omega)]
    exact ih _ a' w' (by simpa using hl) (closed_set L hl hcl h2) hk
   ·have hr : Region.ready md ops.pop listed = [] := none_ready (m := i) (by simp [L.size]) hall
    exact last_step L hl hall (h.1 hr) (f + 1)
theorem wp_region_last {S : World → Prop} (id n : Nat) {o : Oper} {a : Act} {w : World} (hm : P.follows .mixedOrders = true) (hb : lastB .any ops n = true) (ho : ops[n]? = some o)
  (hS : S w.drew) (h : S w.drew → wpAnyH P .any ops.pop (lastPost P o Q) S n (Array.replicate n false) a w.drew) : (Code.region id ops true).wp P Q a w := by
 have L := Last.of hb ho
 refine wp_region_any hm ?_
 have h2 := wpAny_last L n (Array.replicate n false) a w.drew (by simp) (fun j oj hj _ hlj => by simp [hj] at hlj) (wpAny_of_held n _ a _ (h hS))
 rw [← Array.replicate_succ, ← L.size] at h2
 exact h2
end
end Go.Proofs.YtfacdhkadnmnlaaDoor
