import Derived.BigQuiet
import Derived.Deep.QuietTactic
import Derived.Test.YtldbmdgpdolaaaaDoorPGroupC
import Derived.Deep.Cut
import Derived.Deep.RegionHeld3
import Derived.Test.YtldbmdgpdolaaaaDoorPGroupB
import Derived.Test.YtldbmdgpdolaaaaDoorPGroupA
namespace Go.Proofs.YtldbmdgpdolaaaaDoor
open Go Go.RowKit

def placeB (P : List Fn) (f : Fr) : Bool := decide (0 ≤ f.fn ∧ f.fn < P.length ∧ 0 ≤ f.pc ∧ f.pc < ((P.getD f.fn.toNat ⟨0, 0, []⟩).code.length : Int))
def mayB (s : St) : Bool := decide (0 ≤ s.status ∧ s.status ≤ 5 ∧ 0 ≤ s.fuel ∧ s.fuel ≤ 10000 ∧ s.frames.length ≤ 8 ∧ s.answers.length ≤ 100 ∧ (s.status = 1 ↔ s.frames.length = 0) ∧ (s.status = 1 ∨ s.value = 0))
end Go.Proofs.YtldbmdgpdolaaaaDoor
namespace Go.Proofs.YtldbmdgpdolaaaaDoor
open Go Go.RowKit

theorem wrap_fits (n : Int) (h0 : 0 ≤ n) (h1 : n ≤ 9223372036854775807) : IntKind.i64.wrap n = n := by
  have e : n % 2 ^ 64 = n := Int.emod_eq_of_lt h0 (by simp; omega)
  have w1 : IntKind.i64.wrap n = if (true && decide (n ≥ 2 ^ 63)) = true then n - (2 ^ 64 : Int) else n := by
    simp only [IntKind.wrap, IntKind.bits, IntKind.signed, e]
  rw [w1, if_neg (by simp; omega)]
end Go.Proofs.YtldbmdgpdolaaaaDoor
namespace Go.Proofs.YtldbmdgpdolaaaaDoor
open Go Go.RowKit

def fnD (P : List Fn) (k : Int) : Fn := P.getD k.toNat ⟨0, 0, []⟩
def insOfFr (P : List Fn) (f : Fr) : Ins := insD (fnD P f.fn) f.pc.toNat
def regD (f : Fr) (r : Int) : Int := f.regs.getD r.toNat 0
def putF (f : Fr) (r v : Int) : Fr := ⟨f.fn, f.pc + 1, f.regs.set r.toNat v⟩
end Go.Proofs.YtldbmdgpdolaaaaDoor
namespace Go.Proofs.YtldbmdgpdolaaaaDoor
open Go Go.RowKit

structure FOk (P : List Fn) (fs : List Fr) : Prop where
  place : ∀ f ∈ fs, placeB P f = true
  calls : ∀ (k : Nat) (f h : Fr), fs[k]? = some f → fs[k + 1]? = some h → (insOfFr P f).op = 17 ∧ (insOfFr P f).imm = h.fn
theorem fok_snoc (P : List Fn) (fs : List Fr) (f : Fr) : FOk P (fs ++ [f]) ↔ FOk P fs ∧ placeB P f = true ∧ ∀ g, fs.getLast? = some g → (insOfFr P g).op = 17 ∧ (insOfFr P g).imm = f.fn := by
  constructor
  · intro h
    refine ⟨⟨fun g hg => h.place g (List.mem_append_left _ hg), fun k a b ha hb => ?_⟩, h.place f (by simp), fun g hg => ?_⟩
    · obtain ⟨l1, _⟩ := List.getElem?_eq_some_iff.1 ha
      obtain ⟨l2, _⟩ := List.getElem?_eq_some_iff.1 hb
      exact h.calls k a b (by rw [List.getElem?_append_left l1]; exact ha) (by rw [List.getElem?_append_left l2]; exact hb)
    · rw [List.getLast?_eq_getElem?] at hg
      obtain ⟨l1, _⟩ := List.getElem?_eq_some_iff.1 hg
      refine h.calls (fs.length - 1) g f (by rw [List.getElem?_append_left l1]; exact hg) ?_
      rw [show fs.length - 1 + 1 = fs.length by omega, List.getElem?_append_right (Nat.le_refl _)]
      simp
  · rintro ⟨h1, h2, h3⟩
    refine ⟨fun g hg => ?_, fun k a b ha hb => ?_⟩
    · rcases List.mem_append.1 hg with hg | hg
      · exact h1.place g hg
      · rw [List.mem_singleton.1 hg]; exact h2
    · obtain ⟨l2, _⟩ := List.getElem?_eq_some_iff.1 hb
      simp only [List.length_append, List.length_cons, List.length_nil] at l2
      rw [List.getElem?_append_left (by omega)] at ha
      by_cases hk : k + 1 < fs.length
      · rw [List.getElem?_append_left hk] at hb
        exact h1.calls k a b ha hb
      · have hk2 : k + 1 = fs.length := by omega
        rw [hk2, List.getElem?_append_right (Nat.le_refl _)] at hb
        obtain rfl : f = b := by simpa using hb
        exact h3 a (by rw [List.getLast?_eq_getElem?, show fs.length - 1 = k by omega]; exact ha)
theorem FOk.swap {P : List Fn} {fs : List Fr} {f f' : Fr} (h : FOk P (fs ++ [f])) (he : f'.fn = f.fn) (hp : placeB P f' = true) : FOk P (fs ++ [f']) := by
  obtain ⟨h1, _, h3⟩ := (fok_snoc _ _ _).1 h
  exact (fok_snoc _ _ _).2 ⟨h1, hp, fun g hg => by rw [he]; exact h3 g hg⟩
theorem FOk.push {P : List Fn} {fs : List Fr} {f g : Fr} (h : FOk P (fs ++ [f])) (h1 : (insOfFr P f).op = 17) (h2 : (insOfFr P f).imm = g.fn) (hp : placeB P g = true) : FOk P (fs ++ [f, g]) := by
  have e : fs ++ [f, g] = (fs ++ [f]) ++ [g] := by simp
  rw [e]
  refine (fok_snoc _ _ _).2 ⟨h, hp, fun a ha => ?_⟩
  have : a = f := by simpa using ha.symm
  subst this
  exact ⟨h1, h2⟩
theorem place_nat {P : List Fn} {f : Fr} (h : placeB P f = true) : ∃ (k j : Nat) (hk : k < P.length) (hj : j < P[k].code.length), f.fn = k ∧ f.pc = j ∧ fnD P f.fn = P[k] ∧ insOfFr P f = P[k].code[j] := by
  unfold placeB at h
  simp only [decide_eq_true_eq] at h
  obtain ⟨p0, p1, p2, p3⟩ := h
  obtain ⟨k, hk⟩ := Int.eq_ofNat_of_zero_le p0
  obtain ⟨j, hj⟩ := Int.eq_ofNat_of_zero_le p2
  have hkl : k < P.length := by omega
  have e : P.getD f.fn.toNat ⟨0, 0, []⟩ = P[k] := by rw [hk]; simp [List.getD, hkl]
  rw [e] at p3
  have hjl : j < P[k].code.length := by omega
  refine ⟨k, j, hkl, hjl, hk, hj, e, ?_⟩
  unfold insOfFr fnD
  rw [e, hj]
  exact insD_eq hjl
theorem place_of {P : List Fn} {k j : Nat} (hk : k < P.length) (hj : j < P[k].code.length) (l : List Int) : placeB P ⟨k, j, l⟩ = true := by
  unfold placeB
  simp only [decide_eq_true_eq]
  have e : P.getD (k : Int).toNat ⟨0, 0, []⟩ = P[k] := by simp [List.getD, hk]
  rw [e]
  omega
theorem place_ins {P : List Fn} (hc : codeProg P = 0) {f : Fr} (h : placeB P f = true) : InsOk P (insOfFr P f) := by
  obtain ⟨k, j, hk, hj, _, _, _, e⟩ := place_nat h
  rw [e]
  exact insOk_of hc (List.getElem_mem hk) (List.getElem_mem hj)
def ReachFr (P : List Fn) (f : Fr) : Prop := Way (fnD P f.fn) 63 f.pc.toNat
structure RunInv (P : List Fn) (S : St) : Prop where
  may : mayB S = true
  fok : FOk P S.frames
  reach : ∀ f ∈ S.frames, ReachFr P f
  wf : FrsWf S.frames
  mem : S.mem.length = 16
theorem mayB_iff (s : St) : mayB s = true ↔ (0 ≤ s.status ∧ s.status ≤ 5 ∧ 0 ≤ s.fuel ∧ s.fuel ≤ 10000 ∧ s.frames.length ≤ 8 ∧ s.answers.length ≤ 100 ∧ (s.status = 1 ↔ s.frames.length = 0) ∧ (s.status = 1 ∨ s.value = 0)) := by
  unfold mayB; simp only [decide_eq_true_eq]
theorem behind_next (x : Ins) (pc : Nat) (h1 : x.op ≠ 15) (h2 : x.op ≠ 19) : pc + 1 ∈ behind x pc := by
  unfold behind
  rw [if_neg h1]
  split
  · simp
  · simp
theorem FrsWf.init {fs gs : List Fr} (h : FrsWf (fs ++ gs)) : FrsWf fs := fun f hf => h f (List.mem_append_left _ hf)
theorem FrsWf.snoc {fs : List Fr} {f : Fr} (h : FrsWf fs) (hf : f.regs.length = 12) : FrsWf (fs ++ [f]) := fun g hg => by
  rcases List.mem_append.1 hg with hg | hg
  · exact h g hg
  · rw [List.mem_singleton.1 hg]; exact hf
theorem RunInv.on {P : List Fn} {S : St} {fs : List Fr} {f f' : Fr} (h : RunInv P S) (hS : S.frames = fs ++ [f]) (he : f'.fn = f.fn) (hp : placeB P f' = true) (hr : ReachFr P f') (hl : f'.regs.length = 12)
    {S' : St} (e1 : S'.frames = fs ++ [f']) (e2 : S'.status = S.status) (e3 : S'.value = S.value) (e4 : 0 ≤ S'.fuel ∧ S'.fuel ≤ 10000) (e5 : S'.answers.length ≤ S.answers.length) (e6 : S'.mem.length = 16) : RunInv P S' := by
  have hm := (mayB_iff S).1 h.may
  have hf := h.fok
  have hw := h.wf
  have hr0 := h.reach
  rw [hS] at hf hw hr0 hm
  refine ⟨(mayB_iff S').2 ?_, ?_, ?_, ?_, e6⟩
  · rw [e1, e2, e3]
    simp only [List.length_append, List.length_cons, List.length_nil] at hm ⊢
    omega
  · rw [e1]; exact hf.swap he hp
  · rw [e1]
    intro g hg
    rcases List.mem_append.1 hg with hg | hg
    · exact hr0 g (List.mem_append_left _ hg)
    · rw [List.mem_singleton.1 hg]; exact hr
  · rw [e1]; exact hw.init.snoc hl
theorem putF_len (f : Fr) (r v : Int) : (putF f r v).regs.length = f.regs.length := by simp [putF]
end Go.Proofs.YtldbmdgpdolaaaaDoor
namespace Go.Proofs.YtldbmdgpdolaaaaDoor
open Go Go.RowKit

theorem sureSpec_reach {f : Fn} {L : List Int} (h : SureSpec f L) {q : Nat} (hq : q < f.code.length + 1) : 0 ≤ L.getD q 0 ↔ Way f 63 q := by
  rcases h.2 q hq with ⟨hn, e⟩ | ⟨hw, m, _, e, _⟩
  · rw [e]; exact ⟨fun h => by omega, fun h => absurd h hn⟩
  · rw [e]; exact ⟨fun _ => hw, fun _ => by omega⟩
theorem reach_sure {P : List Fn} {k : Nat} (h : fnErr P k = 0) (hk : k < P.length) {A : List Int} (hA : SureAns P k A) :
    A.length = P[k].code.length ∧ ∀ q, q < P[k].code.length → (0 ≤ A.getD q 0 ↔ Way P[k] 63 q) := by
  have e : fnAt P (k : Int) = P[k] := by simp [fnAt, List.getD, hk]
  rcases hA with ⟨h1, _⟩ | ⟨_, L, hL, rfl⟩
  · exact absurd h h1
  · rw [e] at hL ⊢
    refine ⟨by rw [List.length_take, hL.1]; omega, fun q hq => ?_⟩
    rw [show (L.take P[k].code.length).getD q 0 = L.getD q 0 by simp [List.getD, hq]]
    exact sureSpec_reach hL (by omega)
theorem fnErr_ok {P : List Fn} (h : codeProg P = 0) {k : Nat} (hk : k < P.length) : fnErr P k = 0 := by unfold fnErr; rw [if_pos h, if_pos (by omega)]
def CallsAt (f : Fn) (pc : Nat) (t : Int) : Prop := pc < f.code.length ∧ Way f 63 pc ∧ (insD f pc).op = 17 ∧ (insD f pc).imm = t
inductive Called (P : List Fn) : Nat → Prop
  | zero : Called P 0
  | call {fn pc t : Nat} (h : Called P fn) (hk : fn < P.length) (hc : CallsAt P[fn] pc (t : Int)) : Called P t
def CSound (P : List Fn) (c : List Bool) : Prop := ∀ q, q < P.length → c.getD q false = true → Called P q
structure CMid (P : List Fn) (c0 : List Bool) (fn pc : Nat) (again : Bool) (c : List Bool) : Prop where
  len : c.length = c0.length
  sound : CSound P c0 → CSound P c
  keeps : ∀ q, c0.getD q false = true → c.getD q false = true
  less : again = true → unseen c < unseen c0
  same : again = false → c = c0 ∧ ∀ k (h : k < P.length) q (t : Nat), (k < fn ∨ (k = fn ∧ q < pc)) → c0.getD k false = true → CallsAt P[k] q (t : Int) → c0.getD t false = true
theorem CMid.start (P : List Fn) (c0 : List Bool) : CMid P c0 0 0 false c0 :=
  ⟨rfl, id, fun _ h => h, fun h => (by cases h), fun _ => ⟨rfl, fun k h q t hk => by omega⟩⟩
theorem CMid.next {P : List Fn} {c0 c : List Bool} {fn pc : Nat} {again : Bool} (h : CMid P c0 fn pc again c) (hf : fn < P.length) (hp : P[fn].code.length ≤ pc ∨ c.getD fn false = false) : CMid P c0 (fn + 1) 0 again c :=
  ⟨h.len, h.sound, h.keeps, h.less, fun ha => by
    obtain ⟨h1, h2⟩ := h.same ha
    refine ⟨h1, fun k hk q t hlt hc ht => ?_⟩
    rcases Nat.lt_or_ge k fn with hl | hl
    · exact h2 k hk q t (Or.inl hl) hc ht
    · obtain rfl : k = fn := by omega
      rcases hp with hp | hp
      · exact h2 k hk q t (Or.inr ⟨rfl, by have := ht.1; omega⟩) hc ht
      · subst h1; rw [hp] at hc; cases hc⟩
theorem CMid.skip {P : List Fn} {c0 c : List Bool} {fn pc : Nat} {again : Bool} (h : CMid P c0 fn pc again c) (hf : fn < P.length) (hn : ∀ t : Nat, CallsAt P[fn] pc (t : Int) → c.getD t false = true) : CMid P c0 fn (pc + 1) again c :=
  ⟨h.len, h.sound, h.keeps, h.less, fun ha => by
    obtain ⟨h1, h2⟩ := h.same ha
    refine ⟨h1, fun k hk q t hlt hc ht => ?_⟩
    by_cases hq : k < fn ∨ (k = fn ∧ q < pc)
    · exact h2 k hk q t hq hc ht
    · obtain rfl : k = fn := by omega
      obtain rfl : q = pc := by omega
      rw [← h1]; exact hn t ht⟩
theorem CMid.new {P : List Fn} {c0 c : List Bool} {fn pc t : Nat} {again : Bool} (h : CMid P c0 fn pc again c) (hf : fn < P.length) (hc : c.getD fn false = true) (ht : CallsAt P[fn] pc (t : Int)) (htl : t < c.length) (hu : c.getD t false = false) : CMid P c0 fn (pc + 1) true (c.set t true) := by
  have hun := unseen_set c t htl hu
  have hg : ∀ q, (c.set t true).getD q false = if q = t then true else c.getD q false := fun q => bget_set c t q true htl
  refine ⟨by simp [h.len], fun hs q hq hcq => ?_, fun q hq => ?_, fun _ => ?_, fun ha => by cases ha⟩
  · rw [hg q] at hcq
    by_cases e : q = t
    · rw [e]; exact Called.call (h.sound hs fn hf hc) hf ht
    · rw [if_neg e] at hcq; exact h.sound hs q hq hcq
  · rw [hg q]; split
    · rfl
    · exact h.keeps q hq
  · cases again
    · rw [(h.same rfl).1] at hun; rw [(h.same rfl).1]; omega
    · have := h.less rfl; omega
end Go.Proofs.YtldbmdgpdolaaaaDoor
namespace Go.Proofs.YtldbmdgpdolaaaaDoor
open Go Go.RowKit

theorem made_ints0 (c : Nat) : (madeCells (Value.int .i64 0).cells (c * 1)).toList = i64s (List.replicate c 0) := by
  simp [madeCells, i64s, Value.cells]
  apply List.ext_getElem
  · simp
  · intro i h1 h2
    have : i % 1 = 0 := Nat.mod_one i
    simp [this]
theorem wrap_signed (n : Int) (h0 : -9223372036854775808 ≤ n) (h1 : n ≤ 9223372036854775807) : IntKind.i64.wrap n = n := by
  by_cases h : 0 ≤ n
  · have e : n % 2 ^ 64 = n := Int.emod_eq_of_lt h (by simp; omega)
    have w1 : IntKind.i64.wrap n = if (true && decide (n ≥ 2 ^ 63)) = true then n - (2 ^ 64 : Int) else n := by
      simp only [IntKind.wrap, IntKind.bits, IntKind.signed, e]
    rw [w1, if_neg (by simp; omega)]
  · have e : n % 2 ^ 64 = n + 2 ^ 64 := by
      rw [← Int.add_emod_right]
      exact Int.emod_eq_of_lt (by simp; omega) (by simp; omega)
    have w1 : IntKind.i64.wrap n = if (true && decide (n + 2 ^ 64 ≥ 2 ^ 63)) = true then n + 2 ^ 64 - (2 ^ 64 : Int) else n + 2 ^ 64 := by
      simp only [IntKind.wrap, IntKind.bits, IntKind.signed, e]
    rw [w1, if_pos (by simp; omega)]
    omega
def upd {α : Type} (g : Nat → α) (i : Nat) (v : α) : Nat → α := fun j => if j = i then v else g j
theorem upd_same {α : Type} (g : Nat → α) (i : Nat) (v : α) : upd g i v i = v := if_pos rfl
theorem upd_other {α : Type} (g : Nat → α) {i j : Nat} (h : j ≠ i) (v : α) : upd g i v j = g j := if_neg h
abbrev OwnI (w : World) (base : Nat) (v : Value) (l : List Int) : Prop := w.ownsRow base 3 1 v l.length (i64s l)
structure Slots (w : World) (base m : Nat) (VV : Nat → Value) (LL : Nat → List Int) : Prop where
  own : ∀ s, s < m → OwnI w base (VV s) (LL s)
  apart : ∀ s t, s < m → t < m → s ≠ t → ∀ g, (VV s).ownBlock = some g → (VV t).ownBlock ≠ some g
theorem Slots.nils (w : World) (base m : Nat) : Slots w base m (fun _ => .slice none 0 0) (fun _ => []) :=
  ⟨fun _ _ => ⟨rfl, Or.inl ⟨rfl, rfl⟩⟩, fun _ _ _ _ _ g h => by cases h⟩
theorem Slots.kept {w w' : World} {base m : Nat} {VV : Nat → Value} {LL : Nat → List Int} (h : Slots w base m VV LL) {row : Option Nat} (hg : w.grownBy w' row) (hr : ∀ g, row = some g → g < base) : Slots w' base m VV LL :=
  ⟨fun s hs => (h.own s hs).kept hg (by
    cases hv : (VV s).ownBlock with
    | none => exact Or.inl rfl
    | some g =>
      refine Or.inr fun e => ?_
      have := ((h.own s hs).lt g hv).1
      have := hr g e.symm
      omega), h.apart⟩
theorem Slots.below {w w' : World} {base m : Nat} {VV : Nat → Value} {LL : Nat → List Int} (h : Slots w base m VV LL) (hb : Below w.heap.size w w') : Slots w' base m VV LL := h.kept (gb_below none hb) (fun g e => by cases e)
theorem Slots.upd {w w' : World} {base m : Nat} {VV : Nat → Value} {LL : Nat → List Int} (h : Slots w base m VV LL) {s : Nat} (hs : s < m) (hg : w.grownBy w' (VV s).ownBlock) {v : Value} {l : List Int} (hown : OwnI w' base v l)
    (hloc : v.ownBlock = (VV s).ownBlock ∨ ∃ g, v.ownBlock = some g ∧ w.heap.size ≤ g) : Slots w' base m (Go.Proofs.YtldbmdgpdolaaaaDoor.upd VV s v) (Go.Proofs.YtldbmdgpdolaaaaDoor.upd LL s l) := by
  have hot : ∀ t, t < m → t ≠ s → ∀ g, (VV t).ownBlock = some g → v.ownBlock ≠ some g := by
    intro t ht hne g hv e
    rcases hloc with h1 | ⟨g', h1, h2⟩
    · exact h.apart t s ht hs hne g hv (by rw [← h1]; exact e)
    · have := ((h.own t ht).lt g hv).2
      rw [h1] at e
      have := Option.some.inj e
      omega
  refine ⟨fun t ht => ?_, fun t u ht hu hne g hv => ?_⟩
  · by_cases he : t = s
    · subst he; rw [upd_same, upd_same]; exact hown
    · rw [upd_other VV he, upd_other LL he]
      exact (h.own t ht).kept hg (by
        cases hv : (VV t).ownBlock with
        | none => exact Or.inl rfl
        | some g => exact Or.inr fun e => h.apart t s ht hs he g hv e.symm)
  · by_cases he : t = s
    · subst he
      rw [upd_same] at hv
      rw [upd_other VV (Ne.symm hne)]
      exact fun e => hot u hu (Ne.symm hne) g e hv
    · rw [upd_other VV he] at hv
      by_cases he2 : u = s
      · subst he2; rw [upd_same]; exact hot t ht he g hv
      · rw [upd_other VV he2]; exact h.apart t u ht hu hne g hv
theorem own_newF {w : World} {base : Nat} (h : base ≤ w.heap.size) (l : List Int) (hl : l.length ≤ 1000) : OwnI (w.alloc (.cells (i64s l).toArray 3)) base (.slice (some ⟨w.heap.size, 0, none⟩) l.length l.length) l :=
  ⟨by simp [i64s], Or.inr ⟨w.heap.size, l.length, (i64s l).toArray, rfl, h, heap_alloc_last w _, Nat.le_refl _, by unfold maxLen; omega, by simp [i64s], List.take_of_length_le (by simp [i64s])⟩⟩
theorem own_snoc {w : World} {base n : Nat} {v : Value} {l : List Int} {z : Int} (hl : l.length = n) (h : w.ownsRow base 3 1 v (n + 1) (i64s l ++ i64s [z])) : OwnI w base v (l ++ [z]) := by
  rw [← i64s_append] at h
  have e : (l ++ [z]).length = n + 1 := by simp [hl]
  show World.ownsRow _ _ _ _ _ (l ++ [z]).length _
  rw [e]
  exact h
theorem lies_loc {v : Value} {g c n H : Nat} (h : v.ownBlock = some g ∨ g = H) : (Value.slice (some ⟨g, 0, none⟩) n c).ownBlock = v.ownBlock ∨ ∃ q, (Value.slice (some ⟨g, 0, none⟩) n c).ownBlock = some q ∧ H ≤ q := by
  rcases h with h | h
  · exact Or.inl h.symm
  · exact Or.inr ⟨g, rfl, by omega⟩
end Go.Proofs.YtldbmdgpdolaaaaDoor
