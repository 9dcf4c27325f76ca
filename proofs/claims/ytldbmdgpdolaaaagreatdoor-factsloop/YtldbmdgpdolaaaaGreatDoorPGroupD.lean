import Derived.Deep.Cut
import Derived.Deep.RegionHeld3
import Derived.Test.YtldbmdgpdolaaaaGreatDoorPXSsaRow
import Derived.Test.YtldbmdgpdolaaaaGreatDoorPGroupB
import Derived.Test.YtldbmdgpdolaaaaGreatDoorPGroupC
import Derived.Deep.AppendLies
import Derived.Laws.OwnMore
import Derived.WalkSmall
namespace Go.Proofs.YtldbmdgpdolaaaaGreatDoor
open Go Go.RowKit

theorem wrap_fits (n : Int) (h0 : 0 ≤ n) (h1 : n ≤ 9223372036854775807) : IntKind.i64.wrap n = n := by
  have e : n % 2 ^ 64 = n := Int.emod_eq_of_lt h0 (by simp; omega)
  have w1 : IntKind.i64.wrap n = if (true && decide (n ≥ 2 ^ 63)) = true then n - (2 ^ 64 : Int) else n := by
    simp only [IntKind.wrap, IntKind.bits, IntKind.signed, e]
  rw [w1, if_neg (by simp; omega)]
end Go.Proofs.YtldbmdgpdolaaaaGreatDoor
namespace Go.Proofs.YtldbmdgpdolaaaaGreatDoor
open Go Go.RowKit

def fnD (P : List Fn) (k : Int) : Fn := P.getD k.toNat ⟨0, 0, []⟩
def insOfFr (P : List Fn) (f : Fr) : Ins := insD (fnD P f.fn) f.pc.toNat
def regD (f : Fr) (r : Int) : Int := f.regs.getD r.toNat 0
def putF (f : Fr) (r v : Int) : Fr := ⟨f.fn, f.pc + 1, f.regs.set r.toNat v⟩
end Go.Proofs.YtldbmdgpdolaaaaGreatDoor
namespace Go.Proofs.YtldbmdgpdolaaaaGreatDoor
open Go Go.RowKit

structure FOk (P : List Fn) (fs : List Fr) : Prop where
  place : ∀ f ∈ fs, placeB P f = true
  calls : ∀ (k : Nat) (f h : Fr), fs[k]? = some f → fs[k + 1]? = some h → (insOfFr P f).op = 17 ∧ (insOfFr P f).imm = h.fn
theorem fok_snoc (P : List Fn) (fs : List Fr) (f : Fr) : FOk P (fs ++ [f]) ↔ FOk P fs ∧ placeB P f = true ∧ ∀ g, fs.getLast? = some g → (insOfFr P g).op = 17 ∧ (insOfFr P g).imm = f.fn := by
  constructor
  · intro h
    refine ⟨⟨fun g hg => h.place g (List.mem_append_left _ hg), fun k a b ha hb => ?_⟩, h.place f (by simp), fun g hg => ?_⟩
    · obtain ⟨l1, _⟩ := List.getElem?_eq_some_iff.1 ha
      obtain ⟨l2, _⟩ := List.getElem?_eq_some_iff.1 hb
      exact h.calls k a b (by rw [List.getElem?_append_left l1]; exact ha) (by rw [List.getElem?_append_left l2]; exact hb)
    · rw [List.getLast?_eq_getElem?] at hg
      obtain ⟨l1, _⟩ := List.getElem?_eq_some_iff.1 hg
      refine h.calls (fs.length - 1) g f (by rw [List.getElem?_append_left l1]; exact hg) ?_
      rw [show fs.length - 1 + 1 = fs.length by omega, List.getElem?_append_right (Nat.le_refl _)]
      simp
  · rintro ⟨h1, h2, h3⟩
    refine ⟨fun g hg => ?_, fun k a b ha hb => ?_⟩
    · rcases List.mem_append.1 hg with hg | hg
      · exact h1.place g hg
      · rw [List.mem_singleton.1 hg]; exact h2
    · obtain ⟨l2, _⟩ := List.getElem?_eq_some_iff.1 hb
      simp only [List.length_append, List.length_cons, List.length_nil] at l2
      rw [List.getElem?_append_left (by omega)] at ha
      by_cases hk : k + 1 < fs.length
      · rw [List.getElem?_append_left hk] at hb
        exact h1.calls k a b ha hb
      · have hk2 : k + 1 = fs.length := by omega
        rw [hk2, List.getElem?_append_right (Nat.le_refl _)] at hb
        obtain rfl : f = b := by simpa using hb
        exact h3 a (by rw [List.getLast?_eq_getElem?, show fs.length - 1 = k by omega]; exact ha)
theorem FOk.swap {P : List Fn} {fs : List Fr} {f f' : Fr} (h : FOk P (fs ++ [f])) (he : f'.fn = f.fn) (hp : placeB P f' = true) : FOk P (fs ++ [f']) := by
  obtain ⟨h1, _, h3⟩ := (fok_snoc _ _ _).1 h
  exact (fok_snoc _ _ _).2 ⟨h1, hp, fun g hg => by rw [he]; exact h3 g hg⟩
theorem FOk.push {P : List Fn} {fs : List Fr} {f g : Fr} (h : FOk P (fs ++ [f])) (h1 : (insOfFr P f).op = 17) (h2 : (insOfFr P f).imm = g.fn) (hp : placeB P g = true) : FOk P (fs ++ [f, g]) := by
  have e : fs ++ [f, g] = (fs ++ [f]) ++ [g] := by simp
  rw [e]
  refine (fok_snoc _ _ _).2 ⟨h, hp, fun a ha => ?_⟩
  have : a = f := by simpa using ha.symm
  subst this
  exact ⟨h1, h2⟩
theorem place_nat {P : List Fn} {f : Fr} (h : placeB P f = true) : ∃ (k j : Nat) (hk : k < P.length) (hj : j < P[k].code.length), f.fn = k ∧ f.pc = j ∧ fnD P f.fn = P[k] ∧ insOfFr P f = P[k].code[j] := by
  unfold placeB at h
  simp only [decide_eq_true_eq] at h
  obtain ⟨p0, p1, p2, p3⟩ := h
  obtain ⟨k, hk⟩ := Int.eq_ofNat_of_zero_le p0
  obtain ⟨j, hj⟩ := Int.eq_ofNat_of_zero_le p2
  have hkl : k < P.length := by omega
  have e : P.getD f.fn.toNat ⟨0, 0, []⟩ = P[k] := by rw [hk]; simp [List.getD, hkl]
  rw [e] at p3
  have hjl : j < P[k].code.length := by omega
  refine ⟨k, j, hkl, hjl, hk, hj, e, ?_⟩
  unfold insOfFr fnD
  rw [e, hj]
  exact insD_eq hjl
theorem place_of {P : List Fn} {k j : Nat} (hk : k < P.length) (hj : j < P[k].code.length) (l : List Int) : placeB P ⟨k, j, l⟩ = true := by
  unfold placeB
  simp only [decide_eq_true_eq]
  have e : P.getD (k : Int).toNat ⟨0, 0, []⟩ = P[k] := by simp [List.getD, hk]
  rw [e]
  omega
theorem place_ins {P : List Fn} (hc : codeProg P = 0) {f : Fr} (h : placeB P f = true) : InsOk P (insOfFr P f) := by
  obtain ⟨k, j, hk, hj, _, _, _, e⟩ := place_nat h
  rw [e]
  exact insOk_of hc (List.getElem_mem hk) (List.getElem_mem hj)
def ReachFr (P : List Fn) (f : Fr) : Prop := Way (fnD P f.fn) 63 f.pc.toNat
structure RunInv (P : List Fn) (S : St) : Prop where
  may : mayB S = true
  fok : FOk P S.frames
  reach : ∀ f ∈ S.frames, ReachFr P f
  wf : FrsWf S.frames
  mem : S.mem.length = 16
theorem mayB_iff (s : St) : mayB s = true ↔ (0 ≤ s.status ∧ s.status ≤ 5 ∧ 0 ≤ s.fuel ∧ s.fuel ≤ 10000 ∧ s.frames.length ≤ 8 ∧ s.answers.length ≤ 100 ∧ (s.status = 1 ↔ s.frames.length = 0) ∧ (s.status = 1 ∨ s.value = 0)) := by
  unfold mayB; simp only [decide_eq_true_eq]
theorem behind_next (x : Ins) (pc : Nat) (h1 : x.op ≠ 15) (h2 : x.op ≠ 19) : pc + 1 ∈ behind x pc := by
  unfold behind
  rw [if_neg h1]
  split
  · simp
  · simp
theorem FrsWf.init {fs gs : List Fr} (h : FrsWf (fs ++ gs)) : FrsWf fs := fun f hf => h f (List.mem_append_left _ hf)
theorem FrsWf.snoc {fs : List Fr} {f : Fr} (h : FrsWf fs) (hf : f.regs.length = 12) : FrsWf (fs ++ [f]) := fun g hg => by
  rcases List.mem_append.1 hg with hg | hg
  · exact h g hg
  · rw [List.mem_singleton.1 hg]; exact hf
theorem RunInv.on {P : List Fn} {S : St} {fs : List Fr} {f f' : Fr} (h : RunInv P S) (hS : S.frames = fs ++ [f]) (he : f'.fn = f.fn) (hp : placeB P f' = true) (hr : ReachFr P f') (hl : f'.regs.length = 12)
    {S' : St} (e1 : S'.frames = fs ++ [f']) (e2 : S'.status = S.status) (e3 : S'.value = S.value) (e4 : 0 ≤ S'.fuel ∧ S'.fuel ≤ 10000) (e5 : S'.answers.length ≤ S.answers.length) (e6 : S'.mem.length = 16) : RunInv P S' := by
  have hm := (mayB_iff S).1 h.may
  have hf := h.fok
  have hw := h.wf
  have hr0 := h.reach
  rw [hS] at hf hw hr0 hm
  refine ⟨(mayB_iff S').2 ?_, ?_, ?_, ?_, e6⟩
  · rw [e1, e2, e3]
    simp only [List.length_append, List.length_cons, List.length_nil] at hm ⊢
    omega
  · rw [e1]; exact hf.swap he hp
  · rw [e1]
    intro g hg
    rcases List.mem_append.1 hg with hg | hg
    · exact hr0 g (List.mem_append_left _ hg)
    · rw [List.mem_singleton.1 hg]; exact hr
  · rw [e1]; exact hw.init.snoc hl
theorem putF_len (f : Fr) (r v : Int) : (putF f r v).regs.length = f.regs.length := by simp [putF]
end Go.Proofs.YtldbmdgpdolaaaaGreatDoor
namespace Go.Proofs.YtldbmdgpdolaaaaGreatDoor
open Go Go.RowKit

def engCells (S : St) (fv ev av pv : Value) : List Value := [.int .i64 S.status, .int .i64 S.value, fv] ++ (i64s S.mem ++ [.int .i64 S.fuel, ev, av, pv])
theorem engCells_tail {S : St} (fv ev av pv : Value) (h : S.mem.length = 16) (i : Nat) : (engCells S fv ev av pv)[19 + i]? = [Value.int .i64 S.fuel, ev, av, pv][i]? := by
  unfold engCells
  rw [List.getElem?_append_right (by simp; omega), List.getElem?_append_right (by simp [i64s, h]; omega)]
  congr 1
  simp [i64s, h]; omega
theorem row_setCell {w : World} {g t i : Nat} {cur : Array Value} (v : Value) (h : w.heap[g]? = some (.cells cur t (0, 0))) : (w.setCell ⟨g, i, none⟩ v).heap[g]? = some (.cells (cur.setIfInBounds i v) t (0, 0)) := by
  have hl := lt_of_block h
  have e : w.heap[g] = .cells cur t (0, 0) := by
    have := Array.getElem?_eq_getElem hl
    rw [h] at this
    exact (Option.some.inj this).symm
  rw [Array.getElem?_eq_getElem (by simp [World.setCell]; exact hl)]
  simp [World.setCell, Array.getElem_modify, e]
theorem row_free {w : World} {g t : Nat} {cur : Array Value} (h : w.heap[g]? = some (.cells cur t (0, 0))) (i : Nat) : w.frozen? ⟨g, i, none⟩ = false := by
  simp [World.frozen?, h]
structure EngAt (w : World) (base g : Nat) (P : List Fn) (pv : Value) (S : St) (fv ev av : Value) : Prop where
  cells : w.heap[g]? = some (.cells (engCells S fv ev av pv).toArray 135 (0, 0))
  low : base ≤ g
  mem : S.mem.length = 16
  wf : FrsWf S.frames
  frames : w.ownsRow base 42 14 fv S.frames.length (framesCells S.frames)
  events : w.ownsRow base 3 1 ev S.events.length (i64s S.events)
  answers : IntsVal w av S.answers
  apart : ∀ a n cp, av = .slice (some a) n cp → 0 < n → a.block ≠ g ∧ some a.block ≠ ev.ownBlock ∧ some a.block ≠ fv.ownBlock
  alow : ∀ a n cp, av = .slice (some a) n cp → 0 < n → base ≤ a.block
  prog : ∀ W, Below base w W → ProgVal W pv P
theorem block_ne_own {w : World} {base t size n g tt : Nat} {v : Value} {xs : List Value} {cur : Array Value} (h : w.ownsRow base t size v n xs) (hg : w.heap[g]? = some (.cells cur tt (0, 0))) (ht : t ≠ tt) : v.ownBlock ≠ some g := by
  intro e
  rcases h.2 with ⟨rfl, _⟩ | ⟨g', cap, cur', rfl, _, hh, _⟩
  · simp [Value.ownBlock] at e
  · obtain rfl : g' = g := by simpa [Value.ownBlock] using e
    rw [hg] at hh
    simp at hh
    exact ht hh.2.symm
theorem cell_setCell_other {w : World} {g i : Nat} {u v : Value} {p : Addr} (h : w.cell? p = some v) (hne : p.block ≠ g) : (w.setCell ⟨g, i, none⟩ u).cell? p = some v :=
  (World.cell?_of_block (Below.heap_setCell _ _ _ _ (by simpa using hne))).trans h
end Go.Proofs.YtldbmdgpdolaaaaGreatDoor
namespace Go.Proofs.YtldbmdgpdolaaaaGreatDoor
open Go Go.RowKit

theorem ints_setCell {w : World} {v : Value} {l : List Int} (h : IntsVal w v l) {g i : Nat} (u : Value) (hne : ∀ a n cp, v = .slice (some a) n cp → 0 < n → a.block ≠ g) : IntsVal (w.setCell ⟨g, i, none⟩ u) v l := by
  obtain ⟨ao, b, off, n, cap, rfl, hl, ha, hc, hcp, hm⟩ := h
  refine ⟨ao, b, off, n, cap, rfl, hl, ha, fun k hk => ?_, hcp, hm⟩
  have e := ha (by omega)
  exact cell_setCell_other (hc k hk) (by have := hne _ _ _ (by rw [e]) (by omega); simpa using this)
theorem EngAt.below {w w' : World} {base g : Nat} {P : List Fn} {pv fv ev av : Value} {S : St} (h : EngAt w base g P pv S fv ev av) (hb : Below w.heap.size w w') : EngAt w' base g P pv S fv ev av := by
  have hz := lt_of_block h.cells
  have hlow := h.low
  exact ⟨(hb.block _ hz).trans h.cells, h.low, h.mem, h.wf, ownsRow_below h.frames hb, ownsRow_below h.events hb, h.answers.keeps (keeps_below hb), h.apart, h.alow, fun W hW => h.prog W ((hb.mono (by omega)).trans hW)⟩
theorem EngAt.base {w : World} {base g : Nat} {P : List Fn} {pv fv ev av : Value} {S : St} (h : EngAt w base g P pv S fv ev av) : base ≤ w.heap.size := by
  have hz := lt_of_block h.cells
  have hlow := h.low
  omega
theorem EngAt.put {w : World} {base g : Nat} {P : List Fn} {pv fv ev av : Value} {S : St} (h : EngAt w base g P pv S fv ev av) (i : Nat) (u : Value) (S' : St) (hc : (engCells S fv ev av pv).set i u = engCells S' fv ev av pv) (hm : S'.mem.length = 16)
    (e1 : S'.frames = S.frames) (e2 : S'.events = S.events) (e3 : S'.answers = S.answers) : EngAt (w.setCell ⟨g, i, none⟩ u) base g P pv S' fv ev av ∧ Below base w (w.setCell ⟨g, i, none⟩ u) := by
  have hne : ev.ownBlock ≠ some g := block_ne_own h.events h.cells (by decide)
  have hnf : fv.ownBlock ≠ some g := block_ne_own h.frames h.cells (by decide)
  have hbl : Below base w (w.setCell ⟨g, i, none⟩ u) := (Below.refl _ _).setCell (by simpa using h.low) _
  refine ⟨⟨?_, h.low, hm, by rw [e1]; exact h.wf, ?_, ?_, ?_, h.apart, h.alow, fun W hW => h.prog W (hbl.trans hW)⟩, hbl⟩
  · rw [row_setCell _ h.cells, List.setIfInBounds_toArray, hc]
  · rw [e1]; exact ownsRow_setCell_other h.frames hnf _
  · rw [e2]; exact ownsRow_setCell_other h.events hne _
  · rw [e3]; exact ints_setCell h.answers _ (fun a n cp e hn => (h.apart a n cp e hn).1)
theorem engCells_memGet {S : St} (fv ev av pv : Value) (k : Nat) (hk : k < S.mem.length) : (engCells S fv ev av pv)[3 + k]? = some (.int .i64 (S.mem.getD k 0)) := by
  unfold engCells
  rw [List.getElem?_append_right (by simp), List.getElem?_append_left (by simp [i64s]; exact hk)]
  simp [i64s, hk, List.getD]
theorem EngAt.frame {w : World} {base g fb n cap : Nat} {P : List Fn} {pv ev av : Value} {S : St} (h : EngAt w base g P pv S (.slice (some ⟨fb, 0, none⟩) n cap) ev av) (j : Nat) (u : Value) (fs' : List Fr) (hl : fs'.length = S.frames.length) (hw : FrsWf fs') (hc : (framesCells S.frames).set j u = framesCells fs') :
    EngAt (w.setCell ⟨fb, j, none⟩ u) base g P pv { S with frames := fs' } (.slice (some ⟨fb, 0, none⟩) n cap) ev av ∧ Below base w (w.setCell ⟨fb, j, none⟩ u) := by
  have hnf : (Value.slice (some ⟨fb, 0, none⟩) n cap).ownBlock ≠ some g := block_ne_own h.frames h.cells (by decide)
  have hfg : fb ≠ g := by simpa [Value.ownBlock] using hnf
  have hap := own_apart h.frames h.events (by decide)
  have hef : ev.ownBlock ≠ some fb := by
    rcases hap with e | e
    · simp [Value.ownBlock] at e
    · intro e2; rw [e2] at e; simp [Value.ownBlock] at e
  have hlow := (h.frames.lt fb (by simp [Value.ownBlock])).1
  have hbl : Below base w (w.setCell ⟨fb, j, none⟩ u) := (Below.refl _ _).setCell (by simpa using hlow) _
  have hnn : n = S.frames.length := by
    rcases h.frames.2 with ⟨e, _⟩ | ⟨g', cap', cur, e, _⟩
    · cases e
    · cases e; rfl
  subst hnn
  refine ⟨⟨?_, h.low, h.mem, hw, ?_, ownsRow_setCell_other h.events hef _, ints_setCell h.answers _ (fun a n cp e hn => ?_), h.apart, h.alow, fun W hW => h.prog W (hbl.trans hW)⟩, hbl⟩
  · rw [heap_setCell_other _ _ _ _ (fun e => hfg e.symm)]; exact h.cells
  · have := (h.frames.stored j u).1
    rw [hc] at this
    show World.ownsRow _ _ _ _ _ fs'.length _
    rw [hl]; exact this
  · have := (h.apart a n cp e hn).2.2
    simpa [Value.ownBlock] using this
theorem framesCells_last (fs : List Fr) (f f' : Fr) (hw : FrsWf fs) (j : Nat) (u : Value) (hj : (frCells f).set j u = frCells f') : (framesCells (fs ++ [f])).set (fs.length * 14 + j) u = framesCells (fs ++ [f']) := by
  rw [framesCells_append, framesCells_append, List.set_append_right _ _ (by rw [framesCells_length fs hw]; omega), framesCells_length fs hw]
  congr 1
  rw [show fs.length * 14 + j - fs.length * 14 = j by omega]
  simp only [framesCells, List.flatMap_cons, List.flatMap_nil, List.append_nil]
  exact hj
theorem frCells_pc (f : Fr) (n : Int) : (frCells f).set 1 (.int .i64 n) = frCells ⟨f.fn, n, f.regs⟩ := rfl
theorem EngAt.goes {w : World} {base g fb n cap : Nat} {P : List Fn} {pv ev av : Value} {S : St} {fs : List Fr} {f : Fr} (h : EngAt w base g P pv S (.slice (some ⟨fb, 0, none⟩) n cap) ev av) (hS : S.frames = fs ++ [f]) (pc : Int) :
    EngAt (w.setCell ⟨fb, fs.length * 14 + 1, none⟩ (.int .i64 pc)) base g P pv { S with frames := fs ++ [⟨f.fn, pc, f.regs⟩] } (.slice (some ⟨fb, 0, none⟩) n cap) ev av ∧ Below base w (w.setCell ⟨fb, fs.length * 14 + 1, none⟩ (.int .i64 pc)) := by
  have hw := h.wf
  rw [hS] at hw
  refine h.frame _ _ _ (by rw [hS]; simp) (hw.init.snoc (hw f (by simp))) ?_
  rw [hS]
  exact framesCells_last fs f _ hw.init 1 _ (frCells_pc f pc)
theorem EngAt.pop {w : World} {base g fb n cap : Nat} {P : List Fn} {pv ev av : Value} {S : St} {fs : List Fr} {f : Fr} (h : EngAt w base g P pv S (.slice (some ⟨fb, 0, none⟩) n cap) ev av) (hS : S.frames = fs ++ [f]) :
    EngAt (w.setCell ⟨g, 2, none⟩ (.slice (some ⟨fb, 0, none⟩) fs.length cap)) base g P pv { S with frames := fs } (.slice (some ⟨fb, 0, none⟩) fs.length cap) ev av ∧ Below base w (w.setCell ⟨g, 2, none⟩ (.slice (some ⟨fb, 0, none⟩) fs.length cap)) := by
  have hw := h.wf
  rw [hS] at hw
  have hne : ev.ownBlock ≠ some g := block_ne_own h.events h.cells (by decide)
  have hnf : (Value.slice (some ⟨fb, 0, none⟩) n cap).ownBlock ≠ some g := block_ne_own h.frames h.cells (by decide)
  have hbl : Below base w (w.setCell ⟨g, 2, none⟩ (.slice (some ⟨fb, 0, none⟩) fs.length cap)) := (Below.refl _ _).setCell (by simpa using h.low) _
  have hfr := h.frames
  rw [hS, framesCells_append] at hfr
  simp only [List.length_append, List.length_cons, List.length_nil, Nat.zero_add] at hfr
  have hnn : n = fs.length + 1 := by
    rcases hfr.2 with ⟨e, _⟩ | ⟨g', cap', cur, e, _⟩
    · cases e
    · cases e; rfl
  subst hnn
  refine ⟨⟨?_, h.low, h.mem, hw.init, ?_, ownsRow_setCell_other h.events hne _, ints_setCell h.answers _ (fun a n cp e hn => (h.apart a n cp e hn).1), fun a n cp e hn => ?_, h.alow, fun W hW => h.prog W (hbl.trans hW)⟩, hbl⟩
  · rw [row_setCell _ h.cells, List.setIfInBounds_toArray]; rfl
  · refine ownsRow_setCell_other (ownsRow_pop (framesCells_length fs hw.init) hfr) ?_ _
    simpa [Value.ownBlock] using hnf
  · obtain ⟨a1, a2, a3⟩ := h.apart a n cp e hn
    exact ⟨a1, a2, by simpa [Value.ownBlock] using a3⟩
theorem EngAt.push {w w1 : World} {base g g1 cap1 : Nat} {P : List Fn} {pv fv ev av : Value} {S : St} {f : Fr} (h : EngAt w base g P pv S fv ev av) (hf : f.regs.length = 12)
    (hown : w1.ownsRow base 42 14 (.slice (some ⟨g1, 0, none⟩) (S.frames.length + 1) cap1) (S.frames.length + 1) (framesCells (S.frames ++ [f]))) (hg : w.grownBy w1 fv.ownBlock) (hat : fv.ownBlock = some g1 ∨ g1 = w.heap.size) :
    w1.heap[g]? = some (.cells (engCells S fv ev av pv).toArray 135 (0, 0)) ∧
    EngAt (w1.setCell ⟨g, 2, none⟩ (.slice (some ⟨g1, 0, none⟩) (S.frames.length + 1) cap1)) base g P pv { S with frames := S.frames ++ [f] } (.slice (some ⟨g1, 0, none⟩) (S.frames.length + 1) cap1) ev av ∧
    Below base w (w1.setCell ⟨g, 2, none⟩ (.slice (some ⟨g1, 0, none⟩) (S.frames.length + 1) cap1)) := by
  have hz := lt_of_block h.cells
  have hlow := h.low
  have hne : ev.ownBlock ≠ some g := block_ne_own h.events h.cells (by decide)
  have hnf : fv.ownBlock ≠ some g := block_ne_own h.frames h.cells (by decide)
  have h1 : w1.heap[g]? = some (.cells (engCells S fv ev av pv).toArray 135 (0, 0)) := (hg.block g hz (fun e => hnf e.symm)).trans h.cells
  have hg1 : g1 ≠ g := by
    rcases hat with e | e
    · intro e2; rw [e2] at e; exact hnf e
    · omega
  have hbl : Below base w (w1.setCell ⟨g, 2, none⟩ (.slice (some ⟨g1, 0, none⟩) (S.frames.length + 1) cap1)) :=
    ((Below.refl _ _).grown hg (by omega) (fun k hk => (h.frames.lt k hk).1)).setCell (by simpa using h.low) _
  refine ⟨h1, ⟨?_, h.low, h.mem, h.wf.snoc hf, ?_, ?_, ?_, fun a' n cp e hn => ?_, h.alow, fun W hW => h.prog W (hbl.trans hW)⟩, hbl⟩
  · rw [row_setCell _ h1, List.setIfInBounds_toArray]; rfl
  · have := ownsRow_setCell_other hown (a := ⟨g, 2, none⟩) (by simpa [Value.ownBlock] using hg1) (.slice (some ⟨g1, 0, none⟩) (S.frames.length + 1) cap1)
    simpa using this
  · exact ownsRow_setCell_other (h.events.kept hg (own_apart h.events h.frames (by decide))) hne _
  · have hap := h.apart
    obtain ⟨ao, b, off, n, cap, rfl, hl, ha, hc, hcp, hm⟩ := h.answers
    refine ⟨ao, b, off, n, cap, rfl, hl, ha, fun k hk => ?_, hcp, hm⟩
    have hk' : k < S.answers.length := hk
    have e := ha (by omega)
    obtain ⟨a1, _, a3⟩ := hap _ _ _ (by rw [e]) (by omega)
    exact cell_setCell_other (hg.cell (hc k hk') a3) a1
  · obtain ⟨a1, a2, a3⟩ := h.apart a' n cp e hn
    refine ⟨a1, a2, ?_⟩
    rcases hat with e1 | e1
    · rw [e1] at a3; simpa [Value.ownBlock] using a3
    · obtain ⟨ao, b, off, n', cap, e2, hl, ha, hc, _⟩ := h.answers
      rw [e] at e2
      simp only [Value.slice.injEq] at e2
      obtain ⟨e3, rfl, rfl⟩ := e2
      have e4 := ha hn
      rw [← e3] at e4
      obtain rfl : a' = ⟨b, off, none⟩ := by simpa using e4
      have := World.block_lt_of_cell? _ _ (hc 0 (by omega))
      simp only [Value.ownBlock, ne_eq, Option.some.injEq]
      simp at this
      omega
theorem EngAt.own {w : World} {base g : Nat} {P : List Fn} {pv fv ev av : Value} {S : St} (h : EngAt w base g P pv S fv ev av) :
    w.cell? ⟨g, 0, none⟩ = some (.int .i64 S.status) ∧ w.cell? ⟨g, 1, none⟩ = some (.int .i64 S.value) ∧ w.cell? ⟨g, 2, none⟩ = some fv ∧ w.cell? ⟨g, 19, none⟩ = some (.int .i64 S.fuel) ∧ w.cell? ⟨g, 22, none⟩ = some pv ∧ (∀ k : Nat, k < 16 → w.cell? ⟨g, 3 + k, none⟩ = some (.int .i64 (S.mem.getD k 0))) ∧ (∀ i, w.frozen? ⟨g, i, none⟩ = false) := by
  have hm := h.mem
  refine ⟨?_, ?_, ?_, ?_, ?_, fun k hk => ?_, fun i => row_free h.cells i⟩
  · rw [cell_of_row _ _ _ _ _ _ h.cells]; rfl
  · rw [cell_of_row _ _ _ _ _ _ h.cells]; rfl
  · rw [cell_of_row _ _ _ _ _ _ h.cells]; rfl
  · rw [cell_of_row _ _ _ _ _ _ h.cells, List.getElem?_toArray]; exact engCells_tail fv ev av pv hm 0
  · rw [cell_of_row _ _ _ _ _ _ h.cells, List.getElem?_toArray]; exact engCells_tail fv ev av pv hm 3
  · rw [cell_of_row _ _ _ _ _ _ h.cells, List.getElem?_toArray]; exact engCells_memGet fv ev av pv k (by omega)
end Go.Proofs.YtldbmdgpdolaaaaGreatDoor
