/- Frames of a state in a box: a part of one of them is changed where it lies; what is live, as a list of its own. -/
import Derived.Test.YtgdmdlkhnokieaaDoorXOutKit
import Derived.Test.YtgdmdlkhnokieaaDoorGroupL
import Derived.Test.YtgdmdlkhnokieaaDoorXEngWalkP
namespace Go.Proofs.YtgdmdlkhnokieaaDoor
open Go Go.RowKit

/-- The registers that are live in a function of a right program. -/
noncomputable def liveL (P : List Fn) (k : Nat) : List Int := by
  classical exact if h : ∃ L, LiveSpec P (P.getD k ⟨0, 0, []⟩) L then h.choose else []
theorem liveL_eq {P : List Fn} {k : Nat} (hk : k < P.length) {L : List Int} (h : LiveSpec P P[k] L) : L = liveL P k := by
  have e : P.getD k ⟨0, 0, []⟩ = P[k] := by simp [List.getD, hk]
  have hx : ∃ L, LiveSpec P (P.getD k ⟨0, 0, []⟩) L := ⟨L, by rw [e]; exact h⟩
  unfold liveL
  rw [dif_pos hx]
  exact spec_unique h (e ▸ hx.choose_spec)

def setRg (regs : List Int) (o : Nat) : List Int → List Int
  | [] => regs
  | v :: r => setRg (regs.set o v) (o + 1) r
theorem setRg_len : ∀ (vs regs : List Int) (o : Nat), (setRg regs o vs).length = regs.length
  | [], _, _ => rfl
  | v :: r, regs, o => by rw [setRg, setRg_len r]; simp
theorem setRg_eq : ∀ (vs regs : List Int) (o : Nat), o + vs.length ≤ regs.length → setRg regs o vs = regs.take o ++ (vs ++ regs.drop (o + vs.length))
  | [], regs, o, _ => by simp [setRg]
  | v :: r, regs, o, h => by
    simp only [List.length_cons] at h
    have h0 : o < regs.length := by omega
    rw [setRg, setRg_eq r _ _ (by simp; omega), List.set_eq_take_append_cons_drop, if_pos h0]
    have hl : (regs.take o).length = o := by rw [List.length_take]; omega
    have e : regs.take o ++ v :: regs.drop (o + 1) = (regs.take o ++ [v]) ++ regs.drop (o + 1) := by simp
    rw [e, List.take_left' (by simp; omega), List.drop_append, List.drop_eq_nil_of_le (by simp; omega), List.drop_drop]
    simp only [List.length_append, List.length_cons, List.length_nil, hl, List.nil_append, List.append_assoc, List.cons_append]
    congr 4
    omega
theorem setRg_all {vs regs : List Int} (h : vs.length = regs.length) : setRg regs 0 vs = vs := by
  rw [setRg_eq vs regs 0 (by omega), Nat.zero_add, List.drop_eq_nil_of_le (by omega)]; simp

theorem framesCells_put (fs : List Fr) (hw : FrsWf fs) (i : Nat) (f' : Fr) (j : Nat) (hj : j < 14) (u : Value) (f : Fr) (hf : fs[i]? = some f) (hs : (frCells f).set j u = frCells f') : (framesCells fs).set (i * 14 + j) u = framesCells (fs.set i f') := by
  obtain ⟨hi, rfl⟩ := List.getElem?_eq_some_iff.1 hf
  have e : fs = fs.take i ++ fs[i] :: fs.drop (i + 1) := by rw [← List.drop_eq_getElem_cons hi]; exact (List.take_append_drop i fs).symm
  have hw1 : FrsWf (fs.take i) := fun f h => hw f (List.mem_of_mem_take h)
  have hl : (fs.take i).length = i := by rw [List.length_take]; omega
  have h14 : (frCells fs[i]).length = 14 := by have := hw fs[i] (List.getElem_mem hi); simp [frCells, i64s, this]
  have e2 : fs.set i f' = fs.take i ++ f' :: fs.drop (i + 1) := List.set_eq_take_append_cons_drop.trans (by rw [if_pos hi])
  rw [e2]
  conv => lhs; rw [e]
  rw [framesCells_append, framesCells_append, List.set_append_right _ _ (by rw [framesCells_length _ hw1, hl]; omega), framesCells_length _ hw1, hl, show i * 14 + j - i * 14 = j by omega]
  congr 1
  show (frCells fs[i] ++ framesCells _).set j u = frCells f' ++ framesCells _
  rw [List.set_append_left _ _ (by omega), hs]
theorem FrsWf.put {fs : List Fr} (h : FrsWf fs) (i : Nat) {f : Fr} (hf : f.regs.length = 12) : FrsWf (fs.set i f) := fun g hg => by
  rcases List.mem_or_eq_of_mem_set hg with hg | rfl
  · exact h g hg
  · exact hf
/-- A cell of a frame is stored. -/
theorem OutAt.frSet {w : World} {base g fb n cap : Nat} {ev av : Value} {S : St} (h : OutAt w base g S (.slice (some ⟨fb, 0, none⟩) n cap) ev av) (i : Nat) {f f' : Fr} (hf : S.frames[i]? = some f) (j : Nat) (hj : j < 14) (u : Value) (hs : (frCells f).set j u = frCells f') (hr : f'.regs.length = 12) :
    OutAt (w.setCell ⟨fb, i * 14 + j, none⟩ u) base g { S with frames := S.frames.set i f' } (.slice (some ⟨fb, 0, none⟩) n cap) ev av ∧ Below base w (w.setCell ⟨fb, i * 14 + j, none⟩ u) :=
  h.frame (i * 14 + j) u (S.frames.set i f') (by simp) (h.wf.put i hr) (framesCells_put S.frames h.wf i f' j hj u f hf hs)
theorem OutAt.frReg {w : World} {base g fb n cap : Nat} {ev av : Value} {S : St} (h : OutAt w base g S (.slice (some ⟨fb, 0, none⟩) n cap) ev av) (i : Nat) {f : Fr} (hf : S.frames[i]? = some f) (r : Nat) (hr : r < 12) (z : Int) :
    OutAt (w.setCell ⟨fb, i * 14 + 2 + r, none⟩ (.int .i64 z)) base g { S with frames := S.frames.set i ⟨f.fn, f.pc, f.regs.set r z⟩ } (.slice (some ⟨fb, 0, none⟩) n cap) ev av ∧ Below base w (w.setCell ⟨fb, i * 14 + 2 + r, none⟩ (.int .i64 z)) := by
  rw [Nat.add_assoc]
  exact h.frSet i hf (2 + r) (by omega) _ (frCells_reg f r z) (by have := h.wf f (List.mem_of_getElem? hf); simpa using this)
theorem OutAt.frPc {w : World} {base g fb n cap : Nat} {ev av : Value} {S : St} (h : OutAt w base g S (.slice (some ⟨fb, 0, none⟩) n cap) ev av) (i : Nat) {f : Fr} (hf : S.frames[i]? = some f) (z : Int) :
    OutAt (w.setCell ⟨fb, i * 14 + 1, none⟩ (.int .i64 z)) base g { S with frames := S.frames.set i ⟨f.fn, z, f.regs⟩ } (.slice (some ⟨fb, 0, none⟩) n cap) ev av ∧ Below base w (w.setCell ⟨fb, i * 14 + 1, none⟩ (.int .i64 z)) :=
  h.frSet i hf 1 (by omega) _ (frCells_pc f z) (h.wf f (List.mem_of_getElem? hf))
theorem OutAt.frRegs {base g fb n cap : Nat} {ev av : Value} : ∀ (vs : List Int) (o : Nat) (w : World) (S : St) (_h : OutAt w base g S (.slice (some ⟨fb, 0, none⟩) n cap) ev av) (i : Nat) (f : Fr) (_hf : S.frames[i]? = some f) (_hl : o + vs.length ≤ 12),
    OutAt (w.setCells fb (i * 14 + 2 + o) (i64s vs)) base g { S with frames := S.frames.set i ⟨f.fn, f.pc, setRg f.regs o vs⟩ } (.slice (some ⟨fb, 0, none⟩) n cap) ev av ∧ Below base w (w.setCells fb (i * 14 + 2 + o) (i64s vs))
  | [], o, w, S, h, i, f, hf, hl => by
    refine ⟨?_, Below.refl _ _⟩
    have e : S.frames.set i ⟨f.fn, f.pc, setRg f.regs o []⟩ = S.frames := by
      obtain ⟨hi, e⟩ := List.getElem?_eq_some_iff.1 hf
      show S.frames.set i f = S.frames
      rw [← e]; exact List.set_getElem_self hi
    rw [e]; exact h
  | v :: r, o, w, S, h, i, f, hf, hl => by
    simp only [List.length_cons] at hl
    obtain ⟨h1, b1⟩ := h.frReg i hf o (by omega) v
    have hi := (List.getElem?_eq_some_iff.1 hf).1
    obtain ⟨h2, b2⟩ := OutAt.frRegs r (o + 1) _ _ h1 i ⟨f.fn, f.pc, f.regs.set o v⟩ (by simp [hi]) (by omega)
    refine ⟨?_, b1.trans b2⟩
    simp only [List.set_set] at h2
    exact h2
/-- Where a frame lies. -/
theorem OutAt.box {w : World} {base g : Nat} {fv ev av : Value} {S : St} (h : OutAt w base g S fv ev av) {i : Nat} (hi : i < S.frames.length) : ∃ fb cap, fv = .slice (some ⟨fb, 0, none⟩) S.frames.length cap ∧ S.frames.length ≤ cap ∧ cap ≤ 9223372036854775807 ∧ base ≤ fb ∧ fb < w.heap.size ∧ fb ≠ g := by
  have hnf : fv.ownBlock ≠ some g := block_ne_own h.frames h.cells (by decide)
  rcases h.frames.2 with ⟨e, h0⟩ | ⟨fb, cap, cur, rfl, hb, hh, h1, h2, h3, h4⟩
  · omega
  · exact ⟨fb, cap, rfl, h1, by simpa [maxLen] using h2, hb, lt_of_block hh, by simpa [Value.ownBlock] using hnf⟩
theorem OutAt.range {w : World} {base g fb n cap : Nat} {ev av : Value} {S : St} (h : OutAt w base g S (.slice (some ⟨fb, 0, none⟩) n cap) ev av) {i : Nat} {f : Fr} (hf : S.frames[i]? = some f) : w.rangeAt fb (i * 14) (frCells f) := by
  intro j u hu
  obtain ⟨hi, e⟩ := List.getElem?_eq_some_iff.1 hf
  have hrl : f.regs.length = 12 := h.wf f (List.mem_of_getElem? hf)
  have hj : j < 14 := by
    have := (List.getElem?_eq_some_iff.1 hu).1
    rw [frCells_length f hrl] at this
    exact this
  have hn : n = S.frames.length := by
    rcases h.frames.2 with ⟨e, _⟩ | ⟨g', cap', cur, e, _⟩
    · cases e
    · cases e; rfl
  subst hn
  have hc := framesCells_get S.frames h.wf i j hi hj
  rw [e] at hc
  have := World.ownsRow.cellAt (h := h.frames) (i * 14 + j) (by omega)
  rw [this, hc]; exact hu
theorem OutAt.there {w : World} {base g fb n cap : Nat} {ev av : Value} {S : St} (h : OutAt w base g S (.slice (some ⟨fb, 0, none⟩) n cap) ev av) {i : Nat} {f : Fr} (hf : S.frames[i]? = some f) (a b : Nat) (hab : a + b ≤ 14) : w.there fb (i * 14 + a) b := by
  intro j hj
  have hrl : f.regs.length = 12 := h.wf f (List.mem_of_getElem? hf)
  have hl := frCells_length f hrl
  refine ⟨?_, h.free _⟩
  have := h.range hf (a + j) ((frCells f)[a + j]'(by omega)) (by simp)
  rw [Nat.add_assoc, this]; rfl
/-- A state that is the call's own, put into a box below. -/
theorem StP.out {w : World} {base g B : Nat} {cs : Array Value} {s : St} (h : StP w base (.agg cs) s) (hg : g < base) (hB : B ≤ g) (hc : w.heap[g]? = some (.cells cs 34 (0, 0))) : ∃ fv ev av, cs = (stCells s fv ev av).toArray ∧ OutAt w B g s fv ev av ∧ LowV base av := by
  obtain ⟨fv, ev, av, e, hm, hw, h1, h2, h3, h4, h5⟩ := h
  obtain rfl := Value.agg.inj e
  exact ⟨fv, ev, av, rfl, ⟨hc, hB, hm, hw, own_base h1 (by omega), own_base h2 (by omega), h3, fun a n cp e hn => ⟨by have := h4 a n cp e hn; omega, h5 a n cp e hn⟩, fun a n cp e hn => by have := h4 a n cp e hn; omega⟩, h4⟩
theorem OutAt.stp {w : World} {base g : Nat} {fv ev av : Value} {S : St} (h : OutAt w base g S fv ev av) : StP w base (.agg (stCells S fv ev av).toArray) S :=
  ⟨fv, ev, av, rfl, h.mem, h.wf, h.frames, h.events, h.answers, fun a n cp e hn => h.alow a n cp e hn, fun a n cp e hn => (h.apart a n cp e hn).2⟩
theorem grown_setRow (w : World) (g : Nat) (cs : Array Value) : w.grownBy (w.setRow g cs) (some g) :=
  ⟨rfl, rfl, rfl, by simp [World.setRow], fun k _ hne => setRow_other _ _ _ _ (fun e => hne (by rw [e]))⟩
/-- All cells of the box are stored at once. -/
theorem OutAt.row {w : World} {base g : Nat} {fv ev av : Value} {S : St} (h : OutAt w base g S fv ev av) (S' : St) (hm : S'.mem.length = 16) (e1 : S'.frames = S.frames) (e2 : S'.events = S.events) (e3 : S'.answers = S.answers) :
    OutAt (w.setRow g (stCells S' fv ev av).toArray) base g S' fv ev av ∧ Below base w (w.setRow g (stCells S' fv ev av).toArray) := by
  have hne : ev.ownBlock ≠ some g := block_ne_own h.events h.cells (by decide)
  have hnf : fv.ownBlock ≠ some g := block_ne_own h.frames h.cells (by decide)
  have hG := grown_setRow w g (stCells S' fv ev av).toArray
  refine ⟨⟨setRow_heap _ _ _ _ _ _ h.cells, h.low, hm, by rw [e1]; exact h.wf, ?_, ?_, ?_, h.apart, h.alow⟩, below_setRow (Below.refl _ _) h.low _⟩
  · rw [e1]; exact h.frames.kept hG (Or.inr hnf)
  · rw [e2]; exact h.events.kept hG (Or.inr hne)
  · rw [e3]
    obtain ⟨ao, b, off, n, cap, rfl, h1, h2, h3, h4⟩ := h.answers
    refine ⟨ao, b, off, n, cap, rfl, h1, h2, fun k hk => ?_, h4⟩
    have hn : 0 < n := by omega
    have := (h.apart _ n cap (by rw [h2 hn]) hn).1
    exact hG.cell (h3 k hk) (fun e => this (by simpa using e))
/-- A copy into a row, as one step of a region that draws its order: the row alone is another. -/
theorem step_copy_at {P : Program} {ops : Array Oper} {o : Oper} {a : Act} {w : World} {K : Act → World → Prop} {Q : Exit → Act → World → Prop} {E : Prop} (hgd : o.guard = none) (d s : Operand) (dT sT : TypeId)
    (ho : o.op = .call { callee := .builtin .copy, args := #[d, s], argTypes := #[dT, sT] }) (elem : TypeId) (hu : P.underlying dT = some (.slice elem)) (hsz : (P.info? elem).map (·.size) = some 1)
    (ad : Addr) (g off dLen dCap sLen sCap : Nat) (hd : a.eval d = .slice (some ⟨g, off, none⟩) dLen dCap) (hs : a.eval s = .slice (some ad) sLen sCap)
    (cur : Array Value) (t : TypeId) (hg : w.heap[g]? = some (.cells cur t (0, 0))) (cs : List Value) (hn : cs.length = Nat.min sLen dLen)
    (hsrc : ∀ j v, cs[j]? = some v → w.cell? (ad.add j) = some v) (hfit : off + cs.length ≤ cur.size) (h1 : ∀ v ∈ cs, v.oneCell' = true) (R : Array Value) (hR : (splice cur.toList off cs).toArray = R)
    (h : K (a.put o.dst (goInt cs.length)) (w.setRow g R)) : if Region.wanted o (yielded ops a.tmps) = true then Oper.wp P o a w K Q else E := by
  rw [if_pos (by simp [Region.wanted, hgd])]
  have hrun := run_copy_row (P := P) w dT sT o.type elem g off dLen dCap ad sLen sCap cur t cs hu hsz hg hn hsrc hfit h1
  subst hR
  unfold Oper.wp
  simp [execOp, ho, resolve, invoke, builtin, hd, hs, hrun, Result.andThen]
  simp only [splice] at h
  exact h
theorem ints_cell {w : World} {b o n c : Nat} {L : List Int} (h : IntsVal w (.slice (some ⟨b, o, none⟩) n c) L) (k : Nat) (hk : k < L.length) : w.cell? ⟨b, o + k, none⟩ = some (.int .i64 (L.getD k 0)) := by
  obtain ⟨ao, b', off, n', cap, e, h1, h2, h3, h4⟩ := h
  cases e
  have e2 := h2 (by omega)
  cases e2
  have := h3 k hk
  simpa [List.getD, hk] using this
theorem set_last {α : Type} (l : List α) (a b : α) : (l ++ [a]).set l.length b = l ++ [b] := by
  rw [List.set_append_right _ _ (by omega), Nat.sub_self]; rfl
theorem live_val {P : List Fn} {f : Fn} {L : List Int} (h : LiveSpec P f L) {q : Nat} (hq : q < f.code.length) : L.getD q 0 = -1 ∨ ∃ m : Nat, m < 4096 ∧ L.getD q 0 = m := by
  rcases h.2 q hq with ⟨_, e⟩ | ⟨_, m, hm, e, _⟩
  · exact Or.inl e
  · exact Or.inr ⟨m, by simpa using hm, e⟩
theorem fok_all {P : List Fn} : ∀ (l : List Fr), FOk P l → ∀ f ∈ l, placeB P f = true := by
  intro l
  rw [← List.reverse_reverse l]
  generalize l.reverse = r
  induction r with
  | nil => intro _ f hf; simp at hf
  | cons x r ih =>
    rw [List.reverse_cons]
    intro h f hf
    obtain ⟨h1, h2, -⟩ := (fok_snoc P r.reverse x).1 h
    rcases List.mem_append.1 hf with hf | hf
    · exact ih h1 f hf
    · rw [List.mem_singleton.1 hf]; exact h2
theorem grown_trans {a b c : World} {r : Option Nat} (h : a.grownBy b r) (k : b.grownBy c r) : a.grownBy c r :=
  ⟨k.os.trans h.os, k.tape.trans h.tape, k.output.trans h.output, Nat.le_trans h.size k.size, fun i hi hne => (k.block i (Nat.lt_of_lt_of_le hi h.size) hne).trans (h.block i hi hne)⟩
theorem grown_below {a b : World} (h : Below a.heap.size a b) (r : Option Nat) : a.grownBy b r := ⟨h.os, h.tape, h.output, h.size, fun i hi _ => h.block i hi⟩
theorem grown_setCell (w : World) (g o : Nat) (v : Value) : w.grownBy (w.setCell ⟨g, o, none⟩ v) (some g) :=
  ⟨rfl, rfl, rfl, by simp [World.setCell], fun k _ hne => heap_setCell_other _ _ _ _ (fun e => hne (congrArg some e))⟩
theorem grown_setCells (g : Nat) : ∀ (vs : List Value) (o : Nat) (w : World), w.grownBy (w.setCells g o vs) (some g)
  | [], _, w => World.grownBy.refl w _
  | v :: r, o, w => grown_trans (grown_setCell w g o v) (grown_setCells g r (o + 1) (w.setCell ⟨g, o, none⟩ v))
theorem OutAt.drew {w : World} {base g : Nat} {fv ev av : Value} {S : St} (h : OutAt w base g S fv ev av) : OutAt w.drew base g S fv ev av := ⟨h.cells, h.low, h.mem, h.wf, h.frames, h.events, h.answers, h.apart, h.alow⟩
/-- Another box is stored. -/
theorem OutAt.other {w : World} {base g r : Nat} {fv ev av : Value} {S : St} (h : OutAt w base g S fv ev av) {old : Array Value} (hr : w.heap[r]? = some (.cells old 34 (0, 0))) (hrg : r ≠ g) (hav : ∀ a n cp, av = .slice (some a) n cp → 0 < n → a.block ≠ r) (cs : Array Value) : OutAt (w.setRow r cs) base g S fv ev av := by
  have hne : ev.ownBlock ≠ some r := block_ne_own h.events hr (by decide)
  have hnf : fv.ownBlock ≠ some r := block_ne_own h.frames hr (by decide)
  have hG := grown_setRow w r cs
  refine ⟨(setRow_other _ _ _ _ (fun e => hrg e.symm)).trans h.cells, h.low, h.mem, h.wf, h.frames.kept hG (Or.inr hnf), h.events.kept hG (Or.inr hne), ?_, h.apart, h.alow⟩
  obtain ⟨ao, b, off, n, cap, rfl, h1, h2, h3, h4⟩ := h.answers
  refine ⟨ao, b, off, n, cap, rfl, h1, h2, fun k hk => ?_, h4⟩
  have hn : 0 < n := by omega
  have := hav _ n cap (by rw [h2 hn]) hn
  exact hG.cell (h3 k hk) (fun e => this (by simpa using e))
/-- A state that is answered, in memory of its own. -/
def OwnPost (w : World) (S : St) (e : Ending) (w' : World) : Prop := ∃ cs, e = .returned (.tuple #[.agg cs, .int .i64 0]) ∧ StP w' w.heap.size (.agg cs) S ∧ Below w.heap.size w w'
end Go.Proofs.YtgdmdlkhnokieaaDoor
