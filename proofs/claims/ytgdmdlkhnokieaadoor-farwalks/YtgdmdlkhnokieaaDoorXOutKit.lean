/- How the document's new state lies in memory while it is made (tierlineref.stepped): plain facts. -/
import Derived.Test.YtgdmdlkhnokieaaDoorGroupD
import Derived.Test.YtgdmdlkhnokieaaDoorGroupE
namespace Go.Proofs.YtgdmdlkhnokieaaDoor
open Go Go.RowKit

/-- A state in a box; what it owns lies at base and above. -/
structure OutAt (w : World) (base g : Nat) (S : St) (fv ev av : Value) : Prop where
  cells : w.heap[g]? = some (.cells (stCells S fv ev av).toArray 34 (0, 0))
  low : base ≤ g
  mem : S.mem.length = 16
  wf : FrsWf S.frames
  frames : w.ownsRow base 45 14 fv S.frames.length (framesCells S.frames)
  events : w.ownsRow base 3 1 ev S.events.length (i64s S.events)
  answers : IntsVal w av S.answers
  apart : ∀ a n cp, av = .slice (some a) n cp → 0 < n → a.block ≠ g ∧ some a.block ≠ ev.ownBlock ∧ some a.block ≠ fv.ownBlock
  alow : ∀ a n cp, av = .slice (some a) n cp → 0 < n → base ≤ a.block
theorem stC_tail {S : St} (fv ev av : Value) (h : S.mem.length = 16) (i : Nat) : (stCells S fv ev av)[19 + i]? = [Value.int .i64 S.fuel, ev, av][i]? := by
  unfold stCells
  rw [List.append_assoc, List.getElem?_append_right (by simp; omega), List.getElem?_append_right (by simp [i64s, h]; omega)]
  congr 1
  simp [i64s, h]; omega
theorem stC_set {S : St} (fv ev av u : Value) (h : S.mem.length = 16) (i : Nat) : (stCells S fv ev av).set (19 + i) u = [.int .i64 S.status, .int .i64 S.value, fv] ++ i64s S.mem ++ [Value.int .i64 S.fuel, ev, av].set i u := by
  unfold stCells
  rw [List.append_assoc, List.set_append_right _ _ (by simp; omega), List.set_append_right _ _ (by simp [i64s, h]; omega), List.append_assoc]
  congr 3
  simp [i64s, h]; omega
theorem stC_fuel {S : St} (fv ev av : Value) (h : S.mem.length = 16) (n : Int) : (stCells S fv ev av).set 19 (.int .i64 n) = stCells { S with fuel := n } fv ev av := by
  rw [show (19 : Nat) = 19 + 0 from rfl, stC_set _ _ _ _ h]; rfl
theorem stC_mem {S : St} (fv ev av : Value) (k : Nat) (hk : k < S.mem.length) (n : Int) : (stCells S fv ev av).set (3 + k) (.int .i64 n) = stCells { S with mem := S.mem.set k n } fv ev av := by
  unfold stCells
  rw [List.append_assoc, List.set_append_right _ _ (by simp), List.set_append_left _ _ (by simp [i64s]; exact hk), List.append_assoc]
  congr 2
  simp [i64s, List.map_set]
theorem stC_memGet {S : St} (fv ev av : Value) (k : Nat) (hk : k < S.mem.length) : (stCells S fv ev av)[3 + k]? = some (.int .i64 (S.mem.getD k 0)) := by
  unfold stCells
  rw [List.append_assoc, List.getElem?_append_right (by simp), List.getElem?_append_left (by simp [i64s]; exact hk)]
  simp [i64s, hk, List.getD]
theorem OutAt.below {w w' : World} {base g : Nat} {fv ev av : Value} {S : St} (h : OutAt w base g S fv ev av) (hb : Below w.heap.size w w') : OutAt w' base g S fv ev av := by
  have hz := lt_of_block h.cells
  have hlow := h.low
  exact ⟨(hb.block _ hz).trans h.cells, h.low, h.mem, h.wf, ownsRow_below h.frames hb, ownsRow_below h.events hb, h.answers.keeps (keeps_below hb), h.apart, h.alow⟩
theorem OutAt.base {w : World} {base g : Nat} {fv ev av : Value} {S : St} (h : OutAt w base g S fv ev av) : base ≤ w.heap.size := by
  have hz := lt_of_block h.cells
  have hlow := h.low
  omega
/-- A number of the engine is stored. -/
theorem OutAt.put {w : World} {base g : Nat} {fv ev av : Value} {S : St} (h : OutAt w base g S fv ev av) (i : Nat) (u : Value) (S' : St) (hc : (stCells S fv ev av).set i u = stCells S' fv ev av) (hm : S'.mem.length = 16)
    (e1 : S'.frames = S.frames) (e2 : S'.events = S.events) (e3 : S'.answers = S.answers) : OutAt (w.setCell ⟨g, i, none⟩ u) base g S' fv ev av ∧ Below base w (w.setCell ⟨g, i, none⟩ u) := by
  have hne : ev.ownBlock ≠ some g := block_ne_own h.events h.cells (by decide)
  have hnf : fv.ownBlock ≠ some g := block_ne_own h.frames h.cells (by decide)
  have hbl : Below base w (w.setCell ⟨g, i, none⟩ u) := (Below.refl _ _).setCell (by simpa using h.low) _
  refine ⟨⟨?_, h.low, hm, by rw [e1]; exact h.wf, ?_, ?_, ?_, h.apart, h.alow⟩, hbl⟩
  · rw [row_setCell _ h.cells, List.setIfInBounds_toArray, hc]
  · rw [e1]; exact ownsRow_setCell_other h.frames hnf _
  · rw [e2]; exact ownsRow_setCell_other h.events hne _
  · rw [e3]; exact ints_setCell h.answers _ (fun a n cp e hn => (h.apart a n cp e hn).1)
/-- A cell of the frames is stored. -/
theorem OutAt.frame {w : World} {base g fb n cap : Nat} {ev av : Value} {S : St} (h : OutAt w base g S (.slice (some ⟨fb, 0, none⟩) n cap) ev av) (j : Nat) (u : Value) (fs' : List Fr) (hl : fs'.length = S.frames.length) (hw : FrsWf fs') (hc : (framesCells S.frames).set j u = framesCells fs') :
    OutAt (w.setCell ⟨fb, j, none⟩ u) base g { S with frames := fs' } (.slice (some ⟨fb, 0, none⟩) n cap) ev av ∧ Below base w (w.setCell ⟨fb, j, none⟩ u) := by
  have hnf : (Value.slice (some ⟨fb, 0, none⟩) n cap).ownBlock ≠ some g := block_ne_own h.frames h.cells (by decide)
  have hfg : fb ≠ g := by simpa [Value.ownBlock] using hnf
  have hap := own_apart h.frames h.events (by decide)
  have hef : ev.ownBlock ≠ some fb := by
    rcases hap with e | e
    · simp [Value.ownBlock] at e
    · intro e2; rw [e2] at e; simp [Value.ownBlock] at e
  have hlow := (h.frames.lt fb (by simp [Value.ownBlock])).1
  have hbl : Below base w (w.setCell ⟨fb, j, none⟩ u) := (Below.refl _ _).setCell (by simpa using hlow) _
  have hnn : n = S.frames.length := by
    rcases h.frames.2 with ⟨e, _⟩ | ⟨g', cap', cur, e, _⟩
    · cases e
    · cases e; rfl
  subst hnn
  refine ⟨⟨?_, h.low, h.mem, hw, ?_, ownsRow_setCell_other h.events hef _, ints_setCell h.answers _ (fun a n cp e hn => ?_), h.apart, h.alow⟩, hbl⟩
  · rw [heap_setCell_other _ _ _ _ (fun e => hfg e.symm)]; exact h.cells
  · have := (h.frames.stored j u).1
    rw [hc] at this
    show World.ownsRow _ _ _ _ _ fs'.length _
    rw [hl]; exact this
  · have := (h.apart a n cp e hn).2.2
    simpa [Value.ownBlock] using this
/-- The last frame goes on to a place. -/
theorem OutAt.goes {w : World} {base g fb n cap : Nat} {ev av : Value} {S : St} {fs : List Fr} {f : Fr} (h : OutAt w base g S (.slice (some ⟨fb, 0, none⟩) n cap) ev av) (hS : S.frames = fs ++ [f]) (pc : Int) :
    OutAt (w.setCell ⟨fb, fs.length * 14 + 1, none⟩ (.int .i64 pc)) base g { S with frames := fs ++ [⟨f.fn, pc, f.regs⟩] } (.slice (some ⟨fb, 0, none⟩) n cap) ev av ∧ Below base w (w.setCell ⟨fb, fs.length * 14 + 1, none⟩ (.int .i64 pc)) := by
  have hw := h.wf
  rw [hS] at hw
  refine h.frame _ _ _ (by rw [hS]; simp) (hw.init.snoc (hw f (by simp))) ?_
  rw [hS]
  exact framesCells_last fs f _ hw.init 1 _ (frCells_pc f pc)
/-- A number is put into a register of the last frame. -/
theorem OutAt.reg {w : World} {base g fb n cap : Nat} {ev av : Value} {S : St} {fs : List Fr} {f : Fr} (h : OutAt w base g S (.slice (some ⟨fb, 0, none⟩) n cap) ev av) (hS : S.frames = fs ++ [f]) (r : Nat) (v : Int) :
    OutAt (w.setCell ⟨fb, fs.length * 14 + 2 + r, none⟩ (.int .i64 v)) base g { S with frames := fs ++ [⟨f.fn, f.pc, f.regs.set r v⟩] } (.slice (some ⟨fb, 0, none⟩) n cap) ev av ∧ Below base w (w.setCell ⟨fb, fs.length * 14 + 2 + r, none⟩ (.int .i64 v)) := by
  have hw := h.wf
  rw [hS] at hw
  exact h.frame (fs.length * 14 + 2 + r) (.int .i64 v) (fs ++ [⟨f.fn, f.pc, f.regs.set r v⟩]) (by rw [hS]; simp) (hw.init.snoc (by have := hw f (by simp); simpa using this)) (by
    rw [hS, Nat.add_assoc]
    exact framesCells_last fs f _ hw.init (2 + r) _ (frCells_reg f r v))
theorem OutAt.free {w : World} {base g fb n cap : Nat} {ev av : Value} {S : St} (h : OutAt w base g S (.slice (some ⟨fb, 0, none⟩) n cap) ev av) (i : Nat) : w.frozen? ⟨fb, i, none⟩ = false := by
  rcases h.frames.2 with ⟨e, _⟩ | ⟨g', cap', cur, e, _, hh, _⟩
  · cases e
  · cases e; exact row_free hh i
/-- A number is put into a register of the last frame, which goes on. -/
theorem OutAt.puts {w : World} {base g fb n cap : Nat} {ev av : Value} {S : St} {fs : List Fr} {f : Fr} (h : OutAt w base g S (.slice (some ⟨fb, 0, none⟩) n cap) ev av) (hS : S.frames = fs ++ [f]) (r : Nat) (v : Int) :
    OutAt ((w.setCell ⟨fb, fs.length * 14 + 2 + r, none⟩ (.int .i64 v)).setCell ⟨fb, fs.length * 14 + 1, none⟩ (.int .i64 (f.pc + 1))) base g { S with frames := fs ++ [putF f r v] } (.slice (some ⟨fb, 0, none⟩) n cap) ev av ∧ Below base w ((w.setCell ⟨fb, fs.length * 14 + 2 + r, none⟩ (.int .i64 v)).setCell ⟨fb, fs.length * 14 + 1, none⟩ (.int .i64 (f.pc + 1))) := by
  have hw := h.wf
  rw [hS] at hw
  have h1 := h.frame (fs.length * 14 + 2 + r) (.int .i64 v) (fs ++ [⟨f.fn, f.pc, f.regs.set r v⟩]) (by rw [hS]; simp) (hw.init.snoc (by have := hw f (by simp); simpa using this)) (by
    rw [hS, Nat.add_assoc]
    exact framesCells_last fs f _ hw.init (2 + r) _ (frCells_reg f r v))
  have h2 := h1.1.goes (fs := fs) (f := ⟨f.fn, f.pc, f.regs.set r v⟩) rfl (f.pc + 1)
  refine ⟨?_, h1.2.trans h2.2⟩
  have e : putF f r v = ⟨f.fn, f.pc + 1, f.regs.set r v⟩ := by simp [putF]
  rw [e]; exact h2.1
/-- The last frame goes. -/
theorem OutAt.pop {w : World} {base g fb n cap : Nat} {ev av : Value} {S : St} {fs : List Fr} {f : Fr} (h : OutAt w base g S (.slice (some ⟨fb, 0, none⟩) n cap) ev av) (hS : S.frames = fs ++ [f]) :
    OutAt (w.setCell ⟨g, 2, none⟩ (.slice (some ⟨fb, 0, none⟩) fs.length cap)) base g { S with frames := fs } (.slice (some ⟨fb, 0, none⟩) fs.length cap) ev av ∧ Below base w (w.setCell ⟨g, 2, none⟩ (.slice (some ⟨fb, 0, none⟩) fs.length cap)) := by
  have hw := h.wf
  rw [hS] at hw
  have hne : ev.ownBlock ≠ some g := block_ne_own h.events h.cells (by decide)
  have hnf : (Value.slice (some ⟨fb, 0, none⟩) n cap).ownBlock ≠ some g := block_ne_own h.frames h.cells (by decide)
  have hbl : Below base w (w.setCell ⟨g, 2, none⟩ (.slice (some ⟨fb, 0, none⟩) fs.length cap)) := (Below.refl _ _).setCell (by simpa using h.low) _
  have hfr := h.frames
  rw [hS, framesCells_append] at hfr
  simp only [List.length_append, List.length_cons, List.length_nil, Nat.zero_add] at hfr
  have hnn : n = fs.length + 1 := by
    rcases hfr.2 with ⟨e, _⟩ | ⟨g', cap', cur, e, _⟩
    · cases e
    · cases e; rfl
  subst hnn
  refine ⟨⟨?_, h.low, h.mem, hw.init, ?_, ownsRow_setCell_other h.events hne _, ints_setCell h.answers _ (fun a n cp e hn => (h.apart a n cp e hn).1), fun a n cp e hn => ?_, h.alow⟩, hbl⟩
  · rw [row_setCell _ h.cells, List.setIfInBounds_toArray]; rfl
  · refine ownsRow_setCell_other (ownsRow_pop (framesCells_length fs hw.init) hfr) ?_ _
    simpa [Value.ownBlock] using hnf
  · obtain ⟨a1, a2, a3⟩ := h.apart a n cp e hn
    exact ⟨a1, a2, by simpa [Value.ownBlock] using a3⟩
/-- A frame more. -/
theorem OutAt.push {w w1 : World} {base g g1 cap1 : Nat} {fv ev av : Value} {S : St} {f : Fr} (h : OutAt w base g S fv ev av) (hf : f.regs.length = 12)
    (hown : w1.ownsRow base 45 14 (.slice (some ⟨g1, 0, none⟩) (S.frames.length + 1) cap1) (S.frames.length + 1) (framesCells (S.frames ++ [f]))) (hg : w.grownBy w1 fv.ownBlock) (hat : fv.ownBlock = some g1 ∨ g1 = w.heap.size) :
    w1.heap[g]? = some (.cells (stCells S fv ev av).toArray 34 (0, 0)) ∧
    OutAt (w1.setCell ⟨g, 2, none⟩ (.slice (some ⟨g1, 0, none⟩) (S.frames.length + 1) cap1)) base g { S with frames := S.frames ++ [f] } (.slice (some ⟨g1, 0, none⟩) (S.frames.length + 1) cap1) ev av ∧
    Below base w (w1.setCell ⟨g, 2, none⟩ (.slice (some ⟨g1, 0, none⟩) (S.frames.length + 1) cap1)) := by
  have hz := lt_of_block h.cells
  have hlow := h.low
  have hne : ev.ownBlock ≠ some g := block_ne_own h.events h.cells (by decide)
  have hnf : fv.ownBlock ≠ some g := block_ne_own h.frames h.cells (by decide)
  have h1 : w1.heap[g]? = some (.cells (stCells S fv ev av).toArray 34 (0, 0)) := (hg.block g hz (fun e => hnf e.symm)).trans h.cells
  have hg1 : g1 ≠ g := by
    rcases hat with e | e
    · intro e2; rw [e2] at e; exact hnf e
    · omega
  have hbl : Below base w (w1.setCell ⟨g, 2, none⟩ (.slice (some ⟨g1, 0, none⟩) (S.frames.length + 1) cap1)) :=
    ((Below.refl _ _).grown hg (by omega) (fun k hk => (h.frames.lt k hk).1)).setCell (by simpa using h.low) _
  refine ⟨h1, ⟨?_, h.low, h.mem, h.wf.snoc hf, ?_, ?_, ?_, fun a' n cp e hn => ?_, h.alow⟩, hbl⟩
  · rw [row_setCell _ h1, List.setIfInBounds_toArray]; rfl
  · have := ownsRow_setCell_other hown (a := ⟨g, 2, none⟩) (by simpa [Value.ownBlock] using hg1) (.slice (some ⟨g1, 0, none⟩) (S.frames.length + 1) cap1)
    simpa using this
  · exact ownsRow_setCell_other (h.events.kept hg (own_apart h.events h.frames (by decide))) hne _
  · have hap := h.apart
    obtain ⟨ao, b, off, n, cap, rfl, hl, ha, hc, hcp, hm⟩ := h.answers
    refine ⟨ao, b, off, n, cap, rfl, hl, ha, fun k hk => ?_, hcp, hm⟩
    have hk' : k < S.answers.length := hk
    have e := ha (by omega)
    obtain ⟨a1, _, a3⟩ := hap _ _ _ (by rw [e]) (by omega)
    exact cell_setCell_other (hg.cell (hc k hk') a3) a1
  · obtain ⟨a1, a2, a3⟩ := h.apart a' n cp e hn
    refine ⟨a1, a2, ?_⟩
    rcases hat with e1 | e1
    · rw [e1] at a3; simpa [Value.ownBlock] using a3
    · obtain ⟨ao, b, off, n', cap, e2, hl, ha, hc, _⟩ := h.answers
      rw [e] at e2
      simp only [Value.slice.injEq] at e2
      obtain ⟨e3, rfl, rfl⟩ := e2
      have e4 := ha hn
      rw [← e3] at e4
      obtain rfl : a' = ⟨b, off, none⟩ := by simpa using e4
      have := World.block_lt_of_cell? _ _ (hc 0 (by omega))
      simp only [Value.ownBlock, ne_eq, Option.some.injEq]
      simp at this
      omega
/-- What the cells of the last frame hold. -/
theorem OutAt.lastCells {w : World} {base g fb n cap : Nat} {ev av : Value} {S : St} {fs : List Fr} {f : Fr} (h : OutAt w base g S (.slice (some ⟨fb, 0, none⟩) n cap) ev av) (hS : S.frames = fs ++ [f]) :
    n = fs.length + 1 ∧ n ≤ cap ∧ cap ≤ 9223372036854775807 ∧ w.cell? ⟨fb, fs.length * 14, none⟩ = some (.int .i64 f.fn) ∧ w.cell? ⟨fb, fs.length * 14 + 1, none⟩ = some (.int .i64 f.pc) ∧ (∀ r : Nat, r < 12 → w.cell? ⟨fb, fs.length * 14 + 2 + r, none⟩ = some (.int .i64 (f.regs.getD r 0))) ∧
    ∃ cur : Array Value, w.heap[fb]? = some (.cells cur 45 (0, 0)) ∧ fs.length * 14 + 14 ≤ cur.size := by
  have hw := h.wf
  have hfr := h.frames
  rw [hS] at hw hfr
  simp only [List.length_append, List.length_cons, List.length_nil, Nat.zero_add] at hfr
  have h12 := hw f (by simp)
  obtain ⟨hnn, hc, hm, cur, hcur, hsz⟩ : n = fs.length + 1 ∧ n ≤ cap ∧ cap ≤ 9223372036854775807 ∧ ∃ cur : Array Value, w.heap[fb]? = some (.cells cur 45 (0, 0)) ∧ cur.size = cap * 14 := by
    rcases hfr.2 with ⟨e, _⟩ | ⟨g', cap', cur, e, _, hh, h1, h2, h3, _⟩
    · cases e
    · cases e; exact ⟨rfl, h1, by simpa [maxLen] using h2, cur, hh, h3⟩
  subst hnn
  have hcell : ∀ j, j < 14 → w.cell? ⟨fb, fs.length * 14 + j, none⟩ = (frCells f)[j]? := by
    intro j hj
    rw [hfr.cellAt _ (by omega)]
    have := framesCells_get (fs ++ [f]) hw fs.length j (by simp) hj
    simpa using this
  refine ⟨rfl, hc, hm, ?_, ?_, fun r hr => ?_, cur, hcur, by omega⟩
  · have := hcell 0 (by omega); simpa [frCells] using this
  · have := hcell 1 (by omega); simpa [frCells] using this
  · rw [Nat.add_assoc, hcell (2 + r) (by omega), show 2 + r = r + 1 + 1 by omega]
    simp [frCells, i64s, List.getD, h12, hr]
theorem OutAt.fshape {w : World} {base g : Nat} {fv ev av : Value} {S : St} (h : OutAt w base g S fv ev av) (hne : S.frames ≠ []) : ∃ fb cap, fv = .slice (some ⟨fb, 0, none⟩) S.frames.length cap := by
  obtain ⟨fb, cap, e, _⟩ := h.frames.form (by have := List.length_pos_iff.2 hne; omega)
  exact ⟨fb, cap, e⟩
theorem OutAt.tell {w w1 : World} {base g g1 cap1 : Nat} {fv ev av : Value} {S : St} {a : Int} {o : Obj} (h : OutAt w base g S fv ev av)
    (hown : w1.ownsRow base 3 1 (.slice (some ⟨g1, 0, none⟩) (S.events.length + 1) cap1) (S.events.length + 1) (i64s (S.events ++ [a]))) (hg : (w.alloc o).grownBy w1 ev.ownBlock) (hat : ev.ownBlock = some g1 ∨ g1 = w.heap.size + 1) :
    w1.heap[g]? = some (.cells (stCells S fv ev av).toArray 34 (0, 0)) ∧
    OutAt (w1.setCell ⟨g, 20, none⟩ (.slice (some ⟨g1, 0, none⟩) (S.events.length + 1) cap1)) base g { S with events := S.events ++ [a] } fv (.slice (some ⟨g1, 0, none⟩) (S.events.length + 1) cap1) av ∧
    Below base w (w1.setCell ⟨g, 20, none⟩ (.slice (some ⟨g1, 0, none⟩) (S.events.length + 1) cap1)) ∧
    (∀ b, b < w.heap.size → b ≠ g → some b ≠ ev.ownBlock → (w1.setCell ⟨g, 20, none⟩ (.slice (some ⟨g1, 0, none⟩) (S.events.length + 1) cap1)).heap[b]? = w.heap[b]?) := by
  have hz := lt_of_block h.cells
  have hne : ev.ownBlock ≠ some g := block_ne_own h.events h.cells (by decide)
  have hnf : fv.ownBlock ≠ some g := block_ne_own h.frames h.cells (by decide)
  have h1 : w1.heap[g]? = some (.cells (stCells S fv ev av).toArray 34 (0, 0)) := (hg.block g (by simp; omega) (fun e => hne e.symm)).trans ((heap_alloc_old _ _ hz).trans h.cells)
  have hg1 : g1 ≠ g := by
    rcases hat with e | e
    · intro e2; rw [e2] at e; exact hne e
    · omega
  have hbl : Below base w (w1.setCell ⟨g, 20, none⟩ (.slice (some ⟨g1, 0, none⟩) (S.events.length + 1) cap1)) :=
    (((Below.refl _ _).alloc (by have := h.low; omega) _).grown hg (by have := h.low; simp; omega) (fun k hk => (h.events.lt k hk).1)).setCell (by simpa using h.low) _
  refine ⟨h1, ⟨?_, h.low, h.mem, h.wf, ?_, ?_, ?_, fun a' n cp e hn => ?_, h.alow⟩, hbl, fun b hb hbg hbe => ?_⟩
  rotate_left 5
  · rw [heap_setCell_other _ _ _ _ (by simpa using hbg)]
    exact (hg.block b (by simp; omega) hbe).trans (heap_alloc_old _ _ hb)
  · rw [row_setCell _ h1, List.setIfInBounds_toArray, show (20 : Nat) = 19 + 1 from rfl, stC_set _ _ _ _ h.mem]; rfl
  · exact ownsRow_setCell_other ((h.frames.alloc o).kept hg (own_apart h.frames h.events (by decide))) hnf _
  · have := ownsRow_setCell_other hown (a := ⟨g, 20, none⟩) (by simpa [Value.ownBlock] using hg1) (.slice (some ⟨g1, 0, none⟩) (S.events.length + 1) cap1)
    simpa using this
  · have hap := h.apart
    obtain ⟨ao, b, off, n, cap, rfl, hl, ha, hc, hcp, hm⟩ := h.answers
    refine ⟨ao, b, off, n, cap, rfl, hl, ha, fun k hk => ?_, hcp, hm⟩
    have hk' : k < S.answers.length := hk
    have e := ha (by omega)
    obtain ⟨a1, a2, _⟩ := hap _ _ _ (by rw [e]) (by omega)
    exact cell_setCell_other (hg.cell (cell_alloc (hc k hk') o) a2) a1
  · obtain ⟨a1, a2, a3⟩ := h.apart a' n cp e hn
    refine ⟨a1, ?_, a3⟩
    rcases hat with e1 | e1
    · rw [e1] at a2; simpa [Value.ownBlock] using a2
    · obtain ⟨ao, b, off, n', cap, e2, hl, ha, hc, _⟩ := h.answers
      rw [e] at e2
      simp only [Value.slice.injEq] at e2
      obtain ⟨e3, rfl, rfl⟩ := e2
      have e4 := ha hn
      rw [← e3] at e4
      obtain rfl : a' = ⟨b, off, none⟩ := by simpa using e4
      have := World.block_lt_of_cell? _ _ (hc 0 (by omega))
      simp only [Value.ownBlock, ne_eq, Option.some.injEq]
      simp at this
      omega


/-- The answers are new ones. -/
theorem OutAt.answ {w w1 : World} {base g : Nat} {fv ev av u : Value} {S : St} {l : List Int} (h : OutAt w base g S fv ev av) (hb : Below w.heap.size w w1) (ho : w1.ownsRow w.heap.size 3 1 u l.length (i64s l)) :
    OutAt (w1.setCell ⟨g, 21, none⟩ u) base g { S with answers := l } fv ev u ∧ Below base w (w1.setCell ⟨g, 21, none⟩ u) := by
  have h1 := h.below hb
  have hz := lt_of_block h.cells
  have hlow := h.low
  have hne : ev.ownBlock ≠ some g := block_ne_own h1.events h1.cells (by decide)
  have hnf : fv.ownBlock ≠ some g := block_ne_own h1.frames h1.cells (by decide)
  have hlo : ∀ a n cp, u = .slice (some a) n cp → 0 < n → w.heap.size ≤ a.block := fun a n cp e hn => low_own ho (Nat.le_refl _) a n cp e hn
  refine ⟨⟨?_, h.low, h.mem, h.wf, ownsRow_setCell_other h1.frames hnf _, ownsRow_setCell_other h1.events hne _, ints_setCell (ints_of_own ho) _ (fun a n cp e hn => ?_), fun a n cp e hn => ⟨?_, fun e2 => ?_, fun e2 => ?_⟩, fun a n cp e hn => ?_⟩, (hb.mono (by omega)).setCell (by simpa using h.low) _⟩
  · rw [row_setCell _ h1.cells, List.setIfInBounds_toArray, show (21 : Nat) = 19 + 2 from rfl, stC_set _ _ _ _ h.mem]; rfl
  · have := hlo a n cp e hn; omega
  · have := hlo a n cp e hn; omega
  · have := hlo a n cp e hn; have := (h.events.lt a.block e2.symm).2; omega
  · have := hlo a n cp e hn; have := (h.frames.lt a.block e2.symm).2; omega
  · have := hlo a n cp e hn; omega
theorem OutAt.own {w : World} {base g : Nat} {fv ev av : Value} {S : St} (h : OutAt w base g S fv ev av) :
    w.cell? ⟨g, 0, none⟩ = some (.int .i64 S.status) ∧ w.cell? ⟨g, 1, none⟩ = some (.int .i64 S.value) ∧ w.cell? ⟨g, 2, none⟩ = some fv ∧ w.cell? ⟨g, 19, none⟩ = some (.int .i64 S.fuel) ∧ w.cell? ⟨g, 20, none⟩ = some ev ∧ w.cell? ⟨g, 21, none⟩ = some av ∧ (∀ k : Nat, k < 16 → w.cell? ⟨g, 3 + k, none⟩ = some (.int .i64 (S.mem.getD k 0))) ∧ (∀ i, w.frozen? ⟨g, i, none⟩ = false) := by
  have hm := h.mem
  refine ⟨?_, ?_, ?_, ?_, ?_, ?_, fun k hk => ?_, fun i => row_free h.cells i⟩
  · rw [cell_of_row _ _ _ _ _ _ h.cells]; rfl
  · rw [cell_of_row _ _ _ _ _ _ h.cells]; rfl
  · rw [cell_of_row _ _ _ _ _ _ h.cells]; rfl
  · rw [cell_of_row _ _ _ _ _ _ h.cells, List.getElem?_toArray]; exact stC_tail fv ev av hm 0
  · rw [cell_of_row _ _ _ _ _ _ h.cells, List.getElem?_toArray]; exact stC_tail fv ev av hm 1
  · rw [cell_of_row _ _ _ _ _ _ h.cells, List.getElem?_toArray]; exact stC_tail fv ev av hm 2
  · rw [cell_of_row _ _ _ _ _ _ h.cells, List.getElem?_toArray]; exact stC_memGet fv ev av k (by omega)
/-- A copy that was put into a box. -/
theorem OwnState.out {w w1 : World} {base g : Nat} {v fv ev av : Value} {S : St} (h : OwnState w base v S fv ev av) (hb : Below w.heap.size w w1) (hg : w1.heap[g]? = some (.cells (stCells S fv ev av).toArray 34 (0, 0))) (hl : base ≤ g) : OutAt w1 base g S fv ev av := by
  have o1 := ownsRow_below h.frames hb
  have o2 := ownsRow_below h.events hb
  have o3 := ownsRow_below h.answers hb
  have hav : ∀ a n cp, av = .slice (some a) n cp → 0 < n → av.ownBlock = some a.block := fun a n cp e hn => by
    rcases h.answers.2 with ⟨e1, _⟩ | ⟨g', cap, cur, e1, _⟩
    · rw [e1] at e; cases e
    · rw [e1] at e ⊢; cases e; rfl
  refine ⟨hg, hl, h.mem, h.wf, o1, o2, ints_of_own o3, fun a n cp e hn => ?_, fun a n cp e hn => low_own h.answers (Nat.le_refl _) a n cp e hn⟩
  have ha := hav a n cp e hn
  refine ⟨fun e2 => block_ne_own o3 hg (by decide) (by rw [ha, e2]), fun e2 => ?_, fun e2 => ?_⟩
  · rcases h.apart with h1 | h1 | h1
    · rw [h1] at e2; cases e2
    · rw [h1] at ha; cases ha
    · exact h1 (by rw [ha]; exact e2.symm)
  · rcases own_apart o1 o3 (by decide) with h1 | h1
    · rw [h1] at e2; cases e2
    · exact h1 (by rw [ha]; exact e2.symm)
/-- The state as it is handed back. -/
theorem OutAt.at {w : World} {base g : Nat} {fv ev av : Value} {S : St} (h : OutAt w base g S fv ev av) : StAt w base (.agg (stCells S fv ev av).toArray) S :=
  ⟨fv, ev, av, rfl, h.mem, frames_of_own h.wf h.frames, ints_of_own h.events, h.answers, low_own h.frames (Nat.le_refl _), low_own h.events (Nat.le_refl _), h.alow⟩
end Go.Proofs.YtgdmdlkhnokieaaDoor
