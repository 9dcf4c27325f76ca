/- A state whose frames are written over where nothing is live. -/
import Derived.Test.YteabbanjjdmjkaaDoorGroupL
import Derived.Test.YteabbanjjdmjkaaDoorGroupE
import Derived.Test.YteabbanjjdmjkaaDoorGroupK
namespace Go.Proofs.YteabbanjjdmjkaaDoor
open Go Go.RowKit

theorem AgFs.get {P : List Fn} {fs gs : List Fr} (h : AgFs P fs gs) : ∀ (i : Nat) (f g : Fr), fs[i]? = some f → gs[i]? = some g → AgFr P f g := by
  induction h with
  | nil => intro i f g h; simp at h
  | @snoc fs gs f g h hf ih =>
    intro i f' g' h1 h2
    have hl := h.len
    rcases Nat.lt_trichotomy i fs.length with hi | hi | hi
    · rw [List.getElem?_append_left (by omega)] at h1 h2; exact ih i f' g' h1 h2
    · rw [List.getElem?_append_right (by omega)] at h1 h2
      rw [show i - fs.length = 0 by omega] at h1
      rw [show i - gs.length = 0 by omega] at h2
      cases h1; cases h2; exact hf
    · rw [List.getElem?_append_right (by omega), List.getElem?_eq_none (by simp; omega)] at h1; cases h1
theorem AgFs.set {P : List Fn} {fs gs : List Fr} (h : AgFs P fs gs) : ∀ (i : Nat) (g' : Fr), (∀ f, fs[i]? = some f → AgFr P f g') → AgFs P fs (gs.set i g') := by
  induction h with
  | nil => intro i g' _; exact .nil
  | @snoc fs gs f g h hf ih =>
    intro i g' hg
    have hl := h.len
    rcases Nat.lt_or_ge i gs.length with hi | hi
    · rw [List.set_append_left _ _ hi]
      exact (ih i g' (fun f' hf' => hg f' (by rw [List.getElem?_append_left (by omega)]; exact hf'))).snoc hf
    · rw [List.set_append_right _ _ hi]
      rcases Nat.lt_or_ge gs.length i with h2 | h2
      · rw [List.set_eq_of_length_le (by simp; omega)]; exact h.snoc hf
      · rw [show i - gs.length = 0 by omega]
        exact h.snoc (hg f (by rw [List.getElem?_append_right (by omega), show i - fs.length = 0 by omega]; rfl))
theorem AgFs.refl (P : List Fn) (fs : List Fr) : AgFs P fs fs := by
  rw [← List.reverse_reverse fs]
  generalize fs.reverse = l
  induction l with
  | nil => exact .nil
  | cons f l ih => rw [List.reverse_cons]; exact ih.snoc (AgFr.refl P f)
/-- Junk in a register that is not live. -/
theorem AgFr.junk {P : List Fn} {f g : Fr} (h : AgFr P f g) (r : Nat) (v : Int) (hn : ¬ LiveW P (fnD P f.fn) r f.pc.toNat) : AgFr P f ⟨g.fn, g.pc, g.regs.set r v⟩ := by
  refine ⟨h.fn, h.pc, by simp [h.len], fun r' hr' hl => ?_⟩
  have hne : r ≠ r' := fun e => hn (e ▸ hl)
  have := h.live r' hr' hl
  simp only [List.getD_eq_getElem?_getD] at this ⊢
  rw [List.getElem?_set_ne hne]; exact this
theorem framesCells_at (fs : List Fr) (hw : FrsWf fs) (i : Nat) (f' : Fr) (j : Nat) (hj : j < 14) (u : Value) (f : Fr) (hf : fs[i]? = some f) (hs : (frCells f).set j u = frCells f') : (framesCells fs).set (i * 14 + j) u = framesCells (fs.set i f') := by
  obtain ⟨hi, rfl⟩ := List.getElem?_eq_some_iff.1 hf
  have e : fs = fs.take i ++ fs[i] :: fs.drop (i + 1) := by rw [← List.drop_eq_getElem_cons hi]; exact (List.take_append_drop i fs).symm
  have hw1 : FrsWf (fs.take i) := fun f h => hw f (List.mem_of_mem_take h)
  have hl : (fs.take i).length = i := by rw [List.length_take]; omega
  have h14 : (frCells fs[i]).length = 14 := by have := hw fs[i] (List.getElem_mem hi); simp [frCells, i64s, this]
  have e2 : fs.set i f' = fs.take i ++ f' :: fs.drop (i + 1) := List.set_eq_take_append_cons_drop.trans (by rw [if_pos hi])
  rw [e2]
  conv => lhs; rw [e]
  rw [framesCells_append, framesCells_append, List.set_append_right _ _ (by rw [framesCells_length _ hw1, hl]; omega), framesCells_length _ hw1, hl, show i * 14 + j - i * 14 = j by omega]
  congr 1
  show (frCells fs[i] ++ framesCells _).set j u = frCells f' ++ framesCells _
  rw [List.set_append_left _ _ (by omega), hs]
/-- A state whose lists are owned, these by name. -/
structure Junk (w : World) (base : Nat) (fv ev av : Value) (S : St) (gs : List Fr) : Prop where
  mem : S.mem.length = 16
  len : gs.length = S.frames.length
  wf : FrsWf gs
  frames : w.ownsRow base 54 14 fv S.frames.length (framesCells gs)
  events : w.ownsRow base 3 1 ev S.events.length (i64s S.events)
  answers : IntsVal w av S.answers
  low : LowV base av
  apart : ∀ a n cp, av = .slice (some a) n cp → 0 < n → some a.block ≠ fv.ownBlock
theorem StO.junk {w : World} {base : Nat} {cs : Array Value} {S : St} (h : StO w base (.agg cs) S) : ∃ fv ev av, cs = (stCells S fv ev av).toArray ∧ Junk w base fv ev av S S.frames := by
  obtain ⟨fv, ev, av, e, hm, hw, h1, h2, h3, h4, h5⟩ := h
  exact ⟨fv, ev, av, Value.agg.inj e, hm, rfl, hw, h1, h2, h3, h4, h5⟩
theorem Junk.below {w w' : World} {base : Nat} {fv ev av : Value} {S : St} {gs : List Fr} (h : Junk w base fv ev av S gs) (hb : Below w.heap.size w w') : Junk w' base fv ev av S gs :=
  ⟨h.mem, h.len, h.wf, ownsRow_below h.frames hb, ownsRow_below h.events hb, h.answers.keeps (keeps_below hb), h.low, h.apart⟩
theorem Junk.val {w : World} {base : Nat} {fv ev av : Value} {S : St} {gs : List Fr} (h : Junk w base fv ev av S gs) : StVal w (.agg (stCells S fv ev av).toArray) { S with frames := gs } := by
  refine ⟨fv, ev, av, rfl, h.mem, ?_, ints_of_own h.events, h.answers⟩
  have := h.frames
  rw [← h.len] at this
  exact frames_of_own h.wf this
theorem Junk.form {w : World} {base : Nat} {fv ev av : Value} {S : St} {gs : List Fr} (h : Junk w base fv ev av S gs) : ∃ fa fb cap, fv = .slice fa S.frames.length cap ∧ (0 < S.frames.length → fa = some ⟨fb, 0, none⟩) ∧ S.frames.length ≤ cap ∧ cap ≤ 9223372036854775807 ∧ (0 < S.frames.length → base ≤ fb ∧ fb < w.heap.size) := by
  rcases h.frames.2 with ⟨rfl, h0⟩ | ⟨g, cap, cur, rfl, hb, hg, hn, hm, _, _⟩
  · exact ⟨none, 0, 0, by rw [h0], fun h => by omega, by omega, by omega, fun h => by omega⟩
  · unfold maxLen at hm
    exact ⟨_, g, cap, rfl, fun _ => rfl, hn, by omega, fun _ => ⟨hb, lt_of_block hg⟩⟩
theorem Junk.num {w : World} {base fb cap n : Nat} {ev av : Value} {S : St} {gs : List Fr} (h : Junk w base (.slice (some ⟨fb, 0, none⟩) n cap) ev av S gs) : n = S.frames.length ∧ ∃ cur, w.heap[fb]? = some (.cells cur 54 (0, 0)) := by
  rcases h.frames.2 with ⟨e, h0⟩ | ⟨g, cap', cur, e, hb, hg, hn, hm, _, _⟩
  · simp at e
  · simp only [Value.slice.injEq, Option.some.injEq, Addr.mk.injEq, and_true] at e
    obtain ⟨e1, e2, e3⟩ := e
    exact ⟨e2, cur, by rw [e1]; exact hg⟩
theorem Junk.store {w : World} {base fb cap n : Nat} {ev av : Value} {S : St} {gs : List Fr} (h : Junk w base (.slice (some ⟨fb, 0, none⟩) n cap) ev av S gs) (i r : Nat) (hr : r < 12) (v : Int) (g : Fr) (hg : gs[i]? = some g) :
    Junk (w.setCell ⟨fb, i * 14 + 2 + r, none⟩ (.int .i64 v)) base (.slice (some ⟨fb, 0, none⟩) n cap) ev av S (gs.set i ⟨g.fn, g.pc, g.regs.set r v⟩) := by
  obtain ⟨rfl, -⟩ := h.num
  have hef : ev.ownBlock ≠ some fb := by
    rcases own_apart h.frames h.events (by decide) with h0 | h0
    · simp [Value.ownBlock] at h0
    · intro e; exact h0 (by rw [e]; rfl)
  refine ⟨h.mem, by simp [h.len], ?_, ?_, ownsRow_setCell_other h.events hef _, ints_setCell h.answers _ (fun a n cp e hn => ?_), h.low, h.apart⟩
  · intro f hf
    rcases List.mem_or_eq_of_mem_set hf with h1 | rfl
    · exact h.wf f h1
    · have := h.wf g (List.mem_of_getElem? hg); simpa using this
  · have := (h.frames.stored (i * 14 + (2 + r)) (.int .i64 v)).1
    rw [framesCells_at gs h.wf i ⟨g.fn, g.pc, g.regs.set r v⟩ (2 + r) (by omega) _ g hg (frCells_reg g r v)] at this
    rw [show i * 14 + 2 + r = i * 14 + (2 + r) by omega]
    exact this
  · have := h.apart a n cp e hn
    simpa [Value.ownBlock] using this
theorem Junk.frame {w : World} {base fb cap n : Nat} {ev av : Value} {S : St} {gs : List Fr} (h : Junk w base (.slice (some ⟨fb, 0, none⟩) n cap) ev av S gs) (i : Nat) (g : Fr) (hg : gs[i]? = some g) :
    w.rangeAt fb (i * 14) (frCells g) ∧ g.regs.length = 12 := by
  obtain ⟨rfl, -⟩ := h.num
  obtain ⟨hi, rfl⟩ := List.getElem?_eq_some_iff.1 hg
  refine ⟨fun j u hu => ?_, h.wf _ (List.getElem_mem hi)⟩
  have hj : j < 14 := by
    have h14 : (frCells gs[i]).length = 14 := by have := h.wf gs[i] (List.getElem_mem hi); simp [frCells, i64s, this]
    have := (List.getElem?_eq_some_iff.1 hu).1
    omega
  have := (@World.ownsRow.cells _ _ _ _ _ _ _ h.frames) (g := fb) rfl (i * 14 + j) u (by rw [framesCells_get gs h.wf i j hi hj]; exact hu)
  rw [Addr.add_mid] at this
  simpa using this
theorem Junk.reg {w : World} {base fb cap n : Nat} {ev av : Value} {S : St} {gs : List Fr} (h : Junk w base (.slice (some ⟨fb, 0, none⟩) n cap) ev av S gs) (i : Nat) (g : Fr) (hg : gs[i]? = some g) (r : Nat) (hr : r < 12) :
    w.cell? ⟨fb, i * 14 + 2 + r, none⟩ = some (.int .i64 (g.regs.getD r 0)) ∧ w.frozen? ⟨fb, i * 14 + 2 + r, none⟩ = false := by
  obtain ⟨h1, h2⟩ := h.frame i g hg
  obtain ⟨cur, hc⟩ := h.num.2
  refine ⟨?_, row_free hc _⟩
  have := h1 (r + 2) (.int .i64 (g.regs.getD r 0)) (by show (i64s g.regs)[r]? = _; rw [i64s, List.getElem?_map, List.getElem?_eq_getElem (by omega)]; simp [List.getD, show r < g.regs.length by omega])
  rw [show i * 14 + 2 + r = i * 14 + (r + 2) by omega]
  exact this
/-- Walk of no step, and one of so many: with the cells laid open. -/
theorem walk_ownC (P : List Fn) (v sv : Value) (S : St) (w : World) (ht : TabOk w) (hc : CallOk w) (hR : ProofAns P 0) (hv : ProgVal w v P) (hs : StVal w sv S) (hI : RunInv P S) (he : S.events.length ≤ 200) :
    Calls Tryd.prog 21 #[.agg #[v], sv, .int .i64 ((0 : Nat) : Int)] w fun e w' => ∃ cs, e = .returned (.tuple #[.agg cs, .int .i64 0]) ∧ (Tryd.prog.info? 29).map (·.size) = some cs.size ∧ zeroStCells.size = cs.size ∧ cs.all (·.oneCell') = true ∧ StO w' w.heap.size (.agg cs) S ∧ Below w.heap.size w w' := by
  refine (walk_own P v sv S 0 w ht hc hR hv hs (stays_of_run hR hI 0) (by omega) (by omega)).mono ?_
  rintro e w' ⟨v', rfl, hst, hb⟩
  obtain ⟨cs, rfl, c1, c2, c3⟩ := hst.at.val.cells
  exact ⟨cs, rfl, c1, c2, c3, hst, hb⟩
theorem walk_anyC (P : List Fn) (v sv : Value) (S : St) (N : Nat) (w : World) (ht : TabOk w) (hc : CallOk w) (hR : ProofAns P 0) (hv : ProgVal w v P) (hs : StVal w sv S) (hI : RunInv P S) (hN : N ≤ 10000) (he : S.events.length ≤ 1000) :
    Calls Tryd.prog 21 #[.agg #[v], sv, .int .i64 ((N : Nat) : Int)] w fun e w' => ∃ cs, e = .returned (.tuple #[.agg cs, .int .i64 0]) ∧ (Tryd.prog.info? 29).map (·.size) = some cs.size ∧ zeroStCells.size = cs.size ∧ cs.all (·.oneCell') = true ∧ StAt w' w.heap.size (.agg cs) (walkS P N S) ∧ Below w.heap.size w w' := by
  refine (walk_any P v sv S N w ht hc hR hv hs (stays_of_run hR hI N) (by omega) (by omega)).mono ?_
  rintro e w' ⟨v', rfl, hst, hb⟩
  obtain ⟨cs, rfl, c1, c2, c3⟩ := hst.val.cells
  exact ⟨cs, rfl, c1, c2, c3, hst, hb⟩
/-- The frames of a state in memory, one by one. -/
theorem StVal.framesJ {w : World} {cs : Array Value} {S : St} (h : StVal w (.agg cs) S) : ∃ fr b off cap, cs[2]? = some (.slice fr S.frames.length cap) ∧ S.frames.length ≤ cap ∧ cap ≤ 9223372036854775807 ∧ (0 < S.frames.length → fr = some ⟨b, off, none⟩) ∧ ∀ i (hi : i < S.frames.length), w.rangeAt b (off + i * 14) (frCells S.frames[i]) ∧ S.frames[i].regs.length = 12 := by
  obtain ⟨fv, ev, av, e, hm, hf, -⟩ := h
  obtain rfl := Value.agg.inj e
  obtain ⟨hw, ao, b, off, n, cap, rfl, hl, ha, hcs, hcp, hx⟩ := hf
  subst hl
  unfold maxLen at hx
  exact ⟨ao, b, off, cap, rfl, hcp.1, by omega, ha, fun i hi => ⟨hcs i hi, hw _ (List.getElem_mem hi)⟩⟩
/-- One bit of a number: shifted down, the lowest. -/
theorem bit_down (m u : Nat) (hm : m < 4096) (_hu : u < 12) : bits .and .i64 ((m : Int) / 2 ^ u) 1 = if m.testBit u = true then 1 else 0 := by
  have e : ((m : Int) / 2 ^ u) = ((m / 2 ^ u : Nat) : Int) := by rw [Int.natCast_ediv, Int.natCast_pow]; rfl
  have hd : m / 2 ^ u < 65536 := Nat.lt_of_le_of_lt (Nat.div_le_self _ _) (by omega)
  have h1 := bits_and_nat (m / 2 ^ u) 1 hd (by omega)
  rw [e]
  refine h1.trans ?_
  rw [Nat.and_one_is_mod, Nat.testBit_eq_decide_div_mod_eq]
  simp only [decide_eq_true_eq]
  split <;> omega
end Go.Proofs.YteabbanjjdmjkaaDoor
