/- Contracts of slices.Clone, for numbers and for frames: a row of the call's own. -/
import Derived.Test.YtfbebffncdcjeaaDoorFrames
import Derived.Laws.Cover3
namespace Go.Proofs.YtfbebffncdcjeaaDoor
open Go Go.RowKit

theorem ints_none {w : World} {v : Value} {l : List Int} (h : IntsVal w v l) : (v = .slice none 0 0 ∧ l = []) ∨ ∃ b off cap, v = .slice (some ⟨b, off, none⟩) l.length cap ∧ (∀ j u, (i64s l)[j]? = some u → w.cell? ((⟨b, off, none⟩ : Addr).add j) = some u) ∧ l.length ≤ cap ∧ cap ≤ maxLen ∨ ∃ a cap, v = .slice (some a) 0 cap ∧ l = [] := by
  obtain ⟨ao, b, off, n, cap, rfl, rfl, ha, hc, ⟨hn, h0⟩, hm⟩ := h
  cases ao with
  | none =>
    have := h0 rfl
    have hl : l = [] := List.length_eq_zero_iff.1 (by omega)
    subst hl; subst this
    exact .inl ⟨rfl, rfl⟩
  | some a =>
    right
    by_cases hp : 0 < l.length
    · have := ha hp
      obtain rfl : a = ⟨b, off, none⟩ := by simpa using this
      refine ⟨b, off, cap, .inl ⟨rfl, fun j u hu => ?_, hn, hm⟩⟩
      have hj : j < l.length := by
        rcases Nat.lt_or_ge j l.length with h | h
        · exact h
        · simp [i64s, List.getElem?_eq_none h] at hu
      have hcj := hc j hj
      simp [i64s, hj] at hu
      subst hu
      rw [Addr.add_mid]
      exact hcj
    · have hl : l = [] := List.length_eq_zero_iff.1 (by omega)
      subst hl
      exact ⟨0, 0, 0, .inr ⟨a, cap, rfl, rfl⟩⟩
/-- What a slice of numbers leads to, not nil. -/
theorem ints_some {w : World} {v : Value} {l : List Int} (h : IntsVal w v l) : (v = .slice none 0 0 ∧ l = []) ∨ ∃ a cap, v = .slice (some a) l.length cap ∧ (∀ j u, (i64s l)[j]? = some u → w.cell? (a.add j) = some u) := by
  rcases ints_none h with h | ⟨b, off, cap, ⟨h1, h2, _⟩ | ⟨a, cap, h1, h2⟩⟩
  · exact .inl h
  · exact .inr ⟨_, cap, h1, h2⟩
  · subst h2
    exact .inr ⟨a, cap, h1, fun j u hu => by simp [i64s] at hu⟩

theorem empty_own (w : World) (t size : Nat) : (w.alloc (.cells #[] t)).ownsRow w.heap.size t size (.slice (some ⟨w.heap.size, 0, none⟩) 0 0) 0 [] := by
  refine ⟨by simp, .inr ⟨w.heap.size, 0, #[], rfl, Nat.le_refl _, heap_alloc_last w _, Nat.le_refl _, Nat.zero_le _, by simp, by simp⟩⟩

theorem eql_nil {P : Program} (w : World) (t e : TypeId) (a : Option Addr) (l c : Nat) (h : P.underlying t = some (.slice e)) : (binOp .eql t (.slice a l c) (.slice none 0 0)).run P w = .ok (.bool a.isNone) w := by
  simp only [binOp]
  simp [run_equal_slice_nil w t e a l c h]

set_option maxRecDepth 100000 in
theorem clone_ints (v : Value) (l : List Int) (w : World) (hv : IntsVal w v l) (hs : l.length * 8 ≤ 140737488355328) :
    Calls Tryd.prog 29 #[v] w fun e w' => ∃ v', e = .returned v' ∧ w'.ownsRow w.heap.size 3 1 v' l.length (i64s l) ∧ Below w.heap.size w w' := by
  obtain ⟨i64i, hi64, hz0, hz1, hz2⟩ := info_parts info64
  have hq := fun w a l c => eql_nil (P := Tryd.prog) w 25 3 a l c Tryd.underlying25
  rcases ints_some hv with ⟨rfl, rfl⟩ | ⟨a, cap, rfl, hc⟩
  · clear hv
    go_enter Tryd.func29, Tryd.ntmps29
    go_wp2
    go_ret
    exact ⟨_, rfl, World.ownsRow_nil _ _ _ _, Below.refl _ _⟩
  · have hm : l.length ≤ maxLen := by unfold maxLen; omega
    have HC : Hid (∀ o j u, (i64s l)[j]? = some u → (w.alloc o).cell? (a.add j) = some u) := fun o j u hu => keeps_below ((Below.refl _ _).alloc (Nat.le_refl _) _) _ _ (hc j u hu)
    have hE := empty_own w 3 1
    clear hc hv
    go_enter Tryd.func29, Tryd.ntmps29
    go_wp2_with (at_builtin; refine wpList_append_own _ rfl (.tmp 5) (.tmp 6) 25 rfl w.heap.size 3 i64i _ 1 8 Tryd.underlying25 hi64 hz0 hz1 hz2 rfl (by decide) _ 0 [] rfl hE a l.length cap (i64s l) rfl (by rw [i64s_length]; omega) (HC.out _) (i64s_one _) (by omega) (by omega) (by simp) ?_; intro v1 w1 hown1 hg1 _)
    go_ret
    refine ⟨_, rfl, by simpa using hown1, ?_⟩
    exact ((Below.refl _ w).alloc (Nat.le_refl _) _).trans (grown_base hE (by simp) hg1)

/-! ### Frames -/
def framesCells (fs : List Fr) : List Value := fs.flatMap frCells
def FrsWf (fs : List Fr) : Prop := ∀ f ∈ fs, f.regs.length = 12
theorem framesCells_length (fs : List Fr) (h : FrsWf fs) : (framesCells fs).length = fs.length * 14 := by
  induction fs with
  | nil => rfl
  | cons f r ih =>
    have : framesCells (f :: r) = frCells f ++ framesCells r := rfl
    rw [this, List.length_append, ih (fun g hg => h g (List.mem_cons_of_mem _ hg)), frCells_length f (h f (List.mem_cons_self))]
    simp; omega
theorem framesCells_append (fs gs : List Fr) : framesCells (fs ++ gs) = framesCells fs ++ framesCells gs := by simp [framesCells]
theorem framesCells_one (fs : List Fr) : ∀ u ∈ framesCells fs, u.oneCell' = true := by
  intro u hu
  obtain ⟨f, _, hf⟩ := List.mem_flatMap.1 hu
  exact frCells_one f u hf
theorem framesCells_get (fs : List Fr) (h : FrsWf fs) (k j : Nat) (hk : k < fs.length) (hj : j < 14) : (framesCells fs)[k * 14 + j]? = (frCells fs[k])[j]? := by
  induction fs generalizing k with
  | nil => simp at hk
  | cons f r ih =>
    have e : framesCells (f :: r) = frCells f ++ framesCells r := rfl
    have hf := frCells_length f (h f (List.mem_cons_self))
    rw [e]
    cases k with
    | zero => rw [List.getElem?_append_left (by omega)]; simp
    | succ k =>
      rw [List.getElem?_append_right (by omega), hf]
      have := ih (fun g hg => h g (List.mem_cons_of_mem _ hg)) k (by simpa using hk)
      have e2 : (k + 1) * 14 + j - 14 = k * 14 + j := by omega
      rw [e2, this]; rfl

/-- A slice of frames lies in memory. -/
def FramesVal (w : World) (v : Value) (fs : List Fr) : Prop :=
  FrsWf fs ∧ ∃ ao b off n cap, v = .slice ao n cap ∧ fs.length = n ∧ (0 < n → ao = some ⟨b, off, none⟩) ∧ (∀ k (h : k < fs.length), w.rangeAt b (off + k * 14) (frCells fs[k])) ∧ (n ≤ cap ∧ (ao = none → cap = 0)) ∧ cap ≤ maxLen
theorem FramesVal.keeps {w w' : World} {v : Value} {fs : List Fr} (h : FramesVal w v fs) (k : Keeps w w') : FramesVal w' v fs := by
  obtain ⟨hw, ao, b, off, n, cap, rfl, h1, h2, h3, h4⟩ := h
  exact ⟨hw, ao, b, off, n, cap, rfl, h1, h2, fun i hi j u hu => k _ _ (h3 i hi j u hu), h4⟩
theorem FramesVal.shape {w : World} {v : Value} {fs : List Fr} (h : FramesVal w v fs) : ∃ ao cap, v = .slice ao fs.length cap := by
  obtain ⟨_, ao, b, off, n, cap, rfl, rfl, _⟩ := h
  exact ⟨ao, cap, rfl⟩
theorem frames_of_own {w : World} {base t : Nat} {v : Value} {fs : List Fr} (hw : FrsWf fs) (h : w.ownsRow base t 14 v fs.length (framesCells fs)) : FramesVal w v fs := by
  have hc := @World.ownsRow.cells _ _ _ _ _ _ _ h
  refine ⟨hw, ?_⟩
  rcases h.2 with ⟨rfl, h0⟩ | ⟨g, cap, cur, rfl, _, hg, hn, hm, _, _⟩
  · obtain rfl : fs = [] := List.length_eq_zero_iff.1 h0
    exact ⟨none, 0, 0, 0, 0, rfl, rfl, fun h => by omega, fun k h => by simp at h, ⟨Nat.le_refl _, fun _ => rfl⟩, by simp [maxLen]⟩
  · refine ⟨_, g, 0, _, cap, rfl, rfl, fun _ => rfl, fun i hi j u hu => ?_, ⟨hn, fun e => by cases e⟩, hm⟩
    have hj : j < 14 := by
      have := frCells_length fs[i] (hw _ (List.getElem_mem hi))
      rcases Nat.lt_or_ge j 14 with h | h
      · exact h
      · rw [List.getElem?_eq_none (by omega)] at hu; cases hu
    have := hc (g := g) rfl (i * 14 + j) u (by rw [framesCells_get fs hw i j hi hj]; exact hu)
    rw [Addr.add_mid] at this
    rw [Nat.zero_add]
    simpa using this
/-- What a slice of frames leads to, not nil. -/
theorem frames_some {w : World} {v : Value} {fs : List Fr} (h : FramesVal w v fs) : (v = .slice none 0 0 ∧ fs = []) ∨ ∃ a cap, v = .slice (some a) fs.length cap ∧ (∀ j u, (framesCells fs)[j]? = some u → w.cell? (a.add j) = some u) := by
  obtain ⟨hw, ao, b, off, n, cap, rfl, rfl, ha, hc, ⟨hn, h0⟩, hm⟩ := h
  cases ao with
  | none =>
    have := h0 rfl
    have hl : fs = [] := List.length_eq_zero_iff.1 (by omega)
    subst hl; subst this
    exact .inl ⟨rfl, rfl⟩
  | some a =>
    refine .inr ⟨a, cap, rfl, fun j u hu => ?_⟩
    have hj : j < fs.length * 14 := by
      rw [← framesCells_length fs hw]
      rcases Nat.lt_or_ge j (framesCells fs).length with h | h
      · exact h
      · rw [List.getElem?_eq_none h] at hu; cases hu
    have hk : j / 14 < fs.length := by omega
    obtain rfl : a = ⟨b, off, none⟩ := by simpa using ha (by omega)
    have hg := framesCells_get fs hw (j / 14) (j % 14) hk (by omega)
    rw [show j / 14 * 14 + j % 14 = j by omega] at hg
    rw [hg] at hu
    have := hc (j / 14) hk (j % 14) u hu
    rw [Addr.add_mid]
    rwa [show off + j / 14 * 14 + j % 14 = off + j by omega] at this

theorem infoFrame : (Tryd.prog.info? 56).map (fun i => (i.size, i.bytes)) = some (14, 112) := by kernel_rfl
theorem zeroFrame : (Tryd.prog.info? 56).bind (fun i => i.zero) = some (.agg (zeroFr 0).toArray) := by kernel_rfl

set_option maxRecDepth 100000 in
theorem clone_frames (v : Value) (fs : List Fr) (w : World) (hv : FramesVal w v fs) (hs : fs.length * 112 ≤ 140737488355328) :
    Calls Tryd.prog 53 #[v] w fun e w' => ∃ v', e = .returned v' ∧ w'.ownsRow w.heap.size 56 14 v' fs.length (framesCells fs) ∧ Below w.heap.size w w' := by
  have hq := fun w a l c => eql_nil (P := Tryd.prog) w 26 56 a l c Tryd.underlying26
  obtain ⟨i, hi, e1, e2⟩ : ∃ i, Tryd.prog.info? 56 = some i ∧ i.size = 14 ∧ i.bytes = 112 := by
    have := infoFrame
    cases h : Tryd.prog.info? 56 with
    | none => rw [h] at this; simp at this
    | some i => rw [h] at this; simp at this; exact ⟨i, rfl, this.1, this.2⟩
  have ez : i.zero = some (.agg (zeroFr 0).toArray) := by have := zeroFrame; rw [hi] at this; simpa using this
  have hlen := framesCells_length fs hv.1
  rcases frames_some hv with ⟨rfl, rfl⟩ | ⟨a, cap, rfl, hc⟩
  · clear hv
    go_enter Tryd.func53, Tryd.ntmps53
    go_wp2
    go_ret
    exact ⟨_, rfl, World.ownsRow_nil _ _ _ _, Below.refl _ _⟩
  · have hm : fs.length ≤ maxLen := by unfold maxLen; omega
    have HC : Hid (∀ o j u, (framesCells fs)[j]? = some u → (w.alloc o).cell? (a.add j) = some u) := fun o j u hu => keeps_below ((Below.refl _ _).alloc (Nat.le_refl _) _) _ _ (hc j u hu)
    have hE := empty_own w 56 14
    clear hc hv
    go_enter Tryd.func53, Tryd.ntmps53
    go_wp2_with (at_builtin; refine wpList_append_own _ rfl (.tmp 5) (.tmp 6) 26 rfl w.heap.size 56 i _ 14 112 Tryd.underlying26 hi ez e1 e2 rfl (by decide) _ 0 [] rfl hE a fs.length cap (framesCells fs) rfl hlen (HC.out _) (framesCells_one _) (by omega) (by omega) (by simp) ?_; intro v1 w1 hown1 hg1 _)
    go_ret
    refine ⟨_, rfl, by simpa using hown1, ?_⟩
    exact ((Below.refl _ w).alloc (Nat.le_refl _) _).trans (grown_base hE (by simp) hg1)
end Go.Proofs.YtfbebffncdcjeaaDoor
