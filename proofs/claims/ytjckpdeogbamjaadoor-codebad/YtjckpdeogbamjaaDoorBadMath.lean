/- A program that was built, and whose first function has one instruction more: it lies in memory, and what Check says of it. -/
import Derived.Test.YtjckpdeogbamjaaDoorShapeOk
namespace Go.Proofs.YtjckpdeogbamjaaDoor
open Go Go.RowKit

theorem cell_set_far {w : World} {a p : Addr} {u v : Value} (h : w.cell? a = some v) (hne : a.block ≠ p.block) : (w.setCell p u).cell? a = some v :=
  (World.cell?_of_block (w := w) (Below.heap_setCell _ _ _ _ hne)).trans h

/-- The first function's code was appended to, and the field that leads to it was set. -/
theorem bad_prog {wx w4 : World} {base tF tI g cap : Nat} {f0 : Fn} {rest : List Fn} {u0 v4 : Value} {us : List Value} {x : Ins} (ht : tI ≠ tF)
    (hbt : Built wx base tF tI (.slice (some ⟨g, 0, none⟩) (rest.length + 1) cap) (f0 :: rest) (u0 :: us)) (hap : CodesApart (u0 :: us)) (hg : wx.grownBy w4 u0.ownBlock)
    (hown4 : w4.ownsRow base tI 5 v4 (f0.code.length + 1) (codeCells f0.code ++ insCells x)) :
    w4.heap[g]? = wx.heap[g]? ∧ ProgVal (w4.setCell ⟨g, 2, none⟩ v4) (.slice (some ⟨g, 0, none⟩) (rest.length + 1) cap) (⟨f0.params, f0.regs, f0.code ++ [x]⟩ :: rest) := by
  have hrow : wx.ownsRow base tF 3 (.slice (some ⟨g, 0, none⟩) (rest.length + 1) cap) (rest.length + 1) (fnsCells (f0 :: rest) (u0 :: us)) := hbt.row
  have hgb : (Value.slice (some ⟨g, 0, none⟩) (rest.length + 1) cap).ownBlock = some g := rfl
  have h00 := hbt.codes 0 (by simp)
  have hne0 : some g ≠ u0.ownBlock := by
    rcases own_apart hrow h00 (Ne.symm ht) with h | h
    · rw [hgb] at h; cases h
    · rwa [hgb] at h
  have hglt : g < wx.heap.size := (hrow.lt g hgb).2
  have hblk : w4.heap[g]? = wx.heap[g]? := hg.block g hglt hne0
  have hrow4 : w4.ownsRow base tF 3 (.slice (some ⟨g, 0, none⟩) (rest.length + 1) cap) (rest.length + 1) (fnsCells (f0 :: rest) (u0 :: us)) := hrow.kept hg (Or.inr (by rw [hgb]; exact hne0))
  have hcells := @World.ownsRow.cells _ _ _ _ _ _ _ hrow4
  have cell : ∀ j u, (fnsCells (f0 :: rest) (u0 :: us))[j]? = some u → w4.cell? ⟨g, j, none⟩ = some u := fun j u hu => by
    have := hcells (g := g) rfl j u hu
    rwa [Addr.add_lit, Nat.zero_add] at this
  have cellW : ∀ j u, j ≠ 2 → (fnsCells (f0 :: rest) (u0 :: us))[j]? = some u → (w4.setCell ⟨g, 2, none⟩ v4).cell? ⟨g, j, none⟩ = some u := fun j u hj hu => by
    rw [World.cell?_setCell_other _ _ _ _ (fun e => hj (by simpa using (congrArg Addr.off e).symm))]
    exact cell j u hu
  have hnb : ∀ v n xs, w4.ownsRow base tI 5 v n xs → v.ownBlock ≠ some g := fun v n xs h e => by
    rcases own_apart h hrow4 ht with h1 | h1
    · rw [h1] at e; cases e
    · rw [hgb] at h1; exact h1 e
  rcases hrow.2 with ⟨h0, _⟩ | ⟨g', cap', cur, he, _, hcur, hn, hm, hsz, _⟩
  · simp at h0
  simp only [Value.slice.injEq, Option.some.injEq, Addr.mk.injEq, and_true, true_and] at he
  obtain ⟨rfl, rfl⟩ := he
  refine ⟨hblk, some ⟨g, 0, none⟩, g, 0, rest.length + 1, cap, rfl, ⟨by simp, fun _ => rfl, fun k hk => ?_⟩, ⟨hn, fun h => by cases h⟩, hm⟩
  rw [Nat.zero_add]
  have hul : us.length = rest.length := by have := hbt.len; simpa using this
  match k, hk with
  | 0, hk =>
    refine ⟨v4, ?_, ?_, ?_, ?_⟩
    · exact cellW 0 _ (by omega) rfl
    · exact cellW 1 _ (by omega) rfl
    · have h2 : w4.heap[g]? = some (.cells cur tF) := hblk.trans hcur
      have h3 := heap_setCell_same w4 g 2 cur tF v4 h2
      have hsz2 : 2 < cur.size := by omega
      simp [World.cell?, h3, hsz2]
    · exact code_of_own (by simpa [codeCells] using ownsRow_setCell_other hown4 (hnb _ _ _ hown4) v4)
  | k + 1, hk =>
    have hk' : k < rest.length := by simpa using hk
    have hc := hbt.codes (k + 1) (by simpa using hk')
    have hc4 := hc.kept hg (by
      have h1 := hap (k + 1) 0 us[k] u0 (by simp [hul, hk']) (by simp) (by omega)
      simpa using h1)
    have hcW : (w4.setCell ⟨g, 2, none⟩ v4).ownsRow base tI 5 _ _ _ := ownsRow_setCell_other hc4 (hnb _ _ _ hc4) v4
    have hget := fun j hj => fnsCells_get (f0 :: rest) (u0 :: us) hbt.len (k + 1) j (by simpa using hk') hj
    refine ⟨us[k], ?_, ?_, ?_, ?_⟩
    · exact cellW ((k + 1) * 3) _ (by omega) (by have := hget 0 (by omega); simpa [fnCells] using this)
    · exact cellW ((k + 1) * 3 + 1) _ (by omega) (by have := hget 1 (by omega); simpa [fnCells] using this)
    · exact cellW ((k + 1) * 3 + 2) _ (by omega) (by have := hget 2 (by omega); simpa [fnCells] using this)
    · exact code_of_own (by simpa using hcW)

theorem firstErr_snoc {α : Type} (g : α → Int) (l : List α) (x : α) (h : ∀ y ∈ l, g y = 0) : firstErr g (l ++ [x]) = g x := by
  induction l with
  | nil => show firstErr g [x] = _; unfold firstErr; split <;> simp_all [firstErr]
  | cons y r ih =>
    show firstErr g (y :: (r ++ [x])) = _
    unfold firstErr
    rw [if_pos (h y (by simp))]
    exact ih (fun z hz => h z (by simp [hz]))

/-- One place more lets all instructions stand. -/
theorem codeInstr_more {x : Ins} {regs places funcs : Int} (h : codeInstr x regs places funcs = 0) : codeInstr x regs (places + 1) funcs = 0 := by
  unfold codeInstr at h ⊢
  split at h
  · omega
  rename_i h0
  rw [if_neg h0]
  split at h
  · omega
  rename_i h1
  rw [if_neg h1]
  split at h
  · omega
  rename_i h2
  rw [if_neg h2]
  split at h
  · omega
  rename_i h3
  rw [if_neg h3]
  split at h
  · omega
  rename_i h4
  have h5 : immB x.imm (hasOf x.op) (places + 1) funcs = true := by
    have h4' : immB x.imm (hasOf x.op) places funcs = true := by simpa using h4
    unfold immB at h4' ⊢
    split
    · rfl
    rename_i c1
    rw [if_neg c1] at h4'
    split
    · rename_i c2
      rw [if_pos c2] at h4'
      simp only [belowB, decide_eq_true_eq] at h4' ⊢
      omega
    · rename_i c2
      rw [if_neg c2] at h4'
      exact h4'
  rw [h5]
  simp

/-- What Check says of a program whose first function has an instruction more that it refuses. -/
theorem bad_code {f0 : Fn} {rest : List Fn} {x : Ins} {c : Int} (h : codeProg (f0 :: rest) = 0) (hl : f0.code.length ≤ 39) (hx : codeInstr x f0.regs ((f0.code.length : Int) + 1) ((rest.length : Int) + 1) = c) (hc : c ≠ 0) :
    codeProg (⟨f0.params, f0.regs, f0.code ++ [x]⟩ :: rest) = c := by
  obtain ⟨h1, h2, h3⟩ := codeProg_zero h
  have h4 := h3 f0 (by simp)
  obtain ⟨a1, a2, a3, a4, a5, a6, a7, a8⟩ := codeFunc_zero h4
  simp only [List.length_cons] at h2 a8
  have e1 : codeFunc ⟨f0.params, f0.regs, f0.code ++ [x]⟩ ((rest.length : Int) + 1) = c := by
    unfold codeFunc
    dsimp only
    rw [List.length_append, List.length_singleton]
    rw [if_neg (by omega), if_neg (by omega), if_neg (by omega), if_neg (by omega), if_neg (by omega), if_neg (by omega), if_neg (by omega)]
    rw [firstErr_snoc _ _ _ (fun y hy => ?_)]
    · simpa using hx
    · have := codeInstr_more (a8 y hy)
      simpa using this
  unfold codeProg
  rw [List.length_cons, if_neg (by omega), if_neg (by omega)]
  unfold firstErr
  have e2 : (((rest.length + 1 : Nat)) : Int) = (rest.length : Int) + 1 := by omega
  rw [e2, e1, if_neg hc]

/-- The six instructions that are refused. -/
def badIns (regs : Int) (L m : Nat) : List Ins := [⟨1, regs, 0, 0, 0⟩, ⟨15, 0, 0, 0, (L : Int) + 1⟩, ⟨17, 0, 0, 0, (m : Int)⟩, ⟨19, 0, -1, 0, 0⟩, ⟨15, 0, 1, 0, 0⟩, ⟨2, 0, 0, 0, 1⟩]

theorem badIns_code (regs : Int) (L m k : Nat) (x : Ins) (hx : (badIns regs L m)[k]? = some x) : codeInstr x regs ((L : Int) + 1) (m : Int) = 2 := by
  have hk : k < 6 := by
    rcases Nat.lt_or_ge k 6 with h | h
    · exact h
    · rw [List.getElem?_eq_none (by simpa [badIns] using h)] at hx; simp at hx
  rw [instr_same]
  have hc : k = 0 ∨ k = 1 ∨ k = 2 ∨ k = 3 ∨ k = 4 ∨ k = 5 := by omega
  rcases hc with rfl | rfl | rfl | rfl | rfl | rfl
  all_goals
    simp [badIns] at hx
    subst hx
    simp [refInstr, refOk1, refOk2, regMayB, setsB, readsAB, readsBB, inB]
    try omega
theorem badOp_code (regs places funcs : Int) (z : Int) (h : 0 ≤ z) : codeInstr ⟨20 + z, 0, 0, 0, 0⟩ regs places funcs = 3 := by
  have e : hasOf (20 + z) = 0 := by unfold hasOf; rw [if_neg (by omega)]
  simp [codeInstr, e]

end Go.Proofs.YtjckpdeogbamjaaDoor
