/- Contracts of the document's answer to P3.1 and P3.2 (package tierlineref): Behind, wayTo. -/
import Derived.Test.YtepnhemlhogmgaaDoorSeenMath
import Derived.Test.YtepnhemlhogmgaaDoorCutDown
import Derived.Deep.DeepCutAuto
import Derived.Deep.LoopGhost
namespace Go.Proofs.YtepnhemlhogmgaaDoor
open Go Go.RowKit

theorem ints_third3 (w : World) (o1 o2 : Obj) (l : List Int) (t : Nat) (hm : l.length ≤ 10) : IntsVal (((w.alloc o1).alloc o2).alloc (.cells (i64s l).toArray t)) (.slice (some ⟨w.heap.size + 1 + 1, 0, none⟩) l.length l.length) l := by
  have hg : (((w.alloc o1).alloc o2).alloc (.cells (i64s l).toArray t)).heap[w.heap.size + 1 + 1]? = some (.cells (i64s l).toArray t) := by
    have := heap_alloc_new ((w.alloc o1).alloc o2) (.cells (i64s l).toArray t)
    simpa using this
  refine ⟨_, w.heap.size + 1 + 1, 0, _, l.length, rfl, rfl, fun _ => rfl, fun k hk => ?_, ⟨Nat.le_refl _, fun e => by cases e⟩, by unfold maxLen; omega⟩
  rw [Nat.zero_add, cell_of_row _ _ k (i64s l).toArray t (0, 0) hg]
  simp [i64s, hk]

set_option maxRecDepth 100000 in
theorem behind_any (fp fr : Int) (b off n cap pc : Nat) (x : Ins) (w : World) (hx : insAt w b (off + pc * 5) x) (h0 : x.op = 15 ∨ x.op = 16 → 0 ≤ x.imm) (hp : pc < n) (hn : n ≤ 1000) :
    Calls Tryd.prog 47 #[.agg #[.int .i64 fp, .int .i64 fr, .slice (some ⟨b, off, none⟩) n cap], .int .i64 pc] w fun e w' => ∃ v', e = .returned v' ∧ IntsVal w' v' (behindI x pc) ∧ (∀ b off n c, v' = .slice (some ⟨b, off, none⟩) n c → w.heap.size ≤ b) ∧ Below w.heap.size w w' := by
  obtain ⟨d0, d1, d2, d3, d4⟩ := hx
  obtain ⟨op, dst, a, b', imm⟩ := x
  dsimp only at h0 d0 d1 d2 d3 d4
  have t0 := fun o => cell_alloc d0 o
  have t1 := fun o => cell_alloc d1 o
  have t2 := fun o => cell_alloc d2 o
  have t3 := fun o => cell_alloc d3 o
  have t4 := fun o => cell_alloc d4 o
  have hpI : (pc : Int) < n := by omega
  clear d0 d1 d2 d3 d4
  by_cases h15 : op = 15
  · subst h15
    have e : behindI ⟨15, dst, a, b', imm⟩ pc = [imm] := by have := h0 (Or.inl rfl); simp [behindI, behind]; omega
    rw [e]
    clear e h0
    go_enter Tryd.func47, Tryd.ntmps47
    go_wp2
    go_ret
    exact ⟨_, rfl, ints_third3 w _ _ [imm] _ (by simp), fun b off n c h => by simp at h; omega, (((Below.refl _ _).alloc (Nat.le_refl _) _).alloc (by simp) _).alloc (by simp; omega) _⟩
  by_cases h16 : op = 16
  · subst h16
    have e : behindI ⟨16, dst, a, b', imm⟩ pc = [(pc : Int) + 1, imm] := by have := h0 (Or.inr rfl); simp [behindI, behind]; omega
    rw [e]
    clear e h0
    go_enter Tryd.func47, Tryd.ntmps47
    go_wp2
    go_ret
    exact ⟨_, rfl, ints_third3 w _ _ [(pc : Int) + 1, imm] _ (by simp), fun b off n c h => by simp at h; omega, (((Below.refl _ _).alloc (Nat.le_refl _) _).alloc (by simp) _).alloc (by simp; omega) _⟩
  by_cases h19 : op = 19
  · subst h19
    have e : behindI ⟨19, dst, a, b', imm⟩ pc = [] := by simp [behindI, behind]
    rw [e]
    clear e h0
    go_enter Tryd.func47, Tryd.ntmps47
    go_wp2
    go_ret
    exact ⟨_, rfl, ints_nil _, fun b off n c h => by simp at h, ((Below.refl _ _).alloc (Nat.le_refl _) _).alloc (by simp) _⟩
  · have e : behindI ⟨op, dst, a, b', imm⟩ pc = [(pc : Int) + 1] := by simp [behindI, behind, h15, h16, h19]
    have e1 : (op == 15) = false := by simpa using h15
    have e2 : (op == 16) = false := by simpa using h16
    have e3 : (op == 19) = false := by simpa using h19
    rw [e]
    clear e h0 h15 h16 h19
    go_enter Tryd.func47, Tryd.ntmps47
    go_wp2
    go_ret
    exact ⟨_, rfl, ints_third3 w _ _ [(pc : Int) + 1] _ (by simp), fun b off n c h => by simp at h; omega, (((Below.refl _ _).alloc (Nat.le_refl _) _).alloc (by simp) _).alloc (by simp; omega) _⟩

def bls (s : List Bool) : List Value := s.map Value.bool
abbrev BoolRow (w : World) (g n : Nat) (s : List Bool) : Prop := w.ownsRow 0 4 1 (.slice (some ⟨g, 0, none⟩) n n) n (bls s)
theorem bool_cell {w : World} {g n : Nat} {s : List Bool} (h : BoolRow w g n s) (hl : s.length = n) (i : Nat) (hi : i < n) : w.cell? ⟨g, i, none⟩ = some (.bool (s.getD i false)) := by
  rw [h.cellAt i (by omega)]; simp [bls, List.getD, show i < s.length by omega]
theorem bls_set (s : List Bool) (i : Nat) (v : Bool) : (bls s).set i (.bool v) = bls (s.set i v) := by simp [bls, List.map_set]
theorem infoBool : (Tryd.prog.info? 4).map (fun i => (i.zero, i.size, i.bytes)) = some (some (.bool false), 1, 1) := by kernel_rfl
theorem made_false (c : Nat) : (madeCells (Value.bool false).cells (c * 1)).toList = bls (List.replicate c false) := by
  simp [madeCells, bls, Value.cells]
  apply List.ext_getElem
  · simp
  · intro i h1 h2
    have : i % 1 = 0 := Nat.mod_one i
    simp [this]
theorem bool_store {w : World} {g n : Nat} {s : List Bool} (h : BoolRow w g n s) (i : Nat) (v : Bool) : BoolRow (w.setCell ⟨g, i, none⟩ (.bool v)) g n (s.set i v) ∧ w.grownBy (w.setCell ⟨g, i, none⟩ (.bool v)) (some g) := by
  have := h.stored i (.bool v)
  rw [bls_set] at this
  exact this

end Go.Proofs.YtepnhemlhogmgaaDoor
