/- Runs of known words, op by op; registers and data of a machine. No program is walked but for machines in boxes. -/
import Derived.Test.YtapjfiihfgndeaaDoorCpuWords
namespace Go.Proofs.YtapjfiihfgndeaaDoor
open Go Go.RowKit

/-- A register is set from outside. -/
def Cp.set (c : Cp) (r v : Int) : Cp := { c with regs := c.regs.set r.toNat v }
theorem Cp.Ok.set {c : Cp} (h : c.Ok) (r v : Int) : (c.set r v).Ok := ⟨by simp [Cp.set, h.r], h.d⟩
theorem reg_set {c : Cp} (h : c.Ok) {r q : Int} (v : Int) (r0 : 0 ≤ r) (r1 : r < 32) (q0 : 0 ≤ q) : (c.set r v).reg q = if r = q then v else c.reg q := by
  unfold Cp.set Cp.reg
  dsimp only
  have hr : r.toNat < c.regs.length := by have := h.r; omega
  by_cases e : r = q
  · subst e
    rw [if_pos rfl]; simp [List.getD, hr]
  · rw [if_neg e]
    have : r.toNat ≠ q.toNat := by omega
    simp [List.getD, List.getElem?_set_ne this]
theorem reg_put {c : Cp} (h : c.Ok) {r q : Int} (v : Int) (r0 : 0 ≤ r) (r1 : r < 32) (q0 : 0 ≤ q) : (c.put r v).reg q = if r = q ∧ ¬ r = 0 then v else c.reg q := by
  by_cases e : r = 0
  · have : c.put r v = c := by unfold Cp.put; rw [if_pos e]
    rw [this, if_neg (by simp [e])]
  · have : c.put r v = c.set r v := by unfold Cp.put Cp.set; rw [if_neg e]
    rw [this, reg_set h v r0 r1 q0]
    by_cases e2 : r = q <;> simp [e, e2]
    subst e2; simp [e]
theorem begun_eq (c : Cp) : c.begun = c.set 0 0 := rfl
theorem reg_zero (q : Int) : zeroCp.reg q = 0 := by
  unfold Cp.reg zeroCp noRegs
  simp only [List.getD, List.getElem?_replicate]
  split <;> rfl
theorem reg_go (c : Cp) (p q : Int) : (c.go p).reg q = c.reg q := rfl
theorem reg_stop (c : Cp) (q : Int) : c.stop.reg q = c.reg q := rfl
theorem reg_keep (c : Cp) (t v q : Int) : (c.keep t v).reg q = c.reg q := rfl
theorem doE_mk {x : Mi} (a : Int) (h : x.op ≤ 19) : doE x a = 0 := by unfold doE; rw [if_neg (by omega), if_neg (by omega)]
theorem doC_mk {x : Mi} (a b : Int) (c : Cp) (h : x.op ≤ 19) : doC x a b c = (c.put x.rd (mdC x.op a (snd x b))).go (c.pc + 1) := by
  unfold doC
  rw [if_neg (by omega), if_neg (by omega), if_neg (by omega), if_neg (by omega), if_neg (by omega), if_neg (by omega), if_neg (by omega)]
theorem run_mk {ws : List Int} {c : Cp} (x : Mi) (n k j : Nat) (hh : c.halted = false) (hc : c.pc = k) (hk : ws[k]? = some (wordI x)) (hx : MiOk x) (ho : x.op ≤ 19) :
    runA ws (n + 1) j c = runA ws n (j + 1) ((c.put x.rd (mdC x.op (c.reg x.rs1) (snd x (c.reg x.rs2)))).go ((k + 1 : Nat) : Int)) := by
  rw [run_step n k j hh hc hk hx (doE_mk _ ho), doC_mk _ _ _ ho, hc]; rfl
theorem run_ecall {ws : List Int} {c : Cp} (n k j : Nat) (hh : c.halted = false) (hc : c.pc = k) (hk : ws[k]? = some (wordI ⟨29, 0, 0, 0, 0⟩)) (hx : MiOk ⟨29, 0, 0, 0, 0⟩) : runA ws (n + 1) j c = (c.stop, ((j + 1 : Nat) : Int), 0) := by
  rw [run_step n k j hh hc hk hx rfl]
  exact run_stop _ _ rfl
theorem runAns_eq {ws : List Int} {c : Cp} (most : Nat) (h1 : ws.length ≤ 32768) (h2 : most ≤ 4000000) : runAns ws c (most : Int) = runA ws most 0 c.begun := by
  unfold runAns; rw [if_neg (by omega), if_neg (by omega), Int.toNat_natCast]
theorem halt_ok : MiOk ⟨29, 0, 0, 0, 0⟩ := ⟨by decide, by decide, by decide⟩

/-- A machine in a box. -/
structure CAt (w : World) (g : Nat) (c : Cp) : Prop where
  cells : w.heap[g]? = some (.cells (cpuCells c).toArray 26 (0, 0))
  ok : c.Ok
theorem zc_eq : Tryd.zeroCells26 = (cpuCells zeroCp).toArray := by kernel_rfl
theorem CAt.new (w : World) : CAt (w.alloc (.cells Tryd.zeroCells26 26)) w.heap.size zeroCp := ⟨by rw [zc_eq]; exact heap_alloc_last _ _, zero_ok⟩
theorem CAt.reg {w : World} {g : Nat} {c : Cp} (h : CAt w g c) (r : Nat) (hr : r < 32) : w.cell? ⟨g, r, none⟩ = some (.int .i64 (c.reg r)) := by
  rw [cell_of_row _ _ _ _ _ _ h.cells, List.getElem?_toArray]
  have := cp_regs h.ok r (.int .i64 (c.reg r)) (by simp [i64s, Cp.reg, List.getD, h.ok.r, hr])
  simpa using this
theorem CAt.regv {w : World} {g : Nat} {c : Cp} (h : CAt w g c) (r : Nat) (hr : r < 32) {q v : Int} (e : c.reg q = v) (hq : q = (r : Int)) : w.cell? ⟨g, r, none⟩ = some (.int .i64 v) := by rw [← e, hq]; exact h.reg r hr
theorem CAt.free {w : World} {g : Nat} {c : Cp} (h : CAt w g c) (i : Nat) : w.frozen? ⟨g, i, none⟩ = false := frozen_of_row _ _ _ _ _ h.cells
theorem CAt.pc {w : World} {g : Nat} {c : Cp} (h : CAt w g c) : w.cell? ⟨g, 32, none⟩ = some (.int .i64 c.pc) := by
  rw [cell_of_row _ _ _ _ _ _ h.cells, List.getElem?_toArray]; exact cp_pc h.ok
theorem CAt.halt {w : World} {g : Nat} {c : Cp} (h : CAt w g c) : w.cell? ⟨g, 97, none⟩ = some (.bool c.halted) := by
  rw [cell_of_row _ _ _ _ _ _ h.cells, List.getElem?_toArray]; exact cp_halt h.ok
theorem CAt.below {w w' : World} {g B : Nat} {c : Cp} (h : CAt w g c) (hb : Below B w w') (hB : g < B) : CAt w' g c := ⟨(hb.block _ hB).trans h.cells, h.ok⟩
theorem CAt.lt {w : World} {g : Nat} {c : Cp} (h : CAt w g c) : g < w.heap.size := lt_of_block h.cells
theorem CAt.set {w : World} {g : Nat} {c : Cp} (h : CAt w g c) (r : Nat) (hr : r < 32) (v : Int) : CAt (w.setCell ⟨g, r, none⟩ (.int .i64 v)) g (c.set r v) := by
  refine ⟨?_, h.ok.set _ _⟩
  rw [heap_setCell_same _ _ _ _ _ _ h.cells, List.setIfInBounds_toArray]
  have : (cpuCells c).set r (.int .i64 v) = cpuCells (c.set r v) := by
    unfold cpuCells Cp.set
    rw [List.set_append_left _ _ (by simp [i64s, h.ok.r]; omega)]
    simp [i64s, List.map_set]
  rw [this]
theorem zset {c : Cp} (h : c.Ok) (r : Nat) (hr : r < 32) (v : Int) : (cpuCells c).toArray.setIfInBounds r (.int .i64 v) = (cpuCells (c.set r v)).toArray := by
  rw [List.setIfInBounds_toArray]
  have : (cpuCells c).set r (.int .i64 v) = cpuCells (c.set r v) := by
    unfold cpuCells Cp.set
    rw [List.set_append_left _ _ (by simp [i64s, h.r]; omega)]
    simp [i64s, List.map_set]
  rw [this]
theorem CAt.new1 (w : World) (r : Nat) (hr : r < 32) (v : Int) : CAt (w.alloc (.cells (Tryd.zeroCells26.setIfInBounds r (.int .i64 v)) 26)) w.heap.size (zeroCp.set r v) := ⟨by rw [zc_eq, zset zero_ok r hr v]; exact heap_alloc_last _ _, zero_ok.set _ _⟩
theorem CAt.new2 (w : World) (r q : Nat) (hr : r < 32) (hq : q < 32) (v u : Int) : CAt (w.alloc (.cells ((Tryd.zeroCells26.setIfInBounds r (.int .i64 v)).setIfInBounds q (.int .i64 u)) 26)) w.heap.size ((zeroCp.set r v).set q u) := ⟨by rw [zc_eq, zset zero_ok r hr v, zset (zero_ok.set _ _) q hq u]; exact heap_alloc_last _ _, (zero_ok.set _ _).set _ _⟩
theorem set_set (c : Cp) (r v u : Int) : (c.set r v).set r u = c.set r u := by unfold Cp.set; simp
theorem CAt.row {w : World} {g : Nat} {c : Cp} (hc : c.Ok) (hg : w.heap[g]? = some (.cells Tryd.zeroCells26 26 (0, 0))) : CAt (w.setRow g (cpuCells c).toArray) g c := ⟨setRow_heap _ _ _ _ _ _ hg, hc⟩
theorem rvs_new (w : World) (xs : List Mi) : RvsAt (w.alloc (.cells (xs.flatMap miC).toArray 41)) w.heap.size xs := by
  intro k hk
  refine range_of_row (heap_alloc_last _ _) (k * 5) _ (fun j u hu => ?_)
  have hj : j < 5 := by have := (List.getElem?_eq_some_iff.1 hu).1; simpa [miC] using this
  rw [← hu]
  have key : ∀ (l : List Mi) (k : Nat) (h : k < l.length), (l.flatMap miC)[k * 5 + j]? = (miC l[k])[j]? := by
    intro l
    induction l with
    | nil => intro k h; simp at h
    | cons x l ih =>
      intro k h
      rw [List.flatMap_cons]
      cases k with
      | zero => rw [List.getElem?_append_left (by simp [miC]; omega)]; simp
      | succ k =>
        rw [List.getElem?_append_right (by simp [miC]; omega)]
        have e : (k + 1) * 5 + j - (miC x).length = k * 5 + j := by simp [miC]; omega
        rw [e, ih k (by simpa using h)]; simp
  exact key xs k hk
end Go.Proofs.YtapjfiihfgndeaaDoor
