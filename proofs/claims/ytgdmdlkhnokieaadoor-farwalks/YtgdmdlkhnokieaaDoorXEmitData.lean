/- Contracts of emit.last and emit.dataOf: what stands in the machine's data (P13.1) (written by gen/mkemit.py). -/
import Derived.Test.YtgdmdlkhnokieaaDoorXEmitRun
import Derived.Test.YtgdmdlkhnokieaaDoorXOutKit
namespace Go.Proofs.YtgdmdlkhnokieaaDoor
open Go Go.RowKit

/-- The data of a machine that is entered. -/
def dataL (mem regs : List Int) (fuel pc : Int) : List Int := mem ++ (regs ++ (fuel :: pc :: List.replicate 34 0))
theorem dataL_len {mem regs : List Int} (fuel pc : Int) (h1 : mem.length = 16) (h2 : regs.length = 12) : (dataL mem regs fuel pc).length = 64 := by simp [dataL, h1, h2]
def zeroD : List Value := [.int .i64 0, .int .i64 0, .int .i64 0, .int .i64 0, .int .i64 0, .int .i64 0, .int .i64 0, .int .i64 0, .int .i64 0, .int .i64 0, .int .i64 0, .int .i64 0, .int .i64 0, .int .i64 0, .int .i64 0, .int .i64 0, .int .i64 0, .int .i64 0, .int .i64 0, .int .i64 0, .int .i64 0, .int .i64 0, .int .i64 0, .int .i64 0, .int .i64 0, .int .i64 0, .int .i64 0, .int .i64 0, .int .i64 0, .int .i64 0, .int .i64 0, .int .i64 0, .int .i64 0, .int .i64 0, .int .i64 0, .int .i64 0, .int .i64 0, .int .i64 0, .int .i64 0, .int .i64 0, .int .i64 0, .int .i64 0, .int .i64 0, .int .i64 0, .int .i64 0, .int .i64 0, .int .i64 0, .int .i64 0, .int .i64 0, .int .i64 0, .int .i64 0, .int .i64 0, .int .i64 0, .int .i64 0, .int .i64 0, .int .i64 0, .int .i64 0, .int .i64 0, .int .i64 0, .int .i64 0, .int .i64 0, .int .i64 0, .int .i64 0, .int .i64 0]
theorem zeroD_eq : zeroD = i64s (List.replicate 64 0) := rfl
theorem zeroD_len : zeroD.length = 64 := rfl
/-- The data, part by part. -/
theorem data_mem (mem : List Int) (h1 : mem.length = 16) : splice zeroD 0 (i64s mem) = i64s (mem ++ List.replicate 48 0) := by
  rw [zeroD_eq]
  unfold splice
  rw [i64s_append]
  simp [i64s, h1]
theorem data_regs (mem regs : List Int) (h1 : mem.length = 16) (h2 : regs.length = 12) : splice (i64s (mem ++ List.replicate 48 0)) 16 (i64s regs) = i64s (mem ++ (regs ++ List.replicate 36 0)) := by
  unfold splice
  rw [i64s_append, i64s_append, i64s_append]
  have e : (i64s mem).length = 16 := by simp [i64s, h1]
  rw [List.take_left' e, List.drop_append]
  simp [i64s, h1, h2]
theorem data_words (mem regs : List Int) (fuel pc : Int) (h1 : mem.length = 16) (h2 : regs.length = 12) : ((i64s (mem ++ (regs ++ List.replicate 36 0))).set 28 (.int .i64 fuel)).set 29 (.int .i64 pc) = i64s (dataL mem regs fuel pc) := by
  have e1 : (i64s mem).length = 16 := by simp [i64s, h1]
  have e2 : (i64s regs).length = 12 := by simp [i64s, h2]
  unfold dataL
  rw [i64s_append, i64s_append, i64s_append, i64s_append]
  rw [List.set_append_right _ _ (by omega), List.set_append_right _ _ (by omega), List.set_append_right _ _ (by omega), List.set_append_right _ _ (by omega), e1, e2]
  rfl

set_option maxRecDepth 100000 in
/-- emit.last: where the last frame lies. -/
theorem lastE_any (s : St) (fb off n cap : Nat) (ev av : Value) (w : World) (hc : n + 1 ≤ cap) (hcm : cap ≤ 9223372036854775807) :
    Calls Tryd.prog 17 #[.agg (stCells s (.slice (some ⟨fb, off, none⟩) (n + 1) cap) ev av).toArray] w fun e w' => e = .returned (.pointer (some ⟨fb, off + n * 14, none⟩)) ∧ Below w.heap.size w w' := by
  obtain ⟨m, hme⟩ : ∃ m : Nat, m = n + 1 := ⟨_, rfl⟩
  rw [← hme] at hc ⊢
  have hs : (m : Int) - 1 = n := by omega
  have hw : IntKind.i64.wrap ((m : Int) - 1) = n := by rw [hs]; exact wrap_fits _ (by omega) (by omega)
  have hnm : (n : Int) < m := by omega
  have k2 : (w.alloc (.cells (stCells s (.slice (some ⟨fb, off, none⟩) m cap) ev av).toArray 34)).cell? ⟨w.heap.size, 2, none⟩ = some (.slice (some ⟨fb, off, none⟩) m cap) := by rw [cell_of_row _ _ _ _ _ _ (heap_alloc_last w _)]; rfl
  have HB : Hid (Below w.heap.size w (w.alloc (.cells (stCells s (.slice (some ⟨fb, off, none⟩) m cap) ev av).toArray 34))) := (Below.refl _ _).alloc (Nat.le_refl _) _
  generalize hcs : (stCells s (.slice (some ⟨fb, off, none⟩) m cap) ev av).toArray = cs at *
  clear hme hcs
  go_enter Tryd.func17, Tryd.ntmps17
  go_upto_region 1 with fail
  generalize w.alloc (.cells cs 34) = W1 at *
  go_wp2
  go_ret
  exact ⟨by simp, HB.out⟩
theorem rowz {w : World} {g : Nat} {cs : List Value} {t : TypeId} {fr : Nat × Nat} (h : w.heap[g]? = some (.cells cs.toArray t fr)) (off : Nat) (l : List Value) (hl : ∀ j u, l[j]? = some u → cs[off + j]? = some u) (j : Nat) (u : Value) (hu : l[j]? = some u) : w.cell? ((⟨g, off, none⟩ : Addr).add j) = some u := by
  rw [Addr.add_mid, cell_of_row _ _ _ _ _ _ h]
  simpa using hl j u hu
theorem stE_mem (s : St) (fv ev av : Value) (j : Nat) (u : Value) (hu : (i64s s.mem)[j]? = some u) : (stCells s fv ev av)[3 + j]? = some u := by
  have hj : j < (i64s s.mem).length := (List.getElem?_eq_some_iff.1 hu).1
  rw [Nat.add_comm]
  show ((i64s s.mem) ++ [.int .i64 s.fuel, ev, av])[j]? = _
  rw [List.getElem?_append_left hj]; exact hu
end Go.Proofs.YtgdmdlkhnokieaaDoor
