/- Frames as plain data, how they lie in memory; contracts of step.begun and of slices.Clone for numbers. -/
import Derived.Test.YtfbebffncdcjeaaDoorProg
import Derived.Test.YtfbebffncdcjeaaDoorInts
import Derived.Laws.CopyOwn
import Derived.Deep.WholeRow
import Derived.Deep.MidRow
import Derived.Handy
namespace Go.Proofs.YtfbebffncdcjeaaDoor
open Go Go.RowKit

structure Fr where
  fn : Int
  pc : Int
  regs : List Int
def frCells (f : Fr) : List Value := .int .i64 f.fn :: .int .i64 f.pc :: i64s f.regs
theorem frCells_length (f : Fr) (h : f.regs.length = 12) : (frCells f).length = 14 := by simp [frCells, i64s, h]
theorem frCells_one (f : Fr) : ∀ u ∈ frCells f, u.oneCell' = true := by
  intro u hu
  simp [frCells] at hu
  rcases hu with rfl | rfl | hu
  · rfl
  · rfl
  · exact i64s_one _ u hu
/-- The registers of a function that begins. -/
def regsOf (l : List Int) : List Int := l ++ List.replicate (12 - l.length) 0
theorem regsOf_length (l : List Int) (h : l.length ≤ 12) : (regsOf l).length = 12 := by simp [regsOf]; omega
def begunFr (fn : Int) (l : List Int) : Fr := ⟨fn, 0, regsOf l⟩

theorem infoFr : (Tryd.prog.info? 56).map (·.size) = some 14 := by kernel_rfl
theorem intSize : (Tryd.prog.info? 3).map (·.size) = some 1 := by kernel_rfl

def zeroFr (fn : Int) : List Value := .int .i64 fn :: .int .i64 0 :: i64s (List.replicate 12 0)
theorem splice_begun (fn : Int) (l : List Int) (_h : l.length ≤ 12) : splice (zeroFr fn) 2 (i64s l) = frCells (begunFr fn l) := by
  have e : zeroFr fn = [.int .i64 fn, .int .i64 0] ++ i64s (List.replicate 12 0) := rfl
  have e2 : i64s (List.replicate 12 0) = List.replicate 12 (Value.int .i64 0) := by simp only [i64s, List.map_replicate]
  have e3 : frCells (begunFr fn l) = [.int .i64 fn, .int .i64 0] ++ (i64s l ++ List.replicate (12 - l.length) (Value.int .i64 0)) := by
    unfold frCells begunFr regsOf
    rw [i64s_append]
    simp only [i64s, List.map_replicate]
    rfl
  rw [e, e2, e3]
  unfold splice
  rw [List.take_left' (by rfl), i64s_length]
  congr 2
  rw [← List.drop_drop, List.drop_left' (by rfl), List.drop_replicate]
theorem begunCells_size (fn : Int) (l : List Int) (h : l.length ≤ 12) : (frCells (begunFr fn l)).length = 14 := frCells_length _ (regsOf_length l h)

set_option maxRecDepth 100000 in
set_option maxHeartbeats 1000000 in
theorem begun_any (fn : Int) (v : Value) (l : List Int) (w : World) (hv : IntsVal w v l) (hl : l.length ≤ 12) :
    Calls Tryd.prog 28 #[.int .i64 fn, v] w fun e w' => e = .returned (.agg (frCells (begunFr fn l)).toArray) ∧ Below w.heap.size w w' := by
  obtain ⟨ao, b, off, n, cap, rfl, hn, ha, hc, hcap, hmax⟩ := hv
  have hsz : (Tryd.prog.info? 56).map (·.size) = some (frCells (begunFr fn l)).toArray.size := by rw [List.size_toArray, begunCells_size fn l hl]; exact infoFr
  have hlen : ((frCells (begunFr fn l)).toArray).size = 14 := by rw [List.size_toArray, begunCells_size fn l hl]
  have hone : (frCells (begunFr fn l)).toArray.all (·.oneCell') = true := by
    rw [Array.all_eq_true_iff_forall_mem]; intro u hu; exact frCells_one _ u (by simpa using hu)
  have HSP : Hid (splice (zeroFr fn) 2 (i64s l) = frCells (begunFr fn l)) := splice_begun fn l hl
  have HC : Hid (∀ W : World, Below w.heap.size w W → 0 < (i64s l).length → (some ⟨w.heap.size + 1, 2, none⟩ : Option Addr) = some ⟨w.heap.size + 1, 2, none⟩ ∧ ∃ ad, ao = some ad ∧ ∀ j u, (i64s l)[j]? = some u → W.cell? (ad.add j) = some u) := by
    intro W hW hpos
    rw [i64s_length] at hpos
    refine ⟨rfl, ⟨b, off, none⟩, ha (by omega), fun j u hu => ?_⟩
    have hj : j < l.length := by
      rcases Nat.lt_or_ge j l.length with h | h
      · exact h
      · simp [i64s, List.getElem?_eq_none h] at hu
    have hcj := hc j hj
    simp [i64s, hj] at hu
    subst hu
    rw [Addr.add_mid]
    exact keeps_below hW _ _ hcj
  have hn12 : (i64s l).length = Nat.min n 12 := by rw [i64s_length]; show _ = min n 12; omega
  have hfit : 2 + (i64s l).length ≤ (zeroFr fn).length := by rw [i64s_length]; simp [zeroFr, i64s]; omega
  have h1 := i64s_one l
  clear hc ha
  generalize i64s l = cs at HSP HC hn12 hfit h1
  generalize frCells (begunFr fn l) = fc at HSP hsz hlen hone
  go_enter Tryd.func28, Tryd.ntmps28
  go_wp2_with (first
    | (show wpList _ _ _ (Oper.mk (some 11) _ _ _ _ _ :: _) _ _; refine wpList_copy_splice rfl (.tmp 9) (.tmp 10) 25 25 rfl 3 Tryd.underlying25 intSize _ _ 12 12 n cap rfl rfl (w.heap.size + 1) 2 (zeroFr fn) 56 (heap_alloc2_new _ _ _) cs hn12 (HC.out _ (by go_grown)) hfit h1 (w.heap.size + 1) (w.alloc (.cells (zeroFr 0).toArray 56)) ((Below.refl _ _).alloc (by simp) _) (Nat.le_refl _) ?_; intro w2 hg2' hb2; have hg2 := hg2'.out; rw [HSP.out] at hg2; have hz2 : w2.heap[w.heap.size]? = some (.cells (zeroFr 0).toArray 56 (0, 0)) := (hb2.block _ (Nat.lt_succ_self _)).trans (heap_alloc_last _ _); clear hg2')
    | (refine wpList_load_row rfl _ _ rfl _ rfl _ _ _ _ hg2 Tryd.underlying56 rfl hsz ?_)
    | (refine wpList_store_row rfl _ _ _ rfl _ _ rfl rfl _ _ hz2 hsz (by rw [hlen]; rfl) hone ?_))
  refine bodyPost_ret (results_cell_row rfl _ _ w.heap.size 56 fc.toArray (0, 0) _ rfl (setRow_heap _ _ _ _ _ _ hz2) Tryd.underlying56 rfl hsz) rfl ⟨rfl, ?_⟩
  exact below_setRow (((Below.refl _ w).alloc (Nat.le_refl _) _).trans (hb2.mono (by omega))) (Nat.le_refl _) _
end Go.Proofs.YtfbebffncdcjeaaDoor
