/- Contract of the document's layOut (package tierlineref; written by gen/mklay.py): for each of the 32 bits of a word of a shape what stands there. -/
import Derived.Test.YtndogdojcbcjgaaDoorGroupV
import Derived.Deep.WholeRow
import Derived.Deep.DeepCutAuto
namespace Go.Proofs.YtndogdojcbcjgaaDoor
open Go Go.RowKit

def layArr (f : Nat → Int) : Array Value := ((List.range 32).map fun j => Value.int .i64 (f j)).toArray
theorem layArr_get (f : Nat → Int) (j : Nat) (h : j < 32) : (layArr f)[j]? = some (.int .i64 (f j)) := by simp [layArr, h]
theorem layArr_set (f g : Nat → Int) (j : Nat) (v : Int) (_h : j < 32) (hj : g j = v) (hg : ∀ i, i ≠ j → g i = f i) : (layArr f).setIfInBounds j (.int .i64 v) = layArr g := by
  apply Array.ext_getElem?
  intro i
  by_cases hi : i < 32
  · rw [Array.getElem?_setIfInBounds, layArr_get f i hi, layArr_get g i hi]
    by_cases e : j = i
    · subst e; simp [layArr, hi, hj]
    · rw [if_neg e, hg i (fun h => e h.symm)]
  · rw [Array.getElem?_eq_none (by simp [layArr]; omega), Array.getElem?_eq_none (by simp [layArr]; omega)]
theorem lay_if {p q : Prop} [Decidable p] [Decidable q] (a b c d : Int) (h : (p ↔ q) ∧ a = c ∧ b = d) : (if p then a else b) = (if q then c else d) := by
  obtain ⟨h1, rfl, rfl⟩ := h
  by_cases hp : p
  · rw [if_pos hp, if_pos (h1.1 hp)]
  · rw [if_neg hp, if_neg (fun hq => hp (h1.2 hq))]
def baseL : List Int := [130, 131, 132, 133, 134, 135, 136, 100, 101, 102, 103, 104, 140, 141, 142, 110, 111, 112, 113, 114, 120, 121, 122, 123, 124, 150, 151, 152, 153, 154, 155, 156]
def baseF (j : Nat) : Int := baseL.getD j 0
def layG0_0 (j : Nat) : Int := baseF j
def layF1_0 (k j : Nat) : Int := if 20 ≤ j ∧ j < 20 + k then (j : Int) - 20 else baseF j
def layG1_0 (j : Nat) : Int := baseF j
def layG1_1 (j : Nat) : Int := if 20 ≤ j ∧ j < 32 then (j : Int) - 20 else baseF j
def layF2_0 (k j : Nat) : Int := if 26 ≤ j ∧ j < 26 + k then (j : Int) + 124 else if 20 ≤ j ∧ j < 20 + k then (j : Int) - 20 else baseF j
def layG2_0 (j : Nat) : Int := baseF j
def layG2_1 (j : Nat) : Int := if 26 ≤ j ∧ j < 32 then (j : Int) + 124 else if 20 ≤ j ∧ j < 26 then (j : Int) - 20 else baseF j
def layF3_0 (k j : Nat) : Int := if 7 ≤ j ∧ j < 7 + k then (j : Int) - 7 else baseF j
def layG3_0 (j : Nat) : Int := baseF j
def layF3_1 (k j : Nat) : Int := if 25 ≤ j ∧ j < 20 + k then (j : Int) - 20 else if 7 ≤ j ∧ j < 12 then (j : Int) - 7 else baseF j
def layG3_1 (j : Nat) : Int := if 7 ≤ j ∧ j < 12 then (j : Int) - 7 else baseF j
def layG3_2 (j : Nat) : Int := if 25 ≤ j ∧ j < 32 then (j : Int) - 20 else if 7 ≤ j ∧ j < 12 then (j : Int) - 7 else baseF j
def layG4_0 (j : Nat) : Int := baseF j
def layF4_1 (k j : Nat) : Int := if 8 ≤ j ∧ j < 7 + k then (j : Int) - 7 else if j = 7 then 11 else baseF j
def layG4_1 (j : Nat) : Int := if j = 7 then 11 else baseF j
def layF4_2 (k j : Nat) : Int := if 25 ≤ j ∧ j < 20 + k then (j : Int) - 20 else if 8 ≤ j ∧ j < 12 then (j : Int) - 7 else if j = 7 then 11 else baseF j
def layG4_2 (j : Nat) : Int := if 8 ≤ j ∧ j < 12 then (j : Int) - 7 else if j = 7 then 11 else baseF j
def layG4_3 (j : Nat) : Int := if 25 ≤ j ∧ j < 31 then (j : Int) - 20 else if 8 ≤ j ∧ j < 12 then (j : Int) - 7 else if j = 7 then 11 else baseF j
def layG4_4 (j : Nat) : Int := if j = 31 then 12 else if 25 ≤ j ∧ j < 31 then (j : Int) - 20 else if 8 ≤ j ∧ j < 12 then (j : Int) - 7 else if j = 7 then 11 else baseF j
def layF5_0 (k j : Nat) : Int := if 12 ≤ j ∧ j < 0 + k then (j : Int) - 0 else baseF j
def layG5_0 (j : Nat) : Int := baseF j
def layG5_1 (j : Nat) : Int := if 12 ≤ j ∧ j < 20 then (j : Int) - 0 else baseF j
def layF5_2 (k j : Nat) : Int := if 21 ≤ j ∧ j < 20 + k then (j : Int) - 20 else if j = 20 then 11 else if 12 ≤ j ∧ j < 20 then (j : Int) - 0 else baseF j
def layG5_2 (j : Nat) : Int := if j = 20 then 11 else if 12 ≤ j ∧ j < 20 then (j : Int) - 0 else baseF j
def layG5_3 (j : Nat) : Int := if 21 ≤ j ∧ j < 31 then (j : Int) - 20 else if j = 20 then 11 else if 12 ≤ j ∧ j < 20 then (j : Int) - 0 else baseF j
def layG5_4 (j : Nat) : Int := if j = 31 then 20 else if 21 ≤ j ∧ j < 31 then (j : Int) - 20 else if j = 20 then 11 else if 12 ≤ j ∧ j < 20 then (j : Int) - 0 else baseF j
def layF6_0 (k j : Nat) : Int := if 12 ≤ j ∧ j < 12 + k then (j : Int) - 12 else baseF j
def layG6_0 (j : Nat) : Int := baseF j
def layG6_1 (j : Nat) : Int := if 12 ≤ j ∧ j < 32 then (j : Int) - 12 else baseF j
def layG7_0 (j : Nat) : Int := baseF j
def layT (s j : Nat) : Int :=
  match s with
  | 0 => layG0_0 j
  | 1 => layG1_1 j
  | 2 => layG2_1 j
  | 3 => layG3_2 j
  | 4 => layG4_4 j
  | 5 => layG5_4 j
  | 6 => layG6_1 j
  | _ => layG7_0 j

def LayPost (s : Nat) (w : World) (e : Ending) (w' : World) : Prop := e = .returned (.slice (some ⟨w.heap.size, 0, none⟩) 32 32) ∧ w'.heap[w.heap.size]? = some (.cells (layArr (layT s)) 3 (0, 0)) ∧ Below w.heap.size w w'

set_option maxRecDepth 100000 in
set_option maxHeartbeats 2000000 in
theorem layOut0 (w : World) : Calls Tryd.prog 139 #[.int .i64 0] w (LayPost 0 w) := by
  have HA : Hid ((w.alloc (.cells #[.int .i64 130, .int .i64 131, .int .i64 132, .int .i64 133, .int .i64 134, .int .i64 135, .int .i64 136, .int .i64 100, .int .i64 101, .int .i64 102, .int .i64 103, .int .i64 104, .int .i64 140, .int .i64 141, .int .i64 142, .int .i64 110, .int .i64 111, .int .i64 112, .int .i64 113, .int .i64 114, .int .i64 120, .int .i64 121, .int .i64 122, .int .i64 123, .int .i64 124, .int .i64 150, .int .i64 151, .int .i64 152, .int .i64 153, .int .i64 154, .int .i64 155, .int .i64 156] 3)).heap[w.heap.size]? = some (.cells (layArr layG0_0) 3 (0, 0))) := heap_alloc_last w _
  have HB : Hid (Below w.heap.size w (w.alloc (.cells #[.int .i64 130, .int .i64 131, .int .i64 132, .int .i64 133, .int .i64 134, .int .i64 135, .int .i64 136, .int .i64 100, .int .i64 101, .int .i64 102, .int .i64 103, .int .i64 104, .int .i64 140, .int .i64 141, .int .i64 142, .int .i64 110, .int .i64 111, .int .i64 112, .int .i64 113, .int .i64 114, .int .i64 120, .int .i64 121, .int .i64 122, .int .i64 123, .int .i64 124, .int .i64 150, .int .i64 151, .int .i64 152, .int .i64 153, .int .i64 154, .int .i64 155, .int .i64 156] 3))) := (Below.refl _ _).alloc (Nat.le_refl _) _
  unfold LayPost
  go_enter Tryd.func139, Tryd.ntmps139
  go_upto_region 2 with fail
  generalize w.alloc (.cells #[.int .i64 130, .int .i64 131, .int .i64 132, .int .i64 133, .int .i64 134, .int .i64 135, .int .i64 136, .int .i64 100, .int .i64 101, .int .i64 102, .int .i64 103, .int .i64 104, .int .i64 140, .int .i64 141, .int .i64 142, .int .i64 110, .int .i64 111, .int .i64 112, .int .i64 113, .int .i64 114, .int .i64 120, .int .i64 121, .int .i64 122, .int .i64 123, .int .i64 124, .int .i64 150, .int .i64 151, .int .i64 152, .int .i64 153, .int .i64 154, .int .i64 155, .int .i64 156] 3) = w0 at *
  go_wp2
  go_ret
  exact ⟨rfl, HA.out, HB.out⟩

set_option maxRecDepth 100000 in
set_option maxHeartbeats 2000000 in
theorem layOut1 (w : World) : Calls Tryd.prog 139 #[.int .i64 1] w (LayPost 1 w) := by
  have HA : Hid ((w.alloc (.cells #[.int .i64 130, .int .i64 131, .int .i64 132, .int .i64 133, .int .i64 134, .int .i64 135, .int .i64 136, .int .i64 100, .int .i64 101, .int .i64 102, .int .i64 103, .int .i64 104, .int .i64 140, .int .i64 141, .int .i64 142, .int .i64 110, .int .i64 111, .int .i64 112, .int .i64 113, .int .i64 114, .int .i64 120, .int .i64 121, .int .i64 122, .int .i64 123, .int .i64 124, .int .i64 150, .int .i64 151, .int .i64 152, .int .i64 153, .int .i64 154, .int .i64 155, .int .i64 156] 3)).heap[w.heap.size]? = some (.cells (layArr layG1_0) 3 (0, 0))) := heap_alloc_last w _
  have HB : Hid (Below w.heap.size w (w.alloc (.cells #[.int .i64 130, .int .i64 131, .int .i64 132, .int .i64 133, .int .i64 134, .int .i64 135, .int .i64 136, .int .i64 100, .int .i64 101, .int .i64 102, .int .i64 103, .int .i64 104, .int .i64 140, .int .i64 141, .int .i64 142, .int .i64 110, .int .i64 111, .int .i64 112, .int .i64 113, .int .i64 114, .int .i64 120, .int .i64 121, .int .i64 122, .int .i64 123, .int .i64 124, .int .i64 150, .int .i64 151, .int .i64 152, .int .i64 153, .int .i64 154, .int .i64 155, .int .i64 156] 3))) := (Below.refl _ _).alloc (Nat.le_refl _) _
  unfold LayPost
  go_enter Tryd.func139, Tryd.ntmps139
  go_upto_region 2 with fail
  generalize w.alloc (.cells #[.int .i64 130, .int .i64 131, .int .i64 132, .int .i64 133, .int .i64 134, .int .i64 135, .int .i64 136, .int .i64 100, .int .i64 101, .int .i64 102, .int .i64 103, .int .i64 104, .int .i64 140, .int .i64 141, .int .i64 142, .int .i64 110, .int .i64 111, .int .i64 112, .int .i64 113, .int .i64 114, .int .i64 120, .int .i64 121, .int .i64 122, .int .i64 123, .int .i64 124, .int .i64 150, .int .i64 151, .int .i64 152, .int .i64 153, .int .i64 154, .int .i64 155, .int .i64 156] 3) = w0 at *
  have HI0 : Hid (w0.heap[w.heap.size]? = some (.cells (layArr (layF1_0 0)) 3 (0, 0))) := by
    have e : layF1_0 0 = layG1_0 := funext fun j => by unfold layF1_0 layG1_0; repeat (first | rw [if_neg (by omega)] | (split <;> try rfl))
    show _ = _
    rw [e]; exact HA.out
  go_wp2
  go_loopw [4] (fun v wr => ∃ k : Nat, 0 ≤ k ∧ k ≤ 12 ∧ v = .int .i64 k ∧ wr.heap[w.heap.size]? = some (.cells (layArr (layF1_0 k)) 3 (0, 0)) ∧ Below w.heap.size w wr) (fun v _ => 12 - (intOf v).toNat)
  case atStart => exact ⟨0, by omega, by omega, rfl, HI0.out, HB.out⟩
  case round =>
    obtain ⟨k, hk1, hk2, rfl, hg, hbr⟩ := hrel
    have HG : Hid (wr.heap[w.heap.size]? = some (.cells (layArr (layF1_0 k)) 3 (0, 0))) := hg
    have HBR : Hid (Below w.heap.size w wr) := hbr
    clear hg hbr
    by_cases hlt : k < 12
    · have hkI : (k : Int) < 12 := by omega
      have cc : wr.cell? ⟨w.heap.size, 20 + k, none⟩ = some (.int .i64 (layF1_0 k (20 + k))) := by rw [cell_of_row _ _ _ _ _ _ HG.out, layArr_get _ _ (by omega)]
      have ff : wr.frozen? ⟨w.heap.size, 20 + k, none⟩ = false := frozen_of_row _ _ _ _ _ HG.out
      have HN : Hid ((layArr (layF1_0 k)).setIfInBounds (20 + k) (.int .i64 (k : Int)) = layArr (layF1_0 (k + 1))) := layArr_set _ _ _ _ (by omega) (by unfold layF1_0; rw [if_pos (by omega)]; omega) (fun i hi => by unfold layF1_0; exact lay_if _ _ _ _ ⟨by omega, rfl, rfl⟩)
      go_wp2
      go_roundw
      case rel => exact ⟨k + 1, by omega, by omega, by go_num, by rw [heap_setCell_same _ _ _ _ _ _ HG.out, HN.out], HBR.out.setCell (Nat.le_refl _) _⟩
      case measure => simp [intOf]; omega
    · obtain rfl : k = 12 := by omega
      have HE0 : Hid (wr.heap[w.heap.size]? = some (.cells (layArr layG1_1) 3 (0, 0))) := HG.out
      go_wp2
      go_ret
      exact ⟨rfl, HE0.out, HBR.out⟩

set_option maxRecDepth 100000 in
set_option maxHeartbeats 2000000 in
theorem layOut2 (w : World) : Calls Tryd.prog 139 #[.int .i64 2] w (LayPost 2 w) := by
  have HA : Hid ((w.alloc (.cells #[.int .i64 130, .int .i64 131, .int .i64 132, .int .i64 133, .int .i64 134, .int .i64 135, .int .i64 136, .int .i64 100, .int .i64 101, .int .i64 102, .int .i64 103, .int .i64 104, .int .i64 140, .int .i64 141, .int .i64 142, .int .i64 110, .int .i64 111, .int .i64 112, .int .i64 113, .int .i64 114, .int .i64 120, .int .i64 121, .int .i64 122, .int .i64 123, .int .i64 124, .int .i64 150, .int .i64 151, .int .i64 152, .int .i64 153, .int .i64 154, .int .i64 155, .int .i64 156] 3)).heap[w.heap.size]? = some (.cells (layArr layG2_0) 3 (0, 0))) := heap_alloc_last w _
  have HB : Hid (Below w.heap.size w (w.alloc (.cells #[.int .i64 130, .int .i64 131, .int .i64 132, .int .i64 133, .int .i64 134, .int .i64 135, .int .i64 136, .int .i64 100, .int .i64 101, .int .i64 102, .int .i64 103, .int .i64 104, .int .i64 140, .int .i64 141, .int .i64 142, .int .i64 110, .int .i64 111, .int .i64 112, .int .i64 113, .int .i64 114, .int .i64 120, .int .i64 121, .int .i64 122, .int .i64 123, .int .i64 124, .int .i64 150, .int .i64 151, .int .i64 152, .int .i64 153, .int .i64 154, .int .i64 155, .int .i64 156] 3))) := (Below.refl _ _).alloc (Nat.le_refl _) _
  unfold LayPost
  go_enter Tryd.func139, Tryd.ntmps139
  go_upto_region 2 with fail
  generalize w.alloc (.cells #[.int .i64 130, .int .i64 131, .int .i64 132, .int .i64 133, .int .i64 134, .int .i64 135, .int .i64 136, .int .i64 100, .int .i64 101, .int .i64 102, .int .i64 103, .int .i64 104, .int .i64 140, .int .i64 141, .int .i64 142, .int .i64 110, .int .i64 111, .int .i64 112, .int .i64 113, .int .i64 114, .int .i64 120, .int .i64 121, .int .i64 122, .int .i64 123, .int .i64 124, .int .i64 150, .int .i64 151, .int .i64 152, .int .i64 153, .int .i64 154, .int .i64 155, .int .i64 156] 3) = w0 at *
  have HI0 : Hid (w0.heap[w.heap.size]? = some (.cells (layArr (layF2_0 0)) 3 (0, 0))) := by
    have e : layF2_0 0 = layG2_0 := funext fun j => by unfold layF2_0 layG2_0; repeat (first | rw [if_neg (by omega)] | (split <;> try rfl))
    show _ = _
    rw [e]; exact HA.out
  go_wp2
  go_loopw [5] (fun v wr => ∃ k : Nat, 0 ≤ k ∧ k ≤ 6 ∧ v = .int .i64 k ∧ wr.heap[w.heap.size]? = some (.cells (layArr (layF2_0 k)) 3 (0, 0)) ∧ Below w.heap.size w wr) (fun v _ => 6 - (intOf v).toNat)
  case atStart => exact ⟨0, by omega, by omega, rfl, HI0.out, HB.out⟩
  case round =>
    obtain ⟨k, hk1, hk2, rfl, hg, hbr⟩ := hrel
    have HG : Hid (wr.heap[w.heap.size]? = some (.cells (layArr (layF2_0 k)) 3 (0, 0))) := hg
    have HBR : Hid (Below w.heap.size w wr) := hbr
    clear hg hbr
    by_cases hlt : k < 6
    · have hkI : (k : Int) < 6 := by omega
      have cc : wr.cell? ⟨w.heap.size, 20 + k, none⟩ = some (.int .i64 (layF2_0 k (20 + k))) := by rw [cell_of_row _ _ _ _ _ _ HG.out, layArr_get _ _ (by omega)]
      have ff : wr.frozen? ⟨w.heap.size, 20 + k, none⟩ = false := frozen_of_row _ _ _ _ _ HG.out
      have HG1 : Hid ((wr.setCell ⟨w.heap.size, 20 + k, none⟩ (.int .i64 (k : Int))).heap[w.heap.size]? = some (.cells ((layArr (layF2_0 k)).setIfInBounds (20 + k) (.int .i64 (k : Int))) 3 (0, 0))) := heap_setCell_same _ _ _ _ _ _ HG.out
      have ccb : (wr.setCell ⟨w.heap.size, 20 + k, none⟩ (.int .i64 (k : Int))).cell? ⟨w.heap.size, 26 + k, none⟩ = some (.int .i64 (layF2_0 k (26 + k))) := by rw [cell_of_row _ _ _ _ _ _ HG1.out, Array.getElem?_setIfInBounds, if_neg (by omega), layArr_get _ _ (by omega)]
      have ffb : (wr.setCell ⟨w.heap.size, 20 + k, none⟩ (.int .i64 (k : Int))).frozen? ⟨w.heap.size, 26 + k, none⟩ = false := frozen_of_row _ _ _ _ _ HG1.out
      have HN : Hid (((layArr (layF2_0 k)).setIfInBounds (20 + k) (.int .i64 (k : Int))).setIfInBounds (26 + k) (.int .i64 (150 + (k : Int))) = layArr (layF2_0 (k + 1))) := by
        show _ = _
        rw [layArr_set (layF2_0 k) (fun j => if j = 20 + k then (k : Int) else layF2_0 k j) (20 + k) (k : Int) (by omega) (by simp) (fun i hi => by simp [hi])]
        refine layArr_set _ _ _ _ (by omega) (by unfold layF2_0; rw [if_pos (by omega)]; omega) (fun i hi => ?_)
        unfold layF2_0
        repeat (first | omega | split)
      go_wp2
      go_roundw
      case rel => exact ⟨k + 1, by omega, by omega, by go_num, by rw [heap_setCell_same _ _ _ _ _ _ HG1.out, HN.out], (HBR.out.setCell (Nat.le_refl _) _).setCell (Nat.le_refl _) _⟩
      case measure => simp [intOf]; omega
    · obtain rfl : k = 6 := by omega
      have HE0 : Hid (wr.heap[w.heap.size]? = some (.cells (layArr layG2_1) 3 (0, 0))) := HG.out
      go_wp2
      go_ret
      exact ⟨rfl, HE0.out, HBR.out⟩

set_option maxRecDepth 100000 in
set_option maxHeartbeats 2000000 in
theorem layOut3 (w : World) : Calls Tryd.prog 139 #[.int .i64 3] w (LayPost 3 w) := by
  have HA : Hid ((w.alloc (.cells #[.int .i64 130, .int .i64 131, .int .i64 132, .int .i64 133, .int .i64 134, .int .i64 135, .int .i64 136, .int .i64 100, .int .i64 101, .int .i64 102, .int .i64 103, .int .i64 104, .int .i64 140, .int .i64 141, .int .i64 142, .int .i64 110, .int .i64 111, .int .i64 112, .int .i64 113, .int .i64 114, .int .i64 120, .int .i64 121, .int .i64 122, .int .i64 123, .int .i64 124, .int .i64 150, .int .i64 151, .int .i64 152, .int .i64 153, .int .i64 154, .int .i64 155, .int .i64 156] 3)).heap[w.heap.size]? = some (.cells (layArr layG3_0) 3 (0, 0))) := heap_alloc_last w _
  have HB : Hid (Below w.heap.size w (w.alloc (.cells #[.int .i64 130, .int .i64 131, .int .i64 132, .int .i64 133, .int .i64 134, .int .i64 135, .int .i64 136, .int .i64 100, .int .i64 101, .int .i64 102, .int .i64 103, .int .i64 104, .int .i64 140, .int .i64 141, .int .i64 142, .int .i64 110, .int .i64 111, .int .i64 112, .int .i64 113, .int .i64 114, .int .i64 120, .int .i64 121, .int .i64 122, .int .i64 123, .int .i64 124, .int .i64 150, .int .i64 151, .int .i64 152, .int .i64 153, .int .i64 154, .int .i64 155, .int .i64 156] 3))) := (Below.refl _ _).alloc (Nat.le_refl _) _
  unfold LayPost
  go_enter Tryd.func139, Tryd.ntmps139
  go_upto_region 2 with fail
  generalize w.alloc (.cells #[.int .i64 130, .int .i64 131, .int .i64 132, .int .i64 133, .int .i64 134, .int .i64 135, .int .i64 136, .int .i64 100, .int .i64 101, .int .i64 102, .int .i64 103, .int .i64 104, .int .i64 140, .int .i64 141, .int .i64 142, .int .i64 110, .int .i64 111, .int .i64 112, .int .i64 113, .int .i64 114, .int .i64 120, .int .i64 121, .int .i64 122, .int .i64 123, .int .i64 124, .int .i64 150, .int .i64 151, .int .i64 152, .int .i64 153, .int .i64 154, .int .i64 155, .int .i64 156] 3) = w0 at *
  have HI0 : Hid (w0.heap[w.heap.size]? = some (.cells (layArr (layF3_0 0)) 3 (0, 0))) := by
    have e : layF3_0 0 = layG3_0 := funext fun j => by unfold layF3_0 layG3_0; repeat (first | rw [if_neg (by omega)] | (split <;> try rfl))
    show _ = _
    rw [e]; exact HA.out
  go_wp2
  go_loopw [6] (fun v wr => ∃ k : Nat, 0 ≤ k ∧ k ≤ 5 ∧ v = .int .i64 k ∧ wr.heap[w.heap.size]? = some (.cells (layArr (layF3_0 k)) 3 (0, 0)) ∧ Below w.heap.size w wr) (fun v _ => 5 - (intOf v).toNat)
  case atStart => exact ⟨0, by omega, by omega, rfl, HI0.out, HB.out⟩
  case round =>
    obtain ⟨k, hk1, hk2, rfl, hg, hbr⟩ := hrel
    have HG : Hid (wr.heap[w.heap.size]? = some (.cells (layArr (layF3_0 k)) 3 (0, 0))) := hg
    have HBR : Hid (Below w.heap.size w wr) := hbr
    clear hg hbr
    by_cases hlt : k < 5
    · have hkI : (k : Int) < 5 := by omega
      have cc : wr.cell? ⟨w.heap.size, 7 + k, none⟩ = some (.int .i64 (layF3_0 k (7 + k))) := by rw [cell_of_row _ _ _ _ _ _ HG.out, layArr_get _ _ (by omega)]
      have ff : wr.frozen? ⟨w.heap.size, 7 + k, none⟩ = false := frozen_of_row _ _ _ _ _ HG.out
      have HN : Hid ((layArr (layF3_0 k)).setIfInBounds (7 + k) (.int .i64 (k : Int)) = layArr (layF3_0 (k + 1))) := layArr_set _ _ _ _ (by omega) (by unfold layF3_0; rw [if_pos (by omega)]; omega) (fun i hi => by unfold layF3_0; exact lay_if _ _ _ _ ⟨by omega, rfl, rfl⟩)
      go_wp2
      go_roundw
      case rel => exact ⟨k + 1, by omega, by omega, by go_num, by rw [heap_setCell_same _ _ _ _ _ _ HG.out, HN.out], HBR.out.setCell (Nat.le_refl _) _⟩
      case measure => simp [intOf]; omega
    · obtain rfl : k = 5 := by omega
      have HE0 : Hid (wr.heap[w.heap.size]? = some (.cells (layArr layG3_1) 3 (0, 0))) := HG.out
      have HI1 : Hid (wr.heap[w.heap.size]? = some (.cells (layArr (layF3_1 5)) 3 (0, 0))) := by
        have e : layF3_1 5 = layG3_1 := funext fun j => by unfold layF3_1 layG3_1; repeat (first | rw [if_neg (by omega)] | (split <;> try rfl))
        show _ = _
        rw [e]; exact HE0.out
      go_wp2
      go_loopw [7] (fun v wr => ∃ k : Nat, 5 ≤ k ∧ k ≤ 12 ∧ v = .int .i64 k ∧ wr.heap[w.heap.size]? = some (.cells (layArr (layF3_1 k)) 3 (0, 0)) ∧ Below w.heap.size w wr) (fun v _ => 12 - (intOf v).toNat)
      case atStart => exact ⟨5, by omega, by omega, rfl, HI1.out, HBR.out⟩
      case round =>
        obtain ⟨k, hk1, hk2, rfl, hg, hbr⟩ := hrel
        have HG : Hid (wr.heap[w.heap.size]? = some (.cells (layArr (layF3_1 k)) 3 (0, 0))) := hg
        have HBR : Hid (Below w.heap.size w wr) := hbr
        clear hg hbr
        by_cases hlt : k < 12
        · have hkI : (k : Int) < 12 := by omega
          have cc : wr.cell? ⟨w.heap.size, 20 + k, none⟩ = some (.int .i64 (layF3_1 k (20 + k))) := by rw [cell_of_row _ _ _ _ _ _ HG.out, layArr_get _ _ (by omega)]
          have ff : wr.frozen? ⟨w.heap.size, 20 + k, none⟩ = false := frozen_of_row _ _ _ _ _ HG.out
          have HN : Hid ((layArr (layF3_1 k)).setIfInBounds (20 + k) (.int .i64 (k : Int)) = layArr (layF3_1 (k + 1))) := layArr_set _ _ _ _ (by omega) (by unfold layF3_1; rw [if_pos (by omega)]; omega) (fun i hi => by unfold layF3_1; exact lay_if _ _ _ _ ⟨by omega, rfl, rfl⟩)
          go_wp2
          go_roundw
          case rel => exact ⟨k + 1, by omega, by omega, by go_num, by rw [heap_setCell_same _ _ _ _ _ _ HG.out, HN.out], HBR.out.setCell (Nat.le_refl _) _⟩
          case measure => simp [intOf]; omega
        · obtain rfl : k = 12 := by omega
          have HE1 : Hid (wr.heap[w.heap.size]? = some (.cells (layArr layG3_2) 3 (0, 0))) := HG.out
          go_wp2
          go_ret
          exact ⟨rfl, HE1.out, HBR.out⟩

set_option maxRecDepth 100000 in
set_option maxHeartbeats 2000000 in
theorem layOut4 (w : World) : Calls Tryd.prog 139 #[.int .i64 4] w (LayPost 4 w) := by
  have HA : Hid ((w.alloc (.cells #[.int .i64 130, .int .i64 131, .int .i64 132, .int .i64 133, .int .i64 134, .int .i64 135, .int .i64 136, .int .i64 100, .int .i64 101, .int .i64 102, .int .i64 103, .int .i64 104, .int .i64 140, .int .i64 141, .int .i64 142, .int .i64 110, .int .i64 111, .int .i64 112, .int .i64 113, .int .i64 114, .int .i64 120, .int .i64 121, .int .i64 122, .int .i64 123, .int .i64 124, .int .i64 150, .int .i64 151, .int .i64 152, .int .i64 153, .int .i64 154, .int .i64 155, .int .i64 156] 3)).heap[w.heap.size]? = some (.cells (layArr layG4_0) 3 (0, 0))) := heap_alloc_last w _
  have HB : Hid (Below w.heap.size w (w.alloc (.cells #[.int .i64 130, .int .i64 131, .int .i64 132, .int .i64 133, .int .i64 134, .int .i64 135, .int .i64 136, .int .i64 100, .int .i64 101, .int .i64 102, .int .i64 103, .int .i64 104, .int .i64 140, .int .i64 141, .int .i64 142, .int .i64 110, .int .i64 111, .int .i64 112, .int .i64 113, .int .i64 114, .int .i64 120, .int .i64 121, .int .i64 122, .int .i64 123, .int .i64 124, .int .i64 150, .int .i64 151, .int .i64 152, .int .i64 153, .int .i64 154, .int .i64 155, .int .i64 156] 3))) := (Below.refl _ _).alloc (Nat.le_refl _) _
  unfold LayPost
  go_enter Tryd.func139, Tryd.ntmps139
  go_upto_region 2 with fail
  generalize w.alloc (.cells #[.int .i64 130, .int .i64 131, .int .i64 132, .int .i64 133, .int .i64 134, .int .i64 135, .int .i64 136, .int .i64 100, .int .i64 101, .int .i64 102, .int .i64 103, .int .i64 104, .int .i64 140, .int .i64 141, .int .i64 142, .int .i64 110, .int .i64 111, .int .i64 112, .int .i64 113, .int .i64 114, .int .i64 120, .int .i64 121, .int .i64 122, .int .i64 123, .int .i64 124, .int .i64 150, .int .i64 151, .int .i64 152, .int .i64 153, .int .i64 154, .int .i64 155, .int .i64 156] 3) = w0 at *
  have cs0 : w0.cell? ⟨w.heap.size, 7, none⟩ = some (.int .i64 (layG4_0 7)) := by rw [cell_of_row _ _ _ _ _ _ HA.out, layArr_get _ _ (by omega)]
  have fs0 : w0.frozen? ⟨w.heap.size, 7, none⟩ = false := frozen_of_row _ _ _ _ _ HA.out
  have HS0 : Hid ((w0.setCell ⟨w.heap.size, 7, none⟩ (.int .i64 11)).heap[w.heap.size]? = some (.cells (layArr layG4_1) 3 (0, 0))) := by
    show _ = _
    rw [heap_setCell_same _ _ _ _ _ _ HA.out, layArr_set layG4_0 layG4_1 7 11 (by omega) (by decide) (fun i hi => by simp [layG4_0, layG4_1, hi])]
  have HBS0 : Hid (Below w.heap.size w (w0.setCell ⟨w.heap.size, 7, none⟩ (.int .i64 11))) := HB.out.setCell (Nat.le_refl _) _
  go_wp2
  generalize w0.setCell ⟨w.heap.size, 7, none⟩ (.int .i64 11) = ws0 at HS0 HBS0 ⊢
  clear cs0 fs0
  have HI1 : Hid (ws0.heap[w.heap.size]? = some (.cells (layArr (layF4_1 1)) 3 (0, 0))) := by
    have e : layF4_1 1 = layG4_1 := funext fun j => by unfold layF4_1 layG4_1; repeat (first | rw [if_neg (by omega)] | (split <;> try rfl))
    show _ = _
    rw [e]; exact HS0.out
  go_loopw [8] (fun v wr => ∃ k : Nat, 1 ≤ k ∧ k ≤ 5 ∧ v = .int .i64 k ∧ wr.heap[w.heap.size]? = some (.cells (layArr (layF4_1 k)) 3 (0, 0)) ∧ Below w.heap.size w wr) (fun v _ => 5 - (intOf v).toNat)
  case atStart => exact ⟨1, by omega, by omega, rfl, HI1.out, HBS0.out⟩
  case round =>
    obtain ⟨k, hk1, hk2, rfl, hg, hbr⟩ := hrel
    have HG : Hid (wr.heap[w.heap.size]? = some (.cells (layArr (layF4_1 k)) 3 (0, 0))) := hg
    have HBR : Hid (Below w.heap.size w wr) := hbr
    clear hg hbr
    by_cases hlt : k < 5
    · have hkI : (k : Int) < 5 := by omega
      have cc : wr.cell? ⟨w.heap.size, 7 + k, none⟩ = some (.int .i64 (layF4_1 k (7 + k))) := by rw [cell_of_row _ _ _ _ _ _ HG.out, layArr_get _ _ (by omega)]
      have ff : wr.frozen? ⟨w.heap.size, 7 + k, none⟩ = false := frozen_of_row _ _ _ _ _ HG.out
      have HN : Hid ((layArr (layF4_1 k)).setIfInBounds (7 + k) (.int .i64 (k : Int)) = layArr (layF4_1 (k + 1))) := layArr_set _ _ _ _ (by omega) (by unfold layF4_1; rw [if_pos (by omega)]; omega) (fun i hi => by unfold layF4_1; exact lay_if _ _ _ _ ⟨by omega, rfl, rfl⟩)
      go_wp2
      go_roundw
      case rel => exact ⟨k + 1, by omega, by omega, by go_num, by rw [heap_setCell_same _ _ _ _ _ _ HG.out, HN.out], HBR.out.setCell (Nat.le_refl _) _⟩
      case measure => simp [intOf]; omega
    · obtain rfl : k = 5 := by omega
      have HE1 : Hid (wr.heap[w.heap.size]? = some (.cells (layArr layG4_2) 3 (0, 0))) := HG.out
      have HI2 : Hid (wr.heap[w.heap.size]? = some (.cells (layArr (layF4_2 5)) 3 (0, 0))) := by
        have e : layF4_2 5 = layG4_2 := funext fun j => by unfold layF4_2 layG4_2; repeat (first | rw [if_neg (by omega)] | (split <;> try rfl))
        show _ = _
        rw [e]; exact HE1.out
      go_wp2
      go_loopw [9] (fun v wr => ∃ k : Nat, 5 ≤ k ∧ k ≤ 11 ∧ v = .int .i64 k ∧ wr.heap[w.heap.size]? = some (.cells (layArr (layF4_2 k)) 3 (0, 0)) ∧ Below w.heap.size w wr) (fun v _ => 11 - (intOf v).toNat)
      case atStart => exact ⟨5, by omega, by omega, rfl, HI2.out, HBR.out⟩
      case round =>
        obtain ⟨k, hk1, hk2, rfl, hg, hbr⟩ := hrel
        have HG : Hid (wr.heap[w.heap.size]? = some (.cells (layArr (layF4_2 k)) 3 (0, 0))) := hg
        have HBR : Hid (Below w.heap.size w wr) := hbr
        clear hg hbr
        by_cases hlt : k < 11
        · have hkI : (k : Int) < 11 := by omega
          have cc : wr.cell? ⟨w.heap.size, 20 + k, none⟩ = some (.int .i64 (layF4_2 k (20 + k))) := by rw [cell_of_row _ _ _ _ _ _ HG.out, layArr_get _ _ (by omega)]
          have ff : wr.frozen? ⟨w.heap.size, 20 + k, none⟩ = false := frozen_of_row _ _ _ _ _ HG.out
          have HN : Hid ((layArr (layF4_2 k)).setIfInBounds (20 + k) (.int .i64 (k : Int)) = layArr (layF4_2 (k + 1))) := layArr_set _ _ _ _ (by omega) (by unfold layF4_2; rw [if_pos (by omega)]; omega) (fun i hi => by unfold layF4_2; exact lay_if _ _ _ _ ⟨by omega, rfl, rfl⟩)
          go_wp2
          go_roundw
          case rel => exact ⟨k + 1, by omega, by omega, by go_num, by rw [heap_setCell_same _ _ _ _ _ _ HG.out, HN.out], HBR.out.setCell (Nat.le_refl _) _⟩
          case measure => simp [intOf]; omega
        · obtain rfl : k = 11 := by omega
          have HE2 : Hid (wr.heap[w.heap.size]? = some (.cells (layArr layG4_3) 3 (0, 0))) := HG.out
          have cs3 : wr.cell? ⟨w.heap.size, 31, none⟩ = some (.int .i64 (layG4_3 31)) := by rw [cell_of_row _ _ _ _ _ _ HE2.out, layArr_get _ _ (by omega)]
          have fs3 : wr.frozen? ⟨w.heap.size, 31, none⟩ = false := frozen_of_row _ _ _ _ _ HE2.out
          have HS3 : Hid ((wr.setCell ⟨w.heap.size, 31, none⟩ (.int .i64 12)).heap[w.heap.size]? = some (.cells (layArr layG4_4) 3 (0, 0))) := by
            show _ = _
            rw [heap_setCell_same _ _ _ _ _ _ HE2.out, layArr_set layG4_3 layG4_4 31 12 (by omega) (by decide) (fun i hi => by simp [layG4_3, layG4_4, hi])]
          have HBS3 : Hid (Below w.heap.size w (wr.setCell ⟨w.heap.size, 31, none⟩ (.int .i64 12))) := HBR.out.setCell (Nat.le_refl _) _
          go_wp2
          generalize wr.setCell ⟨w.heap.size, 31, none⟩ (.int .i64 12) = ws3 at HS3 HBS3 ⊢
          clear cs3 fs3
          go_wp2
          go_ret
          exact ⟨rfl, HS3.out, HBS3.out⟩

set_option maxRecDepth 100000 in
set_option maxHeartbeats 2000000 in
theorem layOut5 (w : World) : Calls Tryd.prog 139 #[.int .i64 5] w (LayPost 5 w) := by
  have HA : Hid ((w.alloc (.cells #[.int .i64 130, .int .i64 131, .int .i64 132, .int .i64 133, .int .i64 134, .int .i64 135, .int .i64 136, .int .i64 100, .int .i64 101, .int .i64 102, .int .i64 103, .int .i64 104, .int .i64 140, .int .i64 141, .int .i64 142, .int .i64 110, .int .i64 111, .int .i64 112, .int .i64 113, .int .i64 114, .int .i64 120, .int .i64 121, .int .i64 122, .int .i64 123, .int .i64 124, .int .i64 150, .int .i64 151, .int .i64 152, .int .i64 153, .int .i64 154, .int .i64 155, .int .i64 156] 3)).heap[w.heap.size]? = some (.cells (layArr layG5_0) 3 (0, 0))) := heap_alloc_last w _
  have HB : Hid (Below w.heap.size w (w.alloc (.cells #[.int .i64 130, .int .i64 131, .int .i64 132, .int .i64 133, .int .i64 134, .int .i64 135, .int .i64 136, .int .i64 100, .int .i64 101, .int .i64 102, .int .i64 103, .int .i64 104, .int .i64 140, .int .i64 141, .int .i64 142, .int .i64 110, .int .i64 111, .int .i64 112, .int .i64 113, .int .i64 114, .int .i64 120, .int .i64 121, .int .i64 122, .int .i64 123, .int .i64 124, .int .i64 150, .int .i64 151, .int .i64 152, .int .i64 153, .int .i64 154, .int .i64 155, .int .i64 156] 3))) := (Below.refl _ _).alloc (Nat.le_refl _) _
  unfold LayPost
  go_enter Tryd.func139, Tryd.ntmps139
  go_upto_region 2 with fail
  generalize w.alloc (.cells #[.int .i64 130, .int .i64 131, .int .i64 132, .int .i64 133, .int .i64 134, .int .i64 135, .int .i64 136, .int .i64 100, .int .i64 101, .int .i64 102, .int .i64 103, .int .i64 104, .int .i64 140, .int .i64 141, .int .i64 142, .int .i64 110, .int .i64 111, .int .i64 112, .int .i64 113, .int .i64 114, .int .i64 120, .int .i64 121, .int .i64 122, .int .i64 123, .int .i64 124, .int .i64 150, .int .i64 151, .int .i64 152, .int .i64 153, .int .i64 154, .int .i64 155, .int .i64 156] 3) = w0 at *
  have HI0 : Hid (w0.heap[w.heap.size]? = some (.cells (layArr (layF5_0 12)) 3 (0, 0))) := by
    have e : layF5_0 12 = layG5_0 := funext fun j => by unfold layF5_0 layG5_0; repeat (first | rw [if_neg (by omega)] | (split <;> try rfl))
    show _ = _
    rw [e]; exact HA.out
  go_wp2
  go_loopw [10] (fun v wr => ∃ k : Nat, 12 ≤ k ∧ k ≤ 20 ∧ v = .int .i64 k ∧ wr.heap[w.heap.size]? = some (.cells (layArr (layF5_0 k)) 3 (0, 0)) ∧ Below w.heap.size w wr) (fun v _ => 20 - (intOf v).toNat)
  case atStart => exact ⟨12, by omega, by omega, rfl, HI0.out, HB.out⟩
  case round =>
    obtain ⟨k, hk1, hk2, rfl, hg, hbr⟩ := hrel
    have HG : Hid (wr.heap[w.heap.size]? = some (.cells (layArr (layF5_0 k)) 3 (0, 0))) := hg
    have HBR : Hid (Below w.heap.size w wr) := hbr
    clear hg hbr
    by_cases hlt : k < 20
    · have hkI : (k : Int) < 20 := by omega
      have cc : wr.cell? ⟨w.heap.size, k, none⟩ = some (.int .i64 (layF5_0 k (k))) := by rw [cell_of_row _ _ _ _ _ _ HG.out, layArr_get _ _ (by omega)]
      have ff : wr.frozen? ⟨w.heap.size, k, none⟩ = false := frozen_of_row _ _ _ _ _ HG.out
      have HN : Hid ((layArr (layF5_0 k)).setIfInBounds (k) (.int .i64 (k : Int)) = layArr (layF5_0 (k + 1))) := layArr_set _ _ _ _ (by omega) (by unfold layF5_0; rw [if_pos (by omega)]; omega) (fun i hi => by unfold layF5_0; exact lay_if _ _ _ _ ⟨by omega, rfl, rfl⟩)
      go_wp2
      go_roundw
      case rel => exact ⟨k + 1, by omega, by omega, by go_num, by rw [heap_setCell_same _ _ _ _ _ _ HG.out, HN.out], HBR.out.setCell (Nat.le_refl _) _⟩
      case measure => simp [intOf]; omega
    · obtain rfl : k = 20 := by omega
      have HE0 : Hid (wr.heap[w.heap.size]? = some (.cells (layArr layG5_1) 3 (0, 0))) := HG.out
      have cs1 : wr.cell? ⟨w.heap.size, 20, none⟩ = some (.int .i64 (layG5_1 20)) := by rw [cell_of_row _ _ _ _ _ _ HE0.out, layArr_get _ _ (by omega)]
      have fs1 : wr.frozen? ⟨w.heap.size, 20, none⟩ = false := frozen_of_row _ _ _ _ _ HE0.out
      have HS1 : Hid ((wr.setCell ⟨w.heap.size, 20, none⟩ (.int .i64 11)).heap[w.heap.size]? = some (.cells (layArr layG5_2) 3 (0, 0))) := by
        show _ = _
        rw [heap_setCell_same _ _ _ _ _ _ HE0.out, layArr_set layG5_1 layG5_2 20 11 (by omega) (by decide) (fun i hi => by simp [layG5_1, layG5_2, hi])]
      have HBS1 : Hid (Below w.heap.size w (wr.setCell ⟨w.heap.size, 20, none⟩ (.int .i64 11))) := HBR.out.setCell (Nat.le_refl _) _
      go_wp2
      generalize wr.setCell ⟨w.heap.size, 20, none⟩ (.int .i64 11) = ws1 at HS1 HBS1 ⊢
      clear cs1 fs1
      have HI2 : Hid (ws1.heap[w.heap.size]? = some (.cells (layArr (layF5_2 1)) 3 (0, 0))) := by
        have e : layF5_2 1 = layG5_2 := funext fun j => by unfold layF5_2 layG5_2; repeat (first | rw [if_neg (by omega)] | (split <;> try rfl))
        show _ = _
        rw [e]; exact HS1.out
      go_loopw [11] (fun v wr => ∃ k : Nat, 1 ≤ k ∧ k ≤ 11 ∧ v = .int .i64 k ∧ wr.heap[w.heap.size]? = some (.cells (layArr (layF5_2 k)) 3 (0, 0)) ∧ Below w.heap.size w wr) (fun v _ => 11 - (intOf v).toNat)
      case atStart => exact ⟨1, by omega, by omega, rfl, HI2.out, HBS1.out⟩
      case round =>
        obtain ⟨k, hk1, hk2, rfl, hg, hbr⟩ := hrel
        have HG : Hid (wr.heap[w.heap.size]? = some (.cells (layArr (layF5_2 k)) 3 (0, 0))) := hg
        have HBR : Hid (Below w.heap.size w wr) := hbr
        clear hg hbr
        by_cases hlt : k < 11
        · have hkI : (k : Int) < 11 := by omega
          have cc : wr.cell? ⟨w.heap.size, 20 + k, none⟩ = some (.int .i64 (layF5_2 k (20 + k))) := by rw [cell_of_row _ _ _ _ _ _ HG.out, layArr_get _ _ (by omega)]
          have ff : wr.frozen? ⟨w.heap.size, 20 + k, none⟩ = false := frozen_of_row _ _ _ _ _ HG.out
          have HN : Hid ((layArr (layF5_2 k)).setIfInBounds (20 + k) (.int .i64 (k : Int)) = layArr (layF5_2 (k + 1))) := layArr_set _ _ _ _ (by omega) (by unfold layF5_2; rw [if_pos (by omega)]; omega) (fun i hi => by unfold layF5_2; exact lay_if _ _ _ _ ⟨by omega, rfl, rfl⟩)
          go_wp2
          go_roundw
          case rel => exact ⟨k + 1, by omega, by omega, by go_num, by rw [heap_setCell_same _ _ _ _ _ _ HG.out, HN.out], HBR.out.setCell (Nat.le_refl _) _⟩
          case measure => simp [intOf]; omega
        · obtain rfl : k = 11 := by omega
          have HE2 : Hid (wr.heap[w.heap.size]? = some (.cells (layArr layG5_3) 3 (0, 0))) := HG.out
          have cs3 : wr.cell? ⟨w.heap.size, 31, none⟩ = some (.int .i64 (layG5_3 31)) := by rw [cell_of_row _ _ _ _ _ _ HE2.out, layArr_get _ _ (by omega)]
          have fs3 : wr.frozen? ⟨w.heap.size, 31, none⟩ = false := frozen_of_row _ _ _ _ _ HE2.out
          have HS3 : Hid ((wr.setCell ⟨w.heap.size, 31, none⟩ (.int .i64 20)).heap[w.heap.size]? = some (.cells (layArr layG5_4) 3 (0, 0))) := by
            show _ = _
            rw [heap_setCell_same _ _ _ _ _ _ HE2.out, layArr_set layG5_3 layG5_4 31 20 (by omega) (by decide) (fun i hi => by simp [layG5_3, layG5_4, hi])]
          have HBS3 : Hid (Below w.heap.size w (wr.setCell ⟨w.heap.size, 31, none⟩ (.int .i64 20))) := HBR.out.setCell (Nat.le_refl _) _
          go_wp2
          generalize wr.setCell ⟨w.heap.size, 31, none⟩ (.int .i64 20) = ws3 at HS3 HBS3 ⊢
          clear cs3 fs3
          go_wp2
          go_ret
          exact ⟨rfl, HS3.out, HBS3.out⟩

set_option maxRecDepth 100000 in
set_option maxHeartbeats 2000000 in
theorem layOut6 (w : World) : Calls Tryd.prog 139 #[.int .i64 6] w (LayPost 6 w) := by
  have HA : Hid ((w.alloc (.cells #[.int .i64 130, .int .i64 131, .int .i64 132, .int .i64 133, .int .i64 134, .int .i64 135, .int .i64 136, .int .i64 100, .int .i64 101, .int .i64 102, .int .i64 103, .int .i64 104, .int .i64 140, .int .i64 141, .int .i64 142, .int .i64 110, .int .i64 111, .int .i64 112, .int .i64 113, .int .i64 114, .int .i64 120, .int .i64 121, .int .i64 122, .int .i64 123, .int .i64 124, .int .i64 150, .int .i64 151, .int .i64 152, .int .i64 153, .int .i64 154, .int .i64 155, .int .i64 156] 3)).heap[w.heap.size]? = some (.cells (layArr layG6_0) 3 (0, 0))) := heap_alloc_last w _
  have HB : Hid (Below w.heap.size w (w.alloc (.cells #[.int .i64 130, .int .i64 131, .int .i64 132, .int .i64 133, .int .i64 134, .int .i64 135, .int .i64 136, .int .i64 100, .int .i64 101, .int .i64 102, .int .i64 103, .int .i64 104, .int .i64 140, .int .i64 141, .int .i64 142, .int .i64 110, .int .i64 111, .int .i64 112, .int .i64 113, .int .i64 114, .int .i64 120, .int .i64 121, .int .i64 122, .int .i64 123, .int .i64 124, .int .i64 150, .int .i64 151, .int .i64 152, .int .i64 153, .int .i64 154, .int .i64 155, .int .i64 156] 3))) := (Below.refl _ _).alloc (Nat.le_refl _) _
  unfold LayPost
  go_enter Tryd.func139, Tryd.ntmps139
  go_upto_region 2 with fail
  generalize w.alloc (.cells #[.int .i64 130, .int .i64 131, .int .i64 132, .int .i64 133, .int .i64 134, .int .i64 135, .int .i64 136, .int .i64 100, .int .i64 101, .int .i64 102, .int .i64 103, .int .i64 104, .int .i64 140, .int .i64 141, .int .i64 142, .int .i64 110, .int .i64 111, .int .i64 112, .int .i64 113, .int .i64 114, .int .i64 120, .int .i64 121, .int .i64 122, .int .i64 123, .int .i64 124, .int .i64 150, .int .i64 151, .int .i64 152, .int .i64 153, .int .i64 154, .int .i64 155, .int .i64 156] 3) = w0 at *
  have HI0 : Hid (w0.heap[w.heap.size]? = some (.cells (layArr (layF6_0 0)) 3 (0, 0))) := by
    have e : layF6_0 0 = layG6_0 := funext fun j => by unfold layF6_0 layG6_0; repeat (first | rw [if_neg (by omega)] | (split <;> try rfl))
    show _ = _
    rw [e]; exact HA.out
  go_wp2
  go_loopw [12] (fun v wr => ∃ k : Nat, 0 ≤ k ∧ k ≤ 20 ∧ v = .int .i64 k ∧ wr.heap[w.heap.size]? = some (.cells (layArr (layF6_0 k)) 3 (0, 0)) ∧ Below w.heap.size w wr) (fun v _ => 20 - (intOf v).toNat)
  case atStart => exact ⟨0, by omega, by omega, rfl, HI0.out, HB.out⟩
  case round =>
    obtain ⟨k, hk1, hk2, rfl, hg, hbr⟩ := hrel
    have HG : Hid (wr.heap[w.heap.size]? = some (.cells (layArr (layF6_0 k)) 3 (0, 0))) := hg
    have HBR : Hid (Below w.heap.size w wr) := hbr
    clear hg hbr
    by_cases hlt : k < 20
    · have hkI : (k : Int) < 20 := by omega
      have cc : wr.cell? ⟨w.heap.size, 12 + k, none⟩ = some (.int .i64 (layF6_0 k (12 + k))) := by rw [cell_of_row _ _ _ _ _ _ HG.out, layArr_get _ _ (by omega)]
      have ff : wr.frozen? ⟨w.heap.size, 12 + k, none⟩ = false := frozen_of_row _ _ _ _ _ HG.out
      have HN : Hid ((layArr (layF6_0 k)).setIfInBounds (12 + k) (.int .i64 (k : Int)) = layArr (layF6_0 (k + 1))) := layArr_set _ _ _ _ (by omega) (by unfold layF6_0; rw [if_pos (by omega)]; omega) (fun i hi => by unfold layF6_0; exact lay_if _ _ _ _ ⟨by omega, rfl, rfl⟩)
      go_wp2
      go_roundw
      case rel => exact ⟨k + 1, by omega, by omega, by go_num, by rw [heap_setCell_same _ _ _ _ _ _ HG.out, HN.out], HBR.out.setCell (Nat.le_refl _) _⟩
      case measure => simp [intOf]; omega
    · obtain rfl : k = 20 := by omega
      have HE0 : Hid (wr.heap[w.heap.size]? = some (.cells (layArr layG6_1) 3 (0, 0))) := HG.out
      go_wp2
      go_ret
      exact ⟨rfl, HE0.out, HBR.out⟩

set_option maxRecDepth 100000 in
set_option maxHeartbeats 2000000 in
theorem layOut7 (w : World) : Calls Tryd.prog 139 #[.int .i64 7] w (LayPost 7 w) := by
  have HA : Hid ((w.alloc (.cells #[.int .i64 130, .int .i64 131, .int .i64 132, .int .i64 133, .int .i64 134, .int .i64 135, .int .i64 136, .int .i64 100, .int .i64 101, .int .i64 102, .int .i64 103, .int .i64 104, .int .i64 140, .int .i64 141, .int .i64 142, .int .i64 110, .int .i64 111, .int .i64 112, .int .i64 113, .int .i64 114, .int .i64 120, .int .i64 121, .int .i64 122, .int .i64 123, .int .i64 124, .int .i64 150, .int .i64 151, .int .i64 152, .int .i64 153, .int .i64 154, .int .i64 155, .int .i64 156] 3)).heap[w.heap.size]? = some (.cells (layArr layG7_0) 3 (0, 0))) := heap_alloc_last w _
  have HB : Hid (Below w.heap.size w (w.alloc (.cells #[.int .i64 130, .int .i64 131, .int .i64 132, .int .i64 133, .int .i64 134, .int .i64 135, .int .i64 136, .int .i64 100, .int .i64 101, .int .i64 102, .int .i64 103, .int .i64 104, .int .i64 140, .int .i64 141, .int .i64 142, .int .i64 110, .int .i64 111, .int .i64 112, .int .i64 113, .int .i64 114, .int .i64 120, .int .i64 121, .int .i64 122, .int .i64 123, .int .i64 124, .int .i64 150, .int .i64 151, .int .i64 152, .int .i64 153, .int .i64 154, .int .i64 155, .int .i64 156] 3))) := (Below.refl _ _).alloc (Nat.le_refl _) _
  unfold LayPost
  go_enter Tryd.func139, Tryd.ntmps139
  go_upto_region 2 with fail
  generalize w.alloc (.cells #[.int .i64 130, .int .i64 131, .int .i64 132, .int .i64 133, .int .i64 134, .int .i64 135, .int .i64 136, .int .i64 100, .int .i64 101, .int .i64 102, .int .i64 103, .int .i64 104, .int .i64 140, .int .i64 141, .int .i64 142, .int .i64 110, .int .i64 111, .int .i64 112, .int .i64 113, .int .i64 114, .int .i64 120, .int .i64 121, .int .i64 122, .int .i64 123, .int .i64 124, .int .i64 150, .int .i64 151, .int .i64 152, .int .i64 153, .int .i64 154, .int .i64 155, .int .i64 156] 3) = w0 at *
  go_wp2
  go_ret
  exact ⟨rfl, HA.out, HB.out⟩

theorem layOut_any (s : Nat) (hs : s < 8) (w : World) : Calls Tryd.prog 139 #[.int .i64 s] w (LayPost s w) := by
  match s, hs with
  | 0, _ => exact layOut0 w
  | 1, _ => exact layOut1 w
  | 2, _ => exact layOut2 w
  | 3, _ => exact layOut3 w
  | 4, _ => exact layOut4 w
  | 5, _ => exact layOut5 w
  | 6, _ => exact layOut6 w
  | 7, _ => exact layOut7 w
end Go.Proofs.YtndogdojcbcjgaaDoor
