/- How a machine lies in memory; contracts of put, load and store. -/
import Derived.Test.YtapjfiihfgndeaaDoorInts
import Derived.Test.YtapjfiihfgndeaaDoorCpuOps
namespace Go.Proofs.YtapjfiihfgndeaaDoor
open Go Go.RowKit

def mcCells (c : Cp) (wv : Value) : List Value := i64s c.regs ++ (i64s c.data ++ [.int .i64 c.pc, .bool c.halted, wv])
theorem mc_reg {c : Cp} (h : c.Ok) (wv : Value) (r : Nat) (hr : r < 32) : (mcCells c wv)[r]? = some (.int .i64 (c.regs.getD r 0)) := by
  unfold mcCells
  rw [List.getElem?_append_left (by simp [i64s, h.r]; omega)]
  simp [i64s, List.getD, h.r, hr]
theorem mc_data {c : Cp} (h : c.Ok) (wv : Value) (k : Nat) (hk : k < 64) : (mcCells c wv)[32 + k]? = some (.int .i64 (c.data.getD k 0)) := by
  unfold mcCells
  rw [List.getElem?_append_right (by simp [i64s, h.r]), List.getElem?_append_left (by simp [i64s, h.r, h.d]; omega)]
  simp [i64s, List.getD, h.r, h.d, hk]
theorem mc_tail {c : Cp} (h : c.Ok) (wv : Value) (i : Nat) : (mcCells c wv)[96 + i]? = [Value.int .i64 c.pc, .bool c.halted, wv][i]? := by
  unfold mcCells
  rw [List.getElem?_append_right (by simp [i64s, h.r]; omega), List.getElem?_append_right (by simp [i64s, h.r, h.d]; omega)]
  congr 1
  simp [i64s, h.r, h.d]; omega
theorem mc_setReg {c : Cp} (h : c.Ok) (wv : Value) (r : Nat) (hr : r < 32) (v : Int) : (mcCells c wv).set r (.int .i64 v) = mcCells { c with regs := c.regs.set r v } wv := by
  unfold mcCells
  rw [List.set_append_left _ _ (by simp [i64s, h.r]; omega)]
  congr 1
  simp [i64s, List.map_set]
theorem mc_setData {c : Cp} (h : c.Ok) (wv : Value) (k : Nat) (hk : k < 64) (v : Int) : (mcCells c wv).set (32 + k) (.int .i64 v) = mcCells { c with data := c.data.set k v } wv := by
  unfold mcCells
  rw [List.set_append_right _ _ (by simp [i64s, h.r]), List.set_append_left _ _ (by simp [i64s, h.r, h.d]; omega)]
  congr 2
  simp [i64s, List.map_set, h.r]
theorem mc_setTail {c : Cp} (h : c.Ok) (wv : Value) (i : Nat) (u : Value) : (mcCells c wv).set (96 + i) u = i64s c.regs ++ (i64s c.data ++ [Value.int .i64 c.pc, .bool c.halted, wv].set i u) := by
  unfold mcCells
  rw [List.set_append_right _ _ (by simp [i64s, h.r]; omega), List.set_append_right _ _ (by simp [i64s, h.r, h.d]; omega)]
  congr 3
  simp [i64s, h.r, h.d]; omega
theorem mc_len {c : Cp} (h : c.Ok) (wv : Value) : (mcCells c wv).length = 99 := by simp [mcCells, i64s, h.r, h.d]

/-- A machine lies in memory, in a block at base or above. -/
structure MAt (w : World) (base g : Nat) (c : Cp) (wv : Value) : Prop where
  cells : w.heap[g]? = some (.cells (mcCells c wv).toArray 60 (0, 0))
  low : base ≤ g
  ok : c.Ok
theorem MAt.lt {w : World} {base g : Nat} {c : Cp} {wv : Value} (h : MAt w base g c wv) : g < w.heap.size := lt_of_block h.cells
theorem MAt.reg {w : World} {base g : Nat} {c : Cp} {wv : Value} (h : MAt w base g c wv) (r : Nat) (hr : r < 32) : w.cell? ⟨g, r, none⟩ = some (.int .i64 (c.regs.getD r 0)) := by
  rw [cell_of_row _ _ _ _ _ _ h.cells, List.getElem?_toArray]; exact mc_reg h.ok wv r hr
theorem MAt.dat {w : World} {base g : Nat} {c : Cp} {wv : Value} (h : MAt w base g c wv) (k : Nat) (hk : k < 64) : w.cell? ⟨g, 32 + k, none⟩ = some (.int .i64 (c.data.getD k 0)) := by
  rw [cell_of_row _ _ _ _ _ _ h.cells, List.getElem?_toArray]; exact mc_data h.ok wv k hk
theorem MAt.pc {w : World} {base g : Nat} {c : Cp} {wv : Value} (h : MAt w base g c wv) : w.cell? ⟨g, 96, none⟩ = some (.int .i64 c.pc) := by
  rw [cell_of_row _ _ _ _ _ _ h.cells, List.getElem?_toArray]; exact mc_tail h.ok wv 0
theorem MAt.halted {w : World} {base g : Nat} {c : Cp} {wv : Value} (h : MAt w base g c wv) : w.cell? ⟨g, 97, none⟩ = some (.bool c.halted) := by
  rw [cell_of_row _ _ _ _ _ _ h.cells, List.getElem?_toArray]; exact mc_tail h.ok wv 1
theorem MAt.words {w : World} {base g : Nat} {c : Cp} {wv : Value} (h : MAt w base g c wv) : w.cell? ⟨g, 98, none⟩ = some wv := by
  rw [cell_of_row _ _ _ _ _ _ h.cells, List.getElem?_toArray]; exact mc_tail h.ok wv 2
theorem MAt.free {w : World} {base g : Nat} {c : Cp} {wv : Value} (h : MAt w base g c wv) (i : Nat) : w.frozen? ⟨g, i, none⟩ = false := frozen_of_row _ _ _ _ _ h.cells
theorem MAt.below {w w' : World} {base g B : Nat} {c : Cp} {wv : Value} (h : MAt w base g c wv) (hb : Below B w w') (hB : g < B) : MAt w' base g c wv := ⟨(hb.block _ hB).trans h.cells, h.low, h.ok⟩
theorem MAt.box {w : World} {base g : Nat} {c : Cp} {wv : Value} (h : MAt w base g c wv) (o : Obj) : MAt (w.alloc o) base g c wv := h.below ((Below.refl _ _).alloc (Nat.le_refl _) o) h.lt
theorem MAt.set {w : World} {base g : Nat} {c c' : Cp} {wv : Value} (h : MAt w base g c wv) (i : Nat) (u : Value) (hc : (mcCells c wv).set i u = mcCells c' wv) (ho : c'.Ok) : MAt (w.setCell ⟨g, i, none⟩ u) base g c' wv ∧ Below base w (w.setCell ⟨g, i, none⟩ u) := by
  refine ⟨⟨?_, h.low, ho⟩, (Below.refl _ _).setCell (by simpa using h.low) _⟩
  rw [heap_setCell_same _ _ _ _ _ _ h.cells, List.setIfInBounds_toArray, hc]
theorem MAt.go {w : World} {base g : Nat} {c : Cp} {wv : Value} (h : MAt w base g c wv) (p : Int) : MAt (w.setCell ⟨g, 96, none⟩ (.int .i64 p)) base g (c.go p) wv ∧ Below base w (w.setCell ⟨g, 96, none⟩ (.int .i64 p)) :=
  h.set 96 _ (mc_setTail h.ok wv 0 _) (h.ok.go p)
theorem MAt.stop {w : World} {base g : Nat} {c : Cp} {wv : Value} (h : MAt w base g c wv) : MAt (w.setCell ⟨g, 97, none⟩ (.bool true)) base g c.stop wv ∧ Below base w (w.setCell ⟨g, 97, none⟩ (.bool true)) :=
  h.set 97 _ (mc_setTail h.ok wv 1 _) h.ok.stop
theorem MAt.put {w : World} {base g : Nat} {c : Cp} {wv : Value} (h : MAt w base g c wv) (r : Nat) (hr : r < 32) (h0 : r ≠ 0) (v : Int) : MAt (w.setCell ⟨g, r, none⟩ (.int .i64 v)) base g (c.put r v) wv ∧ Below base w (w.setCell ⟨g, r, none⟩ (.int .i64 v)) := by
  refine h.set r _ ?_ (h.ok.put _ _)
  rw [mc_setReg h.ok wv r hr]
  unfold Cp.put
  rw [if_neg (by omega)]
  simp
theorem MAt.keep {w : World} {base g : Nat} {c : Cp} {wv : Value} (h : MAt w base g c wv) (t : Int) (k : Nat) (hk : k < 64) (ht : (t / 8).toNat = k) (v : Int) : MAt (w.setCell ⟨g, 32 + k, none⟩ (.int .i64 v)) base g (c.keep t v) wv ∧ Below base w (w.setCell ⟨g, 32 + k, none⟩ (.int .i64 v)) := by
  refine h.set (32 + k) _ ?_ (h.ok.keep _ _)
  rw [mc_setData h.ok wv k hk]
  unfold Cp.keep
  rw [ht]

set_option maxRecDepth 100000 in
theorem cput_any (base g : Nat) (c : Cp) (wv : Value) (r v : Int) (w : World) (h : MAt w base g c wv) (r0 : 0 ≤ r) (r1 : r < 32) :
    Calls Tryd.prog 44 #[.pointer (some ⟨g, 0, none⟩), .int .i64 r, .int .i64 v] w fun e w' => e = .returned (.tuple #[]) ∧ MAt w' base g (c.put r v) wv ∧ Below base w w' := by
  obtain ⟨k, rfl⟩ := Int.eq_ofNat_of_zero_le r0
  by_cases h0 : k = 0
  · subst h0
    have e : c.put ((0 : Nat) : Int) v = c := by simp [Cp.put]
    rw [e]; clear e
    have H : Hid (MAt w base g c wv) := h
    clear h
    simp only [Int.ofNat_zero]
    go_enter Tryd.func44, Tryd.ntmps44
    go_wp2
    go_end0
    exact ⟨rfl, H.out, Below.refl _ _⟩
  · have c1 := h.reg k (by omega)
    have f1 := h.free k
    have H : Hid _ := h.put k (by omega) h0 v
    have hk : (k : Int) < 32 := r1
    have hk0 : ¬ (k : Int) = 0 := by omega
    clear h r0 r1
    go_enter Tryd.func44, Tryd.ntmps44
    go_wp2
    go_end0
    exact ⟨rfl, H.out.1, H.out.2⟩
theorem word_place {t : Int} (h : isW t = true) : 0 ≤ t ∧ t < 512 ∧ (t / 8).toNat < 64 ∧ 0 ≤ t / 8 ∧ t.tdiv 8 = t / 8 := by
  unfold isW at h
  simp at h
  refine ⟨h.1, h.2.1, by omega, by omega, Int.tdiv_eq_ediv_of_nonneg h.1⟩
set_option maxRecDepth 100000 in
theorem cload_bad (g : Nat) (t : Int) (w : World) (hb : isW t = false) :
    Calls Tryd.prog 43 #[.pointer (some ⟨g, 32, none⟩), .int .i64 t] w fun e w' => e = .returned (.tuple #[.int .i64 0, .int .i64 2]) ∧ w' = w := by
  have hc := fun w => isWord_any t w
  rw [hb] at hc
  go_enter Tryd.func43, Tryd.ntmps43
  go_wp2_with (go_at_call 56; refine (hc _).mono ?_; rintro e w' ⟨rfl, rfl⟩)
  go_ret2
  exact ⟨rfl, rfl⟩
set_option maxRecDepth 100000 in
theorem cload_any (base g : Nat) (c : Cp) (wv : Value) (t : Int) (w : World) (h : MAt w base g c wv) (hb : isW t = true) :
    Calls Tryd.prog 43 #[.pointer (some ⟨g, 32, none⟩), .int .i64 t] w fun e w' => e = .returned (.tuple #[.int .i64 (c.word t), .int .i64 0]) ∧ w' = w := by
  have hc := fun w => isWord_any t w
  rw [hb] at hc
  obtain ⟨t0, t1, t2, t3, t4⟩ := word_place hb
  have c1 := h.dat (t / 8).toNat t2
  unfold Cp.word
  generalize c.data.getD (t / 8).toNat 0 = V at *
  obtain ⟨k, hk⟩ := Int.eq_ofNat_of_zero_le t3
  rw [hk] at c1 t4
  have hk2 : (k : Int) < 64 := by omega
  simp only [Int.toNat_natCast] at c1
  clear h hb t0 t1 t2 t3
  go_enter Tryd.func43, Tryd.ntmps43
  go_wp2_with (go_at_call 56; refine (hc _).mono ?_; rintro e w' ⟨rfl, rfl⟩)
  go_ret2
  exact ⟨rfl, rfl⟩
set_option maxRecDepth 100000 in
theorem cstore_bad (g : Nat) (t v : Int) (w : World) (hb : isW t = false) :
    Calls Tryd.prog 45 #[.pointer (some ⟨g, 32, none⟩), .int .i64 t, .int .i64 v] w fun e w' => e = .returned (.int .i64 2) ∧ w' = w := by
  have hc := fun w => isWord_any t w
  rw [hb] at hc
  go_enter Tryd.func45, Tryd.ntmps45
  go_wp2_with (go_at_call 56; refine (hc _).mono ?_; rintro e w' ⟨rfl, rfl⟩)
  go_ret
  exact ⟨rfl, rfl⟩
set_option maxRecDepth 100000 in
theorem cstore_any (base g : Nat) (c : Cp) (wv : Value) (t v : Int) (w : World) (h : MAt w base g c wv) (hb : isW t = true) :
    Calls Tryd.prog 45 #[.pointer (some ⟨g, 32, none⟩), .int .i64 t, .int .i64 v] w fun e w' => e = .returned (.int .i64 0) ∧ MAt w' base g (c.keep t v) wv ∧ Below base w w' := by
  have hc := fun w => isWord_any t w
  rw [hb] at hc
  obtain ⟨t0, t1, t2, t3, t4⟩ := word_place hb
  have c1 := h.dat (t / 8).toNat t2
  have f1 := h.free (32 + (t / 8).toNat)
  have H : Hid _ := h.keep t (t / 8).toNat t2 rfl v
  obtain ⟨k, hk⟩ := Int.eq_ofNat_of_zero_le t3
  rw [hk] at c1 t4 f1 H
  have hk2 : (k : Int) < 64 := by omega
  simp only [Int.toNat_natCast] at c1 f1 H
  clear h hb t0 t1 t2 t3
  go_enter Tryd.func45, Tryd.ntmps45
  go_wp2_with (go_at_call 56; refine (hc _).mono ?_; rintro e w' ⟨rfl, rfl⟩)
  go_ret
  exact ⟨rfl, H.out.1, H.out.2⟩
end Go.Proofs.YtapjfiihfgndeaaDoor
