/- Contracts of code.reader's instr: twelve bytes are an instruction; where there are fewer it gives up. -/
import Derived.Test.YtjckpdeogbamjaaDoorReader
namespace Go.Proofs.YtjckpdeogbamjaaDoor
open Go Go.RowKit

def insOf (l : List Int) (at_ : Nat) : Ins := ⟨l.getD at_ 0, l.getD (at_ + 1) 0, l.getD (at_ + 2) 0, l.getD (at_ + 3) 0, wrap64 (beNum l (at_ + 4) 8)⟩

theorem grown_setNew {a b : World} {r : Option Nat} (h : a.grownBy b r) {p : Addr} (hp : a.heap.size ≤ p.block) (v : Value) : a.grownBy (b.setCell p v) r :=
  ⟨h.os, h.tape, h.output, by simpa [World.setCell] using h.size, fun i hi hr => (Below.heap_setCell _ _ _ _ (by omega)).trans (h.block i hi hr)⟩
theorem RD.setNew {w : World} {R : Nat} {ao : Option Addr} {b off n cap at_ : Nat} {l : List Int} (h : RD w R ao b off n cap at_ l) {p : Addr} (h1 : p.block ≠ R) (h2 : 0 < n → p.block ≠ b) (v : Value) : RD (w.setCell p v) R ao b off n cap at_ l :=
  ⟨(Below.heap_setCell _ _ _ _ (fun e => h1 e.symm)).trans h.blk, h.ne, h.len, h.small, h.addr, fun i hi => (World.cell?_of_block (w := w) (Below.heap_setCell _ _ _ _ (fun e => h2 (by omega) e.symm))).trans (h.cell i hi), h.byte⟩
theorem RD.lt {w : World} {R : Nat} {ao : Option Addr} {b off n cap at_ : Nat} {l : List Int} (h : RD w R ao b off n cap at_ l) : R < w.heap.size ∧ (0 < n → b < w.heap.size) :=
  ⟨lt_of_block h.blk, fun hp => World.block_lt_of_cell? _ _ (h.cell 0 hp)⟩

set_option maxHeartbeats 400000 in
theorem instr_short {w : World} {R : Nat} {ao : Option Addr} {b off n cap at_ : Nat} {l : List Int} (h : RD w R ao b off n cap at_ l) (hs : n < at_ + 12) (hat : at_ ≤ n) :
    Calls Tryd.prog 31 #[.pointer (some ⟨R, 0, none⟩)] w fun e w' => e = .panicked [{ v := .iface 27 (.int .i64 4), recovered := false }] ∧ w.grownBy w' (some R) := by
  have hsm := h.small
  have hb0 : Below w.heap.size w (w.alloc (.cells #[.int .i64 0, .int .i64 0, .int .i64 0, .int .i64 0, .int .i64 0] 44)) := (Below.refl _ _).alloc (Nat.le_refl _) _
  have hr0 := h.kept hb0
  have hg0 := grown_below (some R) hb0
  clear h hb0
  rcases (show n = at_ ∨ n = at_ + 1 ∨ n = at_ + 2 ∨ n = at_ + 3 ∨ at_ + 4 ≤ n by omega) with e | e | e | e | e
  · go_enter Tryd.func31, Tryd.ntmps31
    go_wp2_with (first | (go_at_call 25; refine (next_short hr0 (by omega)).mono ?_; rintro e w1 ⟨rfl, hg1⟩))
    exact ⟨rfl, rfl, grown_trans (hg0) hg1⟩
  · go_enter Tryd.func31, Tryd.ntmps31
    go_wp2_with (first | (go_at_call 25; refine (next_ok hr0 (by omega)).mono ?_; rintro e w1 ⟨rfl, hg1, hr1⟩) | (go_at_call 25; refine (next_short hr1 (by omega)).mono ?_; rintro e w2 ⟨rfl, hg2⟩))
    exact ⟨rfl, rfl, grown_trans (grown_trans (hg0) hg1) hg2⟩
  · go_enter Tryd.func31, Tryd.ntmps31
    go_wp2_with (first | (go_at_call 25; refine (next_ok hr0 (by omega)).mono ?_; rintro e w1 ⟨rfl, hg1, hr1⟩) | (go_at_call 25; refine (next_ok hr1 (by omega)).mono ?_; rintro e w2 ⟨rfl, hg2, hr2⟩) | (go_at_call 25; refine (next_short hr2 (by omega)).mono ?_; rintro e w3 ⟨rfl, hg3⟩))
    exact ⟨rfl, rfl, grown_trans (grown_trans (grown_trans (hg0) hg1) hg2) hg3⟩
  · go_enter Tryd.func31, Tryd.ntmps31
    go_wp2_with (first | (go_at_call 25; refine (next_ok hr0 (by omega)).mono ?_; rintro e w1 ⟨rfl, hg1, hr1⟩) | (go_at_call 25; refine (next_ok hr1 (by omega)).mono ?_; rintro e w2 ⟨rfl, hg2, hr2⟩) | (go_at_call 25; refine (next_ok hr2 (by omega)).mono ?_; rintro e w3 ⟨rfl, hg3, hr3⟩) | (go_at_call 25; refine (next_short hr3 (by omega)).mono ?_; rintro e w4 ⟨rfl, hg4⟩))
    exact ⟨rfl, rfl, grown_trans (grown_trans (grown_trans (grown_trans (hg0) hg1) hg2) hg3) hg4⟩
  · go_enter Tryd.func31, Tryd.ntmps31
    go_wp2_with (first | (go_at_call 25; refine (next_ok hr0 (by omega)).mono ?_; rintro e w1 ⟨rfl, hg1, hr1⟩) | (go_at_call 25; refine (next_ok hr1 (by omega)).mono ?_; rintro e w2 ⟨rfl, hg2, hr2⟩) | (go_at_call 25; refine (next_ok hr2 (by omega)).mono ?_; rintro e w3 ⟨rfl, hg3, hr3⟩) | (go_at_call 25; refine (next_ok hr3 (by omega)).mono ?_; rintro e w4 ⟨rfl, hg4, hr4⟩) | (go_at_call 40; refine (imm_short hr4 (by omega) (by omega)).mono ?_; rintro e w5 ⟨rfl, hg5⟩))
    exact ⟨rfl, rfl, grown_trans (grown_trans (grown_trans (grown_trans (grown_trans (hg0) hg1) hg2) hg3) hg4) hg5⟩

set_option maxHeartbeats 400000 in
theorem instr_ok {w : World} {R : Nat} {ao : Option Addr} {b off n cap at_ : Nat} {l : List Int} (h : RD w R ao b off n cap at_ l) (hs : at_ + 12 ≤ n) :
    Calls Tryd.prog 31 #[.pointer (some ⟨R, 0, none⟩)] w fun e w' => e = .returned (insOf l at_).val ∧ w.grownBy w' (some R) ∧ RD w' R ao b off n cap (at_ + 12) l := by
  have hsm := h.small
  have hlt := h.lt
  have hb0 : Below w.heap.size w (w.alloc (.cells #[.int .i64 0, .int .i64 0, .int .i64 0, .int .i64 0, .int .i64 0] 44)) := (Below.refl _ _).alloc (Nat.le_refl _) _
  have hr0 := h.kept hb0
  have hg0 := grown_below (some R) hb0
  clear h hb0
  go_enter Tryd.func31, Tryd.ntmps31
  go_wp2_with (first | (go_at_call 25; refine (next_ok hr0 (by omega)).mono ?_; rintro e w1 ⟨rfl, hg1, hr1⟩) | (go_at_call 25; refine (next_ok hr1 (by omega)).mono ?_; rintro e w2 ⟨rfl, hg2, hr2⟩) | (go_at_call 25; refine (next_ok hr2 (by omega)).mono ?_; rintro e w3 ⟨rfl, hg3, hr3⟩) | (go_at_call 25; refine (next_ok hr3 (by omega)).mono ?_; rintro e w4 ⟨rfl, hg4, hr4⟩) | (go_at_call 40; refine (imm_ok hr4 (by omega)).mono ?_; rintro e w5 ⟨rfl, hg5, hr5⟩; have q : w5.heap[w.heap.size]? = some (.cells #[.int .i64 0, .int .i64 0, .int .i64 0, .int .i64 0, .int .i64 0] 44) := (((((grown_trans hg1 (grown_trans hg2 (grown_trans hg3 (grown_trans hg4 hg5)))).block w.heap.size (by simp) (by simp; omega)).trans (heap_alloc_new w _)))); have q0 : w5.cell? ⟨w.heap.size, 0, none⟩ = some (.int .i64 0) := (by simp [World.cell?, q]); have f0 : w5.frozen? ⟨w.heap.size, 0, none⟩ = false := (by simp [World.frozen?, q]); have q1 : w5.cell? ⟨w.heap.size, 1, none⟩ = some (.int .i64 0) := (by simp [World.cell?, q]); have f1 : w5.frozen? ⟨w.heap.size, 1, none⟩ = false := (by simp [World.frozen?, q]); have q2 : w5.cell? ⟨w.heap.size, 2, none⟩ = some (.int .i64 0) := (by simp [World.cell?, q]); have f2 : w5.frozen? ⟨w.heap.size, 2, none⟩ = false := (by simp [World.frozen?, q]); have q3 : w5.cell? ⟨w.heap.size, 3, none⟩ = some (.int .i64 0) := (by simp [World.cell?, q]); have f3 : w5.frozen? ⟨w.heap.size, 3, none⟩ = false := (by simp [World.frozen?, q]); have q4 : w5.cell? ⟨w.heap.size, 4, none⟩ = some (.int .i64 0) := (by simp [World.cell?, q]); have f4 : w5.frozen? ⟨w.heap.size, 4, none⟩ = false := (by simp [World.frozen?, q])))
  have G := grown_trans (grown_trans (grown_trans (grown_trans (grown_trans (hg0) hg1) hg2) hg3) hg4) hg5
  refine bodyPost_ret (v := .agg #[.int .i64 (l.getD at_ 0), .int .i64 (l.getD (at_ + 1) 0), .int .i64 (l.getD (at_ + 2) 0), .int .i64 (l.getD (at_ + 3) 0), .int .i64 (wrap64 (beNum l (at_ + 4) 8))]) (by simp [results, Tryd.results31, go_sem, q0, q1, q2, q3, q4]) rfl ⟨rfl, ?_, ?_⟩
  · exact grown_setNew (grown_setNew (grown_setNew (grown_setNew (grown_setNew G (Nat.le_refl _) _) (Nat.le_refl _) _) (Nat.le_refl _) _) (Nat.le_refl _) _) (Nat.le_refl _) _
  · have n1 : w.heap.size ≠ R := by omega
    have n2 : 0 < n → w.heap.size ≠ b := fun hp => by have := hlt.2 hp; omega
    exact ((((hr5.setNew n1 n2 _).setNew n1 n2 _).setNew n1 n2 _).setNew n1 n2 _).setNew n1 n2 _

end Go.Proofs.YtjckpdeogbamjaaDoor
