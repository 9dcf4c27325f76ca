/- Contracts of the methods of code.reader: as many bytes as they take; where there are too few, they give up by a panic with api.ErrShort. -/
import Derived.Test.YtjckpdeogbamjaaDoorSameBytes
import Derived.Test.YtjckpdeogbamjaaDoorInfos
import Derived.Test.YtjckpdeogbamjaaDoorNum
import Derived.Test.YtjckpdeogbamjaaDoorLater
import Derived.WalkLawsBesides
import Derived.Deep.QuietTactic
import Derived.BigQuiet
namespace Go.Proofs.YtjckpdeogbamjaaDoor
open Go Go.RowKit

/-- A reader: its bytes lie elsewhere. -/
structure RD (w : World) (R : Nat) (ao : Option Addr) (b off n cap at_ : Nat) (l : List Int) : Prop where
  blk : w.heap[R]? = some (.cells #[.slice ao n cap, .int .i64 at_] 49)
  ne : b ≠ R
  len : l.length = n
  small : n ≤ 4000
  addr : 0 < n → ao = some ⟨b, off, none⟩
  cell : ∀ i, i < n → w.cell? ⟨b, off + i, none⟩ = some (.int .u8 (l.getD i 0))
  byte : ∀ i, 0 ≤ l.getD i 0 ∧ l.getD i 0 ≤ 255

/-- What else is done leaves the reader alone. -/
theorem RD.kept {w w' : World} {R : Nat} {ao : Option Addr} {b off n cap at_ : Nat} {l : List Int} (h : RD w R ao b off n cap at_ l) (hb : Below w.heap.size w w') : RD w' R ao b off n cap at_ l :=
  ⟨(hb.block R (lt_of_block h.blk)).trans h.blk, h.ne, h.len, h.small, h.addr, fun i hi => keeps_below hb _ _ (h.cell i hi), h.byte⟩
/-- The reader moved on. -/
theorem RD.moved {w w' : World} {R : Nat} {ao : Option Addr} {b off n cap at_ at' : Nat} {l : List Int} (h : RD w R ao b off n cap at_ l) (hg : w.grownBy w' (some R))
    (hb : w'.heap[R]? = some (.cells #[.slice ao n cap, .int .i64 at'] 49)) : RD w' R ao b off n cap at' l :=
  ⟨hb, h.ne, h.len, h.small, h.addr, fun i hi => hg.cell (h.cell i hi) (by simpa using h.ne), h.byte⟩

theorem grown_trans {a b c : World} {r : Option Nat} (h : a.grownBy b r) (k : b.grownBy c r) : a.grownBy c r :=
  ⟨k.os.trans h.os, k.tape.trans h.tape, k.output.trans h.output, Nat.le_trans h.size k.size, fun i hi hr => (k.block i (Nat.lt_of_lt_of_le hi h.size) hr).trans (h.block i hi hr)⟩
theorem grown_below {a b : World} (r : Option Nat) (h : Below a.heap.size a b) : a.grownBy b r := ⟨h.os, h.tape, h.output, h.size, fun i hi _ => h.block i hi⟩

theorem next_short {w : World} {R : Nat} {ao : Option Addr} {b off n cap at_ : Nat} {l : List Int} (h : RD w R ao b off n cap at_ l) (hs : n ≤ at_) :
    Calls Tryd.prog 25 #[.pointer (some ⟨R, 0, none⟩)] w fun e w' => e = .panicked [{ v := .iface 27 (.int .i64 4), recovered := false }] ∧ w.grownBy w' (some R) := by
  have c0 : w.cell? ⟨R, 0, none⟩ = some (.slice ao n cap) := by simp [World.cell?, h.blk]
  have c1 : w.cell? ⟨R, 1, none⟩ = some (.int .i64 at_) := by simp [World.cell?, h.blk]
  have hd : decide ((n : Int) ≤ (at_ : Int)) = true := by simp; omega
  clear h
  go_enter Tryd.func25, Tryd.ntmps25
  go_wp2
  go_quiet (fail)
  go_wp2
  exact ⟨rfl, rfl, ⟨rfl, rfl, rfl, Nat.le_refl _, fun _ _ _ => rfl⟩⟩

theorem next_ok {w : World} {R : Nat} {ao : Option Addr} {b off n cap at_ : Nat} {l : List Int} (h : RD w R ao b off n cap at_ l) (hs : at_ < n) :
    Calls Tryd.prog 25 #[.pointer (some ⟨R, 0, none⟩)] w fun e w' => e = .returned (.int .i64 (l.getD at_ 0)) ∧ w.grownBy w' (some R) ∧ RD w' R ao b off n cap (at_ + 1) l := by
  have c0 : w.cell? ⟨R, 0, none⟩ = some (.slice ao n cap) := by simp [World.cell?, h.blk]
  have c1 : w.cell? ⟨R, 1, none⟩ = some (.int .i64 at_) := by simp [World.cell?, h.blk]
  have cf : w.frozen? ⟨R, 1, none⟩ = false := by simp [World.frozen?, h.blk]
  have hd : decide ((n : Int) ≤ (at_ : Int)) = false := by simp; omega
  have hlt : (at_ : Int) < (n : Int) := by omega
  obtain rfl := h.addr (by omega)
  have cb := h.cell at_ hs
  obtain ⟨hb0, hb1⟩ := h.byte at_
  have hsm := h.small
  have H : Hid (RD w R (some ⟨b, off, none⟩) b off n cap at_ l) := h
  generalize hv : l.getD at_ 0 = v at cb hb0 hb1
  clear h
  go_enter Tryd.func25, Tryd.ntmps25
  go_wp2
  go_quiet (fail)
  go_wp2
  go_quiet (fail)
  go_wp2
  go_ret
  have hbk := fun k => heap_setCell_same (w.drewN k) R 1 _ _ (.int .i64 ((at_ : Int) + 1)) H.out.blk
  have hg : ∀ k, w.grownBy ((w.drewN k).setCell ⟨R, 1, none⟩ (.int .i64 ((at_ : Int) + 1))) (some R) := fun k =>
    ⟨rfl, rfl, rfl, by simp [World.setCell], fun i _ hr => Below.heap_setCell (w.drewN k) _ _ _ (by simpa using hr)⟩
  exact ⟨rfl, hg _, H.out.moved (hg _) (hbk _)⟩

/-- A number of so many bytes, the highest one first, of a list's from a place on. -/
def beNum (l : List Int) (at_ : Nat) : Nat → Int
  | 0 => 0
  | k + 1 => beNum l at_ k * 256 + l.getD (at_ + k) 0
theorem beNum_bounds (l : List Int) (at_ : Nat) (h : ∀ i, 0 ≤ l.getD i 0 ∧ l.getD i 0 ≤ 255) : ∀ k, 0 ≤ beNum l at_ k ∧ beNum l at_ k < 256 ^ k
  | 0 => by simp [beNum]
  | k + 1 => by
    have ih := beNum_bounds l at_ h k
    have hb := h (at_ + k)
    have e : (256 : Int) ^ (k + 1) = 256 ^ k * 256 := by rw [Int.pow_succ]
    rw [beNum, e]
    omega

set_option maxHeartbeats 400000 in
theorem imm_short {w : World} {R : Nat} {ao : Option Addr} {b off n cap at_ : Nat} {l : List Int} (h : RD w R ao b off n cap at_ l) (hs : n < at_ + 8) (hat : at_ ≤ n) :
    Calls Tryd.prog 40 #[.pointer (some ⟨R, 0, none⟩)] w fun e w' => e = .panicked [{ v := .iface 27 (.int .i64 4), recovered := false }] ∧ w.grownBy w' (some R) := by
  have hsm := h.small
  go_enter Tryd.func40, Tryd.ntmps40
  go_wp2
  go_loopw [3, 4] (fun m i wr => ∃ (k : Nat) (u : Int), at_ + k ≤ n ∧ i = .int .i64 k ∧ m = .int .u64 u ∧ w.grownBy wr (some R) ∧ RD wr R ao b off n cap (at_ + k) l) (fun _ i _ => 8 - (intOf i).toNat)
  case atStart => exact ⟨0, 0, by omega, rfl, rfl, ⟨rfl, rfl, rfl, Nat.le_refl _, fun _ _ _ => rfl⟩, h⟩
  case round =>
    obtain ⟨k, u, hk, rfl, rfl, hg, hr⟩ := hrel
    have HG : Hid (w.grownBy wr (some R)) := hg
    clear hg h
    by_cases hlt : at_ + k < n
    · go_wp2_with (go_at_call 25; refine (next_ok hr hlt).mono ?_; rintro e w1 ⟨rfl, hg1, hr1⟩)
      go_roundw
      case rel => exact ⟨k + 1, _, by omega, by go_num, rfl, grown_trans HG.out hg1, hr1⟩
      case measure => simp [intOf]; omega
    · go_wp2_with (go_at_call 25; refine (next_short hr (by omega)).mono ?_; rintro e w1 ⟨rfl, hg1⟩)
      exact ⟨rfl, rfl, grown_trans HG.out hg1⟩

theorem u64_wrap_id (n : Int) (h0 : 0 ≤ n) (h1 : n < 18446744073709551616) : IntKind.u64.wrap n = n := by
  simp [IntKind.wrap, IntKind.signed, IntKind.bits]; omega
theorem be_step (l : List Int) (at_ k : Nat) (h : ∀ i, 0 ≤ l.getD i 0 ∧ l.getD i 0 ≤ 255) (hk : k < 8) :
    bits BinOp.or IntKind.u64 (IntKind.u64.wrap (beNum l at_ k * 256)) (IntKind.u64.wrap (l.getD (at_ + k) 0)) = beNum l at_ (k + 1) := by
  have hb := beNum_bounds l at_ h k
  have hy := h (at_ + k)
  have h7 : (256 : Int) ^ k ≤ 72057594037927936 := by
    have hc : k = 0 ∨ k = 1 ∨ k = 2 ∨ k = 3 ∨ k = 4 ∨ k = 5 ∨ k = 6 ∨ k = 7 := by omega
    rcases hc with rfl | rfl | rfl | rfl | rfl | rfl | rfl | rfl <;> decide
  rw [u64_wrap_id _ (by omega) (by omega), u64_wrap_id _ (by omega) (by omega)]
  rw [bits_join .u64 64 (by decide) (fun n h0 h1 => u64_wrap_id n h0 (by omega)) 8 _ _ (by omega) (by omega) (by omega) (by omega) (by omega) (by omega)]
  rfl

set_option maxHeartbeats 400000 in
theorem imm_ok {w : World} {R : Nat} {ao : Option Addr} {b off n cap at_ : Nat} {l : List Int} (h : RD w R ao b off n cap at_ l) (hs : at_ + 8 ≤ n) :
    Calls Tryd.prog 40 #[.pointer (some ⟨R, 0, none⟩)] w fun e w' => e = .returned (.int .i64 (wrap64 (beNum l at_ 8))) ∧ w.grownBy w' (some R) ∧ RD w' R ao b off n cap (at_ + 8) l := by
  have hsm := h.small
  have HBY : Hid (∀ i, 0 ≤ l.getD i 0 ∧ l.getD i 0 ≤ 255) := h.byte
  go_enter Tryd.func40, Tryd.ntmps40
  go_wp2
  go_loopw [3, 4] (fun m i wr => ∃ (k : Nat), k ≤ 8 ∧ i = .int .i64 k ∧ m = .int .u64 (beNum l at_ k) ∧ w.grownBy wr (some R) ∧ RD wr R ao b off n cap (at_ + k) l) (fun _ i _ => 8 - (intOf i).toNat)
  case atStart => exact ⟨0, by omega, rfl, rfl, ⟨rfl, rfl, rfl, Nat.le_refl _, fun _ _ _ => rfl⟩, h⟩
  case round =>
    obtain ⟨k, hk, rfl, rfl, hg, hr⟩ := hrel
    have HG : Hid (w.grownBy wr (some R)) := hg
    clear hg h
    by_cases hlt : k < 8
    · have HN : Hid (bits BinOp.or IntKind.u64 (IntKind.u64.wrap (beNum l at_ k * 256)) (IntKind.u64.wrap (l.getD (at_ + k) 0)) = beNum l at_ (k + 1)) := be_step l at_ k HBY.out hlt
      generalize beNum l at_ k = u at HN
      go_wp2_with (go_at_call 25; refine (next_ok hr (by omega)).mono ?_; rintro e w1 ⟨rfl, hg1, hr1⟩)
      go_roundw
      case rel => exact ⟨k + 1, by omega, by go_num, by rw [← HN.out]; rfl, grown_trans HG.out hg1, hr1⟩
      case measure => simp [intOf]; omega
    · have hk8 : k = 8 := by omega
      subst hk8
      go_wp2
      go_ret
      exact ⟨rfl, HG.out, hr⟩

end Go.Proofs.YtjckpdeogbamjaaDoor
