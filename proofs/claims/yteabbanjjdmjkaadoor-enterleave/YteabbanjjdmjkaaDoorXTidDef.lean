/- What is tidied: registers that are not live are noughts. -/
import Derived.Test.YteabbanjjdmjkaaDoorXLeftKit
namespace Go.Proofs.YteabbanjjdmjkaaDoor
open Go Go.RowKit

/-- Registers that are live; noughts. -/
def tidR (regs : List Int) (m : Nat) : List Int := (List.range 12).map fun r => if m.testBit r = true then regs.getD r 0 else 0
def tidQ (regs : List Int) (m q : Nat) : List Int := (List.range q).map (fun r => if m.testBit r = true then regs.getD r 0 else 0) ++ regs.drop q
section
variable {regs : List Int} {m q : Nat}
theorem tidQ_zero : tidQ regs m 0 = regs := by simp [tidQ]
theorem tidQ_all (h : regs.length = 12) : tidQ regs m 12 = tidR regs m := by simp [tidQ, tidR, List.drop_eq_nil_of_le, h]
theorem tidR_len : (tidR regs m).length = 12 := by simp [tidR]
theorem tidQ_len (h : regs.length = 12) (hq : q ≤ 12) : (tidQ regs m q).length = 12 := by simp [tidQ, h]; omega
theorem tidQ_set (h : regs.length = 12) (hq : q < 12) (hb : m.testBit q = false) : (tidQ regs m q).set q 0 = tidQ regs m (q + 1) := by
  unfold tidQ
  rw [List.set_append_right _ _ (by simp), List.length_map, List.length_range, Nat.sub_self, List.drop_eq_getElem_cons (show q < regs.length by omega), List.set_cons_zero, List.range_succ, List.map_append, List.append_assoc]
  simp [hb]
theorem tidQ_skip (h : regs.length = 12) (hq : q < 12) (hb : m.testBit q = true) : tidQ regs m q = tidQ regs m (q + 1) := by
  unfold tidQ
  rw [List.drop_eq_getElem_cons (show q < regs.length by omega), List.range_succ, List.map_append, List.append_assoc]
  simp [hb, List.getD, show q < regs.length by omega]
end
/-- A frame whose registers that are not live are noughts. -/
noncomputable def tidF (P : List Fn) (f : Fr) : Fr := ⟨f.fn, f.pc, tidR f.regs ((liveL P f.fn.toNat).getD f.pc.toNat 0).toNat⟩
noncomputable def tidS (P : List Fn) (s : St) : St := { s with frames := s.frames.map (tidF P) }
noncomputable def tidQs (P : List Fn) (fs : List Fr) (q : Nat) : List Fr := (fs.take q).map (tidF P) ++ fs.drop q
theorem tidQs_zero (P : List Fn) (fs : List Fr) : tidQs P fs 0 = fs := by simp [tidQs]
theorem tidQs_all (P : List Fn) (fs : List Fr) : tidQs P fs fs.length = fs.map (tidF P) := by simp [tidQs]
theorem tidQs_len (P : List Fn) (fs : List Fr) (q : Nat) (hq : q ≤ fs.length) : (tidQs P fs q).length = fs.length := by simp [tidQs]; omega
theorem tidQs_get (P : List Fn) (fs : List Fr) (q : Nat) (hq : q < fs.length) : (tidQs P fs q)[q]? = some fs[q] := by
  unfold tidQs
  have hl : ((fs.take q).map (tidF P)).length = q := by simp; omega
  rw [List.getElem?_append_right (by omega), hl, Nat.sub_self, List.drop_eq_getElem_cons hq]; rfl
theorem tidQs_set (P : List Fn) (fs : List Fr) (q : Nat) (hq : q < fs.length) : (tidQs P fs q).set q (tidF P fs[q]) = tidQs P fs (q + 1) := by
  unfold tidQs
  have hl : ((fs.take q).map (tidF P)).length = q := by simp; omega
  rw [List.set_append_right _ _ (by omega), hl, Nat.sub_self, List.drop_eq_getElem_cons hq, List.set_cons_zero, List.take_succ_eq_append_getElem hq, List.map_append, List.append_assoc]; rfl
end Go.Proofs.YteabbanjjdmjkaaDoor
