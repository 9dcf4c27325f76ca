/- Who leaves as they entered has changed nothing but registers that are not live: plain facts. -/
import Derived.Test.YteabbanjjdmjkaaDoorXEmitLeave
import Derived.Test.YteabbanjjdmjkaaDoorXTidyMath
namespace Go.Proofs.YteabbanjjdmjkaaDoor
open Go Go.RowKit

section
variable {mem regs : List Int} {fuel pc : Int}
theorem dataL_mem (h1 : mem.length = 16) : (dataL mem regs fuel pc).take 16 = mem := by unfold dataL; exact List.take_left' h1
theorem dataL_reg (h1 : mem.length = 16) (h2 : regs.length = 12) (r : Nat) (hr : r < 12) : (dataL mem regs fuel pc).getD (16 + r) 0 = regs.getD r 0 := by
  unfold dataL
  simp only [List.getD_eq_getElem?_getD]
  rw [List.getElem?_append_right (by omega), h1, show 16 + r - 16 = r by omega, List.getElem?_append_left (by omega)]
theorem dataL_fuel (h1 : mem.length = 16) (h2 : regs.length = 12) : (dataL mem regs fuel pc).getD 28 0 = fuel := by
  unfold dataL
  simp only [List.getD_eq_getElem?_getD]
  rw [List.getElem?_append_right (by omega), h1, List.getElem?_append_right (by omega), h2]; rfl
theorem dataL_pc (h1 : mem.length = 16) (h2 : regs.length = 12) : (dataL mem regs fuel pc).getD 29 0 = pc := by
  unfold dataL
  simp only [List.getD_eq_getElem?_getD]
  rw [List.getElem?_append_right (by omega), h1, List.getElem?_append_right (by omega), h2]; rfl
theorem regsL_data (h1 : mem.length = 16) (h2 : regs.length = 12) (m : Nat) : regsL (dataL mem regs fuel pc) m = tidR regs m := by
  unfold regsL tidR
  refine List.map_congr_left fun r hr => ?_
  rw [dataL_reg h1 h2 r (by simpa using hr)]
end
/-- A machine that was entered may be left at once. -/
theorem enter_leaves {P : List Fn} {S : St} {fs : List Fr} {f : Fr} (hI : RunInv P S) (hS : S.frames = fs ++ [f]) :
    leaveOk (dataL S.mem f.regs S.fuel f.pc) (liveL P f.fn.toNat) S.fuel ∧ ∃ m : Nat, (liveL P f.fn.toNat).getD f.pc.toNat 0 = (m : Int) ∧ m < 4096 ∧ leftS S fs f (dataL S.mem f.regs S.fuel f.pc) m = { S with frames := fs ++ [tidF P f] } := by
  have hfm : f ∈ S.frames := by rw [hS]; simp
  have h12 := hI.wf f hfm
  have h16 := hI.mem
  obtain ⟨k, j, hk, hj, e1, e2, e3, e4⟩ := place_nat (fok_all _ hI.fok f hfm)
  have hr := hI.reach f hfm
  unfold ReachFr at hr
  rw [e3, e2, Int.toNat_natCast] at hr
  have hL := liveL_spec hk
  have hkk : f.fn.toNat = k := by omega
  have hjj : f.pc.toNat = j := by omega
  have hm := (mayB_iff S).1 hI.may
  obtain ⟨m, hm4, e⟩ : ∃ m : Nat, m < 4096 ∧ (liveL P k).getD j 0 = m := by
    rcases hL.2 j hj with ⟨h, _⟩ | ⟨_, m, hm, e, _⟩
    · exact absurd hr h
    · exact ⟨m, hm, e⟩
  refine ⟨?_, m, by rw [hkk, hjj]; exact e, hm4, ?_⟩
  · unfold leaveOk
    rw [dataL_pc h16 h12, dataL_fuel h16 h12, hkk, hjj, e, hL.1]
    refine ⟨by omega, by omega, by omega, by omega, Int.le_refl _⟩
  · unfold leftS tidF
    rw [dataL_pc h16 h12, dataL_fuel h16 h12, dataL_mem h16, regsL_data h16 h12, hkk, hjj, e, Int.toNat_natCast]
/-- Registers that are put back one by one. -/
def backQ (regs : List Int) (m r : Nat) : List Int := regs.take r ++ (tidR regs m).drop r
theorem backQ_zero (regs : List Int) (m : Nat) : backQ regs m 0 = tidR regs m := by simp [backQ]
theorem backQ_all (regs : List Int) (m : Nat) (h : regs.length = 12) : backQ regs m 12 = regs := by simp [backQ, List.drop_eq_nil_of_le, tidR_len, List.take_of_length_le, h]
theorem backQ_len (regs : List Int) (m r : Nat) (h : regs.length = 12) (hr : r ≤ 12) : (backQ regs m r).length = 12 := by simp [backQ, tidR_len, h]; omega
theorem backQ_get (regs : List Int) (m r : Nat) (h : regs.length = 12) (hr : r < 12) : (backQ regs m r).getD r 0 = if m.testBit r = true then regs.getD r 0 else 0 := by
  have := tidR_get regs m r hr
  unfold backQ
  have hl : (regs.take r).length = r := by rw [List.length_take]; omega
  simp only [List.getD_eq_getElem?_getD] at this ⊢
  rw [List.getElem?_append_right (by omega), hl, Nat.sub_self, List.getElem?_drop, Nat.add_zero]
  exact this
theorem backQ_put (regs : List Int) (m r : Nat) (h : regs.length = 12) (hr : r < 12) : (backQ regs m r).set r (regs.getD r 0) = backQ regs m (r + 1) := by
  unfold backQ
  have hl : (regs.take r).length = r := by rw [List.length_take]; omega
  have ht : r < (tidR regs m).length := by rw [tidR_len]; exact hr
  rw [List.set_append_right _ _ (by omega), hl, Nat.sub_self, List.drop_eq_getElem_cons ht, List.set_cons_zero, List.take_succ_eq_append_getElem (show r < regs.length by omega), List.append_assoc]
  simp [List.getD, show r < regs.length by omega]
theorem backQ_skip (regs : List Int) (m r : Nat) (h : regs.length = 12) (hr : r < 12) (hb : m.testBit r = true) : backQ regs m r = backQ regs m (r + 1) := by
  rw [← backQ_put regs m r h hr]
  have hx := backQ_get regs m r h hr
  rw [if_pos hb] at hx
  have hlen : r < (backQ regs m r).length := by rw [backQ_len regs m r h (by omega)]; exact hr
  rw [← hx, show (backQ regs m r).getD r 0 = (backQ regs m r)[r] by simp [List.getD, hlen]]
  exact (List.set_getElem_self hlen).symm
end Go.Proofs.YteabbanjjdmjkaaDoor
