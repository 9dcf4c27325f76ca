/- Contracts of the document's runningFault and Entered (package tierlineref). -/
import Derived.Test.YteabbanjjdmjkaaDoorXEmitData
import Derived.Test.YteabbanjjdmjkaaDoorGroupX
import Derived.Test.YteabbanjjdmjkaaDoorXStFault
namespace Go.Proofs.YteabbanjjdmjkaaDoor
open Go Go.RowKit

set_option maxRecDepth 100000 in
set_option maxHeartbeats 2000000 in
theorem runningFault_any (P : List Fn) (v sv : Value) (s : St) (c : Int) (w : World) (hv : ProgVal w v P) (hs : StVal w sv s) (hE : ∀ E, ProofAns P E → checkE E P s = c) :
    Calls Tryd.prog 37 #[.agg #[v], sv] w fun e w' => e = .returned (.int .i64 (runE c s)) ∧ Below w.heap.size w w' := by
  have hbx : ∀ o o', Below w.heap.size w ((w.alloc o).alloc o') := fun o o' => ((Below.refl _ _).alloc (Nat.le_refl _) _).alloc (by simp) _
  have HC : Hid (∀ o o', Calls Tryd.prog 55 #[.agg #[v], sv] ((w.alloc o).alloc o') fun e w' => e = .returned (.int .i64 c) ∧ Below ((w.alloc o).alloc o').heap.size ((w.alloc o).alloc o') w') := fun o o' =>
    (stateFault_any P v sv s _ (hv.keeps (keeps_below (hbx o o'))) (hs.keeps (keeps_below (hbx o o')))).mono fun e w' ⟨E, h1, h2, h3⟩ => ⟨by rw [h2, hE E h1], h3⟩
  obtain ⟨ao, n0, cap0, rfl⟩ := hv.shape
  have hs0 := hs
  obtain ⟨cs, rfl, hsz, -, -⟩ := hs.cells
  have c0 : cs[0]? = some (.int .i64 s.status) := by
    obtain ⟨fv, ev, av, e, -⟩ := hs0
    obtain rfl : cs = (stCells s fv ev av).toArray := by simpa using e
    rfl
  have HBX : Hid _ := hbx
  clear hv hs hs0 hbx hE
  by_cases hc0 : c = 0
  · subst hc0
    by_cases hst : s.status = 0
    · have HR : Hid (runE 0 s = 0) := by show _ = _; unfold runE; rw [if_pos rfl, if_pos hst]
      rw [hst] at c0
      rw [HR.out]
      go_enter Tryd.func37, Tryd.ntmps37
      go_wp2_with (first
        | (refine wpList_load_row rfl _ _ rfl _ rfl _ _ _ _ (heap_alloc2_new _ _ _) Tryd.underlying29 rfl hsz ?_)
        | (go_at_call 55; refine (HC.out _ _).mono ?_; rintro e w1 ⟨rfl, hb1⟩; have k0 : w1.cell? ⟨w.heap.size + 1, 0, none⟩ = some (.int .i64 0) := (by rw [cell_of_row _ _ _ _ _ _ ((hb1.block _ (by simp)).trans (heap_alloc2_new _ _ _))]; exact c0); have HB1 : Hid (Below w.heap.size w w1) := (HBX.out _ _).trans (hb1.mono (by simp; omega)); clear hb1))
      go_ret
      exact ⟨rfl, HB1.out⟩
    · have HR : Hid (runE 0 s = 9) := runE_off hst
      have hsb : (s.status != 0) = true := by simpa using hst
      rw [HR.out]
      go_enter Tryd.func37, Tryd.ntmps37
      go_wp2_with (first
        | (refine wpList_load_row rfl _ _ rfl _ rfl _ _ _ _ (heap_alloc2_new _ _ _) Tryd.underlying29 rfl hsz ?_)
        | (go_at_call 55; refine (HC.out _ _).mono ?_; rintro e w1 ⟨rfl, hb1⟩; have k0 : w1.cell? ⟨w.heap.size + 1, 0, none⟩ = some (.int .i64 s.status) := (by rw [cell_of_row _ _ _ _ _ _ ((hb1.block _ (by simp)).trans (heap_alloc2_new _ _ _))]; exact c0); have HB1 : Hid (Below w.heap.size w w1) := (HBX.out _ _).trans (hb1.mono (by simp; omega)); clear hb1))
      go_ret
      exact ⟨rfl, HB1.out⟩
  · rw [runE_bad s hc0]
    have hcb : (c == 0) = false := by simpa using hc0
    go_enter Tryd.func37, Tryd.ntmps37
    go_wp2_with (first
      | (refine wpList_load_row rfl _ _ rfl _ rfl _ _ _ _ (heap_alloc2_new _ _ _) Tryd.underlying29 rfl hsz ?_)
      | (go_at_call 55; refine (HC.out _ _).mono ?_; rintro e w1 ⟨rfl, hb1⟩; have HB1 : Hid (Below w.heap.size w w1) := (HBX.out _ _).trans (hb1.mono (by simp; omega)); clear hb1))
    go_ret
    exact ⟨rfl, HB1.out⟩

/-- The machine with which one enters. -/
def entC (s : St) (f : Fr) : Cp := ⟨noRegs, 0, dataL s.mem f.regs s.fuel f.pc, false⟩
theorem entC_ok {s : St} {f : Fr} (h1 : s.mem.length = 16) (h2 : f.regs.length = 12) : (entC s f).Ok := ⟨rfl, dataL_len _ _ h1 h2⟩
/-- Up to a word of the memory, of the registers. -/
def dM (mem : List Int) (q : Nat) : List Int := mem.take q ++ List.replicate (64 - q) 0
def dR (mem regs : List Int) (q : Nat) : List Int := mem ++ (regs.take q ++ List.replicate (48 - q) 0)
theorem dM_set (mem : List Int) (h : mem.length = 16) (q : Nat) (hq : q < 16) : (dM mem q).set q (mem.getD q 0) = dM mem (q + 1) := by
  unfold dM
  have e : (mem.take q).length = q := by simp; omega
  rw [List.set_append_right _ _ (by omega), e, Nat.sub_self, show 64 - q = (64 - (q + 1)) + 1 by omega, List.replicate_succ, List.set_cons_zero, List.take_add_one, List.append_assoc]
  congr 1
  have : mem[q]? = some (mem.getD q 0) := by simp [List.getD, show q < mem.length by omega]
  rw [this]; rfl
theorem dM_end (mem regs : List Int) (h : mem.length = 16) : dM mem 16 = dR mem regs 0 := by unfold dM dR; rw [List.take_of_length_le (by omega)]; rfl
theorem dR_set (mem regs : List Int) (h : mem.length = 16) (h2 : regs.length = 12) (q : Nat) (hq : q < 12) : (dR mem regs q).set (16 + q) (regs.getD q 0) = dR mem regs (q + 1) := by
  unfold dR
  have e : (regs.take q).length = q := by simp; omega
  rw [List.set_append_right _ _ (by omega), h, show 16 + q - 16 = q by omega, List.set_append_right _ _ (by omega), e, Nat.sub_self, show 48 - q = (48 - (q + 1)) + 1 by omega, List.replicate_succ, List.set_cons_zero, List.take_add_one, List.append_assoc]
  congr 2
  have : regs[q]? = some (regs.getD q 0) := by simp [List.getD, show q < regs.length by omega]
  rw [this]; rfl
theorem dR_end (mem regs : List Int) (fuel pc : Int) (h : mem.length = 16) (h2 : regs.length = 12) : ((dR mem regs 12).set 28 fuel).set 29 pc = dataL mem regs fuel pc := by
  unfold dR dataL
  rw [List.take_of_length_le (by omega), List.set_append_right _ _ (by omega), List.set_append_right _ _ (by omega), List.set_append_right _ _ (by omega), List.set_append_right _ _ (by omega), h, h2]
  rfl
theorem dM_len (mem : List Int) (h : mem.length = 16) (q : Nat) (hq : q ≤ 16) : (dM mem q).length = 64 := by unfold dM; simp; omega
theorem dR_len (mem regs : List Int) (h : mem.length = 16) (h2 : regs.length = 12) (q : Nat) (hq : q ≤ 12) : (dR mem regs q).length = 64 := by unfold dR; simp; omega
theorem dM_zero (mem : List Int) : dM mem 0 = noData := rfl

end Go.Proofs.YteabbanjjdmjkaaDoor
