/- Contracts of (*cpu.machine).goOn and do (written by gen/mkcpudo.py): what an instruction makes of a machine. -/
import Derived.Test.YtapjfiihfgndeaaDoorCpuMem
import Derived.Test.YtapjfiihfgndeaaDoorRvCode
import Derived.Test.YtapjfiihfgndeaaDoorTail
import Derived.BigQuiet
namespace Go.Proofs.YtapjfiihfgndeaaDoor
open Go Go.RowKit

theorem MAt.drewN {w : World} {base g : Nat} {c : Cp} {wv : Value} (h : MAt w base g c wv) (n : Nat) : MAt (w.drewN n) base g c wv := ⟨by simpa using h.cells, h.low, h.ok⟩
theorem MAt.drew {w : World} {base g : Nat} {c : Cp} {wv : Value} (h : MAt w base g c wv) : MAt w.drew base g c wv := ⟨h.cells, h.low, h.ok⟩
theorem box_mi (w : World) (v0 v1 v2 v3 v4 : Value) (t k : Nat) : ((w.alloc (.cells #[v0, v1, v2, v3, v4] t)).drewN k).cell? ⟨w.heap.size, 0, none⟩ = some v0 ∧ ((w.alloc (.cells #[v0, v1, v2, v3, v4] t)).drewN k).cell? ⟨w.heap.size, 1, none⟩ = some v1 ∧ ((w.alloc (.cells #[v0, v1, v2, v3, v4] t)).drewN k).cell? ⟨w.heap.size, 4, none⟩ = some v4 := by
  have e : ((w.alloc (.cells #[v0, v1, v2, v3, v4] t)).drewN k).heap[w.heap.size]? = some (.cells #[v0, v1, v2, v3, v4] t (0, 0)) :=
    ((below_drewN (Below.refl (w.heap.size + 1) (w.alloc (.cells #[v0, v1, v2, v3, v4] t))) k).block _ (Nat.lt_succ_self _)).trans (heap_alloc_last w _)
  exact ⟨by rw [cell_of_row _ _ _ _ _ _ e]; rfl, by rw [cell_of_row _ _ _ _ _ _ e]; rfl, by rw [cell_of_row _ _ _ _ _ _ e]; rfl⟩
theorem tdiv4 (i : Int) (i0 : -1048576 ≤ i) (i1 : i ≤ 1048576) : -300000 ≤ i.tdiv 4 ∧ i.tdiv 4 ≤ 300000 := by
  rcases Int.le_total 0 i with h | h
  · rw [Int.tdiv_eq_ediv_of_nonneg h]; omega
  · have h2 : i.tdiv 4 = -((-i) / 4) := by
      rw [← Int.tdiv_eq_ediv_of_nonneg (show 0 ≤ -i by omega), Int.neg_tdiv]; simp
    rw [h2]; omega
theorem bv_less (x y : BitVec 64) : (x &&& ~~~y) = x - (x &&& y) := by
  have h2 : x = (x &&& ~~~y) + (x &&& y) := by
    rw [BitVec.add_eq_or_of_and_eq_zero]
    · ext i hi; simp; cases x[i] <;> simp
    · ext i hi; simp; cases x[i] <;> simp
  conv => rhs; lhs; rw [h2]
  rw [BitVec.add_sub_cancel]
theorem andNot_one (t : Int) (h : Fits t) : bits .andNot .i64 t 1 = adJ t := by
  obtain ⟨x, rfl⟩ := bv_of h
  have e := bits_andNot_bv x 1#64
  rw [show (1#64 : BitVec 64).toInt = 1 from rfl] at e
  rw [e]
  have h1 : (x &&& ~~~1#64) = x - (x &&& 1#64) := bv_less x _
  have h3 : (x &&& 1#64).toInt = x.toInt % 2 := by
    have := bits_and_bv x 1#64
    rw [show (1#64 : BitVec 64).toInt = 1 from rfl] at this
    rw [← this]
    show IntKind.i64.wrap ((BitVec.ofInt 64 x.toInt &&& BitVec.ofInt 64 1).toNat : Int) = _
    have e : (BitVec.ofInt 64 x.toInt &&& BitVec.ofInt 64 1).toNat = (x.toInt % 2).toNat := by
      rw [BitVec.toNat_and, BitVec.toNat_ofInt]
      have e2 : (BitVec.ofInt 64 1).toNat = 2 ^ 1 - 1 := by decide
      rw [e2, Nat.and_two_pow_sub_one_eq_mod]
      omega
    rw [e, wrap_small _ (by omega)]
    omega
  have h4 := wrap_sub_bv x (x &&& 1#64)
  rw [h1, ← h4, h3]
  unfold adJ
  refine wrap64_small _ ?_ ?_ <;> have := h.1 <;> have := h.2 <;> omega
theorem fits_wrap (n : Int) : Fits (wrap64 n) := by unfold Fits wrap64; omega
theorem adJ_parts (t : Int) (h : Fits t) : -9223372036854775808 ≤ adJ t ∧ adJ t ≤ 9223372036854775807 ∧ ((adJ t).tmod 4 = 0 ↔ adJ t % 4 = 0) ∧ (adJ t % 4 = 0 → wrap64 ((adJ t).tdiv 4) = adJ t / 4) := by
  have h0 := h.1
  have h1 := h.2
  have hb : -9223372036854775808 ≤ adJ t ∧ adJ t ≤ 9223372036854775807 := by unfold adJ; omega
  refine ⟨hb.1, hb.2, ?_, fun h4 => ?_⟩
  · rw [← Int.dvd_iff_tmod_eq_zero, ← Int.dvd_iff_emod_eq_zero]
  · obtain ⟨q, hq⟩ := Int.dvd_of_emod_eq_zero h4
    rw [hq, Int.mul_tdiv_cancel_left _ (by decide), Int.mul_ediv_cancel_left _ (by decide)]
    exact wrap64_small _ (by omega) (by omega)

set_option maxRecDepth 100000 in
set_option maxHeartbeats 4000000 in
theorem goOn_26 (base g : Nat) (c : Cp) (wv : Value) (rd rs1 rs2 imm a b : Int) (w : World) (h : MAt w base g c wv) (r0 : 0 ≤ rd) (r1 : rd < 32) (p0 : 0 ≤ c.pc) (p1 : c.pc < 100000) (i0 : -1048576 ≤ imm) (i1 : imm ≤ 1048576) :
    Calls Tryd.prog 46 #[.pointer (some ⟨g, 0, none⟩), (Mi.mk 26 rd rs1 rs2 imm).val, .int .i64 a, .int .i64 b] w fun e w' => e = .returned (.int .i64 0) ∧ MAt w' base g ((c.put rd ((c.pc + 1) * 4)).go (c.pc + imm.tdiv 4)) wv ∧ Below base w w' := by
  have HL : Hid (base ≤ w.heap.size) := by have := h.lt; have := h.low; show _ ≤ _; omega
  have HD : Hid (∀ o k, MAt ((w.alloc o).drewN k) base g c wv) := fun o k => (h.box o).drewN k
  have HB : Hid (∀ o k, Below base w ((w.alloc o).drewN k)) := fun o k => below_drewN ((Below.refl _ _).alloc HL.out o) k
  have hq := tdiv4 imm i0 i1
  have _hu := And.intro (And.intro r0 r1) (And.intro p0 p1)
  clear _hu
  have HT4 : Hid (IntKind.i64.wrap ((c.pc + 1) * 4) = (c.pc + 1) * 4) := by show _ = _; rw [IntKind.wrap_i64]; omega
  have HT : Hid (wrap64 (c.pc + imm.tdiv 4) = c.pc + imm.tdiv 4) := wrap64_small _ (by omega) (by omega)
  have hw1 : wrap64 (imm.tdiv 4) = imm.tdiv 4 := wrap64_small _ (by omega) (by omega)
  have cpc : ∀ o, (w.alloc o).cell? ⟨g, 96, none⟩ = some (.int .i64 c.pc) := fun o => (h.box o).pc
  clear h i0 i1 hq
  unfold Mi.val
  dsimp only
  go_enter Tryd.func46, Tryd.ntmps46
  go_wp2
  go_quiet (fail)
  have HW : Hid _ := HD.out (.cells #[.int .i64 26, .int .i64 rd, .int .i64 rs1, .int .i64 rs2, .int .i64 imm] 41) nq
  have HBW : Hid _ := HB.out (.cells #[.int .i64 26, .int .i64 rd, .int .i64 rs1, .int .i64 rs2, .int .i64 imm] 41) nq
  obtain ⟨b0, b1, b4⟩ := box_mi w (.int .i64 26) (.int .i64 rd) (.int .i64 rs1) (.int .i64 rs2) (.int .i64 imm) 41 nq
  generalize hWW : (w.alloc (.cells #[.int .i64 26, .int .i64 rd, .int .i64 rs1, .int .i64 rs2, .int .i64 imm] 41)).drewN nq = W at HW HBW b0 b1 b4
  have HZW : Hid (W.heap.size = w.heap.size + 1) := by show _ = _; rw [← hWW]; simp
  clear hWW HD HB
  have HW2 : Hid (MAt W.drew base g c wv) := HW.out.drew
  have HBW2 : Hid (Below base w W.drew) := HBW.out.drew
  clear cpc hw1
  go_wp2
  go_region_with (go_at_call 44; refine (cput_any base g c wv rd _ _ HW2.out r0 r1).mono ?_; rintro e w4 ⟨rfl, he4, hb4⟩; (try rw [HT4.out] at he4); have c96 : w4.cell? ⟨g, 96, none⟩ = some (.int .i64 c.pc) := he4.pc; have f96 := he4.free 96; have HE4 : Hid (MAt w4 base g (c.put rd ((c.pc + 1) * 4)) wv) := he4; have HB4 : Hid (Below base W.drew w4) := hb4; clear he4 hb4)
  all_goals
    try simp only [Exit.inBlock]
    go_wp2
    go_ret
    try rw [HT.out]
    exact ⟨rfl, (HE4.out.go _).1, (HBW2.out.trans HB4.out).trans (HE4.out.go _).2⟩
set_option maxRecDepth 100000 in
set_option maxHeartbeats 4000000 in
theorem goOn_27 (base g : Nat) (c : Cp) (wv : Value) (rd rs1 rs2 imm a b : Int) (w : World) (h : MAt w base g c wv) (r0 : 0 ≤ rd) (r1 : rd < 32) (p0 : 0 ≤ c.pc) (p1 : c.pc < 100000) (i0 : -1048576 ≤ imm) (i1 : imm ≤ 1048576) (hg : adJ (wrap64 (a + imm)) % 4 = 0) :
    Calls Tryd.prog 46 #[.pointer (some ⟨g, 0, none⟩), (Mi.mk 27 rd rs1 rs2 imm).val, .int .i64 a, .int .i64 b] w fun e w' => e = .returned (.int .i64 0) ∧ MAt w' base g ((c.put rd ((c.pc + 1) * 4)).go (adJ (wrap64 (a + imm)) / 4)) wv ∧ Below base w w' := by
  have HL : Hid (base ≤ w.heap.size) := by have := h.lt; have := h.low; show _ ≤ _; omega
  have HD : Hid (∀ o k, MAt ((w.alloc o).drewN k) base g c wv) := fun o k => (h.box o).drewN k
  have HB : Hid (∀ o k, Below base w ((w.alloc o).drewN k)) := fun o k => below_drewN ((Below.refl _ _).alloc HL.out o) k
  have hq := tdiv4 imm i0 i1
  have _hu := And.intro (And.intro r0 r1) (And.intro p0 p1)
  clear _hu
  have HT4 : Hid (IntKind.i64.wrap ((c.pc + 1) * 4) = (c.pc + 1) * 4) := by show _ = _; rw [IntKind.wrap_i64]; omega
  have HT : Hid (wrap64 (c.pc + imm.tdiv 4) = c.pc + imm.tdiv 4) := wrap64_small _ (by omega) (by omega)
  have hw1 : wrap64 (imm.tdiv 4) = imm.tdiv 4 := wrap64_small _ (by omega) (by omega)
  have cpc : ∀ o, (w.alloc o).cell? ⟨g, 96, none⟩ = some (.int .i64 c.pc) := fun o => (h.box o).pc
  have hA := andNot_one (wrap64 (a + imm)) (fits_wrap _)
  obtain ⟨A0, A1, A2, A3⟩ := adJ_parts (wrap64 (a + imm)) (fits_wrap _)
  generalize adJ (wrap64 (a + imm)) = AD at *
  have hr := A2.2 hg
  have ht := A3 hg
  generalize AD / 4 = TD at *
  clear A2 A3 hg A0 A1
  clear h i0 i1 hq
  unfold Mi.val
  dsimp only
  go_enter Tryd.func46, Tryd.ntmps46
  go_wp2
  go_quiet (fail)
  have HW : Hid _ := HD.out (.cells #[.int .i64 27, .int .i64 rd, .int .i64 rs1, .int .i64 rs2, .int .i64 imm] 41) nq
  have HBW : Hid _ := HB.out (.cells #[.int .i64 27, .int .i64 rd, .int .i64 rs1, .int .i64 rs2, .int .i64 imm] 41) nq
  obtain ⟨b0, b1, b4⟩ := box_mi w (.int .i64 27) (.int .i64 rd) (.int .i64 rs1) (.int .i64 rs2) (.int .i64 imm) 41 nq
  generalize hWW : (w.alloc (.cells #[.int .i64 27, .int .i64 rd, .int .i64 rs1, .int .i64 rs2, .int .i64 imm] 41)).drewN nq = W at HW HBW b0 b1 b4
  have HZW : Hid (W.heap.size = w.heap.size + 1) := by show _ = _; rw [← hWW]; simp
  clear hWW HD HB
  have HW2 : Hid (MAt W.drew base g c wv) := HW.out.drew
  have HBW2 : Hid (Below base w W.drew) := HBW.out.drew
  clear cpc hw1
  go_wp2
  go_region_with (go_at_call 44; refine (cput_any base g c wv rd _ _ HW2.out r0 r1).mono ?_; rintro e w4 ⟨rfl, he4, hb4⟩; (try rw [HT4.out] at he4); have c96 : w4.cell? ⟨g, 96, none⟩ = some (.int .i64 c.pc) := he4.pc; have f96 := he4.free 96; have HE4 : Hid (MAt w4 base g (c.put rd ((c.pc + 1) * 4)) wv) := he4; have HB4 : Hid (Below base W.drew w4) := hb4; clear he4 hb4)
  all_goals
    try simp only [Exit.inBlock]
    go_wp2
    go_ret
    try rw [HT.out]
    exact ⟨rfl, (HE4.out.go _).1, (HBW2.out.trans HB4.out).trans (HE4.out.go _).2⟩
set_option maxRecDepth 100000 in
set_option maxHeartbeats 4000000 in
theorem goOn_bad (base g : Nat) (c : Cp) (wv : Value) (rd rs1 rs2 imm a b : Int) (w : World) (h : MAt w base g c wv) (r0 : 0 ≤ rd) (r1 : rd < 32) (p0 : 0 ≤ c.pc) (p1 : c.pc < 100000) (i0 : -1048576 ≤ imm) (i1 : imm ≤ 1048576) (hg : ¬ adJ (wrap64 (a + imm)) % 4 = 0) :
    Calls Tryd.prog 46 #[.pointer (some ⟨g, 0, none⟩), (Mi.mk 27 rd rs1 rs2 imm).val, .int .i64 a, .int .i64 b] w fun e w' => e = .returned (.int .i64 5) ∧ MAt w' base g (c) wv ∧ Below base w w' := by
  have HL : Hid (base ≤ w.heap.size) := by have := h.lt; have := h.low; show _ ≤ _; omega
  have HD : Hid (∀ o k, MAt ((w.alloc o).drewN k) base g c wv) := fun o k => (h.box o).drewN k
  have HB : Hid (∀ o k, Below base w ((w.alloc o).drewN k)) := fun o k => below_drewN ((Below.refl _ _).alloc HL.out o) k
  have hq := tdiv4 imm i0 i1
  have _hu := And.intro (And.intro r0 r1) (And.intro p0 p1)
  clear _hu
  have HT4 : Hid (IntKind.i64.wrap ((c.pc + 1) * 4) = (c.pc + 1) * 4) := by show _ = _; rw [IntKind.wrap_i64]; omega
  have HT : Hid (wrap64 (c.pc + imm.tdiv 4) = c.pc + imm.tdiv 4) := wrap64_small _ (by omega) (by omega)
  have hw1 : wrap64 (imm.tdiv 4) = imm.tdiv 4 := wrap64_small _ (by omega) (by omega)
  have cpc : ∀ o, (w.alloc o).cell? ⟨g, 96, none⟩ = some (.int .i64 c.pc) := fun o => (h.box o).pc
  have hA := andNot_one (wrap64 (a + imm)) (fits_wrap _)
  obtain ⟨A0, A1, A2, A3⟩ := adJ_parts (wrap64 (a + imm)) (fits_wrap _)
  generalize adJ (wrap64 (a + imm)) = AD at *
  have hr : ¬ AD.tmod 4 = 0 := fun h => hg (A2.1 h)
  clear A2 A3 hg A0 A1
  clear h i0 i1 hq
  unfold Mi.val
  dsimp only
  go_enter Tryd.func46, Tryd.ntmps46
  go_wp2
  go_quiet (fail)
  have HW : Hid _ := HD.out (.cells #[.int .i64 27, .int .i64 rd, .int .i64 rs1, .int .i64 rs2, .int .i64 imm] 41) nq
  have HBW : Hid _ := HB.out (.cells #[.int .i64 27, .int .i64 rd, .int .i64 rs1, .int .i64 rs2, .int .i64 imm] 41) nq
  obtain ⟨b0, b1, b4⟩ := box_mi w (.int .i64 27) (.int .i64 rd) (.int .i64 rs1) (.int .i64 rs2) (.int .i64 imm) 41 nq
  generalize hWW : (w.alloc (.cells #[.int .i64 27, .int .i64 rd, .int .i64 rs1, .int .i64 rs2, .int .i64 imm] 41)).drewN nq = W at HW HBW b0 b1 b4
  have HZW : Hid (W.heap.size = w.heap.size + 1) := by show _ = _; rw [← hWW]; simp
  clear hWW HD HB
  clear cpc hw1
  go_wp2
  go_ret
  exact ⟨rfl, HW.out, HBW.out⟩
set_option maxRecDepth 100000 in
set_option maxHeartbeats 4000000 in
theorem goOn_yes (base g : Nat) (c : Cp) (wv : Value) (rd rs1 rs2 imm a b op : Int) (w : World) (h : MAt w base g c wv) (r0 : 0 ≤ rd) (r1 : rd < 32) (p0 : 0 ≤ c.pc) (p1 : c.pc < 100000) (i0 : -1048576 ≤ imm) (i1 : imm ≤ 1048576) (o1 : ¬ op = 26) (o2 : ¬ op = 27) (hh : holdsB op a b = true) :
    Calls Tryd.prog 46 #[.pointer (some ⟨g, 0, none⟩), (Mi.mk op rd rs1 rs2 imm).val, .int .i64 a, .int .i64 b] w fun e w' => e = .returned (.int .i64 0) ∧ MAt w' base g (c.go (c.pc + imm.tdiv 4)) wv ∧ Below base w w' := by
  have HL : Hid (base ≤ w.heap.size) := by have := h.lt; have := h.low; show _ ≤ _; omega
  have HD : Hid (∀ o k, MAt ((w.alloc o).drewN k) base g c wv) := fun o k => (h.box o).drewN k
  have HB : Hid (∀ o k, Below base w ((w.alloc o).drewN k)) := fun o k => below_drewN ((Below.refl _ _).alloc HL.out o) k
  have hq := tdiv4 imm i0 i1
  have _hu := And.intro (And.intro r0 r1) (And.intro p0 p1)
  clear _hu
  have HT4 : Hid (IntKind.i64.wrap ((c.pc + 1) * 4) = (c.pc + 1) * 4) := by show _ = _; rw [IntKind.wrap_i64]; omega
  have HT : Hid (wrap64 (c.pc + imm.tdiv 4) = c.pc + imm.tdiv 4) := wrap64_small _ (by omega) (by omega)
  have hw1 : wrap64 (imm.tdiv 4) = imm.tdiv 4 := wrap64_small _ (by omega) (by omega)
  have cpc : ∀ o, (w.alloc o).cell? ⟨g, 96, none⟩ = some (.int .i64 c.pc) := fun o => (h.box o).pc
  have hc := fun w => holds_any op a b w
  rw [hh] at hc
  clear hh
  clear h i0 i1 hq
  unfold Mi.val
  dsimp only
  go_enter Tryd.func46, Tryd.ntmps46
  go_wp2
  go_quiet (fail)
  have HW : Hid _ := HD.out (.cells #[.int .i64 op, .int .i64 rd, .int .i64 rs1, .int .i64 rs2, .int .i64 imm] 41) nq
  have HBW : Hid _ := HB.out (.cells #[.int .i64 op, .int .i64 rd, .int .i64 rs1, .int .i64 rs2, .int .i64 imm] 41) nq
  obtain ⟨b0, b1, b4⟩ := box_mi w (.int .i64 op) (.int .i64 rd) (.int .i64 rs1) (.int .i64 rs2) (.int .i64 imm) 41 nq
  generalize hWW : (w.alloc (.cells #[.int .i64 op, .int .i64 rd, .int .i64 rs1, .int .i64 rs2, .int .i64 imm] 41)).drewN nq = W at HW HBW b0 b1 b4
  have HZW : Hid (W.heap.size = w.heap.size + 1) := by show _ = _; rw [← hWW]; simp
  clear hWW HD HB
  have c96 := HW.out.pc
  have f96 := HW.out.free 96
  clear cpc hw1
  go_wp2_with (go_at_call 57; refine (hc _).mono ?_; rintro e w' ⟨rfl, hw'⟩; replace hw' := hw'.symm; subst hw')
  go_ret
  try rw [HT.out]
  exact ⟨rfl, (HW.out.go _).1, HBW.out.trans (HW.out.go _).2⟩
set_option maxRecDepth 100000 in
set_option maxHeartbeats 4000000 in
theorem goOn_no (base g : Nat) (c : Cp) (wv : Value) (rd rs1 rs2 imm a b op : Int) (w : World) (h : MAt w base g c wv) (r0 : 0 ≤ rd) (r1 : rd < 32) (p0 : 0 ≤ c.pc) (p1 : c.pc < 100000) (i0 : -1048576 ≤ imm) (i1 : imm ≤ 1048576) (o1 : ¬ op = 26) (o2 : ¬ op = 27) (hh : holdsB op a b = false) :
    Calls Tryd.prog 46 #[.pointer (some ⟨g, 0, none⟩), (Mi.mk op rd rs1 rs2 imm).val, .int .i64 a, .int .i64 b] w fun e w' => e = .returned (.int .i64 0) ∧ MAt w' base g (c.go (c.pc + 1)) wv ∧ Below base w w' := by
  have HL : Hid (base ≤ w.heap.size) := by have := h.lt; have := h.low; show _ ≤ _; omega
  have HD : Hid (∀ o k, MAt ((w.alloc o).drewN k) base g c wv) := fun o k => (h.box o).drewN k
  have HB : Hid (∀ o k, Below base w ((w.alloc o).drewN k)) := fun o k => below_drewN ((Below.refl _ _).alloc HL.out o) k
  have hq := tdiv4 imm i0 i1
  have _hu := And.intro (And.intro r0 r1) (And.intro p0 p1)
  clear _hu
  have HT4 : Hid (IntKind.i64.wrap ((c.pc + 1) * 4) = (c.pc + 1) * 4) := by show _ = _; rw [IntKind.wrap_i64]; omega
  have HT : Hid (wrap64 (c.pc + imm.tdiv 4) = c.pc + imm.tdiv 4) := wrap64_small _ (by omega) (by omega)
  have hw1 : wrap64 (imm.tdiv 4) = imm.tdiv 4 := wrap64_small _ (by omega) (by omega)
  have cpc : ∀ o, (w.alloc o).cell? ⟨g, 96, none⟩ = some (.int .i64 c.pc) := fun o => (h.box o).pc
  have hc := fun w => holds_any op a b w
  rw [hh] at hc
  clear hh
  clear h i0 i1 hq
  unfold Mi.val
  dsimp only
  go_enter Tryd.func46, Tryd.ntmps46
  go_wp2
  go_quiet (fail)
  have HW : Hid _ := HD.out (.cells #[.int .i64 op, .int .i64 rd, .int .i64 rs1, .int .i64 rs2, .int .i64 imm] 41) nq
  have HBW : Hid _ := HB.out (.cells #[.int .i64 op, .int .i64 rd, .int .i64 rs1, .int .i64 rs2, .int .i64 imm] 41) nq
  obtain ⟨b0, b1, b4⟩ := box_mi w (.int .i64 op) (.int .i64 rd) (.int .i64 rs1) (.int .i64 rs2) (.int .i64 imm) 41 nq
  generalize hWW : (w.alloc (.cells #[.int .i64 op, .int .i64 rd, .int .i64 rs1, .int .i64 rs2, .int .i64 imm] 41)).drewN nq = W at HW HBW b0 b1 b4
  have HZW : Hid (W.heap.size = w.heap.size + 1) := by show _ = _; rw [← hWW]; simp
  clear hWW HD HB
  have c96 := HW.out.pc
  have f96 := HW.out.free 96
  clear cpc hw1
  go_wp2_with (go_at_call 57; refine (hc _).mono ?_; rintro e w' ⟨rfl, hw'⟩; replace hw' := hw'.symm; subst hw')
  go_ret
  try rw [HT.out]
  exact ⟨rfl, (HW.out.go _).1, HBW.out.trans (HW.out.go _).2⟩
theorem goOn_any (base g : Nat) (c : Cp) (wv : Value) (x : Mi) (a b : Int) (w : World) (h : MAt w base g c wv) (r0 : 0 ≤ x.rd) (r1 : x.rd < 32) (p0 : 0 ≤ c.pc) (p1 : c.pc < 100000) (i0 : -1048576 ≤ x.imm) (i1 : x.imm ≤ 1048576) (o0 : 22 ≤ x.op) (o1 : x.op ≤ 27) :
    Calls Tryd.prog 46 #[.pointer (some ⟨g, 0, none⟩), x.val, .int .i64 a, .int .i64 b] w fun e w' => e = .returned (.int .i64 (doE x a)) ∧ MAt w' base g (doC x a b c) wv ∧ Below base w w' := by
  obtain ⟨op, rd, rs1, rs2, imm⟩ := x
  dsimp only at *
  by_cases h1 : op = 26
  · subst h1
    exact goOn_26 base g c wv rd rs1 rs2 imm a b w h r0 r1 p0 p1 i0 i1
  by_cases h2 : op = 27
  · subst h2
    by_cases hg : adJ (wrap64 (a + imm)) % 4 = 0
    · have e1 : doE ⟨27, rd, rs1, rs2, imm⟩ a = 0 := by simp [doE, hg]
      have e2 : doC ⟨27, rd, rs1, rs2, imm⟩ a b c = (c.put rd ((c.pc + 1) * 4)).go (adJ (wrap64 (a + imm)) / 4) := by simp [doC, hg]
      rw [e1, e2]
      exact goOn_27 base g c wv rd rs1 rs2 imm a b w h r0 r1 p0 p1 i0 i1 hg
    · have e1 : doE ⟨27, rd, rs1, rs2, imm⟩ a = 5 := by simp [doE, hg]
      have e2 : doC ⟨27, rd, rs1, rs2, imm⟩ a b c = c := by simp [doC, hg]
      rw [e1, e2]
      exact goOn_bad base g c wv rd rs1 rs2 imm a b w h r0 r1 p0 p1 i0 i1 hg
  have e1 : doE ⟨op, rd, rs1, rs2, imm⟩ a = 0 := by simp [doE, h2]; omega
  have n20 : ¬ op = 20 := by omega
  have n21 : ¬ op = 21 := by omega
  have n28 : ¬ op = 28 := by omega
  have n29 : ¬ op = 29 := by omega
  have n25 : op ≤ 25 := by omega
  have e2 : doC ⟨op, rd, rs1, rs2, imm⟩ a b c = c.go (if holdsB op a b = true then c.pc + imm.tdiv 4 else c.pc + 1) := by simp [doC, h1, h2, n20, n21, n28, n29, o0, n25]
  rw [e1, e2]
  cases hh : holdsB op a b
  · exact goOn_no base g c wv rd rs1 rs2 imm a b op w h r0 r1 p0 p1 i0 i1 h1 h2 hh
  · exact goOn_yes base g c wv rd rs1 rs2 imm a b op w h r0 r1 p0 p1 i0 i1 h1 h2 hh
set_option maxRecDepth 100000 in
set_option maxHeartbeats 4000000 in
theorem do_ld (base g : Nat) (c : Cp) (wv : Value) (rd rs1 rs2 imm a b : Int) (w : World) (h : MAt w base g c wv) (r0 : 0 ≤ rd) (r1 : rd < 32) (p0 : 0 ≤ c.pc) (p1 : c.pc < 100000) (i0 : -1048576 ≤ imm) (i1 : imm ≤ 1048576) (hg : isW (wrap64 (a + imm)) = true) :
    Calls Tryd.prog 36 #[.pointer (some ⟨g, 0, none⟩), (Mi.mk 20 rd rs1 rs2 imm).val, .int .i64 a, .int .i64 b] w fun e w' => e = .returned (.int .i64 0) ∧ MAt w' base g ((c.put rd (c.word (wrap64 (a + imm)))).go (c.pc + 1)) wv ∧ Below base w w' := by
  have HL : Hid (base ≤ w.heap.size) := by have := h.lt; have := h.low; show _ ≤ _; omega
  have HD : Hid (∀ o k, MAt ((w.alloc o).drewN k) base g c wv) := fun o k => (h.box o).drewN k
  have HB : Hid (∀ o k, Below base w ((w.alloc o).drewN k)) := fun o k => below_drewN ((Below.refl _ _).alloc HL.out o) k
  have hq := tdiv4 imm i0 i1
  have _hu := And.intro (And.intro r0 r1) (And.intro p0 p1)
  clear _hu
  have hc := fun w hw => cload_any base g c wv (wrap64 (a + imm)) w hw hg
  generalize ht : wrap64 (a + imm) = t at *
  generalize c.word t = V at *
  clear h i0 i1 hq
  unfold Mi.val
  dsimp only
  go_enter Tryd.func36, Tryd.ntmps36
  go_wp2
  go_quiet ((go_at_call 43; exact Calls.quiet_of_same (hc _ (HD.out _ _))))
  have HW : Hid _ := HD.out (.cells #[.int .i64 20, .int .i64 rd, .int .i64 rs1, .int .i64 rs2, .int .i64 imm] 41) nq
  have HBW : Hid _ := HB.out (.cells #[.int .i64 20, .int .i64 rd, .int .i64 rs1, .int .i64 rs2, .int .i64 imm] 41) nq
  obtain ⟨b0, b1, b4⟩ := box_mi w (.int .i64 20) (.int .i64 rd) (.int .i64 rs1) (.int .i64 rs2) (.int .i64 imm) 41 nq
  generalize hWW : (w.alloc (.cells #[.int .i64 20, .int .i64 rd, .int .i64 rs1, .int .i64 rs2, .int .i64 imm] 41)).drewN nq = W at HW HBW b0 b1 b4
  have HZW : Hid (W.heap.size = w.heap.size + 1) := by show _ = _; rw [← hWW]; simp
  clear hWW HD HB
  have HW2 : Hid (MAt W.drew base g c wv) := HW.out.drew
  have HBW2 : Hid (Below base w W.drew) := HBW.out.drew
  clear hc
  go_wp2
  go_region_with (go_at_call 44; refine (cput_any base g c wv rd _ _ HW2.out r0 r1).mono ?_; rintro e w4 ⟨rfl, he4, hb4⟩; (try rw [HT4.out] at he4); have c96 : w4.cell? ⟨g, 96, none⟩ = some (.int .i64 c.pc) := he4.pc; have f96 := he4.free 96; have HE4 : Hid (MAt w4 base g (c.put rd (V)) wv) := he4; have HB4 : Hid (Below base W.drew w4) := hb4; clear he4 hb4)
  all_goals
    try simp only [Exit.inBlock]
    go_wp2
    go_ret
    try rw [HT.out]
    exact ⟨rfl, (HE4.out.go _).1, (HBW2.out.trans HB4.out).trans (HE4.out.go _).2⟩
set_option maxRecDepth 100000 in
set_option maxHeartbeats 4000000 in
theorem do_ldbad (base g : Nat) (c : Cp) (wv : Value) (rd rs1 rs2 imm a b : Int) (w : World) (h : MAt w base g c wv) (r0 : 0 ≤ rd) (r1 : rd < 32) (p0 : 0 ≤ c.pc) (p1 : c.pc < 100000) (i0 : -1048576 ≤ imm) (i1 : imm ≤ 1048576) (hg : isW (wrap64 (a + imm)) = false) :
    Calls Tryd.prog 36 #[.pointer (some ⟨g, 0, none⟩), (Mi.mk 20 rd rs1 rs2 imm).val, .int .i64 a, .int .i64 b] w fun e w' => e = .returned (.int .i64 2) ∧ MAt w' base g (c) wv ∧ Below base w w' := by
  have HL : Hid (base ≤ w.heap.size) := by have := h.lt; have := h.low; show _ ≤ _; omega
  have HD : Hid (∀ o k, MAt ((w.alloc o).drewN k) base g c wv) := fun o k => (h.box o).drewN k
  have HB : Hid (∀ o k, Below base w ((w.alloc o).drewN k)) := fun o k => below_drewN ((Below.refl _ _).alloc HL.out o) k
  have hq := tdiv4 imm i0 i1
  have _hu := And.intro (And.intro r0 r1) (And.intro p0 p1)
  clear _hu
  have hc := fun w => cload_bad g (wrap64 (a + imm)) w hg
  generalize ht : wrap64 (a + imm) = t at *
  clear h i0 i1 hq
  unfold Mi.val
  dsimp only
  go_enter Tryd.func36, Tryd.ntmps36
  go_wp2
  go_quiet ((go_at_call 43; exact Calls.quiet_of_same (hc _)))
  have HW : Hid _ := HD.out (.cells #[.int .i64 20, .int .i64 rd, .int .i64 rs1, .int .i64 rs2, .int .i64 imm] 41) nq
  have HBW : Hid _ := HB.out (.cells #[.int .i64 20, .int .i64 rd, .int .i64 rs1, .int .i64 rs2, .int .i64 imm] 41) nq
  obtain ⟨b0, b1, b4⟩ := box_mi w (.int .i64 20) (.int .i64 rd) (.int .i64 rs1) (.int .i64 rs2) (.int .i64 imm) 41 nq
  generalize hWW : (w.alloc (.cells #[.int .i64 20, .int .i64 rd, .int .i64 rs1, .int .i64 rs2, .int .i64 imm] 41)).drewN nq = W at HW HBW b0 b1 b4
  have HZW : Hid (W.heap.size = w.heap.size + 1) := by show _ = _; rw [← hWW]; simp
  clear hWW HD HB
  clear hc
  go_wp2
  go_ret
  exact ⟨rfl, HW.out, HBW.out⟩
set_option maxRecDepth 100000 in
set_option maxHeartbeats 4000000 in
theorem do_sd (base g : Nat) (c : Cp) (wv : Value) (rd rs1 rs2 imm a b : Int) (w : World) (h : MAt w base g c wv) (r0 : 0 ≤ rd) (r1 : rd < 32) (p0 : 0 ≤ c.pc) (p1 : c.pc < 100000) (i0 : -1048576 ≤ imm) (i1 : imm ≤ 1048576) (hg : isW (wrap64 (a + imm)) = true) :
    Calls Tryd.prog 36 #[.pointer (some ⟨g, 0, none⟩), (Mi.mk 21 rd rs1 rs2 imm).val, .int .i64 a, .int .i64 b] w fun e w' => e = .returned (.int .i64 0) ∧ MAt w' base g ((c.keep (wrap64 (a + imm)) b).go (c.pc + 1)) wv ∧ Below base w w' := by
  have HL : Hid (base ≤ w.heap.size) := by have := h.lt; have := h.low; show _ ≤ _; omega
  have HD : Hid (∀ o k, MAt ((w.alloc o).drewN k) base g c wv) := fun o k => (h.box o).drewN k
  have HB : Hid (∀ o k, Below base w ((w.alloc o).drewN k)) := fun o k => below_drewN ((Below.refl _ _).alloc HL.out o) k
  have hq := tdiv4 imm i0 i1
  have _hu := And.intro (And.intro r0 r1) (And.intro p0 p1)
  clear _hu
  have HT4 : Hid (IntKind.i64.wrap (a + imm) = wrap64 (a + imm)) := by show _ = _; unfold wrap64; exact IntKind.wrap_i64 _
  have hc := fun w hw => cstore_any base g c wv (IntKind.i64.wrap (a + imm)) b w hw (by rw [HT4.out]; exact hg)
  clear hg
  clear h i0 i1 hq
  unfold Mi.val
  dsimp only
  go_enter Tryd.func36, Tryd.ntmps36
  go_wp2
  have HW : Hid (MAt (w.alloc (.cells #[.int .i64 21, .int .i64 rd, .int .i64 rs1, .int .i64 rs2, .int .i64 imm] 41)) base g c wv) := HD.out (.cells #[.int .i64 21, .int .i64 rd, .int .i64 rs1, .int .i64 rs2, .int .i64 imm] 41) 0
  have HBW : Hid (Below base w (w.alloc (.cells #[.int .i64 21, .int .i64 rd, .int .i64 rs1, .int .i64 rs2, .int .i64 imm] 41))) := HB.out (.cells #[.int .i64 21, .int .i64 rd, .int .i64 rs1, .int .i64 rs2, .int .i64 imm] 41) 0
  obtain ⟨b0, b1, b4⟩ := box_mi w (.int .i64 21) (.int .i64 rd) (.int .i64 rs1) (.int .i64 rs2) (.int .i64 imm) 41 0
  generalize hWW : (w.alloc (.cells #[.int .i64 21, .int .i64 rd, .int .i64 rs1, .int .i64 rs2, .int .i64 imm] 41)) = W at HW HBW
  rw [hWW] at b0 b1 b4
  replace b0 : W.cell? ⟨w.heap.size, 0, none⟩ = _ := b0
  replace b1 : W.cell? ⟨w.heap.size, 1, none⟩ = _ := b1
  replace b4 : W.cell? ⟨w.heap.size, 4, none⟩ = _ := b4
  have HZW : Hid (W.heap.size = w.heap.size + 1) := by show _ = _; rw [← hWW]; simp
  clear hWW HD HB
  have HW2 : Hid (MAt W.drew base g c wv) := HW.out.drew
  have HBW2 : Hid (Below base w W.drew) := HBW.out.drew
  go_region_with (go_at_call 45; refine (hc _ HW2.out).mono ?_; rintro e w4 ⟨rfl, he4, hb4⟩; (try rw [HT4.out] at he4); have c96 : w4.cell? ⟨g, 96, none⟩ = some (.int .i64 c.pc) := he4.pc; have f96 := he4.free 96; have HE4 : Hid (MAt w4 base g (c.keep (wrap64 (a + imm)) b) wv) := he4; have HB4 : Hid (Below base W.drew w4) := hb4; clear he4 hb4)
  all_goals
    try simp only [Exit.inBlock]
    go_wp2
    go_ret
    try rw [HT.out]
    exact ⟨rfl, (HE4.out.go _).1, (HBW2.out.trans HB4.out).trans (HE4.out.go _).2⟩
set_option maxRecDepth 100000 in
set_option maxHeartbeats 4000000 in
theorem do_sdbad (base g : Nat) (c : Cp) (wv : Value) (rd rs1 rs2 imm a b : Int) (w : World) (h : MAt w base g c wv) (r0 : 0 ≤ rd) (r1 : rd < 32) (p0 : 0 ≤ c.pc) (p1 : c.pc < 100000) (i0 : -1048576 ≤ imm) (i1 : imm ≤ 1048576) (hg : isW (wrap64 (a + imm)) = false) :
    Calls Tryd.prog 36 #[.pointer (some ⟨g, 0, none⟩), (Mi.mk 21 rd rs1 rs2 imm).val, .int .i64 a, .int .i64 b] w fun e w' => e = .returned (.int .i64 2) ∧ MAt w' base g (c) wv ∧ Below base w w' := by
  have HL : Hid (base ≤ w.heap.size) := by have := h.lt; have := h.low; show _ ≤ _; omega
  have HD : Hid (∀ o k, MAt ((w.alloc o).drewN k) base g c wv) := fun o k => (h.box o).drewN k
  have HB : Hid (∀ o k, Below base w ((w.alloc o).drewN k)) := fun o k => below_drewN ((Below.refl _ _).alloc HL.out o) k
  have hq := tdiv4 imm i0 i1
  have _hu := And.intro (And.intro r0 r1) (And.intro p0 p1)
  clear _hu
  have hc := fun w => cstore_bad g (wrap64 (a + imm)) b w hg
  generalize ht : wrap64 (a + imm) = t at *
  clear h i0 i1 hq
  unfold Mi.val
  dsimp only
  go_enter Tryd.func36, Tryd.ntmps36
  go_wp2
  go_quiet ((go_at_call 45; exact Calls.quiet_of_same (hc _)))
  have HW : Hid _ := HD.out (.cells #[.int .i64 21, .int .i64 rd, .int .i64 rs1, .int .i64 rs2, .int .i64 imm] 41) nq
  have HBW : Hid _ := HB.out (.cells #[.int .i64 21, .int .i64 rd, .int .i64 rs1, .int .i64 rs2, .int .i64 imm] 41) nq
  obtain ⟨b0, b1, b4⟩ := box_mi w (.int .i64 21) (.int .i64 rd) (.int .i64 rs1) (.int .i64 rs2) (.int .i64 imm) 41 nq
  generalize hWW : (w.alloc (.cells #[.int .i64 21, .int .i64 rd, .int .i64 rs1, .int .i64 rs2, .int .i64 imm] 41)).drewN nq = W at HW HBW b0 b1 b4
  have HZW : Hid (W.heap.size = w.heap.size + 1) := by show _ = _; rw [← hWW]; simp
  clear hWW HD HB
  clear hc
  go_wp2
  go_ret
  exact ⟨rfl, HW.out, HBW.out⟩
set_option maxRecDepth 100000 in
set_option maxHeartbeats 4000000 in
theorem do_go (base g : Nat) (c : Cp) (wv : Value) (rd rs1 rs2 imm a b op : Int) (w : World) (h : MAt w base g c wv) (r0 : 0 ≤ rd) (r1 : rd < 32) (p0 : 0 ≤ c.pc) (p1 : c.pc < 100000) (i0 : -1048576 ≤ imm) (i1 : imm ≤ 1048576) (o0 : 22 ≤ op) (o1 : op ≤ 27) :
    Calls Tryd.prog 36 #[.pointer (some ⟨g, 0, none⟩), (Mi.mk op rd rs1 rs2 imm).val, .int .i64 a, .int .i64 b] w fun e w' => e = .returned (.int .i64 (doE ⟨op, rd, rs1, rs2, imm⟩ a)) ∧ MAt w' base g (doC ⟨op, rd, rs1, rs2, imm⟩ a b c) wv ∧ Below base w w' := by
  have HL : Hid (base ≤ w.heap.size) := by have := h.lt; have := h.low; show _ ≤ _; omega
  have HD : Hid (∀ o k, MAt ((w.alloc o).drewN k) base g c wv) := fun o k => (h.box o).drewN k
  have HB : Hid (∀ o k, Below base w ((w.alloc o).drewN k)) := fun o k => below_drewN ((Below.refl _ _).alloc HL.out o) k
  have hq := tdiv4 imm i0 i1
  have _hu := And.intro (And.intro r0 r1) (And.intro p0 p1)
  clear _hu
  have HG : Hid (∀ w, MAt w base g c wv → Calls Tryd.prog 46 #[.pointer (some ⟨g, 0, none⟩), (Mi.mk op rd rs1 rs2 imm).val, .int .i64 a, .int .i64 b] w fun e w' => e = .returned (.int .i64 (doE ⟨op, rd, rs1, rs2, imm⟩ a)) ∧ MAt w' base g (doC ⟨op, rd, rs1, rs2, imm⟩ a b c) wv ∧ Below base w w') := fun w hw => goOn_any base g c wv ⟨op, rd, rs1, rs2, imm⟩ a b w hw r0 r1 p0 p1 i0 i1 o0 o1
  generalize doC ⟨op, rd, rs1, rs2, imm⟩ a b c = C at *
  generalize doE ⟨op, rd, rs1, rs2, imm⟩ a = E at *
  rcases (show op = 22 ∨ op = 23 ∨ op = 24 ∨ op = 25 ∨ op = 26 ∨ op = 27 by omega) with rfl | rfl | rfl | rfl | rfl | rfl
  all_goals
  clear h i0 i1 hq
  unfold Mi.val
  dsimp only
  all_goals
    go_enter Tryd.func36, Tryd.ntmps36
    go_wp2_with (go_at_call 46; refine (HG.out _ (HD.out _ 0)).mono ?_; rintro e w4 ⟨rfl, he4, hb4⟩)
    go_ret
    exact ⟨rfl, he4, (HB.out _ 0).trans hb4⟩
set_option maxRecDepth 100000 in
set_option maxHeartbeats 4000000 in
theorem do_lui (base g : Nat) (c : Cp) (wv : Value) (rd rs1 rs2 imm a b : Int) (w : World) (h : MAt w base g c wv) (r0 : 0 ≤ rd) (r1 : rd < 32) (p0 : 0 ≤ c.pc) (p1 : c.pc < 100000) (i0 : -1048576 ≤ imm) (i1 : imm ≤ 1048576) :
    Calls Tryd.prog 36 #[.pointer (some ⟨g, 0, none⟩), (Mi.mk 28 rd rs1 rs2 imm).val, .int .i64 a, .int .i64 b] w fun e w' => e = .returned (.int .i64 0) ∧ MAt w' base g ((c.put rd (imm * 4096)).go (c.pc + 1)) wv ∧ Below base w w' := by
  have HL : Hid (base ≤ w.heap.size) := by have := h.lt; have := h.low; show _ ≤ _; omega
  have HD : Hid (∀ o k, MAt ((w.alloc o).drewN k) base g c wv) := fun o k => (h.box o).drewN k
  have HB : Hid (∀ o k, Below base w ((w.alloc o).drewN k)) := fun o k => below_drewN ((Below.refl _ _).alloc HL.out o) k
  have hq := tdiv4 imm i0 i1
  have _hu := And.intro (And.intro r0 r1) (And.intro p0 p1)
  clear _hu
  have HT4 : Hid (IntKind.i64.wrap (imm * 4096) = imm * 4096) := by show _ = _; rw [IntKind.wrap_i64]; omega
  clear h i0 i1 hq
  unfold Mi.val
  dsimp only
  go_enter Tryd.func36, Tryd.ntmps36
  go_wp2
  have HW : Hid (MAt (w.alloc (.cells #[.int .i64 28, .int .i64 rd, .int .i64 rs1, .int .i64 rs2, .int .i64 imm] 41)) base g c wv) := HD.out (.cells #[.int .i64 28, .int .i64 rd, .int .i64 rs1, .int .i64 rs2, .int .i64 imm] 41) 0
  have HBW : Hid (Below base w (w.alloc (.cells #[.int .i64 28, .int .i64 rd, .int .i64 rs1, .int .i64 rs2, .int .i64 imm] 41))) := HB.out (.cells #[.int .i64 28, .int .i64 rd, .int .i64 rs1, .int .i64 rs2, .int .i64 imm] 41) 0
  obtain ⟨b0, b1, b4⟩ := box_mi w (.int .i64 28) (.int .i64 rd) (.int .i64 rs1) (.int .i64 rs2) (.int .i64 imm) 41 0
  generalize hWW : (w.alloc (.cells #[.int .i64 28, .int .i64 rd, .int .i64 rs1, .int .i64 rs2, .int .i64 imm] 41)) = W at HW HBW
  rw [hWW] at b0 b1 b4
  replace b0 : W.cell? ⟨w.heap.size, 0, none⟩ = _ := b0
  replace b1 : W.cell? ⟨w.heap.size, 1, none⟩ = _ := b1
  replace b4 : W.cell? ⟨w.heap.size, 4, none⟩ = _ := b4
  have HZW : Hid (W.heap.size = w.heap.size + 1) := by show _ = _; rw [← hWW]; simp
  clear hWW HD HB
  have HW2 : Hid (MAt W.drew base g c wv) := HW.out.drew
  have HBW2 : Hid (Below base w W.drew) := HBW.out.drew
  go_region_with (go_at_call 44; refine (cput_any base g c wv rd _ _ HW2.out r0 r1).mono ?_; rintro e w4 ⟨rfl, he4, hb4⟩; (try rw [HT4.out] at he4); have c96 : w4.cell? ⟨g, 96, none⟩ = some (.int .i64 c.pc) := he4.pc; have f96 := he4.free 96; have HE4 : Hid (MAt w4 base g (c.put rd (imm * 4096)) wv) := he4; have HB4 : Hid (Below base W.drew w4) := hb4; clear he4 hb4)
  all_goals
    try simp only [Exit.inBlock]
    go_wp2
    go_ret
    try rw [HT.out]
    exact ⟨rfl, (HE4.out.go _).1, (HBW2.out.trans HB4.out).trans (HE4.out.go _).2⟩
set_option maxRecDepth 100000 in
set_option maxHeartbeats 4000000 in
theorem do_ecall (base g : Nat) (c : Cp) (wv : Value) (rd rs1 rs2 imm a b : Int) (w : World) (h : MAt w base g c wv) (r0 : 0 ≤ rd) (r1 : rd < 32) (p0 : 0 ≤ c.pc) (p1 : c.pc < 100000) (i0 : -1048576 ≤ imm) (i1 : imm ≤ 1048576) :
    Calls Tryd.prog 36 #[.pointer (some ⟨g, 0, none⟩), (Mi.mk 29 rd rs1 rs2 imm).val, .int .i64 a, .int .i64 b] w fun e w' => e = .returned (.int .i64 0) ∧ MAt w' base g (c.stop) wv ∧ Below base w w' := by
  have HL : Hid (base ≤ w.heap.size) := by have := h.lt; have := h.low; show _ ≤ _; omega
  have HD : Hid (∀ o k, MAt ((w.alloc o).drewN k) base g c wv) := fun o k => (h.box o).drewN k
  have HB : Hid (∀ o k, Below base w ((w.alloc o).drewN k)) := fun o k => below_drewN ((Below.refl _ _).alloc HL.out o) k
  have hq := tdiv4 imm i0 i1
  have _hu := And.intro (And.intro r0 r1) (And.intro p0 p1)
  clear _hu

  clear h i0 i1 hq
  unfold Mi.val
  dsimp only
  go_enter Tryd.func36, Tryd.ntmps36
  have c97 := (HD.out (.cells #[.int .i64 29, .int .i64 rd, .int .i64 rs1, .int .i64 rs2, .int .i64 imm] 41) 0).halted
  have f97 := (HD.out (.cells #[.int .i64 29, .int .i64 rd, .int .i64 rs1, .int .i64 rs2, .int .i64 imm] 41) 0).free 97
  replace c97 : (w.alloc (.cells #[.int .i64 29, .int .i64 rd, .int .i64 rs1, .int .i64 rs2, .int .i64 imm] 41)).cell? ⟨g, 97, none⟩ = _ := c97
  replace f97 : (w.alloc (.cells #[.int .i64 29, .int .i64 rd, .int .i64 rs1, .int .i64 rs2, .int .i64 imm] 41)).frozen? ⟨g, 97, none⟩ = _ := f97
  go_wp2
  go_ret
  exact ⟨rfl, (HD.out _ 0).stop.1, (HB.out _ 0).trans (HD.out _ 0).stop.2⟩
set_option maxRecDepth 100000 in
set_option maxHeartbeats 4000000 in
theorem do_mk (base g : Nat) (c : Cp) (wv : Value) (rd rs1 rs2 imm a b op : Int) (w : World) (h : MAt w base g c wv) (r0 : 0 ≤ rd) (r1 : rd < 32) (p0 : 0 ≤ c.pc) (p1 : c.pc < 100000) (i0 : -1048576 ≤ imm) (i1 : imm ≤ 1048576) (o0 : 1 ≤ op) (o1 : op ≤ 19) :
    Calls Tryd.prog 36 #[.pointer (some ⟨g, 0, none⟩), (Mi.mk op rd rs1 rs2 imm).val, .int .i64 a, .int .i64 b] w fun e w' => e = .returned (.int .i64 0) ∧ MAt w' base g ((c.put rd (mdC op a (snd ⟨op, rd, rs1, rs2, imm⟩ b))).go (c.pc + 1)) wv ∧ Below base w w' := by
  have HL : Hid (base ≤ w.heap.size) := by have := h.lt; have := h.low; show _ ≤ _; omega
  have HD : Hid (∀ o k, MAt ((w.alloc o).drewN k) base g c wv) := fun o k => (h.box o).drewN k
  have HB : Hid (∀ o k, Below base w ((w.alloc o).drewN k)) := fun o k => below_drewN ((Below.refl _ _).alloc HL.out o) k
  have hq := tdiv4 imm i0 i1
  have _hu := And.intro (And.intro r0 r1) (And.intro p0 p1)
  clear _hu
  have HMD : Hid (∀ w, Calls Tryd.prog 47 #[(Mi.mk op rd rs1 rs2 imm).val, .int .i64 a, .int .i64 b] w fun e w' => e = .returned (.int .i64 (mdC op a (snd ⟨op, rd, rs1, rs2, imm⟩ b))) ∧ Below w.heap.size w w') := fun w => made_any ⟨op, rd, rs1, rs2, imm⟩ a b w o0 o1
  generalize mdC op a (snd ⟨op, rd, rs1, rs2, imm⟩ b) = V at *
  have n20 : ¬ op = 20 := by omega
  have n21 : ¬ op = 21 := by omega
  have n22 : ¬ op = 22 := by omega
  have n23 : ¬ op = 23 := by omega
  have n24 : ¬ op = 24 := by omega
  have n25 : ¬ op = 25 := by omega
  have n26 : ¬ op = 26 := by omega
  have n27 : ¬ op = 27 := by omega
  have n28 : ¬ op = 28 := by omega
  have n29 : ¬ op = 29 := by omega
  clear o0 o1
  have HXR : Hid ((w.alloc (.cells (miC ⟨op, rd, rs1, rs2, imm⟩).toArray 41)).rangeAt w.heap.size 0 (miC ⟨op, rd, rs1, rs2, imm⟩)) := box_range
  clear h i0 i1 hq
  unfold Mi.val
  dsimp only
  go_enter Tryd.func36, Tryd.ntmps36
  go_wp2
  have HXZ : Hid (w.heap.size < (w.alloc (.cells #[.int .i64 op, .int .i64 rd, .int .i64 rs1, .int .i64 rs2, .int .i64 imm] 41)).heap.size) := by show _ < _; simp
  replace HXR : Hid ((w.alloc (.cells #[.int .i64 op, .int .i64 rd, .int .i64 rs1, .int .i64 rs2, .int .i64 imm] 41)).rangeAt w.heap.size 0 (miC ⟨op, rd, rs1, rs2, imm⟩)) := HXR
  have HW : Hid (MAt (w.alloc (.cells #[.int .i64 op, .int .i64 rd, .int .i64 rs1, .int .i64 rs2, .int .i64 imm] 41)) base g c wv) := HD.out (.cells #[.int .i64 op, .int .i64 rd, .int .i64 rs1, .int .i64 rs2, .int .i64 imm] 41) 0
  have HBW : Hid (Below base w (w.alloc (.cells #[.int .i64 op, .int .i64 rd, .int .i64 rs1, .int .i64 rs2, .int .i64 imm] 41))) := HB.out (.cells #[.int .i64 op, .int .i64 rd, .int .i64 rs1, .int .i64 rs2, .int .i64 imm] 41) 0
  obtain ⟨b0, b1, b4⟩ := box_mi w (.int .i64 op) (.int .i64 rd) (.int .i64 rs1) (.int .i64 rs2) (.int .i64 imm) 41 0
  replace b1 : (w.alloc (.cells #[.int .i64 op, .int .i64 rd, .int .i64 rs1, .int .i64 rs2, .int .i64 imm] 41)).cell? ⟨w.heap.size, 1, none⟩ = _ := b1
  clear b0 b4
  generalize hWW : (w.alloc (.cells #[.int .i64 op, .int .i64 rd, .int .i64 rs1, .int .i64 rs2, .int .i64 imm] 41)) = W1 at HW HBW HXR HXZ b1
  have HZW : Hid (W1.heap.size = w.heap.size + 1) := by show _ = _; rw [← hWW]; simp
  clear hWW HD HB
  refine wp_region_last (S := fun W => Below W1.heap.size W1 W) _ 9 (by kernel_rfl) (by kernel_rfl) rfl ((Below.refl _ _).drew) (fun hHeld => ?_)
  simp only [List.pop_toArray, List.dropLast]
  refine wpAnyH_take (i := 0) (v := ?_) rfl (by kernel_rfl) (by kernel_rfl) (by kernel_rfl) (fun _ _ _ h => h) (Or.inl ⟨by rfl, ?_⟩) (by assumption) ?_
  rotate_left
  · (intro W hSW; go_simp; try (with_reducible rfl))
  (try simp only [Act.put, List.setIfInBounds_toArray])
  refine wpAnyH_take (i := 1) (v := ?_) rfl (by kernel_rfl) (by kernel_rfl) (by kernel_rfl) (fun _ _ _ h => h) (Or.inl ⟨by rfl, ?_⟩) (by assumption) ?_
  rotate_left
  · (intro W hSW; go_simp; try (with_reducible rfl))
  (try simp only [Act.put])
  refine wpAnyH_take (i := 2) (v := ?_) rfl (by kernel_rfl) (by kernel_rfl) (by kernel_rfl) (fun _ _ _ h => h) (Or.inl ⟨by rfl, ?_⟩) (by assumption) ?_
  rotate_left
  · (intro W hSW; go_simp; try (with_reducible rfl))
  (try simp only [Act.put])
  refine wpAnyH_take (i := 3) (v := ?_) rfl (by kernel_rfl) (by kernel_rfl) (by kernel_rfl) (fun _ _ _ h => h) (Or.inl ⟨by rfl, ?_⟩) (by assumption) ?_
  rotate_left
  · (intro W hSW; go_simp; try (with_reducible rfl))
  (try simp only [Act.put])
  refine wpAnyH_take (i := 4) (v := ?_) rfl (by kernel_rfl) (by kernel_rfl) (by kernel_rfl) (fun _ _ _ h => h) (Or.inl ⟨by rfl, ?_⟩) (by assumption) ?_
  rotate_left
  · (intro W hSW; have z0 := keeps_below hSW _ _ b1; go_simp; try (with_reducible rfl))
  (try simp only [Act.put])
  refine wpAnyH_take (i := 5) (v := .agg #[.int .i64 op, .int .i64 rd, .int .i64 rs1, .int .i64 rs2, .int .i64 imm]) rfl (by kernel_rfl) (by kernel_rfl) (by kernel_rfl) (fun _ _ _ h => h) (yieldsIf_load_mid (by rfl) 41 (.tmp 5) rfl (w.heap.size) (0) rfl (miC ⟨op, rd, rs1, rs2, imm⟩) _ (fun V hV => range_below HXR.out hV HXZ.out) Tryd.underlying41 rfl infoRv) (by assumption) ?_
  simp only [List.getElem_toArray, List.getElem_cons_succ, List.getElem_cons_zero]
  (try simp only [Act.put, List.setIfInBounds_toArray, List.set_cons_zero, List.set_cons_succ])
  refine wpAnyH_take (i := 6) (v := ?_) rfl (by kernel_rfl) (by kernel_rfl) (by kernel_rfl) (fun _ _ _ h => h) (Or.inl ⟨by rfl, ?_⟩) (by assumption) ?_
  rotate_left
  · (intro W hSW; go_simp; try (with_reducible rfl))
  (try simp only [Act.put, List.setIfInBounds_toArray])
  refine wpAnyH_take (i := 7) (v := ?_) rfl (by kernel_rfl) (by kernel_rfl) (by kernel_rfl) (fun _ _ _ h => h) (Or.inl ⟨by rfl, ?_⟩) (by assumption) ?_
  rotate_left
  · (intro W hSW; go_simp; try (with_reducible rfl))
  (try simp only [Act.put])
  refine wpAnyH_ready (rs := [8]) (by kernel_rfl) (by simp) ?_
  refine AllReadyH.cons rfl (fun K hK => ?_) AllReadyH.nil
  go_simp
  go_at_call 47
  refine (HMD.out _).mono ?_
  rintro e w3 ⟨rfl, hb3⟩
  dsimp only
  refine hK.out _ _ (hHeld.trans (hb3.mono (Nat.le_refl _))) (fun _ => ?_)
  clear hK K
  (try simp only [Act.put, List.setIfInBounds_toArray, List.set_cons_zero, List.set_cons_succ])
  refine wpAnyH_done (by kernel_rfl) ?_ _
  refine Or.inl ?_
  have HM3 : Hid (MAt w3 base g c wv) := HW.out.drew.below hb3 HW.out.drew.lt
  have HB3 : Hid (Below base w w3) := HBW.out.drew.trans (hb3.mono (by have := HW.out.lt; have := HW.out.low; show base ≤ W1.heap.size; omega))
  clear hb3 b1
  go_simp
  go_at_call 44
  refine (cput_any base g c wv rd _ _ HM3.out r0 r1).mono ?_
  rintro e w4 ⟨rfl, he4, hb4⟩
  have c96 : w4.cell? ⟨g, 96, none⟩ = some (.int .i64 c.pc) := he4.pc
  have f96 := he4.free 96
  have HE4 : Hid (MAt w4 base g (c.put rd V) wv) := he4
  have HB4 : Hid (Below base w3 w4) := hb4
  clear he4 hb4
  go_wp2
  go_ret
  exact ⟨rfl, (HE4.out.go _).1, (HB3.out.trans HB4.out).trans (HE4.out.go _).2⟩
theorem mi_bounds (x : Mi) (h : MiOk x) : 0 ≤ x.rd ∧ x.rd < 32 ∧ 0 ≤ x.rs1 ∧ x.rs1 < 32 ∧ 0 ≤ x.rs2 ∧ x.rs2 < 32 ∧ -1048576 ≤ x.imm ∧ x.imm ≤ 1048576 := by
  have hf := h.fits
  rw [fits_iff] at hf
  have o1 := h.op1
  have o2 := h.op2
  have hs := shOf_lt x.op.toNat (by omega) (by omega)
  generalize shOf x.op.toNat = s at *
  rcases eight _ hs with e | e | e | e | e | e | e | e <;> subst e <;> simp [shF, shL] at hf <;> omega
theorem do_any (base g : Nat) (c : Cp) (wv : Value) (x : Mi) (a b : Int) (w : World) (h : MAt w base g c wv) (hx : MiOk x) (p0 : 0 ≤ c.pc) (p1 : c.pc < 100000) :
    Calls Tryd.prog 36 #[.pointer (some ⟨g, 0, none⟩), x.val, .int .i64 a, .int .i64 b] w fun e w' => e = .returned (.int .i64 (doE x a)) ∧ MAt w' base g (doC x a b c) wv ∧ Below base w w' := by
  obtain ⟨r0, r1, -, -, -, -, i0, i1⟩ := mi_bounds x hx
  have o1 := hx.op1
  have o2 := hx.op2
  clear hx
  obtain ⟨op, rd, rs1, rs2, imm⟩ := x
  dsimp only at *
  by_cases hm : op ≤ 19
  · have e1 : doE ⟨op, rd, rs1, rs2, imm⟩ a = 0 := by unfold doE; dsimp only; rw [if_neg (by omega), if_neg (by omega)]
    have e2 : doC ⟨op, rd, rs1, rs2, imm⟩ a b c = (c.put rd (mdC op a (snd ⟨op, rd, rs1, rs2, imm⟩ b))).go (c.pc + 1) := by
      unfold doC; dsimp only
      rw [if_neg (by omega), if_neg (by omega), if_neg (by omega), if_neg (by omega), if_neg (by omega), if_neg (by omega), if_neg (by omega)]
    rw [e1, e2]
    exact do_mk base g c wv rd rs1 rs2 imm a b op w h r0 r1 p0 p1 i0 i1 o1 hm
  by_cases h20 : op = 20
  · subst h20
    cases hg : isW (wrap64 (a + imm))
    · have e1 : doE ⟨20, rd, rs1, rs2, imm⟩ a = 2 := by simp [doE, hg]
      have e2 : doC ⟨20, rd, rs1, rs2, imm⟩ a b c = c := by simp [doC, hg]
      rw [e1, e2]
      exact do_ldbad base g c wv rd rs1 rs2 imm a b w h r0 r1 p0 p1 i0 i1 hg
    · have e1 : doE ⟨20, rd, rs1, rs2, imm⟩ a = 0 := by simp [doE, hg]
      have e2 : doC ⟨20, rd, rs1, rs2, imm⟩ a b c = (c.put rd (c.word (wrap64 (a + imm)))).go (c.pc + 1) := by simp [doC, hg]
      rw [e1, e2]
      exact do_ld base g c wv rd rs1 rs2 imm a b w h r0 r1 p0 p1 i0 i1 hg
  by_cases h21 : op = 21
  · subst h21
    cases hg : isW (wrap64 (a + imm))
    · have e1 : doE ⟨21, rd, rs1, rs2, imm⟩ a = 2 := by simp [doE, hg]
      have e2 : doC ⟨21, rd, rs1, rs2, imm⟩ a b c = c := by simp [doC, hg]
      rw [e1, e2]
      exact do_sdbad base g c wv rd rs1 rs2 imm a b w h r0 r1 p0 p1 i0 i1 hg
    · have e1 : doE ⟨21, rd, rs1, rs2, imm⟩ a = 0 := by simp [doE, hg]
      have e2 : doC ⟨21, rd, rs1, rs2, imm⟩ a b c = (c.keep (wrap64 (a + imm)) b).go (c.pc + 1) := by simp [doC, hg]
      rw [e1, e2]
      exact do_sd base g c wv rd rs1 rs2 imm a b w h r0 r1 p0 p1 i0 i1 hg
  by_cases h28 : op = 28
  · subst h28
    exact do_lui base g c wv rd rs1 rs2 imm a b w h r0 r1 p0 p1 i0 i1
  by_cases h29 : op = 29
  · subst h29
    exact do_ecall base g c wv rd rs1 rs2 imm a b w h r0 r1 p0 p1 i0 i1
  exact do_go base g c wv rd rs1 rs2 imm a b op w h r0 r1 p0 p1 i0 i1 (by omega) (by omega)
end Go.Proofs.YtapjfiihfgndeaaDoor
