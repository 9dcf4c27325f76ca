/- tierlineref.LeftBy where a machine may be left so (written by gen/mkleftref.py). -/
import Derived.Test.YteabbanjjdmjkaaDoorXLeftRef
namespace Go.Proofs.YteabbanjjdmjkaaDoor
open Go Go.RowKit

def memQ (D M : List Int) (i : Nat) : List Int := D.take i ++ M.drop i
theorem memQ_zero (D M : List Int) : memQ D M 0 = M := by simp [memQ]
theorem memQ_all (D M : List Int) (h : M.length = 16) : memQ D M 16 = D.take 16 := by simp [memQ, List.drop_eq_nil_of_le, h]
theorem memQ_len (D M : List Int) (i : Nat) (hD : D.length = 64) (hM : M.length = 16) (hi : i ≤ 16) : (memQ D M i).length = 16 := by simp [memQ, hD, hM]; omega
theorem memQ_set (D M : List Int) (i : Nat) (hD : D.length = 64) (hM : M.length = 16) (hi : i < 16) : (memQ D M i).set i (D.getD i 0) = memQ D M (i + 1) := by
  unfold memQ
  have hl : (D.take i).length = i := by rw [List.length_take]; omega
  rw [List.set_append_right _ _ (by omega), hl, Nat.sub_self, List.drop_eq_getElem_cons (show i < M.length by omega), List.set_cons_zero, List.take_succ_eq_append_getElem (show i < D.length by omega), List.append_assoc]
  simp [List.getD, show i < D.length by omega]
def lfQ (regs D : List Int) (m r : Nat) : List Int := (List.range r).map (fun i => if m.testBit i = true then D.getD (16 + i) 0 else 0) ++ regs.drop r
theorem lfQ_zero (regs D : List Int) (m : Nat) : lfQ regs D m 0 = regs := by simp [lfQ]
theorem lfQ_all (regs D : List Int) (m : Nat) (h : regs.length = 12) : lfQ regs D m 12 = regsL D m := by simp [lfQ, regsL, List.drop_eq_nil_of_le, h]
theorem lfQ_len (regs D : List Int) (m r : Nat) (h : regs.length = 12) (hr : r ≤ 12) : (lfQ regs D m r).length = 12 := by simp [lfQ, h]; omega
theorem lfQ_set (regs D : List Int) (m r : Nat) (h : regs.length = 12) (hr : r < 12) (z : Int) (hz : z = if m.testBit r = true then D.getD (16 + r) 0 else 0) : (lfQ regs D m r).set r z = lfQ regs D m (r + 1) := by
  unfold lfQ
  rw [List.set_append_right _ _ (by simp), List.length_map, List.length_range, Nat.sub_self, List.drop_eq_getElem_cons (show r < regs.length by omega), List.set_cons_zero, List.range_succ, List.map_append, List.append_assoc, hz]
  rfl

set_option maxRecDepth 100000 in
set_option maxHeartbeats 8000000 in
theorem left_ok (P : List Fn) (v sv : Value) (s : St) (f : Fr) (fs : List Fr) (c : Cp) (m : Nat) (w : World) (hR : ProofAns P 0) (hf : FOk P s.frames) (hE : ∀ E, ProofAns P E → checkE E P s = 0) (hv : ProgVal w v P) (hs : StVal w sv s) (hst : s.status = 0) (hfr : s.frames = fs ++ [f]) (hcp : c.Ok) (hlk : leaveOk c.data (liveL P f.fn.toNat) s.fuel) (hml : (liveL P f.fn.toNat).getD (c.data.getD 29 0).toNat 0 = (m : Int)) (hm4 : m < 4096) (h1 : s.frames.length * 112 ≤ 140737488351232) (h2 : s.events.length * 8 ≤ 140737488355328) (h3 : s.answers.length * 8 ≤ 140737488355328) :
    Calls Tryd.prog 13 #[.agg #[v], sv, c.val] w fun e w' => OwnPost w (leftS s fs f c.data m) e w' := by
  have HC : Hid (∀ W, Below w.heap.size w W → Calls Tryd.prog 37 #[.agg #[v], sv] W fun e w' => e = .returned (.int .i64 0) ∧ Below W.heap.size W w') := fun W hb => by
    have := runningFault_any P v sv s 0 W (hv.keeps (keeps_below hb)) (hs.keeps (keeps_below hb)) hE
    rw [show runE 0 s = 0 by unfold runE; rw [if_pos rfl, if_pos hst]] at this
    exact this
  obtain ⟨k, j0, hk, hj0, hfn⟩ : ∃ (k j : Nat) (hk : k < P.length), j < P[k].code.length ∧ f.fn = k := by
    have hp := ((fok_snoc P fs f).1 (by rw [← hfr]; exact hf)).2.1
    obtain ⟨k, j, hk, hj, e1, e2, e3, e4⟩ := place_nat hp
    exact ⟨k, j, hk, hj, e1⟩
  have hkk : f.fn.toNat = k := by omega
  rw [hkk] at hlk hml
  have HLS0 := liveL_spec hk
  have HLV : Hid (∀ W, Below w.heap.size w W → Calls Tryd.prog 38 #[.agg #[v], .int .i64 f.fn] W fun e w' => ∃ v', e = .returned (.tuple #[v', .int .i64 0]) ∧ IntsVal w' v' (liveL P k) ∧ Below W.heap.size W w') := fun W hb => by
    rw [hfn]
    refine (liveOf_any P v k W (hv.keeps (keeps_below hb))).mono ?_
    rintro e w' ⟨v', E, A, rfl, hA, hI, hb'⟩
    rcases hA with ⟨hne, hp, -⟩ | ⟨-, hno, -, -⟩ | ⟨-, rfl, k', hkk, hk', hL⟩
    · exact absurd (proofAns_unique hp hR) hne
    · exact absurd ⟨by omega, by omega⟩ hno
    · obtain rfl : k = k' := by omega
      rw [liveL_eq hk hL] at hI
      exact ⟨v', rfl, hI, hb'⟩
  have HSC : Hid (∀ W, Below w.heap.size w W → Calls Tryd.prog 36 #[sv] W fun e w' => ∃ v' fv ev av, e = .returned v' ∧ OwnState w' W.heap.size v' s fv ev av ∧ Below W.heap.size W w') := fun W hb => stCopy_any s sv W (hs.keeps (keeps_below hb)) h1 h2 h3
  have HLS : Hid (s.mem.length = 16) := by obtain ⟨_, _, _, _, h, -⟩ := hs; exact h
  have HSV : Hid (∀ W, Below w.heap.size w W → StVal W sv s) := fun W hb => hs.keeps (keeps_below hb)
  obtain ⟨ao, n0, cap0, rfl⟩ := hv.shape
  obtain ⟨cs, rfl, hsz, hs2, -⟩ := hs.cells
  have hlen : s.frames.length = fs.length + 1 := by rw [hfr]; simp
  obtain ⟨fb, fo, fc, HFR⟩ : ∃ fb fo fc, Hid (cs[2]? = some (.slice (some ⟨fb, fo, none⟩) (fs.length + 1) fc) ∧ cs[19]? = some (.int .i64 s.fuel) ∧ (∀ W, Below w.heap.size w W → W.cell? ⟨fb, fo + fs.length * 14, none⟩ = some (.int .i64 f.fn)) ∧ fs.length + 1 ≤ 9223372036854775807) := by
    obtain ⟨fv, ev, av, e, h16, hF, -⟩ := hs
    obtain ⟨hw, fa, fb, fo, n, fc, rfl, h1, h2, h3, h4, h5⟩ := hF
    have hn : n = fs.length + 1 := by omega
    subst hn
    have e2 := h2 (by omega)
    subst e2
    refine ⟨fb, fo, fc, ?_, ?_, fun W hb => ?_, ?_⟩
    · rw [Value.agg.inj e]; rfl
    · rw [Value.agg.inj e]; simpa using stC_tail _ _ _ h16 0
    · have hx := h3 fs.length (by omega) 0 (.int .i64 f.fn) (by simp [hfr, frCells])
      exact keeps_below hb _ _ hx
    · have h6 := h5
      simp only [maxLen] at h6
      have := h4.1
      omega
  have HRD : Hid (∀ (W : World) b, W.heap[b]? = some (.cells (cpuCells c).toArray 33 (0, 0)) → W.rangeAt b 33 (i64s c.data)) := fun W b h => cp_range hcp h
  have HD : Hid (∀ q, q < 64 → (i64s c.data)[q]? = some (.int .i64 (c.data.getD q 0))) := fun q hq => i64s_at hcp.d hq
  have HDL : Hid (c.data.length = 64) := hcp.d
  obtain ⟨D29, hD29⟩ : ∃ z, c.data.getD 29 0 = z := ⟨_, rfl⟩
  obtain ⟨D28, hD28⟩ : ∃ z, c.data.getD 28 0 = z := ⟨_, rfl⟩
  unfold leaveOk at hlk
  rw [hD29, hD28] at hlk
  have HD29 : Hid (c.data.getD 29 0 = D29) := hD29
  have HD28 : Hid (c.data.getD 28 0 = D28) := hD28
  have HLP : Hid (0 < (liveL P k).length) := by show _ < _; rw [HLS0.1]; omega
  rw [hD29] at hml
  obtain ⟨pc, rfl⟩ := Int.eq_ofNat_of_zero_le hlk.1
  rw [Int.toNat_natCast] at hml
  have hpl : pc < (liveL P k).length := by have := hlk.2.1; omega
  have HIN : Hid (inB (pc : Int) 0 (((liveL P k).length : Int) - 1) = true ∧ inB D28 0 s.fuel = true) := by
    refine ⟨?_, ?_⟩
    · unfold inB; simp; omega
    · unfold inB; simpa using hlk.2.2.2
  have E9 : Hid (leftS s fs f c.data m = { s with frames := fs ++ [⟨f.fn, (pc : Int), regsL c.data m⟩], fuel := D28, mem := c.data.take 16 }) := by
    show _ = _
    unfold leftS
    rw [HD29.out, HD28.out]
  have HFI : Hid (s.frames[fs.length]? = some f) := by show _ = _; rw [hfr]; simp
  have HFS : Hid (∀ g : Fr, s.frames.set fs.length g = fs ++ [g]) := fun g => by rw [hfr, set_last]
  have HHB : Hid (∀ (r : Nat) (b : Bool) W, r < 12 → m.testBit r = b → Calls Tryd.prog 40 #[.int .i64 (m : Int), .int .i64 (r : Int)] W fun e w' => e = .returned (.bool b) ∧ w' = W) := fun r b W hr hb => hasBit_int m r b W (by omega) (by omega) (by omega) (by rw [hasB_bit, Int.toNat_natCast]; exact hb)
  clear hv hs hR hf hE hst hcp hlk hfn hkk HLS0 hD29 hD28 hfr hs2 hk hj0 h1 h2 h3 hm4
  have HLN : Hid (s.frames.length = fs.length + 1) := hlen
  clear hlen
  unfold Cp.val
  generalize liveL P k = L at *
  generalize cpuCells c = CC at *
  go_enter Tryd.func13, Tryd.ntmps13
  go_upto_region 1 with fail
  rw [show (#[.int .i64 0, .int .i64 0, .slice none 0 0, .int .i64 0, .int .i64 0, .int .i64 0, .int .i64 0, .int .i64 0, .int .i64 0, .int .i64 0, .int .i64 0, .int .i64 0, .int .i64 0, .int .i64 0, .int .i64 0, .int .i64 0, .int .i64 0, .int .i64 0, .int .i64 0, .int .i64 0, .slice none 0 0, .slice none 0 0] : Array Value) = zeroStCells from rfl]
  have r0 : ((((w.alloc (.cells #[.slice ao n0 cap0] 24)).alloc (.cells cs 29)).alloc (.cells CC.toArray 33)).alloc (.cells zeroStCells 29)).heap[w.heap.size]? = some (.cells #[.slice ao n0 cap0] 24 (0, 0)) := heap_alloc_old _ _ (by simp <;> omega) |>.trans (heap_alloc_old _ _ (by simp <;> omega) |>.trans (heap_alloc2_old _ _ _))
  have r1 : ((((w.alloc (.cells #[.slice ao n0 cap0] 24)).alloc (.cells cs 29)).alloc (.cells CC.toArray 33)).alloc (.cells zeroStCells 29)).heap[w.heap.size + 1]? = some (.cells cs 29 (0, 0)) := heap_alloc_old _ _ (by simp <;> omega) |>.trans (heap_alloc_old _ _ (by simp) |>.trans (heap_alloc2_new _ _ _))
  have r2 : ((((w.alloc (.cells #[.slice ao n0 cap0] 24)).alloc (.cells cs 29)).alloc (.cells CC.toArray 33)).alloc (.cells zeroStCells 29)).heap[w.heap.size + 1 + 1]? = some (.cells CC.toArray 33 (0, 0)) := heap_alloc_old _ _ (by simp) |>.trans (heap_alloc3_new _ _ _ _)
  have r3 : ((((w.alloc (.cells #[.slice ao n0 cap0] 24)).alloc (.cells cs 29)).alloc (.cells CC.toArray 33)).alloc (.cells zeroStCells 29)).heap[w.heap.size + 1 + 1 + 1]? = some (.cells zeroStCells 29 (0, 0)) := by
    have := heap_alloc_last (((w.alloc (.cells #[.slice ao n0 cap0] 24)).alloc (.cells cs 29)).alloc (.cells CC.toArray 33)) (.cells zeroStCells 29)
    simpa using this
  have HB0 : Hid (Below w.heap.size w ((((w.alloc (.cells #[.slice ao n0 cap0] 24)).alloc (.cells cs 29)).alloc (.cells CC.toArray 33)).alloc (.cells zeroStCells 29))) := ((((Below.refl _ _).alloc (Nat.le_refl _) _).alloc (by simp) _).alloc (by simp <;> omega) _).alloc (by simp <;> omega) _
  generalize ((((w.alloc (.cells #[.slice ao n0 cap0] 24)).alloc (.cells cs 29)).alloc (.cells CC.toArray 33)).alloc (.cells zeroStCells 29)) = W0 at *
  have hz0 := lt_of_block r3
  have kp0 : W0.cell? ⟨w.heap.size, 0, none⟩ = some (.slice ao n0 cap0) := by rw [cell_of_row _ _ _ _ _ _ r0]; rfl
  go_upto_region 4 with (first
    | (refine wpList_load_row rfl _ _ rfl _ rfl _ _ _ _ r1 Tryd.underlying29 rfl hsz ?_)
    | (go_at_call 37; refine (HC.out _ HB0.out).mono ?_; rintro e w1 ⟨rfl, hb1⟩))
  have q0 := (hb1.block _ (by omega)).trans r0
  have q1 := (hb1.block _ (by omega)).trans r1
  have q2 := (hb1.block _ (by omega)).trans r2
  have q3 := (hb1.block _ (by omega)).trans r3
  have HB1 : Hid (Below w.heap.size w w1) := HB0.out.trans (hb1.mono HB0.out.size)
  have hz1 : w.heap.size + 1 + 1 + 1 < w1.heap.size := lt_of_block q3
  have kp : w1.cell? ⟨w.heap.size, 0, none⟩ = some (.slice ao n0 cap0) := by rw [cell_of_row _ _ _ _ _ _ q0]; rfl
  have kfv : w1.cell? ⟨w.heap.size + 1, 2, none⟩ = some (.slice (some ⟨fb, fo, none⟩) (fs.length + 1) fc) := by rw [cell_of_row _ _ _ _ _ _ q1]; exact HFR.out.1
  have kfn := HFR.out.2.2.1 w1 HB1.out
  clear r0 r1 r2 r3 kp0 hb1 HC HB0
  obtain ⟨m1, hm1⟩ : ∃ m : Nat, m = fs.length + 1 := ⟨_, rfl⟩
  have hmb : m1 ≤ 9223372036854775807 := by rw [hm1]; exact HFR.out.2.2.2
  rw [← hm1] at kfv
  have hs1 : IntKind.i64.wrap ((m1 : Int) - 1) = (fs.length : Int) := by rw [show (m1 : Int) - 1 = (fs.length : Int) by omega]; exact wrap_fits _ (by omega) (by omega)
  have hs1b : wrap64 ((m1 : Int) - 1) = (fs.length : Int) := (wrap64_small _ (by omega) (by omega)).trans (by omega)
  have hlm : (fs.length : Int) < (m1 : Int) := by omega
  have hlm2 : fs.length < m1 := by omega
  have hl0 : ¬ (fs.length : Int) < 0 := by omega
  have HM1 : Hid (m1 = fs.length + 1) := hm1
  clear hm1
  generalize htp : fs.length = tp at *
  have HTP : Hid _ := htp
  clear htp
  go_upto_region 5 with fail
  refine wp_region_held_drew (S := fun W => Below w1.heap.size w1 W) (by kernel_rfl) ((Below.refl _ _).drew) (fun hHeld => ?_)
  show wpAnyH _ _ _ _ _ 13 _ _ _
  refine wpAnyH_take (i := 0) (v := ?_) rfl (by kernel_rfl) (by kernel_rfl) (by kernel_rfl) (fun _ _ _ h => h) (Or.inl ⟨by rfl, ?_⟩) (by assumption) ?_
  rotate_left
  · (intro W hSW; have z0 := keeps_below hSW _ _ kp; go_simp; try (with_reducible rfl))
  (try simp only [List.getElem_toArray, List.getElem_cons_zero])
  (try simp only [Act.put, List.setIfInBounds_toArray, List.set_cons_zero, List.set_cons_succ])
  refine wpAnyH_take (i := 1) (v := ?_) rfl (by kernel_rfl) (by kernel_rfl) (by kernel_rfl) (fun _ _ _ h => h) (Or.inl ⟨by rfl, ?_⟩) (by assumption) ?_
  rotate_left
  · (intro W hSW; go_simp; try (with_reducible rfl))
  (try simp only [List.getElem_toArray, List.getElem_cons_succ, List.getElem_cons_zero])
  (try simp only [Act.put, List.setIfInBounds_toArray, List.set_cons_zero, List.set_cons_succ])
  refine wpAnyH_take (i := 2) (v := ?_) rfl (by kernel_rfl) (by kernel_rfl) (by kernel_rfl) (fun _ _ _ h => h) (Or.inl ⟨by rfl, ?_⟩) (by assumption) ?_
  rotate_left
  · (intro W hSW; have z0 := keeps_below hSW _ _ kfv; go_simp; try (with_reducible rfl))
  (try simp only [List.getElem_toArray, List.getElem_cons_succ, List.getElem_cons_zero])
  (try simp only [Act.put, List.setIfInBounds_toArray, List.set_cons_zero, List.set_cons_succ])
  refine wpAnyH_take (i := 3) (v := ?_) rfl (by kernel_rfl) (by kernel_rfl) (by kernel_rfl) (fun _ _ _ h => h) (Or.inl ⟨by rfl, ?_⟩) (by assumption) ?_
  rotate_left
  · (intro W hSW; go_simp; try (with_reducible rfl))
  (try simp only [List.getElem_toArray, List.getElem_cons_succ, List.getElem_cons_zero])
  (try simp only [Act.put, List.setIfInBounds_toArray, List.set_cons_zero, List.set_cons_succ])
  refine wpAnyH_take (i := 4) (v := ?_) rfl (by kernel_rfl) (by kernel_rfl) (by kernel_rfl) (fun _ _ _ h => h) (Or.inl ⟨by rfl, ?_⟩) (by assumption) ?_
  rotate_left
  · (intro W hSW; go_simp; try (with_reducible rfl))
  (try simp only [List.getElem_toArray, List.getElem_cons_succ, List.getElem_cons_zero])
  (try simp only [Act.put, List.setIfInBounds_toArray, List.set_cons_zero, List.set_cons_succ])
  refine wpAnyH_take (i := 5) (v := ?_) rfl (by kernel_rfl) (by kernel_rfl) (by kernel_rfl) (fun _ _ _ h => h) (Or.inl ⟨by rfl, ?_⟩) (by assumption) ?_
  rotate_left
  · (intro W hSW; go_simp; try (with_reducible rfl))
  (try simp only [List.getElem_toArray, List.getElem_cons_succ, List.getElem_cons_zero])
  (try simp only [Act.put, List.setIfInBounds_toArray, List.set_cons_zero, List.set_cons_succ])
  refine wpAnyH_take (i := 6) (v := ?_) rfl (by kernel_rfl) (by kernel_rfl) (by kernel_rfl) (fun _ _ _ h => h) (Or.inl ⟨by rfl, ?_⟩) (by assumption) ?_
  rotate_left
  · (intro W hSW; have z0 := keeps_below hSW _ _ kfn; go_simp; try (with_reducible rfl))
  (try simp only [List.getElem_toArray, List.getElem_cons_succ, List.getElem_cons_zero])
  (try simp only [Act.put, List.setIfInBounds_toArray, List.set_cons_zero, List.set_cons_succ])
  refine wpAnyH_ready (rs := [7]) (by kernel_rfl) (by simp) ?_
  refine AllReadyH.cons rfl (fun K hK => ?_) AllReadyH.nil
  go_simp
  go_at_call 38
  refine (HLV.out _ HB1.out.drew).mono ?_
  rintro e w3 ⟨v3, rfl, hI3, hb3⟩
  obtain ⟨al, b3, o3, n3, c3, rfl, hl3, hal, -, hcp3, hmx3⟩ := ints_get hI3
  have HL3 : Hid _ := hl3
  have HN3 : Hid (n3 ≤ 9223372036854775807) := Nat.le_trans hcp3 hmx3
  obtain rfl := hal (by have := HLP.out; omega)
  clear hl3
  clear hal
  have hb23 : Below w1.heap.size w1 w3 := Below.trans hHeld (Below.mono hb3 (Below.size hHeld))
  dsimp only
  refine hK.out _ _ hb23 (fun _ => ?_)
  clear hK K hHeld
  (try simp only [Act.put, List.setIfInBounds_toArray, List.set_cons_zero, List.set_cons_succ])
  refine wpAnyH_take (i := 8) (v := ?_) rfl (by kernel_rfl) (by kernel_rfl) (by kernel_rfl) (fun _ _ _ h => h) (Or.inl ⟨by rfl, ?_⟩) hb23 ?_
  rotate_left
  · (intro W hSW; go_simp; try (with_reducible rfl))
  (try simp only [List.getElem_toArray, List.getElem_cons_succ, List.getElem_cons_zero])
  (try simp only [Act.put, List.setIfInBounds_toArray, List.set_cons_zero, List.set_cons_succ])
  refine wpAnyH_take (i := 9) (v := ?_) rfl (by kernel_rfl) (by kernel_rfl) (by kernel_rfl) (fun _ _ _ h => h) (Or.inl ⟨by rfl, ?_⟩) hb23 ?_
  rotate_left
  · (intro W hSW; go_simp; try (with_reducible rfl))
  (try simp only [List.getElem_toArray, List.getElem_cons_succ, List.getElem_cons_zero])
  (try simp only [Act.put, List.setIfInBounds_toArray, List.set_cons_zero, List.set_cons_succ])
  refine wpAnyH_take (i := 10) (v := ?_) rfl (by kernel_rfl) (by kernel_rfl) (by kernel_rfl) (fun _ _ _ h => h) (Or.inl ⟨by rfl, ?_⟩) hb23 ?_
  rotate_left
  · (intro W hSW; go_simp; try (with_reducible rfl))
  (try simp only [List.getElem_toArray, List.getElem_cons_succ, List.getElem_cons_zero])
  (try simp only [Act.put, List.setIfInBounds_toArray, List.set_cons_zero, List.set_cons_succ])
  refine wpAnyH_take (i := 11) (v := ?_) rfl (by kernel_rfl) (by kernel_rfl) (by kernel_rfl) (fun _ _ _ h => h) (Or.inl ⟨by rfl, ?_⟩) hb23 ?_
  rotate_left
  · (intro W hSW; go_simp; try (with_reducible rfl))
  (try simp only [List.getElem_toArray, List.getElem_cons_succ, List.getElem_cons_zero])
  (try simp only [Act.put, List.setIfInBounds_toArray, List.set_cons_zero, List.set_cons_succ])
  refine wpAnyH_take (i := 12) (v := ?_) rfl (by kernel_rfl) (by kernel_rfl) (by kernel_rfl) (fun _ _ _ h => h) (Or.inl ⟨by rfl, ?_⟩) hb23 ?_
  rotate_left
  · (intro W hSW; go_simp; try (with_reducible rfl))
  (try simp only [List.getElem_toArray, List.getElem_cons_succ, List.getElem_cons_zero])
  (try simp only [Act.put, List.setIfInBounds_toArray, List.set_cons_zero, List.set_cons_succ])
  refine wpAnyH_done (by kernel_rfl) ?_ _
  (try simp only [Act.put])
  have HI3 : Hid (IntsVal w3 (.slice (some ⟨b3, o3, none⟩) n3 c3) L) := hI3
  have s1 := (hb23.block _ (lt_of_block q1)).trans q1
  have s2 := (hb23.block _ (lt_of_block q2)).trans q2
  have x3 := (hb23.block _ (lt_of_block q3)).trans q3
  have HBX : Hid (Below w.heap.size w w3) := HB1.out.trans (hb23.mono HB1.out.size)
  have kfu : w3.cell? ⟨w.heap.size + 1, 19, none⟩ = some (.int .i64 s.fuel) := by rw [cell_of_row _ _ _ _ _ _ s1]; exact HFR.out.2.1
  have c29 : w3.cell? ⟨w.heap.size + 1 + 1, 33 + 29, none⟩ = some (.int .i64 (pc : Int)) := by have := HRD.out _ _ s2 29 _ (HD.out 29 (by omega)); rw [HD29.out] at this; exact this
  have c28 : w3.cell? ⟨w.heap.size + 1 + 1, 33 + 28, none⟩ = some (.int .i64 D28) := by have := HRD.out _ _ s2 28 _ (HD.out 28 (by omega)); rw [HD28.out] at this; exact this
  have hn1 : IntKind.i64.wrap ((n3 : Int) - 1) = (n3 : Int) - 1 := by have := HN3.out; have := HL3.out; have := HLP.out; exact wrap_fits _ (by omega) (by omega)
  have hn1b : wrap64 ((n3 : Int) - 1) = (n3 : Int) - 1 := by have := HN3.out; exact wrap64_small _ (by omega) (by omega)
  have HZ13 : Hid (w.heap.size + 1 + 1 + 1 < w3.heap.size) := lt_of_block x3
  clear hI3 hb3 q0 q1 q2 q3 kp kfv kfn hb23
  rw [HL3.out] at HIN
  obtain ⟨h1, h2⟩ := HIN.out
  clear HIN
  have IN : Hid (∀ a b d W, Calls Tryd.prog 39 #[.int .i64 a, .int .i64 b, .int .i64 d] W fun e w' => e = .returned (.bool (inB a b d)) ∧ w' = W) := fun a b d W => in_any a b d W
  have clv : w3.cell? ⟨b3, o3 + pc, none⟩ = some (.int .i64 (m : Int)) := by have := ints_cell HI3.out pc hpl; rw [hml] at this; exact this
  have hqn2 : pc < n3 := by have := HL3.out; omega
  have hqn : (pc : Int) < (n3 : Int) := by omega
  have hq0 : ¬ (pc : Int) < 0 := by omega
  have hm0 : ¬ (m : Int) < 0 := by omega
  go_upto_region 11 with (go_at_call 39; refine (IN.out _ _ _ _).mono ?_; rintro e wq ⟨rfl, hwq⟩; replace hwq := hwq.symm; subst hwq; first | rw [h1] | rw [h2])
  clear h1 h2 IN kfu c29
  go_upto_region 12 with (first
    | (refine wpList_load_row rfl _ _ rfl _ rfl _ _ _ _ s1 Tryd.underlying29 rfl hsz ?_)
    | (go_at_call 36; refine (HSC.out _ HBX.out).mono ?_; rintro e w4 ⟨v4, fv, ev, av, rfl, hos, hb4⟩; obtain rfl := hos.val; have HOS : Hid (OwnState w4 _ _ s fv ev av) := hos; obtain ⟨cs1, ecs, hsi, hold, hone⟩ := (StVal.cells ⟨fv, ev, av, rfl, hos.mem, frames_of_own hos.wf hos.frames, ints_of_own hos.events, ints_of_own hos.answers⟩ : ∃ cs1, _); obtain rfl := Value.agg.inj ecs; clear hos)
    | (refine wpList_store_row rfl _ _ _ rfl _ (stCells s fv ev av).toArray rfl rfl 29 zeroStCells (heap_alloc_last w4 _) hsi hold hone ?_; rw [World.setRow_alloc_new]))
  have hba : Below w4.heap.size w4 (w4.alloc (.cells (stCells s fv ev av).toArray 29)) := (Below.refl _ _).alloc (Nat.le_refl _) _
  have HOA : Hid (OutAt (w4.alloc (.cells (stCells s fv ev av).toArray 29)) w3.heap.size w4.heap.size s fv ev av) := HOS.out.out hba (heap_alloc_last _ _) hb4.size
  have HBA : Hid (Below w3.heap.size w3 (w4.alloc (.cells (stCells s fv ev av).toArray 29))) := hb4.trans (hba.mono hb4.size)
  clear hba HOS HSC hsi hold hone
  generalize (w4.alloc (.cells (stCells s fv ev av).toArray 29)) = W4 at *
  generalize hG : w4.heap.size = G at *
  clear hb4 hG s1
  obtain ⟨gb, gc, rfl, g1, g2, g3, g4, g5⟩ := HOA.out.box (i := tp) (by have := HLN.out; omega)
  have HGN : Hid (s.frames.length = m1) := by show _ = _; rw [HLN.out]; exact HM1.out.symm
  rw [HGN.out] at HOA g1
  have HKEEP : Hid (∀ W, Below w3.heap.size w3 W → W.heap[w.heap.size + 1 + 1]? = some (.cells CC.toArray 33 (0, 0)) ∧ W.heap[w.heap.size + 1 + 1 + 1]? = some (.cells zeroStCells 29 (0, 0)) ∧ W.cell? ⟨b3, o3 + pc, none⟩ = some (.int .i64 (m : Int)) ∧ Below w.heap.size w W) := fun W hb => ⟨(hb.block _ (lt_of_block s2)).trans s2, (hb.block _ (lt_of_block x3)).trans x3, keeps_below hb _ _ clv, HBX.out.trans (hb.mono HBX.out.size)⟩
  have c28 := keeps_below HBA.out _ _ c28
  have gfu : W4.cell? ⟨G, 19, none⟩ = some (.int .i64 s.fuel) := by rw [cell_of_row _ _ _ _ _ _ HOA.out.cells]; simpa using stC_tail _ _ _ HOA.out.mem 0
  have ffu : W4.frozen? ⟨G, 19, none⟩ = false := frozen_of_row _ _ _ _ _ HOA.out.cells
  obtain ⟨HO5, hb5⟩ := HOA.out.put 19 (.int .i64 D28) { s with fuel := D28 } (stC_fuel _ _ _ HOA.out.mem D28) HOA.out.mem rfl rfl rfl
  have HO5H : Hid (OutAt (W4.setCell ⟨G, 19, none⟩ (.int .i64 D28)) w3.heap.size G { s with fuel := D28 } (.slice (some ⟨gb, 0, none⟩) m1 gc) ev av) := HO5
  have HB5 : Hid (Below w3.heap.size w3 (W4.setCell ⟨G, 19, none⟩ (.int .i64 D28))) := HBA.out.trans hb5
  clear HO5 hb5 HOA HBA clv
  go_upto_region 13 with fail
  generalize (W4.setCell ⟨G, 19, none⟩ (.int .i64 D28)) = W5 at *
  clear c28 gfu ffu
  have HM0 : Hid (memQ c.data s.mem 0 = s.mem) := memQ_zero _ _
  have HMA : Hid (memQ c.data s.mem 16 = c.data.take 16) := memQ_all _ _ HLS.out
  have HML : Hid (∀ i, i ≤ 16 → (memQ c.data s.mem i).length = 16) := fun i hi => memQ_len _ _ i HDL.out HLS.out hi
  have HMS : Hid (∀ i, i < 16 → (memQ c.data s.mem i).set i (c.data.getD i 0) = memQ c.data s.mem (i + 1)) := fun i hi => memQ_set _ _ i HDL.out HLS.out hi
  go_upto_region 14 with fail
  go_loopw [14] (fun i wr => ∃ q : Nat, q ≤ 16 ∧ i = .int .i64 q ∧ OutAt wr w3.heap.size G { s with fuel := D28, mem := memQ c.data s.mem q } (.slice (some ⟨gb, 0, none⟩) m1 gc) ev av ∧ Below w3.heap.size w3 wr) (fun i _ => 16 - (intOf i).toNat)
  case atStart => exact ⟨0, by omega, rfl, by rw [HM0.out]; exact HO5H.out, HB5.out⟩
  case round =>
    clear HO5H HB5
    obtain ⟨q, hq, rfl, hor, hbr⟩ := hrel
    have HOR : Hid _ := hor
    have HBR : Hid (Below w3.heap.size w3 wr) := hbr
    clear hor hbr
    by_cases hlt : q < 16
    · have hqI : (q : Int) < 16 := by omega
      have hqI2 : ¬ (q : Int) < 0 := by omega
      have hq64 : (q : Int) < 64 := by omega
      have hq64n : q < 64 := by omega
      have cd : wr.cell? ⟨w.heap.size + 1 + 1, 33 + q, none⟩ = some (.int .i64 (c.data.getD q 0)) := HRD.out _ _ (HKEEP.out wr HBR.out).1 q _ (HD.out q (by omega))
      have co : wr.cell? ⟨G, 3 + q, none⟩ = some (.int .i64 ((memQ c.data s.mem q).getD q 0)) := by rw [cell_of_row _ _ _ _ _ _ HOR.out.cells, List.getElem?_toArray]; exact stC_memGet _ _ _ q (by show q < (memQ c.data s.mem q).length; rw [HML.out q hq]; exact hlt)
      have cz : wr.frozen? ⟨G, 3 + q, none⟩ = false := frozen_of_row _ _ _ _ _ HOR.out.cells
      obtain ⟨HO6, hb6⟩ := HOR.out.put (3 + q) (.int .i64 (c.data.getD q 0)) { s with fuel := D28, mem := memQ c.data s.mem (q + 1) } (by rw [stC_mem _ _ _ q (by show q < (memQ c.data s.mem q).length; rw [HML.out q hq]; exact hlt)]; dsimp only; rw [HMS.out q hlt]) (HML.out (q + 1) (by omega)) rfl rfl rfl
      generalize (memQ c.data s.mem q).getD q 0 = old at *
      generalize c.data.getD q 0 = new at *
      have HO6H : Hid _ := HO6
      have HB6 : Hid (Below w3.heap.size w3 (wr.setCell ⟨G, 3 + q, none⟩ (.int .i64 new))) := HBR.out.trans hb6
      clear HO6 hb6 HOR
      go_wp2
      go_roundw
      case rel => exact ⟨q + 1, by omega, by go_num, HO6H.out, HB6.out⟩
      case measure => simp [intOf]; omega
    · obtain rfl : q = 16 := by omega
      have HOX : Hid (OutAt wr w3.heap.size G { s with fuel := D28, mem := c.data.take 16 } (.slice (some ⟨gb, 0, none⟩) m1 gc) ev av) := by have := HOR.out; rw [HMA.out] at this; exact this
      clear HOR
      have kg2 : wr.cell? ⟨G, 2, none⟩ = some (.slice (some ⟨gb, 0, none⟩) m1 gc) := by rw [cell_of_row _ _ _ _ _ _ HOX.out.cells]; rfl
      have hft : ({ s with fuel := D28, mem := c.data.take 16 } : St).frames[tp]? = some f := HFI.out
      have cpc : wr.cell? ⟨gb, tp * 14 + 1, none⟩ = some (.int .i64 f.pc) := HOX.out.range hft 1 _ rfl
      have fpc : wr.frozen? ⟨gb, tp * 14 + 1, none⟩ = false := HOX.out.free _
      obtain ⟨HO7, hb7⟩ := HOX.out.frPc tp hft (pc : Int)
      have hfs : ∀ g : Fr, ({ s with fuel := D28, mem := c.data.take 16 } : St).frames.set tp g = fs ++ [g] := fun g => HFS.out g
      rw [hfs] at HO7
      have HO7H : Hid _ := HO7
      have HB7 : Hid (Below w3.heap.size w3 (wr.setCell ⟨gb, tp * 14 + 1, none⟩ (.int .i64 (pc : Int)))) := HBR.out.trans hb7
      have hrl : f.regs.length = 12 := HOX.out.wf f (List.mem_of_getElem? hft)
      clear HO7 hb7 HOX HBR hft hfs
      go_upto_region 18 with fail
      generalize (wr.setCell ⟨gb, tp * 14 + 1, none⟩ (.int .i64 (pc : Int))) = W7 at *
      clear cpc fpc kg2
      have HQ0 : Hid (lfQ f.regs c.data m 0 = f.regs) := lfQ_zero _ _ _
      have HQA : Hid (lfQ f.regs c.data m 12 = regsL c.data m) := lfQ_all _ _ _ hrl
      have HQL : Hid (∀ r, r ≤ 12 → (lfQ f.regs c.data m r).length = 12) := fun r hr => lfQ_len _ _ _ r hrl hr
      have HQS : Hid (∀ r, r < 12 → ∀ z, z = (if m.testBit r = true then c.data.getD (16 + r) 0 else 0) → (lfQ f.regs c.data m r).set r z = lfQ f.regs c.data m (r + 1)) := fun r hr z hz => lfQ_set _ _ _ r hrl hr z hz
      go_upto_region 19 with fail
      go_loopw [15] (fun i wv => ∃ r : Nat, r ≤ 12 ∧ i = .int .i64 r ∧ OutAt wv w3.heap.size G { s with fuel := D28, mem := c.data.take 16, frames := fs ++ [⟨f.fn, (pc : Int), lfQ f.regs c.data m r⟩] } (.slice (some ⟨gb, 0, none⟩) m1 gc) ev av ∧ Below w3.heap.size w3 wv) (fun i _ => 12 - (intOf i).toNat)
      case atStart => exact ⟨0, by omega, rfl, by rw [HQ0.out]; exact HO7H.out, HB7.out⟩
      case round =>
        clear HO7H HB7
        obtain ⟨r, hr, rfl, hor, hbr⟩ := hrel
        have HOR : Hid _ := hor
        have HBR : Hid (Below w3.heap.size w3 wr) := hbr
        have kg2 : wr.cell? ⟨G, 2, none⟩ = some (.slice (some ⟨gb, 0, none⟩) m1 gc) := by rw [cell_of_row _ _ _ _ _ _ hor.cells]; rfl
        clear hor hbr
        by_cases hr12 : r < 12
        · have hrI : (r : Int) < 12 := by omega
          have hrI2 : ¬ (r : Int) < 0 := by omega
          have hft : (fs ++ [(⟨f.fn, (pc : Int), lfQ f.regs c.data m r⟩ : Fr)])[tp]? = some ⟨f.fn, (pc : Int), lfQ f.regs c.data m r⟩ := by rw [← HTP.out]; simp
          have cold : wr.cell? ⟨gb, tp * 14 + 2 + r, none⟩ = some (.int .i64 ((lfQ f.regs c.data m r).getD r 0)) := by
            have hx : r < (lfQ f.regs c.data m r).length := by rw [HQL.out r hr]; exact hr12
            have := HOR.out.range hft (2 + r) (.int .i64 ((lfQ f.regs c.data m r).getD r 0)) (by rw [Nat.add_comm]; show (i64s (lfQ f.regs c.data m r))[r]? = _; simp [i64s, List.getD, hx])
            rw [Nat.add_assoc]; exact this
          have hfz : wr.frozen? ⟨gb, tp * 14 + 2 + r, none⟩ = false := HOR.out.free _
          obtain ⟨HO8, hb8⟩ := HOR.out.frReg tp hft r hr12 0
          have hsl : ∀ g : Fr, (fs ++ [(⟨f.fn, (pc : Int), lfQ f.regs c.data m r⟩ : Fr)]).set tp g = fs ++ [g] := fun g => by rw [← HTP.out, set_last]
          simp only [hsl] at HO8
          have clv8 := (HKEEP.out _ (HBR.out.trans hb8)).2.2.1
          generalize (lfQ f.regs c.data m r).getD r 0 = old at *
          cases hb : m.testBit r
          · rw [HQS.out r hr12 0 (by rw [hb]; rfl)] at HO8
            have HO8H : Hid _ := HO8
            have HB8 : Hid (Below w3.heap.size w3 (wr.setCell ⟨gb, tp * 14 + 2 + r, none⟩ (.int .i64 0))) := HBR.out.trans hb8
            have hHB := HHB.out r false (wr.setCell ⟨gb, tp * 14 + 2 + r, none⟩ (.int .i64 0)) hr12 hb
            clear HO8 hb8 HOR hb hft hsl
            go_wp2_with (go_at_call 40; refine hHB.mono ?_; rintro e wq ⟨rfl, hwq⟩; replace hwq := hwq.symm; subst hwq)
            go_roundw
            case rel => exact ⟨r + 1, by omega, by go_num, HO8H.out, HB8.out⟩
            case measure => simp [intOf]; omega
          · have HB8 : Hid (Below w3.heap.size w3 (wr.setCell ⟨gb, tp * 14 + 2 + r, none⟩ (.int .i64 0))) := HBR.out.trans hb8
            have HO8H : Hid _ := HO8
            have hHB := HHB.out r true (wr.setCell ⟨gb, tp * 14 + 2 + r, none⟩ (.int .i64 0)) hr12 hb
            have HSS : Hid (((lfQ f.regs c.data m r).set r 0).set r (c.data.getD (16 + r) 0) = lfQ f.regs c.data m (r + 1)) := by show _ = _; rw [List.set_set]; exact HQS.out r hr12 _ (by rw [hb]; rfl)
            have kg28 : (wr.setCell ⟨gb, tp * 14 + 2 + r, none⟩ (.int .i64 0)).cell? ⟨G, 2, none⟩ = some (.slice (some ⟨gb, 0, none⟩) m1 gc) := by rw [cell_of_row _ _ _ _ _ _ HO8H.out.cells]; rfl
            clear HO8 hb8 HOR hb hft hsl
            go_upto_region 23 with (go_at_call 40; refine hHB.mono ?_; rintro e wq ⟨rfl, hwq⟩; replace hwq := hwq.symm; subst hwq)
            clear cold hfz kg2 clv8 hHB
            generalize (wr.setCell ⟨gb, tp * 14 + 2 + r, none⟩ (.int .i64 0)) = W8 at *
            have hft : (fs ++ [(⟨f.fn, (pc : Int), (lfQ f.regs c.data m r).set r 0⟩ : Fr)])[tp]? = some ⟨f.fn, (pc : Int), (lfQ f.regs c.data m r).set r 0⟩ := by rw [← HTP.out]; simp
            have cd : W8.cell? ⟨w.heap.size + 1 + 1, 33 + (16 + r), none⟩ = some (.int .i64 (c.data.getD (16 + r) 0)) := HRD.out _ _ (HKEEP.out W8 HB8.out).1 (16 + r) _ (HD.out (16 + r) (by omega))
            have cold : W8.cell? ⟨gb, tp * 14 + 2 + r, none⟩ = some (.int .i64 (((lfQ f.regs c.data m r).set r 0).getD r 0)) := by
              have := HO8H.out.range hft (2 + r) (.int .i64 (((lfQ f.regs c.data m r).set r 0).getD r 0)) (by rw [Nat.add_comm]; exact i64s_at (D := (lfQ f.regs c.data m r).set r 0) (n := 12) (by rw [List.length_set]; exact HQL.out r hr) hr12)
              rw [Nat.add_assoc]; exact this
            have hfz : W8.frozen? ⟨gb, tp * 14 + 2 + r, none⟩ = false := HO8H.out.free _
            obtain ⟨HO9, hb9⟩ := HO8H.out.frReg tp hft r hr12 (c.data.getD (16 + r) 0)
            have hsl : ∀ g : Fr, (fs ++ [(⟨f.fn, (pc : Int), (lfQ f.regs c.data m r).set r 0⟩ : Fr)]).set tp g = fs ++ [g] := fun g => by rw [← HTP.out, set_last]
            simp only [hsl, HSS.out] at HO9
            have hw16 : IntKind.i64.wrap (16 + (r : Int)) = ((16 + r : Nat) : Int) := by rw [show 16 + (r : Int) = ((16 + r : Nat) : Int) by omega]; exact wrap_fits _ (by omega) (by omega)
            obtain ⟨u, hu⟩ : ∃ u : Nat, u = 16 + r := ⟨_, rfl⟩
            rw [← hu] at hw16 cd
            rw [← hu] at HO9 hb9
            have hu64 : (u : Int) < 64 := by omega
            have hu64' : u < 64 := by omega
            have hu0 : ¬ (u : Int) < 0 := by omega
            generalize c.data.getD u 0 = new at *
            generalize ((lfQ f.regs c.data m r).set r 0).getD r 0 = old2 at *
            have HO9H : Hid _ := HO9
            have HB9 : Hid (Below w3.heap.size w3 (W8.setCell ⟨gb, tp * 14 + 2 + r, none⟩ (.int .i64 new))) := HB8.out.trans hb9
            clear HO9 hb9 hft hsl HSS hu
            refine wp_region_last (S := fun W => Below W8.heap.size W8 W) _ 12 (by kernel_rfl) (by kernel_rfl) rfl ((Below.refl _ _).drew) (fun hHeld => ?_)
            simp only [List.pop_toArray, List.dropLast]
            refine wpAnyH_take (i := 0) (v := ?_) rfl (by kernel_rfl) (by kernel_rfl) (by kernel_rfl) (fun _ _ _ h => h) (Or.inl ⟨by rfl, ?_⟩) (by assumption) ?_
            rotate_left
            · (intro W hSW; go_simp; try (with_reducible rfl))
            (try simp only [List.getElem_toArray, List.getElem_cons_succ, List.getElem_cons_zero])
            (try simp only [Act.put, List.setIfInBounds_toArray, List.set_cons_zero, List.set_cons_succ])
            refine wpAnyH_take (i := 1) (v := ?_) rfl (by kernel_rfl) (by kernel_rfl) (by kernel_rfl) (fun _ _ _ h => h) (Or.inl ⟨by rfl, ?_⟩) (by assumption) ?_
            rotate_left
            · (intro W hSW; have z0 := keeps_below hSW _ _ kg28; go_simp; try (with_reducible rfl))
            (try simp only [List.getElem_toArray, List.getElem_cons_succ, List.getElem_cons_zero])
            (try simp only [Act.put, List.setIfInBounds_toArray, List.set_cons_zero, List.set_cons_succ])
            refine wpAnyH_take (i := 2) (v := ?_) rfl (by kernel_rfl) (by kernel_rfl) (by kernel_rfl) (fun _ _ _ h => h) (Or.inl ⟨by rfl, ?_⟩) (by assumption) ?_
            rotate_left
            · (intro W hSW; go_simp; try (with_reducible rfl))
            (try simp only [List.getElem_toArray, List.getElem_cons_succ, List.getElem_cons_zero])
            (try simp only [Act.put, List.setIfInBounds_toArray, List.set_cons_zero, List.set_cons_succ])
            refine wpAnyH_take (i := 3) (v := ?_) rfl (by kernel_rfl) (by kernel_rfl) (by kernel_rfl) (fun _ _ _ h => h) (Or.inl ⟨by rfl, ?_⟩) (by assumption) ?_
            rotate_left
            · (intro W hSW; go_simp; try (with_reducible rfl))
            (try simp only [List.getElem_toArray, List.getElem_cons_succ, List.getElem_cons_zero])
            (try simp only [Act.put, List.setIfInBounds_toArray, List.set_cons_zero, List.set_cons_succ])
            refine wpAnyH_take (i := 4) (v := ?_) rfl (by kernel_rfl) (by kernel_rfl) (by kernel_rfl) (fun _ _ _ h => h) (Or.inl ⟨by rfl, ?_⟩) (by assumption) ?_
            rotate_left
            · (intro W hSW; go_simp; try (with_reducible rfl))
            (try simp only [List.getElem_toArray, List.getElem_cons_succ, List.getElem_cons_zero])
            (try simp only [Act.put, List.setIfInBounds_toArray, List.set_cons_zero, List.set_cons_succ])
            refine wpAnyH_take (i := 5) (v := ?_) rfl (by kernel_rfl) (by kernel_rfl) (by kernel_rfl) (fun _ _ _ h => h) (Or.inl ⟨by rfl, ?_⟩) (by assumption) ?_
            rotate_left
            · (intro W hSW; go_simp; try (with_reducible rfl))
            (try simp only [List.getElem_toArray, List.getElem_cons_succ, List.getElem_cons_zero])
            (try simp only [Act.put, List.setIfInBounds_toArray, List.set_cons_zero, List.set_cons_succ])
            refine wpAnyH_take (i := 6) (v := ?_) rfl (by kernel_rfl) (by kernel_rfl) (by kernel_rfl) (fun _ _ _ h => h) (Or.inl ⟨by rfl, ?_⟩) (by assumption) ?_
            rotate_left
            · (intro W hSW; go_simp; try (with_reducible rfl))
            (try simp only [List.getElem_toArray, List.getElem_cons_succ, List.getElem_cons_zero])
            (try simp only [Act.put, List.setIfInBounds_toArray, List.set_cons_zero, List.set_cons_succ])
            refine wpAnyH_take (i := 7) (v := ?_) rfl (by kernel_rfl) (by kernel_rfl) (by kernel_rfl) (fun _ _ _ h => h) (Or.inl ⟨by rfl, ?_⟩) (by assumption) ?_
            rotate_left
            · (intro W hSW; go_simp; try (with_reducible rfl))
            (try simp only [List.getElem_toArray, List.getElem_cons_succ, List.getElem_cons_zero])
            (try simp only [Act.put, List.setIfInBounds_toArray, List.set_cons_zero, List.set_cons_succ])
            refine wpAnyH_take (i := 8) (v := ?_) rfl (by kernel_rfl) (by kernel_rfl) (by kernel_rfl) (fun _ _ _ h => h) (Or.inl ⟨by rfl, ?_⟩) (by assumption) ?_
            rotate_left
            · (intro W hSW; have z0 := keeps_below hSW _ _ cd; go_simp; try (with_reducible rfl))
            (try simp only [List.getElem_toArray, List.getElem_cons_succ, List.getElem_cons_zero])
            (try simp only [Act.put, List.setIfInBounds_toArray, List.set_cons_zero, List.set_cons_succ])
            refine wpAnyH_take (i := 9) (v := ?_) rfl (by kernel_rfl) (by kernel_rfl) (by kernel_rfl) (fun _ _ _ h => h) (Or.inl ⟨by rfl, ?_⟩) (by assumption) ?_
            rotate_left
            · (intro W hSW; go_simp; try (with_reducible rfl))
            (try simp only [List.getElem_toArray, List.getElem_cons_succ, List.getElem_cons_zero])
            (try simp only [Act.put, List.setIfInBounds_toArray, List.set_cons_zero, List.set_cons_succ])
            refine wpAnyH_take (i := 10) (v := ?_) rfl (by kernel_rfl) (by kernel_rfl) (by kernel_rfl) (fun _ _ _ h => h) (Or.inl ⟨by rfl, ?_⟩) (by assumption) ?_
            rotate_left
            · (intro W hSW; go_simp; try (with_reducible rfl))
            (try simp only [List.getElem_toArray, List.getElem_cons_succ, List.getElem_cons_zero])
            (try simp only [Act.put, List.setIfInBounds_toArray, List.set_cons_zero, List.set_cons_succ])
            refine wpAnyH_take (i := 11) (v := ?_) rfl (by kernel_rfl) (by kernel_rfl) (by kernel_rfl) (fun _ _ _ h => h) (Or.inl ⟨by rfl, ?_⟩) (by assumption) ?_
            rotate_left
            · (intro W hSW; go_simp; try (with_reducible rfl))
            (try simp only [List.getElem_toArray, List.getElem_cons_succ, List.getElem_cons_zero])
            (try simp only [Act.put, List.setIfInBounds_toArray, List.set_cons_zero, List.set_cons_succ])
            refine wpAnyH_done (by kernel_rfl) ?_ _
            refine Or.inl ?_
            have cold8 : W8.drew.cell? ⟨gb, tp * 14 + 2 + r, none⟩ = some (.int .i64 old2) := cold
            have hfz8 : W8.drew.frozen? ⟨gb, tp * 14 + 2 + r, none⟩ = false := hfz
            have HO9D : Hid _ := HO9H.out.drew
            clear hHeld cold hfz kg28 cd
            go_simp
            go_upto_region 20 with fail
            rw [show (W8.setCell ⟨gb, tp * 14 + 2 + r, none⟩ (.int .i64 new)).drew = (W8.drew.setCell ⟨gb, tp * 14 + 2 + r, none⟩ (.int .i64 new)) from rfl]
            go_wp2
            go_roundw
            case rel => exact ⟨r + 1, by omega, by go_num, HO9D.out, HB9.out.drew⟩
            case measure => simp [intOf]; omega
        · obtain rfl : r = 12 := by omega
          have hx := HOR.out
          rw [HQA.out] at hx
          have hk3 := HKEEP.out wr HBR.out
          have x3 := hk3.2.1
          have r9 := hx.cells
          obtain ⟨csx, hcx, y1, y2, y3⟩ := hx.stp.at.val.cells
          obtain rfl := Value.agg.inj hcx
          have hgg : w.heap.size + 1 + 1 + 1 ≠ G := by have := hx.low; have := lt_of_block s2; have := hz1; have := HZ13.out; omega
          have HAV : Hid (∀ a n cp, av = .slice (some a) n cp → 0 < n → a.block ≠ w.heap.size + 1 + 1 + 1) := fun a n cp e hn => by have := hx.alow a n cp e hn; have := HZ13.out; omega
          have HX : Hid _ := hx
          have HB2 : Hid (Below w.heap.size w wr) := hk3.2.2.2
          have hwl : w.heap.size ≤ w3.heap.size := HBX.out.size
          clear hx hk3 hcx HOR kg2
          generalize hXX : (stCells { s with fuel := D28, mem := c.data.take 16, frames := fs ++ [⟨f.fn, (pc : Int), regsL c.data m⟩] } (.slice (some ⟨gb, 0, none⟩) m1 gc) ev av).toArray = XX at *
          have HXX : Hid _ := hXX
          clear hXX
          go_wp2_with (first
            | (refine wpList_load_row rfl _ _ rfl _ rfl _ _ _ _ r9 Tryd.underlying29 rfl y1 ?_)
            | (refine wpList_store_row rfl _ _ _ rfl _ XX rfl rfl _ _ x3 y1 y2 y3 ?_))
          try simp only [Exit.inBlock, Exit.then]
          refine bodyPost_ret (results_row_tmp rfl _ _ (w.heap.size + 1 + 1 + 1) 29 XX (0, 0) _ rfl (setRow_heap _ _ _ _ _ _ x3) Tryd.underlying29 rfl y1) rfl ⟨XX, rfl, ?_, belowSR HB2.out (by omega) _⟩
          rw [E9.out]
          have := ((HX.out.other x3 hgg HAV.out XX).stp).mono hwl
          rw [HXX.out] at this
          exact this
end Go.Proofs.YteabbanjjdmjkaaDoor
