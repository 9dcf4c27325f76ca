/- Contract of emit.Leave at every program, state and machine (written by gen/mkleave.py). -/
import Derived.Test.YteabbanjjdmjkaaDoorXEmitEnter
import Derived.Test.YteabbanjjdmjkaaDoorXLeaveKit
import Derived.Test.YteabbanjjdmjkaaDoorXLeftKit
import Derived.Test.YteabbanjjdmjkaaDoorGroupL
namespace Go.Proofs.YteabbanjjdmjkaaDoor
open Go Go.RowKit

/-- The state that a machine leaves. -/
def leftS (s : St) (fs : List Fr) (f : Fr) (D : List Int) (m : Nat) : St := { s with mem := D.take 16, fuel := D.getD 28 0, frames := fs ++ [⟨f.fn, D.getD 29 0, regsL D m⟩] }
theorem cp_range {c : Cp} (h : c.Ok) {w : World} {b : Nat} (hb : w.heap[b]? = some (.cells (cpuCells c).toArray 33 (0, 0))) : w.rangeAt b 33 (i64s c.data) := by
  intro j u hu
  have hj : j < (i64s c.data).length := (List.getElem?_eq_some_iff.1 hu).1
  have h32 : (i64s c.regs).length = 32 := by simp [i64s, h.r]
  rw [cell_of_row _ _ _ _ _ _ hb, List.getElem?_toArray]
  unfold cpuCells
  rw [List.getElem?_append_right (by omega), h32, show 33 + j - 32 = j + 1 by omega, List.getElem?_cons_succ, List.getElem?_append_left hj]
  exact hu
theorem i64s_at {D : List Int} {n k : Nat} (h : D.length = n) (hk : k < n) : (i64s D)[k]? = some (.int .i64 (D.getD k 0)) := by simp [i64s, List.getD, show k < D.length by omega]
/-- The memory is put into a state's cells. -/
theorem splice_mem (s : St) (fv ev av : Value) (hm : s.mem.length = 16) (M : List Int) (hM : M.length = 16) : (splice (stCells s fv ev av).toArray.toList 3 (i64s M)).toArray = (stCells { s with mem := M } fv ev av).toArray := by
  congr 1
  simp only []
  unfold splice stCells
  have e1 : (i64s s.mem).length = 16 := by simp [i64s, hm]
  have e2 : (i64s M).length = 16 := by simp [i64s, hM]
  rw [e2]
  simp only [List.cons_append, List.nil_append]
  have e3 : List.drop (3 + 16) (Value.int .i64 s.status :: Value.int .i64 s.value :: fv :: (i64s s.mem ++ [.int .i64 s.fuel, ev, av])) = [.int .i64 s.fuel, ev, av] := by
    show List.drop 16 (i64s s.mem ++ [.int .i64 s.fuel, ev, av]) = _
    exact List.drop_left' e1
  rw [e3]; rfl

set_option maxRecDepth 100000 in
set_option maxHeartbeats 8000000 in
theorem leave_ok (P : List Fn) (v sv : Value) (s : St) (f : Fr) (fs : List Fr) (c : Cp) (m : Nat) (w : World) (ht : TabOk w) (hc : CallOk w) (hR : ProofAns P 0) (hm : mayB s = true) (hf : FOk P s.frames) (hv : ProgVal w v P) (hs : StVal w sv s) (he : s.events.length * 8 ≤ 140737488351232) (hst : s.status = 0) (hfr : s.frames = fs ++ [f]) (hcp : c.Ok)
    (hlk : leaveOk c.data (liveL P f.fn.toNat) s.fuel) (hml : (liveL P f.fn.toNat).getD (c.data.getD 29 0).toNat 0 = (m : Int)) (hm4 : m < 4096) :
    Calls Tryd.prog 10 #[.agg #[v], sv, c.val] w fun e w' => OwnPost w (leftS s fs f c.data m) e w' := by
  have HC : Hid (∀ W, Below w.heap.size w W → Calls Tryd.prog 32 #[.agg #[v], sv] W fun e w' => ∃ cs, e = .returned (.tuple #[.agg cs, .int .i64 0]) ∧ (Tryd.prog.info? 29).map (·.size) = some cs.size ∧ zeroStCells.size = cs.size ∧ cs.all (·.oneCell') = true ∧ StP w' W.heap.size (.agg cs) s ∧ Below W.heap.size W w') := fun W hb =>
    running_ok P v sv s _ (ht.below hb) (hc.below hb) hR hm hf (hv.keeps (keeps_below hb)) (hs.keeps (keeps_below hb)) he hst
  obtain ⟨k, hk, hfn⟩ : ∃ k : Nat, k < P.length ∧ f.fn = k := by
    have hp := ((fok_snoc P fs f).1 (by rw [← hfr]; exact hf)).2.1
    obtain ⟨k, j, hk, hj, e1, e2, e3, e4⟩ := place_nat hp
    exact ⟨k, hk, e1⟩
  have hkk : f.fn.toNat = k := by omega
  rw [hkk] at hlk hml
  have HLV : Hid (∀ W, Below w.heap.size w W → Calls Tryd.prog 18 #[.agg #[v], .int .i64 f.fn] W fun e w' => ∃ v', e = .returned (.tuple #[v', .int .i64 0]) ∧ IntsVal w' v' (liveL P k) ∧ (∀ a n c, v' = .slice (some a) n c → W.heap.size ≤ a.block) ∧ Below W.heap.size W w') := fun W hb => by
    rw [hfn]
    refine (Live_low P hR k hk v W (ht.below hb) (hc.below hb) (hv.keeps (keeps_below hb))).mono ?_
    rintro e w' ⟨v', L, rfl, hL, hI, hlo, hb'⟩
    rw [liveL_eq hk hL] at hI
    exact ⟨v', rfl, hI, hlo, hb'⟩
  have HML : Hid (∀ W vl, IntsVal W vl (liveL P k) → Calls Tryd.prog 34 #[.agg (i64s c.data).toArray, vl, .int .i64 s.fuel] W fun e w' => e = .returned (.bool true) ∧ Below W.heap.size W w') := fun W vl h => mayLeave_any c.data (liveL P k) s.fuel true ⟨fun _ => hlk, fun _ => rfl⟩ vl hcp.d W h
  have HRO : Hid (∀ W, Calls Tryd.prog 35 #[.agg (i64s c.data).toArray, .int .i64 (m : Int)] W fun e w' => e = .returned (.agg (i64s (regsL c.data m)).toArray) ∧ Below W.heap.size W w') := fun W => regsOf_any c.data m hcp.d hm4 W
  have HLS : Hid (s.mem.length = 16) := by obtain ⟨_, _, _, _, h, -⟩ := hs; exact h
  obtain ⟨ao, n0, cap0, rfl⟩ := hv.shape
  obtain ⟨cs, rfl, hsz, hs2, -⟩ := hs.cells
  have hlen : s.frames.length = fs.length + 1 := by rw [hfr]; simp
  have hfi : s.frames[fs.length]? = some f := by rw [hfr]; simp
  have HRD : Hid (∀ (W : World) b, W.heap[b]? = some (.cells (cpuCells c).toArray 33 (0, 0)) → W.rangeAt b 33 (i64s c.data)) := fun W b h => cp_range hcp h
  have HD : Hid (∀ q, q < 64 → (i64s c.data)[q]? = some (.int .i64 (c.data.getD q 0))) := fun q hq => i64s_at hcp.d hq
  have hD64 : (i64s c.data).length = 64 := by simp [i64s, hcp.d]
  have i64 : (Tryd.prog.info? 31).map (·.size) = some (i64s c.data).length := by rw [hD64]; exact infoD64
  have i12 : (Tryd.prog.info? 52).map (·.size) = some (i64s (regsL c.data m)).toArray.size := by rw [List.size_toArray]; simp only [i64s, List.length_map, regsL_len]; exact infoR12
  have o12 : (i64s (regsL c.data m)).toArray.all (·.oneCell') = true := all_oneCell_toArray (i64s_one _)
  unfold leaveOk at hlk
  obtain ⟨p0, p1, p2, p3, p4⟩ := hlk
  have HP : Hid (c.data.getD 29 0 < (liveL P k).length) := p1
  have HDL : Hid (c.data.length = 64) := hcp.d
  clear ht hc hv hs hR hm hf he hst hm4 p2 p3 p4 p1 hcp hfn hkk
  unfold Cp.val
  generalize hLL : liveL P k = L at *
  obtain ⟨pc, hpc⟩ := Int.eq_ofNat_of_zero_le p0
  rw [hpc, Int.toNat_natCast] at hml
  generalize hCC : cpuCells c = CC at *
  go_enter Tryd.func10, Tryd.ntmps10
  go_upto_region 1 with fail
  rw [show (#[.int .i64 0, .int .i64 0, .slice none 0 0, .int .i64 0, .int .i64 0, .int .i64 0, .int .i64 0, .int .i64 0, .int .i64 0, .int .i64 0, .int .i64 0, .int .i64 0, .int .i64 0, .int .i64 0, .int .i64 0, .int .i64 0, .int .i64 0, .int .i64 0, .int .i64 0, .int .i64 0, .slice none 0 0, .slice none 0 0] : Array Value) = zeroStCells from rfl]
  have r0 : ((((w.alloc (.cells #[.slice ao n0 cap0] 24)).alloc (.cells cs 29)).alloc (.cells CC.toArray 33)).alloc (.cells zeroStCells 29)).heap[w.heap.size]? = some (.cells #[.slice ao n0 cap0] 24 (0, 0)) := heap_alloc_old _ _ (by simp <;> omega) |>.trans (heap_alloc_old _ _ (by simp <;> omega) |>.trans (heap_alloc2_old _ _ _))
  have r1 : ((((w.alloc (.cells #[.slice ao n0 cap0] 24)).alloc (.cells cs 29)).alloc (.cells CC.toArray 33)).alloc (.cells zeroStCells 29)).heap[w.heap.size + 1]? = some (.cells cs 29 (0, 0)) := heap_alloc_old _ _ (by simp <;> omega) |>.trans (heap_alloc_old _ _ (by simp) |>.trans (heap_alloc2_new _ _ _))
  have r2 : ((((w.alloc (.cells #[.slice ao n0 cap0] 24)).alloc (.cells cs 29)).alloc (.cells CC.toArray 33)).alloc (.cells zeroStCells 29)).heap[w.heap.size + 1 + 1]? = some (.cells CC.toArray 33 (0, 0)) := heap_alloc_old _ _ (by simp) |>.trans (heap_alloc3_new _ _ _ _)
  have r3 : ((((w.alloc (.cells #[.slice ao n0 cap0] 24)).alloc (.cells cs 29)).alloc (.cells CC.toArray 33)).alloc (.cells zeroStCells 29)).heap[w.heap.size + 1 + 1 + 1]? = some (.cells zeroStCells 29 (0, 0)) := by
    have := heap_alloc_last (((w.alloc (.cells #[.slice ao n0 cap0] 24)).alloc (.cells cs 29)).alloc (.cells CC.toArray 33)) (.cells zeroStCells 29)
    simpa using this
  have HB0 : Hid (Below w.heap.size w ((((w.alloc (.cells #[.slice ao n0 cap0] 24)).alloc (.cells cs 29)).alloc (.cells CC.toArray 33)).alloc (.cells zeroStCells 29))) := ((((Below.refl _ _).alloc (Nat.le_refl _) _).alloc (by simp) _).alloc (by simp <;> omega) _).alloc (by simp <;> omega) _
  generalize ((((w.alloc (.cells #[.slice ao n0 cap0] 24)).alloc (.cells cs 29)).alloc (.cells CC.toArray 33)).alloc (.cells zeroStCells 29)) = W0 at *
  have hz0 := lt_of_block r3
  have kp0 : W0.cell? ⟨w.heap.size, 0, none⟩ = some (.slice ao n0 cap0) := by rw [cell_of_row _ _ _ _ _ _ r0]; rfl
  go_upto_region 2 with (first
    | (refine wpList_load_row rfl _ _ rfl _ rfl _ _ _ _ r1 Tryd.underlying29 rfl hsz ?_)
    | (go_at_call 32; refine (HC.out _ HB0.out).mono ?_; rintro e w1 ⟨cs1, rfl, a1, a2, a3, hst1, hb1⟩; have s1 := (hb1.block _ (lt_of_block r1)).trans r1)
    | (refine wpList_store_row rfl _ _ _ rfl _ cs1 rfl rfl _ _ s1 a1 (hs2.symm.trans a2) a3 ?_))
  have q1 := setRow_heap w1 (w.heap.size + 1) _ cs1 _ _ s1
  have q0 := ((setRow_other w1 (w.heap.size + 1) cs1 w.heap.size (by omega)).trans (hb1.block _ (by omega))).trans r0
  have q2 := ((setRow_other w1 (w.heap.size + 1) cs1 (w.heap.size + 1 + 1) (by omega)).trans (hb1.block _ (by omega))).trans r2
  have q3 := ((setRow_other w1 (w.heap.size + 1) cs1 (w.heap.size + 1 + 1 + 1) (by omega)).trans (hb1.block _ (by omega))).trans r3
  have HB1 : Hid (Below w.heap.size w (w1.setRow (w.heap.size + 1) cs1)) := belowSR (HB0.out.trans (hb1.mono HB0.out.size)) (by omega) _
  obtain ⟨fv, ev, av, hcs, HO, hlav⟩ := StP.out (B := w.heap.size) (hst1.setRow (r := w.heap.size + 1) (by omega) cs1) (by omega) (by omega) q1
  have HAV : Hid (∀ a n cp, av = .slice (some a) n cp → 0 < n → a.block ≠ w.heap.size + 1 + 1 + 1) := fun a n cp e hn => by have := hlav a n cp e hn; omega
  clear hst1 hb1 s1 r0 r1 r2 r3 HC HB0 hlav
  obtain ⟨fb, cap, rfl, f1, f2, f3, f4, f5⟩ := HO.box (i := fs.length) (by omega)
  rw [hlen] at HO f1 hcs
  have HLA : Hid (∀ W, Calls Tryd.prog 33 #[.agg cs1] W fun e w' => e = .returned (.pointer (some ⟨fb, fs.length * 14, none⟩)) ∧ Below W.heap.size W w') := fun W => by
    rw [hcs]
    have := lastE_any s fb 0 fs.length cap ev av W f1 f2
    rw [Nat.zero_add] at this
    exact this
  generalize w1.setRow (w.heap.size + 1) cs1 = W1 at *
  have HCS : Hid _ := hcs
  have HOH : Hid _ := HO
  clear hcs HO
  go_upto_region 5 with (first
    | (refine wpList_load_row rfl _ _ rfl _ rfl _ _ _ _ q1 Tryd.underlying29 rfl a1 ?_)
    | (go_at_call 33; refine (HLA.out _).mono ?_; rintro e w2 ⟨rfl, hb2⟩; have HO2 : Hid (OutAt w2 w.heap.size (w.heap.size + 1) s (.slice (some ⟨fb, 0, none⟩) (fs.length + 1) cap) ev av) := HOH.out.below hb2))
  have r0 := (hb2.block _ (lt_of_block q0)).trans q0
  have r1 := (hb2.block _ (lt_of_block q1)).trans q1
  have r2 := (hb2.block _ (lt_of_block q2)).trans q2
  have r3 := (hb2.block _ (lt_of_block q3)).trans q3
  have HB2 : Hid (Below w.heap.size w w2) := HB1.out.trans (hb2.mono HB1.out.size)
  have kp : w2.cell? ⟨w.heap.size, 0, none⟩ = some (.slice ao n0 cap0) := by rw [cell_of_row _ _ _ _ _ _ r0]; rfl
  have kf : w2.cell? ⟨fb, fs.length * 14, none⟩ = some (.int .i64 f.fn) := HO2.out.range hfi 0 _ rfl
  have hfb2 : fb < w2.heap.size := Nat.lt_of_lt_of_le f4 hb2.size
  clear HOH hb2 q0 q1 q2 q3 HB1 HLA
  refine wp_region_held_drew (S := fun W => Below w2.heap.size w2 W) (by kernel_rfl) ((Below.refl _ _).drew) (fun hHeld => ?_)
  show wpAnyH _ _ _ _ _ 11 _ _ _
  refine wpAnyH_take (i := 0) (v := ?_) rfl (by kernel_rfl) (by kernel_rfl) (by kernel_rfl) (fun _ _ _ h => h) (Or.inl ⟨by rfl, ?_⟩) (by assumption) ?_
  rotate_left
  · (intro W hSW; have z0 := keeps_below hSW _ _ kp; go_simp; try (with_reducible rfl))
  (try simp only [List.getElem_toArray, List.getElem_cons_zero])
  (try simp only [Act.put, List.setIfInBounds_toArray, List.set_cons_zero, List.set_cons_succ])
  refine wpAnyH_take (i := 1) (v := ?_) rfl (by kernel_rfl) (by kernel_rfl) (by kernel_rfl) (fun _ _ _ h => h) (Or.inl ⟨by rfl, ?_⟩) (by assumption) ?_
  rotate_left
  · (intro W hSW; go_simp; try (with_reducible rfl))
  (try simp only [List.getElem_toArray, List.getElem_cons_succ, List.getElem_cons_zero])
  (try simp only [Act.put, List.setIfInBounds_toArray, List.set_cons_zero, List.set_cons_succ])
  refine wpAnyH_take (i := 2) (v := ?_) rfl (by kernel_rfl) (by kernel_rfl) (by kernel_rfl) (fun _ _ _ h => h) (Or.inl ⟨by rfl, ?_⟩) (by assumption) ?_
  rotate_left
  · (intro W hSW; go_simp; try (with_reducible rfl))
  (try simp only [List.getElem_toArray, List.getElem_cons_succ, List.getElem_cons_zero])
  (try simp only [Act.put, List.setIfInBounds_toArray, List.set_cons_zero, List.set_cons_succ])
  refine wpAnyH_take (i := 3) (v := ?_) rfl (by kernel_rfl) (by kernel_rfl) (by kernel_rfl) (fun _ _ _ h => h) (Or.inl ⟨by rfl, ?_⟩) (by assumption) ?_
  rotate_left
  · (intro W hSW; go_simp; try (with_reducible rfl))
  (try simp only [List.getElem_toArray, List.getElem_cons_succ, List.getElem_cons_zero])
  (try simp only [Act.put, List.setIfInBounds_toArray, List.set_cons_zero, List.set_cons_succ])
  refine wpAnyH_take (i := 4) (v := ?_) rfl (by kernel_rfl) (by kernel_rfl) (by kernel_rfl) (fun _ _ _ h => h) (Or.inl ⟨by rfl, ?_⟩) (by assumption) ?_
  rotate_left
  · (intro W hSW; have z0 := keeps_below hSW _ _ kf; go_simp; try (with_reducible rfl))
  (try simp only [List.getElem_toArray, List.getElem_cons_succ, List.getElem_cons_zero])
  (try simp only [Act.put, List.setIfInBounds_toArray, List.set_cons_zero, List.set_cons_succ])
  refine wpAnyH_ready (rs := [5]) (by kernel_rfl) (by simp) ?_
  refine AllReadyH.cons rfl (fun K hK => ?_) AllReadyH.nil
  go_simp
  go_at_call 18
  refine (HLV.out _ HB2.out.drew).mono ?_
  rintro e w3 ⟨v3, rfl, hI3, hlo3, hb3⟩
  obtain ⟨al, b3, o3, n3, c3, rfl, hl3, hal, -, -, -⟩ := ints_get hI3
  obtain rfl := hal (by have := HP.out; rw [hpc] at this; omega)
  have hfb3n : fb ≠ b3 := Nat.ne_of_lt (Nat.lt_of_lt_of_le hfb2 (hlo3 _ _ _ rfl))
  clear hlo3 hal
  have hb23 : Below w2.heap.size w2 w3 := Below.trans hHeld (Below.mono hb3 (Below.size hHeld))
  dsimp only
  refine hK.out _ _ hb23 (fun _ => ?_)
  clear hK K hHeld
  (try simp only [Act.put, List.setIfInBounds_toArray, List.set_cons_zero, List.set_cons_succ])
  refine wpAnyH_take (i := 6) (v := ?_) rfl (by kernel_rfl) (by kernel_rfl) (by kernel_rfl) (fun _ _ _ h => h) (Or.inl ⟨by rfl, ?_⟩) hb23 ?_
  rotate_left
  · (intro W hSW; go_simp; try (with_reducible rfl))
  (try simp only [List.getElem_toArray, List.getElem_cons_succ, List.getElem_cons_zero])
  (try simp only [Act.put, List.setIfInBounds_toArray, List.set_cons_zero, List.set_cons_succ])
  refine wpAnyH_take (i := 7) (v := ?_) rfl (by kernel_rfl) (by kernel_rfl) (by kernel_rfl) (fun _ _ _ h => h) (Or.inl ⟨by rfl, ?_⟩) hb23 ?_
  rotate_left
  · (intro W hSW; go_simp; try (with_reducible rfl))
  (try simp only [List.getElem_toArray, List.getElem_cons_succ, List.getElem_cons_zero])
  (try simp only [Act.put, List.setIfInBounds_toArray, List.set_cons_zero, List.set_cons_succ])
  refine wpAnyH_take (i := 8) (v := ?_) rfl (by kernel_rfl) (by kernel_rfl) (by kernel_rfl) (fun _ _ _ h => h) (Or.inl ⟨by rfl, ?_⟩) hb23 ?_
  rotate_left
  · (intro W hSW; go_simp; try (with_reducible rfl))
  (try simp only [List.getElem_toArray, List.getElem_cons_succ, List.getElem_cons_zero])
  (try simp only [Act.put, List.setIfInBounds_toArray, List.set_cons_zero, List.set_cons_succ])
  refine wpAnyH_take (i := 9) (v := ?_) rfl (by kernel_rfl) (by kernel_rfl) (by kernel_rfl) (fun _ _ _ h => h) (Or.inl ⟨by rfl, ?_⟩) hb23 ?_
  rotate_left
  · (intro W hSW; go_simp; try (with_reducible rfl))
  (try simp only [List.getElem_toArray, List.getElem_cons_succ, List.getElem_cons_zero])
  (try simp only [Act.put, List.setIfInBounds_toArray, List.set_cons_zero, List.set_cons_succ])
  refine wpAnyH_take (i := 10) (v := ?_) rfl (by kernel_rfl) (by kernel_rfl) (by kernel_rfl) (fun _ _ _ h => h) (Or.inl ⟨by rfl, ?_⟩) hb23 ?_
  rotate_left
  · (intro W hSW; go_simp; try (with_reducible rfl))
  (try simp only [List.getElem_toArray, List.getElem_cons_succ, List.getElem_cons_zero])
  (try simp only [Act.put, List.setIfInBounds_toArray, List.set_cons_zero, List.set_cons_succ])
  refine wpAnyH_done (by kernel_rfl) ?_ _
  (try simp only [Act.put])
  have HI3 : Hid (IntsVal w3 (.slice (some ⟨b3, o3, none⟩) n3 c3) L) := hI3
  have s0 := (hb23.block _ (lt_of_block r0)).trans r0
  have s1 := (hb23.block _ (lt_of_block r1)).trans r1
  have s2 := (hb23.block _ (lt_of_block r2)).trans r2
  have s3 := (hb23.block _ (lt_of_block r3)).trans r3
  have HO3 : Hid (OutAt w3 w.heap.size (w.heap.size + 1) s (.slice (some ⟨fb, 0, none⟩) (fs.length + 1) cap) ev av) := HO2.out.below hb23
  have HB3 : Hid (Below w.heap.size w w3) := HB2.out.trans (hb23.mono HB2.out.size)
  have hfb3 : fb < w3.heap.size := Nat.lt_of_lt_of_le hfb2 hb23.size
  have kfu : w3.cell? ⟨w.heap.size + 1, 19, none⟩ = some (.int .i64 s.fuel) := by rw [cell_of_row _ _ _ _ _ _ s1, HCS.out]; simpa using stC_tail _ _ _ HLS.out 0
  have hrd := HRD.out _ _ s2
  clear HO2 hI3 hb3 hb23 r0 r1 r2 r3 HB2 kp kf
  go_upto_region 8 with (first
    | (refine wpList_load_mid rfl 31 (.tmp 33) rfl (w.heap.size + 1 + 1) 33 rfl (i64s c.data) _ hrd Tryd.underlying31 rfl i64 ?_)
    | (go_at_call 34; refine (HML.out _ _ HI3.out).mono ?_; rintro e w4 ⟨rfl, hb4⟩))
  have HI4 : Hid (IntsVal w4 (.slice (some ⟨b3, o3, none⟩) n3 c3) L) := HI3.out.keeps (keeps_below hb4)
  have r1 := (hb4.block _ (lt_of_block s1)).trans s1
  have r2 := (hb4.block _ (lt_of_block s2)).trans s2
  have r3 := (hb4.block _ (lt_of_block s3)).trans s3
  have HO4 : Hid (OutAt w4 w.heap.size (w.heap.size + 1) s (.slice (some ⟨fb, 0, none⟩) (fs.length + 1) cap) ev av) := HO3.out.below hb4
  have HB4 : Hid (Below w.heap.size w w4) := HB3.out.trans (hb4.mono HB3.out.size)
  have hfb4 : fb < w4.heap.size := Nat.lt_of_lt_of_le hfb3 hb4.size
  clear HO3 hb4 s0 s1 s2 s3 HB3 HI3 kfu hrd
  have c29 : w4.cell? ⟨w.heap.size + 1 + 1, 33 + 29, none⟩ = some (.int .i64 (pc : Int)) := by have := HRD.out _ _ r2 29 _ (HD.out 29 (by omega)); rw [hpc] at this; exact this
  have cf1 : w4.cell? ⟨fb, fs.length * 14 + 1, none⟩ = some (.int .i64 f.pc) := HO4.out.range hfi 1 _ rfl
  have ff1 : w4.frozen? ⟨fb, fs.length * 14 + 1, none⟩ = false := HO4.out.free _
  obtain ⟨HO5, hb5⟩ := HO4.out.frPc fs.length hfi (pc : Int)
  have t1 : (w4.setCell ⟨fb, fs.length * 14 + 1, none⟩ (.int .i64 (pc : Int))).heap[w.heap.size + 1]? = some (.cells cs1 29 (0, 0)) := (heap_setCell_other _ _ _ _ (fun e => f5 e.symm)).trans r1
  have hne2 : fb ≠ w.heap.size + 1 + 1 := fun e => by have h := HO4.out.frames; exact absurd (block_ne_own h r2 (by decide)) (by simp [Value.ownBlock, e])
  have hne3 : fb ≠ w.heap.size + 1 + 1 + 1 := fun e => by have h := HO4.out.frames; exact absurd (block_ne_own h r3 (by decide)) (by simp [Value.ownBlock, e])
  have t2 : (w4.setCell ⟨fb, fs.length * 14 + 1, none⟩ (.int .i64 (pc : Int))).heap[w.heap.size + 1 + 1]? = some (.cells CC.toArray 33 (0, 0)) := (heap_setCell_other _ _ _ _ (fun e => hne2 e.symm)).trans r2
  have t3 : (w4.setCell ⟨fb, fs.length * 14 + 1, none⟩ (.int .i64 (pc : Int))).heap[w.heap.size + 1 + 1 + 1]? = some (.cells zeroStCells 29 (0, 0)) := (heap_setCell_other _ _ _ _ (fun e => hne3 e.symm)).trans r3
  have HB5 : Hid (Below w.heap.size w (w4.setCell ⟨fb, fs.length * 14 + 1, none⟩ (.int .i64 (pc : Int)))) := HB4.out.trans hb5
  have HI5 : Hid (IntsVal (w4.setCell ⟨fb, fs.length * 14 + 1, none⟩ (.int .i64 (pc : Int))) (.slice (some ⟨b3, o3, none⟩) n3 c3) L) := ints_setCell HI4.out _ (fun a n cp e _ h => by cases e; exact hfb3n h.symm)
  have hfb5 : fb < (w4.setCell ⟨fb, fs.length * 14 + 1, none⟩ (.int .i64 (pc : Int))).heap.size := Nat.lt_of_lt_of_le hfb4 hb5.size
  go_upto_region 9 with fail
  generalize (w4.setCell ⟨fb, fs.length * 14 + 1, none⟩ (.int .i64 (pc : Int))) = w5 at *
  rw [hfr, set_last] at HO5
  have HO5H : Hid _ := HO5
  clear HO4 hb5 r1 r2 r3 HB4 c29 cf1 ff1 HO5 HI4
  have hpl : pc < L.length := by have := HP.out; rw [hpc] at this; omega
  have hpn : (pc : Int) < (n3 : Int) := by omega
  have hpn2 : pc < n3 := by omega
  have cpc : w5.cell? ⟨fb, fs.length * 14 + 1, none⟩ = some (.int .i64 (pc : Int)) := HO5H.out.range (i := fs.length) (f := ⟨f.fn, pc, f.regs⟩) (by simp) 1 _ rfl
  have clv : w5.cell? ⟨b3, o3 + pc, none⟩ = some (.int .i64 (m : Int)) := by have := ints_cell HI5.out pc hpl; rw [hml] at this; exact this
  refine wp_region_last (S := fun W => Below w5.heap.size w5 W) _ 13 (by kernel_rfl) (by kernel_rfl) rfl ((Below.refl _ _).drew) (fun hHeld => ?_)
  simp only [List.pop_toArray, List.dropLast]
  refine wpAnyH_take (i := 0) (v := ?_) rfl (by kernel_rfl) (by kernel_rfl) (by kernel_rfl) (fun _ _ _ h => h) (Or.inl ⟨by rfl, ?_⟩) (by assumption) ?_
  rotate_left
  · (intro W hSW; go_simp; try (with_reducible rfl))
  (try simp only [List.getElem_toArray, List.getElem_cons_succ, List.getElem_cons_zero])
  (try simp only [Act.put, List.setIfInBounds_toArray, List.set_cons_zero, List.set_cons_succ])
  refine wpAnyH_take (i := 1) (v := ?_) rfl (by kernel_rfl) (by kernel_rfl) (by kernel_rfl) (fun _ _ _ h => h) (Or.inl ⟨by rfl, ?_⟩) (by assumption) ?_
  rotate_left
  · (intro W hSW; go_simp; try (with_reducible rfl))
  (try simp only [List.getElem_toArray, List.getElem_cons_succ, List.getElem_cons_zero])
  (try simp only [Act.put, List.setIfInBounds_toArray, List.set_cons_zero, List.set_cons_succ])
  refine wpAnyH_take (i := 2) (v := .agg (i64s c.data).toArray) rfl (by kernel_rfl) (by kernel_rfl) (by kernel_rfl) (fun _ _ _ h => h) (yieldsIf_load_mid (by rfl) 31 _ rfl (w.heap.size + 1 + 1) 33 rfl (i64s c.data) _ (fun W hSW => HRD.out W _ ((Below.block hSW _ (lt_of_block t2)).trans t2)) Tryd.underlying31 rfl i64) (by assumption) ?_
  (try simp only [List.getElem_toArray, List.getElem_cons_succ, List.getElem_cons_zero])
  (try simp only [Act.put, List.setIfInBounds_toArray, List.set_cons_zero, List.set_cons_succ])
  refine wpAnyH_take (i := 3) (v := ?_) rfl (by kernel_rfl) (by kernel_rfl) (by kernel_rfl) (fun _ _ _ h => h) (Or.inl ⟨by rfl, ?_⟩) (by assumption) ?_
  rotate_left
  · (intro W hSW; go_simp; try (with_reducible rfl))
  (try simp only [List.getElem_toArray, List.getElem_cons_succ, List.getElem_cons_zero])
  (try simp only [Act.put, List.setIfInBounds_toArray, List.set_cons_zero, List.set_cons_succ])
  refine wpAnyH_take (i := 4) (v := ?_) rfl (by kernel_rfl) (by kernel_rfl) (by kernel_rfl) (fun _ _ _ h => h) (Or.inl ⟨by rfl, ?_⟩) (by assumption) ?_
  rotate_left
  · (intro W hSW; go_simp; try (with_reducible rfl))
  (try simp only [List.getElem_toArray, List.getElem_cons_succ, List.getElem_cons_zero])
  (try simp only [Act.put, List.setIfInBounds_toArray, List.set_cons_zero, List.set_cons_succ])
  refine wpAnyH_take (i := 5) (v := ?_) rfl (by kernel_rfl) (by kernel_rfl) (by kernel_rfl) (fun _ _ _ h => h) (Or.inl ⟨by rfl, ?_⟩) (by assumption) ?_
  rotate_left
  · (intro W hSW; go_simp; try (with_reducible rfl))
  (try simp only [List.getElem_toArray, List.getElem_cons_succ, List.getElem_cons_zero])
  (try simp only [Act.put, List.setIfInBounds_toArray, List.set_cons_zero, List.set_cons_succ])
  refine wpAnyH_take (i := 6) (v := ?_) rfl (by kernel_rfl) (by kernel_rfl) (by kernel_rfl) (fun _ _ _ h => h) (Or.inl ⟨by rfl, ?_⟩) (by assumption) ?_
  rotate_left
  · (intro W hSW; go_simp; try (with_reducible rfl))
  (try simp only [List.getElem_toArray, List.getElem_cons_succ, List.getElem_cons_zero])
  (try simp only [Act.put, List.setIfInBounds_toArray, List.set_cons_zero, List.set_cons_succ])
  refine wpAnyH_take (i := 7) (v := ?_) rfl (by kernel_rfl) (by kernel_rfl) (by kernel_rfl) (fun _ _ _ h => h) (Or.inl ⟨by rfl, ?_⟩) (by assumption) ?_
  rotate_left
  · (intro W hSW; have z0 := keeps_below hSW _ _ cpc; go_simp; try (with_reducible rfl))
  (try simp only [List.getElem_toArray, List.getElem_cons_succ, List.getElem_cons_zero])
  (try simp only [Act.put, List.setIfInBounds_toArray, List.set_cons_zero, List.set_cons_succ])
  refine wpAnyH_take (i := 8) (v := ?_) rfl (by kernel_rfl) (by kernel_rfl) (by kernel_rfl) (fun _ _ _ h => h) (Or.inl ⟨by rfl, ?_⟩) (by assumption) ?_
  rotate_left
  · (intro W hSW; go_simp; try (with_reducible rfl))
  (try simp only [List.getElem_toArray, List.getElem_cons_succ, List.getElem_cons_zero])
  (try simp only [Act.put, List.setIfInBounds_toArray, List.set_cons_zero, List.set_cons_succ])
  refine wpAnyH_take (i := 9) (v := ?_) rfl (by kernel_rfl) (by kernel_rfl) (by kernel_rfl) (fun _ _ _ h => h) (Or.inl ⟨by rfl, ?_⟩) (by assumption) ?_
  rotate_left
  · (intro W hSW; have z0 := keeps_below hSW _ _ clv; go_simp; try (with_reducible rfl))
  (try simp only [List.getElem_toArray, List.getElem_cons_succ, List.getElem_cons_zero])
  (try simp only [Act.put, List.setIfInBounds_toArray, List.set_cons_zero, List.set_cons_succ])
  refine wpAnyH_ready (rs := [10]) (by kernel_rfl) (by simp) ?_
  refine AllReadyH.cons rfl (fun K hK => ?_) AllReadyH.nil
  go_simp
  go_at_call 35
  refine (HRO.out _).mono ?_
  rintro e w6 ⟨rfl, hb6⟩
  have hb56 : Below w5.heap.size w5 w6 := Below.trans hHeld (Below.mono hb6 (Below.size hHeld))
  dsimp only
  refine hK.out _ _ hb56 (fun _ => ?_)
  clear hK K hHeld
  (try simp only [Act.put, List.setIfInBounds_toArray, List.set_cons_zero, List.set_cons_succ])
  refine wpAnyH_take (i := 11) (v := ?_) rfl (by kernel_rfl) (by kernel_rfl) (by kernel_rfl) (fun _ _ _ h => h) (Or.inl ⟨by rfl, ?_⟩) hb56 ?_
  rotate_left
  · (intro W hSW; go_simp; try (with_reducible rfl))
  (try simp only [List.getElem_toArray, List.getElem_cons_succ, List.getElem_cons_zero])
  (try simp only [Act.put, List.setIfInBounds_toArray, List.set_cons_zero, List.set_cons_succ])
  refine wpAnyH_take (i := 12) (v := ?_) rfl (by kernel_rfl) (by kernel_rfl) (by kernel_rfl) (fun _ _ _ h => h) (Or.inl ⟨by rfl, ?_⟩) hb56 ?_
  rotate_left
  · (intro W hSW; go_simp; try (with_reducible rfl))
  (try simp only [List.getElem_toArray, List.getElem_cons_succ, List.getElem_cons_zero])
  (try simp only [Act.put, List.setIfInBounds_toArray, List.set_cons_zero, List.set_cons_succ])
  refine wpAnyH_done (by kernel_rfl) ?_ _
  refine Or.inl ?_
  have HO6 : Hid _ := HO5H.out.below hb56
  have th6 := HO6.out.there (i := fs.length) (f := ⟨f.fn, pc, f.regs⟩) (by simp) 2 12 (by omega)
  have hr12 : (regsL c.data m).length = 12 := regsL_len _ _
  have hf12 : f.regs.length = 12 := HO5H.out.wf ⟨f.fn, pc, f.regs⟩ (by simp)
  obtain ⟨HO7, hb7⟩ := OutAt.frRegs (regsL c.data m) 0 w6 _ HO6.out fs.length ⟨f.fn, pc, f.regs⟩ (by simp) (by omega)
  simp only [set_last, setRg_all (hr12.trans hf12.symm)] at HO7
  have u1 := (hb56.block _ (lt_of_block t1)).trans t1
  have u2 := (hb56.block _ (lt_of_block t2)).trans t2
  have u3 := (hb56.block _ (lt_of_block t3)).trans t3
  have e12 : (i64s (regsL c.data m)).toArray.size = 12 := by simp [i64s, hr12]
  refine wp_store_mid 52 _ _ rfl fb (fs.length * 14 + 2) (i64s (regsL c.data m)).toArray rfl rfl (by rw [e12]; exact th6) i12 o12 ?_
  rw [List.toList_toArray]
  have HO7H : Hid (OutAt (w6.setCells fb (fs.length * 14 + 2) (i64s (regsL c.data m))) w.heap.size (w.heap.size + 1) { s with frames := fs ++ [⟨f.fn, (pc : Int), regsL c.data m⟩] } (.slice (some ⟨fb, 0, none⟩) (fs.length + 1) cap) ev av) := HO7
  have v2 : (w6.setCells fb (fs.length * 14 + 2) (i64s (regsL c.data m))).heap[w.heap.size + 1 + 1]? = some (.cells CC.toArray 33 (0, 0)) := ((grown_setCells fb _ _ w6).block _ (lt_of_block u2) (fun e => hne2 (by simpa using e.symm))).trans u2
  have v3 : (w6.setCells fb (fs.length * 14 + 2) (i64s (regsL c.data m))).heap[w.heap.size + 1 + 1 + 1]? = some (.cells zeroStCells 29 (0, 0)) := ((grown_setCells fb _ _ w6).block _ (lt_of_block u3) (fun e => hne3 (by simpa using e.symm))).trans u3
  have HB7 : Hid (Below w.heap.size w (w6.setCells fb (fs.length * 14 + 2) (i64s (regsL c.data m)))) := (HB5.out.trans (hb56.mono HB5.out.size)).trans hb7
  clear HO7 hb7 HO6 hb56 hb6 u1 u2 u3 t1 t2 t3 HO5H HI5 cpc clv th6 HB5
  generalize w6.setCells fb (fs.length * 14 + 2) (i64s (regsL c.data m)) = w7 at *
  obtain ⟨fu, hfu⟩ : ∃ z, c.data.getD 28 0 = z := ⟨_, rfl⟩
  have c28 : w7.cell? ⟨w.heap.size + 1 + 1, 33 + 28, none⟩ = some (.int .i64 fu) := by rw [← hfu]; exact HRD.out _ _ v2 28 _ (HD.out 28 (by omega))
  have HFU : Hid _ := hfu
  clear hfu
  have cfu : w7.cell? ⟨w.heap.size + 1, 19, none⟩ = some (.int .i64 s.fuel) := by rw [cell_of_row _ _ _ _ _ _ HO7H.out.cells]; simpa using stC_tail _ _ _ HO7H.out.mem 0
  have ffu : w7.frozen? ⟨w.heap.size + 1, 19, none⟩ = false := frozen_of_row _ _ _ _ _ HO7H.out.cells
  obtain ⟨HO8, hb8⟩ := HO7H.out.put 19 (.int .i64 fu) _ (stC_fuel _ _ _ HO7H.out.mem fu) HO7H.out.mem rfl rfl rfl
  have x2 : (w7.setCell ⟨w.heap.size + 1, 19, none⟩ (.int .i64 fu)).heap[w.heap.size + 1 + 1]? = some (.cells CC.toArray 33 (0, 0)) := (heap_setCell_other _ _ _ _ (by simp <;> omega)).trans v2
  have x3 : (w7.setCell ⟨w.heap.size + 1, 19, none⟩ (.int .i64 fu)).heap[w.heap.size + 1 + 1 + 1]? = some (.cells zeroStCells 29 (0, 0)) := (heap_setCell_other _ _ _ _ (by simp <;> omega)).trans v3
  have HB8 : Hid (Below w.heap.size w (w7.setCell ⟨w.heap.size + 1, 19, none⟩ (.int .i64 fu))) := HB7.out.trans hb8
  have HO8H : Hid _ := HO8
  clear HO7H HO8 hb8 v2 v3 HB7
  go_upto_region 11 with fail
  generalize (w7.setCell ⟨w.heap.size + 1, 19, none⟩ (.int .i64 fu)) = w8 at *
  have hM : (c.data.take 16).length = 16 := by rw [List.length_take, HDL.out]; rfl
  have hsm := splice_mem _ (.slice (some ⟨fb, 0, none⟩) (fs.length + 1) cap) ev av HO8H.out.mem (c.data.take 16) hM
  have hsr : ∀ j u, (i64s (c.data.take 16))[j]? = some u → w8.cell? ((⟨w.heap.size + 1 + 1, 33, none⟩ : Addr).add j) = some u := fun j u hu => by
    rw [Addr.add_mid]
    have hj : j < 16 := by have := (List.getElem?_eq_some_iff.1 hu).1; simp [i64s] at this; omega
    refine HRD.out _ _ x2 j u ?_
    rw [← hu]; simp only [i64s, List.getElem?_map, List.getElem?_take, if_pos hj]
  have r8 := HO8H.out.cells
  have hcz := stCells_length _ (.slice (some ⟨fb, 0, none⟩) (fs.length + 1) cap) ev av HO8H.out.mem
  obtain ⟨HO9, hb9⟩ := HO8H.out.drew.row { s with frames := fs ++ [⟨f.fn, (pc : Int), regsL c.data m⟩], fuel := fu, mem := c.data.take 16 } hM rfl rfl rfl
  have x39 := (setRow_other w8.drew (w.heap.size + 1) (stCells { s with frames := fs ++ [⟨f.fn, (pc : Int), regsL c.data m⟩], fuel := fu, mem := c.data.take 16 } (.slice (some ⟨fb, 0, none⟩) (fs.length + 1) cap) ev av).toArray (w.heap.size + 1 + 1 + 1) (by omega)).trans x3
  have HB9 : Hid (Below w.heap.size w _) := HB8.out.drew.trans hb9
  have HO9H : Hid _ := HO9
  clear HO9 hb9 HB8
  go_region_law (refine step_copy_at rfl (.tmp 65) (.tmp 67) 27 27 rfl 3 Tryd.underlying27 one_size ⟨w.heap.size + 1 + 1, 33, none⟩ (w.heap.size + 1) 3 16 16 64 64 (by simp [Act.eval, Act.put]) (by simp [Act.eval, Act.put]) _ 29 r8 (i64s (c.data.take 16)) (by simp only [i64s, List.length_map, hM]; rfl) hsr (by rw [List.size_toArray, hcz]; simp only [i64s, List.length_map, hM]; omega) (i64s_one _) _ hsm ?_)
  have E9 : Hid (leftS s fs f c.data m = { s with frames := fs ++ [⟨f.fn, (pc : Int), regsL c.data m⟩], fuel := fu, mem := c.data.take 16 }) := by show _ = _; unfold leftS; rw [hpc, HFU.out]
  have hsv : StVal _ _ _ := HO9H.out.stp.at.val
  obtain ⟨csx, hcx, y1, y2, y3⟩ := hsv.cells
  obtain rfl := Value.agg.inj hcx
  have r9 := HO9H.out.cells
  generalize hXX : (stCells { s with frames := fs ++ [⟨f.fn, (pc : Int), regsL c.data m⟩], fuel := fu, mem := c.data.take 16 } (.slice (some ⟨fb, 0, none⟩) (fs.length + 1) cap) ev av).toArray = XX at *
  have HXX : Hid _ := hXX
  clear hXX hcx hsv
  generalize (World.setRow w8.drew (w.heap.size + 1) XX) = w9 at *
  go_wp2_with (first
    | (refine wpList_load_row rfl _ _ rfl _ rfl _ _ _ _ r9 Tryd.underlying29 rfl y1 ?_)
    | (refine wpList_store_row rfl _ _ _ rfl _ XX rfl rfl _ _ x39 y1 y2 y3 ?_))
  try simp only [Exit.inBlock, Exit.then]
  refine bodyPost_ret (results_row_tmp rfl _ _ (w.heap.size + 1 + 1 + 1) 29 XX (0, 0) _ rfl (setRow_heap _ _ _ _ _ _ x39) Tryd.underlying29 rfl y1) rfl ⟨XX, rfl, ?_, belowSR HB9.out (by omega) _⟩
  rw [E9.out]
  have := (HO9H.out.other x39 (by omega) HAV.out XX).stp
  rw [HXX.out] at this
  exact this
end Go.Proofs.YteabbanjjdmjkaaDoor
