/- The walk of tierlinekeep.RunMore: at all raw numbers it says true, and nothing that was there has turned. -/
import Derived.Test.YtcjclencbjllhaaDoorXKRun
import Derived.Test.YtcjclencbjllhaaDoorXMoreMath
namespace Go.Proofs.YtcjclencbjllhaaDoor
open Go Go.RowKit

theorem setRow_alloc2 (w : World) (o : Obj) (old cs : Array Value) (t : TypeId) : ((w.alloc o).alloc (.cells old t)).setRow (w.heap.size + 1) cs = (w.alloc o).alloc (.cells cs t) := by
  have := World.setRow_alloc_new (w.alloc o) old cs t
  rw [World.size_alloc] at this
  exact this
theorem StVal.setFuel {w : World} {cs : Array Value} {S : St} (h : StVal w (.agg cs) S) (n : Int) : StVal w (.agg (cs.setIfInBounds 19 (.int .i64 n))) { S with fuel := n } := by
  obtain ⟨fv, ev, av, e, hm, hf, he, ha⟩ := h
  obtain rfl : cs = _ := by simpa using e
  refine ⟨fv, ev, av, ?_, hm, hf, he, ha⟩
  rw [List.setIfInBounds_toArray]
  congr 2
  unfold stCells
  rw [List.set_append_right _ _ (by simp [i64s, hm])]
  simp [i64s, hm]
theorem StVal.setStatus {w : World} {cs : Array Value} {S : St} (h : StVal w (.agg cs) S) (n : Int) : StVal w (.agg (cs.setIfInBounds 0 (.int .i64 n))) { S with status := n } := by
  obtain ⟨fv, ev, av, e, hm, hf, he, ha⟩ := h
  obtain rfl : cs = _ := by simpa using e
  refine ⟨fv, ev, av, ?_, hm, hf, he, ha⟩
  rw [List.setIfInBounds_toArray]
  rfl
/-- A state whose lists lie elsewhere than a block: a store into that block does not touch it. -/
theorem StAt.valSet {w : World} {base : Nat} {v : Value} {s : St} (h : StAt w base v s) {p : Addr} (hr : w.heap.size ≤ p.block) (u : Value) (o : Obj) : StVal ((w.alloc o).setCell p u) v s :=
  (h.moved fun a _ _ hu => (World.cell?_of_block (heap_setCell_other (w.alloc o) p _ u (by have := World.block_lt_of_cell? _ _ hu; omega))).trans (cell_alloc hu o)).val

set_option maxHeartbeats 8000000 in
set_option maxRecDepth 100000 in
theorem runMore_walk (l : List Fn) (v : Value) (a0 a1 fuel : Int) (nv : Value) (ln : List Int) (a : Int) (w : World) (ht : TabOk w) (hc : CallOk w) (hv : ProgVal w v l) (hwf : ∀ f ∈ l, f.wf) (hn : IntsVal w nv ln) (hfu : I64 fuel) (ha : I64 a) :
    Calls Tryd.prog 10 #[v, inVal a0 a1 nv fuel, .int .i64 a] w fun e w' => e = .returned (.bool true) ∧ Below w.heap.size w w' := by
  obtain ⟨x, hx, ex⟩ : ∃ x : Nat, x < 100 ∧ pickI a 100 = x := by have b := pickI_bounds a 100 (by omega); obtain ⟨k, hk⟩ := Int.eq_ofNat_of_zero_le b.1; exact ⟨k, by omega, hk⟩
  have hPX : Hid (∀ W, Calls Tryd.prog 22 #[.int .i64 a, .int .i64 100] W fun e w' => e = .returned (.int .i64 (x : Int)) ∧ w' = W) := fun W => by have := picked_any a 100 W ha (by omega) (by omega); rw [ex] at this; exact this
  clear ex ha
  obtain ⟨nao, nc, rfl⟩ := hn.shape
  obtain ⟨lao, ll, lc, rfl⟩ := hv.shape
  have HTC : Hid (∀ W, Below w.heap.size w W → TabOk W ∧ CallOk W) := fun W hb => ⟨ht.below hb, hc.below hb⟩
  have HB0 : Hid (Below w.heap.size w (w.alloc (.cells #[.int .i64 a0, .int .i64 a1, .slice nao ln.length nc, .int .i64 fuel] 26))) := (Below.refl _ _).alloc (Nat.le_refl _) _
  have HPR : Hid (Calls Tryd.prog 15 #[.slice lao ll lc] (w.alloc (.cells #[.int .i64 a0, .int .i64 a1, .slice nao ln.length nc, .int .i64 fuel] 26)) fun e w' => ∃ ao n cap P, e = .returned (.agg #[.slice ao n cap]) ∧ ProofAns P 0 ∧ ProgVal w' (.slice ao n cap) P ∧ Below (w.alloc (.cells #[.int .i64 a0, .int .i64 a1, .slice nao ln.length nc, .int .i64 fuel] 26)).heap.size (w.alloc (.cells #[.int .i64 a0, .int .i64 a1, .slice nao ln.length nc, .int .i64 fuel] 26)) w') := kprog l _ _ (HTC.out _ HB0.out).1 (HTC.out _ HB0.out).2 (hv.keeps (keeps_below HB0.out)) hwf
  have HNV : Hid (∀ W, Below w.heap.size w W → IntsVal W (.slice nao ln.length nc) ln) := fun W hb => hn.keeps (keeps_below hb)
  have HFU : Hid (I64 fuel) := hfu
  have infoIn : (Tryd.prog.info? 26).map (·.size) = some 4 := by kernel_rfl
  unfold inVal
  clear ht hc hv hwf hn hfu
  go_enter Tryd.func10, Tryd.ntmps10
  go_upto_region 2 with (go_at_call 15; refine HPR.out.mono ?_; rintro e w1 ⟨ao, n0, cap0, P, rfl, hR, hpv, hb1⟩)
  have HR : Hid (ProofAns P 0) := hR
  have B01 : Hid (Below w.heap.size w (w1.alloc (.cells #[.slice ao n0 cap0] 29))) := (HB0.out.trans (hb1.mono (by simp))).alloc (by have := hb1.size; simp at this; omega) _
  have I1 : (w1.alloc (.cells #[.slice ao n0 cap0] 29)).heap[w.heap.size]? = some (.cells #[.int .i64 a0, .int .i64 a1, .slice nao ln.length nc, .int .i64 fuel] 26 (0, 0)) := (heap_alloc_old _ _ (by have := hb1.size; simp at this; omega)).trans ((hb1.block _ (by simp)).trans (heap_alloc_last w _))
  have HP : Hid (∀ W, Below (w1.alloc (.cells #[.slice ao n0 cap0] 29)).heap.size (w1.alloc (.cells #[.slice ao n0 cap0] 29)) W → W.cell? ⟨w1.heap.size, 0, none⟩ = some (.slice ao n0 cap0) ∧ ProgVal W (.slice ao n0 cap0) P ∧ TabOk W ∧ CallOk W) := fun W hb => ⟨keeps_below hb _ _ (by rw [cell_of_row _ _ _ _ _ _ (heap_alloc_last w1 _)]; rfl), (hpv.keeps (keeps_below ((Below.refl _ _).alloc (Nat.le_refl _) _))).keeps (keeps_below hb), (HTC.out _ (B01.out.trans (hb.mono B01.out.size))).1, (HTC.out _ (B01.out.trans (hb.mono B01.out.size))).2⟩
  have HKB : Hid (Calls Tryd.prog 16 #[.agg #[.slice ao n0 cap0], .agg #[.int .i64 a0, .int .i64 a1, .slice nao ln.length nc, .int .i64 fuel]] (w1.alloc (.cells #[.slice ao n0 cap0] 29)) _) := kbegin P (.slice ao n0 cap0) a0 a1 fuel (.slice nao ln.length nc) ln (w1.alloc (.cells #[.slice ao n0 cap0] 29)) (HP.out _ (Below.refl _ _)).2.2.1 (HP.out _ (Below.refl _ _)).2.2.2 HR.out (HP.out _ (Below.refl _ _)).2.1 (HNV.out _ B01.out) HFU.out
  clear hR hpv hb1
  go_upto_region 3 with (first
    | (refine wpList_load_row rfl _ _ rfl _ rfl _ _ _ _ I1 Tryd.underlying26 rfl infoIn ?_)
    | (go_at_call 16; refine HKB.out.mono ?_; rintro e w2 ⟨cs2, S, rfl, hk, hs0, c1, c2, c3, hst, hb2⟩)
    | (refine wpList_store_row rfl _ _ _ rfl _ _ rfl rfl _ _ (heap_alloc_last w2 _) c1 c2 c3 ?_; rw [World.setRow_alloc_new]))
  have HK : Hid (KRunAt P S) := hk
  have HS0 : Hid (S.fuel ≤ 299 ∧ S.answers.length ≤ 10 ∧ S.status = 0) := hs0
  have B12 : Hid (Below (w1.alloc (.cells #[.slice ao n0 cap0] 29)).heap.size (w1.alloc (.cells #[.slice ao n0 cap0] 29)) (w2.alloc (.cells cs2 34))) := hb2.alloc hb2.size _
  have X2 : Hid (∀ W, Below (w2.alloc (.cells cs2 34)).heap.size (w2.alloc (.cells cs2 34)) W → W.heap[w2.heap.size]? = some (.cells cs2 34 (0, 0)) ∧ StVal W (.agg cs2) (walkS P 0 S)) := fun W hb => ⟨(hb.block _ (by simp)).trans (heap_alloc_last w2 _), (hst.val.keeps (keeps_below ((Below.refl _ _).alloc (Nat.le_refl _) _))).keeps (keeps_below hb)⟩
  have q2 : (Tryd.prog.info? 34).map (·.size) = some cs2.size := c1
  have HON2 : Hid (cs2.all (·.oneCell') = true) := c3
  have HZ12 : Hid ((w1.alloc (.cells #[.slice ao n0 cap0] 29)).heap.size ≤ w2.heap.size) := hb2.size
  have hz2 : zeroStCells.size = cs2.size := c2
  clear hk hs0 hst hb2 I1 HKB c1 c2 c3 infoIn
  have r2 := (X2.out _ (Below.refl _ _)).1
  go_upto_region 4 with (first
    | (refine wpList_load_row rfl _ _ rfl _ rfl _ _ _ _ r2 Tryd.underlying34 rfl q2 ?_)
    | (refine wpList_store_row rfl _ _ _ rfl _ _ rfl rfl _ _ (heap_alloc2_new w2 _ _) q2 hz2 HON2.out ?_; rw [setRow_alloc2]))
  obtain ⟨f, hf⟩ := Int.eq_ofNat_of_zero_le ((mayB_iff _).1 HK.out.inv.may).2.2.1
  have hf2 : f ≤ 299 := by have := HS0.out.1; omega
  have B23 : Below (w2.alloc (.cells cs2 34)).heap.size (w2.alloc (.cells cs2 34)) ((w2.alloc (.cells cs2 34)).alloc (.cells cs2 34)) := (Below.refl _ _).alloc (Nat.le_refl _) _
  obtain ⟨r23, s23⟩ := X2.out _ B23
  obtain ⟨-, -, g19, -⟩ := s23.at
  have k19 : ((w2.alloc (.cells cs2 34)).alloc (.cells cs2 34)).cell? ⟨w2.heap.size, 19, none⟩ = some (.int .i64 (f : Int)) := by rw [cell_of_row _ _ _ _ _ _ r23, g19]; exact congrArg (fun z => some (Value.int .i64 z)) hf
  have rT : ((w2.alloc (.cells cs2 34)).alloc (.cells cs2 34)).heap[(w2.heap.size + 1)]? = some (.cells cs2 34 (0, 0)) := by have := heap_alloc_last (w2.alloc (.cells cs2 34)) (.cells cs2 34); simpa using this
  have t19 : ((w2.alloc (.cells cs2 34)).alloc (.cells cs2 34)).cell? ⟨(w2.heap.size + 1), 19, none⟩ = some (.int .i64 (f : Int)) := by rw [cell_of_row _ _ _ _ _ _ rT, g19]; exact congrArg (fun z => some (Value.int .i64 z)) hf
  have tf : ((w2.alloc (.cells cs2 34)).alloc (.cells cs2 34)).frozen? ⟨(w2.heap.size + 1), 19, none⟩ = false := frozen_of_row _ _ _ _ _ rT
  have hwf : IntKind.i64.wrap ((f : Int) + (x : Int)) = ((f + x : Nat) : Int) := by rw [wrap_fits _ (by omega) (by omega)]; omega
  refine wp_region_held_drew (S := fun W => W.cell? ⟨w2.heap.size, 19, none⟩ = some (.int .i64 (f : Int))) (by kernel_rfl) (show (World.drew ((w2.alloc (.cells cs2 34)).alloc (.cells cs2 34))).cell? ⟨w2.heap.size, 19, none⟩ = some (.int .i64 (f : Int)) from k19) (fun hHeld => ?_)
  show wpAnyH _ _ _ _ _ 7 _ _ _
  refine wpAnyH_take (i := 0) (v := ?_) rfl (by kernel_rfl) (by kernel_rfl) (by kernel_rfl) (fun _ _ _ h => h) (Or.inl ⟨by rfl, ?_⟩) (by assumption) ?_
  rotate_left
  · (intro W hSW; go_simp; try (with_reducible rfl))
  (try simp only [Act.put, List.setIfInBounds_toArray])
  refine wpAnyH_take (i := 1) (v := ?_) rfl (by kernel_rfl) (by kernel_rfl) (by kernel_rfl) (fun _ _ _ h => h) (Or.inl ⟨by rfl, ?_⟩) (by assumption) ?_
  rotate_left
  · (intro W hSW; go_simp; try (with_reducible rfl))
  (try simp only [Act.put])
  refine wpAnyH_take (i := 2) (v := ?_) rfl (by kernel_rfl) (by kernel_rfl) (by kernel_rfl) (fun _ _ _ h => h) (Or.inl ⟨by rfl, ?_⟩) (by assumption) ?_
  rotate_left
  · (intro W hSW; go_simp; try (with_reducible rfl))
  (try simp only [Act.put])
  refine wpAnyH_ready (rs := [3]) (by kernel_rfl) (by simp) ?_
  refine AllReadyH.cons rfl (fun K hK => ?_) AllReadyH.nil
  go_simp
  go_at_call 22
  refine (hPX.out _).mono ?_
  rintro e wp ⟨rfl, hwp⟩
  replace hwp := hwp.symm
  subst hwp
  dsimp only
  refine hK.out _ _ k19 (fun _ => ?_)
  clear hK K
  (try simp only [Act.put, List.setIfInBounds_toArray, List.set_cons_zero, List.set_cons_succ])
  refine wpAnyH_take (i := 4) (v := ?_) rfl (by kernel_rfl) (by kernel_rfl) (by kernel_rfl) (fun _ _ _ h => h) (Or.inl ⟨by rfl, ?_⟩) (by assumption) ?_
  rotate_left
  · (intro W hSW; go_simp; try (with_reducible rfl))
  (try simp only [Act.put, List.setIfInBounds_toArray])
  refine wpAnyH_take (i := 5) (v := ?_) rfl (by kernel_rfl) (by kernel_rfl) (by kernel_rfl) (fun _ _ _ h => h) (Or.inl ⟨by rfl, ?_⟩) (by assumption) ?_
  rotate_left
  · (intro W hSW; go_simp; try (with_reducible rfl))
  (try simp only [Act.put])
  refine wpAnyH_ready (rs := [6]) (by kernel_rfl) (by simp) ?_
  refine AllReadyH.cons rfl (fun K hK => ?_) AllReadyH.nil
  have kn : (World.alloc (w2.alloc (.cells cs2 34)) (.cells (cs2.setIfInBounds 19 (.int .i64 ((f : Int) + (x : Int)))) 34)).drew.cell? ⟨w2.heap.size, 19, none⟩ = some (.int .i64 (f : Int)) := by have h1 := (X2.out _ ((Below.refl _ _).alloc (Nat.le_refl _) (.cells (cs2.setIfInBounds 19 (.int .i64 ((f : Int) + (x : Int)))) 34))); show (World.alloc (w2.alloc (.cells cs2 34)) (.cells (cs2.setIfInBounds 19 (.int .i64 ((f : Int) + (x : Int)))) 34)).cell? _ = _; rw [cell_of_row _ _ _ _ _ _ h1.1, g19]; exact congrArg (fun z => some (Value.int .i64 z)) hf
  go_simp
  refine hK.out _ _ kn (fun _ => ?_)
  clear hK K
  (try simp only [Act.put, List.setIfInBounds_toArray, List.set_cons_zero, List.set_cons_succ])
  refine wpAnyH_done (by kernel_rfl) ?_ _
  have BX : Below (w2.alloc (.cells cs2 34)).heap.size (w2.alloc (.cells cs2 34)) (World.alloc (w2.alloc (.cells cs2 34)) (.cells (cs2.setIfInBounds 19 (.int .i64 ((f : Int) + (x : Int)))) 34)).drew := ((Below.refl _ _).alloc (Nat.le_refl _) _).drew
  have BN : Below (w1.alloc (.cells #[.slice ao n0 cap0] 29)).heap.size (w1.alloc (.cells #[.slice ao n0 cap0] 29)) (World.alloc (w2.alloc (.cells cs2 34)) (.cells (cs2.setIfInBounds 19 (.int .i64 ((f : Int) + (x : Int)))) 34)).drew := B12.out.trans (BX.mono B12.out.size)
  have X2N : Hid (∀ W, Below (World.alloc (w2.alloc (.cells cs2 34)) (.cells (cs2.setIfInBounds 19 (.int .i64 ((f : Int) + (x : Int)))) 34)).drew.heap.size (World.alloc (w2.alloc (.cells cs2 34)) (.cells (cs2.setIfInBounds 19 (.int .i64 ((f : Int) + (x : Int)))) 34)).drew W → W.heap[w2.heap.size]? = some (.cells cs2 34 (0, 0)) ∧ StVal W (.agg cs2) (walkS P 0 S)) := fun W hW => X2.out W (BX.trans (hW.mono BX.size))
  have XTN : Hid (∀ W, Below (World.alloc (w2.alloc (.cells cs2 34)) (.cells (cs2.setIfInBounds 19 (.int .i64 ((f : Int) + (x : Int)))) 34)).drew.heap.size (World.alloc (w2.alloc (.cells cs2 34)) (.cells (cs2.setIfInBounds 19 (.int .i64 ((f : Int) + (x : Int)))) 34)).drew W → W.heap[(w2.heap.size + 1)]? = some (.cells (cs2.setIfInBounds 19 (.int .i64 ((f : Int) + (x : Int)))) 34 (0, 0)) ∧ StVal W (.agg (cs2.setIfInBounds 19 (.int .i64 ((f : Int) + (x : Int))))) (walkS P 0 (addF x S))) := fun W hW => ⟨(hW.block _ (by simp)).trans (heap_alloc2_new w2 _ _), (by have h1 := ((X2N.out _ (Below.refl _ _)).2.setFuel ((f : Int) + (x : Int))).keeps (keeps_below hW); have e1 : ({ walkS P 0 S with fuel := (f : Int) + (x : Int) } : St) = walkS P 0 (addF x S) := (by show ({ S with fuel := (f : Int) + (x : Int) } : St) = addF x S; unfold addF; rw [hf]); rw [e1] at h1; exact h1)⟩
  have HKT : Hid (KRunAt P (addF x S)) := ⟨HK.out.right, ⟨(mayB_iff _).2 (by have h1 := (mayB_iff _).1 HK.out.inv.may; exact ⟨h1.1, h1.2.1, by show 0 ≤ S.fuel + x; omega, by show S.fuel + x ≤ 10000; omega, h1.2.2.2.2.1, h1.2.2.2.2.2.1, h1.2.2.2.2.2.2.1, h1.2.2.2.2.2.2.2⟩), HK.out.inv.fok, HK.out.inv.reach, HK.out.inv.wf, HK.out.inv.mem⟩, HK.out.ev⟩
  have HWZ : Hid (w2.heap.size + 2 ≤ (World.alloc (w2.alloc (.cells cs2 34)) (.cells (cs2.setIfInBounds 19 (.int .i64 ((f : Int) + (x : Int)))) 34)).drew.heap.size) := by show _ ≤ _; simp
  generalize (World.alloc (w2.alloc (.cells cs2 34)) (.cells (cs2.setIfInBounds 19 (.int .i64 ((f : Int) + (x : Int)))) 34)).drew = WW at BN X2N XTN HWZ ⊢
  have qT : (Tryd.prog.info? 34).map (·.size) = some (cs2.setIfInBounds 19 (.int .i64 ((f : Int) + (x : Int)))).size := by rw [Array.size_setIfInBounds]; exact q2
  generalize (cs2.setIfInBounds 19 (.int .i64 ((f : Int) + (x : Int)))) = csT at XTN qT
  have B1 : Hid (Below (w1.alloc (.cells #[.slice ao n0 cap0] 29)).heap.size (w1.alloc (.cells #[.slice ao n0 cap0] 29)) WW) := BN
  have HF : Hid (S.fuel = f) := hf
  clear X2 B12 B23 r2 r23 s23 g19 k19 rT t19 tf hHeld kn BX BN hf hz2
  have kp := (HP.out _ B1.out).1
  have rr := (X2N.out _ (Below.refl _ _)).1
  have HCa : Hid (Calls Tryd.prog 25 #[.agg #[.slice ao n0 cap0], .agg cs2, .int .i64 ((400 : Nat) : Int)] WW _) := kwalk HK.out 0 400 (by omega) (by omega) _ _ WW (HP.out _ B1.out).2.2.1 (HP.out _ B1.out).2.2.2 (HP.out _ B1.out).2.1 (X2N.out _ (Below.refl _ _)).2
  go_upto_region 6 with (first
    | (refine wpList_load_row rfl _ _ rfl _ rfl _ _ _ _ rr Tryd.underlying34 rfl q2 ?_)
    | (go_at_call 25; refine HCa.out.mono ?_; rintro e wa ⟨csa, rfl, c1, c2, c3, hst, hb⟩)
    | (refine wpList_store_row rfl _ _ _ rfl _ _ rfl rfl _ _ (heap_alloc_last wa _) c1 c2 c3 ?_; rw [World.setRow_alloc_new]))
  have HBa : Hid (Below WW.heap.size WW (wa.alloc (.cells csa 34))) := hb.alloc hb.size _
  have HBZa : Hid (WW.heap.size ≤ wa.heap.size) := hb.size
  have HSTa : Hid (StAt wa WW.heap.size (.agg csa) (walkS P (0 + 400) S)) := hst
  have qa : (Tryd.prog.info? 34).map (·.size) = some csa.size := c1
  clear hst hb c1 c2 c3 kp rr HCa
  have k19 : (wa.alloc (.cells csa 34)).cell? ⟨w2.heap.size, 19, none⟩ = some (.int .i64 (f : Int)) := by rw [cell_of_row _ _ _ _ _ _ (X2N.out _ HBa.out).1, (X2N.out _ HBa.out).2.at.2.2.1]; exact congrArg (fun z => some (Value.int .i64 z)) HF.out
  have kp := (HP.out _ (B1.out.trans (HBa.out.mono B1.out.size))).1
  have rr := (XTN.out _ HBa.out).1
  have HCb : Hid (Calls Tryd.prog 25 #[.agg #[.slice ao n0 cap0], .agg csT, .int .i64 ((f : Nat) : Int)] (wa.alloc (.cells csa 34)) _) := kwalk HKT.out 0 f (by omega) (by omega) _ _ (wa.alloc (.cells csa 34)) (HP.out _ (B1.out.trans (HBa.out.mono B1.out.size))).2.2.1 (HP.out _ (B1.out.trans (HBa.out.mono B1.out.size))).2.2.2 (HP.out _ (B1.out.trans (HBa.out.mono B1.out.size))).2.1 (XTN.out _ HBa.out).2
  go_upto_region 7 with (first
    | (refine wpList_load_row rfl _ _ rfl _ rfl _ _ _ _ rr Tryd.underlying34 rfl qT ?_)
    | (go_at_call 25; refine HCb.out.mono ?_; rintro e wb ⟨csb, rfl, c1, c2, c3, hst, hb⟩)
    | (refine wpList_store_row rfl _ _ _ rfl _ _ rfl rfl _ _ (heap_alloc_last wb _) c1 c2 c3 ?_; rw [World.setRow_alloc_new]))
  have HBb : Hid (Below (wa.alloc (.cells csa 34)).heap.size (wa.alloc (.cells csa 34)) (wb.alloc (.cells csb 34))) := hb.alloc hb.size _
  have HBZb : Hid ((wa.alloc (.cells csa 34)).heap.size ≤ wb.heap.size) := hb.size
  have HSTb : Hid (StAt wb (wa.alloc (.cells csa 34)).heap.size (.agg csb) (walkS P (0 + f) (addF x S))) := hst
  have qb : (Tryd.prog.info? 34).map (·.size) = some csb.size := c1
  clear hst hb c1 c2 c3 kp rr HCb
  clear k19
  have kp := (HP.out _ ((B1.out.trans (HBa.out.mono B1.out.size)).trans (HBb.out.mono (B1.out.trans (HBa.out.mono B1.out.size)).size))).1
  have rr := (XTN.out _ (HBa.out.trans (HBb.out.mono HBa.out.size))).1
  have HCc : Hid (Calls Tryd.prog 25 #[.agg #[.slice ao n0 cap0], .agg csT, .int .i64 ((500 : Nat) : Int)] (wb.alloc (.cells csb 34)) _) := kwalk HKT.out 0 500 (by omega) (by omega) _ _ (wb.alloc (.cells csb 34)) (HP.out _ ((B1.out.trans (HBa.out.mono B1.out.size)).trans (HBb.out.mono (B1.out.trans (HBa.out.mono B1.out.size)).size))).2.2.1 (HP.out _ ((B1.out.trans (HBa.out.mono B1.out.size)).trans (HBb.out.mono (B1.out.trans (HBa.out.mono B1.out.size)).size))).2.2.2 (HP.out _ ((B1.out.trans (HBa.out.mono B1.out.size)).trans (HBb.out.mono (B1.out.trans (HBa.out.mono B1.out.size)).size))).2.1 (XTN.out _ (HBa.out.trans (HBb.out.mono HBa.out.size))).2
  go_upto_region 8 with (first
    | (refine wpList_load_row rfl _ _ rfl _ rfl _ _ _ _ rr Tryd.underlying34 rfl qT ?_)
    | (go_at_call 25; refine HCc.out.mono ?_; rintro e wc ⟨csc, rfl, c1, c2, c3, hst, hb⟩)
    | (refine wpList_store_row rfl _ _ _ rfl _ _ rfl rfl _ _ (heap_alloc_last wc _) c1 c2 c3 ?_; rw [World.setRow_alloc_new]))
  have HBc : Hid (Below (wb.alloc (.cells csb 34)).heap.size (wb.alloc (.cells csb 34)) (wc.alloc (.cells csc 34))) := hb.alloc hb.size _
  have HBZc : Hid ((wb.alloc (.cells csb 34)).heap.size ≤ wc.heap.size) := hb.size
  have HSTc : Hid (StAt wc (wb.alloc (.cells csb 34)).heap.size (.agg csc) (walkS P (0 + 500) (addF x S))) := hst
  have qc : (Tryd.prog.info? 34).map (·.size) = some csc.size := c1
  clear hst hb c1 c2 c3 kp rr HCc
  have BF : Hid (Below w.heap.size w (wc.alloc (.cells csc 34))) := B01.out.trans ((((B1.out.trans (HBa.out.mono B1.out.size)).trans (HBb.out.mono (B1.out.trans (HBa.out.mono B1.out.size)).size)).trans (HBc.out.mono ((B1.out.trans (HBa.out.mono B1.out.size)).trans (HBb.out.mono (B1.out.trans (HBa.out.mono B1.out.size)).size)).size)).mono B01.out.size)
  have k19 : (wc.alloc (.cells csc 34)).cell? ⟨w2.heap.size, 19, none⟩ = some (.int .i64 (f : Int)) := by rw [cell_of_row _ _ _ _ _ _ (X2N.out _ ((HBa.out.trans (HBb.out.mono HBa.out.size)).trans (HBc.out.mono (HBa.out.trans (HBb.out.mono HBa.out.size)).size))).1, (X2N.out _ ((HBa.out.trans (HBb.out.mono HBa.out.size)).trans (HBc.out.mono (HBa.out.trans (HBb.out.mono HBa.out.size)).size))).2.at.2.2.1]; exact congrArg (fun z => some (Value.int .i64 z)) HF.out
  have t19 : (wc.alloc (.cells csc 34)).cell? ⟨(w2.heap.size + 1), 19, none⟩ = some (.int .i64 ((f : Int) + (x : Int))) := by rw [cell_of_row _ _ _ _ _ _ (XTN.out _ ((HBa.out.trans (HBb.out.mono HBa.out.size)).trans (HBc.out.mono (HBa.out.trans (HBb.out.mono HBa.out.size)).size))).1, (XTN.out _ ((HBa.out.trans (HBb.out.mono HBa.out.size)).trans (HBc.out.mono (HBa.out.trans (HBb.out.mono HBa.out.size)).size))).2.at.2.2.1]; exact congrArg (fun z => some (Value.int .i64 z)) (show S.fuel + x = _ by rw [HF.out])
  have ra : (wc.alloc (.cells csc 34)).heap[wa.heap.size]? = some (.cells csa 34 (0, 0)) := ((HBb.out.trans (HBc.out.mono HBb.out.size)).block _ (by simp)).trans (heap_alloc_last wa _)
  have rb : (wc.alloc (.cells csc 34)).heap[wb.heap.size]? = some (.cells csb 34 (0, 0)) := (HBc.out.block _ (by simp)).trans (heap_alloc_last wb _)
  have rc : (wc.alloc (.cells csc 34)).heap[wc.heap.size]? = some (.cells csc 34 (0, 0)) := heap_alloc_last wc _
  have sa : StVal (wc.alloc (.cells csc 34)) (.agg csa) (walkS P (0 + 400) S) := (HSTa.out.val.keeps (keeps_below ((Below.refl _ _).alloc (Nat.le_refl _) _))).keeps (keeps_below (HBb.out.trans (HBc.out.mono HBb.out.size)))
  have sb : StVal (wc.alloc (.cells csc 34)) (.agg csb) (walkS P (0 + f) (addF x S)) := (HSTb.out.val.keeps (keeps_below ((Below.refl _ _).alloc (Nat.le_refl _) _))).keeps (keeps_below HBc.out)
  have sc : StVal (wc.alloc (.cells csc 34)) (.agg csc) (walkS P (0 + 500) (addF x S)) := HSTc.out.val.keeps (keeps_below ((Below.refl _ _).alloc (Nat.le_refl _) _))
  have ka0 : (wc.alloc (.cells csc 34)).cell? ⟨wa.heap.size, 0, none⟩ = some (.int .i64 (walkS P (0 + 400) S).status) := by rw [cell_of_row _ _ _ _ _ _ ra]; exact sa.at.1
  have ka19 : (wc.alloc (.cells csc 34)).cell? ⟨wa.heap.size, 19, none⟩ = some (.int .i64 (walkS P (0 + 400) S).fuel) := by rw [cell_of_row _ _ _ _ _ _ ra]; exact sa.at.2.2.1
  have fa0 : (wc.alloc (.cells csc 34)).frozen? ⟨wa.heap.size, 0, none⟩ = false := frozen_of_row _ _ _ _ _ ra
  have fa19 : (wc.alloc (.cells csc 34)).frozen? ⟨wa.heap.size, 19, none⟩ = false := frozen_of_row _ _ _ _ _ ra
  have hza : WW.heap.size ≤ wa.heap.size ∧ w2.heap.size + 2 ≤ WW.heap.size := ⟨HBZa.out, HWZ.out⟩
  have hzb : wa.heap.size + 1 ≤ wb.heap.size := by have := HBZb.out; simpa using this
  have hzc : wb.heap.size + 1 ≤ wc.heap.size := by have := HBZc.out; simpa using this
  have hws : IntKind.i64.wrap ((f : Int) + (x : Int) - (f : Int)) = (x : Int) := by rw [show (f : Int) + (x : Int) - f = x by omega]; exact wrap_fits _ (by omega) (by omega)
  have hKA : ∀ (W : World), (∀ b, b ≠ wa.heap.size → b < (wc.alloc (.cells csc 34)).heap.size → W.heap[b]? = (wc.alloc (.cells csc 34)).heap[b]?) → StVal W (.agg csa) (walkS P (0 + 400) S) := fun W hW => HSTa.out.val.keeps (fun ad u hu => (World.cell?_of_block (hW _ (by have := World.block_lt_of_cell? _ _ hu; omega) (by have := World.block_lt_of_cell? _ _ hu; simp; omega))).trans (keeps_below (HBb.out.trans (HBc.out.mono HBb.out.size)) _ _ (cell_alloc hu _)))
  have hKB : ∀ (W : World), (∀ b, b ≠ wa.heap.size → b < (wc.alloc (.cells csc 34)).heap.size → W.heap[b]? = (wc.alloc (.cells csc 34)).heap[b]?) → StVal W (.agg csb) (walkS P (0 + f) (addF x S)) := fun W hW => (HSTb.out.moved (fun ad u ha hu => (World.cell?_of_block (hW _ (by simp at ha; omega) (by have := World.block_lt_of_cell? _ _ hu; simp; omega))).trans (keeps_below HBc.out _ _ (cell_alloc hu _)))).val
  have hKC : ∀ (W : World), (∀ b, b ≠ wa.heap.size → b < (wc.alloc (.cells csc 34)).heap.size → W.heap[b]? = (wc.alloc (.cells csc 34)).heap[b]?) → StVal W (.agg csc) (walkS P (0 + 500) (addF x S)) := fun W hW => (HSTc.out.moved (fun ad u ha hu => (World.cell?_of_block (hW _ (by simp at ha; omega) (by have := World.block_lt_of_cell? _ _ hu; simp; omega))).trans (cell_alloc hu _))).val
  have hfA := (mayB_iff _).1 (krun_walk HK.out (0 + 400)).1.may
  by_cases h2 : (walkS P (0 + 400) S).status = 2
  · obtain ⟨e0, e1, e2⟩ := run_empty HK.out.right HK.out.inv HS0.out.2.2 f HF.out (0 + 400) h2
    have eb : walkS P (0 + f) (addF x S) = { walkS P (0 + 400) S with status := 0, fuel := (x : Int) } := by
      rw [Nat.zero_add, walk_addF HK.out.right HK.out.inv x (by omega) f (by rw [e0]; decide), e2]
      show ({ walkS P f S with fuel := (walkS P f S).fuel + x } : St) = { walkS P f S with status := 0, fuel := (x : Int) }
      rw [e1, Int.zero_add]
      generalize walkS P f S = Z at e0
      obtain ⟨z1, z2, z3, z4, z5, z6, z7⟩ := Z
      dsimp only at e0 ⊢
      rw [e0]
    have oth : ∀ b, b ≠ wa.heap.size → b < (wc.alloc (.cells csc 34)).heap.size → (World.setCell (World.setCell (wc.alloc (.cells csc 34)) ⟨wa.heap.size, 0, none⟩ (.int .i64 0)) ⟨wa.heap.size, 19, none⟩ (.int .i64 (x : Int))).heap[b]? = (wc.alloc (.cells csc 34)).heap[b]? := fun b h _ => (heap_setCell_other _ _ _ _ (by simpa using h)).trans (heap_setCell_other _ _ _ _ (by simpa using h))
    have re : (World.setCell (World.setCell (wc.alloc (.cells csc 34)) ⟨wa.heap.size, 0, none⟩ (.int .i64 0)) ⟨wa.heap.size, 19, none⟩ (.int .i64 (x : Int))).heap[wa.heap.size]? = some (.cells ((csa.setIfInBounds 0 (.int .i64 0)).setIfInBounds 19 (.int .i64 (x : Int))) 34 (0, 0)) := heap_setCell_same _ _ _ _ _ _ (heap_setCell_same _ _ _ _ _ _ ra)
    have rbe : (World.setCell (World.setCell (wc.alloc (.cells csc 34)) ⟨wa.heap.size, 0, none⟩ (.int .i64 0)) ⟨wa.heap.size, 19, none⟩ (.int .i64 (x : Int))).heap[wb.heap.size]? = some (.cells csb 34 (0, 0)) := (oth _ (by omega) (by simp; omega)).trans rb
    have qe : (Tryd.prog.info? 34).map (·.size) = some ((csa.setIfInBounds 0 (.int .i64 0)).setIfInBounds 19 (.int .i64 (x : Int))).size := by rw [Array.size_setIfInBounds, Array.size_setIfInBounds]; exact qa
    have HSS : Hid (Calls Tryd.prog 24 #[.agg ((csa.setIfInBounds 0 (.int .i64 0)).setIfInBounds 19 (.int .i64 (x : Int))), .agg csb] (World.setCell (World.setCell (wc.alloc (.cells csc 34)) ⟨wa.heap.size, 0, none⟩ (.int .i64 0)) ⟨wa.heap.size, 19, none⟩ (.int .i64 (x : Int))) _) := sameState_keep _ _ _ _ (((hKA _ oth).setStatus 0).setFuel (x : Int)) (by have := hKB _ oth; rw [eb] at this; exact this)
    have rd : (World.setCell (wc.alloc (.cells csc 34)) ⟨wa.heap.size, 0, none⟩ (.int .i64 0)).heap[wa.heap.size]? = some (.cells (csa.setIfInBounds 0 (.int .i64 0)) 34 (0, 0)) := heap_setCell_same _ _ _ _ _ _ ra
    have d19 : (World.setCell (wc.alloc (.cells csc 34)) ⟨wa.heap.size, 0, none⟩ (.int .i64 0)).cell? ⟨w2.heap.size, 19, none⟩ = some (.int .i64 (f : Int)) := cell_setCell_other k19 (by simp; omega)
    have u19 : (World.setCell (wc.alloc (.cells csc 34)) ⟨wa.heap.size, 0, none⟩ (.int .i64 0)).cell? ⟨(w2.heap.size + 1), 19, none⟩ = some (.int .i64 ((f : Int) + (x : Int))) := cell_setCell_other t19 (by simp; omega)
    have b19 : (World.setCell (wc.alloc (.cells csc 34)) ⟨wa.heap.size, 0, none⟩ (.int .i64 0)).cell? ⟨wa.heap.size, 19, none⟩ = some (.int .i64 (walkS P (0 + 400) S).fuel) := by rw [cell_of_row _ _ _ _ _ _ rd, Array.getElem?_setIfInBounds, if_neg (by decide)]; exact sa.at.2.2.1
    have v19 : (World.setCell (wc.alloc (.cells csc 34)) ⟨wa.heap.size, 0, none⟩ (.int .i64 0)).frozen? ⟨wa.heap.size, 19, none⟩ = false := frozen_of_row _ _ _ _ _ rd
    have BE : Hid (Below w.heap.size w (World.setCell (World.setCell (wc.alloc (.cells csc 34)) ⟨wa.heap.size, 0, none⟩ (.int .i64 0)) ⟨wa.heap.size, 19, none⟩ (.int .i64 (x : Int)))) := (BF.out.setCell (by simp; have := B01.out.size; simp at this; have := HZ12.out; simp at this; omega) _).setCell (by simp; have := B01.out.size; simp at this; have := HZ12.out; simp at this; omega) _
    rw [h2] at ka0
    generalize (walkS P (0 + 400) S).fuel = fua at ka19 b19
    clear sa sb sc hKA hKB hKC hfA h2 e0 e1 e2 eb oth rd rb rc ra hza hzb hzc
    go_wp2_with (first
      | (refine wpList_load_row rfl _ _ rfl wa.heap.size rfl _ _ _ _ re Tryd.underlying34 rfl qe ?_)
      | (refine wpList_load_row rfl _ _ rfl wb.heap.size rfl _ _ _ _ rbe Tryd.underlying34 rfl qb ?_)
      | (go_at_call 24; refine HSS.out.mono ?_; rintro e w6 ⟨rfl, hb6⟩))
    go_ret
    exact ⟨rfl, BE.out.trans (hb6.mono BE.out.size)⟩
  · have eA := walk_addF HK.out.right HK.out.inv x (by omega) (0 + 400) h2
    have hend := run_ended HK.out.right HK.out.inv (0 + 400) (by have := HS0.out.1; omega)
    have ec : walkS P (0 + 500) (addF x S) = { walkS P (0 + 400) S with fuel := (walkS P (0 + 400) S).fuel + x } := by
      rw [walkS_ended P (0 + 400) (0 + 500) (addF x S) (by omega) (by rw [eA]; exact hend), eA]; rfl
    have hfb : 0 ≤ (walkS P (0 + 400) S).fuel ∧ (walkS P (0 + 400) S).fuel ≤ 10000 := ⟨hfA.2.2.1, hfA.2.2.2.1⟩
    obtain ⟨fua, hfua⟩ : ∃ z, z = (walkS P (0 + 400) S).fuel := ⟨_, rfl⟩
    rw [← hfua] at hfb ka19 ec
    have hwa : IntKind.i64.wrap (fua + (x : Int)) = fua + (x : Int) := wrap_fits _ (by omega) (by omega)
    have oth : ∀ b, b ≠ wa.heap.size → b < (wc.alloc (.cells csc 34)).heap.size → (World.setCell (wc.alloc (.cells csc 34)) ⟨wa.heap.size, 19, none⟩ (.int .i64 (fua + (x : Int)))).heap[b]? = (wc.alloc (.cells csc 34)).heap[b]? := fun b h _ => heap_setCell_other _ _ _ _ (by simpa using h)
    have re : (World.setCell (wc.alloc (.cells csc 34)) ⟨wa.heap.size, 19, none⟩ (.int .i64 (fua + (x : Int)))).heap[wa.heap.size]? = some (.cells (csa.setIfInBounds 19 (.int .i64 (fua + (x : Int)))) 34 (0, 0)) := heap_setCell_same _ _ _ _ _ _ ra
    have rce : (World.setCell (wc.alloc (.cells csc 34)) ⟨wa.heap.size, 19, none⟩ (.int .i64 (fua + (x : Int)))).heap[wc.heap.size]? = some (.cells csc 34 (0, 0)) := (oth _ (by omega) (by simp)).trans rc
    have qe : (Tryd.prog.info? 34).map (·.size) = some (csa.setIfInBounds 19 (.int .i64 (fua + (x : Int)))).size := by rw [Array.size_setIfInBounds]; exact qa
    have HSS : Hid (Calls Tryd.prog 24 #[.agg (csa.setIfInBounds 19 (.int .i64 (fua + (x : Int)))), .agg csc] (World.setCell (wc.alloc (.cells csc 34)) ⟨wa.heap.size, 19, none⟩ (.int .i64 (fua + (x : Int)))) _) := sameState_keep _ _ _ _ ((hKA _ oth).setFuel (fua + (x : Int))) (by have := hKC _ oth; rw [ec] at this; exact this)
    have BE : Hid (Below w.heap.size w (World.setCell (wc.alloc (.cells csc 34)) ⟨wa.heap.size, 19, none⟩ (.int .i64 (fua + (x : Int))))) := BF.out.setCell (by simp; have := B01.out.size; simp at this; have := HZ12.out; simp at this; omega) _
    generalize (walkS P (0 + 400) S).status = sta at ka0 h2
    clear sa sb sc hKA hKB hKC hfA hend ec eA oth rb rc ra hza hzb hzc hfua
    go_wp2_with (first
      | (refine wpList_load_row rfl _ _ rfl wa.heap.size rfl _ _ _ _ re Tryd.underlying34 rfl qe ?_)
      | (refine wpList_load_row rfl _ _ rfl wc.heap.size rfl _ _ _ _ rce Tryd.underlying34 rfl qc ?_)
      | (go_at_call 24; refine HSS.out.mono ?_; rintro e w6 ⟨rfl, hb6⟩))
    go_ret
    exact ⟨rfl, BE.out.trans (hb6.mono BE.out.size)⟩
end Go.Proofs.YtcjclencbjllhaaDoor
