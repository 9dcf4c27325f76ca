/- Contract of (*cpu.machine).step (written by gen/mkcpustep.py). -/
import Derived.Test.YtapjfiihfgndeaaDoorCpuVal
import Derived.Test.YtapjfiihfgndeaaDoorRvDec
import Derived.Test.YtapjfiihfgndeaaDoorRvKeep
import Derived.Test.YtapjfiihfgndeaaDoorTail2
import Derived.Deep.DeepCutAuto
namespace Go.Proofs.YtapjfiihfgndeaaDoor
open Go Go.RowKit

set_option maxRecDepth 100000 in
set_option maxHeartbeats 4000000 in
theorem cstep_kind (base g : Nat) (c : Cp) (ws : List Int) (ao : Option Addr) (cap : Nat) (w : World) (h : MAt w base g c (.slice ao ws.length cap)) (ht : RvTab w) (hv : IntsVal w (.slice ao ws.length cap) ws) (p0 : 0 ≤ c.pc) (p1 : c.pc < ws.length) (hl : ws.length ≤ 32768) (hd : decE (ws.getD c.pc.toNat 0) ≠ 0) :
    Calls Tryd.prog 27 #[.pointer (some ⟨g, 0, none⟩)] w fun e w' => e = .returned (.int .i64 3) ∧ MAt w' base g c (.slice ao ws.length cap) ∧ Below base w w' := by
  obtain ⟨k, hk⟩ := Int.eq_ofNat_of_zero_le p0
  have hkl : k < ws.length := by omega
  have hgd : ws.getD c.pc.toNat 0 = ws[k] := by rw [hk]; simp [List.getD, hkl]
  have hgk : ws.getD k 0 = ws[k] := by simp [List.getD, hkl]
  obtain ⟨ao', b', off', n', cap', ev, hln, hao, hcl, hcp, hmx⟩ := hv
  obtain ⟨rfl, rfl, rfl⟩ : ao = ao' ∧ ws.length = n' ∧ cap = cap' := by simpa using ev
  obtain rfl := hao (by omega)
  have hcw := hcl k hkl
  have HDE : Hid (∀ V, Below w.heap.size w V → Calls Tryd.prog 35 #[.int .i64 ws[k]] V fun e w' => e = .returned (.tuple #[(decX ws[k]).val, .int .i64 (decE ws[k])]) ∧ Below V.heap.size V w') := fun V hV => rdecode_any ws[k] V (ht.below hV)
  rw [hgd] at hd
  have hne : (decE ws[k] != 0) = true := by simpa using hd
  generalize hE : decE ws[k] = E at *
  generalize ws[k] = wd at *
  generalize hX : decX wd = X at *
  have HM : Hid (∀ n, MAt (w.drewN n) base g c (.slice (some ⟨b', off', none⟩) ws.length cap)) := fun n => h.drewN n
  have HB0 : Hid (∀ n, Below w.heap.size w (w.drewN n)) := fun n => below_drewN (Below.refl _ _) n
  have HBB : Hid (∀ n, Below base w (w.drewN n)) := fun n => below_drewN (Below.refl _ _) n
  have HCW : Hid (∀ n, (w.drewN n).cell? ⟨b', off' + k, none⟩ = some (.int .i64 wd)) := fun n => (HB0.out n).cell (p := ⟨b', off' + k, none⟩) (World.block_lt_of_cell? _ _ hcw) |>.trans hcw
  have HZB : Hid (base ≤ w.heap.size) := by have := h.lt; have := h.low; show _ ≤ _; omega
  have c96 := h.pc
  have c98 := h.words
  rw [hk] at c96
  clear hcl ev hln hgd hgk hao
  generalize ws.length = n at *
  have hkI : (k : Int) < n := by omega
  have d1 : decide ((k : Int) < 0) = false := by simp
  have d2 : decide ((n : Int) ≤ (k : Int)) = false := by simp; omega
  have d3 : decide (n ≤ k) = false := by simp; omega
  have hcp1 : n ≤ cap := hcp.1
  have hcap : cap ≤ 9223372036854775807 := by have := hmx; unfold maxLen at this; exact this
  clear h ht hcp hmx hcw p0 p1
  go_enter Tryd.func27, Tryd.ntmps27
  go_wp2
  go_quiet (fail)
  have HM1 : Hid _ := HM.out nq
  have HBW : Hid _ := HB0.out nq
  have HBX : Hid _ := HBB.out nq
  have cwd := HCW.out nq
  clear c96 c98 d1 d2 d3
  generalize w.drewN nq = W1 at HM1 HBW HBX cwd ⊢
  have c96 := HM1.out.pc
  have c98 := HM1.out.words
  rw [hk] at c96
  replace HDE : Hid (∀ V, Below W1.heap.size W1 V → Calls Tryd.prog 35 #[.int .i64 wd] V fun e w' => e = .returned (.tuple #[.agg (miC X).toArray, .int .i64 E]) ∧ Below V.heap.size V w') := fun V hV => HDE.out V (HBW.out.trans (hV.mono HBW.out.size))
  clear HM HB0 HBB HCW
  go_upto_region 3 with fail
  go_cut [3, 4] from 22 to 35 (fun s3 s4 wx => ∃ G : Nat, s3 = .pointer (some ⟨G, 0, none⟩) ∧ s4 = .int .i64 E ∧ wx.heap[G]? = some (.cells (miC X).toArray 41 (0, 0)) ∧ Below W1.heap.size W1 wx ∧ W1.heap.size ≤ G)
  case first =>
    refine wp_region_held_drew (S := fun V => Below W1.heap.size W1 V) (by kernel_rfl) ((Below.refl _ _).drew) (fun hHeld => ?_)
    show wpAnyH _ _ _ _ _ 17 _ _ _
    refine wpAnyH_take (i := 0) (v := ?_) rfl (by kernel_rfl) (by kernel_rfl) (by kernel_rfl) (fun _ _ _ h => h) (Or.inl ⟨by rfl, ?_⟩) (by assumption) ?_
    rotate_left
    · (intro W hSW; go_simp; try (with_reducible rfl))
    (try simp only [Act.put, List.setIfInBounds_toArray])
    refine wpAnyH_take (i := 1) (v := ?_) rfl (by kernel_rfl) (by kernel_rfl) (by kernel_rfl) (fun _ _ _ h => h) (Or.inl ⟨by rfl, ?_⟩) (by assumption) ?_
    rotate_left
    · (intro W hSW; go_simp; try (with_reducible rfl))
    (try simp only [Act.put])
    refine wpAnyH_take (i := 2) (v := ?_) rfl (by kernel_rfl) (by kernel_rfl) (by kernel_rfl) (fun _ _ _ h => h) (Or.inl ⟨by rfl, ?_⟩) (by assumption) ?_
    rotate_left
    · (intro W hSW; go_simp; try (with_reducible rfl))
    (try simp only [Act.put])
    refine wpAnyH_take (i := 3) (v := ?_) rfl (by kernel_rfl) (by kernel_rfl) (by kernel_rfl) (fun _ _ _ h => h) (Or.inl ⟨by rfl, ?_⟩) (by assumption) ?_
    rotate_left
    · (intro W hSW; have z0 := keeps_below hSW _ _ c98; go_simp; try (with_reducible rfl))
    (try simp only [Act.put])
    refine wpAnyH_take (i := 4) (v := ?_) rfl (by kernel_rfl) (by kernel_rfl) (by kernel_rfl) (fun _ _ _ h => h) (Or.inl ⟨by rfl, ?_⟩) (by assumption) ?_
    rotate_left
    · (intro W hSW; go_simp; try (with_reducible rfl))
    (try simp only [Act.put])
    refine wpAnyH_take (i := 5) (v := ?_) rfl (by kernel_rfl) (by kernel_rfl) (by kernel_rfl) (fun _ _ _ h => h) (Or.inl ⟨by rfl, ?_⟩) (by assumption) ?_
    rotate_left
    · (intro W hSW; go_simp; try (with_reducible rfl))
    (try simp only [Act.put])
    refine wpAnyH_take (i := 6) (v := ?_) rfl (by kernel_rfl) (by kernel_rfl) (by kernel_rfl) (fun _ _ _ h => h) (Or.inl ⟨by rfl, ?_⟩) (by assumption) ?_
    rotate_left
    · (intro W hSW; go_simp; try (with_reducible rfl))
    (try simp only [Act.put])
    refine wpAnyH_take (i := 7) (v := ?_) rfl (by kernel_rfl) (by kernel_rfl) (by kernel_rfl) (fun _ _ _ h => h) (Or.inl ⟨by rfl, ?_⟩) (by assumption) ?_
    rotate_left
    · (intro W hSW; have z0 := keeps_below hSW _ _ c96; go_simp; try (with_reducible rfl))
    (try simp only [Act.put])
    refine wpAnyH_take (i := 8) (v := ?_) rfl (by kernel_rfl) (by kernel_rfl) (by kernel_rfl) (fun _ _ _ h => h) (Or.inl ⟨by rfl, ?_⟩) (by assumption) ?_
    rotate_left
    · (intro W hSW; go_simp; try (with_reducible rfl))
    (try simp only [Act.put])
    refine wpAnyH_take (i := 9) (v := ?_) rfl (by kernel_rfl) (by kernel_rfl) (by kernel_rfl) (fun _ _ _ h => h) (Or.inl ⟨by rfl, ?_⟩) (by assumption) ?_
    rotate_left
    · (intro W hSW; have z0 := keeps_below hSW _ _ cwd; go_simp; try (with_reducible rfl))
    (try simp only [Act.put])
    refine wpAnyH_ready (rs := [10, 14]) (by kernel_rfl) (by simp) ?_
    refine AllReadyH.cons rfl (fun K hK => ?_) (AllReadyH.cons rfl (fun K hK => ?_) AllReadyH.nil)
    · -- the call, then the box
      go_simp
      go_at_call 35
      refine (HDE.out _ hHeld).mono ?_
      rintro e wn ⟨rfl, hb⟩
      have hbn : Below W1.heap.size W1 wn := Below.trans hHeld (hb.mono (Below.size hHeld))
      dsimp only
      refine hK.out _ _ hbn (fun _ => ?_)
      clear hK K
      (try simp only [Act.put, List.setIfInBounds_toArray, List.set_cons_zero, List.set_cons_succ])
      refine wpAnyH_take (i := 11) (v := ?_) rfl (by kernel_rfl) (by kernel_rfl) (by kernel_rfl) (fun _ _ _ h => h) (Or.inl ⟨by rfl, ?_⟩) hbn ?_
      rotate_left
      · (intro V hSW; go_simp; try (with_reducible rfl))
      (try simp only [Act.put, List.setIfInBounds_toArray])
      refine wpAnyH_take (i := 12) (v := ?_) rfl (by kernel_rfl) (by kernel_rfl) (by kernel_rfl) (fun _ _ _ h => h) (Or.inl ⟨by rfl, ?_⟩) hbn ?_
      rotate_left
      · (intro V hSW; go_simp; try (with_reducible rfl))
      (try simp only [Act.put])
      refine wpAnyH_take (i := 13) (v := ?_) rfl (by kernel_rfl) (by kernel_rfl) (by kernel_rfl) (fun _ _ _ h => h) (Or.inl ⟨by rfl, ?_⟩) hbn ?_
      rotate_left
      · (intro V hSW; go_simp; try (with_reducible rfl))
      (try simp only [Act.put])
      refine wpAnyH_ready (rs := [14]) (by kernel_rfl) (by simp) ?_
      refine AllReadyH.cons rfl (fun K hK => ?_) AllReadyH.nil
      go_simp
      refine hK.out _ _ (hbn.alloc hbn.size _) (fun hHeld2 => ?_)
      clear hK K
      (try simp only [Act.put, List.setIfInBounds_toArray, List.set_cons_zero, List.set_cons_succ])
      refine wpAnyH_ready (rs := [15]) (by kernel_rfl) (by simp) ?_
      refine AllReadyH.cons rfl (fun K hK => ?_) AllReadyH.nil
      refine wp_store_row 41 _ _ rfl wn.heap.size (miC X).toArray rfl rfl 41 #[.int .i64 0, .int .i64 0, .int .i64 0, .int .i64 0, .int .i64 0] (heap_alloc_last wn _) infoRv rfl (miC_one _) ?_
      have BN : Below W1.heap.size W1 (World.setRow (wn.alloc (.cells #[.int .i64 0, .int .i64 0, .int .i64 0, .int .i64 0, .int .i64 0] 41)) wn.heap.size (miC X).toArray) := below_setRowR (hbn.alloc hbn.size _) hbn.size _
      refine hK.out _ _ BN (fun _ => ?_)
      clear hK K
      (try simp only [Act.put, List.setIfInBounds_toArray])
      refine wpAnyH_ready (rs := [16]) (by kernel_rfl) (by simp) ?_
      refine AllReadyH.cons rfl (fun K hK => ?_) AllReadyH.nil
      go_simp
      refine hK.out _ _ BN (fun _ => ?_)
      clear hK K
      (try simp only [Act.put, List.setIfInBounds_toArray, List.set_cons_zero, List.set_cons_succ])
      refine wpAnyH_done (by kernel_rfl) ?_ _
      go_wp2_with fail
      go_meet
      exact ⟨_, rfl, rfl, setRow_heap _ _ _ _ _ _ (heap_alloc_last wn _), BN, hbn.size⟩
    · -- the box, then the call
      go_simp
      refine hK.out _ _ ((Below.refl _ _).alloc (Nat.le_refl _) _).drew (fun hHeld2 => ?_)
      clear hK K
      (try simp only [Act.put, List.setIfInBounds_toArray, List.set_cons_zero, List.set_cons_succ])
      refine wpAnyH_ready (rs := [10]) (by kernel_rfl) (by simp) ?_
      refine AllReadyH.cons rfl (fun K hK => ?_) AllReadyH.nil
      go_simp
      go_at_call 35
      refine (HDE.out _ hHeld2).mono ?_
      rintro e wn ⟨rfl, hb⟩
      have hbn : Below W1.heap.size W1 wn := Below.trans hHeld2 (hb.mono (Below.size hHeld2))
      dsimp only
      refine hK.out _ _ hbn (fun _ => ?_)
      clear hK K
      (try simp only [Act.put, List.setIfInBounds_toArray, List.set_cons_zero, List.set_cons_succ])
      have hgz : wn.heap[W1.heap.size]? = some (.cells #[.int .i64 0, .int .i64 0, .int .i64 0, .int .i64 0, .int .i64 0] 41 (0, 0)) := (hb.block _ (by simp)).trans (heap_alloc_last W1 _)
      refine wpAnyH_take (i := 11) (v := ?_) rfl (by kernel_rfl) (by kernel_rfl) (by kernel_rfl) (fun _ _ _ h => h) (Or.inl ⟨by rfl, ?_⟩) hbn ?_
      rotate_left
      · (intro V hSW; go_simp; try (with_reducible rfl))
      (try simp only [Act.put, List.setIfInBounds_toArray])
      refine wpAnyH_take (i := 12) (v := ?_) rfl (by kernel_rfl) (by kernel_rfl) (by kernel_rfl) (fun _ _ _ h => h) (Or.inl ⟨by rfl, ?_⟩) hbn ?_
      rotate_left
      · (intro V hSW; go_simp; try (with_reducible rfl))
      (try simp only [Act.put])
      refine wpAnyH_take (i := 13) (v := ?_) rfl (by kernel_rfl) (by kernel_rfl) (by kernel_rfl) (fun _ _ _ h => h) (Or.inl ⟨by rfl, ?_⟩) hbn ?_
      rotate_left
      · (intro V hSW; go_simp; try (with_reducible rfl))
      (try simp only [Act.put])
      refine wpAnyH_ready (rs := [15]) (by kernel_rfl) (by simp) ?_
      refine AllReadyH.cons rfl (fun K hK => ?_) AllReadyH.nil
      refine wp_store_row 41 _ _ rfl W1.heap.size (miC X).toArray rfl rfl 41 #[.int .i64 0, .int .i64 0, .int .i64 0, .int .i64 0, .int .i64 0] hgz infoRv rfl (miC_one _) ?_
      have BN : Below W1.heap.size W1 (World.setRow wn W1.heap.size (miC X).toArray) := below_setRowR hbn (Nat.le_refl _) _
      refine hK.out _ _ BN (fun _ => ?_)
      clear hK K
      (try simp only [Act.put])
      refine wpAnyH_ready (rs := [16]) (by kernel_rfl) (by simp) ?_
      refine AllReadyH.cons rfl (fun K hK => ?_) AllReadyH.nil
      go_simp
      refine hK.out _ _ BN (fun _ => ?_)
      clear hK K
      (try simp only [Act.put, List.setIfInBounds_toArray, List.set_cons_zero, List.set_cons_succ])
      refine wpAnyH_done (by kernel_rfl) ?_ _
      go_wp2_with fail
      go_meet
      exact ⟨_, rfl, rfl, setRow_heap _ _ _ _ _ _ hgz, BN, Nat.le_refl _⟩
  case rest =>
    obtain ⟨G, rfl, rfl, hG, hbc, hGl⟩ := hcut
    have HMC : Hid (MAt wc base g c (.slice (some ⟨b', off', none⟩) n cap)) := HM1.out.below hbc HM1.out.lt
    have HBC : Hid (Below base w wc) := HBX.out.trans (hbc.mono (Nat.le_trans HZB.out HBW.out.size))
    clear c96 c98 cwd
    go_wp2
    go_ret
    exact ⟨rfl, HMC.out, HBC.out⟩
set_option maxRecDepth 100000 in
set_option maxHeartbeats 4000000 in
theorem cstep_do (base g : Nat) (c : Cp) (ws : List Int) (ao : Option Addr) (cap : Nat) (w : World) (h : MAt w base g c (.slice ao ws.length cap)) (ht : RvTab w) (hv : IntsVal w (.slice ao ws.length cap) ws) (p0 : 0 ≤ c.pc) (p1 : c.pc < ws.length) (hl : ws.length ≤ 32768) (hd : decE (ws.getD c.pc.toNat 0) = 0) :
    Calls Tryd.prog 27 #[.pointer (some ⟨g, 0, none⟩)] w fun e w' => e = .returned (.int .i64 (doE (decX (ws.getD c.pc.toNat 0)) (c.reg (decX (ws.getD c.pc.toNat 0)).rs1))) ∧ MAt w' base g (stepC ws c) (.slice ao ws.length cap) ∧ Below base w w' := by
  obtain ⟨k, hk⟩ := Int.eq_ofNat_of_zero_le p0
  have hkl : k < ws.length := by omega
  have hgd : ws.getD c.pc.toNat 0 = ws[k] := by rw [hk]; simp [List.getD, hkl]
  have hgk : ws.getD k 0 = ws[k] := by simp [List.getD, hkl]
  obtain ⟨ao', b', off', n', cap', ev, hln, hao, hcl, hcp, hmx⟩ := hv
  obtain ⟨rfl, rfl, rfl⟩ : ao = ao' ∧ ws.length = n' ∧ cap = cap' := by simpa using ev
  obtain rfl := hao (by omega)
  have hcw := hcl k hkl
  have HDE : Hid (∀ V, Below w.heap.size w V → Calls Tryd.prog 35 #[.int .i64 ws[k]] V fun e w' => e = .returned (.tuple #[(decX ws[k]).val, .int .i64 (decE ws[k])]) ∧ Below V.heap.size V w') := fun V hV => rdecode_any ws[k] V (ht.below hV)
  rw [hgd] at hd
  have HP : Hid (0 ≤ c.pc ∧ c.pc < 100000) := ⟨p0, by omega⟩
  have HXO : Hid (MiOk (decX ws[k])) := (word_dec ws[k] hd).1
  rw [hd] at HDE
  unfold stepC
  rw [hgd]
  clear hd
  generalize ws[k] = wd at *
  generalize hX : decX wd = X at *
  have HM : Hid (∀ n, MAt (w.drewN n) base g c (.slice (some ⟨b', off', none⟩) ws.length cap)) := fun n => h.drewN n
  have HB0 : Hid (∀ n, Below w.heap.size w (w.drewN n)) := fun n => below_drewN (Below.refl _ _) n
  have HBB : Hid (∀ n, Below base w (w.drewN n)) := fun n => below_drewN (Below.refl _ _) n
  have HCW : Hid (∀ n, (w.drewN n).cell? ⟨b', off' + k, none⟩ = some (.int .i64 wd)) := fun n => (HB0.out n).cell (p := ⟨b', off' + k, none⟩) (World.block_lt_of_cell? _ _ hcw) |>.trans hcw
  have HZB : Hid (base ≤ w.heap.size) := by have := h.lt; have := h.low; show _ ≤ _; omega
  have c96 := h.pc
  have c98 := h.words
  rw [hk] at c96
  clear hcl ev hln hgd hgk hao
  generalize ws.length = n at *
  have hkI : (k : Int) < n := by omega
  have d1 : decide ((k : Int) < 0) = false := by simp
  have d2 : decide ((n : Int) ≤ (k : Int)) = false := by simp; omega
  have d3 : decide (n ≤ k) = false := by simp; omega
  have hcp1 : n ≤ cap := hcp.1
  have hcap : cap ≤ 9223372036854775807 := by have := hmx; unfold maxLen at this; exact this
  clear h ht hcp hmx hcw p0 p1
  go_enter Tryd.func27, Tryd.ntmps27
  go_wp2
  go_quiet (fail)
  have HM1 : Hid _ := HM.out nq
  have HBW : Hid _ := HB0.out nq
  have HBX : Hid _ := HBB.out nq
  have cwd := HCW.out nq
  clear c96 c98 d1 d2 d3
  generalize w.drewN nq = W1 at HM1 HBW HBX cwd ⊢
  have c96 := HM1.out.pc
  have c98 := HM1.out.words
  rw [hk] at c96
  replace HDE : Hid (∀ V, Below W1.heap.size W1 V → Calls Tryd.prog 35 #[.int .i64 wd] V fun e w' => e = .returned (.tuple #[.agg (miC X).toArray, .int .i64 0]) ∧ Below V.heap.size V w') := fun V hV => HDE.out V (HBW.out.trans (hV.mono HBW.out.size))
  clear HM HB0 HBB HCW
  go_upto_region 3 with fail
  go_cut [3, 4] from 22 to 35 (fun s3 s4 wx => ∃ G : Nat, s3 = .pointer (some ⟨G, 0, none⟩) ∧ s4 = .int .i64 0 ∧ wx.heap[G]? = some (.cells (miC X).toArray 41 (0, 0)) ∧ Below W1.heap.size W1 wx ∧ W1.heap.size ≤ G)
  case first =>
    refine wp_region_held_drew (S := fun V => Below W1.heap.size W1 V) (by kernel_rfl) ((Below.refl _ _).drew) (fun hHeld => ?_)
    show wpAnyH _ _ _ _ _ 17 _ _ _
    refine wpAnyH_take (i := 0) (v := ?_) rfl (by kernel_rfl) (by kernel_rfl) (by kernel_rfl) (fun _ _ _ h => h) (Or.inl ⟨by rfl, ?_⟩) (by assumption) ?_
    rotate_left
    · (intro W hSW; go_simp; try (with_reducible rfl))
    (try simp only [Act.put, List.setIfInBounds_toArray])
    refine wpAnyH_take (i := 1) (v := ?_) rfl (by kernel_rfl) (by kernel_rfl) (by kernel_rfl) (fun _ _ _ h => h) (Or.inl ⟨by rfl, ?_⟩) (by assumption) ?_
    rotate_left
    · (intro W hSW; go_simp; try (with_reducible rfl))
    (try simp only [Act.put])
    refine wpAnyH_take (i := 2) (v := ?_) rfl (by kernel_rfl) (by kernel_rfl) (by kernel_rfl) (fun _ _ _ h => h) (Or.inl ⟨by rfl, ?_⟩) (by assumption) ?_
    rotate_left
    · (intro W hSW; go_simp; try (with_reducible rfl))
    (try simp only [Act.put])
    refine wpAnyH_take (i := 3) (v := ?_) rfl (by kernel_rfl) (by kernel_rfl) (by kernel_rfl) (fun _ _ _ h => h) (Or.inl ⟨by rfl, ?_⟩) (by assumption) ?_
    rotate_left
    · (intro W hSW; have z0 := keeps_below hSW _ _ c98; go_simp; try (with_reducible rfl))
    (try simp only [Act.put])
    refine wpAnyH_take (i := 4) (v := ?_) rfl (by kernel_rfl) (by kernel_rfl) (by kernel_rfl) (fun _ _ _ h => h) (Or.inl ⟨by rfl, ?_⟩) (by assumption) ?_
    rotate_left
    · (intro W hSW; go_simp; try (with_reducible rfl))
    (try simp only [Act.put])
    refine wpAnyH_take (i := 5) (v := ?_) rfl (by kernel_rfl) (by kernel_rfl) (by kernel_rfl) (fun _ _ _ h => h) (Or.inl ⟨by rfl, ?_⟩) (by assumption) ?_
    rotate_left
    · (intro W hSW; go_simp; try (with_reducible rfl))
    (try simp only [Act.put])
    refine wpAnyH_take (i := 6) (v := ?_) rfl (by kernel_rfl) (by kernel_rfl) (by kernel_rfl) (fun _ _ _ h => h) (Or.inl ⟨by rfl, ?_⟩) (by assumption) ?_
    rotate_left
    · (intro W hSW; go_simp; try (with_reducible rfl))
    (try simp only [Act.put])
    refine wpAnyH_take (i := 7) (v := ?_) rfl (by kernel_rfl) (by kernel_rfl) (by kernel_rfl) (fun _ _ _ h => h) (Or.inl ⟨by rfl, ?_⟩) (by assumption) ?_
    rotate_left
    · (intro W hSW; have z0 := keeps_below hSW _ _ c96; go_simp; try (with_reducible rfl))
    (try simp only [Act.put])
    refine wpAnyH_take (i := 8) (v := ?_) rfl (by kernel_rfl) (by kernel_rfl) (by kernel_rfl) (fun _ _ _ h => h) (Or.inl ⟨by rfl, ?_⟩) (by assumption) ?_
    rotate_left
    · (intro W hSW; go_simp; try (with_reducible rfl))
    (try simp only [Act.put])
    refine wpAnyH_take (i := 9) (v := ?_) rfl (by kernel_rfl) (by kernel_rfl) (by kernel_rfl) (fun _ _ _ h => h) (Or.inl ⟨by rfl, ?_⟩) (by assumption) ?_
    rotate_left
    · (intro W hSW; have z0 := keeps_below hSW _ _ cwd; go_simp; try (with_reducible rfl))
    (try simp only [Act.put])
    refine wpAnyH_ready (rs := [10, 14]) (by kernel_rfl) (by simp) ?_
    refine AllReadyH.cons rfl (fun K hK => ?_) (AllReadyH.cons rfl (fun K hK => ?_) AllReadyH.nil)
    · -- the call, then the box
      go_simp
      go_at_call 35
      refine (HDE.out _ hHeld).mono ?_
      rintro e wn ⟨rfl, hb⟩
      have hbn : Below W1.heap.size W1 wn := Below.trans hHeld (hb.mono (Below.size hHeld))
      dsimp only
      refine hK.out _ _ hbn (fun _ => ?_)
      clear hK K
      (try simp only [Act.put, List.setIfInBounds_toArray, List.set_cons_zero, List.set_cons_succ])
      refine wpAnyH_take (i := 11) (v := ?_) rfl (by kernel_rfl) (by kernel_rfl) (by kernel_rfl) (fun _ _ _ h => h) (Or.inl ⟨by rfl, ?_⟩) hbn ?_
      rotate_left
      · (intro V hSW; go_simp; try (with_reducible rfl))
      (try simp only [Act.put, List.setIfInBounds_toArray])
      refine wpAnyH_take (i := 12) (v := ?_) rfl (by kernel_rfl) (by kernel_rfl) (by kernel_rfl) (fun _ _ _ h => h) (Or.inl ⟨by rfl, ?_⟩) hbn ?_
      rotate_left
      · (intro V hSW; go_simp; try (with_reducible rfl))
      (try simp only [Act.put])
      refine wpAnyH_take (i := 13) (v := ?_) rfl (by kernel_rfl) (by kernel_rfl) (by kernel_rfl) (fun _ _ _ h => h) (Or.inl ⟨by rfl, ?_⟩) hbn ?_
      rotate_left
      · (intro V hSW; go_simp; try (with_reducible rfl))
      (try simp only [Act.put])
      refine wpAnyH_ready (rs := [14]) (by kernel_rfl) (by simp) ?_
      refine AllReadyH.cons rfl (fun K hK => ?_) AllReadyH.nil
      go_simp
      refine hK.out _ _ (hbn.alloc hbn.size _) (fun hHeld2 => ?_)
      clear hK K
      (try simp only [Act.put, List.setIfInBounds_toArray, List.set_cons_zero, List.set_cons_succ])
      refine wpAnyH_ready (rs := [15]) (by kernel_rfl) (by simp) ?_
      refine AllReadyH.cons rfl (fun K hK => ?_) AllReadyH.nil
      refine wp_store_row 41 _ _ rfl wn.heap.size (miC X).toArray rfl rfl 41 #[.int .i64 0, .int .i64 0, .int .i64 0, .int .i64 0, .int .i64 0] (heap_alloc_last wn _) infoRv rfl (miC_one _) ?_
      have BN : Below W1.heap.size W1 (World.setRow (wn.alloc (.cells #[.int .i64 0, .int .i64 0, .int .i64 0, .int .i64 0, .int .i64 0] 41)) wn.heap.size (miC X).toArray) := below_setRowR (hbn.alloc hbn.size _) hbn.size _
      refine hK.out _ _ BN (fun _ => ?_)
      clear hK K
      (try simp only [Act.put, List.setIfInBounds_toArray])
      refine wpAnyH_ready (rs := [16]) (by kernel_rfl) (by simp) ?_
      refine AllReadyH.cons rfl (fun K hK => ?_) AllReadyH.nil
      go_simp
      refine hK.out _ _ BN (fun _ => ?_)
      clear hK K
      (try simp only [Act.put, List.setIfInBounds_toArray, List.set_cons_zero, List.set_cons_succ])
      refine wpAnyH_done (by kernel_rfl) ?_ _
      go_wp2_with fail
      go_meet
      exact ⟨_, rfl, rfl, setRow_heap _ _ _ _ _ _ (heap_alloc_last wn _), BN, hbn.size⟩
    · -- the box, then the call
      go_simp
      refine hK.out _ _ ((Below.refl _ _).alloc (Nat.le_refl _) _).drew (fun hHeld2 => ?_)
      clear hK K
      (try simp only [Act.put, List.setIfInBounds_toArray, List.set_cons_zero, List.set_cons_succ])
      refine wpAnyH_ready (rs := [10]) (by kernel_rfl) (by simp) ?_
      refine AllReadyH.cons rfl (fun K hK => ?_) AllReadyH.nil
      go_simp
      go_at_call 35
      refine (HDE.out _ hHeld2).mono ?_
      rintro e wn ⟨rfl, hb⟩
      have hbn : Below W1.heap.size W1 wn := Below.trans hHeld2 (hb.mono (Below.size hHeld2))
      dsimp only
      refine hK.out _ _ hbn (fun _ => ?_)
      clear hK K
      (try simp only [Act.put, List.setIfInBounds_toArray, List.set_cons_zero, List.set_cons_succ])
      have hgz : wn.heap[W1.heap.size]? = some (.cells #[.int .i64 0, .int .i64 0, .int .i64 0, .int .i64 0, .int .i64 0] 41 (0, 0)) := (hb.block _ (by simp)).trans (heap_alloc_last W1 _)
      refine wpAnyH_take (i := 11) (v := ?_) rfl (by kernel_rfl) (by kernel_rfl) (by kernel_rfl) (fun _ _ _ h => h) (Or.inl ⟨by rfl, ?_⟩) hbn ?_
      rotate_left
      · (intro V hSW; go_simp; try (with_reducible rfl))
      (try simp only [Act.put, List.setIfInBounds_toArray])
      refine wpAnyH_take (i := 12) (v := ?_) rfl (by kernel_rfl) (by kernel_rfl) (by kernel_rfl) (fun _ _ _ h => h) (Or.inl ⟨by rfl, ?_⟩) hbn ?_
      rotate_left
      · (intro V hSW; go_simp; try (with_reducible rfl))
      (try simp only [Act.put])
      refine wpAnyH_take (i := 13) (v := ?_) rfl (by kernel_rfl) (by kernel_rfl) (by kernel_rfl) (fun _ _ _ h => h) (Or.inl ⟨by rfl, ?_⟩) hbn ?_
      rotate_left
      · (intro V hSW; go_simp; try (with_reducible rfl))
      (try simp only [Act.put])
      refine wpAnyH_ready (rs := [15]) (by kernel_rfl) (by simp) ?_
      refine AllReadyH.cons rfl (fun K hK => ?_) AllReadyH.nil
      refine wp_store_row 41 _ _ rfl W1.heap.size (miC X).toArray rfl rfl 41 #[.int .i64 0, .int .i64 0, .int .i64 0, .int .i64 0, .int .i64 0] hgz infoRv rfl (miC_one _) ?_
      have BN : Below W1.heap.size W1 (World.setRow wn W1.heap.size (miC X).toArray) := below_setRowR hbn (Nat.le_refl _) _
      refine hK.out _ _ BN (fun _ => ?_)
      clear hK K
      (try simp only [Act.put])
      refine wpAnyH_ready (rs := [16]) (by kernel_rfl) (by simp) ?_
      refine AllReadyH.cons rfl (fun K hK => ?_) AllReadyH.nil
      go_simp
      refine hK.out _ _ BN (fun _ => ?_)
      clear hK K
      (try simp only [Act.put, List.setIfInBounds_toArray, List.set_cons_zero, List.set_cons_succ])
      refine wpAnyH_done (by kernel_rfl) ?_ _
      go_wp2_with fail
      go_meet
      exact ⟨_, rfl, rfl, setRow_heap _ _ _ _ _ _ hgz, BN, Nat.le_refl _⟩
  case rest =>
    obtain ⟨G, rfl, rfl, hG, hbc, hGl⟩ := hcut
    have HMC : Hid (MAt wc base g c (.slice (some ⟨b', off', none⟩) n cap)) := HM1.out.below hbc HM1.out.lt
    have HBC : Hid (Below base w wc) := HBX.out.trans (hbc.mono (Nat.le_trans HZB.out HBW.out.size))
    clear c96 c98 cwd
    obtain ⟨-, -, s0, s1, t0, t1, -, -⟩ := mi_bounds X HXO.out
    obtain ⟨q1, hq1⟩ := Int.eq_ofNat_of_zero_le s0
    obtain ⟨q2, hq2⟩ := Int.eq_ofNat_of_zero_le t0
    have x2 : wc.cell? ⟨G, 2, none⟩ = some (.int .i64 (q1 : Int)) := by rw [cell_of_row _ _ _ _ _ _ hG, ← hq1]; rfl
    have x3 : wc.cell? ⟨G, 3, none⟩ = some (.int .i64 (q2 : Int)) := by rw [cell_of_row _ _ _ _ _ _ hG, ← hq2]; rfl
    have HXR : Hid (wc.rangeAt G 0 (miC X)) := range_of_row hG 0 _ (fun j u hu => by simpa using hu)
    have HXZ : Hid (G < wc.heap.size) := lt_of_block hG
    have hq1I : (q1 : Int) < 32 := by omega
    have hq2I : (q2 : Int) < 32 := by omega
    have cr1 := HMC.out.reg q1 (by omega)
    have cr2 := HMC.out.reg q2 (by omega)
    have er1 : c.reg X.rs1 = c.regs.getD q1 0 := by unfold Cp.reg; rw [hq1]; rfl
    have er2 : c.reg X.rs2 = c.regs.getD q2 0 := by unfold Cp.reg; rw [hq2]; rfl
    obtain ⟨va, hva⟩ : ∃ va, va = c.regs.getD q1 0 := ⟨_, rfl⟩
    obtain ⟨vb, hvb⟩ : ∃ vb, vb = c.regs.getD q2 0 := ⟨_, rfl⟩
    rw [← hva] at cr1 er1
    rw [← hvb] at cr2 er2
    have HE1 : Hid (c.reg X.rs1 = va) := er1
    have HE2 : Hid (c.reg X.rs2 = vb) := er2
    clear hG hbc hGl hq1 hq2 er1 er2 s0 s1 t0 t1 hX hkl hk hva hvb
    go_upto_region 6 with fail
    refine wp_region_last2 (S := fun V => Below wc.heap.size wc V) _ 16 (by kernel_rfl) (by kernel_rfl) rfl (by kernel_rfl) rfl ((Below.refl _ _).drew) (fun hHeld => ?_)
    simp only [List.pop_toArray, List.dropLast]
    refine wpAnyH_take (i := 0) (v := ?_) rfl (by kernel_rfl) (by kernel_rfl) (by kernel_rfl) (fun _ _ _ h => h) (Or.inl ⟨by rfl, ?_⟩) (by assumption) ?_
    rotate_left
    · (intro W hSW; go_simp; try (with_reducible rfl))
    (try simp only [Act.put, List.setIfInBounds_toArray])
    refine wpAnyH_take (i := 1) (v := .agg (miC X).toArray) rfl (by kernel_rfl) (by kernel_rfl) (by kernel_rfl) (fun _ _ _ h => h) (yieldsIf_load_mid (by rfl) 41 (.tmp 3) rfl G (0) rfl (miC X) _ (fun V hV => range_below HXR.out hV HXZ.out) Tryd.underlying41 rfl infoRv) (by assumption) ?_
    simp only [List.getElem_toArray, List.getElem_cons_succ, List.getElem_cons_zero]
    (try simp only [Act.put, List.setIfInBounds_toArray, List.set_cons_zero, List.set_cons_succ])
    refine wpAnyH_take (i := 2) (v := ?_) rfl (by kernel_rfl) (by kernel_rfl) (by kernel_rfl) (fun _ _ _ h => h) (Or.inl ⟨by rfl, ?_⟩) (by assumption) ?_
    rotate_left
    · (intro W hSW; go_simp; try (with_reducible rfl))
    (try simp only [Act.put, List.setIfInBounds_toArray])
    refine wpAnyH_take (i := 3) (v := ?_) rfl (by kernel_rfl) (by kernel_rfl) (by kernel_rfl) (fun _ _ _ h => h) (Or.inl ⟨by rfl, ?_⟩) (by assumption) ?_
    rotate_left
    · (intro W hSW; go_simp; try (with_reducible rfl))
    (try simp only [Act.put])
    refine wpAnyH_take (i := 4) (v := ?_) rfl (by kernel_rfl) (by kernel_rfl) (by kernel_rfl) (fun _ _ _ h => h) (Or.inl ⟨by rfl, ?_⟩) (by assumption) ?_
    rotate_left
    · (intro W hSW; have z0 := keeps_below hSW _ _ x2; go_simp; try (with_reducible rfl))
    (try simp only [Act.put])
    refine wpAnyH_take (i := 5) (v := ?_) rfl (by kernel_rfl) (by kernel_rfl) (by kernel_rfl) (fun _ _ _ h => h) (Or.inl ⟨by rfl, ?_⟩) (by assumption) ?_
    rotate_left
    · (intro W hSW; go_simp; try (with_reducible rfl))
    (try simp only [Act.put])
    refine wpAnyH_take (i := 6) (v := ?_) rfl (by kernel_rfl) (by kernel_rfl) (by kernel_rfl) (fun _ _ _ h => h) (Or.inl ⟨by rfl, ?_⟩) (by assumption) ?_
    rotate_left
    · (intro W hSW; go_simp; try (with_reducible rfl))
    (try simp only [Act.put])
    refine wpAnyH_take (i := 7) (v := ?_) rfl (by kernel_rfl) (by kernel_rfl) (by kernel_rfl) (fun _ _ _ h => h) (Or.inl ⟨by rfl, ?_⟩) (by assumption) ?_
    rotate_left
    · (intro W hSW; go_simp; try (with_reducible rfl))
    (try simp only [Act.put])
    refine wpAnyH_take (i := 8) (v := ?_) rfl (by kernel_rfl) (by kernel_rfl) (by kernel_rfl) (fun _ _ _ h => h) (Or.inl ⟨by rfl, ?_⟩) (by assumption) ?_
    rotate_left
    · (intro W hSW; have z0 := keeps_below hSW _ _ cr1; go_simp; try (with_reducible rfl))
    (try simp only [Act.put])
    refine wpAnyH_take (i := 9) (v := ?_) rfl (by kernel_rfl) (by kernel_rfl) (by kernel_rfl) (fun _ _ _ h => h) (Or.inl ⟨by rfl, ?_⟩) (by assumption) ?_
    rotate_left
    · (intro W hSW; go_simp; try (with_reducible rfl))
    (try simp only [Act.put])
    refine wpAnyH_take (i := 10) (v := ?_) rfl (by kernel_rfl) (by kernel_rfl) (by kernel_rfl) (fun _ _ _ h => h) (Or.inl ⟨by rfl, ?_⟩) (by assumption) ?_
    rotate_left
    · (intro W hSW; go_simp; try (with_reducible rfl))
    (try simp only [Act.put])
    refine wpAnyH_take (i := 11) (v := ?_) rfl (by kernel_rfl) (by kernel_rfl) (by kernel_rfl) (fun _ _ _ h => h) (Or.inl ⟨by rfl, ?_⟩) (by assumption) ?_
    rotate_left
    · (intro W hSW; have z0 := keeps_below hSW _ _ x3; go_simp; try (with_reducible rfl))
    (try simp only [Act.put])
    refine wpAnyH_take (i := 12) (v := ?_) rfl (by kernel_rfl) (by kernel_rfl) (by kernel_rfl) (fun _ _ _ h => h) (Or.inl ⟨by rfl, ?_⟩) (by assumption) ?_
    rotate_left
    · (intro W hSW; go_simp; try (with_reducible rfl))
    (try simp only [Act.put])
    refine wpAnyH_take (i := 13) (v := ?_) rfl (by kernel_rfl) (by kernel_rfl) (by kernel_rfl) (fun _ _ _ h => h) (Or.inl ⟨by rfl, ?_⟩) (by assumption) ?_
    rotate_left
    · (intro W hSW; go_simp; try (with_reducible rfl))
    (try simp only [Act.put])
    refine wpAnyH_take (i := 14) (v := ?_) rfl (by kernel_rfl) (by kernel_rfl) (by kernel_rfl) (fun _ _ _ h => h) (Or.inl ⟨by rfl, ?_⟩) (by assumption) ?_
    rotate_left
    · (intro W hSW; go_simp; try (with_reducible rfl))
    (try simp only [Act.put])
    refine wpAnyH_take (i := 15) (v := ?_) rfl (by kernel_rfl) (by kernel_rfl) (by kernel_rfl) (fun _ _ _ h => h) (Or.inl ⟨by rfl, ?_⟩) (by assumption) ?_
    rotate_left
    · (intro W hSW; have z0 := keeps_below hSW _ _ cr2; go_simp; try (with_reducible rfl))
    (try simp only [Act.put])
    refine wpAnyH_done (by kernel_rfl) ?_ _
    refine Or.inl ?_
    go_simp
    go_at_call 36
    refine (do_any base g c _ X _ _ _ HMC.out.drew HXO.out HP.out.1 HP.out.2).mono ?_
    rintro e w4 ⟨rfl, he4, hb4⟩
    refine Or.inl ?_
    go_simp
    go_wp2
    go_ret
    rw [HE1.out, HE2.out]
    exact ⟨rfl, he4, HBC.out.drew.trans hb4⟩
set_option maxRecDepth 100000 in
set_option maxHeartbeats 4000000 in
theorem cstep_neg (base g : Nat) (c : Cp) (wv : Value) (w : World) (h : MAt w base g c wv) (p0 : c.pc < 0) :
    Calls Tryd.prog 27 #[.pointer (some ⟨g, 0, none⟩)] w fun e w' => e = .returned (.int .i64 8) ∧ MAt w' base g c wv ∧ Below base w w' := by
  have HM : Hid (∀ n, MAt (w.drewN n) base g c wv) := fun n => h.drewN n
  have HBB : Hid (∀ n, Below base w (w.drewN n)) := fun n => below_drewN (Below.refl _ _) n
  have c96 := h.pc
  have d1 : decide (c.pc < 0) = true := by simpa using p0
  clear h p0
  go_enter Tryd.func27, Tryd.ntmps27
  go_wp2
  go_quiet (fail)
  go_wp2
  go_ret
  exact ⟨rfl, HM.out _, HBB.out _⟩
set_option maxRecDepth 100000 in
set_option maxHeartbeats 4000000 in
theorem cstep_far (base g : Nat) (c : Cp) (ao : Option Addr) (n cap : Nat) (w : World) (h : MAt w base g c (.slice ao n cap)) (p0 : 0 ≤ c.pc) (p1 : n ≤ c.pc) :
    Calls Tryd.prog 27 #[.pointer (some ⟨g, 0, none⟩)] w fun e w' => e = .returned (.int .i64 8) ∧ MAt w' base g c (.slice ao n cap) ∧ Below base w w' := by
  obtain ⟨k, hk⟩ := Int.eq_ofNat_of_zero_le p0
  have HM : Hid (∀ n', MAt (w.drewN n') base g c (.slice ao n cap)) := fun n => h.drewN n
  have HBB : Hid (∀ n', Below base w (w.drewN n')) := fun n => below_drewN (Below.refl _ _) n
  have c96 := h.pc
  have c98 := h.words
  rw [hk] at c96
  have d1 : decide ((k : Int) < 0) = false := by simp
  have d2 : decide ((n : Int) ≤ (k : Int)) = true := by simp; omega
  have d3 : decide (n ≤ k) = true := by simp; omega
  clear h p0 p1 hk
  go_enter Tryd.func27, Tryd.ntmps27
  go_wp2
  go_quiet (fail)
  go_wp2
  go_ret
  exact ⟨rfl, HM.out _, HBB.out _⟩
/-- What a step leaves. -/
def CStepPost (base g : Nat) (c : Cp) (ws : List Int) (wv : Value) (w : World) (e : Ending) (w' : World) : Prop :=
  e = .returned (.int .i64 (stepE ws c)) ∧ (∃ c', MAt w' base g c' wv ∧ (stepE ws c = 0 → c' = stepC ws c)) ∧ Below base w w'
theorem cstep_any (base g : Nat) (c : Cp) (ws : List Int) (ao : Option Addr) (cap : Nat) (w : World) (h : MAt w base g c (.slice ao ws.length cap)) (ht : RvTab w) (hv : IntsVal w (.slice ao ws.length cap) ws) (hl : ws.length ≤ 32768) :
    Calls Tryd.prog 27 #[.pointer (some ⟨g, 0, none⟩)] w (CStepPost base g c ws (.slice ao ws.length cap) w) := by
  by_cases p0 : c.pc < 0
  · have e : stepE ws c = 8 := by unfold stepE; rw [if_pos (Or.inl p0)]
    refine (cstep_neg base g c _ w h p0).mono ?_
    rintro e' w' ⟨rfl, hm, hb⟩
    exact ⟨by rw [e], ⟨c, hm, fun h => by rw [e] at h; cases h⟩, hb⟩
  by_cases p1 : (ws.length : Int) ≤ c.pc
  · have e : stepE ws c = 8 := by unfold stepE; rw [if_pos (Or.inr p1)]
    refine (cstep_far base g c ao ws.length cap w h (by omega) p1).mono ?_
    rintro e' w' ⟨rfl, hm, hb⟩
    exact ⟨by rw [e], ⟨c, hm, fun h => by rw [e] at h; cases h⟩, hb⟩
  by_cases hd : decE (ws.getD c.pc.toNat 0) = 0
  · have e : stepE ws c = doE (decX (ws.getD c.pc.toNat 0)) (c.reg (decX (ws.getD c.pc.toNat 0)).rs1) := by unfold stepE; rw [if_neg (by omega), if_pos hd]
    refine (cstep_do base g c ws ao cap w h ht hv (by omega) (by omega) hl hd).mono ?_
    rintro e' w' ⟨rfl, hm, hb⟩
    exact ⟨by rw [e], ⟨_, hm, fun _ => rfl⟩, hb⟩
  · have e : stepE ws c = 3 := by unfold stepE; rw [if_neg (by omega), if_neg hd]
    refine (cstep_kind base g c ws ao cap w h ht hv (by omega) (by omega) hl hd).mono ?_
    rintro e' w' ⟨rfl, hm, hb⟩
    exact ⟨by rw [e], ⟨c, hm, fun h => by rw [e] at h; cases h⟩, hb⟩
end Go.Proofs.YtapjfiihfgndeaaDoor
