import Derived.Test.YtldbmdgpdolaaaaGreatDoorPXFoldKnow
namespace Go.Proofs.YtldbmdgpdolaaaaGreatDoor
open Go Go.RowKit

set_option maxRecDepth 100000 in
theorem metC_any {K gp n gB VN FB MB : Nat} {F : Facts} {G : Ways} {B1 B2 : Nat} (w : World) (h : KnAt w K gp n gB VN FB MB F G) (h1 : w.cell? ⟨B1, 0, none⟩ = some (.pointer (some ⟨K, 0, none⟩))) (b z : Int) (h2 : w.cell? ⟨B2, 0, none⟩ = some (.int .i64 b)) (hb : FitW b) (hz : FitW z) :
    Calls Tryz.prog 54 #[.int .i64 z, .pointer (some ⟨B1, 0, none⟩), .pointer (some ⟨B2, 0, none⟩)] w fun e w' => e = .returned (.bool (decide ((z, b) ∈ G))) ∧ Below w.heap.size w w' := by
  have hg := isGone_any w h z b hz hb
  clear h hb hz
  go_enter Tryz.func54, Tryz.ntmps54
  go_wp2_with (go_at_call 55; refine hg.mono ?_; rintro e w2 ⟨rfl, hb2⟩)
  go_ret
  exact ⟨rfl, hb2⟩
set_option maxRecDepth 100000 in
theorem indexM_any {K gp n gB VN FB MB : Nat} {F : Facts} {G : Ways} {B1 B2 : Nat} (w : World) (h : KnAt w K gp n gB VN FB MB F G) (h1 : w.cell? ⟨B1, 0, none⟩ = some (.pointer (some ⟨K, 0, none⟩))) (b : Int) (h2 : w.cell? ⟨B2, 0, none⟩ = some (.int .i64 b)) (hb : FitW b) (v : Value) (l : List Int) (hl : IntsVal w v l) (hf : ∀ z ∈ l, FitW z) (hn : l.length ≤ 1000) :
    Calls Tryz.prog 89 #[v, .func (.func 54) #[] #[.pointer (some ⟨B1, 0, none⟩), .pointer (some ⟨B2, 0, none⟩)]] w fun e w' => ∃ z, e = .returned (.int .i64 z) ∧ (0 ≤ z ↔ ∃ x ∈ l, (x, b) ∈ G) ∧ Below w.heap.size w w' := by
  obtain ⟨ao, bb, off, m, cap, rfl, hlm, ha, hc, hcp, hmx⟩ := ints_get hl
  have HA : Hid (0 < m → ao = some ⟨bb, off, none⟩) := ha
  have HC : Hid (∀ W, Below w.heap.size w W → ∀ k, k < m → W.cell? ⟨bb, off + k, none⟩ = some (.int .i64 (l.getD k 0))) := fun W hW k hk => keeps_below hW _ _ (hc k hk)
  have HLM : Hid (l.length = m) := hlm
  have HF : Hid (∀ k, k < m → FitW (l.getD k 0)) := fun k hk => hf _ (by rw [List.getD, List.getElem?_eq_getElem (by omega)]; exact List.getElem_mem _)
  have HMC : Hid (∀ W, Below w.heap.size w W → ∀ z, FitW z → Calls Tryz.prog 54 #[.int .i64 z, .pointer (some ⟨B1, 0, none⟩), .pointer (some ⟨B2, 0, none⟩)] W fun e w' => e = .returned (.bool (decide ((z, b) ∈ G))) ∧ Below W.heap.size W w') := fun W hW z hz => metC_any W (h.below hW) (keeps_below hW _ _ h1) b z (keeps_below hW _ _ h2) hb hz
  have hm1 : m ≤ 1000 := by omega
  clear h h1 h2 hb hl hf hn hlm ha hc
  go_enter Tryz.func89, Tryz.ntmps89
  go_wp2
  go_loopw [5, 8] (fun _ i wr => ∃ q : Nat, q ≤ m ∧ i = .int .i64 q ∧ (∀ k, k < q → (l.getD k 0, b) ∉ G) ∧ Below w.heap.size w wr) (fun _ i _ => m - (intOf i).toNat)
  case atStart => exact ⟨0, Nat.zero_le _, rfl, fun k hk => by omega, Below.refl _ _⟩
  case round =>
    obtain ⟨q, hq, rfl, hno, hwr⟩ := hrel
    have HW : Hid (Below w.heap.size w wr) := hwr
    have HNO : Hid (∀ k, k < q → (l.getD k 0, b) ∉ G) := hno
    clear hwr hno
    by_cases hlt : q < m
    · have hqI : (q : Int) < m := by omega
      obtain rfl := HA.out (by omega)
      have hcl := HC.out wr HW.out q hlt
      have hB := HMC.out wr HW.out _ (HF.out q hlt)
      by_cases he : (l.getD q 0, b) ∈ G
      · have HE : Hid ((l.getD q 0, b) ∈ G) := he
        rw [decide_eq_true he] at hB
        have HQ : Hid (q < m) := hlt
        clear he
        generalize l.getD q 0 = z at hB hcl
        go_wp2_with (go_at_call 54; refine hB.mono ?_; rintro e w2 ⟨rfl, hb2⟩)
        go_ret
        refine ⟨_, rfl, ⟨fun _ => ?_, fun _ => by omega⟩, HW.out.trans (hb2.mono HW.out.size)⟩
        exact ⟨l.getD q 0, by rw [List.getD, List.getElem?_eq_getElem (by have := HLM.out; have := HQ.out; omega)]; exact List.getElem_mem _, HE.out⟩
      · have HNN : Hid (∀ k, k < q + 1 → (l.getD k 0, b) ∉ G) := fun k hk => by
          by_cases e : k = q
          · rw [e]; exact he
          · exact HNO.out k (by omega)
        rw [decide_eq_false he] at hB
        clear he
        generalize l.getD q 0 = z at hB hcl
        go_wp2_with (go_at_call 54; refine hB.mono ?_; rintro e w2 ⟨rfl, hb2⟩)
        go_roundw
        case rel => exact ⟨q + 1, by omega, by go_num, HNN.out, HW.out.trans (hb2.mono HW.out.size)⟩
        case measure => simp [intOf]; omega
    · obtain rfl : q = m := by omega
      go_wp2
      go_ret
      refine ⟨_, rfl, ⟨fun h => by omega, fun ⟨x, hx, hg⟩ => ?_⟩, HW.out⟩
      obtain ⟨k, hk, rfl⟩ := List.getElem_of_mem hx
      have := HNO.out k (by have := HLM.out; omega)
      rw [List.getD, List.getElem?_eq_getElem hk] at this
      exact absurd hg this
set_option maxRecDepth 100000 in
theorem containsM_any {K gp n gB VN FB MB : Nat} {F : Facts} {G : Ways} {B1 B2 : Nat} (w : World) (h : KnAt w K gp n gB VN FB MB F G) (h1 : w.cell? ⟨B1, 0, none⟩ = some (.pointer (some ⟨K, 0, none⟩))) (b : Int) (h2 : w.cell? ⟨B2, 0, none⟩ = some (.int .i64 b)) (hb : FitW b) (v : Value) (l : List Int) (hl : IntsVal w v l) (hf : ∀ z ∈ l, FitW z) (hn : l.length ≤ 1000) (B : Bool) (hB : B = true ↔ ∃ x ∈ l, (x, b) ∈ G) :
    Calls Tryz.prog 53 #[v, .func (.func 54) #[] #[.pointer (some ⟨B1, 0, none⟩), .pointer (some ⟨B2, 0, none⟩)]] w fun e w' => e = .returned (.bool B) ∧ Below w.heap.size w w' := by
  have HI : Hid (Calls Tryz.prog 89 #[v, .func (.func 54) #[] #[.pointer (some ⟨B1, 0, none⟩), .pointer (some ⟨B2, 0, none⟩)]] w _) := indexM_any w h h1 b h2 hb v l hl hf hn
  have HBB : Hid (B = true ↔ ∃ x ∈ l, (x, b) ∈ G) := hB
  obtain ⟨ao, c, rfl⟩ := hl.shape
  clear h h1 h2 hb hl hf hn hB
  go_enter Tryz.func53, Tryz.ntmps53
  go_wp2_with (go_at_call 89; refine HI.out.mono ?_; rintro e w2 ⟨z, rfl, hz, hb2⟩; have hz0 : decide (0 ≤ z) = B := (by rw [Bool.eq_iff_iff, decide_eq_true_eq, hz, HBB.out]); clear hz)
  go_ret
  exact ⟨rfl, hb2⟩
def metB (G : Ways) (l : List Int) (b : Int) : Bool := l.any fun z => decide ((z, b) ∈ G)
theorem metB_iff {G : Ways} {l : List Int} {b : Int} : metB G l b = true ↔ ∃ x ∈ l, (x, b) ∈ G := by simp [metB]
set_option maxRecDepth 100000 in
theorem met_any {K gp n gB VN FB MB : Nat} {F : Facts} {G : Ways} (w : World) (h : KnAt w K gp n gB VN FB MB F G) (b : Nat) (hbn : b < n) (hn : n ≤ 1000) (v : Value) (l : List Int) (hc : w.cell? ⟨gB, b * 4 + 3, none⟩ = some v) (hl : IntsVal w v l) (hf : ∀ z ∈ l, FitW z) (hll : l.length ≤ 1000) :
    Calls Tryz.prog 31 #[.pointer (some ⟨K, 0, none⟩), .int .i64 b] w fun e w' => e = .returned (.bool (metB G l b)) ∧ Below w.heap.size w w' := by
  have HB0 : Hid (Below w.heap.size w ((w.alloc (.cells #[.pointer (some ⟨K, 0, none⟩)] 98)).alloc (.cells #[.int .i64 b] 3))) := ((Below.refl _ _).alloc (Nat.le_refl _) _).alloc (by simp) _
  have r2 : ((w.alloc (.cells #[.pointer (some ⟨K, 0, none⟩)] 98)).alloc (.cells #[.int .i64 b] 3)).heap[w.heap.size]? = some (.cells #[.pointer (some ⟨K, 0, none⟩)] 98 (0, 0)) := heap_alloc2_old _ _ _
  have r3 : ((w.alloc (.cells #[.pointer (some ⟨K, 0, none⟩)] 98)).alloc (.cells #[.int .i64 b] 3)).heap[w.heap.size + 1]? = some (.cells #[.int .i64 b] 3 (0, 0)) := heap_alloc2_new _ _ _
  obtain ⟨ao, cap, rfl⟩ := hl.shape
  have hfb : FitW (b : Int) := ⟨by omega, by omega⟩
  have hbI : (b : Int) < (n : Int) := by omega
  have hmf : ∀ (fn : Go.Fn) (first cap : Array Value) (w : World), (Instr.makeFunc fn first cap).run Tryz.prog w = .ok (.func fn first cap) w := fun _ _ _ _ => rfl
  have HK : Hid (KnAt ((w.alloc (.cells #[.pointer (some ⟨K, 0, none⟩)] 98)).alloc (.cells #[.int .i64 b] 3)) K gp n gB VN FB MB F G) := h.below HB0.out
  have HLI : Hid (IntsVal ((w.alloc (.cells #[.pointer (some ⟨K, 0, none⟩)] 98)).alloc (.cells #[.int .i64 b] 3)) (.slice ao l.length cap) l) := hl.keeps (keeps_below HB0.out)
  have cb := keeps_below HB0.out _ _ hc
  have HF : Hid ((∀ z ∈ l, FitW z) ∧ l.length ≤ 1000) := ⟨hf, hll⟩
  clear h hl hf hll hc
  go_enter Tryz.func31, Tryz.ntmps31
  go_upto_region 1 with fail
  generalize ((w.alloc (.cells #[.pointer (some ⟨K, 0, none⟩)] 98)).alloc (.cells #[.int .i64 b] 3)) = V at *
  have k1 : V.cell? ⟨K, 1, none⟩ = some (.slice (some ⟨gB, 0, none⟩) n n) := by rw [cell_of_row _ _ _ _ _ _ HK.out.box]; rfl
  have b1 : V.cell? ⟨w.heap.size, 0, none⟩ = some (.pointer (some ⟨K, 0, none⟩)) := by rw [cell_of_row _ _ _ _ _ _ r2]; rfl
  have b2 : V.cell? ⟨w.heap.size + 1, 0, none⟩ = some (.int .i64 b) := by rw [cell_of_row _ _ _ _ _ _ r3]; rfl
  have HCN : Hid (∀ W, Below V.heap.size V W → Calls Tryz.prog 53 #[.slice ao l.length cap, .func (.func 54) #[] #[.pointer (some ⟨w.heap.size, 0, none⟩), .pointer (some ⟨w.heap.size + 1, 0, none⟩)]] W fun e w' => e = .returned (.bool (metB G l b)) ∧ Below W.heap.size W w') := fun W hW => containsM_any W (HK.out.below hW) (keeps_below hW _ _ b1) b (keeps_below hW _ _ b2) hfb _ l (HLI.out.keeps (keeps_below hW)) HF.out.1 HF.out.2 _ metB_iff
  generalize l.length = ll at HCN cb
  obtain ⟨BB, hBB⟩ : ∃ BB, BB = metB G l b := ⟨_, rfl⟩
  have HBB : Hid (BB = metB G l b) := hBB
  rw [← hBB] at HCN
  clear hBB
  refine wp_region_held_drew (S := fun W => Below V.heap.size V W) (by kernel_rfl) ((Below.refl _ _).drew) (fun hHeld => ?_)
  show wpAnyH _ _ _ _ _ 11 _ _ _
  refine wpAnyH_take (i := 0) (v := ?_) rfl (by kernel_rfl) (by kernel_rfl) (by kernel_rfl) (fun _ _ _ h => h) (Or.inl ⟨by rfl, ?_⟩) (by assumption) ?_
  rotate_left
  · (intro W hSW; have z0 := keeps_below hSW _ _ b1; go_simp; try (with_reducible rfl))
  (try simp only [List.getElem_toArray, List.getElem_cons_zero])
  (try simp only [Act.put, List.setIfInBounds_toArray, List.set_cons_zero, List.set_cons_succ])
  refine wpAnyH_take (i := 1) (v := ?_) rfl (by kernel_rfl) (by kernel_rfl) (by kernel_rfl) (fun _ _ _ h => h) (Or.inl ⟨by rfl, ?_⟩) (by assumption) ?_
  rotate_left
  · (intro W hSW; go_simp; try (with_reducible rfl))
  (try simp only [List.getElem_toArray, List.getElem_cons_succ, List.getElem_cons_zero])
  (try simp only [Act.put, List.setIfInBounds_toArray, List.set_cons_zero, List.set_cons_succ])
  refine wpAnyH_take (i := 2) (v := ?_) rfl (by kernel_rfl) (by kernel_rfl) (by kernel_rfl) (fun _ _ _ h => h) (Or.inl ⟨by rfl, ?_⟩) (by assumption) ?_
  rotate_left
  · (intro W hSW; go_simp; try (with_reducible rfl))
  (try simp only [List.getElem_toArray, List.getElem_cons_succ, List.getElem_cons_zero])
  (try simp only [Act.put, List.setIfInBounds_toArray, List.set_cons_zero, List.set_cons_succ])
  refine wpAnyH_take (i := 3) (v := ?_) rfl (by kernel_rfl) (by kernel_rfl) (by kernel_rfl) (fun _ _ _ h => h) (Or.inl ⟨by rfl, ?_⟩) (by assumption) ?_
  rotate_left
  · (intro W hSW; have z0 := keeps_below hSW _ _ k1; go_simp; try (with_reducible rfl))
  (try simp only [List.getElem_toArray, List.getElem_cons_succ, List.getElem_cons_zero])
  (try simp only [Act.put, List.setIfInBounds_toArray, List.set_cons_zero, List.set_cons_succ])
  refine wpAnyH_take (i := 4) (v := ?_) rfl (by kernel_rfl) (by kernel_rfl) (by kernel_rfl) (fun _ _ _ h => h) (Or.inl ⟨by rfl, ?_⟩) (by assumption) ?_
  rotate_left
  · (intro W hSW; have z0 := keeps_below hSW _ _ b2; go_simp; try (with_reducible rfl))
  (try simp only [List.getElem_toArray, List.getElem_cons_succ, List.getElem_cons_zero])
  (try simp only [Act.put, List.setIfInBounds_toArray, List.set_cons_zero, List.set_cons_succ])
  refine wpAnyH_take (i := 5) (v := ?_) rfl (by kernel_rfl) (by kernel_rfl) (by kernel_rfl) (fun _ _ _ h => h) (Or.inl ⟨by rfl, ?_⟩) (by assumption) ?_
  rotate_left
  · (intro W hSW; go_simp; try (with_reducible rfl))
  (try simp only [List.getElem_toArray, List.getElem_cons_succ, List.getElem_cons_zero])
  (try simp only [Act.put, List.setIfInBounds_toArray, List.set_cons_zero, List.set_cons_succ])
  refine wpAnyH_take (i := 6) (v := ?_) rfl (by kernel_rfl) (by kernel_rfl) (by kernel_rfl) (fun _ _ _ h => h) (Or.inl ⟨by rfl, ?_⟩) (by assumption) ?_
  rotate_left
  · (intro W hSW; go_simp; try (with_reducible rfl))
  (try simp only [List.getElem_toArray, List.getElem_cons_succ, List.getElem_cons_zero])
  (try simp only [Act.put, List.setIfInBounds_toArray, List.set_cons_zero, List.set_cons_succ])
  refine wpAnyH_take (i := 7) (v := ?_) rfl (by kernel_rfl) (by kernel_rfl) (by kernel_rfl) (fun _ _ _ h => h) (Or.inl ⟨by rfl, ?_⟩) (by assumption) ?_
  rotate_left
  · (intro W hSW; have z0 := keeps_below hSW _ _ cb; go_simp; try (with_reducible rfl))
  (try simp only [List.getElem_toArray, List.getElem_cons_succ, List.getElem_cons_zero])
  (try simp only [Act.put, List.setIfInBounds_toArray, List.set_cons_zero, List.set_cons_succ])
  refine wpAnyH_take (i := 8) (v := ?_) rfl (by kernel_rfl) (by kernel_rfl) (by kernel_rfl) (fun _ _ _ h => h) (Or.inl ⟨by rfl, ?_⟩) (by assumption) ?_
  rotate_left
  · (intro W hSW; go_simp; try (with_reducible rfl))
  (try simp only [List.getElem_toArray, List.getElem_cons_succ, List.getElem_cons_zero])
  (try simp only [Act.put, List.setIfInBounds_toArray, List.set_cons_zero, List.set_cons_succ])
  refine wpAnyH_ready (rs := [9]) (by kernel_rfl) (by simp) ?_
  refine AllReadyH.cons rfl (fun K hK => ?_) AllReadyH.nil
  go_simp
  go_at_call 53
  refine (HCN.out _ hHeld).mono ?_
  rintro e w5 ⟨rfl, hbc⟩
  have HBw5 : Below V.heap.size V w5 := Below.trans hHeld (Below.mono hbc (Below.size hHeld))
  dsimp only
  refine hK.out _ _ HBw5 (fun _ => ?_)
  clear hK K hbc hHeld
  have hHeld := HBw5
  (try simp only [Act.put, List.setIfInBounds_toArray, List.set_cons_zero, List.set_cons_succ])
  refine wpAnyH_take (i := 10) (v := ?_) rfl (by kernel_rfl) (by kernel_rfl) (by kernel_rfl) (fun _ _ _ h => h) (Or.inl ⟨by rfl, ?_⟩) (by assumption) ?_
  rotate_left
  · (intro W hSW; go_simp; try (with_reducible rfl))
  (try simp only [List.getElem_toArray, List.getElem_cons_succ, List.getElem_cons_zero])
  (try simp only [Act.put, List.setIfInBounds_toArray, List.set_cons_zero, List.set_cons_succ])
  refine wpAnyH_done (by kernel_rfl) ?_ _
  go_wp2
  go_ret
  exact ⟨by rw [← HBB.out]; rfl, HB0.out.trans (hHeld.mono HB0.out.size)⟩
end Go.Proofs.YtldbmdgpdolaaaaGreatDoor
