/- The walk of tierlinekeep.BlocksMeet: at all raw numbers it says true, and nothing that was there has turned. -/
import Derived.Test.YtjmafakhibekdaaDoorXBlockFacts
import Derived.Test.YtjmafakhibekdaaDoorXRightRaw
namespace Go.Proofs.YtjmafakhibekdaaDoor
open Go Go.RowKit

theorem pvI_mem (f : Fn) (S : List Nat) (T : Nat → Nat) (b i j : Nat) : ((j : Nat) : Int) ∈ pvI f S T b i ↔ j < b ∧ ((i : Nat) : Int) ∈ nxI f S (T j) := by
  unfold pvI
  rw [List.mem_append]
  constructor
  · rintro (h | h)
    · split at h
      · have := List.mem_singleton.1 h; omega
      · cases h
    · obtain ⟨x, hx, e⟩ := List.mem_map.1 h
      obtain rfl : x = j := by omega
      obtain ⟨h1, h2⟩ := List.mem_filter.1 hx
      exact ⟨List.mem_range.1 h1, by simpa using h2⟩
  · rintro ⟨h1, h2⟩
    exact Or.inr (List.mem_map.2 ⟨j, List.mem_filter.2 ⟨List.mem_range.2 h1, by simpa using h2⟩, rfl⟩)
theorem pvI_rises (f : Fn) (S : List Nat) (T : Nat → Nat) (b i : Nat) : (pvI f S T b i).Pairwise (· < ·) := by
  have h : (((List.range b).filter fun j => decide (((i : Nat) : Int) ∈ nxI f S (T j))).map fun j => ((j : Nat) : Int)).Pairwise (· < ·) := by
    rw [List.pairwise_map]
    exact (List.Pairwise.filter _ List.pairwise_lt_range).imp fun h => by omega
  unfold pvI
  by_cases h0 : i = 0
  · rw [if_pos h0]
    refine List.pairwise_cons.2 ⟨fun z hz => ?_, h⟩
    obtain ⟨x, -, e⟩ := List.mem_map.1 hz
    omega
  · rw [if_neg h0]
    exact h
theorem pvI_gap {f : Fn} {S : List Nat} {T : Nat → Nat} {b i q q' : Nat} (hq : q < (pvI f S T b i).length) (h : q' < q) : (pvI f S T b i).getD q' 0 < (pvI f S T b i).getD q 0 := by
  have := List.pairwise_iff_getElem.1 (pvI_rises f S T b i) q' q (by omega) hq h
  simpa [List.getD, hq, Nat.lt_trans h hq] using this
/-- Each block has one ahead of it, or the function's beginning. -/
theorem BlkOk.prev {P : List Fn} {f : Fn} (ok : FlowOk P f) {S : List Nat} {T : Nat → Nat} (h : BlkOk f S T) {i : Nat} (hi : i < S.length) : 0 < (pvI f S T S.length i).length := by
  by_cases h0 : i = 0
  · unfold pvI
    rw [if_pos h0, List.length_append]
    simp only [List.length_singleton]
    omega
  · have hpos := List.pairwise_iff_getElem.1 h.starts.rises 0 i (by omega) hi (by omega)
    rcases (h.starts.iff _).1 (List.getElem_mem hi) with e | ⟨pc, h1, h2, h3, h4⟩
    · omega
    · obtain ⟨j, hj⟩ := h.cover ok h2
      have hl : pc = T j - 1 := by
        by_cases he : pc = T j - 1
        · exact he
        · have := h.mid hj he; omega
      have hm : ((j : Nat) : Int) ∈ pvI f S T S.length i := (pvI_mem f S T S.length i j).2 ⟨hj.1, (nxI_mem f S (T j) _).2 ⟨S[i], by rw [← hl]; exact h4, by rw [rank_at h.starts.rises i hi]⟩⟩
      exact List.length_pos_of_mem hm

set_option maxHeartbeats 8000000 in
set_option maxRecDepth 100000 in
theorem blocksMeet_walk (l : List Fn) (v : Value) (fn : Int) (w : World) (ht : TabOk w) (hc : CallOk w) (hv : ProgVal w v l) (hwf : ∀ f ∈ l, f.wf) (hfn : I64 fn) :
    Calls Tryd.prog 4 #[v, .int .i64 fn] w fun e w' => e = .returned (.bool true) ∧ Below w.heap.size w w' := by
  have hSh := program_raw l v w ht hc hv hwf
  obtain ⟨aol, nl, capl, rfl⟩ := hv.shape
  have HT : Hid (TabOk w) := ht
  have HCO : Hid (CallOk w) := hc
  clear hv hwf ht hc
  go_enter Tryd.func4, Tryd.ntmps4
  go_upto_region 2 with (go_at_call 13; refine hSh.mono ?_; rintro e w1 ⟨v1, P, us, rfl, hpi, hbt, hb1⟩; have hp1 := hbt.prog; have hcp := progIs_code hpi; obtain ⟨hn1, hn4, -⟩ := codeProg_zero hcp; obtain ⟨k, hk, ek⟩ := pick_some fn P.length hn1; obtain ⟨b, off, cap, u, rfl, d0, d1, d2, hcv, hm, hcc⟩ := prog_fn hp1 hk)
  have hRi := progIs_ans hpi
  have OK : Hid (FlowOk P P[k]) := flowOk_of hRi (List.getElem_mem hk)
  have hl1 := OK.out.ok.len1
  have hl2 := OK.out.ok.len2
  have hfe := fnErr_ok hcp hk
  have hca : codeAt P k = P[k].code := by simp [codeAt, List.getD, hk]
  have HBL : Hid (∀ W, Below w1.heap.size w1 W → Calls Tryd.prog 15 #[.agg #[.slice (some ⟨b, off, none⟩) P.length cap], .int .i64 k] W fun e w' => ∃ g S T VV LL, e = .returned (.tuple #[.slice (some ⟨g, 0, none⟩) S.length S.length, .int .i64 0]) ∧ BlocksAt w' W.heap.size g P[k] S T VV LL ∧ W.heap.size ≤ g ∧ Below W.heap.size W w') := fun W hb => Blocks_right P hRi k hk _ W ((HT.out.below hb1).below hb) ((HCO.out.below hb1).below hb) (hp1.keeps (keeps_below hb))
  obtain ⟨ao2, b2, off2, n, cap2, rfl, ⟨hlen2, haddr2, hat2⟩, hcap2, hmx2⟩ := hcv
  obtain rfl := haddr2 (by omega)
  have HIN : Hid (∀ W, Below w1.heap.size w1 W → ∀ q, q < n → W.cell? ⟨b2, off2 + q * 5, none⟩ = some (.int .i64 (insD P[k] q).op)) := fun W hW q hq => by
    have hqf : q < P[k].code.length := by rw [hlen2]; exact hq
    rw [insD_eq hqf]
    exact keeps_below hW _ _ (hat2 q hqf).1
  have HB1 : Hid (Below w.heap.size w w1) := hb1
  have hz1 := hb1.size
  have hkI : (k : Int) < P.length := by omega
  have hcc2 := hcap2.1
  have HN : Hid (P[k].code.length = n) := hlen2
  clear hfe hRi hpi hcp hbt hp1 hb1 hSh hca hat2 haddr2 hcap2
  rw [hlen2] at hl1 hl2
  generalize P[k] = f at *
  clear hlen2
  unfold maxLen at hmx2
  have d0' := fun o => cell_alloc d0 o
  have d1' := fun o => cell_alloc d1 o
  have t2 := fun o => cell_alloc d2 o
  generalize hNN : P.length = N at *
  clear hNN
  have hWA : Below w1.heap.size w1 (w1.alloc (.cells #[.slice (some ⟨b, off, none⟩) N cap] 25)) := (Below.refl _ _).alloc (Nat.le_refl _) _
  have kp : (w1.alloc (.cells #[.slice (some ⟨b, off, none⟩) N cap] 25)).cell? ⟨w1.heap.size, 0, none⟩ = some (.slice (some ⟨b, off, none⟩) N cap) := by simp
  refine wp_region_held_drew (S := fun W => W.cell? ⟨w1.heap.size, 0, none⟩ = some (.slice (some ⟨b, off, none⟩) N cap)) (by kernel_rfl) kp (fun hHeld => ?_)
  show wpAnyH _ _ _ _ _ 12 _ _ _
  refine wpAnyH_take (i := 0) (v := ?_) rfl (by kernel_rfl) (by kernel_rfl) (by kernel_rfl) (fun _ _ _ h => h) (Or.inl ⟨by rfl, ?_⟩) (by assumption) ?_
  rotate_left
  · (intro W hSW; go_simp; try (with_reducible rfl))
  (try simp only [Act.put, List.setIfInBounds_toArray])
  refine wpAnyH_take (i := 1) (v := ?_) rfl (by kernel_rfl) (by kernel_rfl) (by kernel_rfl) (fun _ _ _ h => h) (Or.inl ⟨by rfl, ?_⟩) (by assumption) ?_
  rotate_left
  · (intro W hSW; go_simp; try (with_reducible rfl))
  (try simp only [Act.put])
  refine wpAnyH_take (i := 2) (v := ?_) rfl (by kernel_rfl) (by kernel_rfl) (by kernel_rfl) (fun _ _ _ h => h) (Or.inl ⟨by rfl, ?_⟩) (by assumption) ?_
  rotate_left
  · (intro W hSW; go_simp; try (with_reducible rfl))
  (try simp only [Act.put])
  refine wpAnyH_take (i := 3) (v := ?_) rfl (by kernel_rfl) (by kernel_rfl) (by kernel_rfl) (fun _ _ _ h => h) (Or.inl ⟨by rfl, ?_⟩) (by assumption) ?_
  rotate_left
  · (intro W hSW; go_simp; try (with_reducible rfl))
  (try simp only [Act.put])
  refine wpAnyH_take (i := 4) (v := ?_) rfl (by kernel_rfl) (by kernel_rfl) (by kernel_rfl) (fun _ _ _ h => h) (Or.inl ⟨by rfl, ?_⟩) (by assumption) ?_
  rotate_left
  · (intro W hSW; go_simp; try (with_reducible rfl))
  (try simp only [Act.put])
  refine wpAnyH_ready (rs := [5]) (by kernel_rfl) (by simp) ?_
  refine AllReadyH.cons rfl (fun K hK => ?_) AllReadyH.nil
  go_simp
  go_at_call 14
  refine (picked_any _ _ _ hfn (by omega) (by omega)).mono ?_
  rintro e w' ⟨rfl, hw'⟩
  replace hw' := hw'.symm
  subst hw'
  dsimp only
  refine hK.out _ _ kp (fun _ => ?_)
  clear hK K
  rw [ek]
  (try simp only [Act.put, List.setIfInBounds_toArray, List.set_cons_zero, List.set_cons_succ])
  refine wpAnyH_ready (rs := [6]) (by kernel_rfl) (by simp) ?_
  refine AllReadyH.cons rfl (fun K hK => ?_) AllReadyH.nil
  go_simp
  go_at_call 15
  refine (HBL.out _ hWA.drew).mono ?_
  rintro e w2 ⟨g, S, T, VV, LL, rfl, hB, hgw, hb2⟩
  have kp2 := keeps_below hb2 _ _ kp
  have HB2 : Hid (Below w1.heap.size w1 w2) := hWA.drew.trans (hb2.mono hWA.drew.size)
  dsimp only
  refine hK.out _ _ kp2 (fun _ => ?_)
  clear hK K
  (try simp only [Act.put, List.setIfInBounds_toArray, List.set_cons_zero, List.set_cons_succ])
  refine wpAnyH_take (i := 7) (v := ?_) rfl (by kernel_rfl) (by kernel_rfl) (by kernel_rfl) (fun _ _ _ h => h) (Or.inl ⟨by rfl, ?_⟩) kp2 ?_
  rotate_left
  · (intro W hSW; go_simp; try (with_reducible rfl))
  (try simp only [Act.put, List.setIfInBounds_toArray])
  refine wpAnyH_take (i := 8) (v := ?_) rfl (by kernel_rfl) (by kernel_rfl) (by kernel_rfl) (fun _ _ _ h => h) (Or.inl ⟨by rfl, ?_⟩) kp2 ?_
  rotate_left
  · (intro W hSW; go_simp; try (with_reducible rfl))
  (try simp only [Act.put])
  refine wpAnyH_take (i := 9) (v := ?_) rfl (by kernel_rfl) (by kernel_rfl) (by kernel_rfl) (fun _ _ _ h => h) (Or.inl ⟨by rfl, ?_⟩) kp2 ?_
  rotate_left
  · (intro W hSW; go_simp; try (with_reducible rfl))
  (try simp only [Act.put])
  refine wpAnyH_take (i := 10) (v := ?_) rfl (by kernel_rfl) (by kernel_rfl) (by kernel_rfl) (fun _ _ _ h => h) (Or.inl ⟨by rfl, ?_⟩) kp2 ?_
  rotate_left
  · (intro W hSW; go_simp; try (with_reducible rfl))
  (try simp only [Act.put])
  refine wpAnyH_take (i := 11) (v := ?_) rfl (by kernel_rfl) (by kernel_rfl) (by kernel_rfl) (fun _ _ _ h => h) (Or.inl ⟨by rfl, ?_⟩) kp2 ?_
  rotate_left
  · (intro W hSW; go_simp; try (with_reducible rfl))
  (try simp only [Act.put])
  refine wpAnyH_done (by kernel_rfl) ?_ _
  have HBA : Hid (BlocksAt w2 _ g f S T VV LL) := hB
  have HW2 : Hid (Below w.heap.size w w2) := HB1.out.trans (HB2.out.mono hz1)
  have hkn : S.length ≤ 1000 := by
    have h1 := starts_len OK.out HBA.out.starts
    have h2 := HN.out
    omega
  obtain ⟨hk0, -⟩ := HBA.out.starts.first
  obtain ⟨-, -, -, hc03⟩ := HBA.out.cells 0 hk0
  simp only [Nat.zero_mul, Nat.mul_zero, Nat.zero_add] at hc03
  have hH0 := hasList_any _ _ (-1) w2 (HBA.out.next 0 hk0).2
  have hd0 : decide ((-1 : Int) ∈ pvI f S T S.length 0) = true := by simp [pvI]
  rw [hd0] at hH0
  simp only [Nat.mul_zero, Nat.zero_add] at hH0
  obtain ⟨ao0, b0, off0, n0, cap0, hv0, -⟩ := ints_get (HBA.out.next 0 hk0).2
  simp only [Nat.mul_zero, Nat.zero_add] at hv0
  rw [hv0] at hc03 hH0
  have HCL : Hid (∀ W, Below w2.heap.size w2 W → ∀ i, i < S.length → W.cell? ⟨g, i * 4, none⟩ = some (.int .i64 ((S.getD i 0 : Nat) : Int)) ∧ W.cell? ⟨g, i * 4 + 1, none⟩ = some (.int .i64 ((T i : Nat) : Int)) ∧ W.cell? ⟨g, i * 4 + 2, none⟩ = some (VV (2 * i)) ∧ W.cell? ⟨g, i * 4 + 3, none⟩ = some (VV (2 * i + 1))) := fun W hW i hi => by
    have h := (HBA.out.below hW).cells i hi
    refine ⟨?_, h.2.1, h.2.2⟩
    rw [h.1]; simp [List.getD, hi]
  have HAP : Hid (∀ i j, j < S.length → i < j → T i ≤ S.getD j 0) := fun i j hj hij => by
    have h := HBA.out.ok.apart hj hij
    simpa [List.getD, hj] using h
  have HHN : Hid (∀ W, Below w2.heap.size w2 W → ∀ i j, i < S.length → j < S.length → ∃ (B : Bool) (a1 a2 : Option Addr) (n1 n2 c1 c2 : Nat), VV (2 * i) = .slice a1 n1 c1 ∧ VV (2 * j + 1) = .slice a2 n2 c2 ∧ (∀ m, Calls Tryd.prog 17 #[.slice a1 n1 c1, .int .i64 ((j : Nat) : Int)] (W.drewN m) (fun e w' => e = .returned (.bool B) ∧ w' = W.drewN m)) ∧ (∀ m, Calls Tryd.prog 17 #[.slice a2 n2 c2, .int .i64 ((i : Nat) : Int)] (W.drewN m) (fun e w' => e = .returned (.bool B) ∧ w' = W.drewN m))) := fun W hW i j hi hj => by
    have h1 := (HBA.out.below hW).next i hi
    have h2 := (HBA.out.below hW).next j hj
    have g1 := fun m => hasList_any _ _ ((j : Nat) : Int) (W.drewN m) (h1.1.keeps (fun _ _ e => e))
    have g2 := fun m => hasList_any _ _ ((i : Nat) : Int) (W.drewN m) (h2.2.keeps (fun _ _ e => e))
    have e : decide (((i : Nat) : Int) ∈ pvI f S T S.length j) = decide (((j : Nat) : Int) ∈ nxI f S (T i)) := by
      rw [decide_eq_decide, pvI_mem]
      exact ⟨fun h => h.2, fun h => ⟨hi, h⟩⟩
    rw [e] at g2
    obtain ⟨x1, x2, x3, x4, x5, e1, -⟩ := ints_get h1.1
    obtain ⟨y1, y2, y3, y4, y5, e2, -⟩ := ints_get h2.2
    rw [e1] at g1
    rw [e2] at g2
    exact ⟨_, x1, y1, x4, y4, x5, y5, e1, e2, g1, g2⟩
  have HPV : Hid (∀ i, i < S.length → ∃ (bp op np cp : Nat) (l : List Int), VV (2 * i + 1) = .slice (some ⟨bp, op, none⟩) np cp ∧ 0 < np ∧ np ≤ 1001 ∧ np ≤ cp ∧ (∀ W, Below w2.heap.size w2 W → ∀ q, q < np → W.cell? ⟨bp, op + q, none⟩ = some (.int .i64 (l.getD q 0))) ∧ ∀ q q', q < np → q' < q → l.getD q' 0 < l.getD q 0) := fun i hi => by
    have h1 := (HBA.out.next i hi).2
    have h2 := HBA.out.ok.prev OK.out hi
    have h3 := pvI_len f S T S.length i
    obtain ⟨x1, x2, x3, x4, x5, e1, e2, e3, e4, e5, -⟩ := ints_get h1
    rw [e3 (by omega)] at e1
    exact ⟨x2, x3, x4, x5, _, e1, by omega, by omega, e5, fun W hW q hq => keeps_below hW _ _ (e4 q hq), fun q q' hq hl => pvI_gap (by omega) hl⟩
  clear hB hgw hb2 kp kp2 hHeld d0' d1' t2 d0 d1 d2 hWA hd0 hv0 HBL
  generalize S.length = K at *
  go_upto_region 6 with (go_at_call 17; refine hH0.mono ?_; rintro e w3 ⟨rfl, hw3⟩; replace hw3 := hw3.symm; subst hw3)
  clear hc03 hH0
  go_loopw [8] (fun i wr => ∃ q : Nat, q ≤ K ∧ i = .int .i64 q ∧ Below w2.heap.size w2 wr) (fun i _ => K - (intOf i).toNat)
  case atStart => exact ⟨0, Nat.zero_le _, rfl, Below.refl _ _⟩
  case round =>
    obtain ⟨i, hi, rfl, hbo⟩ := hrel
    rename World => wo
    have HBO : Hid (Below w2.heap.size w2 wo) := hbo
    clear hbo
    by_cases hlt : i < K
    · have hiI : (i : Int) < K := by omega
      go_wp2
      go_loopw [9] (fun j wr => ∃ q : Nat, q ≤ K ∧ j = .int .i64 q ∧ Below w2.heap.size w2 wr) (fun i _ => K - (intOf i).toNat)
      case atStart => exact ⟨0, Nat.zero_le _, rfl, HBO.out⟩
      case round =>
        obtain ⟨j, hj, rfl, hbi⟩ := hrel
        have HBI : Hid (Below w2.heap.size w2 wr) := hbi
        clear hbi
        by_cases hlj : j < K
        · have hjI : (j : Int) < K := by omega
          obtain ⟨B, a1, a2, n1, n2, x1, x2, e1, e2, g1, g2⟩ := HHN.out wr HBI.out i j hlt hlj
          obtain ⟨-, -, c2, -⟩ := HCL.out wr HBI.out i hlt
          obtain ⟨-, -, -, c3⟩ := HCL.out wr HBI.out j hlj
          rw [e1] at c2
          rw [e2] at c3
          clear e1 e2
          cases B
          · go_wp2
            go_quiet ((go_at_call 17; first | (with_reducible refine (g1 _).mono ?_; exact fun _ _ h => ⟨h.1, _, h.2⟩) | (with_reducible refine (g2 _).mono ?_; exact fun _ _ h => ⟨h.1, _, h.2⟩)))
            go_wp2
            go_roundw
            case rel => exact ⟨j + 1, by omega, by go_num, below_drewN HBI.out _⟩
            case measure => simp [intOf]; omega
          · go_wp2
            go_quiet ((go_at_call 17; first | (with_reducible refine (g1 _).mono ?_; exact fun _ _ h => ⟨h.1, _, h.2⟩) | (with_reducible refine (g2 _).mono ?_; exact fun _ _ h => ⟨h.1, _, h.2⟩)))
            go_wp2
            go_roundw
            case rel => exact ⟨j + 1, by omega, by go_num, below_drewN HBI.out _⟩
            case measure => simp [intOf]; omega
        · obtain ⟨bp, op, np, cp, l, e1, hn0, hn1, hnc, hcl, hgp⟩ := HPV.out i hlt
          have HCP : Hid (∀ W, Below w2.heap.size w2 W → ∀ q, q < np → W.cell? ⟨bp, op + q, none⟩ = some (.int .i64 (l.getD q 0))) := hcl
          have HGP : Hid (∀ q q', q < np → q' < q → l.getD q' 0 < l.getD q 0) := hgp
          have HC3 : Hid (∀ W, Below w2.heap.size w2 W → W.cell? ⟨g, i * 4 + 3, none⟩ = some (.slice (some ⟨bp, op, none⟩) np cp)) := fun W hW => by rw [← e1]; exact (HCL.out W hW i hlt).2.2.2
          clear e1 hcl hgp
          rename World => wi
          go_wp2
          clear hlj
          go_loopw [10] (fun j wr => ∃ q : Nat, 1 ≤ q ∧ q ≤ np ∧ j = .int .i64 q ∧ Below w2.heap.size w2 wr) (fun i _ => np - (intOf i).toNat)
          case atStart => exact ⟨1, by omega, by omega, rfl, HBI.out⟩
          case round =>
            obtain ⟨j, hj1, hj, rfl, hbp⟩ := hrel
            have HBP : Hid (Below w2.heap.size w2 wr) := hbp
            clear hbp
            have c3 := HC3.out wr HBP.out
            by_cases hlj : j < np
            · have hjI : (j : Int) < np := by omega
              obtain ⟨j', hj'⟩ : ∃ j', j = j' + 1 := ⟨j - 1, by omega⟩
              have hjI' : (j' : Int) < np := by omega
              have hjn' : j' < np := by omega
              have q1 := HCP.out wr HBP.out j hlj
              have q2 := HCP.out wr HBP.out j' (by omega)
              have hle : decide (l.getD j 0 ≤ l.getD j' 0) = false := by
                have := HGP.out j j' hlj (by omega)
                simp only [decide_eq_false_iff_not]; omega
              have hw1 : IntKind.i64.wrap ((j : Int) - 1) = (j' : Int) := by rw [show (j : Int) - 1 = j' by omega]; exact wrap_signed _ (by omega) (by omega)
              clear hj'
              generalize l.getD j 0 = z at q1 hle
              generalize l.getD j' 0 = z' at q2 hle
              go_wp2
              go_quiet (fail)
              go_wp2
              go_roundw
              case rel => exact ⟨j + 1, by omega, by omega, by go_num, below_drewN HBP.out _⟩
              case measure => simp [intOf]; omega
            · clear hj1
              have hn0b : ((np : Int) == 0) = false := by simp; omega
              by_cases hi0 : i = 0
              · have hi2 : decide (0 < (i : Int)) = false := by simp only [decide_eq_false_iff_not]; omega
                have hi3 : decide (0 < i) = false := by simp only [decide_eq_false_iff_not]; omega
                clear hi0
                go_wp2
                go_quiet (fail)
                go_wp2
                go_roundw
                case rel => exact ⟨i + 1, by omega, by go_num, below_drewN HBP.out _⟩
                case measure => simp [intOf]; omega
              · have hi2 : decide (0 < (i : Int)) = true := by simp only [decide_eq_true_eq]; omega
                have hi3 : decide (0 < i) = true := by simp only [decide_eq_true_eq]; omega
                obtain ⟨i', hi'⟩ : ∃ i', i = i' + 1 := ⟨i - 1, by omega⟩
                have hiI' : (i' : Int) < K := by omega
                have hiN' : i' < K := by omega
                have hw1 : IntKind.i64.wrap ((i : Int) - 1) = (i' : Int) := by rw [show (i : Int) - 1 = i' by omega]; exact wrap_signed _ (by omega) (by omega)
                obtain ⟨c0, -⟩ := HCL.out wr HBP.out i hlt
                obtain ⟨-, c1, -⟩ := HCL.out wr HBP.out i' (by omega)
                have hap := HAP.out i' i hlt (by omega)
                have hlt2 : decide (((S.getD i 0 : Nat) : Int) < ((T i' : Nat) : Int)) = false := by simp only [decide_eq_false_iff_not]; omega
                clear hi' hi0 hap
                generalize ((S.getD i 0 : Nat) : Int) = si at *
                generalize ((T i' : Nat) : Int) = ti at *
                go_wp2
                go_quiet (fail)
                go_wp2
                go_roundw
                case rel => exact ⟨i + 1, by omega, by go_num, below_drewN HBP.out _⟩
                case measure => simp [intOf]; omega
    · go_wp2
      go_ret
      exact ⟨rfl, HW2.out.trans (HBO.out.mono HW2.out.size)⟩
end Go.Proofs.YtjmafakhibekdaaDoor
