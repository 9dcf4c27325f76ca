/- Contracts of proof.prove and proof.Check. -/
import Derived.Test.YtepnhemlhogmgaaDoorProveMath
import Derived.Test.YtepnhemlhogmgaaDoorSureAll
namespace Go.Proofs.YtepnhemlhogmgaaDoor
open Go Go.RowKit

theorem ints_get {w : World} {v : Value} {l : List Int} (h : IntsVal w v l) : ∃ ao b off n cap, v = .slice ao n cap ∧ l.length = n ∧ (0 < n → ao = some ⟨b, off, none⟩) ∧ (∀ k, k < n → w.cell? ⟨b, off + k, none⟩ = some (.int .i64 (l.getD k 0))) ∧ n ≤ cap ∧ cap ≤ 9223372036854775807 := by
  obtain ⟨ao, b, off, n, cap, rfl, hl, ha, hc, hcp, hm⟩ := h
  refine ⟨ao, b, off, n, cap, rfl, hl, ha, fun k hk => ?_, hcp.1, by simpa [maxLen] using hm⟩
  rw [hc k (by omega)]; simp [List.getD, show k < l.length by omega]

theorem ints_take {w : World} {v : Value} {L : List Int} {n : Nat} (h : IntsVal w v (L.take n)) (hl : L.length = n + 1) (hn : 1 ≤ n) :
    ∃ b off cap, v = .slice (some ⟨b, off, none⟩) n cap ∧ (∀ k, k < n → w.cell? ⟨b, off + k, none⟩ = some (.int .i64 (L.getD k 0))) ∧ n ≤ cap ∧ cap ≤ 9223372036854775807 := by
  obtain ⟨ao, b, off, n2, cap, rfl, hl2, ha, hc, hcp, hm⟩ := ints_get h
  have e : n2 = n := by rw [← hl2, List.length_take, hl]; omega
  subst e
  obtain rfl := ha (by omega)
  refine ⟨b, off, cap, rfl, fun k hk => ?_, hcp, hm⟩
  rw [hc k hk]; simp [List.getD, hk]

set_option maxRecDepth 100000 in
set_option maxHeartbeats 2000000 in
theorem prove_any (P : List Fn) (hP : codeProg P = 0) (f : Fn) (hf : f ∈ P) (v cv : Value) (w : World) (ht : TabOk w) (hc : CallOk w) (hv : ProgVal w v P) (hcv : CodeVal w cv f.code) :
    Calls Tryd.prog 36 #[.agg #[v], .agg #[.int .i64 f.params, .int .i64 f.regs, cv]] w fun e w' => ∃ E, e = .returned (.int .i64 E) ∧ ProvesTo P f E ∧ Below w.heap.size w w' := by
  have hbx : ∀ o o', Below w.heap.size w ((w.alloc o).alloc o') := fun o o' => ((Below.refl _ _).alloc (Nat.le_refl _) _).alloc (by simp) _
  have hS := fun o o' => sure_any P hP f hf cv ((w.alloc o).alloc o') (ht.below (hbx o o')) (hcv.keeps (keeps_below (hbx o o')))
  have HF := fnOk_of hP hf
  have hl1 := HF.1.len1
  have hl2 := HF.1.len2
  have HINS : Hid (∀ k (h : k < f.code.length), InsOk P f.code[k]) := fun k h => (HF.2 _ (List.getElem_mem h)).1
  have HBAD : Hid (∀ L k, k < f.code.length → badB P (L.getD k 0) (insD f k) = true → proveE P f L = 6) := fun L k hk h => prove_bad hk h
  have HGOOD : Hid (∀ L, (∀ k, k < f.code.length → badB P (L.getD k 0) (insD f k) = false) → proveE P f L = if L.getD f.code.length 0 = -1 then 0 else 7) := fun L h => prove_good h
  have HNUM : Hid (∀ L q, SureSpec f L → q < f.code.length + 1 → SureNum (L.getD q 0)) := fun L q h hq => h.num q hq
  have HLEN : Hid (∀ L, SureSpec f L → L.length = f.code.length + 1) := fun L h => h.1
  have HEQ : Hid (∀ k (h : k < f.code.length), insD f k = f.code[k]) := fun k h => insD_eq h
  have HPV : Hid (∀ W, Below w.heap.size w W → TabOk W ∧ CallOk W ∧ ProgVal W v P) := fun W hb => ⟨ht.below hb, hc.below hb, hv.keeps (keeps_below hb)⟩
  obtain ⟨ao, N, capp, rfl⟩ := hv.shape
  obtain ⟨ao1, b, off, n, cap, rfl, ⟨hlen, haddr, hat⟩, hcap, hmax⟩ := hcv
  obtain rfl := haddr (by omega)
  subst hlen
  have HAT : Hid (∀ k (h : k < f.code.length), insAt w b (off + k * 5) f.code[k]) := hat
  clear hat haddr ht hc hv HF
  unfold maxLen at hmax
  generalize hN : f.code.length = n at hS hl1 hl2 HBAD HGOOD HNUM HLEN hcap ⊢
  have HN : Hid (f.code.length = n) := hN
  clear hN
  go_enter Tryd.func36, Tryd.ntmps36
  go_wp2_with (go_at_call 38; refine (hS _ _).mono ?_; rintro e w1 ⟨v1, L, he, hsp, hI, hb1⟩; generalize hEV : L.getD n 0 = EV at he; subst he; obtain ⟨b2, off2, cap2, rfl, hc2, hcp2, hm2⟩ := ints_take hI (HLEN.out L hsp) hl1; have k0 := keeps_below hb1 ⟨w.heap.size, 0, none⟩ (.slice ao N capp) (cell_alloc (by simp) _); have k1 := keeps_below hb1 ⟨w.heap.size + 1, 2, none⟩ (.slice (some ⟨b, off, none⟩) n cap) (by simp); have HSP : Hid (SureSpec f L) := hsp; have HC2 : Hid (∀ k, k < n → w1.cell? ⟨b2, off2 + k, none⟩ = some (.int .i64 (L.getD k 0))) := hc2; have HBW : Hid (Below w.heap.size w w1) := (hbx _ _).trans (hb1.mono (by simp; omega)); have hz1 : w.heap.size + 1 < w1.heap.size := (by have := hb1.size; simp at this; omega); have HEV : Hid (EV = L.getD n 0) := hEV.symm; clear hsp hI hc2 hb1 hEV)
  go_loopw [17] (fun i wr => ∃ k : Nat, k ≤ n ∧ i = .int .i64 k ∧ (∀ j, j < k → badB P (L.getD j 0) (insD f j) = false) ∧ Below w1.heap.size w1 wr) (fun i _ => n - (intOf i).toNat)
  case atStart => exact ⟨0, Nat.zero_le _, rfl, fun j h => by omega, Below.refl _ _⟩
  case round =>
    obtain ⟨k, hk, rfl, hgood, hbr⟩ := hrel
    have j0 := keeps_below hbr _ _ k0
    have j1 := keeps_below hbr _ _ k1
    have hzr : w1.heap.size ≤ wr.heap.size := hbr.size
    have HGD : Hid (∀ j, j < k → badB P (L.getD j 0) (insD f j) = false) := hgood
    have HBR : Hid (Below w1.heap.size w1 wr) := hbr
    have HBW2 : Hid (Below w.heap.size w wr) := HBW.out.trans (hbr.mono (by omega))
    clear hgood
    by_cases hlt : k < n
    · have hkx : k < f.code.length := by rw [HN.out]; exact hlt
      obtain ⟨d0, d1, d2, d3, d4⟩ := (HAT.out k hkx).keeps (keeps_below HBW2.out)
      have hio := HINS.out k hkx
      have HX : Hid (insD f k = f.code[k]) := HEQ.out k hkx
      have cl := keeps_below hbr _ _ (HC2.out k hlt)
      have HBB := bad_bits P f.code[k] hio _ (HNUM.out L k HSP.out (by omega))
      generalize f.code[k] = x at d0 d1 d2 d3 d4 hio HX HBB
      have HZ : Hid (L.getD k 0 = L.getD k 0) := rfl
      obtain ⟨z, hz⟩ : ∃ z, z = L.getD k 0 := ⟨_, rfl⟩
      rw [← hz] at cl HBB
      have HZZ : Hid (z = L.getD k 0) := hz
      have hrb := fun W a b c => readBits_any P (.slice ao N capp) x W a b c hio
      generalize hRM : rdMask P x = RM at HBB hrb
      clear hz hio hRM HZ
      obtain ⟨op, dst, xa, xb, imm⟩ := x
      unfold Ins.val at hrb
      dsimp only at d0 d1 d2 d3 d4
      have hkI : (k : Int) < n := by omega
      generalize hbb : badB P z ⟨op, dst, xa, xb, imm⟩ = bb at HBB
      have HBBV : Hid (badB P (L.getD k 0) (insD f k) = bb) := by
        show _ = _
        rw [← HZZ.out, HX.out]; exact hbb
      have HBB2 : Hid ((bits .andNot .i64 (RM : Int) z != 0) = bb) := HBB
      have HPD : Hid (∀ d : Later (wr.alloc (.cells #[.int .i64 op, .int .i64 dst, .int .i64 xa, .int .i64 xb, .int .i64 imm] 70)), TabOk d.to ∧ CallOk d.to ∧ ProgVal d.to (.slice ao N capp) P) := fun d => HPV.out d.to ((HBW2.out.alloc (by have := HBW2.out.size; omega) _).trans (d.below.mono (by have := HBW2.out.size; simp; omega)))
      clear hbb HBB hbr
      go_wp2
      have e0 := Later.cell (cell_alloc j0 (.cells #[.int .i64 op, .int .i64 dst, .int .i64 xa, .int .i64 xb, .int .i64 imm] 70))
      have e1 := Later.cell (cell_alloc cl (.cells #[.int .i64 op, .int .i64 dst, .int .i64 xa, .int .i64 xb, .int .i64 imm] 70))
      have m0 := Later.cell (way_box wr #[.int .i64 op, .int .i64 dst, .int .i64 xa, .int .i64 xb, .int .i64 imm] 70 0 (.int .i64 op) rfl)
      have m1 := Later.cell (way_box wr #[.int .i64 op, .int .i64 dst, .int .i64 xa, .int .i64 xb, .int .i64 imm] 70 1 (.int .i64 dst) rfl)
      have m2 := Later.cell (way_box wr #[.int .i64 op, .int .i64 dst, .int .i64 xa, .int .i64 xb, .int .i64 imm] 70 2 (.int .i64 xa) rfl)
      have m3 := Later.cell (way_box wr #[.int .i64 op, .int .i64 dst, .int .i64 xa, .int .i64 xb, .int .i64 imm] 70 3 (.int .i64 xb) rfl)
      have m4 := Later.cell (way_box wr #[.int .i64 op, .int .i64 dst, .int .i64 xa, .int .i64 xb, .int .i64 imm] 70 4 (.int .i64 imm) rfl)
      clear d0 d1 d2 d3 d4 j0 j1 cl
      refine wp_region_later (by kernel_rfl) (by kernel_rfl) ?_
      repeat (go_big_quiet_step ((go_at_call 56; exact calls_later (hrb _ (HPD.out _).1 (HPD.out _).2.1 (HPD.out _).2.2))))
      refine wpQuiet_nil ?_
      intro _ hw'
      obtain ⟨d, hw''⟩ := hw'
      subst hw''
      have HBD : Hid (Below w1.heap.size w1 d.to) := (HBR.out.alloc hzr _).trans (d.below.mono (by simp; omega))
      have hbb2 := HBB2.out
      clear e0 e1 m0 m1 m2 m3 m4
      cases bb
      · go_wp2
        go_roundw
        case rel => exact ⟨k + 1, by omega, by go_num, fun j hj => by
            rcases Nat.lt_or_ge j k with h | h
            · exact HGD.out j h
            · obtain rfl : j = k := by omega
              exact HBBV.out, HBD.out⟩
        case measure => simp [intOf]; omega
      · go_wp2
        go_ret
        exact ⟨6, rfl, ⟨L, HSP.out, (HBAD.out L k hlt HBBV.out).symm⟩, HBW.out.trans (HBD.out.mono (by omega))⟩
    · obtain rfl : k = n := by omega
      have HPE : Hid (proveE P f L = if EV = -1 then 0 else 7) := by
        show _ = _
        rw [HEV.out]; exact HGOOD.out L HGD.out
      by_cases hev : EV = -1
      · have hb : (EV != -1) = false := by simpa using hev
        rw [if_pos hev] at HPE
        clear hev
        go_wp2
        go_ret
        exact ⟨0, rfl, ⟨L, HSP.out, HPE.out.symm⟩, HBW2.out⟩
      · have hb : (EV != -1) = true := by simpa using hev
        rw [if_neg hev] at HPE
        clear hev
        go_wp2
        go_ret
        exact ⟨7, rfl, ⟨L, HSP.out, HPE.out.symm⟩, HBW2.out⟩

end Go.Proofs.YtepnhemlhogmgaaDoor
