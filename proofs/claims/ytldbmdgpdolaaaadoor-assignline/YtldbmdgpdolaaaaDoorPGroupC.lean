import Derived.Deep.DeepCutAuto
import Derived.Deep.LoopGhost
import Derived.Test.YtldbmdgpdolaaaaDoorPGroupB
import Derived.Test.YtldbmdgpdolaaaaDoorPGroupA
import Derived.Laws.ResultCell
import Derived.Deep.Cut
namespace Go.Proofs.YtldbmdgpdolaaaaDoor
open Go Go.RowKit

theorem way_box (w : World) (cs : Array Value) (t i : Nat) (v : Value) (h : cs[i]? = some v) : (w.alloc (.cells cs t)).cell? ⟨w.heap.size, i, none⟩ = some v := by
  rw [cell_of_row (w.alloc (.cells cs t)) w.heap.size i cs t (0, 0) (heap_alloc_new w _)]; exact h
end Go.Proofs.YtldbmdgpdolaaaaDoor
namespace Go.Proofs.YtldbmdgpdolaaaaDoor
open Go Go.RowKit

theorem i64s_set (O : List Int) (i : Nat) (v : Int) : (i64s O).set i (.int .i64 v) = i64s (O.set i v) := by simp [i64s, List.map_set]
end Go.Proofs.YtldbmdgpdolaaaaDoor
namespace Go.Proofs.YtldbmdgpdolaaaaDoor
open Go Go.RowKit

def fnAt (P : List Fn) (fn : Int) : Fn := P.getD fn.toNat ⟨0, 0, []⟩
def SureAns (P : List Fn) (fn : Int) (A : List Int) : Prop :=
  (fnErr P fn ≠ 0 ∧ A = []) ∨ (fnErr P fn = 0 ∧ ∃ L, SureSpec (fnAt P fn) L ∧ A = L.take (fnAt P fn).code.length)
theorem prog_fn {w : World} {v : Value} {P : List Fn} (hv : ProgVal w v P) {k : Nat} (hk : k < P.length) :
    ∃ b off cap u, v = .slice (some ⟨b, off, none⟩) P.length cap ∧ w.cell? ⟨b, off + k * 3, none⟩ = some (.int .i64 P[k].params) ∧ w.cell? ⟨b, off + k * 3 + 1, none⟩ = some (.int .i64 P[k].regs) ∧
      w.cell? ⟨b, off + k * 3 + 2, none⟩ = some u ∧ CodeVal w u P[k].code ∧ cap ≤ 9223372036854775807 ∧ P.length ≤ cap := by
  obtain ⟨ao, b, off, n, cap, rfl, ⟨hlen, haddr, hat⟩, hcap, hmax⟩ := hv
  subst hlen
  obtain rfl := haddr (by omega)
  obtain ⟨u, d0, d1, d2, hcv⟩ := hat k hk
  exact ⟨b, off, cap, u, rfl, d0, d1, d2, hcv, by simpa [maxLen] using hmax, hcap.1⟩
theorem sure_any (P : List Fn) (hP : codeProg P = 0) (f : Fn) (hf : f ∈ P) (cv : Value) (w : World) (ht : TabOk w) (hcv : CodeVal w cv f.code) :
    Calls Tryd.prog 35 #[.agg #[.int .i64 f.params, .int .i64 f.regs, cv]] w
      fun e w' => ∃ v' L, e = .returned (.tuple #[v', .int .i64 (L.getD f.code.length 0)]) ∧ SureSpec f L ∧ IntsVal w' v' (L.take f.code.length) ∧ Below w.heap.size w w' := by
  obtain ⟨hok, hins⟩ := fnOk_of hP hf
  obtain ⟨p, hp⟩ := Int.eq_ofNat_of_zero_le hok.p0
  exact sure_lit P f hok hins cv w ht hcv p hp (by have := hok.p2; omega)
set_option maxRecDepth 100000 in
set_option maxHeartbeats 1000000 in
theorem sure_all (P : List Fn) (v : Value) (fn : Int) (w : World) (ht : TabOk w) (hv : ProgVal w v P) :
    Calls Tryd.prog 37 #[.agg #[v], .int .i64 fn] w fun e w' => ∃ v' A, e = .returned (.tuple #[v', .int .i64 (fnErr P fn)]) ∧ SureAns P fn A ∧ IntsVal w' v' A ∧ Below w.heap.size w w' := by
  have hbx : ∀ o, Below w.heap.size w (w.alloc o) := fun o => (Below.refl _ _).alloc (Nat.le_refl _) _
  have hC := fun o => checkFunction_any P v fn (w.alloc o) (ht.below (hbx o)) (hv.keeps (keeps_below (hbx o)))
  by_cases h : fnErr P fn = 0
  · have HANS : Hid (∀ L, SureSpec (fnAt P fn) L → SureAns P fn (L.take (fnAt P fn).code.length)) := fun L hL => Or.inr ⟨h, L, hL, rfl⟩
    obtain ⟨h0, f0, f1⟩ := fnErr_zero h
    obtain ⟨k, rfl⟩ := Int.eq_ofNat_of_zero_le f0
    have hk : k < P.length := by omega
    have e : fnAt P (k : Int) = P[k] := by simp [fnAt, List.getD, hk]
    rw [e] at HANS
    have hS := fun W (hT : TabOk W) cv (hcv : CodeVal W cv P[k].code) => sure_any P h0 P[k] (List.getElem_mem hk) cv W hT hcv
    obtain ⟨b, off, cap, u, rfl, d0, d1, d2, hcv, hm, hc⟩ := prog_fn hv hk
    rw [h] at hC ⊢
    generalize hg : P[k] = g at HANS hS d0 d1 hcv
    have hcu := fun o => hcv.keeps (keeps_below (hbx o))
    obtain ⟨ao1, b1, off1, n1, cap1, rfl, _⟩ := hcv
    have hT := fun o => ht.below (hbx o)
    have t0 := fun o => cell_alloc d0 o
    have t1 := fun o => cell_alloc d1 o
    have t2 := fun o => cell_alloc d2 o
    have hkI : (k : Int) < P.length := by omega
    clear hg e f0 f1 h0 h hk d0 d1 d2 hbx ht hv
    go_enter Tryd.func37, Tryd.ntmps37
    go_wp2_with (first
      | (go_at_call 58; refine (hC _).mono ?_; rintro e w1 ⟨rfl, hb1⟩; have k0 := keeps_below hb1 ⟨w.heap.size, 0, none⟩ (.slice (some ⟨b, off, none⟩) P.length cap) (by simp); have k1 := keeps_below hb1 _ _ (t0 _); have k2 := keeps_below hb1 _ _ (t1 _); have k3 := keeps_below hb1 _ _ (t2 _); have hT1 := (hT _).below hb1; have hcu1 := (hcu _).keeps (keeps_below hb1))
      | (go_at_call 35; refine (hS _ hT1 _ hcu1).mono ?_; rintro e w2 ⟨v2, L, rfl, hsp, hI, hb2⟩; have hI' := hI; obtain ⟨ao2, b2, off2, n2, cap2, rfl, -⟩ := hI'))
    go_ret2
    exact ⟨_, _, rfl, HANS.out L hsp, hI, below_call (((Below.refl _ _).alloc (Nat.le_refl _) _).trans (hb1.mono (by simp))) (by have := hb1.size; simp at this; omega) hb2⟩
  · have HANS : Hid (SureAns P fn []) := Or.inl ⟨h, rfl⟩
    have h' : (fnErr P fn != 0) = true := by simpa using h
    obtain ⟨ao, b, off, n, cap, rfl, _⟩ := hv
    clear h ht hbx
    go_enter Tryd.func37, Tryd.ntmps37
    go_wp2_with (go_at_call 58; refine (hC _).mono ?_; rintro e w1 ⟨rfl, hb1⟩)
    go_ret2
    exact ⟨_, _, rfl, HANS.out, ints_nil _, ((Below.refl _ _).alloc (Nat.le_refl _) _).trans (hb1.mono (by simp))⟩
end Go.Proofs.YtldbmdgpdolaaaaDoor
namespace Go.Proofs.YtldbmdgpdolaaaaDoor
open Go Go.RowKit

theorem ints_get {w : World} {v : Value} {l : List Int} (h : IntsVal w v l) : ∃ ao b off n cap, v = .slice ao n cap ∧ l.length = n ∧ (0 < n → ao = some ⟨b, off, none⟩) ∧ (∀ k, k < n → w.cell? ⟨b, off + k, none⟩ = some (.int .i64 (l.getD k 0))) ∧ n ≤ cap ∧ cap ≤ 9223372036854775807 := by
  obtain ⟨ao, b, off, n, cap, rfl, hl, ha, hc, hcp, hm⟩ := h
  refine ⟨ao, b, off, n, cap, rfl, hl, ha, fun k hk => ?_, hcp.1, by simpa [maxLen] using hm⟩
  rw [hc k (by omega)]; simp [List.getD, show k < l.length by omega]
theorem ints_take {w : World} {v : Value} {L : List Int} {n : Nat} (h : IntsVal w v (L.take n)) (hl : L.length = n + 1) (hn : 1 ≤ n) :
    ∃ b off cap, v = .slice (some ⟨b, off, none⟩) n cap ∧ (∀ k, k < n → w.cell? ⟨b, off + k, none⟩ = some (.int .i64 (L.getD k 0))) ∧ n ≤ cap ∧ cap ≤ 9223372036854775807 := by
  obtain ⟨ao, b, off, n2, cap, rfl, hl2, ha, hc, hcp, hm⟩ := ints_get h
  have e : n2 = n := by rw [← hl2, List.length_take, hl]; omega
  subst e
  obtain rfl := ha (by omega)
  refine ⟨b, off, cap, rfl, fun k hk => ?_, hcp, hm⟩
  rw [hc k hk]; simp [List.getD, hk]
set_option maxRecDepth 100000 in
set_option maxHeartbeats 2000000 in
theorem prove_any (P : List Fn) (hP : codeProg P = 0) (f : Fn) (hf : f ∈ P) (v cv : Value) (w : World) (ht : TabOk w) (hc : CallOk w) (hv : ProgVal w v P) (hcv : CodeVal w cv f.code) :
    Calls Tryd.prog 21 #[.agg #[v], .agg #[.int .i64 f.params, .int .i64 f.regs, cv]] w fun e w' => ∃ E, e = .returned (.int .i64 E) ∧ ProvesTo P f E ∧ Below w.heap.size w w' := by
  have hbx : ∀ o o', Below w.heap.size w ((w.alloc o).alloc o') := fun o o' => ((Below.refl _ _).alloc (Nat.le_refl _) _).alloc (by simp) _
  have hS := fun o o' => sure_any P hP f hf cv ((w.alloc o).alloc o') (ht.below (hbx o o')) (hcv.keeps (keeps_below (hbx o o')))
  have HF := fnOk_of hP hf
  have hl1 := HF.1.len1
  have hl2 := HF.1.len2
  have HINS : Hid (∀ k (h : k < f.code.length), InsOk P f.code[k]) := fun k h => (HF.2 _ (List.getElem_mem h)).1
  have HBAD : Hid (∀ L k, k < f.code.length → badB P (L.getD k 0) (insD f k) = true → proveE P f L = 6) := fun L k hk h => prove_bad hk h
  have HGOOD : Hid (∀ L, (∀ k, k < f.code.length → badB P (L.getD k 0) (insD f k) = false) → proveE P f L = if L.getD f.code.length 0 = -1 then 0 else 7) := fun L h => prove_good h
  have HNUM : Hid (∀ L q, SureSpec f L → q < f.code.length + 1 → SureNum (L.getD q 0)) := fun L q h hq => h.num q hq
  have HLEN : Hid (∀ L, SureSpec f L → L.length = f.code.length + 1) := fun L h => h.1
  have HEQ : Hid (∀ k (h : k < f.code.length), insD f k = f.code[k]) := fun k h => insD_eq h
  have HPV : Hid (∀ W, Below w.heap.size w W → TabOk W ∧ CallOk W ∧ ProgVal W v P) := fun W hb => ⟨ht.below hb, hc.below hb, hv.keeps (keeps_below hb)⟩
  obtain ⟨ao, N, capp, rfl⟩ := hv.shape
  obtain ⟨ao1, b, off, n, cap, rfl, ⟨hlen, haddr, hat⟩, hcap, hmax⟩ := hcv
  obtain rfl := haddr (by omega)
  subst hlen
  have HAT : Hid (∀ k (h : k < f.code.length), insAt w b (off + k * 5) f.code[k]) := hat
  clear hat haddr ht hc hv HF
  unfold maxLen at hmax
  generalize hN : f.code.length = n at hS hl1 hl2 HBAD HGOOD HNUM HLEN hcap ⊢
  have HN : Hid (f.code.length = n) := hN
  clear hN
  go_enter Tryd.func21, Tryd.ntmps21
  go_wp2_with (go_at_call 35; refine (hS _ _).mono ?_; rintro e w1 ⟨v1, L, he, hsp, hI, hb1⟩; generalize hEV : L.getD n 0 = EV at he; subst he; obtain ⟨b2, off2, cap2, rfl, hc2, hcp2, hm2⟩ := ints_take hI (HLEN.out L hsp) hl1; have k0 := keeps_below hb1 ⟨w.heap.size, 0, none⟩ (.slice ao N capp) (cell_alloc (by simp) _); have k1 := keeps_below hb1 ⟨w.heap.size + 1, 2, none⟩ (.slice (some ⟨b, off, none⟩) n cap) (by simp); have HSP : Hid (SureSpec f L) := hsp; have HC2 : Hid (∀ k, k < n → w1.cell? ⟨b2, off2 + k, none⟩ = some (.int .i64 (L.getD k 0))) := hc2; have HBW : Hid (Below w.heap.size w w1) := (hbx _ _).trans (hb1.mono (by simp; omega)); have hz1 : w.heap.size + 1 < w1.heap.size := (by have := hb1.size; simp at this; omega); have HEV : Hid (EV = L.getD n 0) := hEV.symm; clear hsp hI hc2 hb1 hEV)
  go_loopw [17] (fun i wr => ∃ k : Nat, k ≤ n ∧ i = .int .i64 k ∧ (∀ j, j < k → badB P (L.getD j 0) (insD f j) = false) ∧ Below w1.heap.size w1 wr) (fun i _ => n - (intOf i).toNat)
  case atStart => exact ⟨0, Nat.zero_le _, rfl, fun j h => by omega, Below.refl _ _⟩
  case round =>
    obtain ⟨k, hk, rfl, hgood, hbr⟩ := hrel
    have j0 := keeps_below hbr _ _ k0
    have j1 := keeps_below hbr _ _ k1
    have hzr : w1.heap.size ≤ wr.heap.size := hbr.size
    have HGD : Hid (∀ j, j < k → badB P (L.getD j 0) (insD f j) = false) := hgood
    have HBR : Hid (Below w1.heap.size w1 wr) := hbr
    have HBW2 : Hid (Below w.heap.size w wr) := HBW.out.trans (hbr.mono (by omega))
    clear hgood
    by_cases hlt : k < n
    · have hkx : k < f.code.length := by rw [HN.out]; exact hlt
      obtain ⟨d0, d1, d2, d3, d4⟩ := (HAT.out k hkx).keeps (keeps_below HBW2.out)
      have hio := HINS.out k hkx
      have HX : Hid (insD f k = f.code[k]) := HEQ.out k hkx
      have cl := keeps_below hbr _ _ (HC2.out k hlt)
      have HBB := bad_bits P f.code[k] hio _ (HNUM.out L k HSP.out (by omega))
      generalize f.code[k] = x at d0 d1 d2 d3 d4 hio HX HBB
      have HZ : Hid (L.getD k 0 = L.getD k 0) := rfl
      obtain ⟨z, hz⟩ : ∃ z, z = L.getD k 0 := ⟨_, rfl⟩
      rw [← hz] at cl HBB
      have HZZ : Hid (z = L.getD k 0) := hz
      have hrb := fun W a b c => readBits_any P (.slice ao N capp) x W a b c hio
      generalize hRM : rdMask P x = RM at HBB hrb
      clear hz hio hRM HZ
      obtain ⟨op, dst, xa, xb, imm⟩ := x
      unfold Ins.val at hrb
      dsimp only at d0 d1 d2 d3 d4
      have hkI : (k : Int) < n := by omega
      generalize hbb : badB P z ⟨op, dst, xa, xb, imm⟩ = bb at HBB
      have HBBV : Hid (badB P (L.getD k 0) (insD f k) = bb) := by
        show _ = _
        rw [← HZZ.out, HX.out]; exact hbb
      have HBB2 : Hid ((bits .andNot .i64 (RM : Int) z != 0) = bb) := HBB
      have HPD : Hid (∀ d : Later (wr.alloc (.cells #[.int .i64 op, .int .i64 dst, .int .i64 xa, .int .i64 xb, .int .i64 imm] 42)), TabOk d.to ∧ CallOk d.to ∧ ProgVal d.to (.slice ao N capp) P) := fun d => HPV.out d.to ((HBW2.out.alloc (by have := HBW2.out.size; omega) _).trans (d.below.mono (by have := HBW2.out.size; simp; omega)))
      clear hbb HBB hbr
      go_wp2
      have e0 := Later.cell (cell_alloc j0 (.cells #[.int .i64 op, .int .i64 dst, .int .i64 xa, .int .i64 xb, .int .i64 imm] 42))
      have e1 := Later.cell (cell_alloc cl (.cells #[.int .i64 op, .int .i64 dst, .int .i64 xa, .int .i64 xb, .int .i64 imm] 42))
      have m0 := Later.cell (way_box wr #[.int .i64 op, .int .i64 dst, .int .i64 xa, .int .i64 xb, .int .i64 imm] 42 0 (.int .i64 op) rfl)
      have m1 := Later.cell (way_box wr #[.int .i64 op, .int .i64 dst, .int .i64 xa, .int .i64 xb, .int .i64 imm] 42 1 (.int .i64 dst) rfl)
      have m2 := Later.cell (way_box wr #[.int .i64 op, .int .i64 dst, .int .i64 xa, .int .i64 xb, .int .i64 imm] 42 2 (.int .i64 xa) rfl)
      have m3 := Later.cell (way_box wr #[.int .i64 op, .int .i64 dst, .int .i64 xa, .int .i64 xb, .int .i64 imm] 42 3 (.int .i64 xb) rfl)
      have m4 := Later.cell (way_box wr #[.int .i64 op, .int .i64 dst, .int .i64 xa, .int .i64 xb, .int .i64 imm] 42 4 (.int .i64 imm) rfl)
      clear d0 d1 d2 d3 d4 j0 j1 cl
      refine wp_region_later (by kernel_rfl) (by kernel_rfl) ?_
      repeat (go_big_quiet_step ((go_at_call 36; exact calls_later (hrb _ (HPD.out _).1 (HPD.out _).2.1 (HPD.out _).2.2))))
      refine wpQuiet_nil ?_
      intro _ hw'
      obtain ⟨d, hw''⟩ := hw'
      subst hw''
      have HBD : Hid (Below w1.heap.size w1 d.to) := (HBR.out.alloc hzr _).trans (d.below.mono (by simp; omega))
      have hbb2 := HBB2.out
      clear e0 e1 m0 m1 m2 m3 m4
      cases bb
      · go_wp2
        go_roundw
        case rel => exact ⟨k + 1, by omega, by go_num, fun j hj => by
            rcases Nat.lt_or_ge j k with h | h
            · exact HGD.out j h
            · obtain rfl : j = k := by omega
              exact HBBV.out, HBD.out⟩
        case measure => simp [intOf]; omega
      · go_wp2
        go_ret
        exact ⟨6, rfl, ⟨L, HSP.out, (HBAD.out L k hlt HBBV.out).symm⟩, HBW.out.trans (HBD.out.mono (by omega))⟩
    · obtain rfl : k = n := by omega
      have HPE : Hid (proveE P f L = if EV = -1 then 0 else 7) := by
        show _ = _
        rw [HEV.out]; exact HGOOD.out L HGD.out
      by_cases hev : EV = -1
      · have hb : (EV != -1) = false := by simpa using hev
        rw [if_pos hev] at HPE
        clear hev
        go_wp2
        go_ret
        exact ⟨0, rfl, ⟨L, HSP.out, HPE.out.symm⟩, HBW2.out⟩
      · have hb : (EV != -1) = true := by simpa using hev
        rw [if_neg hev] at HPE
        clear hev
        go_wp2
        go_ret
        exact ⟨7, rfl, ⟨L, HSP.out, HPE.out.symm⟩, HBW2.out⟩
end Go.Proofs.YtldbmdgpdolaaaaDoor
namespace Go.Proofs.YtldbmdgpdolaaaaDoor
open Go Go.RowKit

set_option maxRecDepth 100000 in
set_option maxHeartbeats 1000000 in
theorem pcheck_any (P : List Fn) (v : Value) (w : World) (ht : TabOk w) (hc : CallOk w) (hv : ProgVal w v P) :
    Calls Tryd.prog 12 #[.agg #[v]] w fun e w' => ∃ E, e = .returned (.int .i64 E) ∧ ProofAns P E ∧ Below w.heap.size w w' := by
  have hbx : ∀ o, Below w.heap.size w (w.alloc o) := fun o => (Below.refl _ _).alloc (Nat.le_refl _) _
  have hC := fun o => check_any P v (w.alloc o) (ht.below (hbx o)) (hv.keeps (keeps_below (hbx o)))
  by_cases h0 : codeProg P = 0
  · have HANS : Hid (∀ E, ChecksTo P P E → ProofAns P E) := fun E h => Or.inr ⟨h0, h⟩
    have hPr := fun f hf cv W a b c d => prove_any P h0 f hf v cv W a b c d
    have HPV : Hid (∀ W, Below w.heap.size w W → TabOk W ∧ CallOk W ∧ ProgVal W v P) := fun W hb => ⟨ht.below hb, hc.below hb, hv.keeps (keeps_below hb)⟩
    rw [h0] at hC
    have hp1 := (codeProg_zero h0).1
    have hp4 := (codeProg_zero h0).2.1
    obtain ⟨ao, b, off, N, cap, rfl, ⟨hlen, haddr, hat⟩, hcap, hmax⟩ := hv
    obtain rfl := haddr (by omega)
    have HN : Hid (P.length = N) := hlen
    rw [hlen] at hp1 hp4
    unfold maxLen at hmax
    have HAT : Hid (∀ k (h : k < P.length), ∃ u, FnAt w b (off + k * 3) P[k] u) := hat
    have HPR : Hid (∀ k (h : k < P.length) cv W, TabOk W → CallOk W → ProgVal W (.slice (some ⟨b, off, none⟩) N cap) P → CodeVal W cv P[k].code → Calls Tryd.prog 21 #[.agg #[.slice (some ⟨b, off, none⟩) N cap], .agg #[.int .i64 P[k].params, .int .i64 P[k].regs, cv]] W fun e w' => ∃ E, e = .returned (.int .i64 E) ∧ ProvesTo P P[k] E ∧ Below W.heap.size W w') := fun k h cv W a b c d => hPr P[k] (List.getElem_mem h) cv W a b c d
    have HSN : Hid (∀ k (h : k < P.length), SoFar P k → ProvesTo P P[k] 0 → SoFar P (k + 1)) := fun k h a b => soFar_next a h b
    have HSB : Hid (∀ k (h : k < P.length) e, SoFar P k → ProvesTo P P[k] e → e ≠ 0 → ChecksTo P P e) := fun k h e a b c => soFar_bad a h b c
    have HSE : Hid (∀ k, SoFar P k → N ≤ k → ChecksTo P P 0) := fun k a b => soFar_end a (by omega)
    clear hat haddr hPr ht hc h0 hlen
    go_enter Tryd.func12, Tryd.ntmps12
    go_wp2_with (go_at_call 20; refine (hC _).mono ?_; rintro e w1 ⟨rfl, hb1⟩; have k0 := keeps_below hb1 ⟨w.heap.size, 0, none⟩ (.slice (some ⟨b, off, none⟩) N cap) (by simp); have HB1 : Hid (Below w.heap.size w w1) := ((Below.refl _ _).alloc (Nat.le_refl _) _).trans (hb1.mono (by simp)); have hz1 : w.heap.size < w1.heap.size := (by have := hb1.size; simp at this; omega); clear hb1)
    go_loopw [15] (fun i wr => ∃ k : Nat, k ≤ N ∧ i = .int .i64 k ∧ SoFar P k ∧ Below w1.heap.size w1 wr) (fun i _ => N - (intOf i).toNat)
    case atStart => exact ⟨0, Nat.zero_le _, rfl, soFar_zero P, Below.refl _ _⟩
    case round =>
      obtain ⟨k, hk, rfl, hsf, hbr⟩ := hrel
      have j0 := keeps_below hbr _ _ k0
      have hzr : w1.heap.size ≤ wr.heap.size := hbr.size
      have hzz : w.heap.size < wr.heap.size := by omega
      have HSF : Hid (SoFar P k) := hsf
      have HBR : Hid (Below w1.heap.size w1 wr) := hbr
      have HBW : Hid (Below w.heap.size w wr) := HB1.out.trans (hbr.mono (by omega))
      clear hsf hbr
      by_cases hlt : k < N
      · have hkx : k < P.length := by rw [HN.out]; exact hlt
        obtain ⟨u, hfn⟩ := HAT.out k hkx
        obtain ⟨d0, d1, d2, hu⟩ := hfn.keeps (keeps_below HBW.out)
        have hpk := fun cv W => HPR.out k hkx cv W
        have hsn := HSN.out k hkx
        have hsb := HSB.out k hkx
        have hua := fun o => hu.keeps (keeps_below ((Below.refl _ wr).alloc (Nat.le_refl _) o))
        obtain ⟨ao1, b1, off1, n1, cap1, rfl, _⟩ := hu
        generalize P[k] = g at d0 d1 hpk hsn hsb hua hfn
        have hPW := fun o => HPV.out (wr.alloc o) (HBW.out.alloc (by omega) o)
        have hkI : (k : Int) < N := by omega
        have HSNN : Hid (SoFar P k → ProvesTo P g 0 → SoFar P (k + 1)) := hsn
        have HSBB : Hid (∀ e, SoFar P k → ProvesTo P g e → e ≠ 0 → ChecksTo P P e) := hsb
        clear hsn hsb hfn
        go_wp2_with (go_at_call 21; refine (hpk _ _ (hPW _).1 (hPW _).2.1 (hPW _).2.2 (hua _)).mono ?_; rintro e w2 ⟨E, rfl, hpe, hb2⟩; have HPE : Hid (ProvesTo P g E) := hpe; have HB2 : Hid (Below w1.heap.size w1 w2) := below_step HBR.out hzr hb2; clear hpe hb2)
        · have hne : (E != 0) = true := by assumption
          go_ret
          exact ⟨E, rfl, HANS.out E (HSBB.out E HSF.out HPE.out (by simpa using hne)), HB1.out.trans (HB2.out.mono (by omega))⟩
        · have hne : (E != 0) = false := by assumption
          have hE : E = 0 := by simpa using hne
          subst hE
          go_roundw
          case rel => exact ⟨k + 1, by omega, by go_num, HSNN.out HSF.out HPE.out, HB2.out⟩
          case measure => simp [intOf]; omega
      · go_wp2
        go_ret
        exact ⟨0, rfl, HANS.out 0 (HSE.out k HSF.out (by omega)), HBW.out⟩
  · have HANS : Hid (ProofAns P (codeProg P)) := Or.inl ⟨h0, rfl⟩
    have h' : (codeProg P != 0) = true := by simpa using h0
    obtain ⟨ao, b, off, n, cap, rfl, _⟩ := hv
    clear h0 ht hc hbx
    go_enter Tryd.func12, Tryd.ntmps12
    go_wp2_with (go_at_call 20; refine (hC _).mono ?_; rintro e w1 ⟨rfl, hb1⟩)
    go_ret
    exact ⟨_, rfl, HANS.out, ((Below.refl _ _).alloc (Nat.le_refl _) _).trans (hb1.mono (by simp))⟩
end Go.Proofs.YtldbmdgpdolaaaaDoor
namespace Go.Proofs.YtldbmdgpdolaaaaDoor
open Go Go.RowKit

structure St where
  status : Int
  value : Int
  frames : List Fr
  mem : List Int
  fuel : Int
  events : List Int
  answers : List Int
def stCells (s : St) (fv ev av : Value) : List Value := [.int .i64 s.status, .int .i64 s.value, fv] ++ i64s s.mem ++ [.int .i64 s.fuel, ev, av]
def StVal (w : World) (v : Value) (s : St) : Prop := ∃ fv ev av, v = .agg (stCells s fv ev av).toArray ∧ s.mem.length = 16 ∧ FramesVal w fv s.frames ∧ IntsVal w ev s.events ∧ IntsVal w av s.answers
theorem StVal.keeps {w w' : World} {v : Value} {s : St} (h : StVal w v s) (k : Keeps w w') : StVal w' v s := by
  obtain ⟨fv, ev, av, rfl, hm, h1, h2, h3⟩ := h
  exact ⟨fv, ev, av, rfl, hm, h1.keeps k, h2.keeps k, h3.keeps k⟩
theorem results_row_tmp {P : Program} {fn : Func} {p u : Tmp} {ty : TypeId} (h : fn.results = #[.cell p ty, .tmp u]) (tmps : Array Value) (w : World) (g : Nat) (t : TypeId) (cs : Array Value) (fr : Nat × Nat) (d : TypeDesc)
    (hp : tmps.getD p undef = .pointer (some ⟨g, 0, none⟩)) (hg : w.heap[g]? = some (.cells cs t fr))
    (hu : P.underlying ty = some d) (hd : (match d with | .struct _ | .array _ _ => true | _ => false) = true) (hi : (P.info? ty).map (·.size) = some cs.size) :
    (results fn tmps).run P w = .ok (.tuple #[.agg cs, tmps.getD u undef]) w := by
  rw [results_cell_tmp h, hp]
  simp only [asAddr, Sem.run_pure, Result.andThen_ok, run_loadVar_row w g t ty cs fr d hg hu hd hi]
end Go.Proofs.YtldbmdgpdolaaaaDoor
namespace Go.Proofs.YtldbmdgpdolaaaaDoor
open Go Go.RowKit

theorem setRow_other (w : World) (g : Nat) (cs : Array Value) (k : Nat) (h : k ≠ g) : (w.setRow g cs).heap[k]? = w.heap[k]? := by
  simp only [World.setRow, Array.getElem?_modify]; rw [if_neg (fun e => h e.symm)]
end Go.Proofs.YtldbmdgpdolaaaaDoor
