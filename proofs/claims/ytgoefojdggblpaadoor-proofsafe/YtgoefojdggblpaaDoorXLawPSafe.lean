/- The walk of tierlinekeep.ProofSafe: at all raw numbers it says true, and nothing that was there has turned. -/
import Derived.Test.YtgoefojdggblpaaDoorXKRun
import Derived.Test.YtgoefojdggblpaaDoorXSafeKit
import Derived.Test.YtgoefojdggblpaaDoorXJunkKit
namespace Go.Proofs.YtgoefojdggblpaaDoor
open Go Go.RowKit

theorem shl_less (p : Nat) (hp : p ≤ 2) : wrap64 (wrap64 ((2 : Int) ^ p) - 1) = ((2 ^ p - 1 : Nat) : Int) := by
  rcases (show p = 0 ∨ p = 1 ∨ p = 2 by omega) with rfl | rfl | rfl <;> simp [wrap64]
theorem gb_setCellS (w : World) (r i : Nat) (v : Value) : w.grownBy (w.setCell ⟨r, i, none⟩ v) (some r) :=
  ⟨rfl, rfl, rfl, by simp, fun b _ hne => heap_setCell_other w ⟨r, i, none⟩ b v (fun e => hne (by rw [e]))⟩
theorem or_shl (m p : Nat) (hm : m < 4096) (hp : p < 12) : bits .or .i64 (m : Int) (IntKind.i64.wrap ((2 : Int) ^ p)) = ((m ||| 2 ^ p : Nat) : Int) := by
  have h2 := two_lt p hp
  have e : (2 : Int) ^ p = ((2 ^ p : Nat) : Int) := by simp
  rw [e]
  generalize 2 ^ p = q at h2 ⊢
  rw [wrap_fits _ (by omega) (by omega)]
  exact bits_or_nat m q (by omega) (by omega)

set_option maxHeartbeats 60000000 in
set_option maxRecDepth 100000 in
theorem proofSafe_walk (l : List Fn) (v : Value) (a0 a1 fuel : Int) (nv : Value) (ln : List Int) (w : World) (ht : TabOk w) (hc : CallOk w) (hv : ProgVal w v l) (hwf : ∀ f ∈ l, f.wf) (hn : IntsVal w nv ln) (hfu : I64 fuel) :
    Calls Tryd.prog 3 #[v, inVal a0 a1 nv fuel] w fun e w' => e = .returned (.bool true) ∧ Below w.heap.size w w' := by
  obtain ⟨i64i, hi64, hz0, hz1, hz2x⟩ := info_parts info64
  obtain ⟨nao, nc, rfl⟩ := hn.shape
  obtain ⟨lao, ll, lc, rfl⟩ := hv.shape
  have HTC : Hid (∀ W, Below w.heap.size w W → TabOk W ∧ CallOk W) := fun W hb => ⟨ht.below hb, hc.below hb⟩
  have HB0 : Hid (Below w.heap.size w (w.alloc (.cells #[.int .i64 a0, .int .i64 a1, .slice nao ln.length nc, .int .i64 fuel] 26))) := (Below.refl _ _).alloc (Nat.le_refl _) _
  have HPR : Hid (Calls Tryd.prog 14 #[.slice lao ll lc] (w.alloc (.cells #[.int .i64 a0, .int .i64 a1, .slice nao ln.length nc, .int .i64 fuel] 26)) fun e w' => ∃ ao n cap P, e = .returned (.agg #[.slice ao n cap]) ∧ ProofAns P 0 ∧ ProgVal w' (.slice ao n cap) P ∧ Below (w.alloc (.cells #[.int .i64 a0, .int .i64 a1, .slice nao ln.length nc, .int .i64 fuel] 26)).heap.size (w.alloc (.cells #[.int .i64 a0, .int .i64 a1, .slice nao ln.length nc, .int .i64 fuel] 26)) w') := kprog l _ _ (HTC.out _ HB0.out).1 (HTC.out _ HB0.out).2 (hv.keeps (keeps_below HB0.out)) hwf
  have HNV : Hid (∀ W, Below w.heap.size w W → IntsVal W (.slice nao ln.length nc) ln) := fun W hb => hn.keeps (keeps_below hb)
  have HFU : Hid (I64 fuel) := hfu
  have infoIn : (Tryd.prog.info? 26).map (·.size) = some 4 := by kernel_rfl
  unfold inVal
  clear ht hc hv hwf hn hfu
  go_enter Tryd.func3, Tryd.ntmps3
  go_upto_region 2 with (go_at_call 14; refine HPR.out.mono ?_; rintro e w1 ⟨ao, n0, cap0, P, rfl, hR, hpv, hb1⟩)
  have HR : Hid (ProofAns P 0) := hR
  have B01 : Hid (Below w.heap.size w (w1.alloc (.cells #[.slice ao n0 cap0] 29))) := (HB0.out.trans (hb1.mono (by simp))).alloc (by have := hb1.size; simp at this; omega) _
  have I1 : (w1.alloc (.cells #[.slice ao n0 cap0] 29)).heap[w.heap.size]? = some (.cells #[.int .i64 a0, .int .i64 a1, .slice nao ln.length nc, .int .i64 fuel] 26 (0, 0)) := (heap_alloc_old _ _ (by have := hb1.size; simp at this; omega)).trans ((hb1.block _ (by simp)).trans (heap_alloc_last w _))
  have HP : Hid (∀ W, Below (w1.alloc (.cells #[.slice ao n0 cap0] 29)).heap.size (w1.alloc (.cells #[.slice ao n0 cap0] 29)) W → W.cell? ⟨w1.heap.size, 0, none⟩ = some (.slice ao n0 cap0) ∧ ProgVal W (.slice ao n0 cap0) P ∧ TabOk W ∧ CallOk W) := fun W hb => ⟨keeps_below hb _ _ (by rw [cell_of_row _ _ _ _ _ _ (heap_alloc_last w1 _)]; rfl), (hpv.keeps (keeps_below ((Below.refl _ _).alloc (Nat.le_refl _) _))).keeps (keeps_below hb), (HTC.out _ (B01.out.trans (hb.mono B01.out.size))).1, (HTC.out _ (B01.out.trans (hb.mono B01.out.size))).2⟩
  have HKB : Hid (Calls Tryd.prog 15 #[.agg #[.slice ao n0 cap0], .agg #[.int .i64 a0, .int .i64 a1, .slice nao ln.length nc, .int .i64 fuel]] (w1.alloc (.cells #[.slice ao n0 cap0] 29)) _) := kbeginX P (.slice ao n0 cap0) a0 a1 fuel (.slice nao ln.length nc) ln (w1.alloc (.cells #[.slice ao n0 cap0] 29)) (HP.out _ (Below.refl _ _)).2.2.1 (HP.out _ (Below.refl _ _)).2.2.2 HR.out (HP.out _ (Below.refl _ _)).2.1 (HNV.out _ B01.out) HFU.out
  clear hR hpv hb1
  go_upto_region 3 with (first
    | (refine wpList_load_row rfl _ _ rfl _ rfl _ _ _ _ I1 Tryd.underlying26 rfl infoIn ?_)
    | (go_at_call 15; refine HKB.out.mono ?_; rintro e w2 ⟨cs2, S, rfl, hk, hs0, c1, c2, c3, hst, hb2⟩)
    | (refine wpList_store_row rfl _ _ _ rfl _ _ rfl rfl _ _ (heap_alloc_last w2 _) c1 c2 c3 ?_; rw [World.setRow_alloc_new]))
  have HK : Hid (KRunAt P S) := hk.1
  have HSE : Hid (S = beginSt ([a0, a1].take (par0 P).toNat) (ln.take 10) (pickI fuel 300)) := hk.2
  have HS0 : Hid (S.fuel ≤ 299 ∧ S.answers.length ≤ 10 ∧ S.status = 0) := hs0
  have B12 : Hid (Below (w1.alloc (.cells #[.slice ao n0 cap0] 29)).heap.size (w1.alloc (.cells #[.slice ao n0 cap0] 29)) (w2.alloc (.cells cs2 34))) := hb2.alloc hb2.size _
  have X2 : Hid (∀ W, Below (w2.alloc (.cells cs2 34)).heap.size (w2.alloc (.cells cs2 34)) W → W.heap[w2.heap.size]? = some (.cells cs2 34 (0, 0)) ∧ StVal W (.agg cs2) (walkS P 0 S)) := fun W hb => ⟨(hb.block _ (by simp)).trans (heap_alloc_last w2 _), (hst.val.keeps (keeps_below ((Below.refl _ _).alloc (Nat.le_refl _) _))).keeps (keeps_below hb)⟩
  have q2 : (Tryd.prog.info? 34).map (·.size) = some cs2.size := c1
  have HON2 : Hid (cs2.all (·.oneCell') = true) := c3
  have HZ12 : Hid ((w1.alloc (.cells #[.slice ao n0 cap0] 29)).heap.size ≤ w2.heap.size) := hb2.size
  have hz2 : zeroStCells.size = cs2.size := c2
  clear hk hs0 hst hb2 I1 HKB c1 c2 c3 infoIn
  obtain ⟨b, off, cap, hvs, d0, hp1, hpc, hpm, q0, q2p⟩ := right_head HR.out (HP.out _ B12.out).2.1
  obtain ⟨rfl, rfl, rfl⟩ : ao = some ⟨b, off, none⟩ ∧ n0 = P.length ∧ cap0 = cap := by simpa using hvs
  obtain ⟨p, hp⟩ := Int.eq_ofNat_of_zero_le q0
  have hp2 : p ≤ 2 := by omega
  have HPP : Hid (par0 P = p) := hp
  rw [hp] at d0
  unfold maxLen at hpm
  have hP0 : (0 : Int) < P.length := by omega
  have hP0n : 0 < P.length := by omega
  have kp := (HP.out _ B12.out).1
  have HPC : Hid (Calls Tryd.prog 16 #[.agg #[.slice (some ⟨b, off, none⟩) P.length cap0]] (w2.alloc (.cells cs2 34)) fun e w' => e = .returned (.int .i64 0) ∧ Below (w2.alloc (.cells cs2 34)).heap.size (w2.alloc (.cells cs2 34)) w') := (pcheck_any P _ (w2.alloc (.cells cs2 34)) (HP.out _ B12.out).2.2.1 (HP.out _ B12.out).2.2.2 (HP.out _ B12.out).2.1).mono (by rintro e w' ⟨E, rfl, hE, hb⟩; obtain rfl := proofAns_unique hE HR.out; exact ⟨rfl, hb⟩)
  clear hvs q0 q2p hp
  go_upto_region 5 with (go_at_call 16; refine HPC.out.mono ?_; rintro e w3 ⟨rfl, hb3⟩)
  have HB13 : Hid (Below (w1.alloc (.cells #[.slice (some ⟨b, off, none⟩) P.length cap0] 29)).heap.size (w1.alloc (.cells #[.slice (some ⟨b, off, none⟩) P.length cap0] 29)) w3) := B12.out.trans (hb3.mono B12.out.size)
  have X3 := X2.out _ hb3
  have hz3 : w2.heap.size + 1 ≤ w3.heap.size := by have := hb3.size; simpa using this
  have d03 := keeps_below hb3 _ _ d0
  have kp3 := (HP.out _ HB13.out).1
  have hshl := shl_less p hp2
  have hpI : (p : Int) ≤ 64 := by omega
  have HS0x : Hid (SafeFs P (walkS P 0 S).frames [2 ^ p - 1]) := by
    show SafeFs P S.frames _
    rw [HSE.out]
    have h1 := (safe_begun (right_code HR.out) hP0n ([a0, a1].take (par0 P).toNat)).1
    have e1 : (fnD P ((0 : Nat) : Int)).params = (p : Int) := HPP.out
    rw [e1] at h1
    exact SafeFs.nil.snoc h1
  clear kp d0 HPC hb3 hpI
  obtain ⟨c0, hc0⟩ : ∃ c : Nat, c = 2 ^ p - 1 := ⟨_, rfl⟩
  rw [← hc0] at hshl HS0x
  clear hc0
  go_upto_region 6 with fail
  have HSR0 : Hid (SetRow (w3.alloc (.cells #[.int .i64 (c0 : Int)] 3)) (w2.heap.size + 1) (.slice (some ⟨w3.heap.size, 0, none⟩) 1 1) [c0]) := World.ownsRow_lit w3 #[.int .i64 (c0 : Int)] 1 (by omega) (by unfold maxLen; omega) (by simp)
  have HB0L : Hid (Below (w1.alloc (.cells #[.slice (some ⟨b, off, none⟩) P.length cap0] 29)).heap.size (w1.alloc (.cells #[.slice (some ⟨b, off, none⟩) P.length cap0] 29)) (w3.alloc (.cells #[.int .i64 (c0 : Int)] 3))) := HB13.out.alloc HB13.out.size _
  have HST0 : Hid ((w3.alloc (.cells #[.int .i64 (c0 : Int)] 3)).heap[w2.heap.size]? = some (.cells cs2 34 (0, 0)) ∧ StVal (w3.alloc (.cells #[.int .i64 (c0 : Int)] 3)) (.agg cs2) (walkS P 0 S)) := ⟨(heap_alloc_old _ _ (by omega)).trans X3.1, X3.2.keeps (keeps_below ((Below.refl _ _).alloc (Nat.le_refl _) _))⟩
  have HZS : Hid ((Tryd.prog.info? 34).map (·.size) = some cs2.size ∧ zeroStCells.size = cs2.size) := ⟨q2, hz2⟩
  clear X3 X2 B12 d03 kp3 q2 hz2 hshl
  go_wp2
  go_loopw [8, 9] (fun sv i wr => ∃ (k : Nat) (csk : Array Value) (ms : List Nat), k ≤ 400 ∧ i = .int .i64 k ∧ wr.heap[w2.heap.size]? = some (.cells csk 34 (0, 0)) ∧ (Tryd.prog.info? 34).map (·.size) = some csk.size ∧ zeroStCells.size = csk.size ∧ StVal wr (.agg csk) (walkS P k S) ∧ SetRow wr (w2.heap.size + 1) sv ms ∧ ((walkS P k S).status = 0 → SafeFs P (walkS P k S).frames ms) ∧ Below (w1.alloc (.cells #[.slice (some ⟨b, off, none⟩) P.length cap0] 29)).heap.size (w1.alloc (.cells #[.slice (some ⟨b, off, none⟩) P.length cap0] 29)) wr) (fun _ i _ => 400 - (intOf i).toNat)
  case atStart => exact ⟨0, cs2, [c0], by omega, rfl, HST0.out.1, HZS.out.1, HZS.out.2, HST0.out.2, HSR0.out, fun _ => HS0x.out, HB0L.out⟩
  case round =>
    obtain ⟨k, csk, ms, hk, rfl, hrow, hq, hzk, hsv, hset, hsf, hbr⟩ := hrel
    have HBR : Hid (Below (w1.alloc (.cells #[.slice (some ⟨b, off, none⟩) P.length cap0] 29)).heap.size (w1.alloc (.cells #[.slice (some ⟨b, off, none⟩) P.length cap0] 29)) wr) := hbr
    have HBF : Hid (Below w.heap.size w wr) := B01.out.trans (hbr.mono B01.out.size)
    have k0 : wr.cell? ⟨w2.heap.size, 0, none⟩ = some (.int .i64 (walkS P k S).status) := by rw [cell_of_row _ _ _ _ _ _ hrow]; exact hsv.at.1
    have kp := (HP.out _ hbr).1
    by_cases hk4 : k < 400
    case neg =>
      obtain rfl : k = 400 := by omega
      obtain ⟨sa, sc, rfl⟩ := own_shape hset
      clear hsv hset hsf hbr
      generalize (walkS P 400 S).status = st at k0
      go_wp2
      go_ret
      exact ⟨rfl, HBF.out⟩
    have hkI : (k : Int) < 400 := by omega
    by_cases hs : (walkS P k S).status = 0
    case neg =>
      have hne : ((walkS P k S).status == 0) = false := by simpa using hs
      obtain ⟨sa, sc, rfl⟩ := own_shape hset
      clear hsv hset hsf hbr hs
      generalize (walkS P k S).status = st at k0 hne
      go_wp2
      go_ret
      exact ⟨rfl, HBF.out⟩
    rw [hs] at k0
    obtain ⟨hv1, hev⟩ := krun_walk HK.out k
    have HV1 : Hid (RunInv P (walkS P k S)) := hv1
    obtain ⟨fs, f, hsn⟩ : ∃ fs f, (walkS P k S).frames = fs ++ [f] := by
      rcases List.eq_nil_or_concat (walkS P k S).frames with hnil | ⟨fs, f, hsn⟩
      · exact absurd hnil (run_frames hv1 hs)
      · exact ⟨fs, f, by rw [hsn, List.concat_eq_append]⟩
    have HSN : Hid ((walkS P k S).frames = fs ++ [f]) := hsn
    have HS1 : Hid ((walkS P k S).status = 0) := hs
    obtain ⟨ms', m, rfl, hsf1, hsf2⟩ : ∃ ms' m, ms = ms' ++ [m] ∧ SafeFs P fs ms' ∧ SafeFr P f m := by
      have h := hsf hs
      rw [hsn] at h
      rcases h.inv with ⟨h1, _⟩ | ⟨fs2, ms', f2, m, e1, e2, h1, h2⟩
      · simp at h1
      · obtain ⟨rfl, e3⟩ := List.append_inj' e1 rfl
        cases e3
        exact ⟨ms', m, e2, h1, h2⟩
    have HSF1 : Hid (SafeFs P fs ms') := hsf1
    have HSF2 : Hid (SafeFr P f m) := hsf2
    have HSET : Hid (SetRow wr (w2.heap.size + 1) _ (ms' ++ [m])) := hset
    obtain ⟨gs, gc, rfl, hg1, hg2, hgc1, hgc2, cset, -, -, -⟩ := hset.last
    obtain ⟨fb, foff, fcap, g2, frng, f12, fc1, fc2⟩ := hsv.framesAt hsn
    have k2 : wr.cell? ⟨w2.heap.size, 2, none⟩ = some (.slice (some ⟨fb, foff, none⟩) (fs.length + 1) fcap) := by rw [cell_of_row _ _ _ _ _ _ hrow]; exact g2
    have hpf : placeB P f = true := hv1.fok.place f (by rw [hsn]; simp)
    have HPF : Hid (placeB P f = true ∧ ReachFr P f) := ⟨hpf, hv1.reach f (by rw [hsn]; simp)⟩
    have hix := place_ins (right_code HR.out) hpf
    have h8 : fs.length + 1 ≤ 8 := by have := ((mayB_iff _).1 hv1.may).2.2.2.2.1; rw [hsn] at this; simpa using this
    have hml : ms'.length = fs.length := hsf1.len
    obtain ⟨nf, hnf⟩ : ∃ nf : Nat, nf = fs.length + 1 := ⟨_, rfl⟩
    obtain ⟨jf, hjf⟩ : ∃ jf : Nat, jf = fs.length := ⟨_, rfl⟩
    have HNJ : Hid (nf = jf + 1 ∧ jf = fs.length ∧ ms'.length = jf ∧ nf ≤ 8) := ⟨by omega, hjf, by omega, by omega⟩
    rw [hml, ← hnf] at HSET hgc1
    rw [hml, ← hjf] at cset
    rw [hml, ← hnf]
    rw [← hnf] at k2 fc1
    rw [← hjf] at frng
    have hw1 : IntKind.i64.wrap ((nf : Int) - 1) = (jf : Int) := by rw [show (nf : Int) - 1 = jf by omega]; exact wrap_fits _ (by omega) (by omega)
    have hjm : (jf : Int) < nf := by omega
    have hjn : jf < nf := by omega
    have hm0 : ¬ nf = 0 := by omega
    have hfl : (Tryd.prog.info? 44).map (·.size) = some (frCells f).length := by rw [frCells_length f f12]; exact infoFr
    have hfs : (Tryd.prog.info? 44).map (·.size) = some (frCells f).toArray.size := by rw [List.size_toArray]; exact hfl
    have hfo : (frCells f).toArray.all (·.oneCell') = true := by rw [Array.all_eq_true_iff_forall_mem]; intro u hu; exact frCells_one _ u (by simpa using hu)
    have hfz : (zeroFr 0).toArray.size = (frCells f).toArray.size := by rw [List.size_toArray, List.size_toArray, frCells_length f f12]; rfl
    have HSV : Hid (StVal wr (.agg csk) (walkS P k S)) := hsv
    have hm4 : m < 4096 := hsf2.lt
    clear g2 hnf hjf hsv hset hsf hsf1 hsf2 hv1 hev hs hsn hml hbr
    go_upto_region 10 with (first
      | (refine wpList_load_mid rfl _ _ rfl fb (foff + jf * 14) rfl (frCells f) _ frng Tryd.underlying44 rfl hfl ?_)
      | (refine wpList_store_row rfl _ _ _ rfl _ (frCells f).toArray rfl rfl 44 (zeroFr 0).toArray (heap_alloc_last wr _) hfs hfz hfo ?_; rw [World.setRow_alloc_new]))
    have B5 : Hid (Below wr.heap.size wr (wr.alloc (.cells (frCells f).toArray 44))) := (Below.refl _ _).alloc (Nat.le_refl _) _
    have rt : (wr.alloc (.cells (frCells f).toArray 44)).heap[wr.heap.size]? = some (.cells (frCells f).toArray 44 (0, 0)) := heap_alloc_last wr _
    have B15 : Hid (Below (w1.alloc (.cells #[.slice (some ⟨b, off, none⟩) P.length cap0] 29)).heap.size (w1.alloc (.cells #[.slice (some ⟨b, off, none⟩) P.length cap0] 29)) (wr.alloc (.cells (frCells f).toArray 44))) := HBR.out.trans (B5.out.mono HBR.out.size)
    clear k0 k2 cset kp frng hfl hfs hfo hfz
    generalize (wr.alloc (.cells (frCells f).toArray 44)) = W5 at *
    obtain ⟨kk, jj, hkk, hjj, e1, e2, e3, e4⟩ := place_nat hpf
    obtain ⟨kk', jj', pb, po, pcap, b1, off1, m1, cap1, e1', e2', e3', -, d2, hjm1, hm1, hc1, hpcc, hpcm, hins⟩ := prog_ins (HP.out _ B15.out).2.1 hpf
    obtain rfl : kk = kk' := by omega
    obtain rfl : jj = jj' := by omega
    obtain ⟨⟨rfl, rfl⟩, rfl⟩ : (b = pb ∧ off = po) ∧ cap0 = pcap := by simpa using e3'
    have kp := (HP.out _ B15.out).1
    have t0 : W5.cell? ⟨wr.heap.size, 0, none⟩ = some (.int .i64 (kk : Int)) := by rw [cell_of_row _ _ _ _ _ _ rt, ← e1]; rfl
    have t1 : W5.cell? ⟨wr.heap.size, 1, none⟩ = some (.int .i64 (jj : Int)) := by rw [cell_of_row _ _ _ _ _ _ rt, ← e2]; rfl
    have HFW : Hid (fnD P f.fn = P[kk] ∧ f.pc.toNat = jj ∧ jj < P[kk].code.length ∧ Way P[kk] 63 jj) := ⟨e3, by rw [e2]; rfl, hjj, by have h := HPF.out.2; unfold ReachFr at h; rw [e3, e2] at h; exact h⟩
    have hkI2 : (kk : Int) < P.length := by omega
    have hjI : (jj : Int) < m1 := by omega
    have hins2 : insAt W5 b1 (off1 + jj * 5) (insOfFr P f) := hins
    clear hins hjj e1 e2 e3 e4 e1' e2' e3' rt
    obtain ⟨xo, xd, xa, xb, xi, HXE, HIX, i0, i1, i2, i3, i4⟩ : ∃ xo xd xa xb xi, Hid (insOfFr P f = ⟨xo, xd, xa, xb, xi⟩) ∧ Hid (InsOk P ⟨xo, xd, xa, xb, xi⟩) ∧ W5.cell? ⟨b1, off1 + jj * 5, none⟩ = some (.int .i64 xo) ∧ W5.cell? ⟨b1, off1 + jj * 5 + 1, none⟩ = some (.int .i64 xd) ∧ W5.cell? ⟨b1, off1 + jj * 5 + 2, none⟩ = some (.int .i64 xa) ∧ W5.cell? ⟨b1, off1 + jj * 5 + 3, none⟩ = some (.int .i64 xb) ∧ W5.cell? ⟨b1, off1 + jj * 5 + 4, none⟩ = some (.int .i64 xi) := ⟨_, _, _, _, _, (rfl : insOfFr P f = _), hix, hins2.1, hins2.2.1, hins2.2.2.1, hins2.2.2.2.1, hins2.2.2.2.2⟩
    clear hix hins2 hpf
    simp only [Act.put]
    go_cut [11] from 60 to 70 (fun t wx => ∃ G : Nat, t = .pointer (some ⟨G, 0, none⟩) ∧ wx.heap[G]? = some (.cells #[.int .i64 xo, .int .i64 xd, .int .i64 xa, .int .i64 xb, .int .i64 xi] 46 (0, 0)) ∧ Below W5.heap.size W5 wx)
    case first =>
      refine wp_region_held_drew (S := fun W => Below W5.heap.size W5 W) (by as_aux_lemma => kernel_rfl) ((Below.refl _ _).drew) (fun hHeld => ?_)
      show wpAnyH _ _ _ _ _ 13 _ _ _
      refine wpAnyH_take (i := 0) (v := ?_) rfl (by as_aux_lemma => kernel_rfl) (by as_aux_lemma => kernel_rfl) (by as_aux_lemma => kernel_rfl) (fun _ _ _ h => h) (Or.inl ⟨by rfl, ?_⟩) (by assumption) ?_
      rotate_left
      · (intro W hSW; go_simp; try (with_reducible rfl))
      (try simp only [Act.put, List.setIfInBounds_toArray])
      refine wpAnyH_take (i := 1) (v := ?_) rfl (by as_aux_lemma => kernel_rfl) (by as_aux_lemma => kernel_rfl) (by as_aux_lemma => kernel_rfl) (fun _ _ _ h => h) (Or.inl ⟨by rfl, ?_⟩) (by assumption) ?_
      rotate_left
      · (intro W hSW; have z0 := keeps_below hSW _ _ kp; go_simp; try (with_reducible rfl))
      (try simp only [Act.put])
      refine wpAnyH_take (i := 2) (v := ?_) rfl (by as_aux_lemma => kernel_rfl) (by as_aux_lemma => kernel_rfl) (by as_aux_lemma => kernel_rfl) (fun _ _ _ h => h) (Or.inl ⟨by rfl, ?_⟩) (by assumption) ?_
      rotate_left
      · (intro W hSW; go_simp; try (with_reducible rfl))
      (try simp only [Act.put])
      refine wpAnyH_take (i := 3) (v := ?_) rfl (by as_aux_lemma => kernel_rfl) (by as_aux_lemma => kernel_rfl) (by as_aux_lemma => kernel_rfl) (fun _ _ _ h => h) (Or.inl ⟨by rfl, ?_⟩) (by assumption) ?_
      rotate_left
      · (intro W hSW; have z0 := keeps_below hSW _ _ t0; go_simp; try (with_reducible rfl))
      (try simp only [Act.put])
      refine wpAnyH_take (i := 4) (v := ?_) rfl (by as_aux_lemma => kernel_rfl) (by as_aux_lemma => kernel_rfl) (by as_aux_lemma => kernel_rfl) (fun _ _ _ h => h) (Or.inl ⟨by rfl, ?_⟩) (by assumption) ?_
      rotate_left
      · (intro W hSW; go_simp; try (with_reducible rfl))
      (try simp only [Act.put])
      refine wpAnyH_take (i := 5) (v := ?_) rfl (by as_aux_lemma => kernel_rfl) (by as_aux_lemma => kernel_rfl) (by as_aux_lemma => kernel_rfl) (fun _ _ _ h => h) (Or.inl ⟨by rfl, ?_⟩) (by assumption) ?_
      rotate_left
      · (intro W hSW; go_simp; try (with_reducible rfl))
      (try simp only [Act.put])
      refine wpAnyH_take (i := 6) (v := ?_) rfl (by as_aux_lemma => kernel_rfl) (by as_aux_lemma => kernel_rfl) (by as_aux_lemma => kernel_rfl) (fun _ _ _ h => h) (Or.inl ⟨by rfl, ?_⟩) (by assumption) ?_
      rotate_left
      · (intro W hSW; have z0 := keeps_below hSW _ _ d2; go_simp; try (with_reducible rfl))
      (try simp only [Act.put])
      refine wpAnyH_take (i := 7) (v := ?_) rfl (by as_aux_lemma => kernel_rfl) (by as_aux_lemma => kernel_rfl) (by as_aux_lemma => kernel_rfl) (fun _ _ _ h => h) (Or.inl ⟨by rfl, ?_⟩) (by assumption) ?_
      rotate_left
      · (intro W hSW; go_simp; try (with_reducible rfl))
      (try simp only [Act.put])
      refine wpAnyH_take (i := 8) (v := ?_) rfl (by as_aux_lemma => kernel_rfl) (by as_aux_lemma => kernel_rfl) (by as_aux_lemma => kernel_rfl) (fun _ _ _ h => h) (Or.inl ⟨by rfl, ?_⟩) (by assumption) ?_
      rotate_left
      · (intro W hSW; have z0 := keeps_below hSW _ _ t1; go_simp; try (with_reducible rfl))
      (try simp only [Act.put])
      refine wpAnyH_take (i := 9) (v := ?_) rfl (by as_aux_lemma => kernel_rfl) (by as_aux_lemma => kernel_rfl) (by as_aux_lemma => kernel_rfl) (fun _ _ _ h => h) (Or.inl ⟨by rfl, ?_⟩) (by assumption) ?_
      rotate_left
      · (intro W hSW; go_simp; try (with_reducible rfl))
      (try simp only [Act.put])
      refine wpAnyH_take (i := 10) (v := ?_) rfl (by as_aux_lemma => kernel_rfl) (by as_aux_lemma => kernel_rfl) (by as_aux_lemma => kernel_rfl) (fun _ _ _ h => h) (Or.inl ⟨by rfl, ?_⟩) (by assumption) ?_
      rotate_left
      · (intro W hSW; have z0 := keeps_below hSW _ _ i0; have z1 := keeps_below hSW _ _ i1; have z2 := keeps_below hSW _ _ i2; have z3 := keeps_below hSW _ _ i3; have z4 := keeps_below hSW _ _ i4; go_simp; try (with_reducible rfl))
      (try simp only [Act.put])
      refine wpAnyH_ready (rs := [11]) (by as_aux_lemma => kernel_rfl) (by simp) ?_
      refine AllReadyH.cons rfl (fun K hK => ?_) AllReadyH.nil
      go_simp
      refine hK.out _ _ ((Below.refl _ _).alloc (Nat.le_refl _) _).drew (fun _ => ?_)
      clear hK K
      (try simp only [Act.put, List.setIfInBounds_toArray, List.set_cons_zero, List.set_cons_succ])
      refine wpAnyH_ready (rs := [12]) (by as_aux_lemma => kernel_rfl) (by simp) ?_
      refine AllReadyH.cons rfl (fun K hK => ?_) AllReadyH.nil
      go_simp
      refine hK.out _ _ ((Below.refl _ _).alloc (Nat.le_refl _) _).drew (fun _ => ?_)
      clear hK K
      (try simp only [Act.put, List.setIfInBounds_toArray, List.set_cons_zero, List.set_cons_succ])
      refine wpAnyH_done (by as_aux_lemma => kernel_rfl) ?_ _
      go_wp2_with fail
      go_meet
      exact ⟨_, rfl, heap_alloc_last W5 _, ((Below.refl _ _).alloc (Nat.le_refl _) _).drew⟩
    case rest =>
      rename World => WX
      obtain ⟨G, rfl, rowX, BX⟩ := hcut
      have HBX : Hid (Below wr.heap.size wr WX) := B5.out.trans (BX.mono B5.out.size)
      have HB1X : Hid (Below (w1.alloc (.cells #[.slice (some ⟨b, off, none⟩) P.length cap0] 29)).heap.size (w1.alloc (.cells #[.slice (some ⟨b, off, none⟩) P.length cap0] 29)) WX) := HBR.out.trans (HBX.out.mono HBR.out.size)
      have HCX : Hid (∀ W, Below WX.heap.size WX W → W.cell? ⟨G, 0, none⟩ = some (.int .i64 xo) ∧ W.cell? ⟨G, 1, none⟩ = some (.int .i64 xd) ∧ W.cell? ⟨G, 2, none⟩ = some (.int .i64 xa) ∧ W.cell? ⟨G, 3, none⟩ = some (.int .i64 xb) ∧ W.cell? ⟨G, 4, none⟩ = some (.int .i64 xi)) := fun W hW => ⟨keeps_below hW _ _ (by rw [cell_of_row _ _ _ _ _ _ rowX]; rfl), keeps_below hW _ _ (by rw [cell_of_row _ _ _ _ _ _ rowX]; rfl), keeps_below hW _ _ (by rw [cell_of_row _ _ _ _ _ _ rowX]; rfl), keeps_below hW _ _ (by rw [cell_of_row _ _ _ _ _ _ rowX]; rfl), keeps_below hW _ _ (by rw [cell_of_row _ _ _ _ _ _ rowX]; rfl)⟩
      have HTX : Hid (∀ W, Below WX.heap.size WX W → W.cell? ⟨wr.heap.size, 0, none⟩ = some (.int .i64 (kk : Int)) ∧ W.cell? ⟨wr.heap.size, 1, none⟩ = some (.int .i64 (jj : Int)) ∧ W.cell? ⟨w1.heap.size, 0, none⟩ = some (.slice (some ⟨b, off, none⟩) P.length cap0) ∧ ProgVal W (.slice (some ⟨b, off, none⟩) P.length cap0) P ∧ TabOk W ∧ CallOk W) := fun W hW => ⟨keeps_below hW _ _ (keeps_below BX _ _ t0), keeps_below hW _ _ (keeps_below BX _ _ t1), HP.out W (HB1X.out.trans (hW.mono HB1X.out.size))⟩
      have HSX : Hid (∀ W, Below WX.heap.size WX W → Below wr.heap.size wr W) := fun W hW => HBX.out.trans (hW.mono HBX.out.size)
      clear kp t0 t1 d2 i0 i1 i2 i3 i4 rowX BX B5 B15 hjm1 hjI hm1 hc1 hkI2 hpcc hpcm
      have hSU := sure_all P (.slice (some ⟨b, off, none⟩) P.length cap0) (kk : Int) WX (HTX.out _ (Below.refl _ _)).2.2.2.2.1 (HTX.out _ (Below.refl _ _)).2.2.2.1
      rw [fnErr_ok (right_code HR.out) hkk] at hSU
      obtain ⟨t0, t1, kp, -, -, -⟩ := HTX.out _ (Below.refl _ _)
      go_upto_region 12 with (go_at_call 17; refine hSU.mono ?_; rintro e w6 ⟨v6, A, rfl, hA, hI6, hb6⟩)
      have HB6 : Hid (Below WX.heap.size WX w6) := hb6
      obtain ⟨hAl, sN, hsN, hand⟩ := safe_sure HR.out hkk HFW.out.2.2.1 HFW.out.2.2.2 hA HFW.out.1 HFW.out.2.1 HSF2.out
      obtain ⟨aoA, bA, oA, nA, cA, rfl, hlA, haA, hcA, hcpA, hmA⟩ := ints_get hI6
      have hjc : jj < nA := by have := HFW.out.2.2.1; omega
      obtain rfl := haA (by omega)
      have cA6 := hcA jj hjc
      rw [hsN] at cA6
      clear t0 t1 kp hSU hA hI6 hb6 hAl hlA haA hcA hsN hcpA
      have HSET6 : Hid (SetRow w6 (w2.heap.size + 1) (.slice (some ⟨gs, 0, none⟩) nf gc) (ms' ++ [m])) := ownsRow_below HSET.out (HSX.out _ HB6.out)
      have HCS : Hid (∀ W, Below wr.heap.size wr W → W.cell? ⟨gs, jf, none⟩ = some (.int .i64 (m : Int))) := fun W hW => by
        obtain ⟨g', c', e, -, -, -, -, h1, -⟩ := SetRow.last (w := W) (ownsRow_below HSET.out hW)
        obtain ⟨rfl, -, rfl⟩ : gs = g' ∧ nf = ms'.length + 1 ∧ gc = c' := by simpa using e
        rw [HNJ.out.2.2.1] at h1; exact h1
      obtain ⟨t0, t1, kp, -, -, -⟩ := HTX.out _ HB6.out
      have cset := HCS.out _ (HSX.out _ HB6.out)
      have hnA : ¬ ((nA : Int) ≤ jj) := by omega
      have hjA : (jj : Int) < nA := by omega
      have hs0 : ¬ ((sN : Int) < 0) := by omega
      go_quiet (fail)
      have HB6n : Hid (∀ n, Below WX.heap.size WX (w6.drewN n)) := fun n => below_drewN HB6.out n
      clear t0 t1 kp cset cA6 hnA hjA hs0 hand
      have HRD : Hid (∀ n, Calls Tryd.prog 18 #[.agg #[.slice (some ⟨b, off, none⟩) P.length cap0], .agg #[.int .i64 xo, .int .i64 xd, .int .i64 xa, .int .i64 xb, .int .i64 xi]] (w6.drewN n) _) := fun n => reads_keep P (.slice (some ⟨b, off, none⟩) P.length cap0) ⟨xo, xd, xa, xb, xi⟩ (w6.drewN n) (HTX.out _ (HB6n.out n)).2.2.2.1 HIX.out
      have y0 : ∀ n, (w6.drewN n).cell? ⟨G, 0, none⟩ = some (.int .i64 xo) := fun n => (HCX.out _ (HB6n.out n)).1
      have y1 : ∀ n, (w6.drewN n).cell? ⟨G, 1, none⟩ = some (.int .i64 xd) := fun n => (HCX.out _ (HB6n.out n)).2.1
      have y2 : ∀ n, (w6.drewN n).cell? ⟨G, 2, none⟩ = some (.int .i64 xa) := fun n => (HCX.out _ (HB6n.out n)).2.2.1
      have y3 : ∀ n, (w6.drewN n).cell? ⟨G, 3, none⟩ = some (.int .i64 xb) := fun n => (HCX.out _ (HB6n.out n)).2.2.2.1
      have y4 : ∀ n, (w6.drewN n).cell? ⟨G, 4, none⟩ = some (.int .i64 xi) := fun n => (HCX.out _ (HB6n.out n)).2.2.2.2
      have kpn : ∀ n, (w6.drewN n).cell? ⟨w1.heap.size, 0, none⟩ = some (.slice (some ⟨b, off, none⟩) P.length cap0) := fun n => (HTX.out _ (HB6n.out n)).2.2.1
      go_upto_region 15 with (go_at_call 18; refine (HRD.out _).mono ?_; rintro e w7 ⟨v7, rfl, hI7, hb7⟩; have hb67 := (HB6n.out _).trans (hb7.mono (HB6n.out _).size))
      have HB7 : Hid (Below WX.heap.size WX w7) := hb67
      obtain ⟨aoR, bR, oR, nR, cR, rfl, hlR, haR, hcR, hcpR, hmR⟩ := ints_get hI7
      have HRR : Hid (∀ q, q < nR → ∃ r : Nat, r < 12 ∧ m.testBit r = true ∧ w7.cell? ⟨bR, oR + q, none⟩ = some (.int .i64 (r : Int))) := fun q hq => by
        have hq2 : q < (readsL P ⟨xo, xd, xa, xb, xi⟩).length := by omega
        have h1 := safe_reads HR.out HSF2.out HPF.out.1 HPF.out.2 (by rw [HXE.out]; exact HIX.out) ((readsL P ⟨xo, xd, xa, xb, xi⟩)[q]) (by rw [HXE.out]; exact List.getElem_mem hq2)
        obtain ⟨r, hr⟩ := Int.eq_ofNat_of_zero_le h1.1
        refine ⟨r, by omega, ?_, ?_⟩
        · have := h1.2.2; rw [hr] at this; simpa using this
        · rw [hcR q hq, ← hr]; simp [List.getD, hq2]
      have hR2 : nR ≤ 2 := by have := readsL_two P ⟨xo, xd, xa, xb, xi⟩; omega
      have HARR : Hid (0 < nR → aoR = some ⟨bR, oR, none⟩) := haR
      clear hI7 hb7 hb67 hlR haR hcR hcpR hmR y0 y1 y2 y3 y4 kpn HRD HB6n HSET6 HB6
      go_wp2
      go_loopw [16] (fun i wl => ∃ q : Nat, q ≤ nR ∧ i = .int .i64 q ∧ Below w7.heap.size w7 wl) (fun i _ => nR - (intOf i).toNat)
      case atStart => exact ⟨0, Nat.zero_le _, rfl, Below.refl _ _⟩
      case round =>
        rename World => wl
        obtain ⟨q, hqR, rfl, hbl⟩ := hrel
        have HBL : Hid (Below w7.heap.size w7 wl) := hbl
        have HBXL : Hid (Below WX.heap.size WX wl) := HB7.out.trans (hbl.mono HB7.out.size)
        have cset := HCS.out _ (HSX.out _ HBXL.out)
        clear hbl
        by_cases hqlt : q < nR
        case pos =>
          obtain ⟨r, hr12, hbit, cr⟩ := HRR.out q hqlt
          have crl := keeps_below HBL.out _ _ cr
          obtain rfl := HARR.out (by omega)
          have hqI : (q : Int) < nR := by omega
          have hr64 : (r : Int) ≤ 64 := by omega
          have hone := bit_one m r hm4 hbit
          clear cr hbit
          go_wp2
          go_quiet (fail)
          go_wp2
          go_roundw
          case rel => exact ⟨q + 1, by omega, by go_num, below_drewN HBL.out _⟩
          case measure => simp [intOf]; omega
        have HCN : Hid (Calls Tryd.prog 19 #[.agg #[.slice (some ⟨b, off, none⟩) P.length cap0], .agg csk] wl _) := knext HK.out k (by omega) _ _ wl (HTX.out _ HBXL.out).2.2.2.2.1 (HTX.out _ HBXL.out).2.2.2.2.2 (HTX.out _ HBXL.out).2.2.2.1 (HSV.out.keeps (keeps_below (HSX.out _ HBXL.out)))
        have kp := (HTX.out _ HBXL.out).2.2.1
        have rl := ((HSX.out _ HBXL.out).block _ (lt_of_block hrow)).trans hrow
        clear cset
        go_upto_region 21 with (first
          | (refine wpList_load_row rfl _ _ rfl _ rfl _ _ _ _ rl Tryd.underlying34 rfl hq ?_)
          | (go_at_call 19; refine HCN.out.mono ?_; rintro e w9 ⟨csn, rfl, c1, c2, c3, hst, hb9⟩)
          | (refine wpList_store_row rfl _ _ _ rfl _ _ rfl rfl _ _ (heap_alloc_last w9 _) c1 c2 c3 ?_; rw [World.setRow_alloc_new]))
        have HBL9 : Hid (Below wl.heap.size wl (w9.alloc (.cells csn 34))) := hb9.alloc hb9.size _
        have HSN9 : Hid (StAt (w9.alloc (.cells csn 34)) wl.heap.size (.agg csn) (walkS P (k + 1) S)) := hst.moved (fun ad u _ hu => cell_alloc hu _)
        have rn : (w9.alloc (.cells csn 34)).heap[w9.heap.size]? = some (.cells csn 34 (0, 0)) := heap_alloc_last w9 _
        have hGN : wl.heap.size ≤ w9.heap.size := hb9.size
        have qn : (Tryd.prog.info? 34).map (·.size) = some csn.size := c1
        have zn : zeroStCells.size = csn.size := c2
        have hon : csn.all (·.oneCell') = true := c3
        clear hst hb9 c1 c2 c3 kp rl HCN
        generalize (w9.alloc (.cells csn 34)) = W9 at *
        generalize w9.heap.size = GN at *
        have HBX9 : Hid (Below WX.heap.size WX W9) := HBXL.out.trans (HBL9.out.mono HBXL.out.size)
        have HB9 : Hid (Below wr.heap.size wr W9) := HSX.out _ HBX9.out
        have HB19 : Hid (Below (w1.alloc (.cells #[.slice (some ⟨b, off, none⟩) P.length cap0] 29)).heap.size (w1.alloc (.cells #[.slice (some ⟨b, off, none⟩) P.length cap0] 29)) W9) := HBR.out.trans (HB9.out.mono HBR.out.size)
        have r9 := (HB9.out.block _ (lt_of_block hrow)).trans hrow
        have hwl : wr.heap.size ≤ wl.heap.size := (HSX.out _ HBXL.out).size
        have hGSr : w2.heap.size < wr.heap.size := lt_of_block hrow
        have hgsr : gs < wr.heap.size := hg2
        have SV9 := HSV.out.keeps (keeps_below HB9.out)
        obtain ⟨fb9, fo9, fc9, g2, frng, f12b, fc1b, fc2b⟩ := SV9.framesAt HSN.out
        rw [← HNJ.out.2.1, ← HNJ.out.1] at g2
        have k2 : W9.cell? ⟨w2.heap.size, 2, none⟩ = some (.slice (some ⟨fb9, fo9, none⟩) nf fc9) := by rw [cell_of_row _ _ _ _ _ _ r9]; exact g2
        obtain ⟨fr9, fc9n, -, -, -, -, n2g, -, -⟩ := HSN9.out.val.at.2.2.2
        have n2 : W9.cell? ⟨GN, 2, none⟩ = some (.slice fr9 (walkS P (k + 1) S).frames.length fc9n) := by rw [cell_of_row _ _ _ _ _ _ rn]; exact n2g
        obtain ⟨y0, y1, y2, y3, y4⟩ := HCX.out _ HBX9.out
        have kp := (HTX.out _ HBX9.out).2.2.1
        have HSET9 : Hid (SetRow W9 (w2.heap.size + 1) (.slice (some ⟨gs, 0, none⟩) nf gc) (ms' ++ [m])) := ownsRow_below HSET.out HB9.out
        have cset := HCS.out _ HB9.out
        have cfz : W9.frozen? ⟨gs, jf, none⟩ = false := by
          obtain ⟨g', c', e, -, -, -, -, -, h1, -⟩ := HSET9.out.last
          obtain ⟨rfl, -, rfl⟩ : gs = g' ∧ nf = ms'.length + 1 ∧ gc = c' := by simpa using e
          rw [HNJ.out.2.2.1] at h1; exact h1
        have HSTO : Hid (∀ m' : Nat, SetRow (W9.setCell ⟨gs, jf, none⟩ (.int .i64 (m' : Int))) (w2.heap.size + 1) (.slice (some ⟨gs, 0, none⟩) nf gc) (ms' ++ [m'])) := fun m' => by
          obtain ⟨g', c', e, -, -, -, -, -, -, h1, -⟩ := HSET9.out.last
          obtain ⟨rfl, -, rfl⟩ : gs = g' ∧ nf = ms'.length + 1 ∧ gc = c' := by simpa using e
          have := h1 m'; rw [HNJ.out.2.2.1] at this; exact this
        have HPOP : Hid (SetRow W9 (w2.heap.size + 1) (.slice (some ⟨gs, 0, none⟩) jf gc) ms') := by
          obtain ⟨g', c', e, -, -, -, -, -, -, -, h1⟩ := HSET9.out.last
          obtain ⟨rfl, -, rfl⟩ : gs = g' ∧ nf = ms'.length + 1 ∧ gc = c' := by simpa using e
          have := h1; rw [HNJ.out.2.2.1] at this; exact this
        have HSNX : Hid (∀ W, (∀ (a : Addr) u, wl.heap.size ≤ a.block → W9.cell? a = some u → W.cell? a = some u) → StAt W wl.heap.size (.agg csn) (walkS P (k + 1) S)) := fun W h => HSN9.out.moved h
        have HST : Hid (walkS P (k + 1) S = stepS P (walkS P k S)) := walkS_succ P k S HS1.out
        have hstore : csk.size = csn.size := hzk.symm.trans zn
        have hGNS : GN ≠ w2.heap.size := by omega
        have HOPT : Hid (((walkS P (k + 1) S).frames.length = nf + 1 ∧ xo = 17 ∧ SafeFs P (walkS P (k + 1) S).frames (ms' ++ [m] ++ [2 ^ (fnD P xi).params.toNat - 1])) ∨ ((walkS P (k + 1) S).frames.length + 1 = nf ∧ ∃ fs' up ms2 m2, fs = fs' ++ [up] ∧ ms' = ms2 ++ [m2] ∧ SafeFs P (walkS P (k + 1) S).frames (ms2 ++ [m2 ||| 2 ^ (insOfFr P up).dst.toNat])) ∨ ((walkS P (k + 1) S).frames.length = nf ∧ ((walkS P (k + 1) S).status = 0 → xo ≠ 17 ∧ SafeFs P (walkS P (k + 1) S).frames (ms' ++ [m ||| setMask ⟨xo, xd, xa, xb, xi⟩]))) ∨ ((walkS P (k + 1) S).frames.length = 0 ∧ nf = 1 ∧ (walkS P (k + 1) S).status ≠ 0)) := by
          have hl : (walkS P k S).frames.length = nf := by rw [HSN.out]; simp; have := HNJ.out; omega
          show _ ∨ _
          rw [HST.out]
          by_cases hn : (stepS P (walkS P k S)).status = 0
          · have h := safe_step HR.out HV1.out HSN.out HSF1.out HSF2.out hn
            rw [HXE.out, hl] at h
            rcases h with h | h | h
            · exact Or.inl h
            · exact Or.inr (Or.inl h)
            · exact Or.inr (Or.inr (Or.inl ⟨h.1, fun _ => h.2⟩))
          · rcases safe_lens HSN.out HS1.out hn with h | ⟨h1, h2⟩
            · exact Or.inr (Or.inr (Or.inl ⟨by rw [h, hl], fun h0 => absurd h0 hn⟩))
            · refine Or.inr (Or.inr (Or.inr ⟨by rw [h2]; rfl, ?_, hn⟩))
              have := HNJ.out; rw [h1] at this; simp at this; omega
        clear n2g g2 SV9 HSN9 frng f12b fc1b fc2b
        generalize hLn : (walkS P (k + 1) S).frames.length = Ln at *
        have HLn : Hid ((walkS P (k + 1) S).frames.length = Ln) := hLn
        clear hLn
        have hjm2 : (jf : Int) < nf := hjm
        rcases HOPT.out with ⟨hL, h17, hSf⟩ | ⟨hL, fs2, up, ms2, m2, hfs2, hms2, hSf⟩ | ⟨hL, hSf⟩ | ⟨hL, hn1, hSf⟩
        · have HSf : Hid (SafeFs P (walkS P (k + 1) S).frames (ms' ++ [m] ++ [2 ^ (fnD P xi).params.toNat - 1])) := hSf
          subst h17
          obtain ⟨ti, hti⟩ := Int.eq_ofNat_of_zero_le (HIX.out.call rfl).1
          have htl : ti < P.length := by have := (HIX.out.call rfl).2.1; dsimp only at hti this; omega
          dsimp only at hti
          subst hti
          obtain ⟨b', off', cap', u', e', pd0, -, -, -, hcm, hcl⟩ := prog_fn (HTX.out _ HBX9.out).2.2.2.1 htl
          obtain ⟨⟨rfl, rfl⟩, rfl⟩ : (b = b' ∧ off = off') ∧ cap0 = cap' := by simpa using e'
          obtain ⟨pp, hpp⟩ := Int.eq_ofNat_of_zero_le (fnOk_of (right_code HR.out) (List.getElem_mem htl)).1.p0
          have hpp2 : pp ≤ 2 := by have := (fnOk_of (right_code HR.out) (List.getElem_mem htl)).1.p2; omega
          rw [hpp] at pd0
          have hshl := shl_less pp hpp2
          have ef : (fnD P (ti : Int)).params.toNat = pp := by unfold fnD; simp [List.getD, htl, hpp]
          rw [ef] at HSf
          obtain ⟨cN, hcN⟩ : ∃ c : Nat, c = 2 ^ pp - 1 := ⟨_, rfl⟩
          rw [← hcN] at hshl HSf
          have htI : (ti : Int) < P.length := by omega
          have hppI : (pp : Int) ≤ 64 := by omega
          have hgt : (nf : Int) < Ln := by omega
          have hLe : (Ln : Int) = nf + 1 := by omega
          clear hcN ef e' hSf hpp hpp2 cset cfz y1 y2 y3 HOPT HSTO HPOP
          have hwz : w2.heap.size + 1 ≤ W9.heap.size := by have := HB9.out.size; omega
          have hlen9 : (ms' ++ [m]).length = nf := by have h1 := HNJ.out.1; have h2 := HNJ.out.2.2.1; rw [List.length_append, List.length_singleton]; omega
          have HS9 : Hid (W9.ownsRow (w2.heap.size + 1) 3 1 (.slice (some ⟨gs, 0, none⟩) nf gc) nf (i64s ((ms' ++ [m]).map fun b => ((b : Nat) : Int)))) := by have := HSET9.out; unfold SetRow at this; rw [hlen9] at this; exact this
          have hnf8 : nf ≤ 8 := HNJ.out.2.2.2
          have HL9 : Hid ((ms' ++ [m]).length = nf) := hlen9
          clear hlen9
          go_upto_region 32 with (at_builtin; refine wpList_append_own _ rfl (.tmp 151) (.tmp 161) 24 rfl (w2.heap.size + 1) 3 i64i _ 1 8 Tryd.underlying24 hi64 hz0 hz1 hz2x rfl (by decide) _ _ _ rfl (HS9.out.alloc _) ⟨_, 0, none⟩ 1 1 (i64s [(cN : Int)]) rfl rfl (news_list _ _ _ _ (by simp)) (i64s_one _) (by unfold maxLen; omega) (by omega) (by simp; omega) ?_; intro v2 wa hown2 hg2a _; rw [← i64s_append] at hown2)
          have hg2b : (W9.alloc (.cells #[.int .i64 (cN : Int)] 3)).grownBy wa (some gs) := hg2a
          obtain ⟨av2, cv2, rfl⟩ := own_shape hown2
          have HSA : Hid (SetRow wa (w2.heap.size + 1) (.slice av2 (nf + 1) cv2) (ms' ++ [m] ++ [cN])) := by
            unfold SetRow
            rw [List.length_append, HL9.out, List.map_append]
            exact hown2
          have hz9 : W9.heap.size ≤ wa.heap.size := by have := hg2b.size; simp at this; omega
          have HBa : Hid (Below (w1.alloc (.cells #[.slice (some ⟨b, off, none⟩) P.length cap0] 29)).heap.size (w1.alloc (.cells #[.slice (some ⟨b, off, none⟩) P.length cap0] 29)) wa) := below_gb (HB19.out.alloc HB19.out.size _) hg2b (by have := HZ12.out; omega) (by have := HB19.out.size; simp at this ⊢; omega)
          have HSa : Hid (StAt wa wl.heap.size (.agg csn) (walkS P (k + 1) S)) := HSNX.out wa (fun a u ha hu => gb_cell hg2b (cell_alloc hu _) (by omega))
          have ra := (hg2b.block _ (by have := lt_of_block r9; simp; omega) (by simp; omega)).trans ((heap_alloc_old _ _ (lt_of_block r9)).trans r9)
          have rna := (hg2b.block _ (by have := lt_of_block rn; simp; omega) (by simp; omega)).trans ((heap_alloc_old _ _ (lt_of_block rn)).trans rn)
          clear hown2 hg2a hg2b
          go_wp2_with (first
            | (refine wpList_load_row rfl _ _ rfl _ rfl _ _ _ _ rna Tryd.underlying34 rfl qn ?_)
            | (refine wpList_store_row rfl _ _ _ rfl w2.heap.size csn rfl rfl 34 csk ra qn hstore hon ?_))
          go_roundw
          case rel => exact ⟨k + 1, csn, ms' ++ [m] ++ [cN], by omega, by go_num, setRow_heap _ _ _ _ _ _ ra, qn, zn, (HSa.out.setRow (by omega) _).val, own_setRow HSA.out (Nat.lt_succ_self _) _, (fun _ => HSf.out), below_setRow HBa.out HZ12.out _⟩
          case measure => simp [intOf]; omega
        · obtain rfl := hfs2
          obtain rfl := hms2
          have HSf : Hid (SafeFs P (walkS P (k + 1) S).frames (ms2 ++ [m2 ||| 2 ^ (insOfFr P up).dst.toNat])) := hSf
          obtain ⟨ju, hju⟩ : ∃ ju : Nat, ju = fs2.length := ⟨_, rfl⟩
          have hjj1 : jf = ju + 1 := by have := HNJ.out.2.1; simp at this; omega
          have hmu : ms2.length = ju := by have := HNJ.out.2.2.1; simp at this; omega
          subst hjj1
          obtain ⟨g', c', e, -, -, -, -, cs2v, cf2v, hst2, -⟩ := HPOP.out.last
          obtain ⟨rfl, -, rfl⟩ : gs = g' ∧ ju + 1 = ms2.length + 1 ∧ gc = c' := by simpa using e
          rw [hmu] at cs2v cf2v
          have HST2 : Hid (∀ m' : Nat, SetRow (W9.setCell ⟨gs, ju, none⟩ (.int .i64 (m' : Int))) (w2.heap.size + 1) (.slice (some ⟨gs, 0, none⟩) (ju + 1) gc) (ms2 ++ [m'])) := fun m' => by have := hst2 m'; rw [hmu] at this; exact this
          have hm24 : m2 < 4096 := by
            rcases HSF1.out.inv with ⟨h, _⟩ | ⟨a1, a2, a3, a4, -, e5, -, h6⟩
            · simp at h
            · obtain ⟨-, e7⟩ := List.append_inj' e5 rfl
              cases e7; exact h6.lt
          have hpu : placeB P up = true := HV1.out.fok.place up (by rw [HSN.out]; simp)
          have hix2 := place_ins (right_code HR.out) hpu
          obtain ⟨ku, ru, pb, po, pcap, b1, off1, m1, cap1, e1', e2', e3', hkul, d2, hjm1, hm1, hc1, hpcc, hpcm, hins⟩ := prog_ins (HTX.out _ HBX9.out).2.2.2.1 hpu
          obtain ⟨⟨rfl, rfl⟩, rfl⟩ : (b = pb ∧ off = po) ∧ cap0 = pcap := by simpa using e3'
          have hins2 : insAt W9 b1 (off1 + ru * 5) (insOfFr P up) := hins
          obtain ⟨xd2, hxd2⟩ := Int.eq_ofNat_of_zero_le hix2.dst0
          have hxl2 : xd2 < 12 := by have := hix2.dst1; omega
          have i1u : W9.cell? ⟨b1, off1 + ru * 5 + 1, none⟩ = some (.int .i64 (xd2 : Int)) := by rw [← hxd2]; exact hins2.2.1
          rw [hxd2, Int.toNat_natCast] at HSf
          have hx64 : (xd2 : Int) ≤ 64 := by omega
          have HOR := or_shl m2 xd2 hm24 hxl2
          have HORH : Hid _ := HOR
          clear HOR
          obtain ⟨fr0, fbj, foj, fcj, gj2, flj, fmj, haj, hrj⟩ := (HSV.out.keeps (keeps_below HB9.out)).framesJ
          have hfr9 : fr0 = some ⟨fb9, fo9, none⟩ := by
            have h1 := k2
            rw [cell_of_row _ _ _ _ _ _ r9, gj2] at h1
            have h2 := Option.some.inj h1
            simp at h2; exact h2.1
          have hlz : 0 < (walkS P k S).frames.length := by rw [HSN.out]; simp
          obtain ⟨rfl, rfl⟩ : fbj = fb9 ∧ foj = fo9 := by have := haj hlz; rw [hfr9] at this; simpa [eq_comm] using this
          have hul : ju < (walkS P k S).frames.length := by rw [HSN.out]; simp; omega
          have hup : (walkS P k S).frames[ju]'hul = up := by
            have : (walkS P k S).frames[ju]? = some up := by rw [HSN.out, List.append_assoc, List.getElem?_append_right (by omega), hju]; simp
            rw [List.getElem?_eq_getElem hul] at this; exact Option.some.inj this
          obtain ⟨urng, u12⟩ := hrj ju hul
          rw [hup] at urng u12
          have hfl : (Tryd.prog.info? 44).map (·.size) = some (frCells up).length := by rw [frCells_length up u12]; exact infoFr
          have hfs : (Tryd.prog.info? 44).map (·.size) = some (frCells up).toArray.size := by rw [List.size_toArray]; exact hfl
          have hfo : (frCells up).toArray.all (·.oneCell') = true := by rw [Array.all_eq_true_iff_forall_mem]; intro u hu; exact frCells_one _ u (by simpa using hu)
          have hfz : (zeroFr 0).toArray.size = (frCells up).toArray.size := by rw [List.size_toArray, List.size_toArray, frCells_length up u12]; rfl
          have hnf2 : nf = ju + 1 + 1 := HNJ.out.1
          have hw2a : IntKind.i64.wrap ((nf : Int) - 2) = (ju : Int) := by rw [show (nf : Int) - 2 = ju by omega]; exact wrap_fits _ (by omega) (by omega)
          have hjlt : (ju : Int) < (ju : Int) + 1 := by omega
          have hwj : IntKind.i64.wrap (ju : Int) = (ju : Int) := wrap_fits _ (by omega) (by have := HNJ.out; omega)
          have hLlt : (Ln : Int) < nf := by omega
          have hLlt2 : ¬ ((nf : Int) < Ln) := by omega
          have hjun : (ju : Int) < nf := by omega
          have hgc3 : ju + 1 ≤ gc := by omega
          have HU0 : Hid (up.fn = (ku : Int) ∧ up.pc = (ru : Int)) := ⟨e1', e2'⟩
          have hkuI : (ku : Int) < P.length := by omega
          have hruI : (ru : Int) < m1 := by omega
          clear hins hins2 hSf hju hmu hst2 e gj2 hrj haj hup hix2 hpu e1' e2' e3' hxd2 cset cfz y0 y1 y2 y3 y4 HOPT HSTO hul hlz flj fmj hfr9
          go_upto_region 29 with (first
            | (refine wpList_load_mid rfl _ _ rfl fbj (foj + ju * 14) rfl (frCells up) _ urng Tryd.underlying44 rfl hfl ?_)
            | (refine wpList_store_row rfl _ _ _ rfl _ (frCells up).toArray rfl rfl 44 (zeroFr 0).toArray (heap_alloc_last W9 _) hfs hfz hfo ?_; rw [World.setRow_alloc_new]))
          have BU : Hid (Below W9.heap.size W9 (W9.alloc (.cells (frCells up).toArray 44))) := (Below.refl _ _).alloc (Nat.le_refl _) _
          have rt : (W9.alloc (.cells (frCells up).toArray 44)).heap[W9.heap.size]? = some (.cells (frCells up).toArray 44 (0, 0)) := heap_alloc_last W9 _
          have u0 : (W9.alloc (.cells (frCells up).toArray 44)).cell? ⟨W9.heap.size, 0, none⟩ = some (.int .i64 (ku : Int)) := by rw [cell_of_row _ _ _ _ _ _ rt, ← HU0.out.1]; rfl
          have u1 : (W9.alloc (.cells (frCells up).toArray 44)).cell? ⟨W9.heap.size, 1, none⟩ = some (.int .i64 (ru : Int)) := by rw [cell_of_row _ _ _ _ _ _ rt, ← HU0.out.2]; rfl
          have kpu := keeps_below BU.out _ _ kp
          have d2u := keeps_below BU.out _ _ d2
          have iu := keeps_below BU.out _ _ i1u
          have csu := keeps_below BU.out _ _ cs2v
          have cfu : (W9.alloc (.cells (frCells up).toArray 44)).frozen? ⟨gs, ju, none⟩ = false := by
            have h := SetRow.last (w := (W9.alloc (.cells (frCells up).toArray 44))) (HPOP.out.alloc (.cells (frCells up).toArray 44))
            obtain ⟨g', c', e, -, -, -, -, -, h1, -, -⟩ := h
            obtain ⟨rfl, e2, rfl⟩ : gs = g' ∧ ju + 1 = ms2.length + 1 ∧ gc = c' := by simpa using e
            rw [show ms2.length = ju by omega] at h1; exact h1
          have rU := (BU.out.block _ (lt_of_block r9)).trans r9
          have rnU := (BU.out.block _ (lt_of_block rn)).trans rn
          have HSTU : Hid (∀ m' : Nat, SetRow ((W9.alloc (.cells (frCells up).toArray 44)).setCell ⟨gs, ju, none⟩ (.int .i64 (m' : Int))) (w2.heap.size + 1) (.slice (some ⟨gs, 0, none⟩) (ju + 1) gc) (ms2 ++ [m'])) := fun m' => by
            have h := SetRow.last (w := (W9.alloc (.cells (frCells up).toArray 44))) (HPOP.out.alloc (.cells (frCells up).toArray 44))
            obtain ⟨g', c', e, -, -, -, -, -, -, h1, -⟩ := h
            obtain ⟨rfl, e2, rfl⟩ : gs = g' ∧ ju + 1 = ms2.length + 1 ∧ gc = c' := by simpa using e
            have := h1 m'; rw [show ms2.length = ju by omega] at this; exact this
          have HSNU : Hid (∀ W, (∀ (a : Addr) u, wl.heap.size ≤ a.block → (W9.alloc (.cells (frCells up).toArray 44)).cell? a = some u → W.cell? a = some u) → StAt W wl.heap.size (.agg csn) (walkS P (k + 1) S)) := fun W h => HSNX.out W (fun a u ha hu => h a u ha (cell_alloc hu _))
          have HB1U : Hid (Below (w1.alloc (.cells #[.slice (some ⟨b, off, none⟩) P.length cap0] 29)).heap.size (w1.alloc (.cells #[.slice (some ⟨b, off, none⟩) P.length cap0] 29)) (W9.alloc (.cells (frCells up).toArray 44))) := HB19.out.trans (BU.out.mono HB19.out.size)
          have hUB : W9.heap.size < (W9.alloc (.cells (frCells up).toArray 44)).heap.size := by simp
          clear rt kp d2 i1u cs2v cf2v r9 rn hfl hfs hfo hfz urng HSNX HPOP HSET9 HST2 k2 n2
          generalize (W9.alloc (.cells (frCells up).toArray 44)) = WU at *
          generalize W9.heap.size = UB at *
          refine wp_region_last (S := fun W => Below WU.heap.size WU W) _ 21 (by as_aux_lemma => kernel_rfl) (by as_aux_lemma => kernel_rfl) rfl ((Below.refl _ _).drew) (fun hHeld => ?_)
          simp only [List.pop_toArray, List.dropLast]
          refine wpAnyH_take (i := 0) (v := ?_) rfl (by as_aux_lemma => kernel_rfl) (by as_aux_lemma => kernel_rfl) (by as_aux_lemma => kernel_rfl) (fun _ _ _ h => h) (Or.inl ⟨by rfl, ?_⟩) (by assumption) ?_
          rotate_left
          · (intro W hSW; go_simp; try (with_reducible rfl))
          (try simp only [Act.put, List.setIfInBounds_toArray])
          refine wpAnyH_take (i := 1) (v := ?_) rfl (by as_aux_lemma => kernel_rfl) (by as_aux_lemma => kernel_rfl) (by as_aux_lemma => kernel_rfl) (fun _ _ _ h => h) (Or.inl ⟨by rfl, ?_⟩) (by assumption) ?_
          rotate_left
          · (intro W hSW; go_simp; try (with_reducible rfl))
          (try simp only [Act.put])
          refine wpAnyH_take (i := 2) (v := ?_) rfl (by as_aux_lemma => kernel_rfl) (by as_aux_lemma => kernel_rfl) (by as_aux_lemma => kernel_rfl) (fun _ _ _ h => h) (Or.inl ⟨by rfl, ?_⟩) (by assumption) ?_
          rotate_left
          · (intro W hSW; go_simp; try (with_reducible rfl))
          (try simp only [Act.put])
          refine wpAnyH_take (i := 3) (v := ?_) rfl (by as_aux_lemma => kernel_rfl) (by as_aux_lemma => kernel_rfl) (by as_aux_lemma => kernel_rfl) (fun _ _ _ h => h) (Or.inl ⟨by rfl, ?_⟩) (by assumption) ?_
          rotate_left
          · (intro W hSW; go_simp; try (with_reducible rfl))
          (try simp only [Act.put])
          refine wpAnyH_take (i := 4) (v := ?_) rfl (by as_aux_lemma => kernel_rfl) (by as_aux_lemma => kernel_rfl) (by as_aux_lemma => kernel_rfl) (fun _ _ _ h => h) (Or.inl ⟨by rfl, ?_⟩) (by assumption) ?_
          rotate_left
          · (intro W hSW; go_simp; try (with_reducible rfl))
          (try simp only [Act.put])
          refine wpAnyH_take (i := 5) (v := ?_) rfl (by as_aux_lemma => kernel_rfl) (by as_aux_lemma => kernel_rfl) (by as_aux_lemma => kernel_rfl) (fun _ _ _ h => h) (Or.inl ⟨by rfl, ?_⟩) (by assumption) ?_
          rotate_left
          · (intro W hSW; have z0 := keeps_below hSW _ _ csu; go_simp; try (with_reducible rfl))
          (try simp only [Act.put])
          refine wpAnyH_take (i := 6) (v := ?_) rfl (by as_aux_lemma => kernel_rfl) (by as_aux_lemma => kernel_rfl) (by as_aux_lemma => kernel_rfl) (fun _ _ _ h => h) (Or.inl ⟨by rfl, ?_⟩) (by assumption) ?_
          rotate_left
          · (intro W hSW; go_simp; try (with_reducible rfl))
          (try simp only [Act.put])
          refine wpAnyH_take (i := 7) (v := ?_) rfl (by as_aux_lemma => kernel_rfl) (by as_aux_lemma => kernel_rfl) (by as_aux_lemma => kernel_rfl) (fun _ _ _ h => h) (Or.inl ⟨by rfl, ?_⟩) (by assumption) ?_
          rotate_left
          · (intro W hSW; have z0 := keeps_below hSW _ _ kpu; go_simp; try (with_reducible rfl))
          (try simp only [Act.put])
          refine wpAnyH_take (i := 8) (v := ?_) rfl (by as_aux_lemma => kernel_rfl) (by as_aux_lemma => kernel_rfl) (by as_aux_lemma => kernel_rfl) (fun _ _ _ h => h) (Or.inl ⟨by rfl, ?_⟩) (by assumption) ?_
          rotate_left
          · (intro W hSW; go_simp; try (with_reducible rfl))
          (try simp only [Act.put])
          refine wpAnyH_take (i := 9) (v := ?_) rfl (by as_aux_lemma => kernel_rfl) (by as_aux_lemma => kernel_rfl) (by as_aux_lemma => kernel_rfl) (fun _ _ _ h => h) (Or.inl ⟨by rfl, ?_⟩) (by assumption) ?_
          rotate_left
          · (intro W hSW; have z0 := keeps_below hSW _ _ u0; go_simp; try (with_reducible rfl))
          (try simp only [Act.put])
          refine wpAnyH_take (i := 10) (v := ?_) rfl (by as_aux_lemma => kernel_rfl) (by as_aux_lemma => kernel_rfl) (by as_aux_lemma => kernel_rfl) (fun _ _ _ h => h) (Or.inl ⟨by rfl, ?_⟩) (by assumption) ?_
          rotate_left
          · (intro W hSW; go_simp; try (with_reducible rfl))
          (try simp only [Act.put])
          refine wpAnyH_take (i := 11) (v := ?_) rfl (by as_aux_lemma => kernel_rfl) (by as_aux_lemma => kernel_rfl) (by as_aux_lemma => kernel_rfl) (fun _ _ _ h => h) (Or.inl ⟨by rfl, ?_⟩) (by assumption) ?_
          rotate_left
          · (intro W hSW; go_simp; try (with_reducible rfl))
          (try simp only [Act.put])
          refine wpAnyH_take (i := 12) (v := ?_) rfl (by as_aux_lemma => kernel_rfl) (by as_aux_lemma => kernel_rfl) (by as_aux_lemma => kernel_rfl) (fun _ _ _ h => h) (Or.inl ⟨by rfl, ?_⟩) (by assumption) ?_
          rotate_left
          · (intro W hSW; have z0 := keeps_below hSW _ _ d2u; go_simp; try (with_reducible rfl))
          (try simp only [Act.put])
          refine wpAnyH_take (i := 13) (v := ?_) rfl (by as_aux_lemma => kernel_rfl) (by as_aux_lemma => kernel_rfl) (by as_aux_lemma => kernel_rfl) (fun _ _ _ h => h) (Or.inl ⟨by rfl, ?_⟩) (by assumption) ?_
          rotate_left
          · (intro W hSW; go_simp; try (with_reducible rfl))
          (try simp only [Act.put])
          refine wpAnyH_take (i := 14) (v := ?_) rfl (by as_aux_lemma => kernel_rfl) (by as_aux_lemma => kernel_rfl) (by as_aux_lemma => kernel_rfl) (fun _ _ _ h => h) (Or.inl ⟨by rfl, ?_⟩) (by assumption) ?_
          rotate_left
          · (intro W hSW; have z0 := keeps_below hSW _ _ u1; go_simp; try (with_reducible rfl))
          (try simp only [Act.put])
          refine wpAnyH_take (i := 15) (v := ?_) rfl (by as_aux_lemma => kernel_rfl) (by as_aux_lemma => kernel_rfl) (by as_aux_lemma => kernel_rfl) (fun _ _ _ h => h) (Or.inl ⟨by rfl, ?_⟩) (by assumption) ?_
          rotate_left
          · (intro W hSW; go_simp; try (with_reducible rfl))
          (try simp only [Act.put])
          refine wpAnyH_take (i := 16) (v := ?_) rfl (by as_aux_lemma => kernel_rfl) (by as_aux_lemma => kernel_rfl) (by as_aux_lemma => kernel_rfl) (fun _ _ _ h => h) (Or.inl ⟨by rfl, ?_⟩) (by assumption) ?_
          rotate_left
          · (intro W hSW; go_simp; try (with_reducible rfl))
          (try simp only [Act.put])
          refine wpAnyH_take (i := 17) (v := ?_) rfl (by as_aux_lemma => kernel_rfl) (by as_aux_lemma => kernel_rfl) (by as_aux_lemma => kernel_rfl) (fun _ _ _ h => h) (Or.inl ⟨by rfl, ?_⟩) (by assumption) ?_
          rotate_left
          · (intro W hSW; have z0 := keeps_below hSW _ _ iu; go_simp; try (with_reducible rfl))
          (try simp only [Act.put])
          refine wpAnyH_take (i := 18) (v := ?_) rfl (by as_aux_lemma => kernel_rfl) (by as_aux_lemma => kernel_rfl) (by as_aux_lemma => kernel_rfl) (fun _ _ _ h => h) (Or.inl ⟨by rfl, ?_⟩) (by assumption) ?_
          rotate_left
          · (intro W hSW; go_simp; try (with_reducible rfl))
          (try simp only [Act.put])
          refine wpAnyH_take (i := 19) (v := ?_) rfl (by as_aux_lemma => kernel_rfl) (by as_aux_lemma => kernel_rfl) (by as_aux_lemma => kernel_rfl) (fun _ _ _ h => h) (Or.inl ⟨by rfl, ?_⟩) (by assumption) ?_
          rotate_left
          · (intro W hSW; go_simp; try (with_reducible rfl))
          (try simp only [Act.put])
          refine wpAnyH_take (i := 20) (v := ?_) rfl (by as_aux_lemma => kernel_rfl) (by as_aux_lemma => kernel_rfl) (by as_aux_lemma => kernel_rfl) (fun _ _ _ h => h) (Or.inl ⟨by rfl, ?_⟩) (by assumption) ?_
          rotate_left
          · (intro W hSW; go_simp; try (with_reducible rfl))
          (try simp only [Act.put])
          refine wpAnyH_done (by as_aux_lemma => kernel_rfl) ?_ _
          refine Or.inl ?_
          have cfd : WU.drew.frozen? ⟨gs, ju, none⟩ = false := cfu
          have ccd : WU.drew.cell? ⟨gs, ju, none⟩ = some (.int .i64 (m2 : Int)) := csu
          have HGB : Hid (WU.grownBy (WU.drew.setCell ⟨gs, ju, none⟩ (.int .i64 ((m2 ||| 2 ^ xd2 : Nat) : Int))) (some gs)) := gb_trans (gb_below _ (Below.refl _ _).drew) (gb_setCellS WU.drew gs ju _)
          have HSS : Hid (SetRow (WU.drew.setCell ⟨gs, ju, none⟩ (.int .i64 ((m2 ||| 2 ^ xd2 : Nat) : Int))) (w2.heap.size + 1) (.slice (some ⟨gs, 0, none⟩) (ju + 1) gc) (ms2 ++ [m2 ||| 2 ^ xd2])) := HSTU.out (m2 ||| 2 ^ xd2)
          have HBS : Hid (Below (w1.alloc (.cells #[.slice (some ⟨b, off, none⟩) P.length cap0] 29)).heap.size (w1.alloc (.cells #[.slice (some ⟨b, off, none⟩) P.length cap0] 29)) (WU.drew.setCell ⟨gs, ju, none⟩ (.int .i64 ((m2 ||| 2 ^ xd2 : Nat) : Int)))) := below_gb HB1U.out HGB.out (by have := HZ12.out; omega) HB1U.out.size
          have HSTS : Hid (StAt (WU.drew.setCell ⟨gs, ju, none⟩ (.int .i64 ((m2 ||| 2 ^ xd2 : Nat) : Int))) wl.heap.size (.agg csn) (walkS P (k + 1) S)) := HSNU.out _ (fun a u ha hu => gb_cell HGB.out hu (by omega))
          have rS := (HGB.out.block _ (lt_of_block rU) (by simp; omega)).trans rU
          have rnS := (HGB.out.block _ (lt_of_block rnU) (by simp; omega)).trans rnU
          clear hHeld rU rnU u0 u1 kpu d2u iu csu cfu HSTU HSNU HB1U
          go_simp
          go_upto_region 32 with fail
          rw [HORH.out]
          rw [show (WU.setCell ⟨gs, ju, none⟩ (.int .i64 ((m2 ||| 2 ^ xd2 : Nat) : Int))).drew = (WU.drew.setCell ⟨gs, ju, none⟩ (.int .i64 ((m2 ||| 2 ^ xd2 : Nat) : Int))) from rfl]
          generalize (WU.drew.setCell ⟨gs, ju, none⟩ (.int .i64 ((m2 ||| 2 ^ xd2 : Nat) : Int))) = WS at *
          go_wp2_with (first
            | (refine wpList_load_row rfl _ _ rfl _ rfl _ _ _ _ rnS Tryd.underlying34 rfl qn ?_)
            | (refine wpList_store_row rfl _ _ _ rfl w2.heap.size csn rfl rfl 34 csk rS qn hstore hon ?_))
          go_roundw
          case rel => exact ⟨k + 1, csn, ms2 ++ [m2 ||| 2 ^ xd2], by omega, by go_num, setRow_heap _ _ _ _ _ _ rS, qn, zn, (HSTS.out.setRow (by omega) _).val, own_setRow HSS.out (Nat.lt_succ_self _) _, (fun _ => HSf.out), below_setRow HBS.out HZ12.out _⟩
          case measure => simp [intOf]; omega
        · have HSf : Hid ((walkS P (k + 1) S).status = 0 → xo ≠ 17 ∧ SafeFs P (walkS P (k + 1) S).frames (ms' ++ [m ||| setMask ⟨xo, xd, xa, xb, xi⟩])) := hSf
          subst hL
          have hLl : ¬ ((Ln : Int) < Ln) := by omega
          clear hSf HOPT y1 y2 y3 y4
          cases hso : setsB xo
          case false =>
            have hsi : setsI ⟨xo, xd, xa, xb, xi⟩ = -1 := by unfold setsI; rw [hso]; rfl
            have hsm : setMask ⟨xo, xd, xa, xb, xi⟩ = 0 := by unfold setMask; rw [hso]; rfl
            rw [hsm, Nat.or_zero] at HSf
            clear hso hsm cset cfz
            have hsiv := hsi
            go_wp2_with (first
              | (refine wpList_load_row rfl _ _ rfl _ rfl _ _ _ _ rn Tryd.underlying34 rfl qn ?_)
              | (refine wpList_store_row rfl _ _ _ rfl w2.heap.size csn rfl rfl 34 csk r9 qn hstore hon ?_))
            go_roundw
            case rel => exact ⟨k + 1, csn, ms' ++ [m], by omega, by go_num, setRow_heap _ _ _ _ _ _ r9, qn, zn, ((HSNX.out W9 (fun _ _ _ h => h)).setRow (by omega) _).val, own_setRow HSET9.out (Nat.lt_succ_self _) _, (fun h => (HSf.out h).2), below_setRow HB19.out HZ12.out _⟩
            case measure => simp [intOf]; omega
          by_cases h17 : xo = 17
          case pos =>
            subst h17
            obtain ⟨xd2, hxd2⟩ := Int.eq_ofNat_of_zero_le HIX.out.dst0
            dsimp only at hxd2
            subst hxd2
            have hsi : setsI ⟨17, (xd2 : Int), xa, xb, xi⟩ = (xd2 : Int) := by unfold setsI; rw [hso]; rfl
            clear hso cset cfz
            go_wp2_with (first
              | (refine wpList_load_row rfl _ _ rfl _ rfl _ _ _ _ rn Tryd.underlying34 rfl qn ?_)
              | (refine wpList_store_row rfl _ _ _ rfl w2.heap.size csn rfl rfl 34 csk r9 qn hstore hon ?_))
            go_roundw
            case rel => exact ⟨k + 1, csn, ms' ++ [m], by omega, by go_num, setRow_heap _ _ _ _ _ _ r9, qn, zn, ((HSNX.out W9 (fun _ _ _ h => h)).setRow (by omega) _).val, own_setRow HSET9.out (Nat.lt_succ_self _) _, (fun h => absurd rfl (HSf.out h).1), below_setRow HB19.out HZ12.out _⟩
            case measure => simp [intOf]; omega
          have h17b : (xo != 17) = true := by simpa using h17
          obtain ⟨xd2, hxd2⟩ := Int.eq_ofNat_of_zero_le HIX.out.dst0
          have hxl2 : xd2 < 12 := by have := HIX.out.dst1; dsimp only at this hxd2; omega
          dsimp only at hxd2
          subst hxd2
          have hsi : setsI ⟨xo, (xd2 : Int), xa, xb, xi⟩ = (xd2 : Int) := by unfold setsI; rw [hso]; rfl
          have hsm : setMask ⟨xo, (xd2 : Int), xa, xb, xi⟩ = 2 ^ xd2 := by unfold setMask; rw [hso]; simp
          rw [hsm] at HSf
          have HOR := or_shl m xd2 hm4 hxl2
          have HORH : Hid _ := HOR
          clear HOR
          have hx64 : (xd2 : Int) ≤ 64 := by omega
          clear hso hsm h17
          rw [hsi]
          go_upto_region 31 with fail
          clear hsi kp k2 n2 y0
          refine wp_region_last (S := fun W => Below W9.heap.size W9 W) _ 10 (by as_aux_lemma => kernel_rfl) (by as_aux_lemma => kernel_rfl) rfl ((Below.refl _ _).drew) (fun hHeld => ?_)
          simp only [List.pop_toArray, List.dropLast]
          refine wpAnyH_take (i := 0) (v := ?_) rfl (by as_aux_lemma => kernel_rfl) (by as_aux_lemma => kernel_rfl) (by as_aux_lemma => kernel_rfl) (fun _ _ _ h => h) (Or.inl ⟨by rfl, ?_⟩) (by assumption) ?_
          rotate_left
          · (intro W hSW; go_simp; try (with_reducible rfl))
          (try simp only [Act.put, List.setIfInBounds_toArray])
          refine wpAnyH_take (i := 1) (v := ?_) rfl (by as_aux_lemma => kernel_rfl) (by as_aux_lemma => kernel_rfl) (by as_aux_lemma => kernel_rfl) (fun _ _ _ h => h) (Or.inl ⟨by rfl, ?_⟩) (by assumption) ?_
          rotate_left
          · (intro W hSW; go_simp; try (with_reducible rfl))
          (try simp only [Act.put])
          refine wpAnyH_take (i := 2) (v := ?_) rfl (by as_aux_lemma => kernel_rfl) (by as_aux_lemma => kernel_rfl) (by as_aux_lemma => kernel_rfl) (fun _ _ _ h => h) (Or.inl ⟨by rfl, ?_⟩) (by assumption) ?_
          rotate_left
          · (intro W hSW; go_simp; try (with_reducible rfl))
          (try simp only [Act.put])
          refine wpAnyH_take (i := 3) (v := ?_) rfl (by as_aux_lemma => kernel_rfl) (by as_aux_lemma => kernel_rfl) (by as_aux_lemma => kernel_rfl) (fun _ _ _ h => h) (Or.inl ⟨by rfl, ?_⟩) (by assumption) ?_
          rotate_left
          · (intro W hSW; go_simp; try (with_reducible rfl))
          (try simp only [Act.put])
          refine wpAnyH_take (i := 4) (v := ?_) rfl (by as_aux_lemma => kernel_rfl) (by as_aux_lemma => kernel_rfl) (by as_aux_lemma => kernel_rfl) (fun _ _ _ h => h) (Or.inl ⟨by rfl, ?_⟩) (by assumption) ?_
          rotate_left
          · (intro W hSW; go_simp; try (with_reducible rfl))
          (try simp only [Act.put])
          refine wpAnyH_take (i := 5) (v := ?_) rfl (by as_aux_lemma => kernel_rfl) (by as_aux_lemma => kernel_rfl) (by as_aux_lemma => kernel_rfl) (fun _ _ _ h => h) (Or.inl ⟨by rfl, ?_⟩) (by assumption) ?_
          rotate_left
          · (intro W hSW; have z0 := keeps_below hSW _ _ cset; go_simp; try (with_reducible rfl))
          (try simp only [Act.put])
          refine wpAnyH_take (i := 6) (v := ?_) rfl (by as_aux_lemma => kernel_rfl) (by as_aux_lemma => kernel_rfl) (by as_aux_lemma => kernel_rfl) (fun _ _ _ h => h) (Or.inl ⟨by rfl, ?_⟩) (by assumption) ?_
          rotate_left
          · (intro W hSW; go_simp; try (with_reducible rfl))
          (try simp only [Act.put])
          refine wpAnyH_take (i := 7) (v := ?_) rfl (by as_aux_lemma => kernel_rfl) (by as_aux_lemma => kernel_rfl) (by as_aux_lemma => kernel_rfl) (fun _ _ _ h => h) (Or.inl ⟨by rfl, ?_⟩) (by assumption) ?_
          rotate_left
          · (intro W hSW; go_simp; try (with_reducible rfl))
          (try simp only [Act.put])
          refine wpAnyH_take (i := 8) (v := ?_) rfl (by as_aux_lemma => kernel_rfl) (by as_aux_lemma => kernel_rfl) (by as_aux_lemma => kernel_rfl) (fun _ _ _ h => h) (Or.inl ⟨by rfl, ?_⟩) (by assumption) ?_
          rotate_left
          · (intro W hSW; go_simp; try (with_reducible rfl))
          (try simp only [Act.put])
          refine wpAnyH_take (i := 9) (v := ?_) rfl (by as_aux_lemma => kernel_rfl) (by as_aux_lemma => kernel_rfl) (by as_aux_lemma => kernel_rfl) (fun _ _ _ h => h) (Or.inl ⟨by rfl, ?_⟩) (by assumption) ?_
          rotate_left
          · (intro W hSW; go_simp; try (with_reducible rfl))
          (try simp only [Act.put])
          refine wpAnyH_done (by as_aux_lemma => kernel_rfl) ?_ _
          refine Or.inl ?_
          have cfd : W9.drew.frozen? ⟨gs, jf, none⟩ = false := cfz
          have ccd : W9.drew.cell? ⟨gs, jf, none⟩ = some (.int .i64 (m : Int)) := cset
          have HGB : Hid (W9.grownBy (W9.drew.setCell ⟨gs, jf, none⟩ (.int .i64 ((m ||| 2 ^ xd2 : Nat) : Int))) (some gs)) := gb_trans (gb_below _ (Below.refl _ _).drew) (gb_setCellS W9.drew gs jf _)
          have HSS : Hid (SetRow (W9.drew.setCell ⟨gs, jf, none⟩ (.int .i64 ((m ||| 2 ^ xd2 : Nat) : Int))) (w2.heap.size + 1) (.slice (some ⟨gs, 0, none⟩) Ln gc) (ms' ++ [m ||| 2 ^ xd2])) := HSTO.out (m ||| 2 ^ xd2)
          have HBS : Hid (Below (w1.alloc (.cells #[.slice (some ⟨b, off, none⟩) P.length cap0] 29)).heap.size (w1.alloc (.cells #[.slice (some ⟨b, off, none⟩) P.length cap0] 29)) (W9.drew.setCell ⟨gs, jf, none⟩ (.int .i64 ((m ||| 2 ^ xd2 : Nat) : Int)))) := below_gb HB19.out HGB.out (by have := HZ12.out; omega) HB19.out.size
          have HSTS : Hid (StAt (W9.drew.setCell ⟨gs, jf, none⟩ (.int .i64 ((m ||| 2 ^ xd2 : Nat) : Int))) wl.heap.size (.agg csn) (walkS P (k + 1) S)) := HSNX.out _ (fun a u ha hu => gb_cell HGB.out hu (by omega))
          have rS := (HGB.out.block _ (lt_of_block r9) (by simp; omega)).trans r9
          have rnS := (HGB.out.block _ (lt_of_block rn) (by simp; omega)).trans rn
          clear hHeld r9 rn HSTO HSNX HSET9 HPOP cset cfz
          go_simp
          go_upto_region 32 with fail
          rw [HORH.out]
          rw [show (W9.setCell ⟨gs, jf, none⟩ (.int .i64 ((m ||| 2 ^ xd2 : Nat) : Int))).drew = (W9.drew.setCell ⟨gs, jf, none⟩ (.int .i64 ((m ||| 2 ^ xd2 : Nat) : Int))) from rfl]
          generalize (W9.drew.setCell ⟨gs, jf, none⟩ (.int .i64 ((m ||| 2 ^ xd2 : Nat) : Int))) = WS at *
          go_wp2_with (first
            | (refine wpList_load_row rfl _ _ rfl _ rfl _ _ _ _ rnS Tryd.underlying34 rfl qn ?_)
            | (refine wpList_store_row rfl _ _ _ rfl w2.heap.size csn rfl rfl 34 csk rS qn hstore hon ?_))
          go_roundw
          case rel => exact ⟨k + 1, csn, ms' ++ [m ||| 2 ^ xd2], by omega, by go_num, setRow_heap _ _ _ _ _ _ rS, qn, zn, (HSTS.out.setRow (by omega) _).val, own_setRow HSS.out (Nat.lt_succ_self _) _, (fun h => (HSf.out h).2), below_setRow HBS.out HZ12.out _⟩
          case measure => simp [intOf]; omega
        · have HSf : Hid ((walkS P (k + 1) S).status ≠ 0) := hSf
          obtain rfl : jf = 0 := by have := HNJ.out.1; omega
          subst hn1 hL
          clear hSf HOPT cset cfz y0 y1 y2 y3 y4
          go_wp2_with (first
            | (refine wpList_load_row rfl _ _ rfl _ rfl _ _ _ _ rn Tryd.underlying34 rfl qn ?_)
            | (refine wpList_store_row rfl _ _ _ rfl w2.heap.size csn rfl rfl 34 csk r9 qn hstore hon ?_))
          go_roundw
          case rel => exact ⟨k + 1, csn, ms', by omega, by go_num, setRow_heap _ _ _ _ _ _ r9, qn, zn, ((HSNX.out W9 (fun _ _ _ h => h)).setRow (by omega) _).val, own_setRow HPOP.out (Nat.lt_succ_self _) _, (fun h => absurd h HSf.out), below_setRow HB19.out HZ12.out _⟩
          case measure => simp [intOf]; omega
end Go.Proofs.YtgoefojdggblpaaDoor
