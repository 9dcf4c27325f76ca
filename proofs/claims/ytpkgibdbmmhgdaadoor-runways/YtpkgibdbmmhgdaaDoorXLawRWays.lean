/- The walk of tierlinekeep.RunWays: at all raw numbers it says true, and nothing that was there has turned. -/
import Derived.Test.YtpkgibdbmmhgdaaDoorXKRun
import Derived.Test.YtpkgibdbmmhgdaaDoorXWayMem
namespace Go.Proofs.YtpkgibdbmmhgdaaDoor
open Go Go.RowKit

set_option maxHeartbeats 8000000 in
set_option maxRecDepth 100000 in
theorem runWays_walk (l : List Fn) (v : Value) (a0 a1 fuel : Int) (nv : Value) (ln : List Int) (w : World) (ht : TabOk w) (hc : CallOk w) (hv : ProgVal w v l) (hwf : ∀ f ∈ l, f.wf) (hn : IntsVal w nv ln) (hfu : I64 fuel) :
    Calls Tryd.prog 12 #[v, inVal a0 a1 nv fuel] w fun e w' => e = .returned (.bool true) ∧ Below w.heap.size w w' := by
  obtain ⟨nao, nc, rfl⟩ := hn.shape
  obtain ⟨lao, ll, lc, rfl⟩ := hv.shape
  have HTC : Hid (∀ W, Below w.heap.size w W → TabOk W ∧ CallOk W) := fun W hb => ⟨ht.below hb, hc.below hb⟩
  have HB0 : Hid (Below w.heap.size w (w.alloc (.cells #[.int .i64 a0, .int .i64 a1, .slice nao ln.length nc, .int .i64 fuel] 26))) := (Below.refl _ _).alloc (Nat.le_refl _) _
  have HPR : Hid (Calls Tryd.prog 14 #[.slice lao ll lc] (w.alloc (.cells #[.int .i64 a0, .int .i64 a1, .slice nao ln.length nc, .int .i64 fuel] 26)) fun e w' => ∃ ao n cap P, e = .returned (.agg #[.slice ao n cap]) ∧ ProofAns P 0 ∧ ProgVal w' (.slice ao n cap) P ∧ Below (w.alloc (.cells #[.int .i64 a0, .int .i64 a1, .slice nao ln.length nc, .int .i64 fuel] 26)).heap.size (w.alloc (.cells #[.int .i64 a0, .int .i64 a1, .slice nao ln.length nc, .int .i64 fuel] 26)) w') := kprog l _ _ (HTC.out _ HB0.out).1 (HTC.out _ HB0.out).2 (hv.keeps (keeps_below HB0.out)) hwf
  have HNV : Hid (∀ W, Below w.heap.size w W → IntsVal W (.slice nao ln.length nc) ln) := fun W hb => hn.keeps (keeps_below hb)
  have HFU : Hid (I64 fuel) := hfu
  have infoIn : (Tryd.prog.info? 26).map (·.size) = some 4 := by kernel_rfl
  unfold inVal
  clear ht hc hv hwf hn hfu
  go_enter Tryd.func12, Tryd.ntmps12
  go_upto_region 2 with (go_at_call 14; refine HPR.out.mono ?_; rintro e w1 ⟨ao, n0, cap0, P, rfl, hR, hpv, hb1⟩)
  have HR : Hid (ProofAns P 0) := hR
  have B01 : Hid (Below w.heap.size w (w1.alloc (.cells #[.slice ao n0 cap0] 29))) := (HB0.out.trans (hb1.mono (by simp))).alloc (by have := hb1.size; simp at this; omega) _
  have I1 : (w1.alloc (.cells #[.slice ao n0 cap0] 29)).heap[w.heap.size]? = some (.cells #[.int .i64 a0, .int .i64 a1, .slice nao ln.length nc, .int .i64 fuel] 26 (0, 0)) := (heap_alloc_old _ _ (by have := hb1.size; simp at this; omega)).trans ((hb1.block _ (by simp)).trans (heap_alloc_last w _))
  have HP : Hid (∀ W, Below (w1.alloc (.cells #[.slice ao n0 cap0] 29)).heap.size (w1.alloc (.cells #[.slice ao n0 cap0] 29)) W → W.cell? ⟨w1.heap.size, 0, none⟩ = some (.slice ao n0 cap0) ∧ ProgVal W (.slice ao n0 cap0) P ∧ TabOk W ∧ CallOk W) := fun W hb => ⟨keeps_below hb _ _ (by rw [cell_of_row _ _ _ _ _ _ (heap_alloc_last w1 _)]; rfl), (hpv.keeps (keeps_below ((Below.refl _ _).alloc (Nat.le_refl _) _))).keeps (keeps_below hb), (HTC.out _ (B01.out.trans (hb.mono B01.out.size))).1, (HTC.out _ (B01.out.trans (hb.mono B01.out.size))).2⟩
  have HKB : Hid (Calls Tryd.prog 15 #[.agg #[.slice ao n0 cap0], .agg #[.int .i64 a0, .int .i64 a1, .slice nao ln.length nc, .int .i64 fuel]] (w1.alloc (.cells #[.slice ao n0 cap0] 29)) _) := kbeginX P (.slice ao n0 cap0) a0 a1 fuel (.slice nao ln.length nc) ln (w1.alloc (.cells #[.slice ao n0 cap0] 29)) (HP.out _ (Below.refl _ _)).2.2.1 (HP.out _ (Below.refl _ _)).2.2.2 HR.out (HP.out _ (Below.refl _ _)).2.1 (HNV.out _ B01.out) HFU.out
  clear hR hpv hb1
  go_upto_region 3 with (first
    | (refine wpList_load_row rfl _ _ rfl _ rfl _ _ _ _ I1 Tryd.underlying26 rfl infoIn ?_)
    | (go_at_call 15; refine HKB.out.mono ?_; rintro e w2 ⟨cs2, S, rfl, hk, hs0, c1, c2, c3, hst, hb2⟩)
    | (refine wpList_store_row rfl _ _ _ rfl _ _ rfl rfl _ _ (heap_alloc_last w2 _) c1 c2 c3 ?_; rw [World.setRow_alloc_new]))
  have HK : Hid (KRunAt P S) := hk.1
  have HSE : Hid (S = beginSt ([a0, a1].take (par0 P).toNat) (ln.take 10) (pickI fuel 300)) := hk.2
  have HFR : Hid (∀ W', (∀ (a : Addr) u, a.block < w2.heap.size → w2.cell? a = some u → W'.cell? a = some u) → StVal W' (.agg cs2) S) := fun W' hk => (hst.moved (fun a u _ hu => hk a u (World.block_lt_of_cell? _ _ hu) hu)).val
  have HB2A : Hid (Below w2.heap.size w2 (w2.alloc (.cells cs2 34))) := (Below.refl _ _).alloc (Nat.le_refl _) _
  have HS0 : Hid (S.fuel ≤ 299 ∧ S.answers.length ≤ 10 ∧ S.status = 0) := hs0
  have B12 : Hid (Below (w1.alloc (.cells #[.slice ao n0 cap0] 29)).heap.size (w1.alloc (.cells #[.slice ao n0 cap0] 29)) (w2.alloc (.cells cs2 34))) := hb2.alloc hb2.size _
  have X2 : Hid (∀ W, Below (w2.alloc (.cells cs2 34)).heap.size (w2.alloc (.cells cs2 34)) W → W.heap[w2.heap.size]? = some (.cells cs2 34 (0, 0)) ∧ StVal W (.agg cs2) (walkS P 0 S)) := fun W hb => ⟨(hb.block _ (by simp)).trans (heap_alloc_last w2 _), (hst.val.keeps (keeps_below ((Below.refl _ _).alloc (Nat.le_refl _) _))).keeps (keeps_below hb)⟩
  have q2 : (Tryd.prog.info? 34).map (·.size) = some cs2.size := c1
  have HON2 : Hid (cs2.all (·.oneCell') = true) := c3
  have HZ12 : Hid ((w1.alloc (.cells #[.slice ao n0 cap0] 29)).heap.size ≤ w2.heap.size) := hb2.size
  have hz2 : zeroStCells.size = cs2.size := c2
  clear hk hs0 hst hb2 I1 HKB c1 c2 c3 infoIn
  have hPl : 0 < P.length := (codeProg_zero (right_code HR.out)).1
  have HBL : Hid (∀ W, Below (w1.alloc (.cells #[.slice ao n0 cap0] 29)).heap.size (w1.alloc (.cells #[.slice ao n0 cap0] 29)) W → Calls Tryd.prog 32 #[.agg #[.slice ao n0 cap0], .int .i64 ((0 : Nat) : Int)] W fun e w' => ∃ g S T VV LL, e = .returned (.tuple #[.slice (some ⟨g, 0, none⟩) S.length S.length, .int .i64 0]) ∧ BlocksAt w' W.heap.size g P[0] S T VV LL ∧ W.heap.size ≤ g ∧ Below W.heap.size W w') := fun W hb => Blocks_right P HR.out 0 hPl _ W (HP.out _ hb).2.2.1 (HP.out _ hb).2.2.2 (HP.out _ hb).2.1
  have HAB : Hid (∀ W, Below (w1.alloc (.cells #[.slice ao n0 cap0] 29)).heap.size (w1.alloc (.cells #[.slice ao n0 cap0] 29)) W → Calls Tryd.prog 31 #[.agg #[.slice ao n0 cap0], .int .i64 ((0 : Nat) : Int)] W fun e w' => ∃ g K A, e = .returned (.tuple #[.slice (some ⟨g, 0, none⟩) K K, .int .i64 0]) ∧ AboveOk P[0] A ∧ A.length = K ∧ w'.ownsRow 0 3 1 (.slice (some ⟨g, 0, none⟩) K K) K (i64s A) ∧ W.heap.size ≤ g ∧ Below W.heap.size W w') := fun W hb => Above_at P HR.out 0 hPl _ W (HP.out _ hb).2.2.1 (HP.out _ hb).2.2.2 (HP.out _ hb).2.1
  have OK : Hid (FlowOk P P[0]) := flowOk_of HR.out (List.getElem_mem hPl)
  have hW12 : w2.heap.size < (w2.alloc (.cells cs2 34)).heap.size := by simp
  have kp := (HP.out _ B12.out).1
  have hBL := HBL.out _ B12.out
  have eZ : ((0 : Nat) : Int) = 0 := rfl
  rw [eZ] at hBL
  go_upto_region 5 with (first
    | (go_at_call 32; refine hBL.mono ?_; rintro e w3 ⟨g, SS, T, VV, LL, rfl, hB, hgw, hb3⟩; have kp3 := keeps_below hb3 _ _ kp; have hb13 := B12.out.trans (hb3.mono B12.out.size); have hAB := HAB.out w3 hb13; rw [eZ] at hAB)
    | (go_at_call 31; refine hAB.mono ?_; rintro e w4 ⟨ga, n3, A, rfl, hA, hl3, hra, hga, hb4⟩))
  have HB24 : Hid (Below (w2.alloc (.cells cs2 34)).heap.size (w2.alloc (.cells cs2 34)) w4) := hb3.trans (hb4.mono hb3.size)
  have HB14 : Hid (Below (w1.alloc (.cells #[.slice ao n0 cap0] 29)).heap.size (w1.alloc (.cells #[.slice ao n0 cap0] 29)) w4) := B12.out.trans (HB24.out.mono B12.out.size)
  have HBA : Hid (BlocksAt w4 (w2.alloc (.cells cs2 34)).heap.size g P[0] SS T VV LL) := hB.below hb4
  obtain ⟨hAl, hAn⟩ := hA.of HBA.out.ok
  have hkn : SS.length ≤ 40 := Nat.le_trans (starts_len OK.out HBA.out.starts) OK.out.ok.len2
  obtain ⟨hk0, hS00⟩ := HBA.out.starts.first
  have en3 : n3 = SS.length := by omega
  subst en3
  have HAN : Hid (∀ b, b < SS.length → NearTo (pvN P[0] SS T) b SS.length (A.getD b 0)) := hAn
  have hA0 : A.getD 0 0 = -1 := NearTo.none (HBA.out.ok.come OK.out hk0) (hAn 0 hk0)
  have c00 := row_cell hra 0 hk0
  rw [hA0] at c00
  have hgx : w2.heap.size < g := by omega
  have hgax : w2.heap.size < ga := by have := hb3.size; omega
  have hk0I : ((SS.length : Int) == 0) = false := beq_eq_false_iff_ne.2 (by omega)
  have hW1x : (w1.alloc (.cells #[.slice ao n0 cap0] 29)).heap.size ≤ w2.heap.size := HZ12.out
  obtain ⟨SX, hSX⟩ : ∃ SX, SX = w2.heap.size := ⟨_, rfl⟩
  obtain ⟨SB, hSB⟩ : ∃ SB, SB = w4.heap.size := ⟨_, rfl⟩
  have hXB : SX < SB := by have := HB24.out.size; omega
  have HCL : Hid (∀ csk st seen W, RW w4 (w1.alloc (.cells #[.slice ao n0 cap0] 29)) SB SX SS.length csk st seen W → ∀ i, (hi : i < SS.length) → W.cell? ⟨ga, i, none⟩ = some (.int .i64 (A.getD i 0)) ∧ W.cell? ⟨g, i * 4, none⟩ = some (.int .i64 ((SS[i] : Nat) : Int)) ∧ W.cell? ⟨g, i * 4 + 1, none⟩ = some (.int .i64 ((T i : Nat) : Int)) ∧ ∃ a n c, W.cell? ⟨g, i * 4 + 3, none⟩ = some (.slice a n c) ∧ ∀ z m, Calls Tryd.prog 33 #[.slice a n c, .int .i64 z] (W.drewN m) (fun e w' => e = .returned (.bool (decide (z ∈ pvI P[0] SS T SS.length i))) ∧ w' = W.drewN m)) := fun csk st seen W hW i hi => by
    have hc := HBA.out.cells i hi
    have hn := (HBA.out.next i hi).2
    have hlow : LowV (w2.heap.size + 1) (VV (2 * i + 1)) := low_own (HBA.out.slots.own (2 * i + 1) (by omega)) (by simp)
    have hn2 : IntsVal W (VV (2 * i + 1)) (pvI P[0] SS T SS.length i) := ints_moved hn hlow (fun a u ha hu => hW.cell hSB a u (by omega) hu)
    obtain ⟨x1, x2, x3, x4, x5, e1, -⟩ := ints_get hn2
    refine ⟨hW.cell hSB _ _ (by show ga ≠ SX; omega) (row_cell hra i hi), hW.cell hSB _ _ (by show g ≠ SX; omega) hc.1, hW.cell hSB _ _ (by show g ≠ SX; omega) hc.2.1, x1, x4, x5, hW.cell hSB _ _ (by show g ≠ SX; omega) (by rw [← e1]; exact hc.2.2.2), fun z m => ?_⟩
    have hh := hasList_any _ _ z (W.drewN m) (hn2.keeps (fun _ _ e => e))
    rw [e1] at hh
    exact hh
  have HOKB : Hid (BlkOk P[0] SS T) := HBA.out.ok
  have HIJ : Hid (∀ i j, (hi : i < SS.length) → (hj : j < SS.length) → SS[i] = SS[j] → i = j) := fun i j hi hj e => by
    rcases Nat.lt_trichotomy i j with h | h | h
    · have := List.pairwise_iff_getElem.1 HOKB.out.starts.rises i j hi hj h; omega
    · exact h
    · have := List.pairwise_iff_getElem.1 HOKB.out.starts.rises j i hj hi h; omega
  have HW0 : Hid (∀ seen, WaySt P[0] SS T seen (-1) (walkS P 0 S).frames) := fun seen => by
    have : walkS P 0 S = S := rfl
    rw [this, HSE.out]; exact way_begin _ _ _ _ _ _ _
  have HZS : Hid ((Tryd.prog.info? 34).map (·.size) = some cs2.size ∧ zeroStCells.size = cs2.size) := ⟨q2, hz2⟩
  have HBX4 : Hid (w4.heap[w2.heap.size]? = some (.cells cs2 34 (0, 0))) := (X2.out _ HB24.out).1
  have HW24 : Hid (Below w2.heap.size w2 w4) := HB2A.out.trans (HB24.out.mono (by simp))
  have kp4 := keeps_below hb4 _ _ kp3
  clear hB hgw hb3 hb4 hra hl3 hA hAl hAn hA0 hAB hBL kp kp3 hb13 HAB HBL hS00 q2 hz2 HBA
  obtain ⟨iB, hiB, hzB0, hzB1, hzB2⟩ := info_parts infoBool
  have hm0 := made_false SS.length
  go_upto_region 8 with (at_make; refine wpList_make_full _ rfl (.tmp 66) (.tmp 66) 77 rfl 0 4 iB _ 1 Tryd.underlying77 hiB hzB0 hzB1 .i64 .i64 _ _ SS.length rfl rfl (by simp) (by simp) (by rw [hzB2]; omega) (by unfold maxLen; omega) (Nat.zero_le _) ?_; intro w5 hown5 hg5; rw [hm0] at hown5; have hb5 := below_grown hg5)
  rw [← hSB] at hown5 ⊢
  have HRW0 : Hid (RW w4 (w1.alloc (.cells #[.slice ao n0 cap0] 29)) SB SX SS.length cs2 (walkS P 0 S) (List.replicate SS.length false) w5) := ⟨fun b h1 _ => hb5.block b (by omega), hown5, HB14.out.trans (hb5.mono HB14.out.size), by rw [hSX]; exact (hb5.block _ (by omega)).trans HBX4.out, fun W' hk => HFR.out W' (fun a u h1 hu => hk a u (by omega) (by omega) (keeps_below hb5 _ _ (keeps_below HW24.out _ _ hu)))⟩
  clear hown5 hg5 hb5 kp4 c00 hk0I HBX4 HW24 HFR
  rw [← hSX] at hgx hgax hW1x ⊢
  have HPB : Hid (∀ W, Below (w1.alloc (.cells #[.slice ao n0 cap0] 29)).heap.size (w1.alloc (.cells #[.slice ao n0 cap0] 29)) W → W.cell? ⟨w1.heap.size, 0, none⟩ = some (.slice ao n0 cap0)) := fun W hW => (HP.out _ hW).1
  have hW1B : (w1.alloc (.cells #[.slice ao n0 cap0] 29)).heap.size ≤ SB := by omega
  have HNX : Hid (∀ W k csk, Below (w1.alloc (.cells #[.slice ao n0 cap0] 29)).heap.size (w1.alloc (.cells #[.slice ao n0 cap0] 29)) W → k ≤ 300 → StVal W (.agg csk) (walkS P k S) → Calls Tryd.prog 19 #[.agg #[.slice ao n0 cap0], .agg csk] W fun e w' => ∃ cs, e = .returned (.tuple #[.agg cs, .int .i64 0]) ∧ (Tryd.prog.info? 34).map (·.size) = some cs.size ∧ zeroStCells.size = cs.size ∧ cs.all (·.oneCell') = true ∧ StAt w' W.heap.size (.agg cs) (walkS P (k + 1) S) ∧ Below W.heap.size W w') := fun W k csk hW hk hs => knext HK.out k (by omega) _ _ W (HP.out _ hW).2.2.1 (HP.out _ hW).2.2.2 (HP.out _ hW).2.1 hs
  have HWF : Hid (∀ W, Below (w1.alloc (.cells #[.slice ao n0 cap0] 29)).heap.size (w1.alloc (.cells #[.slice ao n0 cap0] 29)) W → Below w.heap.size w W) := fun W hW => B01.out.trans (hW.mono B01.out.size)
  generalize hWQ : (w1.alloc (.cells #[.slice ao n0 cap0] 29)) = WQ at *
  obtain ⟨PX, hPX⟩ : ∃ PX, PX = w1.heap.size := ⟨_, rfl⟩
  rw [← hPX] at HPB ⊢
  clear hSX hPX hWQ hSB B12 B01 X2 HP HB24 HB14 HZ12 HB2A hW12
  go_upto_region 10 with fail
  go_loopw [13, 14] (fun av i wr => ∃ (k : Nat) (at1 : Int) (seen : List Bool) (csk : Array Value), k ≤ 300 ∧ i = .int .i64 k ∧ av = .int .i64 at1 ∧ seen.length = SS.length ∧ RW w4 WQ SB SX SS.length csk (walkS P k S) seen wr ∧ (Tryd.prog.info? 34).map (·.size) = some csk.size ∧ zeroStCells.size = csk.size ∧ ((walkS P k S).status = 0 → WaySt P[0] SS T seen at1 (walkS P k S).frames)) (fun _ i _ => 300 - (intOf i).toNat)
  case atStart => exact ⟨0, -1, _, cs2, by omega, rfl, rfl, by simp, HRW0.out, HZS.out.1, HZS.out.2, fun _ => HW0.out _⟩
  case round =>
    clear HRW0 HZS
    obtain ⟨k, at1, seen, csk, hk, rfl, rfl, hsl, hrw, hq, hzk, hway⟩ := hrel
    have HRW : Hid (RW w4 WQ SB SX SS.length csk (walkS P k S) seen wr) := hrw
    have c0 : wr.cell? ⟨SX, 0, none⟩ = some (.int .i64 (walkS P k S).status) := by rw [cell_of_row _ _ _ _ _ _ hrw.box]; exact hrw.val.at.1
    by_cases hk3 : k < 300
    · have hkI : decide ((k : Int) < 300) = true := by simp only [decide_eq_true_eq]; omega
      have hkn : decide (k < 300) = true := by simp only [decide_eq_true_eq]; omega
      by_cases hs : (walkS P k S).status = 0
      · rw [hs] at c0
        have hInv := (krun_walk HK.out k).1
        obtain ⟨f0, fs, hfs⟩ : ∃ f0 fs, (walkS P k S).frames = f0 :: fs := by
          cases hc : (walkS P k S).frames with
          | nil => exact absurd hc (run_frames hInv hs)
          | cons f0 fs => exact ⟨f0, fs, rfl⟩
        have hw := hway hs
        rw [hfs] at hw
        obtain ⟨fb, foff, fcap, g2, cpc, fc1, fc2⟩ := hrw.val.headAt hfs
        have c2 : wr.cell? ⟨SX, 2, none⟩ = some (.slice (some ⟨fb, foff, none⟩) (fs.length + 1) fcap) := by rw [cell_of_row _ _ _ _ _ _ hrw.box]; exact g2
        have hpl := hInv.fok.place f0 (by rw [hfs]; simp)
        obtain ⟨fk, q, hfk, hfq, e1, e2, -, -⟩ := place_nat hpl
        have HFS : Hid ((walkS P k S).frames = f0 :: fs) := hfs
        have HE2 : Hid (f0.pc = (q : Int)) := e2
        have HSTP : Hid (∀ (c : Nat) (seen2 : List Bool), InBlk SS T q c → SeenOk (pvN P[0] SS T) SS.length seen2 c → (walkS P (k + 1) S).status = 0 → WaySt P[0] SS T seen2 (c : Int) (walkS P (k + 1) S).frames) := fun c seen2 hb hso h1 => by
          rw [walkS_succ P k S hs] at h1 ⊢
          exact WaySt.step HK.out.right hPl hInv hs h1 hfs (by cases hw <;> assumption) e2 hb hso
        have HG2 : Hid (csk[2]? = some (.slice (some ⟨fb, foff, none⟩) (fs.length + 1) fcap)) := g2
        have HCL2 : Hid (∀ seen2 W, RW w4 WQ SB SX SS.length csk (walkS P k S) seen2 W → W.cell? ⟨SX, 2, none⟩ = some (.slice (some ⟨fb, foff, none⟩) (fs.length + 1) fcap) ∧ W.cell? ⟨fb, foff + 1, none⟩ = some (.int .i64 (q : Int))) := fun seen2 W hW => by
          obtain ⟨b2, o2, c2, h2, hp2, -, -⟩ := hW.val.headAt HFS.out
          have he := HG2.out.symm.trans h2
          simp only [Option.some.injEq, Value.slice.injEq, Addr.mk.injEq, and_true, true_and] at he
          obtain ⟨⟨rfl, rfl⟩, rfl⟩ := he
          exact ⟨by rw [cell_of_row _ _ _ _ _ _ hW.box]; exact h2, by rw [hp2, HE2.out]⟩
        have hXBn : SX ≠ SB := by omega
        have HZK : Hid ((Tryd.prog.info? 34).map (·.size) = some csk.size ∧ zeroStCells.size = csk.size) := ⟨hq, hzk⟩
        clear g2 hrw hway hs hInv hfs hpl hfk hfq e1 cpc e2
        by_cases hf1 : fs = []
        · subst hf1
          have harr := way_arrive OK.out HOKB.out HAN.out hsl HE2.out hw
          obtain ⟨c, hin, hcase⟩ := harr
          obtain ⟨hcK, hc1, hc2⟩ := hin
          have HINB : Hid (InBlk SS T q c) := ⟨hcK, hc1, hc2⟩
          have HONE : Hid (∀ j, (hj : j < SS.length) → j ≠ c → ¬ (SS[j] ≤ q ∧ q < T j)) := fun j hj hne h => hne (HOKB.out.one ⟨hj, h.1, h.2⟩ HINB.out)
          have HCW : Hid (wr.cell? ⟨SX, 2, none⟩ = some (.slice (some ⟨fb, foff, none⟩) 1 fcap)) := c2
          have HSQ : Hid (SS[c] ≤ q ∧ q < T c) := ⟨hc1, hc2⟩
          clear hw hc1 hc2
          go_upto_region 14 with fail
          clear c0 c2 hkI hkn
          rcases hcase with ⟨hcK2, hSc, hmem, hab, hso⟩ | ⟨hnob, hatc, hso⟩
          · have HSC : Hid (SS[c] = q) := hSc
            have HSO : Hid (SeenOk (pvN P[0] SS T) SS.length (seen.set c true) c) := hso
            have HMEM : Hid (decide (at1 ∈ pvI P[0] SS T SS.length c) = true) := by show _ = _; simpa using hmem
            have HABV : Hid (1 ≤ c → ∃ u : Nat, A.getD c 0 = (u : Int) ∧ u < SS.length ∧ seen.getD u false = true) := hab
            have HSL2 : Hid ((seen.set c true).length = SS.length) := by show _ = _; rw [List.length_set]; exact hsl
            have HSELF : Hid ((seen.set c true).getD c false = true) := HSO.out.self hcK
            have HNB : Hid (∀ b, (hb : b < SS.length) → b ≠ c → SS[b] ≠ q) := fun b hb hne e => hne (HIJ.out b c hb hcK (e.trans HSC.out.symm))
            have HSLN : Hid (seen.length = SS.length) := hsl
            clear hSc hso hmem hab
            go_loopw [15] (fun b wr2 => ∃ q2 : Nat, q2 ≤ SS.length ∧ b = .int .i64 q2 ∧ RW w4 WQ SB SX SS.length csk (walkS P k S) (seenC seen c q2) wr2) (fun b _ => SS.length - (intOf b).toNat)
            case atStart => exact ⟨0, Nat.zero_le _, rfl, by rw [seenC_start]; exact HRW.out⟩
            case round =>
              obtain ⟨q2, hq2, rfl, hrw2⟩ := hrel
              rename World => wr2
              have HRW2 : Hid (RW w4 WQ SB SX SS.length csk (walkS P k S) (seenC seen c q2) wr2) := hrw2
              obtain ⟨x2, xp⟩ := HCL2.out _ _ hrw2
              have x2b : wr2.cell? ⟨SX, 2, none⟩ = some (.slice (some ⟨fb, foff, none⟩) 1 fcap) := x2
              by_cases hl2 : q2 < SS.length
              · have hq2I : (q2 : Int) < SS.length := by omega
                obtain ⟨ca, cf, -, pa, pn, pc, cp, hhas⟩ := HCL.out _ _ _ _ hrw2 q2 hl2
                by_cases hqc : q2 = c
                · subst hqc
                  rw [HSC.out] at cf
                  have g1 := fun m => hhas at1 m
                  rw [HMEM.out] at g1
                  have hrow := hrw2.row
                  rw [(seenC_at seen q2).1] at hrow
                  have cfz := hrow.frozenAt q2
                  have cst := bool_cell hrow HSLN.out q2 hl2
                  have HMK : Hid (RW w4 WQ SB SX SS.length csk (walkS P k S) (seen.set q2 true) (wr2.setCell ⟨SB, q2, none⟩ (.bool true))) := by
                    have h := hrw2
                    rw [(seenC_at seen q2).1] at h
                    exact h.mark hXBn hW1B
                  have HSE2 : Hid (seenC seen q2 (q2 + 1) = seen.set q2 true) := (seenC_at seen q2).2
                  generalize seen.getD q2 false = ov at cst
                  have cstn : ∀ n, (wr2.drewN n).cell? ⟨SB, q2, none⟩ = some (.bool ov) := fun n => cst
                  have cfzn : ∀ n, (wr2.drewN n).frozen? ⟨SB, q2, none⟩ = false := fun n => cfz
                  by_cases hc0 : q2 = 0
                  · have hp0 : decide ((0 : Int) < (q2 : Int)) = false := by simp only [decide_eq_false_iff_not]; omega
                    have hp0n : decide (0 < q2) = false := by simp only [decide_eq_false_iff_not]; omega
                    clear hc0 hhas hrw2 x2 ca hrow
                    go_upto_region 16 with fail
                    go_quiet ((go_at_call 33; refine (g1 _).mono ?_; exact fun _ _ h => ⟨h.1, _, h.2⟩))
                    go_wp2
                    go_roundw
                    case rel => exact ⟨q2 + 1, by omega, by go_num, by rw [HSE2.out]; exact HMK.out.below (below_drewN (Below.refl _ _) _)⟩
                    case measure => simp [intOf]; omega
                  · have hp0 : decide ((0 : Int) < (q2 : Int)) = true := by simp only [decide_eq_true_eq]; omega
                    have hp0n : decide (0 < q2) = true := by simp only [decide_eq_true_eq]; omega
                    obtain ⟨u, eu, huK, hus⟩ := HABV.out (by omega)
                    rw [eu] at ca
                    have csu := bool_cell hrow HSLN.out u huK
                    rw [hus] at csu
                    have can : ∀ n, (wr2.drewN n).cell? ⟨ga, q2, none⟩ = some (.int .i64 (u : Int)) := fun n => ca
                    have csun : ∀ n, (wr2.drewN n).cell? ⟨SB, u, none⟩ = some (.bool true) := fun n => csu
                    have huI : (u : Int) < SS.length := by omega
                    have hu0 : decide ((u : Int) < 0) = false := by simp only [decide_eq_false_iff_not]; omega
                    clear hc0 hhas hrw2 x2 hrow eu hus
                    go_upto_region 16 with fail
                    go_quiet ((go_at_call 33; refine (g1 _).mono ?_; exact fun _ _ h => ⟨h.1, _, h.2⟩))
                    go_wp2
                    go_roundw
                    case rel => exact ⟨q2 + 1, by omega, by go_num, by rw [HSE2.out]; exact HMK.out.below (below_drewN (Below.refl _ _) _)⟩
                    case measure => simp [intOf]; omega
                · have hne := HNB.out q2 hl2 hqc
                  have hneI : (((SS[q2] : Nat) : Int) != (q : Int)) = true := by simp only [bne_iff_ne, ne_eq]; omega
                  have hneN : (SS[q2] != q) = true := by simp only [bne_iff_ne, ne_eq]; exact hne
                  have HSE2 : Hid (seenC seen c (q2 + 1) = seenC seen c q2) := seenC_other seen hqc
                  clear hne hhas hrw2 x2 ca cp
                  generalize SS[q2] = sq at *
                  go_upto_region 16 with fail
                  go_quiet (fail)
                  go_wp2
                  go_roundw
                  case rel => exact ⟨q2 + 1, by omega, by go_num, by rw [HSE2.out]; exact HRW2.out.below (below_drewN (Below.refl _ _) _)⟩
                  case measure => simp [intOf]; omega
              · obtain rfl : q2 = SS.length := by omega
                have HR2 : Hid (RW w4 WQ SB SX SS.length csk (walkS P k S) (seen.set c true) wr2) := by
                  have h := hrw2
                  rw [seenC_end seen hcK] at h
                  exact h
                clear hrw2 x2 x2b xp HRW2
                go_upto_region 21 with fail
                go_loopw [13, 16] (fun av b wr3 => ∃ q3 : Nat, q3 ≤ SS.length ∧ b = .int .i64 q3 ∧ av = .int .i64 (atC c q3 at1) ∧ RW w4 WQ SB SX SS.length csk (walkS P k S) (seen.set c true) wr3) (fun _ b _ => SS.length - (intOf b).toNat)
                case atStart => exact ⟨0, Nat.zero_le _, rfl, by rw [atC_start], HR2.out⟩
                case round =>
                  obtain ⟨q3, hq3, rfl, rfl, hrw3⟩ := hrel
                  rename World => wr3
                  have HR3 : Hid (RW w4 WQ SB SX SS.length csk (walkS P k S) (seen.set c true) wr3) := hrw3
                  obtain ⟨x2, xp⟩ := HCL2.out _ _ hrw3
                  have x2b : wr3.cell? ⟨SX, 2, none⟩ = some (.slice (some ⟨fb, foff, none⟩) 1 fcap) := x2
                  by_cases hl3 : q3 < SS.length
                  · have hq3I : (q3 : Int) < SS.length := by omega
                    obtain ⟨-, cf, ct, -⟩ := HCL.out _ _ _ _ hrw3 q3 hl3
                    clear hrw3 x2
                    by_cases hqc : q3 = c
                    · subst hqc
                      obtain ⟨hA1, hA2⟩ := atC_at q3 at1
                      have HA2 : Hid (atC q3 (q3 + 1) at1 = (q3 : Int)) := hA2
                      obtain ⟨hs1, hs2⟩ := HSQ.out
                      have hd1 : decide (((SS[q3] : Nat) : Int) ≤ (q : Int)) = true := by simp only [decide_eq_true_eq]; omega
                      have hd1n : decide (SS[q3] ≤ q) = true := by simp only [decide_eq_true_eq]; omega
                      have hd2 : decide ((q : Int) < ((T q3 : Nat) : Int)) = true := by simp only [decide_eq_true_eq]; omega
                      have hd2n : decide (q < T q3) = true := by simp only [decide_eq_true_eq]; omega
                      rw [hA1]
                      have heq : (((SS[q3] : Nat) : Int) != (q : Int)) = false := by have := HSC.out; simp only [bne_eq_false_iff_eq]; omega
                      have heqn : (SS[q3] != q) = false := by have := HSC.out; simp only [bne_eq_false_iff_eq]; omega
                      clear hA1 hA2 hs1 hs2
                      generalize SS[q3] = sq at *
                      generalize T q3 = tq at *
                      by_cases hac : (q3 : Int) = at1
                      · have hna : ((q3 : Int) != at1) = false := by simpa using hac
                        clear hac
                        go_upto_region 23 with fail
                        go_quiet (fail)
                        go_upto_region 24 with fail
                        go_quiet (fail)
                        go_wp2
                        go_roundw
                        case rel => exact ⟨q3 + 1, by omega, by go_num, by rw [HA2.out], HR3.out.below (below_drewN (Below.refl _ _) _)⟩
                        case measure => simp [intOf]; omega
                      · have hna : ((q3 : Int) != at1) = true := by simpa using hac
                        clear hac
                        go_upto_region 23 with fail
                        go_quiet (fail)
                        go_upto_region 24 with fail
                        go_quiet (fail)
                        go_wp2
                        go_roundw
                        case rel => exact ⟨q3 + 1, by omega, by go_num, by rw [HA2.out], HR3.out.below (below_drewN (Below.refl _ _) _)⟩
                        case measure => simp [intOf]; omega
                    · have hA1 := atC_other at1 hqc
                      have HA1 : Hid (atC c (q3 + 1) at1 = atC c q3 at1) := hA1
                      have hno := HONE.out q3 hl3 hqc
                      clear hA1
                      by_cases hle : SS[q3] ≤ q
                      · have hnlt : ¬ q < T q3 := fun h => hno ⟨hle, h⟩
                        have hd1 : decide (((SS[q3] : Nat) : Int) ≤ (q : Int)) = true := by simp only [decide_eq_true_eq]; omega
                        have hd1n : decide (SS[q3] ≤ q) = true := by simp only [decide_eq_true_eq]; omega
                        have hd2 : decide ((q : Int) < ((T q3 : Nat) : Int)) = false := by simp only [decide_eq_false_iff_not]; omega
                        have hd2n : decide (q < T q3) = false := by simp only [decide_eq_false_iff_not]; omega
                        clear hno hle hnlt
                        generalize SS[q3] = sq at *
                        generalize T q3 = tq at *
                        generalize atC c q3 at1 = av3 at *
                        go_upto_region 23 with fail
                        go_quiet (fail)
                        go_wp2
                        go_roundw
                        case rel => exact ⟨q3 + 1, by omega, by go_num, by rw [HA1.out], HR3.out.below (below_drewN (Below.refl _ _) _)⟩
                        case measure => simp [intOf]; omega
                      · have hd1 : decide (((SS[q3] : Nat) : Int) ≤ (q : Int)) = false := by simp only [decide_eq_false_iff_not]; omega
                        have hd1n : decide (SS[q3] ≤ q) = false := by simp only [decide_eq_false_iff_not]; omega
                        clear hno hle
                        generalize SS[q3] = sq at *
                        generalize T q3 = tq at *
                        generalize atC c q3 at1 = av3 at *
                        go_upto_region 23 with fail
                        go_quiet (fail)
                        go_wp2
                        go_roundw
                        case rel => exact ⟨q3 + 1, by omega, by go_num, by rw [HA1.out], HR3.out.below (below_drewN (Below.refl _ _) _)⟩
                        case measure => simp [intOf]; omega
                  · obtain rfl : q3 = SS.length := by omega
                    have hAE := atC_end at1 hcK
                    rw [hAE]
                    have cse := bool_cell hrw3.row HSL2.out c hcK
                    rw [HSELF.out] at cse
                    have hcI : (c : Int) < SS.length := by omega
                    clear hAE hrw3 x2 x2b xp
                    go_upto_region 29 with fail
                    clear cse
                    have kpW := HPB.out _ HR3.out.low
                    have hNX := HNX.out _ k csk HR3.out.low hk HR3.out.val
                    have bxW := HR3.out.box
                    have ltW := HR3.out.lt
                    go_upto_region 32 with (first
                      | (refine wpList_load_row rfl _ _ rfl _ rfl _ _ _ _ bxW Tryd.underlying34 rfl hq ?_)
                      | (go_at_call 19; refine hNX.mono ?_; rintro e wn ⟨csn, rfl, d1, d2, d3, hst, hb⟩)
                      | (refine wpList_store_row rfl _ _ _ rfl _ _ rfl rfl _ _ (heap_alloc_last wn _) d1 d2 d3 ?_; rw [World.setRow_alloc_new]))
                    have HRN := HR3.out.below (hb.alloc hb.size (.cells csn 34))
                    have rn : (wn.alloc (.cells csn 34)).heap[wn.heap.size]? = some (.cells csn 34 (0, 0)) := heap_alloc_last wn _
                    have HFN : ∀ W', (∀ (a : Addr) u, a.block ≠ SB → a.block ≠ SX → (wn.alloc (.cells csn 34)).cell? a = some u → W'.cell? a = some u) → StVal W' (.agg csn) (walkS P (k + 1) S) := fun W' hkp => (hst.moved (fun a u ha hu => hkp a u (by omega) (by omega) (cell_alloc hu _))).val
                    have HPUT : Hid (RW w4 WQ SB SX SS.length csn (walkS P (k + 1) S) (seen.set c true) (World.setRow (wn.alloc (.cells csn 34)) SX csn)) := HRN.put hW1x hXBn HFN
                    have bxN := HRN.box
                    have hstore : csk.size = csn.size := hzk.symm.trans d2
                    clear hst hb HFN HRN hNX kpW bxW
                    generalize (wn.alloc (.cells csn 34)) = WN at *
                    go_wp2_with (first
                      | (refine wpList_load_row rfl _ _ rfl _ rfl _ _ _ _ rn Tryd.underlying34 rfl d1 ?_)
                      | (refine wpList_store_row rfl _ _ _ rfl SX csn rfl rfl 34 csk bxN d1 hstore d3 ?_))
                    go_roundw
                    case rel => exact ⟨k + 1, _, seen.set c true, csn, by omega, by go_num, rfl, HSL2.out, HPUT.out, d1, d2, fun h1 => HSTP.out c _ HINB.out HSO.out h1⟩
                    case measure => simp [intOf]; omega
          · have HSO : Hid (SeenOk (pvN P[0] SS T) SS.length seen c) := hso
            have HSL2 : Hid (seen.length = SS.length) := hsl
            have HSELF : Hid (seen.getD c false = true) := HSO.out.self hcK
            have HNB : Hid (∀ b, (hb : b < SS.length) → SS[b] ≠ q) := hnob
            have HATC : Hid (at1 = (c : Int)) := hatc
            clear hso hnob hatc
            go_loopw [15] (fun b wr2 => ∃ q2 : Nat, q2 ≤ SS.length ∧ b = .int .i64 q2 ∧ RW w4 WQ SB SX SS.length csk (walkS P k S) seen wr2) (fun b _ => SS.length - (intOf b).toNat)
            case atStart => exact ⟨0, Nat.zero_le _, rfl, HRW.out⟩
            case round =>
              obtain ⟨q2, hq2, rfl, hrw2⟩ := hrel
              rename World => wr2
              have HRW2 : Hid (RW w4 WQ SB SX SS.length csk (walkS P k S) seen wr2) := hrw2
              obtain ⟨x2, xp⟩ := HCL2.out _ _ hrw2
              have x2b : wr2.cell? ⟨SX, 2, none⟩ = some (.slice (some ⟨fb, foff, none⟩) 1 fcap) := x2
              by_cases hl2 : q2 < SS.length
              · have hq2I : (q2 : Int) < SS.length := by omega
                obtain ⟨ca, cf, -, pa, pn, pc, cp, hhas⟩ := HCL.out _ _ _ _ hrw2 q2 hl2
                have hne := HNB.out q2 hl2
                have hneI : (((SS[q2] : Nat) : Int) != (q : Int)) = true := by simp only [bne_iff_ne, ne_eq]; omega
                have hneN : (SS[q2] != q) = true := by simp only [bne_iff_ne, ne_eq]; exact hne
                clear hne hhas hrw2 x2 ca cp
                generalize SS[q2] = sq at *
                go_upto_region 16 with fail
                go_quiet (fail)
                go_wp2
                go_roundw
                case rel => exact ⟨q2 + 1, by omega, by go_num, HRW2.out.below (below_drewN (Below.refl _ _) _)⟩
                case measure => simp [intOf]; omega
              · obtain rfl : q2 = SS.length := by omega
                have HR2 : Hid (RW w4 WQ SB SX SS.length csk (walkS P k S) seen wr2) := hrw2
                have hatc := HATC.out
                clear hrw2 x2 x2b xp HRW2
                go_upto_region 21 with fail
                go_loopw [13, 16] (fun av b wr3 => ∃ q3 : Nat, q3 ≤ SS.length ∧ b = .int .i64 q3 ∧ av = .int .i64 (atC c q3 at1) ∧ RW w4 WQ SB SX SS.length csk (walkS P k S) (seen) wr3) (fun _ b _ => SS.length - (intOf b).toNat)
                case atStart => exact ⟨0, Nat.zero_le _, rfl, by rw [atC_start], HR2.out⟩
                case round =>
                  obtain ⟨q3, hq3, rfl, rfl, hrw3⟩ := hrel
                  rename World => wr3
                  have HR3 : Hid (RW w4 WQ SB SX SS.length csk (walkS P k S) (seen) wr3) := hrw3
                  obtain ⟨x2, xp⟩ := HCL2.out _ _ hrw3
                  have x2b : wr3.cell? ⟨SX, 2, none⟩ = some (.slice (some ⟨fb, foff, none⟩) 1 fcap) := x2
                  by_cases hl3 : q3 < SS.length
                  · have hq3I : (q3 : Int) < SS.length := by omega
                    obtain ⟨-, cf, ct, -⟩ := HCL.out _ _ _ _ hrw3 q3 hl3
                    clear hrw3 x2
                    by_cases hqc : q3 = c
                    · subst hqc
                      obtain ⟨hA1, hA2⟩ := atC_at q3 at1
                      have HA2 : Hid (atC q3 (q3 + 1) at1 = (q3 : Int)) := hA2
                      obtain ⟨hs1, hs2⟩ := HSQ.out
                      have hd1 : decide (((SS[q3] : Nat) : Int) ≤ (q : Int)) = true := by simp only [decide_eq_true_eq]; omega
                      have hd1n : decide (SS[q3] ≤ q) = true := by simp only [decide_eq_true_eq]; omega
                      have hd2 : decide ((q : Int) < ((T q3 : Nat) : Int)) = true := by simp only [decide_eq_true_eq]; omega
                      have hd2n : decide (q < T q3) = true := by simp only [decide_eq_true_eq]; omega
                      rw [hA1]
                      have hna : ((q3 : Int) != at1) = false := by rw [hatc]; simp
                      clear hA1 hA2 hs1 hs2
                      generalize SS[q3] = sq at *
                      generalize T q3 = tq at *
                      go_upto_region 23 with fail
                      go_quiet (fail)
                      go_upto_region 24 with fail
                      go_quiet (fail)
                      go_wp2
                      go_roundw
                      case rel => exact ⟨q3 + 1, by omega, by go_num, by rw [HA2.out], HR3.out.below (below_drewN (Below.refl _ _) _)⟩
                      case measure => simp [intOf]; omega
                    · have hA1 := atC_other at1 hqc
                      have HA1 : Hid (atC c (q3 + 1) at1 = atC c q3 at1) := hA1
                      have hno := HONE.out q3 hl3 hqc
                      clear hA1
                      by_cases hle : SS[q3] ≤ q
                      · have hnlt : ¬ q < T q3 := fun h => hno ⟨hle, h⟩
                        have hd1 : decide (((SS[q3] : Nat) : Int) ≤ (q : Int)) = true := by simp only [decide_eq_true_eq]; omega
                        have hd1n : decide (SS[q3] ≤ q) = true := by simp only [decide_eq_true_eq]; omega
                        have hd2 : decide ((q : Int) < ((T q3 : Nat) : Int)) = false := by simp only [decide_eq_false_iff_not]; omega
                        have hd2n : decide (q < T q3) = false := by simp only [decide_eq_false_iff_not]; omega
                        clear hno hle hnlt
                        generalize SS[q3] = sq at *
                        generalize T q3 = tq at *
                        generalize atC c q3 at1 = av3 at *
                        go_upto_region 23 with fail
                        go_quiet (fail)
                        go_wp2
                        go_roundw
                        case rel => exact ⟨q3 + 1, by omega, by go_num, by rw [HA1.out], HR3.out.below (below_drewN (Below.refl _ _) _)⟩
                        case measure => simp [intOf]; omega
                      · have hd1 : decide (((SS[q3] : Nat) : Int) ≤ (q : Int)) = false := by simp only [decide_eq_false_iff_not]; omega
                        have hd1n : decide (SS[q3] ≤ q) = false := by simp only [decide_eq_false_iff_not]; omega
                        clear hno hle
                        generalize SS[q3] = sq at *
                        generalize T q3 = tq at *
                        generalize atC c q3 at1 = av3 at *
                        go_upto_region 23 with fail
                        go_quiet (fail)
                        go_wp2
                        go_roundw
                        case rel => exact ⟨q3 + 1, by omega, by go_num, by rw [HA1.out], HR3.out.below (below_drewN (Below.refl _ _) _)⟩
                        case measure => simp [intOf]; omega
                  · obtain rfl : q3 = SS.length := by omega
                    have hAE := atC_end at1 hcK
                    rw [hAE]
                    have cse := bool_cell hrw3.row HSL2.out c hcK
                    rw [HSELF.out] at cse
                    have hcI : (c : Int) < SS.length := by omega
                    clear hAE hrw3 x2 x2b xp
                    go_upto_region 29 with fail
                    clear cse
                    have kpW := HPB.out _ HR3.out.low
                    have hNX := HNX.out _ k csk HR3.out.low hk HR3.out.val
                    have bxW := HR3.out.box
                    have ltW := HR3.out.lt
                    go_upto_region 32 with (first
                      | (refine wpList_load_row rfl _ _ rfl _ rfl _ _ _ _ bxW Tryd.underlying34 rfl hq ?_)
                      | (go_at_call 19; refine hNX.mono ?_; rintro e wn ⟨csn, rfl, d1, d2, d3, hst, hb⟩)
                      | (refine wpList_store_row rfl _ _ _ rfl _ _ rfl rfl _ _ (heap_alloc_last wn _) d1 d2 d3 ?_; rw [World.setRow_alloc_new]))
                    have HRN := HR3.out.below (hb.alloc hb.size (.cells csn 34))
                    have rn : (wn.alloc (.cells csn 34)).heap[wn.heap.size]? = some (.cells csn 34 (0, 0)) := heap_alloc_last wn _
                    have HFN : ∀ W', (∀ (a : Addr) u, a.block ≠ SB → a.block ≠ SX → (wn.alloc (.cells csn 34)).cell? a = some u → W'.cell? a = some u) → StVal W' (.agg csn) (walkS P (k + 1) S) := fun W' hkp => (hst.moved (fun a u ha hu => hkp a u (by omega) (by omega) (cell_alloc hu _))).val
                    have HPUT : Hid (RW w4 WQ SB SX SS.length csn (walkS P (k + 1) S) (seen) (World.setRow (wn.alloc (.cells csn 34)) SX csn)) := HRN.put hW1x hXBn HFN
                    have bxN := HRN.box
                    have hstore : csk.size = csn.size := hzk.symm.trans d2
                    clear hst hb HFN HRN hNX kpW bxW
                    generalize (wn.alloc (.cells csn 34)) = WN at *
                    go_wp2_with (first
                      | (refine wpList_load_row rfl _ _ rfl _ rfl _ _ _ _ rn Tryd.underlying34 rfl d1 ?_)
                      | (refine wpList_store_row rfl _ _ _ rfl SX csn rfl rfl 34 csk bxN d1 hstore d3 ?_))
                    go_roundw
                    case rel => exact ⟨k + 1, _, seen, csn, by omega, by go_num, rfl, HSL2.out, HPUT.out, d1, d2, fun h1 => HSTP.out c _ HINB.out HSO.out h1⟩
                    case measure => simp [intOf]; omega
        · cases hw with
          | first _ _ => exact absurd rfl hf1
          | here _ _ _ _ _ => exact absurd rfl hf1
          | @above _ _ a q' hf0 hn0 hpq hin hso =>
            have hqq : q' = q := by have := HE2.out; omega
            subst hqq
            have HINB : Hid (InBlk SS T q' a) := hin
            have HSO : Hid (SeenOk (pvN P[0] SS T) SS.length seen a) := hso
            have HSL2 : Hid (seen.length = SS.length) := hsl
            have hfl : ¬ fs.length = 0 := fun h => hf1 (List.length_eq_zero_iff.1 h)
            have hl1 : (((fs.length + 1 : Nat) : Int) == 1) = false := beq_eq_false_iff_ne.2 (by omega)
            have hl1n : (fs.length + 1 == 1) = false := beq_eq_false_iff_ne.2 (by omega)
            clear hin hso hpq hf0 hn0 hf1
            generalize fs.length + 1 = fl at *
            go_upto_region 29 with fail
            clear c0 c2 hkI hkn
            have kpW := HPB.out _ HRW.out.low
            have hNX := HNX.out _ k csk HRW.out.low hk HRW.out.val
            have bxW := HRW.out.box
            have ltW := HRW.out.lt
            go_upto_region 32 with (first
              | (refine wpList_load_row rfl _ _ rfl _ rfl _ _ _ _ bxW Tryd.underlying34 rfl hq ?_)
              | (go_at_call 19; refine hNX.mono ?_; rintro e wn ⟨csn, rfl, d1, d2, d3, hst, hb⟩)
              | (refine wpList_store_row rfl _ _ _ rfl _ _ rfl rfl _ _ (heap_alloc_last wn _) d1 d2 d3 ?_; rw [World.setRow_alloc_new]))
            have HRN := HRW.out.below (hb.alloc hb.size (.cells csn 34))
            have rn : (wn.alloc (.cells csn 34)).heap[wn.heap.size]? = some (.cells csn 34 (0, 0)) := heap_alloc_last wn _
            have HFN : ∀ W', (∀ (a : Addr) u, a.block ≠ SB → a.block ≠ SX → (wn.alloc (.cells csn 34)).cell? a = some u → W'.cell? a = some u) → StVal W' (.agg csn) (walkS P (k + 1) S) := fun W' hkp => (hst.moved (fun a u ha hu => hkp a u (by omega) (by omega) (cell_alloc hu _))).val
            have HPUT : Hid (RW w4 WQ SB SX SS.length csn (walkS P (k + 1) S) (seen) (World.setRow (wn.alloc (.cells csn 34)) SX csn)) := HRN.put hW1x hXBn HFN
            have bxN := HRN.box
            have hstore : csk.size = csn.size := hzk.symm.trans d2
            clear hst hb HFN HRN hNX kpW bxW
            generalize (wn.alloc (.cells csn 34)) = WN at *
            go_wp2_with (first
              | (refine wpList_load_row rfl _ _ rfl _ rfl _ _ _ _ rn Tryd.underlying34 rfl d1 ?_)
              | (refine wpList_store_row rfl _ _ _ rfl SX csn rfl rfl 34 csk bxN d1 hstore d3 ?_))
            go_roundw
            case rel => exact ⟨k + 1, _, seen, csn, by omega, by go_num, rfl, HSL2.out, HPUT.out, d1, d2, fun h1 => HSTP.out a _ HINB.out HSO.out h1⟩
            case measure => simp [intOf]; omega
      · have hne : ((walkS P k S).status == 0) = false := by simpa using hs
        have HLW : Hid (Below WQ.heap.size WQ wr) := hrw.low
        clear hrw hway hs
        generalize (walkS P k S).status = st at c0 hne
        go_wp2
        go_ret
        exact ⟨rfl, HWF.out _ HLW.out⟩
    · have hkI : decide ((k : Int) < 300) = false := by simp only [decide_eq_false_iff_not]; omega
      have hkn : decide (k < 300) = false := by simp only [decide_eq_false_iff_not]; omega
      have HLW : Hid (Below WQ.heap.size WQ wr) := hrw.low
      clear hrw hway
      go_wp2
      go_ret
      exact ⟨rfl, HWF.out _ HLW.out⟩
end Go.Proofs.YtpkgibdbmmhgdaaDoor
