/- Contract of the document's stepped (package tierlineref; written by gen/mkstepd.py). -/
import Derived.Test.YtndogdojcbcjgaaDoorXOutKit
import Derived.Test.YtndogdojcbcjgaaDoorGroupW
import Derived.Test.YtndogdojcbcjgaaDoorGroupM
import Derived.Test.YtndogdojcbcjgaaDoorGroupK
import Derived.BigQuiet
namespace Go.Proofs.YtndogdojcbcjgaaDoor
open Go Go.RowKit

/-- A state that may do a step. -/
structure StepOk (P : List Fn) (S : St) (fs : List Fr) (f : Fr) : Prop where
  frs : S.frames = fs ++ [f]
  run : S.status = 0
  code : codeProg P = 0
  place : placeB P f = true
  up : ∀ c, fs.getLast? = some c → placeB P c = true
  few : S.frames.length ≤ 8
  fuel0 : 0 ≤ S.fuel
  fuel1 : S.fuel ≤ 10000
  ev : S.events.length * 8 ≤ 140737488351232
  an : S.answers.length ≤ 100
  fits : ∀ r, Fits (f.regs.getD r 0)
def StepdPost (P : List Fn) (S : St) (w : World) (e : Ending) (w' : World) : Prop := ∃ v', e = .returned v' ∧ StAt w' w.heap.size v' (stepS P S) ∧ Below w.heap.size w w'

set_option maxRecDepth 100000 in
set_option maxHeartbeats 20000000 in
theorem stepped_any (P : List Fn) (S : St) (fs : List Fr) (f : Fr) (h : StepOk P S fs f) (v sv : Value) (w : World) (hv : ProgVal w v P) (hs : StVal w sv S) :
    Calls Tryd.prog 66 #[.agg #[v], sv] w fun e w' => StepdPost P S w e w' := by
  have hsnoc := stepS_snoc (P := P) h.frs
  obtain ⟨ao, n0, cap0, rfl⟩ := hv.shape
  obtain ⟨cs, rfl, c1, c2, c3⟩ := hs.cells
  have hbx : ∀ o o' o'', Below w.heap.size w (((w.alloc o).alloc o').alloc o'') := fun o o' o'' => (((Below.refl _ _).alloc (Nat.le_refl _) _).alloc (by simp) _).alloc (by simp; omega) _
  have HPV : Hid (∀ W, Below w.heap.size w W → ProgVal W (.slice ao n0 cap0) P) := fun W hW => hv.keeps (keeps_below hW)
  have hev := h.ev
  have hfew := h.few
  have han := h.an
  have HSC : Hid (∀ o o' o'', Calls Tryd.prog 42 #[.agg cs] (((w.alloc o).alloc o').alloc o'') _) := fun o o' o'' => stCopy_any S (.agg cs) (((w.alloc o).alloc o').alloc o'') (hs.keeps (keeps_below (hbx o o' o''))) (by omega) (by omega) (by omega)
  have HSM : Hid (∀ i, i < 16 → cs[3 + i]? = some (.int .i64 (S.mem.getD i 0))) := fun i hi => hs.memAt i hi
  obtain ⟨fv0, ev0, av0, hce, hm0, hf0, he0, ha0⟩ := hs
  obtain ⟨fr0, fc0, rfl⟩ := hf0.shape
  have hfc0 : S.frames.length ≤ fc0 ∧ fc0 ≤ 9223372036854775807 := by
    obtain ⟨_, _, _, _, n', cap', e, hl, _, _, hc, hx⟩ := hf0
    obtain ⟨-, rfl, rfl⟩ : fr0 = _ ∧ S.frames.length = n' ∧ fc0 = cap' := by simpa using e
    unfold maxLen at hx
    exact ⟨hc.1, hx⟩
  obtain ⟨arA, arB, arO, arN, arC, har, harl, hara, harc, harcp, harm⟩ := ints_get ha0
  have HAN : Hid (∀ W, Below w.heap.size w W → IntsVal W (.slice arA arN arC) S.answers) := fun W hW => by rw [← har]; exact ha0.keeps (keeps_below hW)
  rw [har] at hce
  have hcs : cs = (stCells S (.slice fr0 S.frames.length fc0) ev0 (.slice arA arN arC)).toArray := Value.agg.inj hce
  have b2 : cs[2]? = some (.slice fr0 S.frames.length fc0) := by rw [hcs]; rfl
  have b19 : cs[19]? = some (.int .i64 S.fuel) := by rw [hcs, List.getElem?_toArray]; exact stC_tail _ _ _ hm0 0
  have b21 : cs[21]? = some (.slice arA arN arC) := by rw [hcs, List.getElem?_toArray]; exact stC_tail _ _ _ hm0 2
  clear hce hcs hf0 he0 ha0
  have HW0 : Hid (Below w.heap.size w (((w.alloc (.cells #[.slice ao n0 cap0] 24)).alloc (.cells cs 29)).alloc (.cells zeroStCells 29))) := hbx _ _ _
  have r2 : (((w.alloc (.cells #[.slice ao n0 cap0] 24)).alloc (.cells cs 29)).alloc (.cells zeroStCells 29)).heap[w.heap.size]? = some (.cells #[.slice ao n0 cap0] 24 (0, 0)) := heap_alloc_old _ _ (by simp; omega) |>.trans (heap_alloc2_old _ _ _)
  have r3 : (((w.alloc (.cells #[.slice ao n0 cap0] 24)).alloc (.cells cs 29)).alloc (.cells zeroStCells 29)).heap[w.heap.size + 1]? = some (.cells cs 29 (0, 0)) := heap_alloc_old _ _ (by simp) |>.trans (heap_alloc2_new _ _ _)
  have r4 : (((w.alloc (.cells #[.slice ao n0 cap0] 24)).alloc (.cells cs 29)).alloc (.cells zeroStCells 29)).heap[w.heap.size + 1 + 1]? = some (.cells zeroStCells 29 (0, 0)) := by
    have := heap_alloc_last ((w.alloc (.cells #[.slice ao n0 cap0] 24)).alloc (.cells cs 29)) (.cells zeroStCells 29)
    simpa using this
  have hz0 : (((w.alloc (.cells #[.slice ao n0 cap0] 24)).alloc (.cells cs 29)).alloc (.cells zeroStCells 29)).heap.size = w.heap.size + 3 := by simp
  have HOK : Hid (StepOk P S fs f) := h
  clear hv hbx h
  go_enter Tryd.func66, Tryd.ntmps66
  go_upto_region 2 with (first
    | (refine wpList_load_row rfl _ _ rfl _ rfl _ _ _ _ r3 Tryd.underlying29 rfl c1 ?_)
    | (go_at_call 42; refine (HSC.out _ _ _).mono ?_; rintro e w1 ⟨v1, fv, ev, av, rfl, hos, hb1⟩; obtain rfl := hos.val; have HOS : Hid (OwnState w1 _ _ S fv ev av) := hos; have HB1 : Hid (Below _ _ w1) := hb1; obtain ⟨cs1, ecs, hsi, hold, hone⟩ := (StVal.cells ⟨fv, ev, av, rfl, hos.mem, frames_of_own hos.wf hos.frames, ints_of_own hos.events, ints_of_own hos.answers⟩ : ∃ cs1, _); obtain rfl := Value.agg.inj ecs; clear hos hb1)
    | (refine wpList_store_row rfl _ _ _ rfl _ (stCells S fv ev av).toArray rfl rfl 29 zeroStCells (heap_alloc_last w1 _) hsi hold hone ?_; rw [World.setRow_alloc_new]))
  simp only [World.size_alloc] at HOS HB1
  simp only [Act.put]
  have HBZ : Hid (Below (w.heap.size + 3) (((w.alloc (.cells #[.slice ao n0 cap0] 24)).alloc (.cells cs 29)).alloc (.cells zeroStCells 29)) w1) := HB1.out
  have HOZ : Hid (OwnState w1 (w.heap.size + 3) (.agg (stCells S fv ev av).toArray) S fv ev av) := HOS.out
  clear HB1 HOS HSC c1 c2 c3 hsi hold hone
  have R2 : Hid _ := r2
  have R3 : Hid _ := r3
  have R4 : Hid _ := r4
  clear r2 r3 r4
  generalize (((w.alloc (.cells #[.slice ao n0 cap0] 24)).alloc (.cells cs 29)).alloc (.cells zeroStCells 29)) = W0 at *
  have hz1 : w.heap.size + 3 ≤ w1.heap.size := by have := HBZ.out.size; omega
  have HOA : Hid (OutAt (w1.alloc (.cells (stCells S fv ev av).toArray 29)) (w.heap.size + 3) w1.heap.size S fv ev av) := HOZ.out.out ((Below.refl _ _).alloc (Nat.le_refl _) _) (heap_alloc_last w1 _) hz1
  have HB2 : Hid (Below (w.heap.size + 3) W0 (w1.alloc (.cells (stCells S fv ev av).toArray 29))) := HBZ.out.alloc hz1 _
  generalize (w1.alloc (.cells (stCells S fv ev av).toArray 29)) = W2 at *
  generalize w1.heap.size = B5 at *
  clear HBZ HOZ
  have HBX : Hid (∀ W, Below (w.heap.size + 3) W0 W → W.cell? ⟨w.heap.size, 0, none⟩ = some (.slice ao n0 cap0) ∧ W.cell? ⟨w.heap.size + 1, 2, none⟩ = some (.slice fr0 S.frames.length fc0) ∧ W.cell? ⟨w.heap.size + 1, 19, none⟩ = some (.int .i64 S.fuel) ∧ W.cell? ⟨w.heap.size + 1, 21, none⟩ = some (.slice arA arN arC) ∧ (∀ i, i < 16 → W.cell? ⟨w.heap.size + 1, 3 + i, none⟩ = some (.int .i64 (S.mem.getD i 0))) ∧ Below w.heap.size w W) := fun W hW => by
    have e2 := (hW.block w.heap.size (by omega)).trans R2.out
    have e3 := (hW.block (w.heap.size + 1) (by omega)).trans R3.out
    refine ⟨by rw [cell_of_row _ _ _ _ _ _ e2]; rfl, by rw [cell_of_row _ _ _ _ _ _ e3]; exact b2, by rw [cell_of_row _ _ _ _ _ _ e3]; exact b19, by rw [cell_of_row _ _ _ _ _ _ e3]; exact b21, fun i hi => by rw [cell_of_row _ _ _ _ _ _ e3]; exact HSM.out i hi, HW0.out.trans (hW.mono (by omega))⟩
  clear b2 b19 b21 R2 R3 HSM
  obtain ⟨kp, s2, s19, s21, -, -⟩ := HBX.out W2 HB2.out
  by_cases h0 : S.fuel = 0
  · have HSX : Hid (stepS P S = { S with status := 2 }) := by show _ = _; rw [hsnoc, if_pos h0]
    obtain ⟨q0, -, -, -, -, -, -, qf⟩ := HOA.out.own
    have qf0 := qf 0
    obtain ⟨ho1, hbo1⟩ := HOA.out.put 0 (.int .i64 2) { S with status := 2 } rfl HOA.out.mem rfl rfl rfl
    have HO1 : Hid (OutAt (W2.setCell ⟨B5, 0, none⟩ (.int .i64 2)) (w.heap.size + 3) B5 { S with status := 2 } fv ev av) := ho1
    have HB3 : Hid (Below (w.heap.size + 3) W0 (W2.setCell ⟨B5, 0, none⟩ (.int .i64 2))) := HB2.out.trans hbo1
    rw [h0] at s19
    clear hsnoc h0 qf ho1 hbo1
    have r5 := HO1.out.cells
    have r4 : (W2.setCell ⟨B5, 0, none⟩ (.int .i64 2)).heap[w.heap.size + 1 + 1]? = some (.cells zeroStCells 29 (0, 0)) := (HB3.out.block _ (by omega)).trans R4.out
    obtain ⟨csF, ecsF, hsiF, holdF, honeF⟩ := HO1.out.at.val.cells
    have HCF : Hid (csF = _) := (Value.agg.inj ecsF).symm
    rw [← HCF.out] at r5
    clear ecsF
    go_upto_region 4 with fail
    go_wp2_with (refine wpList_load_row rfl _ _ rfl _ rfl _ _ _ _ r5 Tryd.underlying29 rfl hsiF ?_; simp only [Act.put, List.setIfInBounds_toArray, List.set_cons_zero, List.set_cons_succ]; refine wpList_store_row rfl _ _ _ rfl _ _ rfl rfl _ _ r4 hsiF holdF honeF ?_; rename_i KK hKK; refine hKK _ _ (wp_ret ?_); change bodyPost Tryd.prog Tryd.f66 (fun e w' => StepdPost P S w e w') .ret _ _; refine bodyPost_ret (results_cell_row rfl _ _ (w.heap.size + 1 + 1) 29 _ (0, 0) _ rfl (setRow_heap _ _ _ _ _ _ r4) Tryd.underlying29 rfl hsiF) rfl ⟨_, rfl, ?_, below_setRow (HB3.out.mono (by omega) |> HW0.out.trans) (by omega) r4 _⟩; rw [HSX.out]; have hat := (HO1.out.at.setRow (r := w.heap.size + 1 + 1) (by omega) csF).mono (show w.heap.size ≤ w.heap.size + 3 by omega); rw [← HCF.out] at hat; exact hat)
  rw [if_neg h0] at hsnoc
  have HFE : Hid (¬ S.fuel = 0) := h0
  have h0b : (S.fuel == 0) = false := by simpa using h0
  have hNF : S.frames.length = fs.length + 1 := by rw [HOK.out.frs]; simp
  obtain ⟨fb, cap, rfl⟩ := HOA.out.fshape (by rw [HOK.out.frs]; simp)
  obtain ⟨-, hcap1, hcap2, lf, lp, -, -⟩ := HOA.out.lastCells HOK.out.frs
  obtain ⟨-, -, q2, -, -, -, -, -⟩ := HOA.out.own
  obtain ⟨tp, htp⟩ : ∃ tp, tp = fs.length := ⟨_, rfl⟩
  rw [← htp] at lf lp hNF
  have HTP : Hid (tp = fs.length) := htp
  have hwt : IntKind.i64.wrap (((tp + 1 : Nat) : Int) - 1) = (tp : Int) := by rw [show ((tp + 1 : Nat) : Int) - 1 = tp by omega]; exact wrap_fits _ (by omega) (by omega)
  rw [← hNF] at hwt
  have htI : (tp : Int) < S.frames.length := by omega
  have hNFb : S.frames.length ≤ 8 ∧ 1 ≤ S.frames.length := ⟨hfew, by omega⟩
  have HNF : Hid (S.frames.length = tp + 1) := hNF
  obtain ⟨kf, jf, pb, po, pcap, b1, off1, m1, cap1, hfn, hfp, hve, hkl, hd2, hjm, hm1, hcp1, hpc1, hpc2, hins⟩ := prog_ins (HPV.out W2 (HBX.out W2 HB2.out).2.2.2.2.2) HOK.out.place
  obtain ⟨rfl, rfl, rfl⟩ : ao = some ⟨pb, po, none⟩ ∧ n0 = P.length ∧ cap0 = pcap := by simpa using hve
  have hins2 : insAt W2 b1 (off1 + jf * 5) (insOfFr P f) := hins
  have hxok := place_ins HOK.out.code HOK.out.place
  rw [hfn] at lf
  rw [hfp] at lp
  have HFP : Hid (f.fn = kf ∧ f.pc = jf) := ⟨hfn, hfp⟩
  have hj40 : jf ≤ 1000 := by
    obtain ⟨k', j', hk', hj', e1, e2, -, -⟩ := place_nat HOK.out.place
    have := (fnOk_of HOK.out.code (List.getElem_mem hk')).1.len2
    omega
  obtain ⟨xo, xd, xa, xb, xi, hxe⟩ : ∃ xo xd xa xb xi, insOfFr P f = ⟨xo, xd, xa, xb, xi⟩ := ⟨_, _, _, _, _, rfl⟩
  rw [hxe] at hins2 hxok hsnoc
  obtain ⟨i0, i1, i2, i3, i4⟩ := hins2
  dsimp only at i0 i1 i2 i3 i4 hsnoc
  obtain ⟨ka, hka⟩ := Int.eq_ofNat_of_zero_le hxok.a0
  obtain ⟨kb, hkb⟩ := Int.eq_ofNat_of_zero_le hxok.b0
  obtain ⟨kd, hkd⟩ := Int.eq_ofNat_of_zero_le hxok.dst0
  have hka12 := hxok.a1
  have hkb12 := hxok.b1
  have hkd12 := hxok.dst1
  have hop1 := hxok.op1
  have hop2 := hxok.op2
  have HXC : Hid (xo = 17 → 0 ≤ xi ∧ xi < P.length ∧ 0 ≤ paramsAt P xi ∧ paramsAt P xi ≤ 2) := hxok.call
  have HXE : Hid (insOfFr P f = ⟨xo, xd, xa, xb, xi⟩) := hxe
  dsimp only at hka hkb hkd hka12 hkb12 hkd12 hop1 hop2
  rw [hka] at i2 hsnoc hka12
  rw [hkb] at i3 hsnoc hkb12
  rw [hkd] at i1 hsnoc hkd12
  have hkI : (kf : Int) < P.length := by omega
  have hjI : (jf : Int) < m1 := by omega
  have HVA : Hid (regD f (ka : Int) = f.regs.getD ka 0 ∧ regD f (kb : Int) = f.regs.getD kb 0) := ⟨rfl, rfl⟩
  have HSN : Hid _ := hsnoc
  clear hins hxok hxe hka hkb hkd hve hNF htp hfn hfp hsnoc h0 hm0
  generalize hNNF : S.frames.length = NF at *
  have HNN : Hid (S.frames.length = NF) := hNNF
  clear hNNF
  go_upto_region 7 with fail
  go_cut [8] from 31 to 45 (fun t wx => ∃ X : Nat, t = .pointer (some ⟨X, 0, none⟩) ∧ wx.heap[X]? = some (.cells #[.int .i64 xo, .int .i64 (kd : Int), .int .i64 (ka : Int), .int .i64 (kb : Int), .int .i64 xi] 61 (0, 0)) ∧ Below W2.heap.size W2 wx)
  case first =>
    refine wp_region_held_drew (S := fun W => Below W2.heap.size W2 W) (by kernel_rfl) ((Below.refl _ _).drew) (fun hHeld => ?_)
    show wpAnyH _ _ _ _ _ 17 _ _ _
    refine wpAnyH_take (i := 0) (v := ?_) rfl (by kernel_rfl) (by kernel_rfl) (by kernel_rfl) (fun _ _ _ h => h) (Or.inl ⟨by rfl, ?_⟩) (by assumption) ?_
    rotate_left
    · (intro W hSW; go_simp; try (with_reducible rfl))
    (try simp only [Act.put, List.setIfInBounds_toArray])
    refine wpAnyH_take (i := 1) (v := ?_) rfl (by kernel_rfl) (by kernel_rfl) (by kernel_rfl) (fun _ _ _ h => h) (Or.inl ⟨by rfl, ?_⟩) (by assumption) ?_
    rotate_left
    · (intro W hSW; have z0 := keeps_below hSW _ _ kp; go_simp; try (with_reducible rfl))
    (try simp only [Act.put])
    refine wpAnyH_take (i := 2) (v := ?_) rfl (by kernel_rfl) (by kernel_rfl) (by kernel_rfl) (fun _ _ _ h => h) (Or.inl ⟨by rfl, ?_⟩) (by assumption) ?_
    rotate_left
    · (intro W hSW; go_simp; try (with_reducible rfl))
    (try simp only [Act.put])
    refine wpAnyH_take (i := 3) (v := ?_) rfl (by kernel_rfl) (by kernel_rfl) (by kernel_rfl) (fun _ _ _ h => h) (Or.inl ⟨by rfl, ?_⟩) (by assumption) ?_
    rotate_left
    · (intro W hSW; go_simp; try (with_reducible rfl))
    (try simp only [Act.put])
    refine wpAnyH_take (i := 4) (v := ?_) rfl (by kernel_rfl) (by kernel_rfl) (by kernel_rfl) (fun _ _ _ h => h) (Or.inl ⟨by rfl, ?_⟩) (by assumption) ?_
    rotate_left
    · (intro W hSW; go_simp; try (with_reducible rfl))
    (try simp only [Act.put])
    refine wpAnyH_take (i := 5) (v := ?_) rfl (by kernel_rfl) (by kernel_rfl) (by kernel_rfl) (fun _ _ _ h => h) (Or.inl ⟨by rfl, ?_⟩) (by assumption) ?_
    rotate_left
    · (intro W hSW; have z0 := keeps_below hSW _ _ lf; go_simp; try (with_reducible rfl))
    (try simp only [Act.put])
    refine wpAnyH_take (i := 6) (v := ?_) rfl (by kernel_rfl) (by kernel_rfl) (by kernel_rfl) (fun _ _ _ h => h) (Or.inl ⟨by rfl, ?_⟩) (by assumption) ?_
    rotate_left
    · (intro W hSW; go_simp; try (with_reducible rfl))
    (try simp only [Act.put])
    refine wpAnyH_take (i := 7) (v := ?_) rfl (by kernel_rfl) (by kernel_rfl) (by kernel_rfl) (fun _ _ _ h => h) (Or.inl ⟨by rfl, ?_⟩) (by assumption) ?_
    rotate_left
    · (intro W hSW; go_simp; try (with_reducible rfl))
    (try simp only [Act.put])
    refine wpAnyH_take (i := 8) (v := ?_) rfl (by kernel_rfl) (by kernel_rfl) (by kernel_rfl) (fun _ _ _ h => h) (Or.inl ⟨by rfl, ?_⟩) (by assumption) ?_
    rotate_left
    · (intro W hSW; have z0 := keeps_below hSW _ _ hd2; go_simp; try (with_reducible rfl))
    (try simp only [Act.put])
    refine wpAnyH_take (i := 9) (v := ?_) rfl (by kernel_rfl) (by kernel_rfl) (by kernel_rfl) (fun _ _ _ h => h) (Or.inl ⟨by rfl, ?_⟩) (by assumption) ?_
    rotate_left
    · (intro W hSW; go_simp; try (with_reducible rfl))
    (try simp only [Act.put])
    refine wpAnyH_take (i := 10) (v := ?_) rfl (by kernel_rfl) (by kernel_rfl) (by kernel_rfl) (fun _ _ _ h => h) (Or.inl ⟨by rfl, ?_⟩) (by assumption) ?_
    rotate_left
    · (intro W hSW; go_simp; try (with_reducible rfl))
    (try simp only [Act.put])
    refine wpAnyH_take (i := 11) (v := ?_) rfl (by kernel_rfl) (by kernel_rfl) (by kernel_rfl) (fun _ _ _ h => h) (Or.inl ⟨by rfl, ?_⟩) (by assumption) ?_
    rotate_left
    · (intro W hSW; go_simp; try (with_reducible rfl))
    (try simp only [Act.put])
    refine wpAnyH_take (i := 12) (v := ?_) rfl (by kernel_rfl) (by kernel_rfl) (by kernel_rfl) (fun _ _ _ h => h) (Or.inl ⟨by rfl, ?_⟩) (by assumption) ?_
    rotate_left
    · (intro W hSW; have z0 := keeps_below hSW _ _ lp; go_simp; try (with_reducible rfl))
    (try simp only [Act.put])
    refine wpAnyH_take (i := 13) (v := ?_) rfl (by kernel_rfl) (by kernel_rfl) (by kernel_rfl) (fun _ _ _ h => h) (Or.inl ⟨by rfl, ?_⟩) (by assumption) ?_
    rotate_left
    · (intro W hSW; go_simp; try (with_reducible rfl))
    (try simp only [Act.put])
    refine wpAnyH_take (i := 14) (v := ?_) rfl (by kernel_rfl) (by kernel_rfl) (by kernel_rfl) (fun _ _ _ h => h) (Or.inl ⟨by rfl, ?_⟩) (by assumption) ?_
    rotate_left
    · (intro W hSW; have z0 := keeps_below hSW _ _ i0; have z1 := keeps_below hSW _ _ i1; have z2 := keeps_below hSW _ _ i2; have z3 := keeps_below hSW _ _ i3; have z4 := keeps_below hSW _ _ i4; go_simp; try (with_reducible rfl))
    (try simp only [Act.put])
    refine wpAnyH_ready (rs := [15]) (by kernel_rfl) (by simp) ?_
    refine AllReadyH.cons rfl (fun K hK => ?_) AllReadyH.nil
    go_simp
    refine hK.out _ _ ((Below.refl _ _).alloc (Nat.le_refl _) _).drew (fun _ => ?_)
    clear hK K
    (try simp only [Act.put, List.setIfInBounds_toArray, List.set_cons_zero, List.set_cons_succ])
    refine wpAnyH_ready (rs := [16]) (by kernel_rfl) (by simp) ?_
    refine AllReadyH.cons rfl (fun K hK => ?_) AllReadyH.nil
    go_simp
    refine hK.out _ _ ((Below.refl _ _).alloc (Nat.le_refl _) _).drew (fun _ => ?_)
    clear hK K
    (try simp only [Act.put, List.setIfInBounds_toArray, List.set_cons_zero, List.set_cons_succ])
    refine wpAnyH_done (by kernel_rfl) ?_ _
    go_wp2_with fail
    go_meet
    exact ⟨_, rfl, heap_alloc_last W2 _, ((Below.refl _ _).alloc (Nat.le_refl _) _).drew⟩
  case rest =>
    rename World => WX
    obtain ⟨X, rfl, rowX, bX⟩ := hcut
    have HBXX : Hid (Below W2.heap.size W2 WX) := bX
    have HRX : Hid (WX.heap[X]? = some (.cells #[.int .i64 xo, .int .i64 (kd : Int), .int .i64 (ka : Int), .int .i64 (kb : Int), .int .i64 xi] 61 (0, 0))) := rowX
    have HOX : Hid (OutAt WX (w.heap.size + 3) B5 S (.slice (some ⟨fb, 0, none⟩) NF cap) ev av) := HOA.out.below bX
    have HB3 : Hid (Below (w.heap.size + 3) W0 WX) := HB2.out.trans (bX.mono (by have := HOA.out.base; omega))
    obtain ⟨-, -, -, -, -, lr, -⟩ := HOX.out.lastCells HOK.out.frs
    rw [← HTP.out] at lr
    have ra := lr ka (by omega)
    have rb := lr kb (by omega)
    have x2 : WX.cell? ⟨X, 2, none⟩ = some (.int .i64 (ka : Int)) := by rw [cell_of_row _ _ _ _ _ _ rowX]; rfl
    have x3 : WX.cell? ⟨X, 3, none⟩ = some (.int .i64 (kb : Int)) := by rw [cell_of_row _ _ _ _ _ _ rowX]; rfl
    obtain ⟨va, hva⟩ : ∃ va, va = f.regs.getD ka 0 := ⟨_, rfl⟩
    obtain ⟨vb, hvb⟩ : ∃ vb, vb = f.regs.getD kb 0 := ⟨_, rfl⟩
    rw [← hva] at ra HVA
    rw [← hvb] at rb HVA
    have HFA : Hid (Fits va ∧ Fits vb) := ⟨by rw [hva]; exact HOK.out.fits ka, by rw [hvb]; exact HOK.out.fits kb⟩
    rw [HVA.out.1, HVA.out.2] at HSN
    clear hva hvb lr rowX bX HOA HB2 kp s2 s19 s21 lf lp q2 i0 i1 i2 i3 i4 hd2
    go_wp2_with fail
    go_quiet (fail)
    have bq := below_drewN (Below.refl WX.heap.size WX) nq
    have HRY : Hid ((WX.drewN nq).heap[X]? = some (.cells #[.int .i64 xo, .int .i64 (kd : Int), .int .i64 (ka : Int), .int .i64 (kb : Int), .int .i64 xi] 61 (0, 0))) := HRX.out
    have HOY : Hid (OutAt (WX.drewN nq) (w.heap.size + 3) B5 S (.slice (some ⟨fb, 0, none⟩) NF cap) ev av) := HOX.out.below bq
    have HBY : Hid (Below (w.heap.size + 3) W0 (WX.drewN nq)) := HB3.out.trans (bq.mono (by have := HOX.out.base; omega))
    have rb' : (WX.drewN nq).cell? ⟨fb, tp * 14 + 2 + kb, none⟩ = some (.int .i64 vb) := rb
    have x3' : (WX.drewN nq).cell? ⟨X, 3, none⟩ = some (.int .i64 (kb : Int)) := x3
    clear HRX HOX HB3 HBXX bq ra rb x2 x3
    generalize WX.drewN nq = WY at *
    go_wp2_with fail
    go_quiet (fail)
    have bq := below_drewN (Below.refl WY.heap.size WY) nq
    have HR4 : Hid ((WY.drewN nq).heap[X]? = some (.cells #[.int .i64 xo, .int .i64 (kd : Int), .int .i64 (ka : Int), .int .i64 (kb : Int), .int .i64 xi] 61 (0, 0))) := HRY.out
    have HO4 : Hid (OutAt (WY.drewN nq) (w.heap.size + 3) B5 S (.slice (some ⟨fb, 0, none⟩) NF cap) ev av) := HOY.out.below bq
    have HB4 : Hid (Below (w.heap.size + 3) W0 (WY.drewN nq)) := HBY.out.trans (bq.mono (by have := HOY.out.base; omega))
    clear HRY HOY HBY bq rb' x3'
    generalize WY.drewN nq = W4 at *
    have x0 : W4.cell? ⟨X, 0, none⟩ = some (.int .i64 xo) := by rw [cell_of_row _ _ _ _ _ _ HR4.out]; rfl
    obtain ⟨kp, s2, s19, s21, -, -⟩ := HBX.out W4 HB4.out
    obtain ⟨q0, -, -, q19, -, -, -, qf⟩ := HO4.out.own
    have qf0 := qf 0
    have qf19 := qf 19
    by_cases hdz : xo = 5 ∧ vb = 0
    · obtain ⟨rfl, rfl⟩ := hdz
      have HSX : Hid (stepS P S = { S with status := 3 }) := by show _ = _; rw [HSN.out]; rfl
      obtain ⟨ho1, hbo1⟩ := HO4.out.put 0 (.int .i64 3) { S with status := 3 } rfl HO4.out.mem rfl rfl rfl
      have HO1 : Hid (OutAt (W4.setCell ⟨B5, 0, none⟩ (.int .i64 3)) (w.heap.size + 3) B5 { S with status := 3 } (.slice (some ⟨fb, 0, none⟩) NF cap) ev av) := ho1
      have HB5 : Hid (Below (w.heap.size + 3) W0 (W4.setCell ⟨B5, 0, none⟩ (.int .i64 3))) := HB4.out.trans hbo1
      clear qf ho1 hbo1
      have r5 := HO1.out.cells
      have r4 : (W4.setCell ⟨B5, 0, none⟩ (.int .i64 3)).heap[w.heap.size + 1 + 1]? = some (.cells zeroStCells 29 (0, 0)) := (HB5.out.block _ (by omega)).trans R4.out
      obtain ⟨csF, ecsF, hsiF, holdF, honeF⟩ := HO1.out.at.val.cells
      have HCF : Hid (csF = _) := (Value.agg.inj ecsF).symm
      rw [← HCF.out] at r5
      clear ecsF
      go_upto_region 12 with fail
      go_wp2_with (refine wpList_load_row rfl _ _ rfl _ rfl _ _ _ _ r5 Tryd.underlying29 rfl hsiF ?_; simp only [Act.put, List.setIfInBounds_toArray, List.set_cons_zero, List.set_cons_succ]; refine wpList_store_row rfl _ _ _ rfl _ _ rfl rfl _ _ r4 hsiF holdF honeF ?_; rename_i KK hKK; refine hKK _ _ (wp_ret ?_); change bodyPost Tryd.prog Tryd.f66 (fun e w' => StepdPost P S w e w') .ret _ _; refine bodyPost_ret (results_cell_row rfl _ _ (w.heap.size + 1 + 1) 29 _ (0, 0) _ rfl (setRow_heap _ _ _ _ _ _ r4) Tryd.underlying29 rfl hsiF) rfl ⟨_, rfl, ?_, below_setRow (HB5.out.mono (by omega) |> HW0.out.trans) (by omega) r4 _⟩; rw [HSX.out]; have hat := (HO1.out.at.setRow (r := w.heap.size + 1 + 1) (by omega) csF).mono (show w.heap.size ≤ w.heap.size + 3 by omega); rw [← HCF.out] at hat; exact hat)
    by_cases hout : (xo = 13 ∨ xo = 14) ∧ ¬ (0 ≤ va ∧ va ≤ 15)
    · have hiB : inB va 0 15 = false := by unfold inB; rw [decide_eq_false_iff_not]; exact hout.2
      have HSX : Hid (stepS P S = { S with status := 4 }) := by
        show _ = _
        have e : barredI ⟨xo, kd, ka, kb, xi⟩ va vb = 4 := by
          unfold barredI
          dsimp only
          rw [if_neg (by rcases hout.1 with h | h <;> omega), if_pos hout.1, if_pos (by have := hout.2; omega)]
        rw [HSN.out, e]; rfl
      obtain ⟨ho1, hbo1⟩ := HO4.out.put 0 (.int .i64 4) { S with status := 4 } rfl HO4.out.mem rfl rfl rfl
      have HO1 : Hid (OutAt (W4.setCell ⟨B5, 0, none⟩ (.int .i64 4)) (w.heap.size + 3) B5 { S with status := 4 } (.slice (some ⟨fb, 0, none⟩) NF cap) ev av) := ho1
      have HB5 : Hid (Below (w.heap.size + 3) W0 (W4.setCell ⟨B5, 0, none⟩ (.int .i64 4))) := HB4.out.trans hbo1
      clear qf ho1 hbo1
      rcases hout.1 with rfl | rfl
      · clear hout
        have r5 := HO1.out.cells
        have r4 : (W4.setCell ⟨B5, 0, none⟩ (.int .i64 4)).heap[w.heap.size + 1 + 1]? = some (.cells zeroStCells 29 (0, 0)) := (HB5.out.block _ (by omega)).trans R4.out
        obtain ⟨csF, ecsF, hsiF, holdF, honeF⟩ := HO1.out.at.val.cells
        have HCF : Hid (csF = _) := (Value.agg.inj ecsF).symm
        rw [← HCF.out] at r5
        clear ecsF
        go_upto_region 15 with (go_at_call 48; refine (in_any _ _ _ _).mono ?_; rintro e w' ⟨rfl, hw'⟩; replace hw' := hw'.symm; subst hw')
        go_wp2_with (refine wpList_load_row rfl _ _ rfl _ rfl _ _ _ _ r5 Tryd.underlying29 rfl hsiF ?_; simp only [Act.put, List.setIfInBounds_toArray, List.set_cons_zero, List.set_cons_succ]; refine wpList_store_row rfl _ _ _ rfl _ _ rfl rfl _ _ r4 hsiF holdF honeF ?_; rename_i KK hKK; refine hKK _ _ (wp_ret ?_); change bodyPost Tryd.prog Tryd.f66 (fun e w' => StepdPost P S w e w') .ret _ _; refine bodyPost_ret (results_cell_row rfl _ _ (w.heap.size + 1 + 1) 29 _ (0, 0) _ rfl (setRow_heap _ _ _ _ _ _ r4) Tryd.underlying29 rfl hsiF) rfl ⟨_, rfl, ?_, below_setRow (HB5.out.mono (by omega) |> HW0.out.trans) (by omega) r4 _⟩; rw [HSX.out]; have hat := (HO1.out.at.setRow (r := w.heap.size + 1 + 1) (by omega) csF).mono (show w.heap.size ≤ w.heap.size + 3 by omega); rw [← HCF.out] at hat; exact hat)
      · clear hout
        have r5 := HO1.out.cells
        have r4 : (W4.setCell ⟨B5, 0, none⟩ (.int .i64 4)).heap[w.heap.size + 1 + 1]? = some (.cells zeroStCells 29 (0, 0)) := (HB5.out.block _ (by omega)).trans R4.out
        obtain ⟨csF, ecsF, hsiF, holdF, honeF⟩ := HO1.out.at.val.cells
        have HCF : Hid (csF = _) := (Value.agg.inj ecsF).symm
        rw [← HCF.out] at r5
        clear ecsF
        go_upto_region 15 with (go_at_call 48; refine (in_any _ _ _ _).mono ?_; rintro e w' ⟨rfl, hw'⟩; replace hw' := hw'.symm; subst hw')
        go_wp2_with (refine wpList_load_row rfl _ _ rfl _ rfl _ _ _ _ r5 Tryd.underlying29 rfl hsiF ?_; simp only [Act.put, List.setIfInBounds_toArray, List.set_cons_zero, List.set_cons_succ]; refine wpList_store_row rfl _ _ _ rfl _ _ rfl rfl _ _ r4 hsiF holdF honeF ?_; rename_i KK hKK; refine hKK _ _ (wp_ret ?_); change bodyPost Tryd.prog Tryd.f66 (fun e w' => StepdPost P S w e w') .ret _ _; refine bodyPost_ret (results_cell_row rfl _ _ (w.heap.size + 1 + 1) 29 _ (0, 0) _ rfl (setRow_heap _ _ _ _ _ _ r4) Tryd.underlying29 rfl hsiF) rfl ⟨_, rfl, ?_, below_setRow (HB5.out.mono (by omega) |> HW0.out.trans) (by omega) r4 _⟩; rw [HSX.out]; have hat := (HO1.out.at.setRow (r := w.heap.size + 1 + 1) (by omega) csF).mono (show w.heap.size ≤ w.heap.size + 3 by omega); rw [← HCF.out] at hat; exact hat)
    obtain ⟨FU, hFU⟩ : ∃ FU, FU = S.fuel - 1 := ⟨_, rfl⟩
    have hwf : IntKind.i64.wrap (S.fuel - 1) = FU := by rw [hFU]; exact wrap_fits _ (by have h1 := HOK.out.fuel0; have h2 := HFE.out; omega) (by have := HOK.out.fuel1; omega)
    obtain ⟨S1, hS1⟩ : ∃ S1 : St, S1 = { S with fuel := FU } := ⟨_, rfl⟩
    have HSD : Hid (stepS P S = doS P S1 fs f ⟨xo, kd, ka, kb, xi⟩) := by
      show _ = _
      have e : barredI ⟨xo, kd, ka, kb, xi⟩ va vb = 0 := by
        unfold barredI
        dsimp only
        by_cases h5 : xo = 5
        · rw [if_pos h5, if_neg (fun h => hdz ⟨h5, h⟩)]
        · rw [if_neg h5]
          by_cases h13 : xo = 13 ∨ xo = 14
          · rw [if_pos h13, if_neg (fun h => hout ⟨h13, by omega⟩)]
          · rw [if_neg h13]
      rw [HSN.out, e, if_pos rfl, hS1, hFU]
      have hr := HOK.out.run
      congr 1
      cases S
      simp at hr ⊢
      exact hr.symm
    obtain ⟨ho5, hbo5⟩ := HO4.out.put 19 (.int .i64 FU) S1 (by rw [hS1]; exact stC_fuel _ _ _ HO4.out.mem FU) (by rw [hS1]; exact HO4.out.mem) (by rw [hS1]) (by rw [hS1]) (by rw [hS1])
    have HO5 : Hid (OutAt (W4.setCell ⟨B5, 19, none⟩ (.int .i64 FU)) (w.heap.size + 3) B5 S1 (.slice (some ⟨fb, 0, none⟩) NF cap) ev av) := ho5
    have HB5 : Hid (Below (w.heap.size + 3) W0 (W4.setCell ⟨B5, 19, none⟩ (.int .i64 FU))) := HB4.out.trans hbo5
    have HR5 : Hid ((W4.setCell ⟨B5, 19, none⟩ (.int .i64 FU)).heap[X]? = some (.cells #[.int .i64 xo, .int .i64 (kd : Int), .int .i64 (ka : Int), .int .i64 (kb : Int), .int .i64 xi] 61 (0, 0))) := by
      show _ = _
      rw [heap_setCell_other _ _ _ _ (fun e => by
        have h1 := HR4.out
        have h2 := HO4.out.cells
        have e' : X = B5 := e
        rw [e', h2] at h1
        simp at h1)]
      exact HR4.out
    have HE1 : Hid (S1.frames = fs ++ [f] ∧ S1.mem = S.mem ∧ S1.events = S.events ∧ S1.answers = S.answers ∧ S1.mem.length = 16) := by rw [hS1]; exact ⟨HOK.out.frs, rfl, rfl, rfl, HO4.out.mem⟩
    have HNO : Hid (¬ (xo = 5 ∧ vb = 0) ∧ ¬ ((xo = 13 ∨ xo = 14) ∧ ¬ (0 ≤ va ∧ va ≤ 15))) := ⟨hdz, hout⟩
    clear ho5 hbo5 qf qf0 q0 HSN hS1 hFU hdz hout
    by_cases h5 : xo = 5
    · subst h5
      have hvb : (vb == 0) = false := by have h := HNO.out.1; simpa using h
      obtain ⟨mv, hmv⟩ : ∃ mv, mv = mk 5 va vb xi := ⟨_, rfl⟩
      have HSX : Hid (stepS P S = { S1 with frames := fs ++ [⟨f.fn, (jf : Int) + 1, f.regs.set kd mv⟩] }) := by
        show _ = _
        rw [HSD.out]
        unfold doS
        dsimp only
        rw [if_neg (by omega), if_neg (by omega), if_neg (by omega), if_neg (by omega), if_neg (by omega), if_neg (by omega), if_neg (by omega), HVA.out.1, HVA.out.2, ← hmv]
        unfold putF
        rw [HFP.out.2]
        rfl
      have hMD := fun W => rmade_any 5 va vb xi W HFA.out.1 HFA.out.2
      rw [← hmv] at hMD
      generalize mkE 5 vb = me at hMD
      clear hmv
      go_upto_region 17 with (go_at_call 48; refine (in_any _ _ _ _).mono ?_; rintro e w' ⟨rfl, hw'⟩; replace hw' := hw'.symm; subst hw')
      generalize W4.setCell ⟨B5, 19, none⟩ (.int .i64 FU) = W5 at *
      clear x0 kp s2 s19 s21 q19 qf19 hwf HR4 HO4 HB4
      have x0 : W5.cell? ⟨X, 0, none⟩ = some (.int .i64 5) := by rw [cell_of_row _ _ _ _ _ _ HR5.out]; rfl
      have x1 : W5.cell? ⟨X, 1, none⟩ = some (.int .i64 (kd : Int)) := by rw [cell_of_row _ _ _ _ _ _ HR5.out]; rfl
      have x4 : W5.cell? ⟨X, 4, none⟩ = some (.int .i64 xi) := by rw [cell_of_row _ _ _ _ _ _ HR5.out]; rfl
      obtain ⟨-, -, -, lf, lp, lr, -⟩ := HO5.out.lastCells HE1.out.1
      rw [← HTP.out] at lf lp lr
      try dsimp only at lf lp
      rw [HFP.out.2] at lp
      have lfz := HO5.out.free (tp * 14 + 1)
      go_upto_region 19 with (first
        | (go_at_call 48; refine (in_any _ _ _ _).mono ?_; rintro e w' ⟨rfl, hw'⟩; replace hw' := hw'.symm; subst hw')
        | (go_at_call 104; refine (hMD _).mono ?_; rintro e w6 ⟨rfl, hb6⟩))
      have HO6 : Hid (OutAt w6 (w.heap.size + 3) B5 S1 (.slice (some ⟨fb, 0, none⟩) NF cap) ev av) := HO5.out.below hb6
      have HB6 : Hid (Below (w.heap.size + 3) W0 w6) := HB5.out.trans (hb6.mono (by have := HO5.out.base; omega))
      have HR6 : Hid (w6.heap[X]? = some (.cells #[.int .i64 5, .int .i64 (kd : Int), .int .i64 (ka : Int), .int .i64 (kb : Int), .int .i64 xi] 61 (0, 0))) := (hb6.block _ (lt_of_block HR5.out)).trans HR5.out
      clear hMD hb6 x0 x1 x4 lf lp lr lfz
      have x0 : w6.cell? ⟨X, 0, none⟩ = some (.int .i64 5) := by rw [cell_of_row _ _ _ _ _ _ HR6.out]; rfl
      have x1 : w6.cell? ⟨X, 1, none⟩ = some (.int .i64 (kd : Int)) := by rw [cell_of_row _ _ _ _ _ _ HR6.out]; rfl
      have x4 : w6.cell? ⟨X, 4, none⟩ = some (.int .i64 xi) := by rw [cell_of_row _ _ _ _ _ _ HR6.out]; rfl
      obtain ⟨-, -, -, lf, lp, lr, -⟩ := HO6.out.lastCells HE1.out.1
      rw [← HTP.out] at lf lp lr
      try dsimp only at lf lp
      rw [HFP.out.2] at lp
      have lfz := HO6.out.free (tp * 14 + 1)
      have rd := lr kd (by omega)
      have rdz := HO6.out.free (tp * 14 + 2 + kd)
      have hd := HO6.out.below ((Below.refl w6.heap.size w6).drew)
      obtain ⟨hoR, hboR⟩ := hd.reg HE1.out.1 kd mv
      have HOR7 : Hid (OutAt (w6.drew.setCell ⟨fb, tp * 14 + 2 + kd, none⟩ (.int .i64 mv)) (w.heap.size + 3) B5 { S1 with frames := fs ++ [⟨f.fn, f.pc, f.regs.set kd mv⟩] } (.slice (some ⟨fb, 0, none⟩) NF cap) ev av) := by rw [HTP.out]; exact hoR
      have HBR7 : Hid (Below (w.heap.size + 3) W0 (w6.drew.setCell ⟨fb, tp * 14 + 2 + kd, none⟩ (.int .i64 mv))) := by rw [HTP.out]; exact HB6.out.drew.trans hboR
      have HRR7 : Hid ((w6.drew.setCell ⟨fb, tp * 14 + 2 + kd, none⟩ (.int .i64 mv)).heap[X]? = w6.heap[X]?) := by
        show _ = _
        exact heap_setCell_other _ _ _ _ (fun e => by
          have h1 := HR6.out
          obtain ⟨cur, hcur⟩ : ∃ cur, w6.heap[fb]? = some (.cells cur 55 (0, 0)) := (by obtain ⟨-, -, -, -, -, -, cur, hcur, -⟩ := HO6.out.lastCells HE1.out.1; exact ⟨cur, hcur⟩)
          have e2 : X = fb := e
          rw [e2, hcur] at h1
          simp at h1)
      clear hoR hboR hd
      refine wp_region_last (S := fun W => Below w6.heap.size w6 W) _ 7 (by kernel_rfl) (by kernel_rfl) rfl ((Below.refl _ _).drew) (fun hHeld => ?_)
      simp only [List.pop_toArray, List.dropLast]
      refine wpAnyH_take (i := 0) (v := ?_) rfl (by kernel_rfl) (by kernel_rfl) (by kernel_rfl) (fun _ _ _ h => h) (Or.inl ⟨by rfl, ?_⟩) (by assumption) ?_
      rotate_left
      · (intro W hSW; go_simp; try (with_reducible rfl))
      (try simp only [Act.put, List.setIfInBounds_toArray])
      refine wpAnyH_take (i := 1) (v := ?_) rfl (by kernel_rfl) (by kernel_rfl) (by kernel_rfl) (fun _ _ _ h => h) (Or.inl ⟨by rfl, ?_⟩) (by assumption) ?_
      rotate_left
      · (intro W hSW; go_simp; try (with_reducible rfl))
      (try simp only [Act.put])
      refine wpAnyH_take (i := 2) (v := ?_) rfl (by kernel_rfl) (by kernel_rfl) (by kernel_rfl) (fun _ _ _ h => h) (Or.inl ⟨by rfl, ?_⟩) (by assumption) ?_
      rotate_left
      · (intro W hSW; have z0 := keeps_below hSW _ _ x1; go_simp; try (with_reducible rfl))
      (try simp only [Act.put])
      refine wpAnyH_take (i := 3) (v := ?_) rfl (by kernel_rfl) (by kernel_rfl) (by kernel_rfl) (fun _ _ _ h => h) (Or.inl ⟨by rfl, ?_⟩) (by assumption) ?_
      rotate_left
      · (intro W hSW; go_simp; try (with_reducible rfl))
      (try simp only [Act.put])
      refine wpAnyH_take (i := 4) (v := ?_) rfl (by kernel_rfl) (by kernel_rfl) (by kernel_rfl) (fun _ _ _ h => h) (Or.inl ⟨by rfl, ?_⟩) (by assumption) ?_
      rotate_left
      · (intro W hSW; go_simp; try (with_reducible rfl))
      (try simp only [Act.put])
      refine wpAnyH_take (i := 5) (v := ?_) rfl (by kernel_rfl) (by kernel_rfl) (by kernel_rfl) (fun _ _ _ h => h) (Or.inl ⟨by rfl, ?_⟩) (by assumption) ?_
      rotate_left
      · (intro W hSW; go_simp; try (with_reducible rfl))
      (try simp only [Act.put])
      refine wpAnyH_take (i := 6) (v := ?_) rfl (by kernel_rfl) (by kernel_rfl) (by kernel_rfl) (fun _ _ _ h => h) (Or.inl ⟨by rfl, ?_⟩) (by assumption) ?_
      rotate_left
      · (intro W hSW; go_simp; try (with_reducible rfl))
      (try simp only [Act.put])
      refine wpAnyH_done (by kernel_rfl) ?_ _
      refine Or.inl ?_
      have hcD : w6.drew.cell? ⟨fb, tp * 14 + 2 + kd, none⟩ = some (.int .i64 _) := rd
      have hfD : w6.drew.frozen? ⟨fb, tp * 14 + 2 + kd, none⟩ = false := rdz
      clear hHeld
      go_simp
      go_upto_region 20 with fail
      rw [show (w6.setCell ⟨fb, tp * 14 + 2 + kd, none⟩ (.int .i64 mv)).drew = w6.drew.setCell ⟨fb, tp * 14 + 2 + kd, none⟩ (.int .i64 mv) from rfl]
      have HRN7 : Hid ((w6.drew.setCell ⟨fb, tp * 14 + 2 + kd, none⟩ (.int .i64 mv)).heap[X]? = some (.cells #[.int .i64 5, .int .i64 (kd : Int), .int .i64 (ka : Int), .int .i64 (kb : Int), .int .i64 xi] 61 (0, 0))) := HRR7.out.trans HR6.out
      clear hcD hfD rd rdz HRR7
      generalize w6.drew.setCell ⟨fb, tp * 14 + 2 + kd, none⟩ (.int .i64 mv) = W7 at *
      clear x0 x1 x4 lf lp lr lfz
      obtain ⟨-, -, -, lf, lp, lr, -⟩ := HOR7.out.lastCells rfl
      rw [← HTP.out] at lf lp lr
      try dsimp only at lf lp
      rw [HFP.out.2] at lp
      have lfz := HOR7.out.free (tp * 14 + 1)
      obtain ⟨hoG, hboG⟩ := HOR7.out.goes rfl ((jf : Int) + 1)
      have HOG8 : Hid (OutAt (W7.setCell ⟨fb, tp * 14 + 1, none⟩ (.int .i64 ((jf : Int) + 1))) (w.heap.size + 3) B5 { S1 with frames := fs ++ [⟨f.fn, (jf : Int) + 1, f.regs.set kd mv⟩] } (.slice (some ⟨fb, 0, none⟩) NF cap) ev av) := by rw [HTP.out]; exact hoG
      have HBG8 : Hid (Below (w.heap.size + 3) W0 (W7.setCell ⟨fb, tp * 14 + 1, none⟩ (.int .i64 ((jf : Int) + 1)))) := by rw [HTP.out]; exact HBR7.out.trans hboG
      clear hoG hboG
      have r5 := HOG8.out.cells
      have r4 : (W7.setCell ⟨fb, tp * 14 + 1, none⟩ (.int .i64 ((jf : Int) + 1))).heap[w.heap.size + 1 + 1]? = some (.cells zeroStCells 29 (0, 0)) := (HBG8.out.block _ (by omega)).trans R4.out
      obtain ⟨csF, ecsF, hsiF, holdF, honeF⟩ := HOG8.out.at.val.cells
      have HCF : Hid (csF = _) := (Value.agg.inj ecsF).symm
      rw [← HCF.out] at r5
      clear ecsF
      go_upto_region 21 with fail
      go_wp2_with (refine wpList_load_row rfl _ _ rfl _ rfl _ _ _ _ r5 Tryd.underlying29 rfl hsiF ?_; simp only [Act.put, List.setIfInBounds_toArray, List.set_cons_zero, List.set_cons_succ]; refine wpList_store_row rfl _ _ _ rfl _ _ rfl rfl _ _ r4 hsiF holdF honeF ?_; rename_i KK hKK; refine hKK _ _ (wp_ret ?_); change bodyPost Tryd.prog Tryd.f66 (fun e w' => StepdPost P S w e w') .ret _ _; refine bodyPost_ret (results_cell_row rfl _ _ (w.heap.size + 1 + 1) 29 _ (0, 0) _ rfl (setRow_heap _ _ _ _ _ _ r4) Tryd.underlying29 rfl hsiF) rfl ⟨_, rfl, ?_, below_setRow (HBG8.out.mono (by omega) |> HW0.out.trans) (by omega) r4 _⟩; rw [HSX.out]; have hat := (HOG8.out.at.setRow (r := w.heap.size + 1 + 1) (by omega) csF).mono (show w.heap.size ≤ w.heap.size + 3 by omega); rw [← HCF.out] at hat; exact hat)
    by_cases h12 : xo ≤ 12
    · have e5 : (xo == 5) = false := by simpa using h5
      have e13 : (xo == 13) = false := by rw [beq_eq_false_iff_ne]; omega
      have e14 : (xo == 14) = false := by rw [beq_eq_false_iff_ne]; omega
      have hi12 : inB xo 1 12 = true := by unfold inB; rw [decide_eq_true_eq]; omega
      obtain ⟨mv, hmv⟩ : ∃ mv, mv = mk xo va vb xi := ⟨_, rfl⟩
      have HSX : Hid (stepS P S = { S1 with frames := fs ++ [⟨f.fn, (jf : Int) + 1, f.regs.set kd mv⟩] }) := by
        show _ = _
        rw [HSD.out]
        unfold doS
        dsimp only
        rw [if_neg (by omega), if_neg (by omega), if_neg (by omega), if_neg (by omega), if_neg (by omega), if_neg (by omega), if_neg (by omega), HVA.out.1, HVA.out.2, ← hmv]
        unfold putF
        rw [HFP.out.2]
        rfl
      have hMD := fun W => rmade_any xo va vb xi W HFA.out.1 HFA.out.2
      rw [← hmv] at hMD
      generalize mkE xo vb = me at hMD
      clear hmv
      go_upto_region 17 with (go_at_call 48; refine (in_any _ _ _ _).mono ?_; rintro e w' ⟨rfl, hw'⟩; replace hw' := hw'.symm; subst hw')
      generalize W4.setCell ⟨B5, 19, none⟩ (.int .i64 FU) = W5 at *
      clear x0 kp s2 s19 s21 q19 qf19 hwf HR4 HO4 HB4
      have x0 : W5.cell? ⟨X, 0, none⟩ = some (.int .i64 xo) := by rw [cell_of_row _ _ _ _ _ _ HR5.out]; rfl
      have x1 : W5.cell? ⟨X, 1, none⟩ = some (.int .i64 (kd : Int)) := by rw [cell_of_row _ _ _ _ _ _ HR5.out]; rfl
      have x4 : W5.cell? ⟨X, 4, none⟩ = some (.int .i64 xi) := by rw [cell_of_row _ _ _ _ _ _ HR5.out]; rfl
      obtain ⟨-, -, -, lf, lp, lr, -⟩ := HO5.out.lastCells HE1.out.1
      rw [← HTP.out] at lf lp lr
      try dsimp only at lf lp
      rw [HFP.out.2] at lp
      have lfz := HO5.out.free (tp * 14 + 1)
      go_upto_region 19 with (first
        | (go_at_call 48; refine (in_any _ _ _ _).mono ?_; rintro e w' ⟨rfl, hw'⟩; replace hw' := hw'.symm; subst hw')
        | (go_at_call 104; refine (hMD _).mono ?_; rintro e w6 ⟨rfl, hb6⟩))
      have HO6 : Hid (OutAt w6 (w.heap.size + 3) B5 S1 (.slice (some ⟨fb, 0, none⟩) NF cap) ev av) := HO5.out.below hb6
      have HB6 : Hid (Below (w.heap.size + 3) W0 w6) := HB5.out.trans (hb6.mono (by have := HO5.out.base; omega))
      have HR6 : Hid (w6.heap[X]? = some (.cells #[.int .i64 xo, .int .i64 (kd : Int), .int .i64 (ka : Int), .int .i64 (kb : Int), .int .i64 xi] 61 (0, 0))) := (hb6.block _ (lt_of_block HR5.out)).trans HR5.out
      clear hMD hb6 x0 x1 x4 lf lp lr lfz
      have x0 : w6.cell? ⟨X, 0, none⟩ = some (.int .i64 xo) := by rw [cell_of_row _ _ _ _ _ _ HR6.out]; rfl
      have x1 : w6.cell? ⟨X, 1, none⟩ = some (.int .i64 (kd : Int)) := by rw [cell_of_row _ _ _ _ _ _ HR6.out]; rfl
      have x4 : w6.cell? ⟨X, 4, none⟩ = some (.int .i64 xi) := by rw [cell_of_row _ _ _ _ _ _ HR6.out]; rfl
      obtain ⟨-, -, -, lf, lp, lr, -⟩ := HO6.out.lastCells HE1.out.1
      rw [← HTP.out] at lf lp lr
      try dsimp only at lf lp
      rw [HFP.out.2] at lp
      have lfz := HO6.out.free (tp * 14 + 1)
      have rd := lr kd (by omega)
      have rdz := HO6.out.free (tp * 14 + 2 + kd)
      have hd := HO6.out.below ((Below.refl w6.heap.size w6).drew)
      obtain ⟨hoR, hboR⟩ := hd.reg HE1.out.1 kd mv
      have HOR7 : Hid (OutAt (w6.drew.setCell ⟨fb, tp * 14 + 2 + kd, none⟩ (.int .i64 mv)) (w.heap.size + 3) B5 { S1 with frames := fs ++ [⟨f.fn, f.pc, f.regs.set kd mv⟩] } (.slice (some ⟨fb, 0, none⟩) NF cap) ev av) := by rw [HTP.out]; exact hoR
      have HBR7 : Hid (Below (w.heap.size + 3) W0 (w6.drew.setCell ⟨fb, tp * 14 + 2 + kd, none⟩ (.int .i64 mv))) := by rw [HTP.out]; exact HB6.out.drew.trans hboR
      have HRR7 : Hid ((w6.drew.setCell ⟨fb, tp * 14 + 2 + kd, none⟩ (.int .i64 mv)).heap[X]? = w6.heap[X]?) := by
        show _ = _
        exact heap_setCell_other _ _ _ _ (fun e => by
          have h1 := HR6.out
          obtain ⟨cur, hcur⟩ : ∃ cur, w6.heap[fb]? = some (.cells cur 55 (0, 0)) := (by obtain ⟨-, -, -, -, -, -, cur, hcur, -⟩ := HO6.out.lastCells HE1.out.1; exact ⟨cur, hcur⟩)
          have e2 : X = fb := e
          rw [e2, hcur] at h1
          simp at h1)
      clear hoR hboR hd
      refine wp_region_last (S := fun W => Below w6.heap.size w6 W) _ 7 (by kernel_rfl) (by kernel_rfl) rfl ((Below.refl _ _).drew) (fun hHeld => ?_)
      simp only [List.pop_toArray, List.dropLast]
      refine wpAnyH_take (i := 0) (v := ?_) rfl (by kernel_rfl) (by kernel_rfl) (by kernel_rfl) (fun _ _ _ h => h) (Or.inl ⟨by rfl, ?_⟩) (by assumption) ?_
      rotate_left
      · (intro W hSW; go_simp; try (with_reducible rfl))
      (try simp only [Act.put, List.setIfInBounds_toArray])
      refine wpAnyH_take (i := 1) (v := ?_) rfl (by kernel_rfl) (by kernel_rfl) (by kernel_rfl) (fun _ _ _ h => h) (Or.inl ⟨by rfl, ?_⟩) (by assumption) ?_
      rotate_left
      · (intro W hSW; go_simp; try (with_reducible rfl))
      (try simp only [Act.put])
      refine wpAnyH_take (i := 2) (v := ?_) rfl (by kernel_rfl) (by kernel_rfl) (by kernel_rfl) (fun _ _ _ h => h) (Or.inl ⟨by rfl, ?_⟩) (by assumption) ?_
      rotate_left
      · (intro W hSW; have z0 := keeps_below hSW _ _ x1; go_simp; try (with_reducible rfl))
      (try simp only [Act.put])
      refine wpAnyH_take (i := 3) (v := ?_) rfl (by kernel_rfl) (by kernel_rfl) (by kernel_rfl) (fun _ _ _ h => h) (Or.inl ⟨by rfl, ?_⟩) (by assumption) ?_
      rotate_left
      · (intro W hSW; go_simp; try (with_reducible rfl))
      (try simp only [Act.put])
      refine wpAnyH_take (i := 4) (v := ?_) rfl (by kernel_rfl) (by kernel_rfl) (by kernel_rfl) (fun _ _ _ h => h) (Or.inl ⟨by rfl, ?_⟩) (by assumption) ?_
      rotate_left
      · (intro W hSW; go_simp; try (with_reducible rfl))
      (try simp only [Act.put])
      refine wpAnyH_take (i := 5) (v := ?_) rfl (by kernel_rfl) (by kernel_rfl) (by kernel_rfl) (fun _ _ _ h => h) (Or.inl ⟨by rfl, ?_⟩) (by assumption) ?_
      rotate_left
      · (intro W hSW; go_simp; try (with_reducible rfl))
      (try simp only [Act.put])
      refine wpAnyH_take (i := 6) (v := ?_) rfl (by kernel_rfl) (by kernel_rfl) (by kernel_rfl) (fun _ _ _ h => h) (Or.inl ⟨by rfl, ?_⟩) (by assumption) ?_
      rotate_left
      · (intro W hSW; go_simp; try (with_reducible rfl))
      (try simp only [Act.put])
      refine wpAnyH_done (by kernel_rfl) ?_ _
      refine Or.inl ?_
      have hcD : w6.drew.cell? ⟨fb, tp * 14 + 2 + kd, none⟩ = some (.int .i64 _) := rd
      have hfD : w6.drew.frozen? ⟨fb, tp * 14 + 2 + kd, none⟩ = false := rdz
      clear hHeld
      go_simp
      go_upto_region 20 with fail
      rw [show (w6.setCell ⟨fb, tp * 14 + 2 + kd, none⟩ (.int .i64 mv)).drew = w6.drew.setCell ⟨fb, tp * 14 + 2 + kd, none⟩ (.int .i64 mv) from rfl]
      have HRN7 : Hid ((w6.drew.setCell ⟨fb, tp * 14 + 2 + kd, none⟩ (.int .i64 mv)).heap[X]? = some (.cells #[.int .i64 xo, .int .i64 (kd : Int), .int .i64 (ka : Int), .int .i64 (kb : Int), .int .i64 xi] 61 (0, 0))) := HRR7.out.trans HR6.out
      clear hcD hfD rd rdz HRR7
      generalize w6.drew.setCell ⟨fb, tp * 14 + 2 + kd, none⟩ (.int .i64 mv) = W7 at *
      clear x0 x1 x4 lf lp lr lfz
      obtain ⟨-, -, -, lf, lp, lr, -⟩ := HOR7.out.lastCells rfl
      rw [← HTP.out] at lf lp lr
      try dsimp only at lf lp
      rw [HFP.out.2] at lp
      have lfz := HOR7.out.free (tp * 14 + 1)
      obtain ⟨hoG, hboG⟩ := HOR7.out.goes rfl ((jf : Int) + 1)
      have HOG8 : Hid (OutAt (W7.setCell ⟨fb, tp * 14 + 1, none⟩ (.int .i64 ((jf : Int) + 1))) (w.heap.size + 3) B5 { S1 with frames := fs ++ [⟨f.fn, (jf : Int) + 1, f.regs.set kd mv⟩] } (.slice (some ⟨fb, 0, none⟩) NF cap) ev av) := by rw [HTP.out]; exact hoG
      have HBG8 : Hid (Below (w.heap.size + 3) W0 (W7.setCell ⟨fb, tp * 14 + 1, none⟩ (.int .i64 ((jf : Int) + 1)))) := by rw [HTP.out]; exact HBR7.out.trans hboG
      clear hoG hboG
      have r5 := HOG8.out.cells
      have r4 : (W7.setCell ⟨fb, tp * 14 + 1, none⟩ (.int .i64 ((jf : Int) + 1))).heap[w.heap.size + 1 + 1]? = some (.cells zeroStCells 29 (0, 0)) := (HBG8.out.block _ (by omega)).trans R4.out
      obtain ⟨csF, ecsF, hsiF, holdF, honeF⟩ := HOG8.out.at.val.cells
      have HCF : Hid (csF = _) := (Value.agg.inj ecsF).symm
      rw [← HCF.out] at r5
      clear ecsF
      go_upto_region 21 with fail
      go_wp2_with (refine wpList_load_row rfl _ _ rfl _ rfl _ _ _ _ r5 Tryd.underlying29 rfl hsiF ?_; simp only [Act.put, List.setIfInBounds_toArray, List.set_cons_zero, List.set_cons_succ]; refine wpList_store_row rfl _ _ _ rfl _ _ rfl rfl _ _ r4 hsiF holdF honeF ?_; rename_i KK hKK; refine hKK _ _ (wp_ret ?_); change bodyPost Tryd.prog Tryd.f66 (fun e w' => StepdPost P S w e w') .ret _ _; refine bodyPost_ret (results_cell_row rfl _ _ (w.heap.size + 1 + 1) 29 _ (0, 0) _ rfl (setRow_heap _ _ _ _ _ _ r4) Tryd.underlying29 rfl hsiF) rfl ⟨_, rfl, ?_, below_setRow (HBG8.out.mono (by omega) |> HW0.out.trans) (by omega) r4 _⟩; rw [HSX.out]; have hat := (HOG8.out.at.setRow (r := w.heap.size + 1 + 1) (by omega) csF).mono (show w.heap.size ≤ w.heap.size + 3 by omega); rw [← HCF.out] at hat; exact hat)
    by_cases ho13 : xo = 13
    · subst ho13
      have hv015 : 0 ≤ va ∧ va ≤ 15 := by have h := HNO.out.2; omega
      obtain ⟨vn, hvn⟩ := Int.eq_ofNat_of_zero_le hv015.1
      have hvI : (vn : Int) < 16 := by omega
      have hiB : inB va 0 15 = true := by unfold inB; rw [decide_eq_true_eq]; exact hv015
      rw [hvn] at hiB
      have HSX : Hid (stepS P S = { S1 with frames := fs ++ [⟨f.fn, (jf : Int) + 1, f.regs.set kd (S.mem.getD vn 0)⟩] }) := by
        show _ = _
        rw [HSD.out]
        unfold doS
        dsimp only
        rw [if_pos rfl, HVA.out.1, hvn, HE1.out.2.1]
        unfold putF
        rw [HFP.out.2]
        rfl
      rw [hvn] at HVA
      subst hvn
      clear hv015
      go_upto_region 17 with (go_at_call 48; refine (in_any _ _ _ _).mono ?_; rintro e w' ⟨rfl, hw'⟩; replace hw' := hw'.symm; subst hw')
      generalize W4.setCell ⟨B5, 19, none⟩ (.int .i64 FU) = W5 at *
      clear x0 kp s2 s19 s21 q19 qf19 hwf HR4 HO4 HB4
      have x0 : W5.cell? ⟨X, 0, none⟩ = some (.int .i64 13) := by rw [cell_of_row _ _ _ _ _ _ HR5.out]; rfl
      have x1 : W5.cell? ⟨X, 1, none⟩ = some (.int .i64 (kd : Int)) := by rw [cell_of_row _ _ _ _ _ _ HR5.out]; rfl
      have x4 : W5.cell? ⟨X, 4, none⟩ = some (.int .i64 xi) := by rw [cell_of_row _ _ _ _ _ _ HR5.out]; rfl
      obtain ⟨-, -, -, lf, lp, lr, -⟩ := HO5.out.lastCells HE1.out.1
      rw [← HTP.out] at lf lp lr
      try dsimp only at lf lp
      rw [HFP.out.2] at lp
      have lfz := HO5.out.free (tp * 14 + 1)
      obtain ⟨-, -, -, -, smem, -⟩ := HBX.out W5 HB5.out
      have sm := smem vn (by omega)
      generalize S.mem.getD vn 0 = mv at *
      clear smem
      go_upto_region 24 with (go_at_call 48; refine (in_any _ _ _ _).mono ?_; rintro e w' ⟨rfl, hw'⟩; replace hw' := hw'.symm; subst hw')
      have rd := lr kd (by omega)
      have rdz := HO5.out.free (tp * 14 + 2 + kd)
      have hd := HO5.out.below ((Below.refl W5.heap.size W5).drew)
      obtain ⟨hoR, hboR⟩ := hd.reg HE1.out.1 kd mv
      have HOR7 : Hid (OutAt (W5.drew.setCell ⟨fb, tp * 14 + 2 + kd, none⟩ (.int .i64 mv)) (w.heap.size + 3) B5 { S1 with frames := fs ++ [⟨f.fn, f.pc, f.regs.set kd mv⟩] } (.slice (some ⟨fb, 0, none⟩) NF cap) ev av) := by rw [HTP.out]; exact hoR
      have HBR7 : Hid (Below (w.heap.size + 3) W0 (W5.drew.setCell ⟨fb, tp * 14 + 2 + kd, none⟩ (.int .i64 mv))) := by rw [HTP.out]; exact HB5.out.drew.trans hboR
      have HRR7 : Hid ((W5.drew.setCell ⟨fb, tp * 14 + 2 + kd, none⟩ (.int .i64 mv)).heap[X]? = W5.heap[X]?) := by
        show _ = _
        exact heap_setCell_other _ _ _ _ (fun e => by
          have h1 := HR5.out
          obtain ⟨cur, hcur⟩ : ∃ cur, W5.heap[fb]? = some (.cells cur 55 (0, 0)) := (by obtain ⟨-, -, -, -, -, -, cur, hcur, -⟩ := HO5.out.lastCells HE1.out.1; exact ⟨cur, hcur⟩)
          have e2 : X = fb := e
          rw [e2, hcur] at h1
          simp at h1)
      clear hoR hboR hd
      refine wp_region_last (S := fun W => Below W5.heap.size W5 W) _ 10 (by kernel_rfl) (by kernel_rfl) rfl ((Below.refl _ _).drew) (fun hHeld => ?_)
      simp only [List.pop_toArray, List.dropLast]
      refine wpAnyH_take (i := 0) (v := ?_) rfl (by kernel_rfl) (by kernel_rfl) (by kernel_rfl) (fun _ _ _ h => h) (Or.inl ⟨by rfl, ?_⟩) (by assumption) ?_
      rotate_left
      · (intro W hSW; go_simp; try (with_reducible rfl))
      (try simp only [Act.put, List.setIfInBounds_toArray])
      refine wpAnyH_take (i := 1) (v := ?_) rfl (by kernel_rfl) (by kernel_rfl) (by kernel_rfl) (fun _ _ _ h => h) (Or.inl ⟨by rfl, ?_⟩) (by assumption) ?_
      rotate_left
      · (intro W hSW; go_simp; try (with_reducible rfl))
      (try simp only [Act.put])
      refine wpAnyH_take (i := 2) (v := ?_) rfl (by kernel_rfl) (by kernel_rfl) (by kernel_rfl) (fun _ _ _ h => h) (Or.inl ⟨by rfl, ?_⟩) (by assumption) ?_
      rotate_left
      · (intro W hSW; have z0 := keeps_below hSW _ _ x1; go_simp; try (with_reducible rfl))
      (try simp only [Act.put])
      refine wpAnyH_take (i := 3) (v := ?_) rfl (by kernel_rfl) (by kernel_rfl) (by kernel_rfl) (fun _ _ _ h => h) (Or.inl ⟨by rfl, ?_⟩) (by assumption) ?_
      rotate_left
      · (intro W hSW; go_simp; try (with_reducible rfl))
      (try simp only [Act.put])
      refine wpAnyH_take (i := 4) (v := ?_) rfl (by kernel_rfl) (by kernel_rfl) (by kernel_rfl) (fun _ _ _ h => h) (Or.inl ⟨by rfl, ?_⟩) (by assumption) ?_
      rotate_left
      · (intro W hSW; go_simp; try (with_reducible rfl))
      (try simp only [Act.put])
      refine wpAnyH_take (i := 5) (v := ?_) rfl (by kernel_rfl) (by kernel_rfl) (by kernel_rfl) (fun _ _ _ h => h) (Or.inl ⟨by rfl, ?_⟩) (by assumption) ?_
      rotate_left
      · (intro W hSW; go_simp; try (with_reducible rfl))
      (try simp only [Act.put])
      refine wpAnyH_take (i := 6) (v := ?_) rfl (by kernel_rfl) (by kernel_rfl) (by kernel_rfl) (fun _ _ _ h => h) (Or.inl ⟨by rfl, ?_⟩) (by assumption) ?_
      rotate_left
      · (intro W hSW; have z0 := keeps_below hSW _ _ sm; go_simp; try (with_reducible rfl))
      (try simp only [Act.put])
      refine wpAnyH_take (i := 7) (v := ?_) rfl (by kernel_rfl) (by kernel_rfl) (by kernel_rfl) (fun _ _ _ h => h) (Or.inl ⟨by rfl, ?_⟩) (by assumption) ?_
      rotate_left
      · (intro W hSW; go_simp; try (with_reducible rfl))
      (try simp only [Act.put])
      refine wpAnyH_take (i := 8) (v := ?_) rfl (by kernel_rfl) (by kernel_rfl) (by kernel_rfl) (fun _ _ _ h => h) (Or.inl ⟨by rfl, ?_⟩) (by assumption) ?_
      rotate_left
      · (intro W hSW; go_simp; try (with_reducible rfl))
      (try simp only [Act.put])
      refine wpAnyH_take (i := 9) (v := ?_) rfl (by kernel_rfl) (by kernel_rfl) (by kernel_rfl) (fun _ _ _ h => h) (Or.inl ⟨by rfl, ?_⟩) (by assumption) ?_
      rotate_left
      · (intro W hSW; go_simp; try (with_reducible rfl))
      (try simp only [Act.put])
      refine wpAnyH_done (by kernel_rfl) ?_ _
      refine Or.inl ?_
      have hcD : W5.drew.cell? ⟨fb, tp * 14 + 2 + kd, none⟩ = some (.int .i64 _) := rd
      have hfD : W5.drew.frozen? ⟨fb, tp * 14 + 2 + kd, none⟩ = false := rdz
      clear hHeld
      go_simp
      go_upto_region 25 with fail
      rw [show (W5.setCell ⟨fb, tp * 14 + 2 + kd, none⟩ (.int .i64 mv)).drew = W5.drew.setCell ⟨fb, tp * 14 + 2 + kd, none⟩ (.int .i64 mv) from rfl]
      have HRN7 : Hid ((W5.drew.setCell ⟨fb, tp * 14 + 2 + kd, none⟩ (.int .i64 mv)).heap[X]? = some (.cells #[.int .i64 13, .int .i64 (kd : Int), .int .i64 (ka : Int), .int .i64 (kb : Int), .int .i64 xi] 61 (0, 0))) := HRR7.out.trans HR5.out
      clear hcD hfD rd rdz HRR7
      generalize W5.drew.setCell ⟨fb, tp * 14 + 2 + kd, none⟩ (.int .i64 mv) = W7 at *
      clear x0 x1 x4 lf lp lr lfz sm
      obtain ⟨-, -, -, lf, lp, lr, -⟩ := HOR7.out.lastCells rfl
      rw [← HTP.out] at lf lp lr
      try dsimp only at lf lp
      rw [HFP.out.2] at lp
      have lfz := HOR7.out.free (tp * 14 + 1)
      obtain ⟨hoG, hboG⟩ := HOR7.out.goes rfl ((jf : Int) + 1)
      have HOG8 : Hid (OutAt (W7.setCell ⟨fb, tp * 14 + 1, none⟩ (.int .i64 ((jf : Int) + 1))) (w.heap.size + 3) B5 { S1 with frames := fs ++ [⟨f.fn, (jf : Int) + 1, f.regs.set kd mv⟩] } (.slice (some ⟨fb, 0, none⟩) NF cap) ev av) := by rw [HTP.out]; exact hoG
      have HBG8 : Hid (Below (w.heap.size + 3) W0 (W7.setCell ⟨fb, tp * 14 + 1, none⟩ (.int .i64 ((jf : Int) + 1)))) := by rw [HTP.out]; exact HBR7.out.trans hboG
      clear hoG hboG
      have r5 := HOG8.out.cells
      have r4 : (W7.setCell ⟨fb, tp * 14 + 1, none⟩ (.int .i64 ((jf : Int) + 1))).heap[w.heap.size + 1 + 1]? = some (.cells zeroStCells 29 (0, 0)) := (HBG8.out.block _ (by omega)).trans R4.out
      obtain ⟨csF, ecsF, hsiF, holdF, honeF⟩ := HOG8.out.at.val.cells
      have HCF : Hid (csF = _) := (Value.agg.inj ecsF).symm
      rw [← HCF.out] at r5
      clear ecsF
      go_upto_region 62 with fail
      go_wp2_with (refine wpList_load_row rfl _ _ rfl _ rfl _ _ _ _ r5 Tryd.underlying29 rfl hsiF ?_; simp only [Act.put, List.setIfInBounds_toArray, List.set_cons_zero, List.set_cons_succ]; refine wpList_store_row rfl _ _ _ rfl _ _ rfl rfl _ _ r4 hsiF holdF honeF ?_; rename_i KK hKK; refine hKK _ _ (wp_ret ?_); change bodyPost Tryd.prog Tryd.f66 (fun e w' => StepdPost P S w e w') .ret _ _; refine bodyPost_ret (results_cell_row rfl _ _ (w.heap.size + 1 + 1) 29 _ (0, 0) _ rfl (setRow_heap _ _ _ _ _ _ r4) Tryd.underlying29 rfl hsiF) rfl ⟨_, rfl, ?_, below_setRow (HBG8.out.mono (by omega) |> HW0.out.trans) (by omega) r4 _⟩; rw [HSX.out]; have hat := (HOG8.out.at.setRow (r := w.heap.size + 1 + 1) (by omega) csF).mono (show w.heap.size ≤ w.heap.size + 3 by omega); rw [← HCF.out] at hat; exact hat)
    by_cases ho14 : xo = 14
    · subst ho14
      have hv015 : 0 ≤ va ∧ va ≤ 15 := by have h := HNO.out.2; omega
      obtain ⟨vn, hvn⟩ := Int.eq_ofNat_of_zero_le hv015.1
      have hvI : (vn : Int) < 16 := by omega
      have hiB : inB va 0 15 = true := by unfold inB; rw [decide_eq_true_eq]; exact hv015
      rw [hvn] at hiB
      have HSX : Hid (stepS P S = { S1 with mem := S1.mem.set vn vb, frames := fs ++ [⟨f.fn, (jf : Int) + 1, f.regs⟩] }) := by
        show _ = _
        rw [HSD.out]
        unfold doS
        dsimp only
        rw [if_neg (by omega), if_pos rfl, HVA.out.1, HVA.out.2, hvn, HFP.out.2]
        rfl
      rw [hvn] at HVA
      subst hvn
      clear hv015
      go_upto_region 17 with (go_at_call 48; refine (in_any _ _ _ _).mono ?_; rintro e w' ⟨rfl, hw'⟩; replace hw' := hw'.symm; subst hw')
      generalize W4.setCell ⟨B5, 19, none⟩ (.int .i64 FU) = W5 at *
      clear x0 kp s2 s19 s21 q19 qf19 hwf HR4 HO4 HB4
      have x0 : W5.cell? ⟨X, 0, none⟩ = some (.int .i64 14) := by rw [cell_of_row _ _ _ _ _ _ HR5.out]; rfl
      have x1 : W5.cell? ⟨X, 1, none⟩ = some (.int .i64 (kd : Int)) := by rw [cell_of_row _ _ _ _ _ _ HR5.out]; rfl
      have x4 : W5.cell? ⟨X, 4, none⟩ = some (.int .i64 xi) := by rw [cell_of_row _ _ _ _ _ _ HR5.out]; rfl
      obtain ⟨-, -, -, lf, lp, lr, -⟩ := HO5.out.lastCells HE1.out.1
      rw [← HTP.out] at lf lp lr
      try dsimp only at lf lp
      rw [HFP.out.2] at lp
      have lfz := HO5.out.free (tp * 14 + 1)
      obtain ⟨-, -, -, -, -, -, omem, qf⟩ := HO5.out.own
      have qm := omem vn (by omega)
      have qfm := qf (3 + vn)
      clear omem qf
      obtain ⟨hoM, hboM⟩ := HO5.out.put (3 + vn) (.int .i64 vb) { S1 with mem := S1.mem.set vn vb } (stC_mem _ _ _ vn (by rw [HE1.out.2.2.2.2]; omega) vb) (by show (S1.mem.set vn vb).length = 16; rw [List.length_set]; exact HE1.out.2.2.2.2) rfl rfl rfl
      have HOM : Hid (OutAt (W5.setCell ⟨B5, 3 + vn, none⟩ (.int .i64 vb)) (w.heap.size + 3) B5 { S1 with mem := S1.mem.set vn vb } (.slice (some ⟨fb, 0, none⟩) NF cap) ev av) := hoM
      have HBM : Hid (Below (w.heap.size + 3) W0 (W5.setCell ⟨B5, 3 + vn, none⟩ (.int .i64 vb))) := HB5.out.trans hboM
      clear hoM hboM
      go_upto_region 28 with (go_at_call 48; refine (in_any _ _ _ _).mono ?_; rintro e w' ⟨rfl, hw'⟩; replace hw' := hw'.symm; subst hw')
      generalize W5.setCell ⟨B5, 3 + vn, none⟩ (.int .i64 vb) = W7 at *
      clear qm qfm x0 x1 x4 lf lp lr lfz
      obtain ⟨-, -, -, lf, lp, lr, -⟩ := HOM.out.lastCells HE1.out.1
      rw [← HTP.out] at lf lp lr
      try dsimp only at lf lp
      rw [HFP.out.2] at lp
      have lfz := HOM.out.free (tp * 14 + 1)
      obtain ⟨hoG, hboG⟩ := HOM.out.goes HE1.out.1 ((jf : Int) + 1)
      have HOG8 : Hid (OutAt (W7.setCell ⟨fb, tp * 14 + 1, none⟩ (.int .i64 ((jf : Int) + 1))) (w.heap.size + 3) B5 { S1 with mem := S1.mem.set vn vb, frames := fs ++ [⟨f.fn, (jf : Int) + 1, f.regs⟩] } (.slice (some ⟨fb, 0, none⟩) NF cap) ev av) := by rw [HTP.out]; exact hoG
      have HBG8 : Hid (Below (w.heap.size + 3) W0 (W7.setCell ⟨fb, tp * 14 + 1, none⟩ (.int .i64 ((jf : Int) + 1)))) := by rw [HTP.out]; exact HBM.out.trans hboG
      clear hoG hboG
      have r5 := HOG8.out.cells
      have r4 : (W7.setCell ⟨fb, tp * 14 + 1, none⟩ (.int .i64 ((jf : Int) + 1))).heap[w.heap.size + 1 + 1]? = some (.cells zeroStCells 29 (0, 0)) := (HBG8.out.block _ (by omega)).trans R4.out
      obtain ⟨csF, ecsF, hsiF, holdF, honeF⟩ := HOG8.out.at.val.cells
      have HCF : Hid (csF = _) := (Value.agg.inj ecsF).symm
      rw [← HCF.out] at r5
      clear ecsF
      go_upto_region 62 with fail
      go_wp2_with (refine wpList_load_row rfl _ _ rfl _ rfl _ _ _ _ r5 Tryd.underlying29 rfl hsiF ?_; simp only [Act.put, List.setIfInBounds_toArray, List.set_cons_zero, List.set_cons_succ]; refine wpList_store_row rfl _ _ _ rfl _ _ rfl rfl _ _ r4 hsiF holdF honeF ?_; rename_i KK hKK; refine hKK _ _ (wp_ret ?_); change bodyPost Tryd.prog Tryd.f66 (fun e w' => StepdPost P S w e w') .ret _ _; refine bodyPost_ret (results_cell_row rfl _ _ (w.heap.size + 1 + 1) 29 _ (0, 0) _ rfl (setRow_heap _ _ _ _ _ _ r4) Tryd.underlying29 rfl hsiF) rfl ⟨_, rfl, ?_, below_setRow (HBG8.out.mono (by omega) |> HW0.out.trans) (by omega) r4 _⟩; rw [HSX.out]; have hat := (HOG8.out.at.setRow (r := w.heap.size + 1 + 1) (by omega) csF).mono (show w.heap.size ≤ w.heap.size + 3 by omega); rw [← HCF.out] at hat; exact hat)
    by_cases ho15 : xo = 15
    · subst ho15
      have HSX : Hid (stepS P S = { S1 with frames := fs ++ [⟨f.fn, xi, f.regs⟩] }) := by
        show _ = _
        rw [HSD.out]
        unfold doS
        dsimp only
        rw [if_neg (by omega), if_neg (by omega), if_pos rfl]
      go_upto_region 17 with (go_at_call 48; refine (in_any _ _ _ _).mono ?_; rintro e w' ⟨rfl, hw'⟩; replace hw' := hw'.symm; subst hw')
      generalize W4.setCell ⟨B5, 19, none⟩ (.int .i64 FU) = W5 at *
      clear x0 kp s2 s19 s21 q19 qf19 hwf HR4 HO4 HB4
      have x0 : W5.cell? ⟨X, 0, none⟩ = some (.int .i64 15) := by rw [cell_of_row _ _ _ _ _ _ HR5.out]; rfl
      have x1 : W5.cell? ⟨X, 1, none⟩ = some (.int .i64 (kd : Int)) := by rw [cell_of_row _ _ _ _ _ _ HR5.out]; rfl
      have x4 : W5.cell? ⟨X, 4, none⟩ = some (.int .i64 xi) := by rw [cell_of_row _ _ _ _ _ _ HR5.out]; rfl
      obtain ⟨-, -, -, lf, lp, lr, -⟩ := HO5.out.lastCells HE1.out.1
      rw [← HTP.out] at lf lp lr
      try dsimp only at lf lp
      rw [HFP.out.2] at lp
      have lfz := HO5.out.free (tp * 14 + 1)
      obtain ⟨hoG, hboG⟩ := HO5.out.goes HE1.out.1 xi
      have HOG8 : Hid (OutAt (W5.setCell ⟨fb, tp * 14 + 1, none⟩ (.int .i64 xi)) (w.heap.size + 3) B5 { S1 with frames := fs ++ [⟨f.fn, xi, f.regs⟩] } (.slice (some ⟨fb, 0, none⟩) NF cap) ev av) := by rw [HTP.out]; exact hoG
      have HBG8 : Hid (Below (w.heap.size + 3) W0 (W5.setCell ⟨fb, tp * 14 + 1, none⟩ (.int .i64 xi))) := by rw [HTP.out]; exact HB5.out.trans hboG
      clear hoG hboG
      have r5 := HOG8.out.cells
      have r4 : (W5.setCell ⟨fb, tp * 14 + 1, none⟩ (.int .i64 xi)).heap[w.heap.size + 1 + 1]? = some (.cells zeroStCells 29 (0, 0)) := (HBG8.out.block _ (by omega)).trans R4.out
      obtain ⟨csF, ecsF, hsiF, holdF, honeF⟩ := HOG8.out.at.val.cells
      have HCF : Hid (csF = _) := (Value.agg.inj ecsF).symm
      rw [← HCF.out] at r5
      clear ecsF
      go_upto_region 62 with (go_at_call 48; refine (in_any _ _ _ _).mono ?_; rintro e w' ⟨rfl, hw'⟩; replace hw' := hw'.symm; subst hw')
      go_wp2_with (refine wpList_load_row rfl _ _ rfl _ rfl _ _ _ _ r5 Tryd.underlying29 rfl hsiF ?_; simp only [Act.put, List.setIfInBounds_toArray, List.set_cons_zero, List.set_cons_succ]; refine wpList_store_row rfl _ _ _ rfl _ _ rfl rfl _ _ r4 hsiF holdF honeF ?_; rename_i KK hKK; refine hKK _ _ (wp_ret ?_); change bodyPost Tryd.prog Tryd.f66 (fun e w' => StepdPost P S w e w') .ret _ _; refine bodyPost_ret (results_cell_row rfl _ _ (w.heap.size + 1 + 1) 29 _ (0, 0) _ rfl (setRow_heap _ _ _ _ _ _ r4) Tryd.underlying29 rfl hsiF) rfl ⟨_, rfl, ?_, below_setRow (HBG8.out.mono (by omega) |> HW0.out.trans) (by omega) r4 _⟩; rw [HSX.out]; have hat := (HOG8.out.at.setRow (r := w.heap.size + 1 + 1) (by omega) csF).mono (show w.heap.size ≤ w.heap.size + 3 by omega); rw [← HCF.out] at hat; exact hat)
    by_cases ho16 : xo = 16 ∧ va = 0
    · obtain ⟨ho16, hv0⟩ := ho16
      subst hv0
      subst ho16
      have HSX : Hid (stepS P S = { S1 with frames := fs ++ [⟨f.fn, (jf : Int) + 1, f.regs⟩] }) := by
        show _ = _
        rw [HSD.out]
        unfold doS
        dsimp only
        rw [if_neg (by omega), if_neg (by omega), if_neg (by omega), if_pos rfl, HVA.out.1, if_pos rfl, HFP.out.2]
      go_upto_region 17 with (go_at_call 48; refine (in_any _ _ _ _).mono ?_; rintro e w' ⟨rfl, hw'⟩; replace hw' := hw'.symm; subst hw')
      generalize W4.setCell ⟨B5, 19, none⟩ (.int .i64 FU) = W5 at *
      clear x0 kp s2 s19 s21 q19 qf19 hwf HR4 HO4 HB4
      have x0 : W5.cell? ⟨X, 0, none⟩ = some (.int .i64 16) := by rw [cell_of_row _ _ _ _ _ _ HR5.out]; rfl
      have x1 : W5.cell? ⟨X, 1, none⟩ = some (.int .i64 (kd : Int)) := by rw [cell_of_row _ _ _ _ _ _ HR5.out]; rfl
      have x4 : W5.cell? ⟨X, 4, none⟩ = some (.int .i64 xi) := by rw [cell_of_row _ _ _ _ _ _ HR5.out]; rfl
      obtain ⟨-, -, -, lf, lp, lr, -⟩ := HO5.out.lastCells HE1.out.1
      rw [← HTP.out] at lf lp lr
      try dsimp only at lf lp
      rw [HFP.out.2] at lp
      have lfz := HO5.out.free (tp * 14 + 1)
      obtain ⟨hoG, hboG⟩ := HO5.out.goes HE1.out.1 ((jf : Int) + 1)
      have HOG8 : Hid (OutAt (W5.setCell ⟨fb, tp * 14 + 1, none⟩ (.int .i64 ((jf : Int) + 1))) (w.heap.size + 3) B5 { S1 with frames := fs ++ [⟨f.fn, (jf : Int) + 1, f.regs⟩] } (.slice (some ⟨fb, 0, none⟩) NF cap) ev av) := by rw [HTP.out]; exact hoG
      have HBG8 : Hid (Below (w.heap.size + 3) W0 (W5.setCell ⟨fb, tp * 14 + 1, none⟩ (.int .i64 ((jf : Int) + 1)))) := by rw [HTP.out]; exact HB5.out.trans hboG
      clear hoG hboG
      have r5 := HOG8.out.cells
      have r4 : (W5.setCell ⟨fb, tp * 14 + 1, none⟩ (.int .i64 ((jf : Int) + 1))).heap[w.heap.size + 1 + 1]? = some (.cells zeroStCells 29 (0, 0)) := (HBG8.out.block _ (by omega)).trans R4.out
      obtain ⟨csF, ecsF, hsiF, holdF, honeF⟩ := HOG8.out.at.val.cells
      have HCF : Hid (csF = _) := (Value.agg.inj ecsF).symm
      rw [← HCF.out] at r5
      clear ecsF
      go_upto_region 62 with (go_at_call 48; refine (in_any _ _ _ _).mono ?_; rintro e w' ⟨rfl, hw'⟩; replace hw' := hw'.symm; subst hw')
      go_wp2_with (refine wpList_load_row rfl _ _ rfl _ rfl _ _ _ _ r5 Tryd.underlying29 rfl hsiF ?_; simp only [Act.put, List.setIfInBounds_toArray, List.set_cons_zero, List.set_cons_succ]; refine wpList_store_row rfl _ _ _ rfl _ _ rfl rfl _ _ r4 hsiF holdF honeF ?_; rename_i KK hKK; refine hKK _ _ (wp_ret ?_); change bodyPost Tryd.prog Tryd.f66 (fun e w' => StepdPost P S w e w') .ret _ _; refine bodyPost_ret (results_cell_row rfl _ _ (w.heap.size + 1 + 1) 29 _ (0, 0) _ rfl (setRow_heap _ _ _ _ _ _ r4) Tryd.underlying29 rfl hsiF) rfl ⟨_, rfl, ?_, below_setRow (HBG8.out.mono (by omega) |> HW0.out.trans) (by omega) r4 _⟩; rw [HSX.out]; have hat := (HOG8.out.at.setRow (r := w.heap.size + 1 + 1) (by omega) csF).mono (show w.heap.size ≤ w.heap.size + 3 by omega); rw [← HCF.out] at hat; exact hat)
    by_cases ho16b : xo = 16
    · have hv0 : (va == 0) = false := by rw [beq_eq_false_iff_ne]; exact fun e => ho16 ⟨ho16b, e⟩
      have hv1 : ¬ va = 0 := fun e => ho16 ⟨ho16b, e⟩
      clear ho16
      have ho16 : xo = 16 := ho16b
      clear ho16b
      subst ho16
      have HSX : Hid (stepS P S = { S1 with frames := fs ++ [⟨f.fn, xi, f.regs⟩] }) := by
        show _ = _
        rw [HSD.out]
        unfold doS
        dsimp only
        rw [if_neg (by omega), if_neg (by omega), if_neg (by omega), if_pos rfl, HVA.out.1, if_neg hv1]
      go_upto_region 17 with (go_at_call 48; refine (in_any _ _ _ _).mono ?_; rintro e w' ⟨rfl, hw'⟩; replace hw' := hw'.symm; subst hw')
      generalize W4.setCell ⟨B5, 19, none⟩ (.int .i64 FU) = W5 at *
      clear x0 kp s2 s19 s21 q19 qf19 hwf HR4 HO4 HB4
      have x0 : W5.cell? ⟨X, 0, none⟩ = some (.int .i64 16) := by rw [cell_of_row _ _ _ _ _ _ HR5.out]; rfl
      have x1 : W5.cell? ⟨X, 1, none⟩ = some (.int .i64 (kd : Int)) := by rw [cell_of_row _ _ _ _ _ _ HR5.out]; rfl
      have x4 : W5.cell? ⟨X, 4, none⟩ = some (.int .i64 xi) := by rw [cell_of_row _ _ _ _ _ _ HR5.out]; rfl
      obtain ⟨-, -, -, lf, lp, lr, -⟩ := HO5.out.lastCells HE1.out.1
      rw [← HTP.out] at lf lp lr
      try dsimp only at lf lp
      rw [HFP.out.2] at lp
      have lfz := HO5.out.free (tp * 14 + 1)
      obtain ⟨hoG, hboG⟩ := HO5.out.goes HE1.out.1 xi
      have HOG8 : Hid (OutAt (W5.setCell ⟨fb, tp * 14 + 1, none⟩ (.int .i64 xi)) (w.heap.size + 3) B5 { S1 with frames := fs ++ [⟨f.fn, xi, f.regs⟩] } (.slice (some ⟨fb, 0, none⟩) NF cap) ev av) := by rw [HTP.out]; exact hoG
      have HBG8 : Hid (Below (w.heap.size + 3) W0 (W5.setCell ⟨fb, tp * 14 + 1, none⟩ (.int .i64 xi))) := by rw [HTP.out]; exact HB5.out.trans hboG
      clear hoG hboG
      have r5 := HOG8.out.cells
      have r4 : (W5.setCell ⟨fb, tp * 14 + 1, none⟩ (.int .i64 xi)).heap[w.heap.size + 1 + 1]? = some (.cells zeroStCells 29 (0, 0)) := (HBG8.out.block _ (by omega)).trans R4.out
      obtain ⟨csF, ecsF, hsiF, holdF, honeF⟩ := HOG8.out.at.val.cells
      have HCF : Hid (csF = _) := (Value.agg.inj ecsF).symm
      rw [← HCF.out] at r5
      clear ecsF
      go_upto_region 62 with (go_at_call 48; refine (in_any _ _ _ _).mono ?_; rintro e w' ⟨rfl, hw'⟩; replace hw' := hw'.symm; subst hw')
      go_wp2_with (refine wpList_load_row rfl _ _ rfl _ rfl _ _ _ _ r5 Tryd.underlying29 rfl hsiF ?_; simp only [Act.put, List.setIfInBounds_toArray, List.set_cons_zero, List.set_cons_succ]; refine wpList_store_row rfl _ _ _ rfl _ _ rfl rfl _ _ r4 hsiF holdF honeF ?_; rename_i KK hKK; refine hKK _ _ (wp_ret ?_); change bodyPost Tryd.prog Tryd.f66 (fun e w' => StepdPost P S w e w') .ret _ _; refine bodyPost_ret (results_cell_row rfl _ _ (w.heap.size + 1 + 1) 29 _ (0, 0) _ rfl (setRow_heap _ _ _ _ _ _ r4) Tryd.underlying29 rfl hsiF) rfl ⟨_, rfl, ?_, below_setRow (HBG8.out.mono (by omega) |> HW0.out.trans) (by omega) r4 _⟩; rw [HSX.out]; have hat := (HOG8.out.at.setRow (r := w.heap.size + 1 + 1) (by omega) csF).mono (show w.heap.size ≤ w.heap.size + 3 by omega); rw [← HCF.out] at hat; exact hat)
    by_cases ho18 : xo = 18
    · subst ho18
      obtain ⟨i64i, hi64, iz0, iz1, iz2⟩ := info_parts info64
      go_upto_region 17 with (go_at_call 48; refine (in_any _ _ _ _).mono ?_; rintro e w' ⟨rfl, hw'⟩; replace hw' := hw'.symm; subst hw')
      generalize W4.setCell ⟨B5, 19, none⟩ (.int .i64 FU) = W5 at *
      clear x0 kp s2 s19 s21 q19 qf19 hwf HR4 HO4 HB4
      have x0 : W5.cell? ⟨X, 0, none⟩ = some (.int .i64 18) := by rw [cell_of_row _ _ _ _ _ _ HR5.out]; rfl
      have x1 : W5.cell? ⟨X, 1, none⟩ = some (.int .i64 (kd : Int)) := by rw [cell_of_row _ _ _ _ _ _ HR5.out]; rfl
      have x4 : W5.cell? ⟨X, 4, none⟩ = some (.int .i64 xi) := by rw [cell_of_row _ _ _ _ _ _ HR5.out]; rfl
      obtain ⟨-, -, -, lf, lp, lr, -⟩ := HO5.out.lastCells HE1.out.1
      rw [← HTP.out] at lf lp lr
      try dsimp only at lf lp
      rw [HFP.out.2] at lp
      have lfz := HO5.out.free (tp * 14 + 1)
      have hevo := HO5.out.events
      obtain ⟨ea, ec, rfl⟩ := own_shape hevo
      obtain ⟨-, -, -, -, q20, -, -, -⟩ := HO5.out.own
      have HEV : Hid (W5.ownsRow (w.heap.size + 3) 3 1 (.slice ea S1.events.length ec) S1.events.length (i64s S1.events)) := hevo
      have hel : S1.events.length * 8 + 16 ≤ 140737488355328 := by rw [HE1.out.2.2.1]; omega
      have hbz := HO5.out.base
      have hXB : X ≠ B5 := fun e => by
        have h1 := HR5.out
        rw [e, HO5.out.cells] at h1
        simp at h1
      have hXE := block_ne_own hevo HR5.out (by decide)
      have HTL : Hid (∀ (o : Obj) (w1 : World) (g1 cap1 : Nat), w1.ownsRow (w.heap.size + 3) 3 1 (.slice (some ⟨g1, 0, none⟩) (S1.events.length + 1) cap1) (S1.events.length + 1) (i64s S1.events ++ i64s [va]) → (W5.alloc o).grownBy w1 (Value.slice ea S1.events.length ec).ownBlock → ((Value.slice ea S1.events.length ec).ownBlock = some g1 ∨ g1 = W5.heap.size + 1) → (w1.cell? ⟨B5, 20, none⟩ = some (.slice ea S1.events.length ec) ∧ w1.frozen? ⟨B5, 20, none⟩ = false) ∧ OutAt (w1.setCell ⟨B5, 20, none⟩ (.slice (some ⟨g1, 0, none⟩) (S1.events.length + 1) cap1)) (w.heap.size + 3) B5 { S1 with events := S1.events ++ [va] } (.slice (some ⟨fb, 0, none⟩) NF cap) (.slice (some ⟨g1, 0, none⟩) (S1.events.length + 1) cap1) av ∧ Below (w.heap.size + 3) W0 (w1.setCell ⟨B5, 20, none⟩ (.slice (some ⟨g1, 0, none⟩) (S1.events.length + 1) cap1)) ∧ (w1.setCell ⟨B5, 20, none⟩ (.slice (some ⟨g1, 0, none⟩) (S1.events.length + 1) cap1)).heap[X]? = some (.cells #[.int .i64 18, .int .i64 (kd : Int), .int .i64 (ka : Int), .int .i64 (kb : Int), .int .i64 xi] 61 (0, 0))) := fun o w1 g1 cap1 ho hg hat => by
        have R := OutAt.tell (a := va) HO5.out (by rw [i64s_append]; exact ho) hg hat
        refine ⟨⟨by rw [cell_of_row _ _ _ _ _ _ R.1, List.getElem?_toArray]; exact stC_tail _ _ _ HO5.out.mem 1, row_free R.1 20⟩, R.2.1, HB5.out.trans R.2.2.1, ?_⟩
        rw [R.2.2.2 X (lt_of_block HR5.out) hXB (fun e => hXE e.symm)]; exact HR5.out
      clear hevo hXB hXE x0 x1 x4 lf lp lr lfz
      have HEN0 : Hid (S1.events.length = S1.events.length) := rfl
      generalize hEN : S1.events.length = EN at HTL HEV hel q20 HEN0
      clear hEN
      have x0 : W5.cell? ⟨X, 0, none⟩ = some (.int .i64 18) := by rw [cell_of_row _ _ _ _ _ _ HR5.out]; rfl
      go_upto_region 37 with (first
        | (go_at_call 48; refine (in_any _ _ _ _).mono ?_; rintro e w' ⟨rfl, hw'⟩; replace hw' := hw'.symm; subst hw')
        | (at_builtin; refine wpList_append_lies _ rfl (.tmp 176) (.tmp 178) 27 rfl (w.heap.size + 3) 3 i64i _ 1 8 Tryd.underlying27 hi64 iz0 iz1 iz2 rfl (by decide) (.slice ea EN ec) EN (i64s S1.events) rfl (HEV.out.alloc _) ⟨W5.heap.size, 0, none⟩ 1 1 (i64s [va]) rfl rfl (news_list _ _ _ _ rfl) (i64s_one _) Nat.one_pos (by unfold maxLen; omega) (by omega) (by simp; omega) (W5.heap.size + 1) (by simp) ?_; intro g1 cap1 w6 hown6 hg6 hat6 hlt6; have HQ := HTL.out _ _ _ _ hown6 hg6 hat6; have qe := HQ.1.1; have qq := HQ.1.2))
      obtain ⟨S2, hS2⟩ : ∃ S2 : St, S2 = { S1 with events := S1.events ++ [va] } := ⟨_, rfl⟩
      have HE2 : Hid (S2.frames = fs ++ [f] ∧ S2.answers = S.answers) := by rw [hS2]; exact ⟨HE1.out.1, HE1.out.2.2.2.1⟩
      have HO6 : Hid (OutAt (w6.setCell ⟨B5, 20, none⟩ (.slice (some ⟨g1, 0, none⟩) (EN + 1) cap1)) (w.heap.size + 3) B5 S2 (.slice (some ⟨fb, 0, none⟩) NF cap) (.slice (some ⟨g1, 0, none⟩) (EN + 1) cap1) av) := by rw [hS2]; exact HQ.2.1
      have HB6 : Hid (Below (w.heap.size + 3) W0 (w6.setCell ⟨B5, 20, none⟩ (.slice (some ⟨g1, 0, none⟩) (EN + 1) cap1))) := HQ.2.2.1
      have HR6 : Hid ((w6.setCell ⟨B5, 20, none⟩ (.slice (some ⟨g1, 0, none⟩) (EN + 1) cap1)).heap[X]? = some (.cells #[.int .i64 18, .int .i64 (kd : Int), .int .i64 (ka : Int), .int .i64 (kb : Int), .int .i64 xi] 61 (0, 0))) := HQ.2.2.2
      have HS2 : Hid (S2 = { S1 with events := S1.events ++ [va] }) := hS2
      clear HQ qe qq hown6 hg6 hat6 hlt6 x0 q20 hS2 HTL HEV hel hi64 iz0 iz1 iz2
      generalize w6.setCell ⟨B5, 20, none⟩ (.slice (some ⟨g1, 0, none⟩) (EN + 1) cap1) = W6 at *
      generalize Value.slice (some ⟨g1, 0, none⟩) (EN + 1) cap1 = ev2 at *
      have x0 : W6.cell? ⟨X, 0, none⟩ = some (.int .i64 18) := by rw [cell_of_row _ _ _ _ _ _ HR6.out]; rfl
      have x1 : W6.cell? ⟨X, 1, none⟩ = some (.int .i64 (kd : Int)) := by rw [cell_of_row _ _ _ _ _ _ HR6.out]; rfl
      have x4 : W6.cell? ⟨X, 4, none⟩ = some (.int .i64 xi) := by rw [cell_of_row _ _ _ _ _ _ HR6.out]; rfl
      obtain ⟨-, -, -, lf, lp, lr, -⟩ := HO6.out.lastCells HE2.out.1
      rw [← HTP.out] at lf lp lr
      try dsimp only at lf lp
      rw [HFP.out.2] at lp
      have lfz := HO6.out.free (tp * 14 + 1)
      have rd := lr kd (by omega)
      have rdz := HO6.out.free (tp * 14 + 2 + kd)
      have hd := HO6.out.below ((Below.refl W6.heap.size W6).drew)
      obtain ⟨hoR, hboR⟩ := hd.reg HE2.out.1 kd 0
      have HOR7 : Hid (OutAt (W6.drew.setCell ⟨fb, tp * 14 + 2 + kd, none⟩ (.int .i64 0)) (w.heap.size + 3) B5 { S2 with frames := fs ++ [⟨f.fn, f.pc, f.regs.set kd 0⟩] } (.slice (some ⟨fb, 0, none⟩) NF cap) ev2 av) := by rw [HTP.out]; exact hoR
      have HBR7 : Hid (Below (w.heap.size + 3) W0 (W6.drew.setCell ⟨fb, tp * 14 + 2 + kd, none⟩ (.int .i64 0))) := by rw [HTP.out]; exact HB6.out.drew.trans hboR
      have HRR7 : Hid ((W6.drew.setCell ⟨fb, tp * 14 + 2 + kd, none⟩ (.int .i64 0)).heap[X]? = W6.heap[X]?) := by
        show _ = _
        exact heap_setCell_other _ _ _ _ (fun e => by
          have h1 := HR6.out
          obtain ⟨cur, hcur⟩ : ∃ cur, W6.heap[fb]? = some (.cells cur 55 (0, 0)) := (by obtain ⟨-, -, -, -, -, -, cur, hcur, -⟩ := HO6.out.lastCells HE2.out.1; exact ⟨cur, hcur⟩)
          have e2 : X = fb := e
          rw [e2, hcur] at h1
          simp at h1)
      clear hoR hboR hd
      refine wp_region_last (S := fun W => Below W6.heap.size W6 W) _ 6 (by kernel_rfl) (by kernel_rfl) rfl ((Below.refl _ _).drew) (fun hHeld => ?_)
      simp only [List.pop_toArray, List.dropLast]
      refine wpAnyH_take (i := 0) (v := ?_) rfl (by kernel_rfl) (by kernel_rfl) (by kernel_rfl) (fun _ _ _ h => h) (Or.inl ⟨by rfl, ?_⟩) (by assumption) ?_
      rotate_left
      · (intro W hSW; go_simp; try (with_reducible rfl))
      (try simp only [Act.put, List.setIfInBounds_toArray])
      refine wpAnyH_take (i := 1) (v := ?_) rfl (by kernel_rfl) (by kernel_rfl) (by kernel_rfl) (fun _ _ _ h => h) (Or.inl ⟨by rfl, ?_⟩) (by assumption) ?_
      rotate_left
      · (intro W hSW; go_simp; try (with_reducible rfl))
      (try simp only [Act.put])
      refine wpAnyH_take (i := 2) (v := ?_) rfl (by kernel_rfl) (by kernel_rfl) (by kernel_rfl) (fun _ _ _ h => h) (Or.inl ⟨by rfl, ?_⟩) (by assumption) ?_
      rotate_left
      · (intro W hSW; have z0 := keeps_below hSW _ _ x1; go_simp; try (with_reducible rfl))
      (try simp only [Act.put])
      refine wpAnyH_take (i := 3) (v := ?_) rfl (by kernel_rfl) (by kernel_rfl) (by kernel_rfl) (fun _ _ _ h => h) (Or.inl ⟨by rfl, ?_⟩) (by assumption) ?_
      rotate_left
      · (intro W hSW; go_simp; try (with_reducible rfl))
      (try simp only [Act.put])
      refine wpAnyH_take (i := 4) (v := ?_) rfl (by kernel_rfl) (by kernel_rfl) (by kernel_rfl) (fun _ _ _ h => h) (Or.inl ⟨by rfl, ?_⟩) (by assumption) ?_
      rotate_left
      · (intro W hSW; go_simp; try (with_reducible rfl))
      (try simp only [Act.put])
      refine wpAnyH_take (i := 5) (v := ?_) rfl (by kernel_rfl) (by kernel_rfl) (by kernel_rfl) (fun _ _ _ h => h) (Or.inl ⟨by rfl, ?_⟩) (by assumption) ?_
      rotate_left
      · (intro W hSW; go_simp; try (with_reducible rfl))
      (try simp only [Act.put])
      refine wpAnyH_done (by kernel_rfl) ?_ _
      refine Or.inl ?_
      have hcD : W6.drew.cell? ⟨fb, tp * 14 + 2 + kd, none⟩ = some (.int .i64 _) := rd
      have hfD : W6.drew.frozen? ⟨fb, tp * 14 + 2 + kd, none⟩ = false := rdz
      clear hHeld
      go_simp
      go_upto_region 38 with fail
      rw [show (W6.setCell ⟨fb, tp * 14 + 2 + kd, none⟩ (.int .i64 0)).drew = W6.drew.setCell ⟨fb, tp * 14 + 2 + kd, none⟩ (.int .i64 0) from rfl]
      have HRN7 : Hid ((W6.drew.setCell ⟨fb, tp * 14 + 2 + kd, none⟩ (.int .i64 0)).heap[X]? = some (.cells #[.int .i64 18, .int .i64 (kd : Int), .int .i64 (ka : Int), .int .i64 (kb : Int), .int .i64 xi] 61 (0, 0))) := HRR7.out.trans HR6.out
      clear hcD hfD rd rdz HRR7
      generalize W6.drew.setCell ⟨fb, tp * 14 + 2 + kd, none⟩ (.int .i64 0) = W7 at *
      clear x0 x1 x4 lf lp lr lfz
      obtain ⟨-, -, -, s21, -, hbW7⟩ := HBX.out W7 HBR7.out
      obtain ⟨-, -, -, lf, lp, lr, -⟩ := HOR7.out.lastCells rfl
      rw [← HTP.out] at lf lp lr
      try dsimp only at lf lp
      rw [HFP.out.2] at lp
      have lfz := HOR7.out.free (tp * 14 + 1)
      rcases hans : S.answers with _ | ⟨z, l⟩
      · have hN0 : arN = 0 := by rw [← harl, hans]; rfl
        rw [hN0] at s21
        have HSX : Hid (stepS P S = { S2 with frames := fs ++ [⟨f.fn, (jf : Int) + 1, f.regs.set kd 0⟩] }) := by
          show _ = _
          have ea : S1.answers = [] := HE1.out.2.2.2.1.trans hans
          rw [HSD.out]
          unfold doS
          dsimp only
          rw [if_neg (by omega), if_neg (by omega), if_neg (by omega), if_neg (by omega), if_neg (by omega), if_pos rfl, HVA.out.1, HS2.out]
          unfold putF
          rw [HFP.out.2]
          simp [ea]
        clear hans harl hara harc
        obtain ⟨hoG, hboG⟩ := HOR7.out.goes rfl ((jf : Int) + 1)
        have HOG8 : Hid (OutAt (W7.setCell ⟨fb, tp * 14 + 1, none⟩ (.int .i64 ((jf : Int) + 1))) (w.heap.size + 3) B5 { S2 with frames := fs ++ [⟨f.fn, (jf : Int) + 1, f.regs.set kd 0⟩] } (.slice (some ⟨fb, 0, none⟩) NF cap) ev2 av) := by rw [HTP.out]; exact hoG
        have HBG8 : Hid (Below (w.heap.size + 3) W0 (W7.setCell ⟨fb, tp * 14 + 1, none⟩ (.int .i64 ((jf : Int) + 1)))) := by rw [HTP.out]; exact HBR7.out.trans hboG
        clear hoG hboG
        have r5 := HOG8.out.cells
        have r4 : (W7.setCell ⟨fb, tp * 14 + 1, none⟩ (.int .i64 ((jf : Int) + 1))).heap[w.heap.size + 1 + 1]? = some (.cells zeroStCells 29 (0, 0)) := (HBG8.out.block _ (by omega)).trans R4.out
        obtain ⟨csF, ecsF, hsiF, holdF, honeF⟩ := HOG8.out.at.val.cells
        have HCF : Hid (csF = _) := (Value.agg.inj ecsF).symm
        rw [← HCF.out] at r5
        clear ecsF
        go_upto_region 62 with fail
        go_wp2_with (refine wpList_load_row rfl _ _ rfl _ rfl _ _ _ _ r5 Tryd.underlying29 rfl hsiF ?_; simp only [Act.put, List.setIfInBounds_toArray, List.set_cons_zero, List.set_cons_succ]; refine wpList_store_row rfl _ _ _ rfl _ _ rfl rfl _ _ r4 hsiF holdF honeF ?_; rename_i KK hKK; refine hKK _ _ (wp_ret ?_); change bodyPost Tryd.prog Tryd.f66 (fun e w' => StepdPost P S w e w') .ret _ _; refine bodyPost_ret (results_cell_row rfl _ _ (w.heap.size + 1 + 1) 29 _ (0, 0) _ rfl (setRow_heap _ _ _ _ _ _ r4) Tryd.underlying29 rfl hsiF) rfl ⟨_, rfl, ?_, below_setRow (HBG8.out.mono (by omega) |> HW0.out.trans) (by omega) r4 _⟩; rw [HSX.out]; have hat := (HOG8.out.at.setRow (r := w.heap.size + 1 + 1) (by omega) csF).mono (show w.heap.size ≤ w.heap.size + 3 by omega); rw [← HCF.out] at hat; exact hat)
      · have hN1 : arN = l.length + 1 := by rw [← harl, hans]; rfl
        have HSX : Hid (stepS P S = { S2 with answers := l, frames := fs ++ [⟨f.fn, (jf : Int) + 1, (f.regs.set kd 0).set kd z⟩] }) := by
          show _ = _
          have ea : S1.answers = z :: l := HE1.out.2.2.2.1.trans hans
          rw [HSD.out]
          unfold doS
          dsimp only
          rw [if_neg (by omega), if_neg (by omega), if_neg (by omega), if_neg (by omega), if_neg (by omega), if_pos rfl, HVA.out.1, HS2.out]
          unfold putF
          rw [HFP.out.2]
          simp [ea]
        have harA := hara (by omega)
        have hz0c := harc 0 (by omega)
        rw [hans] at hz0c
        simp only [Nat.add_zero, List.getD_cons_zero] at hz0c
        subst hN1
        subst harA
        have az := keeps_below hbW7 _ _ hz0c
        have hNpos : (0 : Int) < ((l.length + 1 : Nat) : Int) := by omega
        have hlc : l.length + 1 ≤ arC := harcp
        clear harl hara harc hz0c
        go_upto_region 39 with fail
        have x0 : W7.cell? ⟨X, 0, none⟩ = some (.int .i64 18) := by rw [cell_of_row _ _ _ _ _ _ HRN7.out]; rfl
        have x1 : W7.cell? ⟨X, 1, none⟩ = some (.int .i64 (kd : Int)) := by rw [cell_of_row _ _ _ _ _ _ HRN7.out]; rfl
        have x4 : W7.cell? ⟨X, 4, none⟩ = some (.int .i64 xi) := by rw [cell_of_row _ _ _ _ _ _ HRN7.out]; rfl
        have rd := lr kd (by omega)
        have rdz := HOR7.out.free (tp * 14 + 2 + kd)
        have hd := HOR7.out.below ((Below.refl W7.heap.size W7).drew)
        obtain ⟨hoR, hboR⟩ := hd.reg rfl kd z
        have HOR9 : Hid (OutAt (W7.drew.setCell ⟨fb, tp * 14 + 2 + kd, none⟩ (.int .i64 z)) (w.heap.size + 3) B5 { S2 with frames := fs ++ [⟨f.fn, f.pc, (f.regs.set kd 0).set kd z⟩] } (.slice (some ⟨fb, 0, none⟩) NF cap) ev2 av) := by rw [HTP.out]; exact hoR
        have HBR9 : Hid (Below (w.heap.size + 3) W0 (W7.drew.setCell ⟨fb, tp * 14 + 2 + kd, none⟩ (.int .i64 z))) := by rw [HTP.out]; exact HBR7.out.drew.trans hboR
        have HRR9 : Hid ((W7.drew.setCell ⟨fb, tp * 14 + 2 + kd, none⟩ (.int .i64 z)).heap[X]? = W7.heap[X]?) := by
          show _ = _
          exact heap_setCell_other _ _ _ _ (fun e => by
            have h1 := HRN7.out
            obtain ⟨cur, hcur⟩ : ∃ cur, W7.heap[fb]? = some (.cells cur 55 (0, 0)) := (by obtain ⟨-, -, -, -, -, -, cur, hcur, -⟩ := HOR7.out.lastCells rfl; exact ⟨cur, hcur⟩)
            have e2 : X = fb := e
            rw [e2, hcur] at h1
            simp at h1)
        clear hoR hboR hd
        refine wp_region_last (S := fun W => Below W7.heap.size W7 W) _ 10 (by kernel_rfl) (by kernel_rfl) rfl ((Below.refl _ _).drew) (fun hHeld => ?_)
        simp only [List.pop_toArray, List.dropLast]
        refine wpAnyH_take (i := 0) (v := ?_) rfl (by kernel_rfl) (by kernel_rfl) (by kernel_rfl) (fun _ _ _ h => h) (Or.inl ⟨by rfl, ?_⟩) (by assumption) ?_
        rotate_left
        · (intro W hSW; go_simp; try (with_reducible rfl))
        (try simp only [Act.put, List.setIfInBounds_toArray])
        refine wpAnyH_take (i := 1) (v := ?_) rfl (by kernel_rfl) (by kernel_rfl) (by kernel_rfl) (fun _ _ _ h => h) (Or.inl ⟨by rfl, ?_⟩) (by assumption) ?_
        rotate_left
        · (intro W hSW; go_simp; try (with_reducible rfl))
        (try simp only [Act.put])
        refine wpAnyH_take (i := 2) (v := ?_) rfl (by kernel_rfl) (by kernel_rfl) (by kernel_rfl) (fun _ _ _ h => h) (Or.inl ⟨by rfl, ?_⟩) (by assumption) ?_
        rotate_left
        · (intro W hSW; have z0 := keeps_below hSW _ _ x1; go_simp; try (with_reducible rfl))
        (try simp only [Act.put])
        refine wpAnyH_take (i := 3) (v := ?_) rfl (by kernel_rfl) (by kernel_rfl) (by kernel_rfl) (fun _ _ _ h => h) (Or.inl ⟨by rfl, ?_⟩) (by assumption) ?_
        rotate_left
        · (intro W hSW; go_simp; try (with_reducible rfl))
        (try simp only [Act.put])
        refine wpAnyH_take (i := 4) (v := ?_) rfl (by kernel_rfl) (by kernel_rfl) (by kernel_rfl) (fun _ _ _ h => h) (Or.inl ⟨by rfl, ?_⟩) (by assumption) ?_
        rotate_left
        · (intro W hSW; have z0 := keeps_below hSW _ _ s21; go_simp; try (with_reducible rfl))
        (try simp only [Act.put])
        refine wpAnyH_take (i := 5) (v := ?_) rfl (by kernel_rfl) (by kernel_rfl) (by kernel_rfl) (fun _ _ _ h => h) (Or.inl ⟨by rfl, ?_⟩) (by assumption) ?_
        rotate_left
        · (intro W hSW; go_simp; try (with_reducible rfl))
        (try simp only [Act.put])
        refine wpAnyH_take (i := 6) (v := ?_) rfl (by kernel_rfl) (by kernel_rfl) (by kernel_rfl) (fun _ _ _ h => h) (Or.inl ⟨by rfl, ?_⟩) (by assumption) ?_
        rotate_left
        · (intro W hSW; have z0 := keeps_below hSW _ _ az; go_simp; try (with_reducible rfl))
        (try simp only [Act.put])
        refine wpAnyH_take (i := 7) (v := ?_) rfl (by kernel_rfl) (by kernel_rfl) (by kernel_rfl) (fun _ _ _ h => h) (Or.inl ⟨by rfl, ?_⟩) (by assumption) ?_
        rotate_left
        · (intro W hSW; go_simp; try (with_reducible rfl))
        (try simp only [Act.put])
        refine wpAnyH_take (i := 8) (v := ?_) rfl (by kernel_rfl) (by kernel_rfl) (by kernel_rfl) (fun _ _ _ h => h) (Or.inl ⟨by rfl, ?_⟩) (by assumption) ?_
        rotate_left
        · (intro W hSW; go_simp; try (with_reducible rfl))
        (try simp only [Act.put])
        refine wpAnyH_take (i := 9) (v := ?_) rfl (by kernel_rfl) (by kernel_rfl) (by kernel_rfl) (fun _ _ _ h => h) (Or.inl ⟨by rfl, ?_⟩) (by assumption) ?_
        rotate_left
        · (intro W hSW; go_simp; try (with_reducible rfl))
        (try simp only [Act.put])
        refine wpAnyH_done (by kernel_rfl) ?_ _
        refine Or.inl ?_
        have hcD : W7.drew.cell? ⟨fb, tp * 14 + 2 + kd, none⟩ = some (.int .i64 _) := rd
        have hfD : W7.drew.frozen? ⟨fb, tp * 14 + 2 + kd, none⟩ = false := rdz
        clear hHeld
        go_simp
        go_upto_region 40 with fail
        rw [show (W7.setCell ⟨fb, tp * 14 + 2 + kd, none⟩ (.int .i64 z)).drew = W7.drew.setCell ⟨fb, tp * 14 + 2 + kd, none⟩ (.int .i64 z) from rfl]
        have HRN9 : Hid ((W7.drew.setCell ⟨fb, tp * 14 + 2 + kd, none⟩ (.int .i64 z)).heap[X]? = some (.cells #[.int .i64 18, .int .i64 (kd : Int), .int .i64 (ka : Int), .int .i64 (kb : Int), .int .i64 xi] 61 (0, 0))) := HRR9.out.trans HRN7.out
        clear hcD hfD rd rdz HRR9
        generalize W7.drew.setCell ⟨fb, tp * 14 + 2 + kd, none⟩ (.int .i64 z) = W8 at *
        clear x0 x1 x4 lf lp lr lfz s21 az hbW7
        obtain ⟨-, -, -, s21, -, hbW8⟩ := HBX.out W8 HBR9.out
        obtain ⟨-, -, -, lf, lp, lr, -⟩ := HOR9.out.lastCells rfl
        rw [← HTP.out] at lf lp lr
        try dsimp only at lf lp
        rw [HFP.out.2] at lp
        have lfz := HOR9.out.free (tp * 14 + 1)
        by_cases hc1 : arC = 1
        · obtain rfl : l = [] := List.length_eq_zero_iff.1 (by omega)
          subst hc1
          have hll : ([] : List Int).length * 8 ≤ 140737488355328 := by simp
          have HNU : Hid (∀ W, Below w.heap.size w W → IntsVal W (.slice (some ⟨arB, arO, none⟩) 0 0) []) := fun W hW => by
            exact ⟨_, arB, arO, 0, 0, rfl, rfl, fun h => by omega, fun k h => by simp at h, ⟨Nat.le_refl _, fun e => by cases e⟩, by unfold maxLen; omega⟩
          clear hans
          go_upto_region 41 with (go_at_call 75; refine (numbers_any (.slice (some ⟨arB, arO, none⟩) 0 0) [] _ (HNU.out _ hbW8) hll).mono ?_; rintro e w9 ⟨u9, rfl, ho9, hb9⟩; obtain ⟨ua, uc, rfl⟩ := own_shape (n := 0) ho9; have HZ := HOR9.out.answ hb9 ho9; have q21 : w9.cell? ⟨B5, 21, none⟩ = some av := (HOR9.out.below hb9).own.2.2.2.2.2.1; have qf21 := (HOR9.out.below hb9).own.2.2.2.2.2.2.2 21)
          have HOZ : Hid (OutAt (w9.setCell ⟨B5, 21, none⟩ (.slice ua 0 uc)) (w.heap.size + 3) B5 { S2 with answers := [], frames := fs ++ [⟨f.fn, f.pc, (f.regs.set kd 0).set kd z⟩] } (.slice (some ⟨fb, 0, none⟩) NF cap) ev2 (.slice ua 0 uc)) := HZ.1
          have HBZ : Hid (Below (w.heap.size + 3) W0 (w9.setCell ⟨B5, 21, none⟩ (.slice ua 0 uc))) := HBR9.out.trans HZ.2
          clear HZ q21 qf21 ho9 hb9 lf lp lr lfz
          generalize w9.setCell ⟨B5, 21, none⟩ (.slice ua 0 uc) = WZ at *
          generalize Value.slice ua 0 uc = av2 at *
          obtain ⟨-, -, -, lf, lp, lr, -⟩ := HOZ.out.lastCells rfl
          rw [← HTP.out] at lf lp lr
          try dsimp only at lf lp
          rw [HFP.out.2] at lp
          have lfz := HOZ.out.free (tp * 14 + 1)
          obtain ⟨hoG, hboG⟩ := HOZ.out.goes rfl ((jf : Int) + 1)
          have HOG8 : Hid (OutAt (WZ.setCell ⟨fb, tp * 14 + 1, none⟩ (.int .i64 ((jf : Int) + 1))) (w.heap.size + 3) B5 { S2 with answers := [], frames := fs ++ [⟨f.fn, (jf : Int) + 1, (f.regs.set kd 0).set kd z⟩] } (.slice (some ⟨fb, 0, none⟩) NF cap) ev2 av2) := by rw [HTP.out]; exact hoG
          have HBG8 : Hid (Below (w.heap.size + 3) W0 (WZ.setCell ⟨fb, tp * 14 + 1, none⟩ (.int .i64 ((jf : Int) + 1)))) := by rw [HTP.out]; exact HBZ.out.trans hboG
          clear hoG hboG
          have r5 := HOG8.out.cells
          have r4 : (WZ.setCell ⟨fb, tp * 14 + 1, none⟩ (.int .i64 ((jf : Int) + 1))).heap[w.heap.size + 1 + 1]? = some (.cells zeroStCells 29 (0, 0)) := (HBG8.out.block _ (by omega)).trans R4.out
          obtain ⟨csF, ecsF, hsiF, holdF, honeF⟩ := HOG8.out.at.val.cells
          have HCF : Hid (csF = _) := (Value.agg.inj ecsF).symm
          rw [← HCF.out] at r5
          clear ecsF
          go_upto_region 62 with fail
          go_wp2_with (refine wpList_load_row rfl _ _ rfl _ rfl _ _ _ _ r5 Tryd.underlying29 rfl hsiF ?_; simp only [Act.put, List.setIfInBounds_toArray, List.set_cons_zero, List.set_cons_succ]; refine wpList_store_row rfl _ _ _ rfl _ _ rfl rfl _ _ r4 hsiF holdF honeF ?_; rename_i KK hKK; refine hKK _ _ (wp_ret ?_); change bodyPost Tryd.prog Tryd.f66 (fun e w' => StepdPost P S w e w') .ret _ _; refine bodyPost_ret (results_cell_row rfl _ _ (w.heap.size + 1 + 1) 29 _ (0, 0) _ rfl (setRow_heap _ _ _ _ _ _ r4) Tryd.underlying29 rfl hsiF) rfl ⟨_, rfl, ?_, below_setRow (HBG8.out.mono (by omega) |> HW0.out.trans) (by omega) r4 _⟩; rw [HSX.out]; have hat := (HOG8.out.at.setRow (r := w.heap.size + 1 + 1) (by omega) csF).mono (show w.heap.size ≤ w.heap.size + 3 by omega); rw [← HCF.out] at hat; exact hat)
        · have hc2 : 1 < arC := by omega
          have hll : l.length * 8 ≤ 140737488355328 := by have h := han; rw [hans] at h; simp at h ⊢; omega
          have HNU : Hid (∀ W, Below w.heap.size w W → IntsVal W (.slice (some ⟨arB, arO + 1, none⟩) l.length (arC - 1)) l) := fun W hW => by
            have hI := HAN.out W hW
            rw [hans] at hI
            have := (ints_tail hI).2.2.2.2
            simpa using this
          clear hans
          go_upto_region 41 with (go_at_call 75; refine (numbers_any (.slice (some ⟨arB, arO + 1, none⟩) l.length (arC - 1)) l _ (HNU.out _ hbW8) hll).mono ?_; rintro e w9 ⟨u9, rfl, ho9, hb9⟩; obtain ⟨ua, uc, rfl⟩ := own_shape (n := l.length) ho9; have HZ := HOR9.out.answ hb9 ho9; have q21 : w9.cell? ⟨B5, 21, none⟩ = some av := (HOR9.out.below hb9).own.2.2.2.2.2.1; have qf21 := (HOR9.out.below hb9).own.2.2.2.2.2.2.2 21)
          have HOZ : Hid (OutAt (w9.setCell ⟨B5, 21, none⟩ (.slice ua l.length uc)) (w.heap.size + 3) B5 { S2 with answers := l, frames := fs ++ [⟨f.fn, f.pc, (f.regs.set kd 0).set kd z⟩] } (.slice (some ⟨fb, 0, none⟩) NF cap) ev2 (.slice ua l.length uc)) := HZ.1
          have HBZ : Hid (Below (w.heap.size + 3) W0 (w9.setCell ⟨B5, 21, none⟩ (.slice ua l.length uc))) := HBR9.out.trans HZ.2
          clear HZ q21 qf21 ho9 hb9 lf lp lr lfz
          generalize w9.setCell ⟨B5, 21, none⟩ (.slice ua l.length uc) = WZ at *
          generalize Value.slice ua l.length uc = av2 at *
          obtain ⟨-, -, -, lf, lp, lr, -⟩ := HOZ.out.lastCells rfl
          rw [← HTP.out] at lf lp lr
          try dsimp only at lf lp
          rw [HFP.out.2] at lp
          have lfz := HOZ.out.free (tp * 14 + 1)
          obtain ⟨hoG, hboG⟩ := HOZ.out.goes rfl ((jf : Int) + 1)
          have HOG8 : Hid (OutAt (WZ.setCell ⟨fb, tp * 14 + 1, none⟩ (.int .i64 ((jf : Int) + 1))) (w.heap.size + 3) B5 { S2 with answers := l, frames := fs ++ [⟨f.fn, (jf : Int) + 1, (f.regs.set kd 0).set kd z⟩] } (.slice (some ⟨fb, 0, none⟩) NF cap) ev2 av2) := by rw [HTP.out]; exact hoG
          have HBG8 : Hid (Below (w.heap.size + 3) W0 (WZ.setCell ⟨fb, tp * 14 + 1, none⟩ (.int .i64 ((jf : Int) + 1)))) := by rw [HTP.out]; exact HBZ.out.trans hboG
          clear hoG hboG
          have r5 := HOG8.out.cells
          have r4 : (WZ.setCell ⟨fb, tp * 14 + 1, none⟩ (.int .i64 ((jf : Int) + 1))).heap[w.heap.size + 1 + 1]? = some (.cells zeroStCells 29 (0, 0)) := (HBG8.out.block _ (by omega)).trans R4.out
          obtain ⟨csF, ecsF, hsiF, holdF, honeF⟩ := HOG8.out.at.val.cells
          have HCF : Hid (csF = _) := (Value.agg.inj ecsF).symm
          rw [← HCF.out] at r5
          clear ecsF
          go_upto_region 62 with fail
          go_wp2_with (refine wpList_load_row rfl _ _ rfl _ rfl _ _ _ _ r5 Tryd.underlying29 rfl hsiF ?_; simp only [Act.put, List.setIfInBounds_toArray, List.set_cons_zero, List.set_cons_succ]; refine wpList_store_row rfl _ _ _ rfl _ _ rfl rfl _ _ r4 hsiF holdF honeF ?_; rename_i KK hKK; refine hKK _ _ (wp_ret ?_); change bodyPost Tryd.prog Tryd.f66 (fun e w' => StepdPost P S w e w') .ret _ _; refine bodyPost_ret (results_cell_row rfl _ _ (w.heap.size + 1 + 1) 29 _ (0, 0) _ rfl (setRow_heap _ _ _ _ _ _ r4) Tryd.underlying29 rfl hsiF) rfl ⟨_, rfl, ?_, below_setRow (HBG8.out.mono (by omega) |> HW0.out.trans) (by omega) r4 _⟩; rw [HSX.out]; have hat := (HOG8.out.at.setRow (r := w.heap.size + 1 + 1) (by omega) csF).mono (show w.heap.size ≤ w.heap.size + 3 by omega); rw [← HCF.out] at hat; exact hat)
    by_cases ho19 : xo = 19
    · subst ho19
      go_upto_region 17 with (go_at_call 48; refine (in_any _ _ _ _).mono ?_; rintro e w' ⟨rfl, hw'⟩; replace hw' := hw'.symm; subst hw')
      generalize W4.setCell ⟨B5, 19, none⟩ (.int .i64 FU) = W5 at *
      clear x0 kp s2 s19 s21 q19 qf19 hwf HR4 HO4 HB4
      have x0 : W5.cell? ⟨X, 0, none⟩ = some (.int .i64 19) := by rw [cell_of_row _ _ _ _ _ _ HR5.out]; rfl
      have x1 : W5.cell? ⟨X, 1, none⟩ = some (.int .i64 (kd : Int)) := by rw [cell_of_row _ _ _ _ _ _ HR5.out]; rfl
      have x4 : W5.cell? ⟨X, 4, none⟩ = some (.int .i64 xi) := by rw [cell_of_row _ _ _ _ _ _ HR5.out]; rfl
      obtain ⟨-, -, -, lf, lp, lr, -⟩ := HO5.out.lastCells HE1.out.1
      rw [← HTP.out] at lf lp lr
      try dsimp only at lf lp
      rw [HFP.out.2] at lp
      have lfz := HO5.out.free (tp * 14 + 1)
      obtain ⟨-, -, q2, -, -, -, -, qf⟩ := HO5.out.own
      have qf2 := qf 2
      obtain ⟨hoP, hboP⟩ := HO5.out.pop HE1.out.1
      have HOP : Hid (OutAt (W5.setCell ⟨B5, 2, none⟩ (.slice (some ⟨fb, 0, none⟩) tp cap)) (w.heap.size + 3) B5 { S1 with frames := fs } (.slice (some ⟨fb, 0, none⟩) tp cap) ev av) := by rw [HTP.out]; exact hoP
      have HBP : Hid (Below (w.heap.size + 3) W0 (W5.setCell ⟨B5, 2, none⟩ (.slice (some ⟨fb, 0, none⟩) tp cap))) := by rw [HTP.out]; exact HB5.out.trans hboP
      clear qf hoP hboP x1 x4 lf lp lr lfz
      have htc : tp ≤ cap := by omega
      go_upto_region 54 with (go_at_call 48; refine (in_any _ _ _ _).mono ?_; rintro e w' ⟨rfl, hw'⟩; replace hw' := hw'.symm; subst hw')
      generalize W5.setCell ⟨B5, 2, none⟩ (.slice (some ⟨fb, 0, none⟩) tp cap) = W6 at *
      clear q2 qf2 x0
      rcases List.eq_nil_or_concat fs with hfs | ⟨gs, c, hfs⟩
      · have ht0 : tp = 0 := by rw [HTP.out, hfs]; rfl
        have hte : ((tp : Int) == 0) = true := by rw [ht0]; rfl
        have HSX : Hid (stepS P S = { S1 with frames := fs, status := 1, value := va }) := by
          show _ = _
          rw [HSD.out]
          unfold doS
          dsimp only
          rw [if_neg (by omega), if_neg (by omega), if_neg (by omega), if_neg (by omega), if_neg (by omega), if_neg (by omega), if_pos rfl, HVA.out.1]
          unfold retS
          rw [hfs]
          rfl
        obtain ⟨q0, -, -, -, -, -, -, qf⟩ := HOP.out.own
        have qf0 := qf 0
        obtain ⟨ho1, hbo1⟩ := HOP.out.put 0 (.int .i64 1) { S1 with frames := fs, status := 1 } rfl HOP.out.mem rfl rfl rfl
        obtain ⟨-, q1, -, -, -, -, -, qf'⟩ := ho1.own
        have qf1 := qf' 1
        obtain ⟨ho2, hbo2⟩ := ho1.put 1 (.int .i64 va) { S1 with frames := fs, status := 1, value := va } rfl ho1.mem rfl rfl rfl
        have HO7 : Hid (OutAt ((W6.setCell ⟨B5, 0, none⟩ (.int .i64 1)).setCell ⟨B5, 1, none⟩ (.int .i64 va)) (w.heap.size + 3) B5 { S1 with frames := fs, status := 1, value := va } (.slice (some ⟨fb, 0, none⟩) tp cap) ev av) := ho2
        have HB7 : Hid (Below (w.heap.size + 3) W0 ((W6.setCell ⟨B5, 0, none⟩ (.int .i64 1)).setCell ⟨B5, 1, none⟩ (.int .i64 va))) := HBP.out.trans (hbo1.trans hbo2)
        clear qf qf' ho1 ho2 hbo1 hbo2 ht0 hfs
        have r5 := HO7.out.cells
        have r4 : ((W6.setCell ⟨B5, 0, none⟩ (.int .i64 1)).setCell ⟨B5, 1, none⟩ (.int .i64 va)).heap[w.heap.size + 1 + 1]? = some (.cells zeroStCells 29 (0, 0)) := (HB7.out.block _ (by omega)).trans R4.out
        obtain ⟨csF, ecsF, hsiF, holdF, honeF⟩ := HO7.out.at.val.cells
        have HCF : Hid (csF = _) := (Value.agg.inj ecsF).symm
        rw [← HCF.out] at r5
        clear ecsF
        go_upto_region 57 with fail
        go_wp2_with (refine wpList_load_row rfl _ _ rfl _ rfl _ _ _ _ r5 Tryd.underlying29 rfl hsiF ?_; simp only [Act.put, List.setIfInBounds_toArray, List.set_cons_zero, List.set_cons_succ]; refine wpList_store_row rfl _ _ _ rfl _ _ rfl rfl _ _ r4 hsiF holdF honeF ?_; rename_i KK hKK; refine hKK _ _ (wp_ret ?_); change bodyPost Tryd.prog Tryd.f66 (fun e w' => StepdPost P S w e w') .ret _ _; refine bodyPost_ret (results_cell_row rfl _ _ (w.heap.size + 1 + 1) 29 _ (0, 0) _ rfl (setRow_heap _ _ _ _ _ _ r4) Tryd.underlying29 rfl hsiF) rfl ⟨_, rfl, ?_, below_setRow (HB7.out.mono (by omega) |> HW0.out.trans) (by omega) r4 _⟩; rw [HSX.out]; have hat := (HO7.out.at.setRow (r := w.heap.size + 1 + 1) (by omega) csF).mono (show w.heap.size ≤ w.heap.size + 3 by omega); rw [← HCF.out] at hat; exact hat)
      · have hfs2 : fs = gs ++ [c] := by rw [hfs]; simp
        have htg : tp = gs.length + 1 := by rw [HTP.out, hfs2]; simp
        obtain ⟨tq, htq⟩ : ∃ tq, tq = gs.length := ⟨_, rfl⟩
        rw [← htq] at htg
        subst htg
        have HTQ : Hid (tq = gs.length) := htq
        have HFS : Hid (fs = gs ++ [c]) := hfs2
        have hpl : placeB P c = true := HOK.out.up c (by rw [hfs2]; simp)
        have hte : (((tq + 1 : Nat) : Int) == 0) = false := by rw [beq_eq_false_iff_ne]; omega
        have hwq : IntKind.i64.wrap (((tq + 1 : Nat) : Int) - 1) = (tq : Int) := by rw [show ((tq + 1 : Nat) : Int) - 1 = tq by omega]; exact wrap_fits _ (by omega) (by omega)
        have htqI : (tq : Int) < ((tq + 1 : Nat) : Int) := by omega
        obtain ⟨kc, jc, pb2, po2, pcap2, b2, off2, m2, cap2, hcn, hcp, hve2, hkl2, hd2, hjm2, hm2, hcp2, -, -, hins⟩ := prog_ins (HPV.out W6 (HBX.out W6 HBP.out).2.2.2.2.2) hpl
        obtain ⟨⟨rfl, rfl⟩, rfl⟩ : (pb = pb2 ∧ po = po2) ∧ cap0 = pcap2 := by simpa using hve2
        have hins2 : insAt W6 b2 (off2 + jc * 5) (insOfFr P c) := hins
        have hyok := place_ins HOK.out.code hpl
        have hj40c : jc ≤ 1000 := by
          obtain ⟨k', j', hk', hj', e1, e2, -, -⟩ := place_nat hpl
          have := (fnOk_of HOK.out.code (List.getElem_mem hk')).1.len2
          omega
        obtain ⟨yo, yd, ya, yb, yi, hye⟩ : ∃ yo yd ya yb yi, insOfFr P c = ⟨yo, yd, ya, yb, yi⟩ := ⟨_, _, _, _, _, rfl⟩
        rw [hye] at hins2 hyok
        obtain ⟨i0, i1, i2, i3, i4⟩ := hins2
        dsimp only at i0 i1 i2 i3 i4
        obtain ⟨ky, hky⟩ := Int.eq_ofNat_of_zero_le hyok.dst0
        have hky12 := hyok.dst1
        dsimp only at hky hky12
        rw [hky] at i1 hky12
        have HSX : Hid (stepS P S = { S1 with frames := gs ++ [⟨c.fn, (jc : Int) + 1, c.regs.set ky va⟩] }) := by
          show _ = _
          rw [HSD.out]
          unfold doS
          dsimp only
          rw [if_neg (by omega), if_neg (by omega), if_neg (by omega), if_neg (by omega), if_neg (by omega), if_neg (by omega), if_pos rfl, HVA.out.1]
          unfold retS
          rw [hfs2]
          simp only [List.getLast?_append, List.getLast?_singleton, Option.some_or, List.dropLast_concat]
          rw [hye]
          dsimp only
          rw [hky]
          unfold putF
          rw [hcp]
          rfl
        have HCP : Hid (c.fn = kc ∧ c.pc = jc) := ⟨hcn, hcp⟩
        obtain ⟨-, hcc1, -, lf, lp, -, -⟩ := HOP.out.lastCells hfs2
        rw [← htq] at lf lp
        rw [hcn] at lf
        rw [hcp] at lp
        obtain ⟨kp, -, -, -, -, -⟩ := HBX.out W6 HBP.out
        obtain ⟨-, -, q2, -, -, -, -, -⟩ := HOP.out.own
        have hkcI : (kc : Int) < P.length := by omega
        have hjcI : (jc : Int) < m2 := by omega
        clear hfs hfs2 htq hve2 hins hyok hye hky hcn hcp hpl
        generalize hUU : ((tq + 1 : Nat) : Int) = TU at *
        clear hUU
        go_upto_region 59 with fail
        go_cut [15] from 270 to 284 (fun t wx => ∃ Y : Nat, t = .pointer (some ⟨Y, 0, none⟩) ∧ wx.heap[Y]? = some (.cells #[.int .i64 yo, .int .i64 (ky : Int), .int .i64 ya, .int .i64 yb, .int .i64 yi] 61 (0, 0)) ∧ Below W6.heap.size W6 wx)
        case first =>
          refine wp_region_held_drew (S := fun W => Below W6.heap.size W6 W) (by kernel_rfl) ((Below.refl _ _).drew) (fun hHeld => ?_)
          show wpAnyH _ _ _ _ _ 17 _ _ _
          refine wpAnyH_take (i := 0) (v := ?_) rfl (by kernel_rfl) (by kernel_rfl) (by kernel_rfl) (fun _ _ _ h => h) (Or.inl ⟨by rfl, ?_⟩) (by assumption) ?_
          rotate_left
          · (intro W hSW; go_simp; try (with_reducible rfl))
          (try simp only [Act.put, List.setIfInBounds_toArray])
          refine wpAnyH_take (i := 1) (v := ?_) rfl (by kernel_rfl) (by kernel_rfl) (by kernel_rfl) (fun _ _ _ h => h) (Or.inl ⟨by rfl, ?_⟩) (by assumption) ?_
          rotate_left
          · (intro W hSW; have z0 := keeps_below hSW _ _ kp; go_simp; try (with_reducible rfl))
          (try simp only [Act.put])
          refine wpAnyH_take (i := 2) (v := ?_) rfl (by kernel_rfl) (by kernel_rfl) (by kernel_rfl) (fun _ _ _ h => h) (Or.inl ⟨by rfl, ?_⟩) (by assumption) ?_
          rotate_left
          · (intro W hSW; go_simp; try (with_reducible rfl))
          (try simp only [Act.put])
          refine wpAnyH_take (i := 3) (v := ?_) rfl (by kernel_rfl) (by kernel_rfl) (by kernel_rfl) (fun _ _ _ h => h) (Or.inl ⟨by rfl, ?_⟩) (by assumption) ?_
          rotate_left
          · (intro W hSW; go_simp; try (with_reducible rfl))
          (try simp only [Act.put])
          refine wpAnyH_take (i := 4) (v := ?_) rfl (by kernel_rfl) (by kernel_rfl) (by kernel_rfl) (fun _ _ _ h => h) (Or.inl ⟨by rfl, ?_⟩) (by assumption) ?_
          rotate_left
          · (intro W hSW; go_simp; try (with_reducible rfl))
          (try simp only [Act.put])
          refine wpAnyH_take (i := 5) (v := ?_) rfl (by kernel_rfl) (by kernel_rfl) (by kernel_rfl) (fun _ _ _ h => h) (Or.inl ⟨by rfl, ?_⟩) (by assumption) ?_
          rotate_left
          · (intro W hSW; have z0 := keeps_below hSW _ _ lf; go_simp; try (with_reducible rfl))
          (try simp only [Act.put])
          refine wpAnyH_take (i := 6) (v := ?_) rfl (by kernel_rfl) (by kernel_rfl) (by kernel_rfl) (fun _ _ _ h => h) (Or.inl ⟨by rfl, ?_⟩) (by assumption) ?_
          rotate_left
          · (intro W hSW; go_simp; try (with_reducible rfl))
          (try simp only [Act.put])
          refine wpAnyH_take (i := 7) (v := ?_) rfl (by kernel_rfl) (by kernel_rfl) (by kernel_rfl) (fun _ _ _ h => h) (Or.inl ⟨by rfl, ?_⟩) (by assumption) ?_
          rotate_left
          · (intro W hSW; go_simp; try (with_reducible rfl))
          (try simp only [Act.put])
          refine wpAnyH_take (i := 8) (v := ?_) rfl (by kernel_rfl) (by kernel_rfl) (by kernel_rfl) (fun _ _ _ h => h) (Or.inl ⟨by rfl, ?_⟩) (by assumption) ?_
          rotate_left
          · (intro W hSW; have z0 := keeps_below hSW _ _ hd2; go_simp; try (with_reducible rfl))
          (try simp only [Act.put])
          refine wpAnyH_take (i := 9) (v := ?_) rfl (by kernel_rfl) (by kernel_rfl) (by kernel_rfl) (fun _ _ _ h => h) (Or.inl ⟨by rfl, ?_⟩) (by assumption) ?_
          rotate_left
          · (intro W hSW; go_simp; try (with_reducible rfl))
          (try simp only [Act.put])
          refine wpAnyH_take (i := 10) (v := ?_) rfl (by kernel_rfl) (by kernel_rfl) (by kernel_rfl) (fun _ _ _ h => h) (Or.inl ⟨by rfl, ?_⟩) (by assumption) ?_
          rotate_left
          · (intro W hSW; go_simp; try (with_reducible rfl))
          (try simp only [Act.put])
          refine wpAnyH_take (i := 11) (v := ?_) rfl (by kernel_rfl) (by kernel_rfl) (by kernel_rfl) (fun _ _ _ h => h) (Or.inl ⟨by rfl, ?_⟩) (by assumption) ?_
          rotate_left
          · (intro W hSW; go_simp; try (with_reducible rfl))
          (try simp only [Act.put])
          refine wpAnyH_take (i := 12) (v := ?_) rfl (by kernel_rfl) (by kernel_rfl) (by kernel_rfl) (fun _ _ _ h => h) (Or.inl ⟨by rfl, ?_⟩) (by assumption) ?_
          rotate_left
          · (intro W hSW; have z0 := keeps_below hSW _ _ lp; go_simp; try (with_reducible rfl))
          (try simp only [Act.put])
          refine wpAnyH_take (i := 13) (v := ?_) rfl (by kernel_rfl) (by kernel_rfl) (by kernel_rfl) (fun _ _ _ h => h) (Or.inl ⟨by rfl, ?_⟩) (by assumption) ?_
          rotate_left
          · (intro W hSW; go_simp; try (with_reducible rfl))
          (try simp only [Act.put])
          refine wpAnyH_take (i := 14) (v := ?_) rfl (by kernel_rfl) (by kernel_rfl) (by kernel_rfl) (fun _ _ _ h => h) (Or.inl ⟨by rfl, ?_⟩) (by assumption) ?_
          rotate_left
          · (intro W hSW; have z0 := keeps_below hSW _ _ i0; have z1 := keeps_below hSW _ _ i1; have z2 := keeps_below hSW _ _ i2; have z3 := keeps_below hSW _ _ i3; have z4 := keeps_below hSW _ _ i4; go_simp; try (with_reducible rfl))
          (try simp only [Act.put])
          refine wpAnyH_ready (rs := [15]) (by kernel_rfl) (by simp) ?_
          refine AllReadyH.cons rfl (fun K hK => ?_) AllReadyH.nil
          go_simp
          refine hK.out _ _ ((Below.refl _ _).alloc (Nat.le_refl _) _).drew (fun _ => ?_)
          clear hK K
          (try simp only [Act.put, List.setIfInBounds_toArray, List.set_cons_zero, List.set_cons_succ])
          refine wpAnyH_ready (rs := [16]) (by kernel_rfl) (by simp) ?_
          refine AllReadyH.cons rfl (fun K hK => ?_) AllReadyH.nil
          go_simp
          refine hK.out _ _ ((Below.refl _ _).alloc (Nat.le_refl _) _).drew (fun _ => ?_)
          clear hK K
          (try simp only [Act.put, List.setIfInBounds_toArray, List.set_cons_zero, List.set_cons_succ])
          refine wpAnyH_done (by kernel_rfl) ?_ _
          go_wp2_with fail
          go_meet
          exact ⟨_, rfl, heap_alloc_last W6 _, ((Below.refl _ _).alloc (Nat.le_refl _) _).drew⟩
        case rest =>
          rename World => WY
          obtain ⟨Y, rfl, rowY, bY⟩ := hcut
          have HOY : Hid (OutAt WY (w.heap.size + 3) B5 { S1 with frames := fs } (.slice (some ⟨fb, 0, none⟩) (tq + 1) cap) ev av) := HOP.out.below bY
          have HBY : Hid (Below (w.heap.size + 3) W0 WY) := HBP.out.trans (bY.mono (by have := HOP.out.base; omega))
          have y1 : WY.cell? ⟨Y, 1, none⟩ = some (.int .i64 (ky : Int)) := by rw [cell_of_row _ _ _ _ _ _ rowY]; rfl
          clear lf lp kp q2 i0 i1 i2 i3 i4 hd2 rowY bY HOP HBP
          obtain ⟨-, -, -, -, -, lr, -⟩ := HOY.out.lastCells HFS.out
          rw [← HTQ.out] at lr
          have rd := lr ky (by omega)
          have rdz := HOY.out.free (tq * 14 + 2 + ky)
          have hd := HOY.out.below ((Below.refl WY.heap.size WY).drew)
          obtain ⟨hoR, hboR⟩ := hd.reg HFS.out ky va
          rw [← HTQ.out] at hoR hboR
          have HOR7 : Hid (OutAt (WY.drew.setCell ⟨fb, tq * 14 + 2 + ky, none⟩ (.int .i64 va)) (w.heap.size + 3) B5 { S1 with frames := gs ++ [⟨c.fn, c.pc, c.regs.set ky va⟩] } (.slice (some ⟨fb, 0, none⟩) (tq + 1) cap) ev av) := hoR
          have HBR7 : Hid (Below (w.heap.size + 3) W0 (WY.drew.setCell ⟨fb, tq * 14 + 2 + ky, none⟩ (.int .i64 va))) := HBY.out.drew.trans hboR
          clear hoR hboR hd lr
          go_upto_region 60 with fail
          refine wp_region_last (S := fun W => Below WY.heap.size WY W) _ 7 (by kernel_rfl) (by kernel_rfl) rfl ((Below.refl _ _).drew) (fun hHeld => ?_)
          simp only [List.pop_toArray, List.dropLast]
          refine wpAnyH_take (i := 0) (v := ?_) rfl (by kernel_rfl) (by kernel_rfl) (by kernel_rfl) (fun _ _ _ h => h) (Or.inl ⟨by rfl, ?_⟩) (by assumption) ?_
          rotate_left
          · (intro W hSW; go_simp; try (with_reducible rfl))
          (try simp only [Act.put, List.setIfInBounds_toArray])
          refine wpAnyH_take (i := 1) (v := ?_) rfl (by kernel_rfl) (by kernel_rfl) (by kernel_rfl) (fun _ _ _ h => h) (Or.inl ⟨by rfl, ?_⟩) (by assumption) ?_
          rotate_left
          · (intro W hSW; go_simp; try (with_reducible rfl))
          (try simp only [Act.put])
          refine wpAnyH_take (i := 2) (v := ?_) rfl (by kernel_rfl) (by kernel_rfl) (by kernel_rfl) (fun _ _ _ h => h) (Or.inl ⟨by rfl, ?_⟩) (by assumption) ?_
          rotate_left
          · (intro W hSW; have z0 := keeps_below hSW _ _ y1; go_simp; try (with_reducible rfl))
          (try simp only [Act.put])
          refine wpAnyH_take (i := 3) (v := ?_) rfl (by kernel_rfl) (by kernel_rfl) (by kernel_rfl) (fun _ _ _ h => h) (Or.inl ⟨by rfl, ?_⟩) (by assumption) ?_
          rotate_left
          · (intro W hSW; go_simp; try (with_reducible rfl))
          (try simp only [Act.put])
          refine wpAnyH_take (i := 4) (v := ?_) rfl (by kernel_rfl) (by kernel_rfl) (by kernel_rfl) (fun _ _ _ h => h) (Or.inl ⟨by rfl, ?_⟩) (by assumption) ?_
          rotate_left
          · (intro W hSW; go_simp; try (with_reducible rfl))
          (try simp only [Act.put])
          refine wpAnyH_take (i := 5) (v := ?_) rfl (by kernel_rfl) (by kernel_rfl) (by kernel_rfl) (fun _ _ _ h => h) (Or.inl ⟨by rfl, ?_⟩) (by assumption) ?_
          rotate_left
          · (intro W hSW; go_simp; try (with_reducible rfl))
          (try simp only [Act.put])
          refine wpAnyH_take (i := 6) (v := ?_) rfl (by kernel_rfl) (by kernel_rfl) (by kernel_rfl) (fun _ _ _ h => h) (Or.inl ⟨by rfl, ?_⟩) (by assumption) ?_
          rotate_left
          · (intro W hSW; go_simp; try (with_reducible rfl))
          (try simp only [Act.put])
          refine wpAnyH_done (by kernel_rfl) ?_ _
          refine Or.inl ?_
          have hcD : WY.drew.cell? ⟨fb, tq * 14 + 2 + ky, none⟩ = some (.int .i64 _) := rd
          have hfD : WY.drew.frozen? ⟨fb, tq * 14 + 2 + ky, none⟩ = false := rdz
          clear hHeld
          go_simp
          go_upto_region 61 with fail
          rw [show (WY.setCell ⟨fb, tq * 14 + 2 + ky, none⟩ (.int .i64 va)).drew = WY.drew.setCell ⟨fb, tq * 14 + 2 + ky, none⟩ (.int .i64 va) from rfl]
          clear hcD hfD rd rdz
          generalize WY.drew.setCell ⟨fb, tq * 14 + 2 + ky, none⟩ (.int .i64 va) = W7 at *
          obtain ⟨-, -, -, -, lp, -, -⟩ := HOR7.out.lastCells rfl
          rw [← HTQ.out] at lp
          try dsimp only at lp
          rw [HCP.out.2] at lp
          have lfz := HOR7.out.free (tq * 14 + 1)
          obtain ⟨hoG, hboG⟩ := HOR7.out.goes rfl ((jc : Int) + 1)
          rw [← HTQ.out] at hoG hboG
          have HOG8 : Hid (OutAt (W7.setCell ⟨fb, tq * 14 + 1, none⟩ (.int .i64 ((jc : Int) + 1))) (w.heap.size + 3) B5 { S1 with frames := gs ++ [⟨c.fn, (jc : Int) + 1, c.regs.set ky va⟩] } (.slice (some ⟨fb, 0, none⟩) (tq + 1) cap) ev av) := hoG
          have HBG8 : Hid (Below (w.heap.size + 3) W0 (W7.setCell ⟨fb, tq * 14 + 1, none⟩ (.int .i64 ((jc : Int) + 1)))) := HBR7.out.trans hboG
          clear hoG hboG
          have r5 := HOG8.out.cells
          have r4 : (W7.setCell ⟨fb, tq * 14 + 1, none⟩ (.int .i64 ((jc : Int) + 1))).heap[w.heap.size + 1 + 1]? = some (.cells zeroStCells 29 (0, 0)) := (HBG8.out.block _ (by omega)).trans R4.out
          obtain ⟨csF, ecsF, hsiF, holdF, honeF⟩ := HOG8.out.at.val.cells
          have HCF : Hid (csF = _) := (Value.agg.inj ecsF).symm
          rw [← HCF.out] at r5
          clear ecsF
          go_upto_region 62 with fail
          go_wp2_with (refine wpList_load_row rfl _ _ rfl _ rfl _ _ _ _ r5 Tryd.underlying29 rfl hsiF ?_; simp only [Act.put, List.setIfInBounds_toArray, List.set_cons_zero, List.set_cons_succ]; refine wpList_store_row rfl _ _ _ rfl _ _ rfl rfl _ _ r4 hsiF holdF honeF ?_; rename_i KK hKK; refine hKK _ _ (wp_ret ?_); change bodyPost Tryd.prog Tryd.f66 (fun e w' => StepdPost P S w e w') .ret _ _; refine bodyPost_ret (results_cell_row rfl _ _ (w.heap.size + 1 + 1) 29 _ (0, 0) _ rfl (setRow_heap _ _ _ _ _ _ r4) Tryd.underlying29 rfl hsiF) rfl ⟨_, rfl, ?_, below_setRow (HBG8.out.mono (by omega) |> HW0.out.trans) (by omega) r4 _⟩; rw [HSX.out]; have hat := (HOG8.out.at.setRow (r := w.heap.size + 1 + 1) (by omega) csF).mono (show w.heap.size ≤ w.heap.size + 3 by omega); rw [← HCF.out] at hat; exact hat)
    by_cases ho17 : xo = 17
    · subst ho17
      obtain ⟨xc0, xc1, -, -⟩ := HXC.out rfl
      obtain ⟨ki, hki⟩ := Int.eq_ofNat_of_zero_le xc0
      have hkil : ki < P.length := by omega
      subst hki
      clear xc0 xc1
      go_upto_region 17 with (go_at_call 48; refine (in_any _ _ _ _).mono ?_; rintro e w' ⟨rfl, hw'⟩; replace hw' := hw'.symm; subst hw')
      generalize W4.setCell ⟨B5, 19, none⟩ (.int .i64 FU) = W5 at *
      clear x0 kp s2 s19 s21 q19 qf19 hwf HR4 HO4 HB4
      have x0 : W5.cell? ⟨X, 0, none⟩ = some (.int .i64 17) := by rw [cell_of_row _ _ _ _ _ _ HR5.out]; rfl
      have x1 : W5.cell? ⟨X, 1, none⟩ = some (.int .i64 (kd : Int)) := by rw [cell_of_row _ _ _ _ _ _ HR5.out]; rfl
      have x4 : W5.cell? ⟨X, 4, none⟩ = some (.int .i64 (ki : Int)) := by rw [cell_of_row _ _ _ _ _ _ HR5.out]; rfl
      obtain ⟨-, -, -, lf, lp, lr, -⟩ := HO5.out.lastCells HE1.out.1
      rw [← HTP.out] at lf lp lr
      try dsimp only at lf lp
      rw [HFP.out.2] at lp
      have lfz := HO5.out.free (tp * 14 + 1)
      by_cases h8 : NF = 8
      · have h8b : ((NF : Int) == 8) = true := by rw [h8]; rfl
        have HSX : Hid (stepS P S = { S1 with status := 5 }) := by
          show _ = _
          rw [HSD.out]
          unfold doS
          dsimp only
          rw [if_neg (by omega), if_neg (by omega), if_neg (by omega), if_neg (by omega), if_pos rfl, if_pos (by have h1 := HTP.out; have h2 := HNF.out; omega)]
        obtain ⟨q0, -, -, -, -, -, -, qf⟩ := HO5.out.own
        have qf0 := qf 0
        obtain ⟨-, s2, -, -, -, -⟩ := HBX.out W5 HB5.out
        obtain ⟨ho1, hbo1⟩ := HO5.out.put 0 (.int .i64 5) { S1 with status := 5 } rfl HO5.out.mem rfl rfl rfl
        have HO1 : Hid (OutAt (W5.setCell ⟨B5, 0, none⟩ (.int .i64 5)) (w.heap.size + 3) B5 { S1 with status := 5 } (.slice (some ⟨fb, 0, none⟩) NF cap) ev av) := ho1
        have HB6 : Hid (Below (w.heap.size + 3) W0 (W5.setCell ⟨B5, 0, none⟩ (.int .i64 5))) := HB5.out.trans hbo1
        clear qf ho1 hbo1 h8
        have r5 := HO1.out.cells
        have r4 : (W5.setCell ⟨B5, 0, none⟩ (.int .i64 5)).heap[w.heap.size + 1 + 1]? = some (.cells zeroStCells 29 (0, 0)) := (HB6.out.block _ (by omega)).trans R4.out
        obtain ⟨csF, ecsF, hsiF, holdF, honeF⟩ := HO1.out.at.val.cells
        have HCF : Hid (csF = _) := (Value.agg.inj ecsF).symm
        rw [← HCF.out] at r5
        clear ecsF
        go_upto_region 45 with (go_at_call 48; refine (in_any _ _ _ _).mono ?_; rintro e w' ⟨rfl, hw'⟩; replace hw' := hw'.symm; subst hw')
        go_wp2_with (refine wpList_load_row rfl _ _ rfl _ rfl _ _ _ _ r5 Tryd.underlying29 rfl hsiF ?_; simp only [Act.put, List.setIfInBounds_toArray, List.set_cons_zero, List.set_cons_succ]; refine wpList_store_row rfl _ _ _ rfl _ _ rfl rfl _ _ r4 hsiF holdF honeF ?_; rename_i KK hKK; refine hKK _ _ (wp_ret ?_); change bodyPost Tryd.prog Tryd.f66 (fun e w' => StepdPost P S w e w') .ret _ _; refine bodyPost_ret (results_cell_row rfl _ _ (w.heap.size + 1 + 1) 29 _ (0, 0) _ rfl (setRow_heap _ _ _ _ _ _ r4) Tryd.underlying29 rfl hsiF) rfl ⟨_, rfl, ?_, below_setRow (HB6.out.mono (by omega) |> HW0.out.trans) (by omega) r4 _⟩; rw [HSX.out]; have hat := (HO1.out.at.setRow (r := w.heap.size + 1 + 1) (by omega) csF).mono (show w.heap.size ≤ w.heap.size + 3 by omega); rw [← HCF.out] at hat; exact hat)
      · have h8b : ((NF : Int) == 8) = false := by rw [beq_eq_false_iff_ne]; omega
        obtain ⟨iF, hiF, eF1, eF2⟩ : ∃ i, Tryd.prog.info? 55 = some i ∧ i.size = 14 ∧ i.bytes = 112 := by
          have := infoFrame
          cases h : Tryd.prog.info? 55 with
          | none => rw [h] at this; simp at this
          | some i => rw [h] at this; simp at this; exact ⟨i, rfl, this.1, this.2⟩
        have eFz : iF.zero = some (.agg (zeroFr 0).toArray) := by have := zeroFrame; rw [hiF] at this; simpa using this
        have hfnk := (fnOk_of HOK.out.code (List.getElem_mem hkil)).1
        obtain ⟨pp, hpp⟩ := Int.eq_ofNat_of_zero_le hfnk.p0
        have hpp2 : pp ≤ 2 := by have := hfnk.p2; omega
        have HSX0 : Hid (stepS P S = { S1 with frames := fs ++ [f, begunFr (ki : Int) ([va, vb].take pp)] }) := by
          show _ = _
          rw [HSD.out]
          unfold doS
          dsimp only
          rw [if_neg (by omega), if_neg (by omega), if_neg (by omega), if_neg (by omega), if_pos rfl, if_neg (by have h1 := HTP.out; have h2 := HNF.out; omega), HVA.out.1, HVA.out.2]
          have e : (fnD P (ki : Int)).params.toNat = pp := by
            unfold fnD
            rw [Int.toNat_natCast, List.getD_eq_getElem?_getD, List.getElem?_eq_getElem hkil]
            show P[ki].params.toNat = pp
            rw [hpp]; rfl
          rw [e]
        obtain ⟨pb2, po2, pcap2, -, hve2, d0, -, -, -, -, -⟩ := prog_fn (HPV.out W5 (HBX.out W5 HB5.out).2.2.2.2.2) hkil
        obtain ⟨⟨rfl, rfl⟩, rfl⟩ : (pb = pb2 ∧ po = po2) ∧ cap0 = pcap2 := by simpa using hve2
        rw [hpp] at d0
        obtain ⟨kp, s2, -, -, -, -⟩ := HBX.out W5 HB5.out
        obtain ⟨-, -, q2, -, -, -, -, -⟩ := HO5.out.own
        have HFR : Hid (W5.ownsRow (w.heap.size + 3) 55 14 (.slice (some ⟨fb, 0, none⟩) NF cap) NF (framesCells S1.frames)) := by have h := HO5.out.frames; rw [HE1.out.1] at h ⊢; rw [show (fs ++ [f]).length = NF from by rw [← HOK.out.frs]; exact HNN.out] at h; exact h
        have hkiI : (ki : Int) < P.length := by omega
        have hbz := HO5.out.base
        have D0 := fun o => cell_alloc d0 o
        have KP := fun o => cell_alloc kp o
        have Q2 := fun o => cell_alloc q2 o
        have X4 := fun o => cell_alloc x4 o
        have HPSH : Hid (∀ (wa : World) (cs : List Value) (n : Nat) (o : Obj) (w1 : World) (g1 cap1 : Nat), Below W5.heap.size W5 wa → framesCells [begunFr (ki : Int) ([va, vb].take n)] = cs → (begunFr (ki : Int) ([va, vb].take n)).regs.length = 12 → w1.ownsRow (w.heap.size + 3) 55 14 (.slice (some ⟨g1, 0, none⟩) (NF + 1) cap1) (NF + 1) (framesCells S1.frames ++ cs) → (wa.alloc o).grownBy w1 (Value.slice (some ⟨fb, 0, none⟩) NF cap).ownBlock → ((Value.slice (some ⟨fb, 0, none⟩) NF cap).ownBlock = some g1 ∨ g1 = wa.heap.size + 1) → (w1.cell? ⟨B5, 2, none⟩ = some (.slice (some ⟨fb, 0, none⟩) NF cap) ∧ w1.frozen? ⟨B5, 2, none⟩ = false) ∧ OutAt (w1.setCell ⟨B5, 2, none⟩ (.slice (some ⟨g1, 0, none⟩) (NF + 1) cap1)) (w.heap.size + 3) B5 { S1 with frames := S1.frames ++ [begunFr (ki : Int) ([va, vb].take n)] } (.slice (some ⟨g1, 0, none⟩) (NF + 1) cap1) ev av ∧ Below (w.heap.size + 3) W0 (w1.setCell ⟨B5, 2, none⟩ (.slice (some ⟨g1, 0, none⟩) (NF + 1) cap1))) := fun wa cs n o w1 g1 cap1 hwa hcs h12 ho hg hat => by
          have hn : NF = S1.frames.length := by rw [HE1.out.1, ← HOK.out.frs]; exact HNN.out.symm
          subst hn
          rw [← hcs, ← framesCells_append] at ho
          have hb := (Below.refl wa.heap.size wa).alloc (Nat.le_refl _) o
          have hOa := (HO5.out.below hwa).below hb
          obtain ⟨h1, h2, h3⟩ := hOa.push h12 ho hg (by simpa using hat)
          refine ⟨⟨by rw [cell_of_row _ _ _ _ _ _ h1]; rfl, row_free h1 2⟩, h2, HB5.out.trans ((hwa.mono HO5.out.base).trans ((hb.mono (by have := hwa.size; have := HO5.out.base; omega)).trans h3))⟩
        have DC : Hid (W5.cell? ⟨pb, po + ki * 3, none⟩ = some (.int .i64 (pp : Int))) := d0
        clear hve2 d0 kp q2 hfnk hpp x0 x1 lf lp lr lfz
        have x0 : W5.cell? ⟨X, 0, none⟩ = some (.int .i64 17) := by rw [cell_of_row _ _ _ _ _ _ HR5.out]; rfl
        go_upto_region 46 with (go_at_call 48; refine (in_any _ _ _ _).mono ?_; rintro e w' ⟨rfl, hw'⟩; replace hw' := hw'.symm; subst hw')
        go_upto_region 47 with (first
          | (refine wpList_store_row rfl _ _ _ rfl _ #[.int .i64 (ki : Int), .int .i64 0, .int .i64 0, .int .i64 0, .int .i64 0, .int .i64 0, .int .i64 0, .int .i64 0, .int .i64 0, .int .i64 0, .int .i64 0, .int .i64 0, .int .i64 0, .int .i64 0] rfl rfl 55 (zeroFr 0).toArray (heap_alloc_last W5 _) infoFr rfl (by decide) ?_; rw [World.setRow_alloc_new]))
        clear x0 x4
        have rG : (W5.alloc (.cells #[.int .i64 (ki : Int), .int .i64 0, .int .i64 0, .int .i64 0, .int .i64 0, .int .i64 0, .int .i64 0, .int .i64 0, .int .i64 0, .int .i64 0, .int .i64 0, .int .i64 0, .int .i64 0, .int .i64 0] 55)).heap[W5.heap.size]? = some (.cells #[.int .i64 (ki : Int), .int .i64 0, .int .i64 0, .int .i64 0, .int .i64 0, .int .i64 0, .int .i64 0, .int .i64 0, .int .i64 0, .int .i64 0, .int .i64 0, .int .i64 0, .int .i64 0, .int .i64 0] 55 (0, 0)) := heap_alloc_last W5 _
        have gf := fun i => row_free rG i
        have bG : Below W5.heap.size W5 (W5.alloc (.cells #[.int .i64 (ki : Int), .int .i64 0, .int .i64 0, .int .i64 0, .int .i64 0, .int .i64 0, .int .i64 0, .int .i64 0, .int .i64 0, .int .i64 0, .int .i64 0, .int .i64 0, .int .i64 0, .int .i64 0] 55)) := (Below.refl _ _).alloc (Nat.le_refl _) _
        have kpG := KP (.cells #[.int .i64 (ki : Int), .int .i64 0, .int .i64 0, .int .i64 0, .int .i64 0, .int .i64 0, .int .i64 0, .int .i64 0, .int .i64 0, .int .i64 0, .int .i64 0, .int .i64 0, .int .i64 0, .int .i64 0] 55)
        have d0G := D0 (.cells #[.int .i64 (ki : Int), .int .i64 0, .int .i64 0, .int .i64 0, .int .i64 0, .int .i64 0, .int .i64 0, .int .i64 0, .int .i64 0, .int .i64 0, .int .i64 0, .int .i64 0, .int .i64 0, .int .i64 0] 55)
        have q2G := Q2 (.cells #[.int .i64 (ki : Int), .int .i64 0, .int .i64 0, .int .i64 0, .int .i64 0, .int .i64 0, .int .i64 0, .int .i64 0, .int .i64 0, .int .i64 0, .int .i64 0, .int .i64 0, .int .i64 0, .int .i64 0] 55)
        have x4G := X4 (.cells #[.int .i64 (ki : Int), .int .i64 0, .int .i64 0, .int .i64 0, .int .i64 0, .int .i64 0, .int .i64 0, .int .i64 0, .int .i64 0, .int .i64 0, .int .i64 0, .int .i64 0, .int .i64 0, .int .i64 0] 55)
        clear KP D0 Q2 X4
        obtain ⟨WG, hWG⟩ : ∃ WG, WG = W5.alloc (.cells #[.int .i64 (ki : Int), .int .i64 0, .int .i64 0, .int .i64 0, .int .i64 0, .int .i64 0, .int .i64 0, .int .i64 0, .int .i64 0, .int .i64 0, .int .i64 0, .int .i64 0, .int .i64 0, .int .i64 0] 55) := ⟨_, rfl⟩
        obtain ⟨GB, hGB⟩ : ∃ GB, GB = W5.heap.size := ⟨_, rfl⟩
        rw [← hWG] at rG gf bG kpG d0G q2G x4G
        rw [← hWG]
        rw [← hGB] at rG gf
        rw [← hGB]
        have hGf : GB ≠ pb ∧ GB ≠ X ∧ GB ≠ B5 ∧ GB ≠ w.heap.size := by
          have hk1 := World.block_lt_of_cell? _ _ (HBX.out W5 HB5.out).1
          have hk2 := lt_of_block HR5.out
          have hk3 := lt_of_block HO5.out.cells
          have hk4 := World.block_lt_of_cell? _ _ DC.out
          exact ⟨by rw [hGB]; exact Nat.ne_of_gt hk4, by rw [hGB]; exact Nat.ne_of_gt hk2, by rw [hGB]; exact Nat.ne_of_gt hk3, by rw [hGB]; exact Nat.ne_of_gt hk1⟩
        have HGF : Hid ((Value.slice (some ⟨fb, 0, none⟩) NF cap).ownBlock ≠ some GB) := fun e => by have h := (HFR.out.lt GB e).2; rw [hGB] at h; omega
        have HGW : Hid (W5.heap.size ≤ GB) := by show _ ≤ _; rw [hGB]; exact Nat.le_refl _
        clear hGB hWG
        rcases (show pp = 0 ∨ pp = 1 ∨ pp = 2 by omega) with rfl | rfl | rfl
        · have HSX : Hid (stepS P S = { S1 with frames := S1.frames ++ [begunFr (ki : Int) ([va, vb].take 0)] }) := by show _ = _; rw [HSX0.out, HE1.out.1]; simp
          have HFRn : Hid (WG.ownsRow (w.heap.size + 3) 55 14 (.slice (some ⟨fb, 0, none⟩) NF cap) NF (framesCells S1.frames)) := by
            have h := ownsRow_below HFR.out bG
            exact h
          have HBn : Hid (Below W5.heap.size W5 WG) := bG
          have hzn : (w.heap.size + 3) ≤ WG.heap.size := by have := HBn.out.size; omega
          have q2A := fun o => cell_alloc q2G o
          have infoF14 := infoFr
          have hzG : (w.heap.size + 3) ≤ WG.heap.size := by have := bG.size; omega
          go_upto_region 51 with fail
          go_upto_region 62 with (first | (refine wpList_load_row rfl _ _ rfl _ rfl _ _ _ _ rG Tryd.underlying55 rfl infoF14 ?_) | (at_builtin; refine wpList_append_lies _ rfl (.tmp 247) (.tmp 249) 25 rfl (w.heap.size + 3) 55 iF _ 14 112 Tryd.underlying25 hiF eFz eF1 eF2 rfl (by decide) (.slice (some ⟨fb, 0, none⟩) NF cap) NF (framesCells S1.frames) rfl (HFRn.out.alloc _) ⟨_, 0, none⟩ 1 1 [.int .i64 (ki : Int), .int .i64 0, .int .i64 0, .int .i64 0, .int .i64 0, .int .i64 0, .int .i64 0, .int .i64 0, .int .i64 0, .int .i64 0, .int .i64 0, .int .i64 0, .int .i64 0, .int .i64 0] rfl rfl (news_list _ _ _ _ (by simp)) (by simp [Value.oneCell']) Nat.one_pos (by unfold maxLen; omega) (by omega) (by simp; omega) (WG.heap.size + 1) (by simp) ?_; intro g1 cap1 w6 hown6 hg6 hat6 hlt6; have HQ := HPSH.out WG [.int .i64 (ki : Int), .int .i64 0, .int .i64 0, .int .i64 0, .int .i64 0, .int .i64 0, .int .i64 0, .int .i64 0, .int .i64 0, .int .i64 0, .int .i64 0, .int .i64 0, .int .i64 0, .int .i64 0] 0 _ w6 g1 cap1 HBn.out rfl rfl hown6 hg6 hat6; have qe := HQ.1.1; have qq := HQ.1.2))
          have HO7 : Hid (OutAt (w6.setCell ⟨B5, 2, none⟩ (.slice (some ⟨g1, 0, none⟩) (NF + 1) cap1)) (w.heap.size + 3) B5 { S1 with frames := S1.frames ++ [begunFr (ki : Int) ([va, vb].take 0)] } (.slice (some ⟨g1, 0, none⟩) (NF + 1) cap1) ev av) := HQ.2.1
          have HB7 : Hid (Below (w.heap.size + 3) W0 (w6.setCell ⟨B5, 2, none⟩ (.slice (some ⟨g1, 0, none⟩) (NF + 1) cap1))) := HQ.2.2
          clear HQ qe qq hown6 hg6 hat6 hlt6
          have r5 := HO7.out.cells
          have r4 : (w6.setCell ⟨B5, 2, none⟩ (.slice (some ⟨g1, 0, none⟩) (NF + 1) cap1)).heap[w.heap.size + 1 + 1]? = some (.cells zeroStCells 29 (0, 0)) := (HB7.out.block _ (by omega)).trans R4.out
          obtain ⟨csF, ecsF, hsiF, holdF, honeF⟩ := HO7.out.at.val.cells
          have HCF : Hid (csF = _) := (Value.agg.inj ecsF).symm
          rw [← HCF.out] at r5
          clear ecsF
          go_upto_region 62 with fail
          go_wp2_with (refine wpList_load_row rfl _ _ rfl _ rfl _ _ _ _ r5 Tryd.underlying29 rfl hsiF ?_; simp only [Act.put, List.setIfInBounds_toArray, List.set_cons_zero, List.set_cons_succ]; refine wpList_store_row rfl _ _ _ rfl _ _ rfl rfl _ _ r4 hsiF holdF honeF ?_; rename_i KK hKK; refine hKK _ _ (wp_ret ?_); change bodyPost Tryd.prog Tryd.f66 (fun e w' => StepdPost P S w e w') .ret _ _; refine bodyPost_ret (results_cell_row rfl _ _ (w.heap.size + 1 + 1) 29 _ (0, 0) _ rfl (setRow_heap _ _ _ _ _ _ r4) Tryd.underlying29 rfl hsiF) rfl ⟨_, rfl, ?_, below_setRow (HB7.out.mono (by omega) |> HW0.out.trans) (by omega) r4 _⟩; rw [HSX.out]; have hat := (HO7.out.at.setRow (r := w.heap.size + 1 + 1) (by omega) csF).mono (show w.heap.size ≤ w.heap.size + 3 by omega); rw [← HCF.out] at hat; exact hat)
        · have HSX : Hid (stepS P S = { S1 with frames := S1.frames ++ [begunFr (ki : Int) ([va, vb].take 1)] }) := by show _ = _; rw [HSX0.out, HE1.out.1]; simp
          have gq0 : WG.cell? ⟨GB, 2, none⟩ = some (.int .i64 0) := by rw [cell_of_row _ _ _ _ _ _ rG]; rfl
          have gz0 := row_free rG 2
          have rG1 : (WG.setCell ⟨GB, 2, none⟩ (.int .i64 va)).heap[GB]? = some (.cells #[.int .i64 (ki : Int), .int .i64 0, .int .i64 va, .int .i64 0, .int .i64 0, .int .i64 0, .int .i64 0, .int .i64 0, .int .i64 0, .int .i64 0, .int .i64 0, .int .i64 0, .int .i64 0, .int .i64 0] 55 (0, 0)) := by rw [row_setCell _ rG]; rfl
          have kpG1 := cell_setCell_other (g := GB) (i := 2) (u := .int .i64 va) kpG (show _ ≠ GB from fun e => absurd e.symm (by first | exact hGf.1 | exact hGf.2.1 | exact hGf.2.2.1 | exact hGf.2.2.2))
          have d0G1 := cell_setCell_other (g := GB) (i := 2) (u := .int .i64 va) d0G (show _ ≠ GB from fun e => absurd e.symm (by first | exact hGf.1 | exact hGf.2.1 | exact hGf.2.2.1 | exact hGf.2.2.2))
          have q2G1 := cell_setCell_other (g := GB) (i := 2) (u := .int .i64 va) q2G (show _ ≠ GB from fun e => absurd e.symm (by first | exact hGf.1 | exact hGf.2.1 | exact hGf.2.2.1 | exact hGf.2.2.2))
          have x4G1 := cell_setCell_other (g := GB) (i := 2) (u := .int .i64 va) x4G (show _ ≠ GB from fun e => absurd e.symm (by first | exact hGf.1 | exact hGf.2.1 | exact hGf.2.2.1 | exact hGf.2.2.2))
          have HFRn : Hid ((WG.setCell ⟨GB, 2, none⟩ (.int .i64 va)).ownsRow (w.heap.size + 3) 55 14 (.slice (some ⟨fb, 0, none⟩) NF cap) NF (framesCells S1.frames)) := by
            have h := ownsRow_below HFR.out bG
            replace h := ownsRow_setCell_other h (a := ⟨GB, 2, none⟩) HGF.out (.int .i64 va)
            exact h
          have HBn : Hid (Below W5.heap.size W5 (WG.setCell ⟨GB, 2, none⟩ (.int .i64 va))) := (bG).setCell HGW.out _
          have hzn : (w.heap.size + 3) ≤ (WG.setCell ⟨GB, 2, none⟩ (.int .i64 va)).heap.size := by have := HBn.out.size; omega
          have q2A := fun o => cell_alloc q2G1 o
          have infoF14 := infoFr
          have hzG : (w.heap.size + 3) ≤ WG.heap.size := by have := bG.size; omega
          go_upto_region 51 with fail
          go_upto_region 62 with (first | (refine wpList_load_row rfl _ _ rfl _ rfl _ _ _ _ rG1 Tryd.underlying55 rfl infoF14 ?_) | (at_builtin; refine wpList_append_lies _ rfl (.tmp 247) (.tmp 249) 25 rfl (w.heap.size + 3) 55 iF _ 14 112 Tryd.underlying25 hiF eFz eF1 eF2 rfl (by decide) (.slice (some ⟨fb, 0, none⟩) NF cap) NF (framesCells S1.frames) rfl (HFRn.out.alloc _) ⟨_, 0, none⟩ 1 1 [.int .i64 (ki : Int), .int .i64 0, .int .i64 va, .int .i64 0, .int .i64 0, .int .i64 0, .int .i64 0, .int .i64 0, .int .i64 0, .int .i64 0, .int .i64 0, .int .i64 0, .int .i64 0, .int .i64 0] rfl rfl (news_list _ _ _ _ (by simp)) (by simp [Value.oneCell']) Nat.one_pos (by unfold maxLen; omega) (by omega) (by simp; omega) ((WG.setCell ⟨GB, 2, none⟩ (.int .i64 va)).heap.size + 1) (by simp) ?_; intro g1 cap1 w6 hown6 hg6 hat6 hlt6; have HQ := HPSH.out (WG.setCell ⟨GB, 2, none⟩ (.int .i64 va)) [.int .i64 (ki : Int), .int .i64 0, .int .i64 va, .int .i64 0, .int .i64 0, .int .i64 0, .int .i64 0, .int .i64 0, .int .i64 0, .int .i64 0, .int .i64 0, .int .i64 0, .int .i64 0, .int .i64 0] 1 _ w6 g1 cap1 HBn.out rfl rfl hown6 hg6 hat6; have qe := HQ.1.1; have qq := HQ.1.2))
          have HO7 : Hid (OutAt (w6.setCell ⟨B5, 2, none⟩ (.slice (some ⟨g1, 0, none⟩) (NF + 1) cap1)) (w.heap.size + 3) B5 { S1 with frames := S1.frames ++ [begunFr (ki : Int) ([va, vb].take 1)] } (.slice (some ⟨g1, 0, none⟩) (NF + 1) cap1) ev av) := HQ.2.1
          have HB7 : Hid (Below (w.heap.size + 3) W0 (w6.setCell ⟨B5, 2, none⟩ (.slice (some ⟨g1, 0, none⟩) (NF + 1) cap1))) := HQ.2.2
          clear HQ qe qq hown6 hg6 hat6 hlt6
          have r5 := HO7.out.cells
          have r4 : (w6.setCell ⟨B5, 2, none⟩ (.slice (some ⟨g1, 0, none⟩) (NF + 1) cap1)).heap[w.heap.size + 1 + 1]? = some (.cells zeroStCells 29 (0, 0)) := (HB7.out.block _ (by omega)).trans R4.out
          obtain ⟨csF, ecsF, hsiF, holdF, honeF⟩ := HO7.out.at.val.cells
          have HCF : Hid (csF = _) := (Value.agg.inj ecsF).symm
          rw [← HCF.out] at r5
          clear ecsF
          go_upto_region 62 with fail
          go_wp2_with (refine wpList_load_row rfl _ _ rfl _ rfl _ _ _ _ r5 Tryd.underlying29 rfl hsiF ?_; simp only [Act.put, List.setIfInBounds_toArray, List.set_cons_zero, List.set_cons_succ]; refine wpList_store_row rfl _ _ _ rfl _ _ rfl rfl _ _ r4 hsiF holdF honeF ?_; rename_i KK hKK; refine hKK _ _ (wp_ret ?_); change bodyPost Tryd.prog Tryd.f66 (fun e w' => StepdPost P S w e w') .ret _ _; refine bodyPost_ret (results_cell_row rfl _ _ (w.heap.size + 1 + 1) 29 _ (0, 0) _ rfl (setRow_heap _ _ _ _ _ _ r4) Tryd.underlying29 rfl hsiF) rfl ⟨_, rfl, ?_, below_setRow (HB7.out.mono (by omega) |> HW0.out.trans) (by omega) r4 _⟩; rw [HSX.out]; have hat := (HO7.out.at.setRow (r := w.heap.size + 1 + 1) (by omega) csF).mono (show w.heap.size ≤ w.heap.size + 3 by omega); rw [← HCF.out] at hat; exact hat)
        · have HSX : Hid (stepS P S = { S1 with frames := S1.frames ++ [begunFr (ki : Int) ([va, vb].take 2)] }) := by show _ = _; rw [HSX0.out, HE1.out.1]; simp
          have gq0 : WG.cell? ⟨GB, 2, none⟩ = some (.int .i64 0) := by rw [cell_of_row _ _ _ _ _ _ rG]; rfl
          have gz0 := row_free rG 2
          have rG1 : (WG.setCell ⟨GB, 2, none⟩ (.int .i64 va)).heap[GB]? = some (.cells #[.int .i64 (ki : Int), .int .i64 0, .int .i64 va, .int .i64 0, .int .i64 0, .int .i64 0, .int .i64 0, .int .i64 0, .int .i64 0, .int .i64 0, .int .i64 0, .int .i64 0, .int .i64 0, .int .i64 0] 55 (0, 0)) := by rw [row_setCell _ rG]; rfl
          have kpG1 := cell_setCell_other (g := GB) (i := 2) (u := .int .i64 va) kpG (show _ ≠ GB from fun e => absurd e.symm (by first | exact hGf.1 | exact hGf.2.1 | exact hGf.2.2.1 | exact hGf.2.2.2))
          have d0G1 := cell_setCell_other (g := GB) (i := 2) (u := .int .i64 va) d0G (show _ ≠ GB from fun e => absurd e.symm (by first | exact hGf.1 | exact hGf.2.1 | exact hGf.2.2.1 | exact hGf.2.2.2))
          have q2G1 := cell_setCell_other (g := GB) (i := 2) (u := .int .i64 va) q2G (show _ ≠ GB from fun e => absurd e.symm (by first | exact hGf.1 | exact hGf.2.1 | exact hGf.2.2.1 | exact hGf.2.2.2))
          have x4G1 := cell_setCell_other (g := GB) (i := 2) (u := .int .i64 va) x4G (show _ ≠ GB from fun e => absurd e.symm (by first | exact hGf.1 | exact hGf.2.1 | exact hGf.2.2.1 | exact hGf.2.2.2))
          have gq1 : (WG.setCell ⟨GB, 2, none⟩ (.int .i64 va)).cell? ⟨GB, 3, none⟩ = some (.int .i64 0) := by rw [cell_of_row _ _ _ _ _ _ rG1]; rfl
          have gz1 := row_free rG1 3
          have rG2 : ((WG.setCell ⟨GB, 2, none⟩ (.int .i64 va)).setCell ⟨GB, 3, none⟩ (.int .i64 vb)).heap[GB]? = some (.cells #[.int .i64 (ki : Int), .int .i64 0, .int .i64 va, .int .i64 vb, .int .i64 0, .int .i64 0, .int .i64 0, .int .i64 0, .int .i64 0, .int .i64 0, .int .i64 0, .int .i64 0, .int .i64 0, .int .i64 0] 55 (0, 0)) := by rw [row_setCell _ rG1]; rfl
          have kpG2 := cell_setCell_other (g := GB) (i := 3) (u := .int .i64 vb) kpG1 (show _ ≠ GB from fun e => absurd e.symm (by first | exact hGf.1 | exact hGf.2.1 | exact hGf.2.2.1 | exact hGf.2.2.2))
          have d0G2 := cell_setCell_other (g := GB) (i := 3) (u := .int .i64 vb) d0G1 (show _ ≠ GB from fun e => absurd e.symm (by first | exact hGf.1 | exact hGf.2.1 | exact hGf.2.2.1 | exact hGf.2.2.2))
          have q2G2 := cell_setCell_other (g := GB) (i := 3) (u := .int .i64 vb) q2G1 (show _ ≠ GB from fun e => absurd e.symm (by first | exact hGf.1 | exact hGf.2.1 | exact hGf.2.2.1 | exact hGf.2.2.2))
          have x4G2 := cell_setCell_other (g := GB) (i := 3) (u := .int .i64 vb) x4G1 (show _ ≠ GB from fun e => absurd e.symm (by first | exact hGf.1 | exact hGf.2.1 | exact hGf.2.2.1 | exact hGf.2.2.2))
          have HFRn : Hid (((WG.setCell ⟨GB, 2, none⟩ (.int .i64 va)).setCell ⟨GB, 3, none⟩ (.int .i64 vb)).ownsRow (w.heap.size + 3) 55 14 (.slice (some ⟨fb, 0, none⟩) NF cap) NF (framesCells S1.frames)) := by
            have h := ownsRow_below HFR.out bG
            replace h := ownsRow_setCell_other h (a := ⟨GB, 2, none⟩) HGF.out (.int .i64 va)
            replace h := ownsRow_setCell_other h (a := ⟨GB, 3, none⟩) HGF.out (.int .i64 vb)
            exact h
          have HBn : Hid (Below W5.heap.size W5 ((WG.setCell ⟨GB, 2, none⟩ (.int .i64 va)).setCell ⟨GB, 3, none⟩ (.int .i64 vb))) := ((bG).setCell HGW.out _).setCell HGW.out _
          have hzn : (w.heap.size + 3) ≤ ((WG.setCell ⟨GB, 2, none⟩ (.int .i64 va)).setCell ⟨GB, 3, none⟩ (.int .i64 vb)).heap.size := by have := HBn.out.size; omega
          have q2A := fun o => cell_alloc q2G2 o
          have infoF14 := infoFr
          have hzG : (w.heap.size + 3) ≤ WG.heap.size := by have := bG.size; omega
          go_upto_region 51 with fail
          go_upto_region 62 with (first | (refine wpList_load_row rfl _ _ rfl _ rfl _ _ _ _ rG2 Tryd.underlying55 rfl infoF14 ?_) | (at_builtin; refine wpList_append_lies _ rfl (.tmp 247) (.tmp 249) 25 rfl (w.heap.size + 3) 55 iF _ 14 112 Tryd.underlying25 hiF eFz eF1 eF2 rfl (by decide) (.slice (some ⟨fb, 0, none⟩) NF cap) NF (framesCells S1.frames) rfl (HFRn.out.alloc _) ⟨_, 0, none⟩ 1 1 [.int .i64 (ki : Int), .int .i64 0, .int .i64 va, .int .i64 vb, .int .i64 0, .int .i64 0, .int .i64 0, .int .i64 0, .int .i64 0, .int .i64 0, .int .i64 0, .int .i64 0, .int .i64 0, .int .i64 0] rfl rfl (news_list _ _ _ _ (by simp)) (by simp [Value.oneCell']) Nat.one_pos (by unfold maxLen; omega) (by omega) (by simp; omega) (((WG.setCell ⟨GB, 2, none⟩ (.int .i64 va)).setCell ⟨GB, 3, none⟩ (.int .i64 vb)).heap.size + 1) (by simp) ?_; intro g1 cap1 w6 hown6 hg6 hat6 hlt6; have HQ := HPSH.out ((WG.setCell ⟨GB, 2, none⟩ (.int .i64 va)).setCell ⟨GB, 3, none⟩ (.int .i64 vb)) [.int .i64 (ki : Int), .int .i64 0, .int .i64 va, .int .i64 vb, .int .i64 0, .int .i64 0, .int .i64 0, .int .i64 0, .int .i64 0, .int .i64 0, .int .i64 0, .int .i64 0, .int .i64 0, .int .i64 0] 2 _ w6 g1 cap1 HBn.out rfl rfl hown6 hg6 hat6; have qe := HQ.1.1; have qq := HQ.1.2))
          have HO7 : Hid (OutAt (w6.setCell ⟨B5, 2, none⟩ (.slice (some ⟨g1, 0, none⟩) (NF + 1) cap1)) (w.heap.size + 3) B5 { S1 with frames := S1.frames ++ [begunFr (ki : Int) ([va, vb].take 2)] } (.slice (some ⟨g1, 0, none⟩) (NF + 1) cap1) ev av) := HQ.2.1
          have HB7 : Hid (Below (w.heap.size + 3) W0 (w6.setCell ⟨B5, 2, none⟩ (.slice (some ⟨g1, 0, none⟩) (NF + 1) cap1))) := HQ.2.2
          clear HQ qe qq hown6 hg6 hat6 hlt6
          have r5 := HO7.out.cells
          have r4 : (w6.setCell ⟨B5, 2, none⟩ (.slice (some ⟨g1, 0, none⟩) (NF + 1) cap1)).heap[w.heap.size + 1 + 1]? = some (.cells zeroStCells 29 (0, 0)) := (HB7.out.block _ (by omega)).trans R4.out
          obtain ⟨csF, ecsF, hsiF, holdF, honeF⟩ := HO7.out.at.val.cells
          have HCF : Hid (csF = _) := (Value.agg.inj ecsF).symm
          rw [← HCF.out] at r5
          clear ecsF
          go_upto_region 62 with fail
          go_wp2_with (refine wpList_load_row rfl _ _ rfl _ rfl _ _ _ _ r5 Tryd.underlying29 rfl hsiF ?_; simp only [Act.put, List.setIfInBounds_toArray, List.set_cons_zero, List.set_cons_succ]; refine wpList_store_row rfl _ _ _ rfl _ _ rfl rfl _ _ r4 hsiF holdF honeF ?_; rename_i KK hKK; refine hKK _ _ (wp_ret ?_); change bodyPost Tryd.prog Tryd.f66 (fun e w' => StepdPost P S w e w') .ret _ _; refine bodyPost_ret (results_cell_row rfl _ _ (w.heap.size + 1 + 1) 29 _ (0, 0) _ rfl (setRow_heap _ _ _ _ _ _ r4) Tryd.underlying29 rfl hsiF) rfl ⟨_, rfl, ?_, below_setRow (HB7.out.mono (by omega) |> HW0.out.trans) (by omega) r4 _⟩; rw [HSX.out]; have hat := (HO7.out.at.setRow (r := w.heap.size + 1 + 1) (by omega) csF).mono (show w.heap.size ≤ w.heap.size + 3 by omega); rw [← HCF.out] at hat; exact hat)
    exfalso
    omega
end Go.Proofs.YtndogdojcbcjgaaDoor
