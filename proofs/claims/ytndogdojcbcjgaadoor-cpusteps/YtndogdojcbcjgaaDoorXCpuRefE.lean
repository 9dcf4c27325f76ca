/- Contract of the document's cpuStep (package tierlineref): RJalr to an even address (written by gen/mkcpusref.py). -/
import Derived.Test.YtndogdojcbcjgaaDoorXCpuRefPre
namespace Go.Proofs.YtndogdojcbcjgaaDoor
open Go Go.RowKit

theorem wrap_isE (n : Int) : IntKind.i64.wrap n = wrap64 n := by rw [IntKind.wrap_i64]; simp only [wrap64]
set_option maxRecDepth 100000 in
set_option maxHeartbeats 8000000 in
theorem rcpu_E (ws : List Int) (vw : Value) (c : Cp) (w : World) (hok : c.Ok) (hw : IntsVal w vw ws) (hl : ws.length ≤ 32768) (hrv : ∀ W, Calls Tryd.prog 107 #[.int .i64 (ws.getD c.pc.toNat 0)] W fun e w' => e = .returned (.tuple #[(decX (ws.getD c.pc.toNat 0)).val, .int .i64 (decE (ws.getD c.pc.toNat 0))]) ∧ Below W.heap.size W w') (hfr : ∀ z ∈ c.regs, Fits z) (p0 : 0 ≤ c.pc) (p1 : c.pc < ws.length) (op rd rs1 rs2 imm : Int) (hcl0 : op = 27 ∧ adJ (wrap64 (c.reg rs1 + imm)) % 4 = 0 ∧ wrap64 (c.reg rs1 + imm) % 2 = 0) (F : Cp) (E : Int) (hdx : decX (ws.getD c.pc.toNat 0) = ⟨op, rd, rs1, rs2, imm⟩) (hde : decE (ws.getD c.pc.toNat 0) = 0) (hE : E = doE ⟨op, rd, rs1, rs2, imm⟩ (c.reg rs1)) (hF : F = if E = 0 then doC ⟨op, rd, rs1, rs2, imm⟩ (c.reg rs1) (c.reg rs2) c else zeroCp) :
    Calls Tryd.prog 74 #[vw, c.val] w fun e w' => e = .returned (.tuple #[F.val, .int .i64 E]) ∧ Below w.heap.size w w' := by
  have HCL : Hid (op = 27 ∧ adJ (wrap64 (c.reg rs1 + imm)) % 4 = 0 ∧ wrap64 (c.reg rs1 + imm) % 2 = 0) := hcl0
  clear hcl0
  obtain ⟨pn, hpn⟩ : ∃ pn : Nat, c.pc = pn := ⟨c.pc.toNat, by omega⟩
  obtain ⟨aw, bw, ow, nw, cw, rfl, hln, haw, hcw, hcp, hmx⟩ := ints_get hw
  have hpw : pn < nw := by omega
  obtain rfl := haw (by omega)
  have HCW : Hid (∀ W, Below w.heap.size w W → W.cell? ⟨bw, ow + pn, none⟩ = some (.int .i64 (ws.getD pn 0))) := fun W hW => keeps_below hW _ _ (hcw pn hpw)
  rw [hpn, Int.toNat_natCast] at hrv
  have HRV : Hid (∀ W, Calls Tryd.prog 107 #[.int .i64 (ws.getD pn 0)] W fun e w' => e = .returned (.tuple #[(decX (ws.getD pn 0)).val, .int .i64 (decE (ws.getD pn 0))]) ∧ Below W.heap.size W w') := hrv
  have i0 : (Tryd.prog.info? 33).map (·.size) = some (cpuCells zeroCp).toArray.size := infoCpC zero_ok
  have o0 := cp_one zeroCp
  have HCA : Hid (CAt ((w.alloc (.cells (cpuCells c).toArray 33)).alloc (.cells Tryd.zeroCells33 33)) w.heap.size c) := ⟨heap_alloc2_old _ _ _, hok⟩
  have h6 : ((w.alloc (.cells (cpuCells c).toArray 33)).alloc (.cells Tryd.zeroCells33 33)).heap[w.heap.size + 1]? = some (.cells (cpuCells zeroCp).toArray 33 (0, 0)) := (heap_alloc2_new _ _ _).trans (by rw [zc_eq])
  have HB : Hid (Below w.heap.size w ((w.alloc (.cells (cpuCells c).toArray 33)).alloc (.cells Tryd.zeroCells33 33))) := ((Below.refl _ _).alloc (Nat.le_refl _) _).alloc (by simp) _
  have hwl : IntKind.i64.wrap ((nw : Int) - 1) = (nw : Int) - 1 := wrap_signed _ (by omega) (by omega)
  have hin : inB (pn : Int) 0 ((nw : Int) - 1) = true := inB_t (by omega) (by omega)
  have hpI : (pn : Int) < nw := by omega
  have HFR : Hid (∀ r : Nat, Fits (c.reg (r : Int))) := fun r => by
    unfold Cp.reg
    rw [Int.toNat_natCast, List.getD_eq_getElem?_getD]
    by_cases hr : r < c.regs.length
    · rw [List.getElem?_eq_getElem hr]; exact hfr _ (List.getElem_mem _)
    · rw [List.getElem?_eq_none (by omega)]; show Fits 0; unfold Fits; omega
  have hpn2 : pn ≤ 32768 := by omega
  have HPN : Hid (c.pc = pn) := hpn
  rw [hpn, Int.toNat_natCast] at hde hdx
  have hx := (word_dec _ hde).1
  rw [hdx] at hx HRV
  rw [hde] at HRV
  obtain ⟨r0, r1, s0, s1, t0, t1, i0', i1'⟩ := mi_bounds _ hx
  have HNO : Hid (op = 21 ∨ (22 ≤ op ∧ op ≤ 25) → rd = 0) := mi_none _ hx
  have o1 := hx.op1
  have o2 := hx.op2
  dsimp only at r0 r1 s0 s1 t0 t1 i0' i1' o1 o2
  clear hx
  clear hw hcw hrv hfr p0 p1 hln hl hpn hde hdx
  generalize ws.getD pn 0 = wd at *
  unfold Cp.val
  have kpc := HCA.out.pc
  rw [HPN.out] at kpc
  have kww := HCW.out _ HB.out
  go_enter Tryd.func74, Tryd.ntmps74
  go_upto_region 1 with fail
  have hzW : w.heap.size + 1 < ((w.alloc (.cells (cpuCells c).toArray 33)).alloc (.cells Tryd.zeroCells33 33)).heap.size := by simp
  generalize ((w.alloc (.cells (cpuCells c).toArray 33)).alloc (.cells Tryd.zeroCells33 33)) = W at *
  obtain ⟨nd, rfl⟩ : ∃ n : Nat, rd = n := ⟨rd.toNat, by omega⟩
  obtain ⟨n1, rfl⟩ : ∃ n : Nat, rs1 = n := ⟨rs1.toNat, by omega⟩
  obtain ⟨n2, rfl⟩ : ∃ n : Nat, rs2 = n := ⟨rs2.toNat, by omega⟩
  have hn1 : n1 < 32 := by omega
  have hn2 : n2 < 32 := by omega
  have hnd : nd < 32 := by omega
  have hFa := HFR.out n1
  have hFb := HFR.out n2
  have ka := fun (w' : World) (hb : Below W.heap.size W w') => (HCA.out.below hb HCA.out.lt).reg n1 hn1
  have kb := fun (w' : World) (hb : Below W.heap.size W w') => (HCA.out.below hb HCA.out.lt).reg n2 hn2
  have HKA : Hid _ := ka
  have HKB : Hid _ := kb
  clear ka kb
  unfold Mi.val at HRV
  have icc : (Tryd.prog.info? 33).map (·.size) = some (cpuCells c).toArray.size := infoCpC hok
  have occ := cp_one c
  have hlc : Tryd.zeroCells33.size = (cpuCells c).toArray.size := by rw [zc_cp, List.size_toArray, cp_len hok]
  go_upto_region 6 with (first
    | (go_at_call 48; refine (in_any _ _ _ _).mono ?_; rintro e wq ⟨rfl, hwq⟩; replace hwq := hwq.symm; subst hwq)
    | (go_at_call 107; refine (HRV.out _).mono ?_; rintro e w1 ⟨rfl, hb1⟩)
    | (refine wpList_store_row rfl 151 _ _ rfl _ _ rfl rfl _ _ (heap_alloc_last w1 _) (by kernel_rfl) rfl rfl ?_; rw [World.setRow_alloc_new]))
  have HA1 : Hid (Below W.heap.size W (w1.alloc (.cells #[.int .i64 op, .int .i64 (nd : Int), .int .i64 (n1 : Int), .int .i64 (n2 : Int), .int .i64 imm] 151))) := hb1.alloc hb1.size _
  have rx : (w1.alloc (.cells #[.int .i64 op, .int .i64 (nd : Int), .int .i64 (n1 : Int), .int .i64 (n2 : Int), .int .i64 imm] 151)).heap[w1.heap.size]? = some (.cells #[.int .i64 op, .int .i64 (nd : Int), .int .i64 (n1 : Int), .int .i64 (n2 : Int), .int .i64 imm] 151 (0, 0)) := heap_alloc_last w1 _
  have ka := HKA.out _ HA1.out
  have kb := HKB.out _ HA1.out
  have q2 : (w1.alloc (.cells #[.int .i64 op, .int .i64 (nd : Int), .int .i64 (n1 : Int), .int .i64 (n2 : Int), .int .i64 imm] 151)).cell? ⟨w1.heap.size, 2, none⟩ = some (.int .i64 (n1 : Int)) := by rw [cell_of_row _ _ _ _ _ _ rx]; rfl
  have q3 : (w1.alloc (.cells #[.int .i64 op, .int .i64 (nd : Int), .int .i64 (n1 : Int), .int .i64 (n2 : Int), .int .i64 imm] 151)).cell? ⟨w1.heap.size, 3, none⟩ = some (.int .i64 (n2 : Int)) := by rw [cell_of_row _ _ _ _ _ _ rx]; rfl
  have HC1 : Hid (CAt (w1.alloc (.cells #[.int .i64 op, .int .i64 (nd : Int), .int .i64 (n1 : Int), .int .i64 (n2 : Int), .int .i64 imm] 151)) w.heap.size c) := HCA.out.below HA1.out HCA.out.lt
  have h7 := (HA1.out.block _ hzW).trans h6
  have HB1 : Hid (Below w.heap.size w (w1.alloc (.cells #[.int .i64 op, .int .i64 (nd : Int), .int .i64 (n1 : Int), .int .i64 (n2 : Int), .int .i64 imm] 151))) := HB.out.trans (HA1.out.mono HB.out.size)
  have hz6 : w.heap.size + 1 < w1.heap.size := Nat.lt_of_lt_of_le hzW hb1.size
  have hg7 : w1.heap.size < (w1.alloc (.cells #[.int .i64 op, .int .i64 (nd : Int), .int .i64 (n1 : Int), .int .i64 (n2 : Int), .int .i64 imm] 151)).heap.size := by simp
  clear HA1 hb1 HRV h6 hzW HB HKA HKB
  generalize (w1.alloc (.cells #[.int .i64 op, .int .i64 (nd : Int), .int .i64 (n1 : Int), .int .i64 (n2 : Int), .int .i64 imm] 151)) = W1 at *
  generalize w1.heap.size = G6 at *
  have hn1I : (n1 : Int) < 32 := by omega
  have hn2I : (n2 : Int) < 32 := by omega
  have rc := HC1.out.cells
  go_upto_region 9 with (first
    | (refine wpList_load_row rfl 33 _ rfl _ rfl _ _ _ _ rc Tryd.underlying33 rfl icc ?_)
    | (refine wpList_store_row rfl 33 _ _ rfl _ (cpuCells c).toArray rfl rfl _ _ (heap_alloc_last W1 _) icc hlc occ ?_; rw [World.setRow_alloc_new]))
  have HS0 : Hid (SB (W1.alloc (.cells (cpuCells c).toArray 33)) w w.heap.size G6 W1.heap.size c c op (nd : Int) imm) := by
    have hA : Below W1.heap.size W1 (W1.alloc (.cells (cpuCells c).toArray 33)) := (Below.refl _ _).alloc (Nat.le_refl _) _
    have rx2 := (hA.block _ (lt_of_block rx)).trans rx
    exact ⟨by rw [cell_of_row _ _ _ _ _ _ rx2]; rfl, by rw [cell_of_row _ _ _ _ _ _ rx2]; rfl, by rw [cell_of_row _ _ _ _ _ _ rx2]; rfl, HC1.out.below hA HC1.out.lt, ⟨heap_alloc_last _ _, hok⟩, (hA.block _ (lt_of_block h7)).trans h7, HB1.out.alloc HB1.out.size _, rfl, hz6, hg7⟩
  clear rx ka kb q2 q3 HC1 h7 HB1 rc hz6 hg7 hn1I hn2I
  generalize (W1.alloc (.cells (cpuCells c).toArray 33)) = W2 at *
  generalize W1.heap.size = G at *
  have HS1 : Hid (SB (W2.setCell ⟨G, 32, none⟩ (.int .i64 ((pn : Int) + 1))) w w.heap.size G6 G c (c.go ((pn : Int) + 1)) op (nd : Int) imm) := HS0.out.put 32 _ (HS0.out.oo.goTo _)
  have kp2 := HS0.out.cc.pc
  rw [HPN.out] at kp2
  have kf2 := HS0.out.oo.free 32
  have kg2 := HS0.out.oo.pc
  have hwp : IntKind.i64.wrap ((pn : Int) + 1) = (pn : Int) + 1 := wrap_signed _ (by omega) (by omega)
  go_upto_region 10 with fail
  generalize (W2.setCell ⟨G, 32, none⟩ (.int .i64 ((pn : Int) + 1))) = W3 at *
  clear kp2 kf2 kg2 HS0
  generalize c.reg (n1 : Int) = a at *
  generalize c.reg (n2 : Int) = b at *
  have x0 := HS1.out.x0
  have x1 := HS1.out.x1
  have x4 := HS1.out.x4
  have kp := HS1.out.cc.pc
  rw [HPN.out] at kp
  have hndI : (nd : Int) < 32 := by omega
  have hcl := HCL.out
  clear HCL
  obtain ⟨h27, hg, hodd⟩ := hcl
  subst h27
  obtain ⟨t, ht⟩ : ∃ t, t = wrap64 (a + imm) := ⟨_, rfl⟩
  have hat1 : IntKind.i64.wrap (a + imm) = t := by rw [ht]; exact wrap_isE _
  have hat2 : wrap64 (a + imm) = t := ht.symm
  have hFt : Fits t := by rw [ht]; exact fits_wrap _
  clear ht
  rw [hat2] at hg hodd
  obtain ⟨A0, A1, A2, A3⟩ := adJ_parts t hFt
  have hw3 : IntKind.i64.wrap (4 * ((pn : Int) + 1)) = ((pn : Int) + 1) * 4 := by rw [Int.mul_comm]; exact wrap_signed _ (by omega) (by omega)
  have j0 : inB 27 1 11 = false := inB_f (by omega)
  have j1 : inB 27 12 19 = false := inB_f (by omega)
  have j2 : inB 27 22 25 = false := inB_f (by omega)
  have HEz : Hid (E = 0) := by show _ = _; rw [hE]; unfold doE; dsimp only; rw [if_neg (by decide), if_pos rfl, hat2, if_pos hg]
  have hC : F = (c.put (nd : Int) (((pn : Int) + 1) * 4)).go (adJ t / 4) := by rw [hF, HEz.out, if_pos rfl]; unfold doC; dsimp only; rw [if_neg (by decide), if_neg (by decide), if_neg (by decide), if_pos rfl, hat2, if_pos hg, HPN.out]
  have hm4 : (adJ t).tmod 4 = 0 := A2.2 hg
  have hd4 : IntKind.i64.wrap ((adJ t).tdiv 4) = adJ t / 4 := (wrap_isE _).trans (A3 hg)
  have ho2 : t.tmod 2 = 0 := (tmod_emod t 2).2 hodd
  have hs1 : adJ t = t := by unfold adJ; omega
  rw [hs1] at hm4 hd4 hC
  clear hE hF o1 o2 hFa hFb A0 A1 A2 A3 hFt hg hodd
  clear hs1
  generalize t / 4 = P4 at *
  have yr0 := HS1.out.oo.pc
  have yf0 := HS1.out.oo.free 32
  have HS5 : Hid (SB (W3.setCell ⟨G, 32, none⟩ (.int .i64 P4)) w w.heap.size G6 G c ((c.go ((pn : Int) + 1)).go P4) 27 (nd : Int) imm) := HS1.out.put 32 _ (HS1.out.oo.goTo _)
  have y0 := HS5.out.x0
  have y1 := HS5.out.x1
  have y4 := HS5.out.x4
  by_cases hz : nd = 0
  · subst hz
    have HF : Hid (F = (c.go ((pn : Int) + 1)).go P4) := by show _ = _; rw [hC, show ((0 : Nat) : Int) = 0 from rfl, put_zero] <;> rfl
    clear hC
    have HSf : Hid _ := HS5.out
    go_wp2_with (first
      | (go_at_call 48; refine (in_any _ _ _ _).mono ?_; rintro e wq ⟨rfl, hwq⟩; replace hwq := hwq.symm; subst hwq)
      | (refine wpList_load_row rfl 33 _ rfl _ rfl _ _ _ _ HSf.out.oo.cells Tryd.underlying33 rfl (infoCpC HSf.out.oo.ok) ?_)
      | (refine wpList_store_row rfl 33 _ _ rfl _ _ rfl rfl _ _ HSf.out.z (infoCpC HSf.out.oo.ok) (zlen HSf.out.oo.ok) (cp_one _) ?_))
    try simp only [Exit.inBlock, Exit.then]
    exact bodyPost_ret (results_row_tmp rfl _ _ (w.heap.size + 1) 33 _ (0, 0) _ rfl (setRow_heap _ _ _ _ _ _ HSf.out.z) Tryd.underlying33 rfl (infoCpC HSf.out.oo.ok)) rfl ⟨by rw [HF.out, HEz.out]; rfl, belowSC HSf.out.low (by omega) HSf.out.low.size _⟩
  · have HF : Hid (F = ((c.go ((pn : Int) + 1)).go P4).set (nd : Int) (((pn : Int) + 1) * 4)) := by show _ = _; rw [hC]; exact (put_go hz).symm
    have hpos : decide (0 < (nd : Int)) = true := by simp; omega
    have hpos2 : decide (0 < nd) = true := by simp; omega
    clear hC hz
    have yr := HS5.out.oo.reg nd hnd
    have yf := HS5.out.oo.free nd
    have HSf : Hid (SB ((W3.setCell ⟨G, 32, none⟩ (.int .i64 P4)).setCell ⟨G, nd, none⟩ (.int .i64 (((pn : Int) + 1) * 4))) w w.heap.size G6 G c (((c.go ((pn : Int) + 1)).go P4).set (nd : Int) (((pn : Int) + 1) * 4)) 27 (nd : Int) imm) := HS5.out.put nd _ (HS5.out.oo.set nd hnd _)
    go_wp2_with (first
      | (go_at_call 48; refine (in_any _ _ _ _).mono ?_; rintro e wq ⟨rfl, hwq⟩; replace hwq := hwq.symm; subst hwq)
      | (refine wpList_load_row rfl 33 _ rfl _ rfl _ _ _ _ HSf.out.oo.cells Tryd.underlying33 rfl (infoCpC HSf.out.oo.ok) ?_)
      | (refine wpList_store_row rfl 33 _ _ rfl _ _ rfl rfl _ _ HSf.out.z (infoCpC HSf.out.oo.ok) (zlen HSf.out.oo.ok) (cp_one _) ?_))
    try simp only [Exit.inBlock, Exit.then]
    exact bodyPost_ret (results_row_tmp rfl _ _ (w.heap.size + 1) 33 _ (0, 0) _ rfl (setRow_heap _ _ _ _ _ _ HSf.out.z) Tryd.underlying33 rfl (infoCpC HSf.out.oo.ok)) rfl ⟨by rw [HF.out, HEz.out]; rfl, belowSC HSf.out.low (by omega) HSf.out.low.size _⟩
end Go.Proofs.YtndogdojcbcjgaaDoor
