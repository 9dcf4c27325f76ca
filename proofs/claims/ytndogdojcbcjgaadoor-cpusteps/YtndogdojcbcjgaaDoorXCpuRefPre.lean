/- Contract of the document's cpuStep (package tierlineref), at every word and machine (written by gen/mkcpusref.py). -/
import Derived.Test.YtndogdojcbcjgaaDoorXCpuRefOps
import Derived.Test.YtndogdojcbcjgaaDoorGroupX
import Derived.Test.YtndogdojcbcjgaaDoorGroupU
import Derived.Test.YtndogdojcbcjgaaDoorXRvKeep
import Derived.Test.YtndogdojcbcjgaaDoorGroupC
import Derived.Test.YtndogdojcbcjgaaDoorXOwnInts
namespace Go.Proofs.YtndogdojcbcjgaaDoor
open Go Go.RowKit

theorem CAt.goTo {w : World} {g : Nat} {c : Cp} (h : CAt w g c) (p : Int) : CAt (w.setCell ⟨g, 32, none⟩ (.int .i64 p)) g (c.go p) := by
  refine ⟨?_, h.ok.go _⟩
  rw [heap_setCell_same _ _ _ _ _ _ h.cells, List.setIfInBounds_toArray]
  have : (cpuCells c).set 32 (.int .i64 p) = cpuCells (c.go p) := by
    unfold cpuCells Cp.go
    rw [List.set_append_right _ _ (by simp [i64s, h.ok.r])]
    simp [i64s, h.ok.r]
  rw [this]
theorem CAt.stopAt {w : World} {g : Nat} {c : Cp} (h : CAt w g c) : CAt (w.setCell ⟨g, 97, none⟩ (.bool true)) g c.stop := by
  refine ⟨?_, h.ok.stop⟩
  rw [heap_setCell_same _ _ _ _ _ _ h.cells, List.setIfInBounds_toArray]
  have : (cpuCells c).set 97 (.bool true) = cpuCells c.stop := by
    unfold cpuCells Cp.stop
    rw [List.set_append_right _ _ (by simp [i64s, h.ok.r])]
    simp [i64s, h.ok.r, h.ok.d]
  rw [this]
theorem setRow_otherC (w : World) (g : Nat) (cs : Array Value) (k : Nat) (h : k ≠ g) : (w.setRow g cs).heap[k]? = w.heap[k]? := by
  simp only [World.setRow, Array.getElem?_modify]; rw [if_neg (fun e => h e.symm)]
theorem belowSC {B g : Nat} {w0 w : World} (hb : Below B w0 w) (hBg : B ≤ g) (hs : B ≤ w.heap.size) (cs : Array Value) : Below B w0 (w.setRow g cs) :=
  below_gb hb (⟨rfl, rfl, rfl, by simp [World.setRow], fun b _ hne => setRow_otherC w g cs b (fun e => hne (by rw [e]))⟩ : w.grownBy (w.setRow g cs) (some g)) hBg hs
theorem zlen {o : Cp} (h : o.Ok) : (cpuCells zeroCp).toArray.size = (cpuCells o).toArray.size := by rw [List.size_toArray, List.size_toArray, cp_len zero_ok, cp_len h]
theorem tmod_emod (t k : Int) : t.tmod k = 0 ↔ t % k = 0 := by rw [← Int.dvd_iff_tmod_eq_zero, ← Int.dvd_iff_emod_eq_zero]
/-- The boxes of a step. -/
structure SB (W w : World) (B G6 G : Nat) (c o : Cp) (op rd imm : Int) : Prop where
  x0 : W.cell? ⟨G6, 0, none⟩ = some (.int .i64 op)
  x1 : W.cell? ⟨G6, 1, none⟩ = some (.int .i64 rd)
  x4 : W.cell? ⟨G6, 4, none⟩ = some (.int .i64 imm)
  cc : CAt W B c
  oo : CAt W G o
  z : W.heap[B + 1]? = some (.cells (cpuCells zeroCp).toArray 33 (0, 0))
  low : Below w.heap.size w W
  b : w.heap.size = B
  g6 : B + 1 < G6
  g : G6 < G
theorem SB.below {W W' w : World} {B G6 G : Nat} {c o : Cp} {op rd imm : Int} (h : SB W w B G6 G c o op rd imm) (hb : Below W.heap.size W W') : SB W' w B G6 G c o op rd imm :=
  ⟨keeps_below hb _ _ h.x0, keeps_below hb _ _ h.x1, keeps_below hb _ _ h.x4, h.cc.below hb h.cc.lt, h.oo.below hb h.oo.lt, (hb.block _ (lt_of_block h.z)).trans h.z, h.low.trans (hb.mono h.low.size), h.b, h.g6, h.g⟩
/-- A cell of the machine that is made is written. -/
theorem SB.put {W w : World} {B G6 G : Nat} {c o o' : Cp} {op rd imm : Int} (h : SB W w B G6 G c o op rd imm) (i : Nat) (v : Value) (ho : CAt (W.setCell ⟨G, i, none⟩ v) G o') : SB (W.setCell ⟨G, i, none⟩ v) w B G6 G c o' op rd imm := by
  have hb := h.b
  have h6 := h.g6
  have hg := h.g
  have hn : ∀ k, k ≠ G → (W.setCell ⟨G, i, none⟩ v).heap[k]? = W.heap[k]? := fun k hk => heap_setCell_other _ _ _ _ (by simpa using hk)
  exact ⟨(World.cell?_of_block (hn _ (by show G6 ≠ G; omega))).trans h.x0, (World.cell?_of_block (hn _ (by show G6 ≠ G; omega))).trans h.x1, (World.cell?_of_block (hn _ (by show G6 ≠ G; omega))).trans h.x4, ⟨(hn _ (by omega)).trans h.cc.cells, h.cc.ok⟩, ho, (hn _ (by omega)).trans h.z, h.low.setCell (by show _ ≤ G; omega) _, hb, h6, hg⟩
theorem put_go {c : Cp} {p v : Int} {n : Nat} (hn : ¬ n = 0) : (c.go p).set (n : Int) v = (c.put (n : Int) v).go p := by
  unfold Cp.go Cp.set Cp.put
  dsimp only
  rw [if_neg (by omega)]
theorem put_zero (c : Cp) (v : Int) : c.put 0 v = c := by unfold Cp.put; rw [if_pos rfl]
theorem go_go (c : Cp) (p q : Int) : (c.go p).go q = c.go q := rfl
theorem inB_t {n l h : Int} (h1 : l ≤ n) (h2 : n ≤ h) : inB n l h = true := by simp [inB, h1, h2]
theorem inB_f {n l h : Int} (h1 : ¬ (l ≤ n ∧ n ≤ h)) : inB n l h = false := by
  cases hh : inB n l h
  · rfl
  · exact absurd (by simpa [inB] using hh) h1
theorem mi_none (x : Mi) (h : MiOk x) (ho : x.op = 21 ∨ (22 ≤ x.op ∧ x.op ≤ 25)) : x.rd = 0 := by
  have hf := h.fits
  rw [fits_iff] at hf
  have e : ∃ n : Nat, x.op = n := ⟨x.op.toNat, by have := h.op1; omega⟩
  obtain ⟨n, e⟩ := e
  rw [e, Int.toNat_natCast] at hf
  rcases (show n = 21 ∨ n = 22 ∨ n = 23 ∨ n = 24 ∨ n = 25 by omega) with rfl | rfl | rfl | rfl | rfl <;> simp [shOf, ptL, shF, shL] at hf <;> omega

set_option maxRecDepth 100000 in
set_option maxHeartbeats 2000000 in
theorem rcpu_out (ws : List Int) (vw : Value) (c : Cp) (w : World) (hok : c.Ok) (hw : IntsVal w vw ws) (hl : ws.length ≤ 32768) (h0 : c.pc < 0 ∨ (ws.length : Int) ≤ c.pc) :
    Calls Tryd.prog 74 #[vw, c.val] w fun e w' => e = .returned (.tuple #[zeroCp.val, .int .i64 8]) ∧ Below w.heap.size w w' := by
  obtain ⟨aw, cw, rfl⟩ := hw.shape
  have i0 : (Tryd.prog.info? 33).map (·.size) = some (cpuCells zeroCp).toArray.size := infoCpC zero_ok
  have o0 := cp_one zeroCp
  have kpc : ∀ o, ((w.alloc (.cells (cpuCells c).toArray 33)).alloc o).cell? ⟨w.heap.size, 32, none⟩ = some (.int .i64 c.pc) := fun o => by rw [cell_of_row _ _ _ _ _ _ (heap_alloc2_old _ _ _), List.getElem?_toArray]; exact cp_pc hok
  have h6 : ((w.alloc (.cells (cpuCells c).toArray 33)).alloc (.cells Tryd.zeroCells33 33)).heap[w.heap.size + 1]? = some (.cells (cpuCells zeroCp).toArray 33 (0, 0)) := (heap_alloc2_new _ _ _).trans (by rw [zc_eq])
  have HB : Hid (Below w.heap.size w ((w.alloc (.cells (cpuCells c).toArray 33)).alloc (.cells Tryd.zeroCells33 33))) := ((Below.refl _ _).alloc (Nat.le_refl _) _).alloc (by simp) _
  have hwl : IntKind.i64.wrap ((ws.length : Int) - 1) = (ws.length : Int) - 1 := wrap_signed _ (by omega) (by omega)
  have hin : inB c.pc 0 ((ws.length : Int) - 1) = false := inB_f (by omega)
  clear hw hok hl h0
  unfold Cp.val
  generalize c.pc = pc at *
  generalize cpuCells c = CL at *
  go_enter Tryd.func74, Tryd.ntmps74
  go_upto_region 1 with fail
  replace kpc := kpc (.cells Tryd.zeroCells33 33)
  generalize ((w.alloc (.cells CL.toArray 33)).alloc (.cells Tryd.zeroCells33 33)) = W at *
  go_wp2_with (first
    | (go_at_call 48; refine (in_any _ _ _ _).mono ?_; rintro e wq ⟨rfl, hwq⟩; replace hwq := hwq.symm; subst hwq)
    | (refine wpList_build_store rfl _ _ rfl (cpuCells zeroCp).toArray (by simpa using built_cp0) rfl _ _ rfl _ rfl rfl _ _ h6 i0 rfl o0 ?_)
    | (refine wpList_build_to rfl _ _ rfl (cpuCells zeroCp).toArray (by simpa using built_cp0) ?_)
    | (refine wpList_store_row rfl _ _ _ rfl _ (cpuCells zeroCp).toArray rfl rfl _ _ h6 i0 rfl o0 ?_))
  try simp only [Exit.inBlock, Exit.then]
  exact bodyPost_ret (results_row_tmp rfl _ _ (w.heap.size + 1) 33 _ (0, 0) _ rfl (setRow_heap _ _ _ _ _ _ h6) Tryd.underlying33 rfl i0) rfl ⟨rfl, belowSC HB.out (by omega) HB.out.size _⟩

set_option maxRecDepth 100000 in
set_option maxHeartbeats 4000000 in
theorem rcpu_bad (ws : List Int) (vw : Value) (c : Cp) (w : World) (hok : c.Ok) (hw : IntsVal w vw ws) (hl : ws.length ≤ 32768) (hrv : ∀ W, Calls Tryd.prog 107 #[.int .i64 (ws.getD c.pc.toNat 0)] W fun e w' => e = .returned (.tuple #[(decX (ws.getD c.pc.toNat 0)).val, .int .i64 (decE (ws.getD c.pc.toNat 0))]) ∧ Below W.heap.size W w') (hfr : ∀ z ∈ c.regs, Fits z) (p0 : 0 ≤ c.pc) (p1 : c.pc < ws.length) (hde : ¬ decE (ws.getD c.pc.toNat 0) = 0) :
    Calls Tryd.prog 74 #[vw, c.val] w fun e w' => e = .returned (.tuple #[zeroCp.val, .int .i64 3]) ∧ Below w.heap.size w w' := by
  obtain ⟨pn, hpn⟩ : ∃ pn : Nat, c.pc = pn := ⟨c.pc.toNat, by omega⟩
  obtain ⟨aw, bw, ow, nw, cw, rfl, hln, haw, hcw, hcp, hmx⟩ := ints_get hw
  have hpw : pn < nw := by omega
  obtain rfl := haw (by omega)
  have HCW : Hid (∀ W, Below w.heap.size w W → W.cell? ⟨bw, ow + pn, none⟩ = some (.int .i64 (ws.getD pn 0))) := fun W hW => keeps_below hW _ _ (hcw pn hpw)
  rw [hpn, Int.toNat_natCast] at hrv
  have HRV : Hid (∀ W, Calls Tryd.prog 107 #[.int .i64 (ws.getD pn 0)] W fun e w' => e = .returned (.tuple #[(decX (ws.getD pn 0)).val, .int .i64 (decE (ws.getD pn 0))]) ∧ Below W.heap.size W w') := hrv
  have i0 : (Tryd.prog.info? 33).map (·.size) = some (cpuCells zeroCp).toArray.size := infoCpC zero_ok
  have o0 := cp_one zeroCp
  have HCA : Hid (CAt ((w.alloc (.cells (cpuCells c).toArray 33)).alloc (.cells Tryd.zeroCells33 33)) w.heap.size c) := ⟨heap_alloc2_old _ _ _, hok⟩
  have h6 : ((w.alloc (.cells (cpuCells c).toArray 33)).alloc (.cells Tryd.zeroCells33 33)).heap[w.heap.size + 1]? = some (.cells (cpuCells zeroCp).toArray 33 (0, 0)) := (heap_alloc2_new _ _ _).trans (by rw [zc_eq])
  have HB : Hid (Below w.heap.size w ((w.alloc (.cells (cpuCells c).toArray 33)).alloc (.cells Tryd.zeroCells33 33))) := ((Below.refl _ _).alloc (Nat.le_refl _) _).alloc (by simp) _
  have hwl : IntKind.i64.wrap ((nw : Int) - 1) = (nw : Int) - 1 := wrap_signed _ (by omega) (by omega)
  have hin : inB (pn : Int) 0 ((nw : Int) - 1) = true := inB_t (by omega) (by omega)
  have hpI : (pn : Int) < nw := by omega
  have HFR : Hid (∀ r : Nat, Fits (c.reg (r : Int))) := fun r => by
    unfold Cp.reg
    rw [Int.toNat_natCast, List.getD_eq_getElem?_getD]
    by_cases hr : r < c.regs.length
    · rw [List.getElem?_eq_getElem hr]; exact hfr _ (List.getElem_mem _)
    · rw [List.getElem?_eq_none (by omega)]; show Fits 0; unfold Fits; omega
  have hpn2 : pn ≤ 32768 := by omega
  have HPN : Hid (c.pc = pn) := hpn
  rw [hpn, Int.toNat_natCast] at hde
  clear hw hcw hrv hfr p0 p1 hln hl hpn HFR
  generalize ws.getD pn 0 = wd at *
  have hdb : (decE wd != 0) = true := by simpa using hde
  clear hde
  unfold Cp.val
  have kpc := HCA.out.pc
  rw [HPN.out] at kpc
  have kww := HCW.out _ HB.out
  go_enter Tryd.func74, Tryd.ntmps74
  go_upto_region 1 with fail
  have hzW : w.heap.size + 1 < ((w.alloc (.cells (cpuCells c).toArray 33)).alloc (.cells Tryd.zeroCells33 33)).heap.size := by simp
  generalize ((w.alloc (.cells (cpuCells c).toArray 33)).alloc (.cells Tryd.zeroCells33 33)) = W at *
  generalize decX wd = x at *
  generalize decE wd = de at *
  obtain ⟨op, rd, rs1, rs2, imm⟩ := x
  unfold Mi.val at HRV
  go_wp2_with (first
    | (go_at_call 48; refine (in_any _ _ _ _).mono ?_; rintro e wq ⟨rfl, hwq⟩; replace hwq := hwq.symm; subst hwq)
    | (go_at_call 107; refine (HRV.out _).mono ?_; rintro e w1 ⟨rfl, hb1⟩; have HB1 : Hid (Below w.heap.size w (w1.alloc (.cells #[.int .i64 op, .int .i64 rd, .int .i64 rs1, .int .i64 rs2, .int .i64 imm] 151))) := (HB.out.trans (hb1.mono HB.out.size)).alloc (by have := HB.out.size; have := hb1.size; omega) _; have h7 : (w1.alloc (.cells #[.int .i64 op, .int .i64 rd, .int .i64 rs1, .int .i64 rs2, .int .i64 imm] 151)).heap[w.heap.size + 1]? = some (.cells (cpuCells zeroCp).toArray 33 (0, 0)) := (heap_alloc_old _ _ (Nat.lt_of_lt_of_le hzW hb1.size)).trans ((hb1.block _ hzW).trans h6); clear hb1)
    | (refine wpList_store_row rfl 151 _ _ rfl _ _ rfl rfl _ _ (heap_alloc_last w1 _) (by kernel_rfl) rfl rfl ?_; rw [World.setRow_alloc_new])
    | (refine wpList_build_store rfl _ _ rfl (cpuCells zeroCp).toArray (by simpa using built_cp0) rfl _ _ rfl _ rfl rfl _ _ h7 i0 rfl o0 ?_)
    | (refine wpList_build_to rfl _ _ rfl (cpuCells zeroCp).toArray (by simpa using built_cp0) ?_)
    | (refine wpList_store_row rfl 33 _ _ rfl _ (cpuCells zeroCp).toArray rfl rfl _ _ h7 i0 rfl o0 ?_))
  try simp only [Exit.inBlock, Exit.then]
  exact bodyPost_ret (results_row_tmp rfl _ _ (w.heap.size + 1) 33 _ (0, 0) _ rfl (setRow_heap _ _ _ _ _ _ h7) Tryd.underlying33 rfl i0) rfl ⟨rfl, belowSC HB1.out (by omega) HB1.out.size _⟩

end Go.Proofs.YtndogdojcbcjgaaDoor
