import Derived.Test.YtldbmdgpdolaaaaDoorPXBrief
import Derived.Test.YtldbmdgpdolaaaaDoorPXSsaAny
import Derived.Test.YtldbmdgpdolaaaaDoorPXSsaRow
namespace Go.Proofs.YtldbmdgpdolaaaaDoor
open Go Go.RowKit

def insM (P : List Fn) (f : Fn) (pc : Nat) (l : List Int) : InsD :=
  ⟨(insD f pc).op, if setsB (insD f pc).op = true then madeI pc else -1, if rdA P (insD f pc) = true then l.getD (insD f pc).a.toNat 0 else -1, if rdB P (insD f pc) = true then l.getD (insD f pc).b.toNat 0 else -1, (insD f pc).imm, (pc : Int)⟩
theorem infoIx6 : (Tryd.prog.info? 90).map (·.size) = some 6 := by kernel_rfl
theorem inC_one (x : InsD) : (inC x).toArray.all (·.oneCell') = true := by
  rw [Array.all_eq_true_iff_forall_mem]
  intro v hv
  have hv : v ∈ inC x := by simpa using hv
  simp only [inC, List.mem_cons, List.not_mem_nil, or_false] at hv
  rcases hv with rfl | rfl | rfl | rfl | rfl | rfl <;> rfl
theorem parts_two (P : List Fn) (x : Ins) : (bits .and .i64 (partsI P x) 2 != 0) = rdA P x ∧ (bits .and .i64 (partsI P x) 4 != 0) = rdB P x := by
  unfold partsI
  cases rdA P x <;> cases rdB P x <;> exact ⟨rfl, rfl⟩
set_option maxRecDepth 100000 in
set_option maxHeartbeats 4000000 in
theorem insS_any {P : List Fn} {f : Fn} {S : List Nat} {T : Nat → Nat} {L : List Int} {pv cv bv lv : Value} (w : World) (h : SsaFn w P f S T L pv cv bv lv) (ht : TabOk w) (hc : CallOk w) (l : List Int) (hl : l.length = 12) (pc : Nat) (hpc : pc < f.code.length) :
    Calls Tryd.prog 48 #[.agg (fnV f pv cv bv lv), .agg (i64s l).toArray, .int .i64 pc] w fun e w' => e = .returned (.agg (inC (insM P f pc l)).toArray) ∧ Below w.heap.size w w' := by
  obtain ⟨cb, co, ccap, rfl, hc1, hc2, hc3⟩ := h.code
  have hio := (h.flow.insD hpc).1
  obtain ⟨i0, i1, i2, i3, i4⟩ := hc3 pc hpc
  have HRD : Hid (∀ W, Below w.heap.size w W → Calls Tryd.prog 57 #[.agg #[pv], (insD f pc).val] W fun e w' => e = .returned (.int .i64 (partsI P (insD f pc))) ∧ Below W.heap.size W w') := fun W hb => partsRead_any P pv (insD f pc) W (ht.below hb) (hc.below hb) (h.prog.keeps (keeps_below hb)) hio
  have HMK : Hid (∀ W, Below w.heap.size w W → Calls Tryd.prog 78 #[(insD f pc).val] W fun e w' => e = .returned (.bool (setsB (insD f pc).op)) ∧ Below W.heap.size W w') := fun W hb => makesS_any P (insD f pc) W (ht.below hb) hio
  have h1000 : f.code.length ≤ 1000 := by have := h.flow.ok.len2; omega
  have HMA : Hid (∀ W, Calls Tryd.prog 79 #[.int .i64 pc] W fun e w' => e = .returned (.int .i64 (madeI pc)) ∧ w' = W) := fun W => madeAt_any pc W (by omega)
  obtain ⟨an, han⟩ : ∃ n : Nat, (insD f pc).a = (n : Int) := ⟨(insD f pc).a.toNat, by have := hio.a0; omega⟩
  obtain ⟨bn, hbn⟩ : ∃ n : Nat, (insD f pc).b = (n : Int) := ⟨(insD f pc).b.toNat, by have := hio.b0; omega⟩
  have han12 : an < 12 := by have := hio.a1; omega
  have hbn12 : bn < 12 := by have := hio.b1; omega
  have HIM : Hid (insM P f pc l = ⟨(insD f pc).op, if setsB (insD f pc).op = true then madeI pc else -1, if rdA P (insD f pc) = true then l.getD an 0 else -1, if rdB P (insD f pc) = true then l.getD bn 0 else -1, (insD f pc).imm, (pc : Int)⟩) := by
    show _ = _
    unfold insM
    rw [han, hbn]; rfl
  obtain ⟨p1, p2⟩ := parts_two P (insD f pc)
  have hval : (insD f pc).val = .agg #[.int .i64 (insD f pc).op, .int .i64 (insD f pc).dst, .int .i64 (an : Int), .int .i64 (bn : Int), .int .i64 (insD f pc).imm] := by unfold Ins.val; rw [han, hbn]
  rw [hval] at HRD HMK
  have hz : ∀ n, n < 12 → (i64s l).toArray[n]? = some (.int .i64 (l.getD n 0)) := fun n hn => by simp [i64s, List.getD, hl, hn]
  have HZA : Hid ((i64s l).toArray[an]? = some (.int .i64 (l.getD an 0))) := hz an han12
  have HZB : Hid ((i64s l).toArray[bn]? = some (.int .i64 (l.getD bn 0))) := hz bn hbn12
  rw [han] at i2
  rw [hbn] at i3
  have hsz : (i64s l).length = 12 := by simp [i64s, hl]
  unfold fnV
  clear h ht hc hc3 hio han hbn hval hz hl
  generalize rdA P (insD f pc) = rA at *
  generalize rdB P (insD f pc) = rB at *
  generalize partsI P (insD f pc) = zz at *
  have hEA : Hid ((bits .and .i64 zz 2 != 0) = rA) := p1
  have hEB : Hid ((bits .and .i64 zz 4 != 0) = rB) := p2
  clear p1 p2
  generalize setsB (insD f pc).op = sB at *
  generalize (insD f pc).op = op at *
  generalize (insD f pc).dst = dst at *
  generalize (insD f pc).imm = imm at *
  generalize l.getD an 0 = zA at *
  generalize l.getD bn 0 = zB at *
  generalize hdd : i64s l = DD at *
  generalize hCL : f.code.length = CL at *
  have hpI : (pc : Int) < (CL : Int) := by omega
  clear hCL hdd
  go_enter Tryd.func48, Tryd.ntmps48
  go_upto_region 1 with fail
  have r3 : (((w.alloc (.cells #[pv, .int .i64 f.params, .slice (some ⟨cb, co, none⟩) CL ccap, bv, lv] 56)).alloc (.cells DD.toArray 108)).alloc (.cells #[.int .i64 0, .int .i64 0, .int .i64 0, .int .i64 0, .int .i64 0, .int .i64 0] 90)).heap[w.heap.size]? = some (.cells #[pv, .int .i64 f.params, .slice (some ⟨cb, co, none⟩) CL ccap, bv, lv] 56 (0, 0)) := (heap_alloc_old _ _ (by simp; omega)).trans (heap_alloc2_old _ _ _)
  have r4 : (((w.alloc (.cells #[pv, .int .i64 f.params, .slice (some ⟨cb, co, none⟩) CL ccap, bv, lv] 56)).alloc (.cells DD.toArray 108)).alloc (.cells #[.int .i64 0, .int .i64 0, .int .i64 0, .int .i64 0, .int .i64 0, .int .i64 0] 90)).heap[w.heap.size + 1]? = some (.cells DD.toArray 108 (0, 0)) := (heap_alloc_old _ _ (by simp)).trans (heap_alloc2_new _ _ _)
  have r6 : (((w.alloc (.cells #[pv, .int .i64 f.params, .slice (some ⟨cb, co, none⟩) CL ccap, bv, lv] 56)).alloc (.cells DD.toArray 108)).alloc (.cells #[.int .i64 0, .int .i64 0, .int .i64 0, .int .i64 0, .int .i64 0, .int .i64 0] 90)).heap[w.heap.size + 1 + 1]? = some (.cells #[.int .i64 0, .int .i64 0, .int .i64 0, .int .i64 0, .int .i64 0, .int .i64 0] 90 (0, 0)) := heap_alloc3_newS _ _ _ _
  have HB0 : Hid (Below w.heap.size w (((w.alloc (.cells #[pv, .int .i64 f.params, .slice (some ⟨cb, co, none⟩) CL ccap, bv, lv] 56)).alloc (.cells DD.toArray 108)).alloc (.cells #[.int .i64 0, .int .i64 0, .int .i64 0, .int .i64 0, .int .i64 0, .int .i64 0] 90))) := (((Below.refl _ _).alloc (Nat.le_refl _) _).alloc (by simp) _).alloc (by simp; omega) _
  have k2 : (((w.alloc (.cells #[pv, .int .i64 f.params, .slice (some ⟨cb, co, none⟩) CL ccap, bv, lv] 56)).alloc (.cells DD.toArray 108)).alloc (.cells #[.int .i64 0, .int .i64 0, .int .i64 0, .int .i64 0, .int .i64 0, .int .i64 0] 90)).cell? ⟨w.heap.size, 2, none⟩ = some (.slice (some ⟨cb, co, none⟩) CL ccap) := by rw [cell_of_row _ _ _ _ _ _ r3]; rfl
  generalize (((w.alloc (.cells #[pv, .int .i64 f.params, .slice (some ⟨cb, co, none⟩) CL ccap, bv, lv] 56)).alloc (.cells DD.toArray 108)).alloc (.cells #[.int .i64 0, .int .i64 0, .int .i64 0, .int .i64 0, .int .i64 0, .int .i64 0] 90)) = V at *
  have j0 := keeps_below HB0.out _ _ i0
  have j1 := keeps_below HB0.out _ _ i1
  have j2 := keeps_below HB0.out _ _ i2
  have j3 := keeps_below HB0.out _ _ i3
  have j4 := keeps_below HB0.out _ _ i4
  clear i0 i1 i2 i3 i4
  have HGS : Hid (w.heap.size + 1 + 1 < V.heap.size) := lt_of_block r6
  go_upto_region 3 with fail
  clear j0 j1 j2 j3 j4 k2
  have q3 : ((V.alloc (.cells #[.int .i64 op, .int .i64 dst, .int .i64 (an : Int), .int .i64 (bn : Int), .int .i64 imm] 42)).alloc (.cells #[.int .i64 op, .int .i64 (-1), .int .i64 (-1), .int .i64 (-1), .int .i64 imm, .int .i64 (pc : Int)] 90)).heap[w.heap.size]? = some (.cells #[pv, .int .i64 f.params, .slice (some ⟨cb, co, none⟩) CL ccap, bv, lv] 56 (0, 0)) := (heap_alloc_old _ _ (by simp; have := HGS.out; omega)).trans ((heap_alloc_old _ _ (lt_of_block r3)).trans r3)
  have q4 : ((V.alloc (.cells #[.int .i64 op, .int .i64 dst, .int .i64 (an : Int), .int .i64 (bn : Int), .int .i64 imm] 42)).alloc (.cells #[.int .i64 op, .int .i64 (-1), .int .i64 (-1), .int .i64 (-1), .int .i64 imm, .int .i64 (pc : Int)] 90)).heap[w.heap.size + 1]? = some (.cells DD.toArray 108 (0, 0)) := (heap_alloc_old _ _ (by simp; have := HGS.out; omega)).trans ((heap_alloc_old _ _ (lt_of_block r4)).trans r4)
  have q6 : ((V.alloc (.cells #[.int .i64 op, .int .i64 dst, .int .i64 (an : Int), .int .i64 (bn : Int), .int .i64 imm] 42)).alloc (.cells #[.int .i64 op, .int .i64 (-1), .int .i64 (-1), .int .i64 (-1), .int .i64 imm, .int .i64 (pc : Int)] 90)).heap[w.heap.size + 1 + 1]? = some (.cells #[.int .i64 0, .int .i64 0, .int .i64 0, .int .i64 0, .int .i64 0, .int .i64 0] 90 (0, 0)) := (heap_alloc_old _ _ (by simp; have := HGS.out; omega)).trans ((heap_alloc_old _ _ (lt_of_block r6)).trans r6)
  have q7 : ((V.alloc (.cells #[.int .i64 op, .int .i64 dst, .int .i64 (an : Int), .int .i64 (bn : Int), .int .i64 imm] 42)).alloc (.cells #[.int .i64 op, .int .i64 (-1), .int .i64 (-1), .int .i64 (-1), .int .i64 imm, .int .i64 (pc : Int)] 90)).heap[V.heap.size]? = some (.cells #[.int .i64 op, .int .i64 dst, .int .i64 (an : Int), .int .i64 (bn : Int), .int .i64 imm] 42 (0, 0)) := (heap_alloc_old _ _ (by simp)).trans (heap_alloc_last _ _)
  have q8 : ((V.alloc (.cells #[.int .i64 op, .int .i64 dst, .int .i64 (an : Int), .int .i64 (bn : Int), .int .i64 imm] 42)).alloc (.cells #[.int .i64 op, .int .i64 (-1), .int .i64 (-1), .int .i64 (-1), .int .i64 imm, .int .i64 (pc : Int)] 90)).heap[V.heap.size + 1]? = some (.cells #[.int .i64 op, .int .i64 (-1), .int .i64 (-1), .int .i64 (-1), .int .i64 imm, .int .i64 (pc : Int)] 90 (0, 0)) := heap_alloc2_new _ _ _
  have HB5 : Hid (Below w.heap.size w ((V.alloc (.cells #[.int .i64 op, .int .i64 dst, .int .i64 (an : Int), .int .i64 (bn : Int), .int .i64 imm] 42)).alloc (.cells #[.int .i64 op, .int .i64 (-1), .int .i64 (-1), .int .i64 (-1), .int .i64 imm, .int .i64 (pc : Int)] 90))) := (HB0.out.alloc HB0.out.size _).alloc (by simp; have := HB0.out.size; omega) _
  have m0 : ((V.alloc (.cells #[.int .i64 op, .int .i64 dst, .int .i64 (an : Int), .int .i64 (bn : Int), .int .i64 imm] 42)).alloc (.cells #[.int .i64 op, .int .i64 (-1), .int .i64 (-1), .int .i64 (-1), .int .i64 imm, .int .i64 (pc : Int)] 90)).cell? ⟨w.heap.size, 0, none⟩ = some pv := by rw [cell_of_row _ _ _ _ _ _ q3]; rfl
  have m7a : ((V.alloc (.cells #[.int .i64 op, .int .i64 dst, .int .i64 (an : Int), .int .i64 (bn : Int), .int .i64 imm] 42)).alloc (.cells #[.int .i64 op, .int .i64 (-1), .int .i64 (-1), .int .i64 (-1), .int .i64 imm, .int .i64 (pc : Int)] 90)).cell? ⟨V.heap.size, 0, none⟩ = some (.int .i64 op) := by rw [cell_of_row _ _ _ _ _ _ q7]; rfl
  have m7b : ((V.alloc (.cells #[.int .i64 op, .int .i64 dst, .int .i64 (an : Int), .int .i64 (bn : Int), .int .i64 imm] 42)).alloc (.cells #[.int .i64 op, .int .i64 (-1), .int .i64 (-1), .int .i64 (-1), .int .i64 imm, .int .i64 (pc : Int)] 90)).cell? ⟨V.heap.size, 1, none⟩ = some (.int .i64 dst) := by rw [cell_of_row _ _ _ _ _ _ q7]; rfl
  have m7c : ((V.alloc (.cells #[.int .i64 op, .int .i64 dst, .int .i64 (an : Int), .int .i64 (bn : Int), .int .i64 imm] 42)).alloc (.cells #[.int .i64 op, .int .i64 (-1), .int .i64 (-1), .int .i64 (-1), .int .i64 imm, .int .i64 (pc : Int)] 90)).cell? ⟨V.heap.size, 2, none⟩ = some (.int .i64 (an : Int)) := by rw [cell_of_row _ _ _ _ _ _ q7]; rfl
  have m7d : ((V.alloc (.cells #[.int .i64 op, .int .i64 dst, .int .i64 (an : Int), .int .i64 (bn : Int), .int .i64 imm] 42)).alloc (.cells #[.int .i64 op, .int .i64 (-1), .int .i64 (-1), .int .i64 (-1), .int .i64 imm, .int .i64 (pc : Int)] 90)).cell? ⟨V.heap.size, 3, none⟩ = some (.int .i64 (bn : Int)) := by rw [cell_of_row _ _ _ _ _ _ q7]; rfl
  have m7e : ((V.alloc (.cells #[.int .i64 op, .int .i64 dst, .int .i64 (an : Int), .int .i64 (bn : Int), .int .i64 imm] 42)).alloc (.cells #[.int .i64 op, .int .i64 (-1), .int .i64 (-1), .int .i64 (-1), .int .i64 imm, .int .i64 (pc : Int)] 90)).cell? ⟨V.heap.size, 4, none⟩ = some (.int .i64 imm) := by rw [cell_of_row _ _ _ _ _ _ q7]; rfl
  generalize ((V.alloc (.cells #[.int .i64 op, .int .i64 dst, .int .i64 (an : Int), .int .i64 (bn : Int), .int .i64 imm] 42)).alloc (.cells #[.int .i64 op, .int .i64 (-1), .int .i64 (-1), .int .i64 (-1), .int .i64 imm, .int .i64 (pc : Int)] 90)) = V1 at *
  have hrd := HRD.out V1 HB5.out
  clear r3 r4 r6 HB0 HRD
  go_upto_region 4 with (go_at_call 57; refine hrd.mono ?_; rintro e V2 ⟨rfl, hb2⟩)
  have r4 := (hb2.block _ (lt_of_block q4)).trans q4
  have r6 := (hb2.block _ (lt_of_block q6)).trans q6
  have r7 := (hb2.block _ (lt_of_block q7)).trans q7
  have r8 := (hb2.block _ (lt_of_block q8)).trans q8
  have HBV : Hid (Below w.heap.size w V2) := HB5.out.trans (hb2.mono HB5.out.size)
  clear hb2 hrd q3 q4 q6 q7 q8 m0 m7a m7b m7c m7d m7e HB5
  have g68 : w.heap.size + 1 + 1 < V.heap.size := HGS.out
  have g78 : V.heap.size < V.heap.size + 1 := Nat.lt_succ_self _
  have g4 : w.heap.size ≤ w.heap.size + 1 := Nat.le_succ _
  have g46 : w.heap.size + 1 < w.heap.size + 1 + 1 := Nat.lt_succ_self _
  clear HGS
  generalize V.heap.size + 1 = G8 at *
  generalize V.heap.size = G7 at *
  generalize w.heap.size + 1 + 1 = G6 at *
  generalize w.heap.size + 1 = G4 at *
  cases hA : rA <;> cases hB : rB
  · have eA : (bits .and .i64 zz 2 != 0) = false := by rw [hEA.out, hA]
    have eB : (bits .and .i64 zz 4 != 0) = false := by rw [hEB.out, hB]
    clear hEA hEB
    go_upto_region 6 with fail
    clear eA
    generalize V2 = V3 at *
    clear r4
    go_upto_region 8 with fail
    clear eB
    generalize V3 = V4 at *
    obtain ⟨xa, hxa⟩ : ∃ xa : Int, xa = (-1) := ⟨_, rfl⟩
    obtain ⟨xb, hxb⟩ : ∃ xb : Int, xb = (-1) := ⟨_, rfl⟩
    replace r8 : V4.heap[G8]? = some (.cells #[.int .i64 op, .int .i64 (-1), .int .i64 xa, .int .i64 xb, .int .i64 imm, .int .i64 (pc : Int)] 90 (0, 0)) := by rw [hxa, hxb]; exact r8
    have HFIN : Hid (insM P f pc l = ⟨op, (if sB = true then madeI pc else -1), xa, xb, imm, (pc : Int)⟩) := by show _ = _; rw [HIM.out, hA, hB, hxa, hxb]; rfl
    clear hxa hxb HIM
    clear hA hB
    have l6 := lt_of_block r6
    have m7a : V4.cell? ⟨G7, 0, none⟩ = some (.int .i64 op) := by rw [cell_of_row _ _ _ _ _ _ r7]; rfl
    have m7b : V4.cell? ⟨G7, 1, none⟩ = some (.int .i64 dst) := by rw [cell_of_row _ _ _ _ _ _ r7]; rfl
    have m7c : V4.cell? ⟨G7, 2, none⟩ = some (.int .i64 (an : Int)) := by rw [cell_of_row _ _ _ _ _ _ r7]; rfl
    have m7d : V4.cell? ⟨G7, 3, none⟩ = some (.int .i64 (bn : Int)) := by rw [cell_of_row _ _ _ _ _ _ r7]; rfl
    have m7e : V4.cell? ⟨G7, 4, none⟩ = some (.int .i64 imm) := by rw [cell_of_row _ _ _ _ _ _ r7]; rfl
    have hmk := HMK.out V4 HBV.out
    have hma := HMA.out
    clear r7 HMK HMA
    cases sB
    · go_upto_region 10 with (go_at_call 78; refine hmk.mono ?_; rintro e V5 ⟨rfl, hb5⟩)
      have s8 := (hb5.block _ (lt_of_block r8)).trans r8
      have s6 := (hb5.block _ l6).trans r6
      have HB5 : Hid (Below w.heap.size w V5) := HBV.out.trans (hb5.mono HBV.out.size)
      clear r8 r6 HBV hb5 m7a m7b m7c m7d m7e l6 hmk
      go_wp2_with (first
        | (refine wpList_load_row rfl 90 (.tmp 8) rfl _ rfl _ _ _ _ s8 Tryd.underlying90 rfl infoIx6 ?_)
        | (refine wpList_store_row rfl 90 (.tmp 6) _ rfl _ #[.int .i64 op, .int .i64 (-1), .int .i64 xa, .int .i64 xb, .int .i64 imm, .int .i64 (pc : Int)] rfl rfl _ _ s6 infoIx6 rfl (inC_one ⟨op, -1, xa, xb, imm, pc⟩) ?_))
      try simp only [Exit.inBlock, Exit.then]
      refine bodyPost_ret (results_cell_row rfl _ _ G6 90 #[.int .i64 op, .int .i64 (-1), .int .i64 xa, .int .i64 xb, .int .i64 imm, .int .i64 (pc : Int)] (0, 0) _ rfl (setRow_heap _ _ _ _ _ _ s6) Tryd.underlying90 rfl infoIx6) rfl ⟨by rw [HFIN.out]; rfl, ?_⟩
      exact belowSK HB5.out (by omega) _
    · go_upto_region 9 with (go_at_call 78; refine hmk.mono ?_; rintro e V5 ⟨rfl, hb5⟩)
      have s8 := (hb5.block _ (lt_of_block r8)).trans r8
      have s6 := (hb5.block _ l6).trans r6
      have HB5 : Hid (Below w.heap.size w V5) := HBV.out.trans (hb5.mono HBV.out.size)
      clear r8 r6 HBV hb5 m7a m7b m7c m7d m7e l6 hmk
      have t8 : (V5.setCell ⟨G8, 1, none⟩ (.int .i64 (madeI pc))).heap[G8]? = some (.cells #[.int .i64 op, .int .i64 (madeI pc), .int .i64 xa, .int .i64 xb, .int .i64 imm, .int .i64 (pc : Int)] 90 (0, 0)) := heap_setCell_same _ _ _ _ _ _ s8
      have t6 : (V5.setCell ⟨G8, 1, none⟩ (.int .i64 (madeI pc))).heap[G6]? = some (.cells #[.int .i64 0, .int .i64 0, .int .i64 0, .int .i64 0, .int .i64 0, .int .i64 0] 90 (0, 0)) := (heap_setCell_other _ _ _ _ (by show G6 ≠ G8; omega)).trans s6
      have HB6 : Hid (Below w.heap.size w (V5.setCell ⟨G8, 1, none⟩ (.int .i64 (madeI pc)))) := Below.setCell HB5.out (by show w.heap.size ≤ G8; omega) _
      have cf : V5.frozen? ⟨G8, 1, none⟩ = false := frozen_of_row _ _ _ _ _ s8
      have cc : V5.cell? ⟨G8, 1, none⟩ = some (.int .i64 (-1)) := by rw [cell_of_row _ _ _ _ _ _ s8]; rfl
      clear s8 s6 HB5
      go_upto_region 10 with (go_at_call 79; refine (hma _).mono ?_; rintro e wm ⟨rfl, hwm⟩; replace hwm := hwm.symm; subst hwm)
      generalize (V5.setCell ⟨G8, 1, none⟩ (.int .i64 (madeI pc))) = V6 at *
      clear cf cc hma
      go_wp2_with (first
        | (refine wpList_load_row rfl 90 (.tmp 8) rfl _ rfl _ _ _ _ t8 Tryd.underlying90 rfl infoIx6 ?_)
        | (refine wpList_store_row rfl 90 (.tmp 6) _ rfl _ #[.int .i64 op, .int .i64 (madeI pc), .int .i64 xa, .int .i64 xb, .int .i64 imm, .int .i64 (pc : Int)] rfl rfl _ _ t6 infoIx6 rfl (inC_one ⟨op, madeI pc, xa, xb, imm, pc⟩) ?_))
      try simp only [Exit.inBlock, Exit.then]
      refine bodyPost_ret (results_cell_row rfl _ _ G6 90 #[.int .i64 op, .int .i64 (madeI pc), .int .i64 xa, .int .i64 xb, .int .i64 imm, .int .i64 (pc : Int)] (0, 0) _ rfl (setRow_heap _ _ _ _ _ _ t6) Tryd.underlying90 rfl infoIx6) rfl ⟨by rw [HFIN.out]; rfl, ?_⟩
      exact belowSK HB6.out (by omega) _
  · have eA : (bits .and .i64 zz 2 != 0) = false := by rw [hEA.out, hA]
    have eB : (bits .and .i64 zz 4 != 0) = true := by rw [hEB.out, hB]
    clear hEA hEB
    go_upto_region 6 with fail
    clear eA
    generalize V2 = V3 at *
    have n8a : (V3.setCell ⟨G8, 3, none⟩ (.int .i64 zB)).heap[G8]? = some (.cells #[.int .i64 op, .int .i64 (-1), .int .i64 (-1), .int .i64 zB, .int .i64 imm, .int .i64 (pc : Int)] 90 (0, 0)) := heap_setCell_same _ _ _ _ _ _ r8
    have n6a : (V3.setCell ⟨G8, 3, none⟩ (.int .i64 zB)).heap[G6]? = some (.cells #[.int .i64 0, .int .i64 0, .int .i64 0, .int .i64 0, .int .i64 0, .int .i64 0] 90 (0, 0)) := (heap_setCell_other _ _ _ _ (by show G6 ≠ G8; omega)).trans r6
    have n7a : (V3.setCell ⟨G8, 3, none⟩ (.int .i64 zB)).heap[G7]? = some (.cells #[.int .i64 op, .int .i64 dst, .int .i64 (an : Int), .int .i64 (bn : Int), .int .i64 imm] 42 (0, 0)) := (heap_setCell_other _ _ _ _ (by show G7 ≠ G8; omega)).trans r7
    have HBa : Hid (Below w.heap.size w (V3.setCell ⟨G8, 3, none⟩ (.int .i64 zB))) := Below.setCell HBV.out (by show w.heap.size ≤ G8; omega) _
    have cf2 : V3.frozen? ⟨G8, 3, none⟩ = false := frozen_of_row _ _ _ _ _ r8
    have cc2 : V3.cell? ⟨G8, 3, none⟩ = some (.int .i64 (-1)) := by rw [cell_of_row _ _ _ _ _ _ r8]; rfl
    have cx2 : V3.cell? ⟨G7, 3, none⟩ = some (.int .i64 (bn : Int)) := by rw [cell_of_row _ _ _ _ _ _ r7]; rfl
    have cr2 : V3.cell? ⟨G4, bn, none⟩ = some (.int .i64 zB) := by rw [cell_of_row _ _ _ _ _ _ r4]; exact HZB.out
    clear r8 r6 r7 r4 HBV
    go_upto_region 8 with fail
    clear cf2 cc2 cx2 cr2 eB
    generalize (V3.setCell ⟨G8, 3, none⟩ (.int .i64 zB)) = V4 at *
    have r8 := n8a
    have r6 := n6a
    have r7 := n7a
    have HBV := HBa
    clear n8a n6a n7a HBa
    obtain ⟨xa, hxa⟩ : ∃ xa : Int, xa = (-1) := ⟨_, rfl⟩
    obtain ⟨xb, hxb⟩ : ∃ xb : Int, xb = zB := ⟨_, rfl⟩
    replace r8 : V4.heap[G8]? = some (.cells #[.int .i64 op, .int .i64 (-1), .int .i64 xa, .int .i64 xb, .int .i64 imm, .int .i64 (pc : Int)] 90 (0, 0)) := by rw [hxa, hxb]; exact r8
    have HFIN : Hid (insM P f pc l = ⟨op, (if sB = true then madeI pc else -1), xa, xb, imm, (pc : Int)⟩) := by show _ = _; rw [HIM.out, hA, hB, hxa, hxb]; rfl
    clear hxa hxb HIM
    clear hA hB
    have l6 := lt_of_block r6
    have m7a : V4.cell? ⟨G7, 0, none⟩ = some (.int .i64 op) := by rw [cell_of_row _ _ _ _ _ _ r7]; rfl
    have m7b : V4.cell? ⟨G7, 1, none⟩ = some (.int .i64 dst) := by rw [cell_of_row _ _ _ _ _ _ r7]; rfl
    have m7c : V4.cell? ⟨G7, 2, none⟩ = some (.int .i64 (an : Int)) := by rw [cell_of_row _ _ _ _ _ _ r7]; rfl
    have m7d : V4.cell? ⟨G7, 3, none⟩ = some (.int .i64 (bn : Int)) := by rw [cell_of_row _ _ _ _ _ _ r7]; rfl
    have m7e : V4.cell? ⟨G7, 4, none⟩ = some (.int .i64 imm) := by rw [cell_of_row _ _ _ _ _ _ r7]; rfl
    have hmk := HMK.out V4 HBV.out
    have hma := HMA.out
    clear r7 HMK HMA
    cases sB
    · go_upto_region 10 with (go_at_call 78; refine hmk.mono ?_; rintro e V5 ⟨rfl, hb5⟩)
      have s8 := (hb5.block _ (lt_of_block r8)).trans r8
      have s6 := (hb5.block _ l6).trans r6
      have HB5 : Hid (Below w.heap.size w V5) := HBV.out.trans (hb5.mono HBV.out.size)
      clear r8 r6 HBV hb5 m7a m7b m7c m7d m7e l6 hmk
      go_wp2_with (first
        | (refine wpList_load_row rfl 90 (.tmp 8) rfl _ rfl _ _ _ _ s8 Tryd.underlying90 rfl infoIx6 ?_)
        | (refine wpList_store_row rfl 90 (.tmp 6) _ rfl _ #[.int .i64 op, .int .i64 (-1), .int .i64 xa, .int .i64 xb, .int .i64 imm, .int .i64 (pc : Int)] rfl rfl _ _ s6 infoIx6 rfl (inC_one ⟨op, -1, xa, xb, imm, pc⟩) ?_))
      try simp only [Exit.inBlock, Exit.then]
      refine bodyPost_ret (results_cell_row rfl _ _ G6 90 #[.int .i64 op, .int .i64 (-1), .int .i64 xa, .int .i64 xb, .int .i64 imm, .int .i64 (pc : Int)] (0, 0) _ rfl (setRow_heap _ _ _ _ _ _ s6) Tryd.underlying90 rfl infoIx6) rfl ⟨by rw [HFIN.out]; rfl, ?_⟩
      exact belowSK HB5.out (by omega) _
    · go_upto_region 9 with (go_at_call 78; refine hmk.mono ?_; rintro e V5 ⟨rfl, hb5⟩)
      have s8 := (hb5.block _ (lt_of_block r8)).trans r8
      have s6 := (hb5.block _ l6).trans r6
      have HB5 : Hid (Below w.heap.size w V5) := HBV.out.trans (hb5.mono HBV.out.size)
      clear r8 r6 HBV hb5 m7a m7b m7c m7d m7e l6 hmk
      have t8 : (V5.setCell ⟨G8, 1, none⟩ (.int .i64 (madeI pc))).heap[G8]? = some (.cells #[.int .i64 op, .int .i64 (madeI pc), .int .i64 xa, .int .i64 xb, .int .i64 imm, .int .i64 (pc : Int)] 90 (0, 0)) := heap_setCell_same _ _ _ _ _ _ s8
      have t6 : (V5.setCell ⟨G8, 1, none⟩ (.int .i64 (madeI pc))).heap[G6]? = some (.cells #[.int .i64 0, .int .i64 0, .int .i64 0, .int .i64 0, .int .i64 0, .int .i64 0] 90 (0, 0)) := (heap_setCell_other _ _ _ _ (by show G6 ≠ G8; omega)).trans s6
      have HB6 : Hid (Below w.heap.size w (V5.setCell ⟨G8, 1, none⟩ (.int .i64 (madeI pc)))) := Below.setCell HB5.out (by show w.heap.size ≤ G8; omega) _
      have cf : V5.frozen? ⟨G8, 1, none⟩ = false := frozen_of_row _ _ _ _ _ s8
      have cc : V5.cell? ⟨G8, 1, none⟩ = some (.int .i64 (-1)) := by rw [cell_of_row _ _ _ _ _ _ s8]; rfl
      clear s8 s6 HB5
      go_upto_region 10 with (go_at_call 79; refine (hma _).mono ?_; rintro e wm ⟨rfl, hwm⟩; replace hwm := hwm.symm; subst hwm)
      generalize (V5.setCell ⟨G8, 1, none⟩ (.int .i64 (madeI pc))) = V6 at *
      clear cf cc hma
      go_wp2_with (first
        | (refine wpList_load_row rfl 90 (.tmp 8) rfl _ rfl _ _ _ _ t8 Tryd.underlying90 rfl infoIx6 ?_)
        | (refine wpList_store_row rfl 90 (.tmp 6) _ rfl _ #[.int .i64 op, .int .i64 (madeI pc), .int .i64 xa, .int .i64 xb, .int .i64 imm, .int .i64 (pc : Int)] rfl rfl _ _ t6 infoIx6 rfl (inC_one ⟨op, madeI pc, xa, xb, imm, pc⟩) ?_))
      try simp only [Exit.inBlock, Exit.then]
      refine bodyPost_ret (results_cell_row rfl _ _ G6 90 #[.int .i64 op, .int .i64 (madeI pc), .int .i64 xa, .int .i64 xb, .int .i64 imm, .int .i64 (pc : Int)] (0, 0) _ rfl (setRow_heap _ _ _ _ _ _ t6) Tryd.underlying90 rfl infoIx6) rfl ⟨by rw [HFIN.out]; rfl, ?_⟩
      exact belowSK HB6.out (by omega) _
  · have eA : (bits .and .i64 zz 2 != 0) = true := by rw [hEA.out, hA]
    have eB : (bits .and .i64 zz 4 != 0) = false := by rw [hEB.out, hB]
    clear hEA hEB
    have n8a : (V2.setCell ⟨G8, 2, none⟩ (.int .i64 zA)).heap[G8]? = some (.cells #[.int .i64 op, .int .i64 (-1), .int .i64 zA, .int .i64 (-1), .int .i64 imm, .int .i64 (pc : Int)] 90 (0, 0)) := heap_setCell_same _ _ _ _ _ _ r8
    have n6a : (V2.setCell ⟨G8, 2, none⟩ (.int .i64 zA)).heap[G6]? = some (.cells #[.int .i64 0, .int .i64 0, .int .i64 0, .int .i64 0, .int .i64 0, .int .i64 0] 90 (0, 0)) := (heap_setCell_other _ _ _ _ (by show G6 ≠ G8; omega)).trans r6
    have n7a : (V2.setCell ⟨G8, 2, none⟩ (.int .i64 zA)).heap[G7]? = some (.cells #[.int .i64 op, .int .i64 dst, .int .i64 (an : Int), .int .i64 (bn : Int), .int .i64 imm] 42 (0, 0)) := (heap_setCell_other _ _ _ _ (by show G7 ≠ G8; omega)).trans r7
    have n4a : (V2.setCell ⟨G8, 2, none⟩ (.int .i64 zA)).heap[G4]? = some (.cells DD.toArray 108 (0, 0)) := (heap_setCell_other _ _ _ _ (by show G4 ≠ G8; omega)).trans r4
    have HBa : Hid (Below w.heap.size w (V2.setCell ⟨G8, 2, none⟩ (.int .i64 zA))) := Below.setCell HBV.out (by show w.heap.size ≤ G8; omega) _
    have cf2 : V2.frozen? ⟨G8, 2, none⟩ = false := frozen_of_row _ _ _ _ _ r8
    have cc2 : V2.cell? ⟨G8, 2, none⟩ = some (.int .i64 (-1)) := by rw [cell_of_row _ _ _ _ _ _ r8]; rfl
    have cx2 : V2.cell? ⟨G7, 2, none⟩ = some (.int .i64 (an : Int)) := by rw [cell_of_row _ _ _ _ _ _ r7]; rfl
    have cr2 : V2.cell? ⟨G4, an, none⟩ = some (.int .i64 zA) := by rw [cell_of_row _ _ _ _ _ _ r4]; exact HZA.out
    clear r8 r6 r7 r4 HBV
    go_upto_region 6 with fail
    clear cf2 cc2 cx2 cr2 eA
    generalize (V2.setCell ⟨G8, 2, none⟩ (.int .i64 zA)) = V3 at *
    have r8 := n8a
    have r6 := n6a
    have r7 := n7a
    have r4 := n4a
    have HBV := HBa
    clear n8a n6a n7a n4a HBa
    clear r4
    go_upto_region 8 with fail
    clear eB
    generalize V3 = V4 at *
    obtain ⟨xa, hxa⟩ : ∃ xa : Int, xa = zA := ⟨_, rfl⟩
    obtain ⟨xb, hxb⟩ : ∃ xb : Int, xb = (-1) := ⟨_, rfl⟩
    replace r8 : V4.heap[G8]? = some (.cells #[.int .i64 op, .int .i64 (-1), .int .i64 xa, .int .i64 xb, .int .i64 imm, .int .i64 (pc : Int)] 90 (0, 0)) := by rw [hxa, hxb]; exact r8
    have HFIN : Hid (insM P f pc l = ⟨op, (if sB = true then madeI pc else -1), xa, xb, imm, (pc : Int)⟩) := by show _ = _; rw [HIM.out, hA, hB, hxa, hxb]; rfl
    clear hxa hxb HIM
    clear hA hB
    have l6 := lt_of_block r6
    have m7a : V4.cell? ⟨G7, 0, none⟩ = some (.int .i64 op) := by rw [cell_of_row _ _ _ _ _ _ r7]; rfl
    have m7b : V4.cell? ⟨G7, 1, none⟩ = some (.int .i64 dst) := by rw [cell_of_row _ _ _ _ _ _ r7]; rfl
    have m7c : V4.cell? ⟨G7, 2, none⟩ = some (.int .i64 (an : Int)) := by rw [cell_of_row _ _ _ _ _ _ r7]; rfl
    have m7d : V4.cell? ⟨G7, 3, none⟩ = some (.int .i64 (bn : Int)) := by rw [cell_of_row _ _ _ _ _ _ r7]; rfl
    have m7e : V4.cell? ⟨G7, 4, none⟩ = some (.int .i64 imm) := by rw [cell_of_row _ _ _ _ _ _ r7]; rfl
    have hmk := HMK.out V4 HBV.out
    have hma := HMA.out
    clear r7 HMK HMA
    cases sB
    · go_upto_region 10 with (go_at_call 78; refine hmk.mono ?_; rintro e V5 ⟨rfl, hb5⟩)
      have s8 := (hb5.block _ (lt_of_block r8)).trans r8
      have s6 := (hb5.block _ l6).trans r6
      have HB5 : Hid (Below w.heap.size w V5) := HBV.out.trans (hb5.mono HBV.out.size)
      clear r8 r6 HBV hb5 m7a m7b m7c m7d m7e l6 hmk
      go_wp2_with (first
        | (refine wpList_load_row rfl 90 (.tmp 8) rfl _ rfl _ _ _ _ s8 Tryd.underlying90 rfl infoIx6 ?_)
        | (refine wpList_store_row rfl 90 (.tmp 6) _ rfl _ #[.int .i64 op, .int .i64 (-1), .int .i64 xa, .int .i64 xb, .int .i64 imm, .int .i64 (pc : Int)] rfl rfl _ _ s6 infoIx6 rfl (inC_one ⟨op, -1, xa, xb, imm, pc⟩) ?_))
      try simp only [Exit.inBlock, Exit.then]
      refine bodyPost_ret (results_cell_row rfl _ _ G6 90 #[.int .i64 op, .int .i64 (-1), .int .i64 xa, .int .i64 xb, .int .i64 imm, .int .i64 (pc : Int)] (0, 0) _ rfl (setRow_heap _ _ _ _ _ _ s6) Tryd.underlying90 rfl infoIx6) rfl ⟨by rw [HFIN.out]; rfl, ?_⟩
      exact belowSK HB5.out (by omega) _
    · go_upto_region 9 with (go_at_call 78; refine hmk.mono ?_; rintro e V5 ⟨rfl, hb5⟩)
      have s8 := (hb5.block _ (lt_of_block r8)).trans r8
      have s6 := (hb5.block _ l6).trans r6
      have HB5 : Hid (Below w.heap.size w V5) := HBV.out.trans (hb5.mono HBV.out.size)
      clear r8 r6 HBV hb5 m7a m7b m7c m7d m7e l6 hmk
      have t8 : (V5.setCell ⟨G8, 1, none⟩ (.int .i64 (madeI pc))).heap[G8]? = some (.cells #[.int .i64 op, .int .i64 (madeI pc), .int .i64 xa, .int .i64 xb, .int .i64 imm, .int .i64 (pc : Int)] 90 (0, 0)) := heap_setCell_same _ _ _ _ _ _ s8
      have t6 : (V5.setCell ⟨G8, 1, none⟩ (.int .i64 (madeI pc))).heap[G6]? = some (.cells #[.int .i64 0, .int .i64 0, .int .i64 0, .int .i64 0, .int .i64 0, .int .i64 0] 90 (0, 0)) := (heap_setCell_other _ _ _ _ (by show G6 ≠ G8; omega)).trans s6
      have HB6 : Hid (Below w.heap.size w (V5.setCell ⟨G8, 1, none⟩ (.int .i64 (madeI pc)))) := Below.setCell HB5.out (by show w.heap.size ≤ G8; omega) _
      have cf : V5.frozen? ⟨G8, 1, none⟩ = false := frozen_of_row _ _ _ _ _ s8
      have cc : V5.cell? ⟨G8, 1, none⟩ = some (.int .i64 (-1)) := by rw [cell_of_row _ _ _ _ _ _ s8]; rfl
      clear s8 s6 HB5
      go_upto_region 10 with (go_at_call 79; refine (hma _).mono ?_; rintro e wm ⟨rfl, hwm⟩; replace hwm := hwm.symm; subst hwm)
      generalize (V5.setCell ⟨G8, 1, none⟩ (.int .i64 (madeI pc))) = V6 at *
      clear cf cc hma
      go_wp2_with (first
        | (refine wpList_load_row rfl 90 (.tmp 8) rfl _ rfl _ _ _ _ t8 Tryd.underlying90 rfl infoIx6 ?_)
        | (refine wpList_store_row rfl 90 (.tmp 6) _ rfl _ #[.int .i64 op, .int .i64 (madeI pc), .int .i64 xa, .int .i64 xb, .int .i64 imm, .int .i64 (pc : Int)] rfl rfl _ _ t6 infoIx6 rfl (inC_one ⟨op, madeI pc, xa, xb, imm, pc⟩) ?_))
      try simp only [Exit.inBlock, Exit.then]
      refine bodyPost_ret (results_cell_row rfl _ _ G6 90 #[.int .i64 op, .int .i64 (madeI pc), .int .i64 xa, .int .i64 xb, .int .i64 imm, .int .i64 (pc : Int)] (0, 0) _ rfl (setRow_heap _ _ _ _ _ _ t6) Tryd.underlying90 rfl infoIx6) rfl ⟨by rw [HFIN.out]; rfl, ?_⟩
      exact belowSK HB6.out (by omega) _
  · have eA : (bits .and .i64 zz 2 != 0) = true := by rw [hEA.out, hA]
    have eB : (bits .and .i64 zz 4 != 0) = true := by rw [hEB.out, hB]
    clear hEA hEB
    have n8a : (V2.setCell ⟨G8, 2, none⟩ (.int .i64 zA)).heap[G8]? = some (.cells #[.int .i64 op, .int .i64 (-1), .int .i64 zA, .int .i64 (-1), .int .i64 imm, .int .i64 (pc : Int)] 90 (0, 0)) := heap_setCell_same _ _ _ _ _ _ r8
    have n6a : (V2.setCell ⟨G8, 2, none⟩ (.int .i64 zA)).heap[G6]? = some (.cells #[.int .i64 0, .int .i64 0, .int .i64 0, .int .i64 0, .int .i64 0, .int .i64 0] 90 (0, 0)) := (heap_setCell_other _ _ _ _ (by show G6 ≠ G8; omega)).trans r6
    have n7a : (V2.setCell ⟨G8, 2, none⟩ (.int .i64 zA)).heap[G7]? = some (.cells #[.int .i64 op, .int .i64 dst, .int .i64 (an : Int), .int .i64 (bn : Int), .int .i64 imm] 42 (0, 0)) := (heap_setCell_other _ _ _ _ (by show G7 ≠ G8; omega)).trans r7
    have n4a : (V2.setCell ⟨G8, 2, none⟩ (.int .i64 zA)).heap[G4]? = some (.cells DD.toArray 108 (0, 0)) := (heap_setCell_other _ _ _ _ (by show G4 ≠ G8; omega)).trans r4
    have HBa : Hid (Below w.heap.size w (V2.setCell ⟨G8, 2, none⟩ (.int .i64 zA))) := Below.setCell HBV.out (by show w.heap.size ≤ G8; omega) _
    have cf2 : V2.frozen? ⟨G8, 2, none⟩ = false := frozen_of_row _ _ _ _ _ r8
    have cc2 : V2.cell? ⟨G8, 2, none⟩ = some (.int .i64 (-1)) := by rw [cell_of_row _ _ _ _ _ _ r8]; rfl
    have cx2 : V2.cell? ⟨G7, 2, none⟩ = some (.int .i64 (an : Int)) := by rw [cell_of_row _ _ _ _ _ _ r7]; rfl
    have cr2 : V2.cell? ⟨G4, an, none⟩ = some (.int .i64 zA) := by rw [cell_of_row _ _ _ _ _ _ r4]; exact HZA.out
    clear r8 r6 r7 r4 HBV
    go_upto_region 6 with fail
    clear cf2 cc2 cx2 cr2 eA
    generalize (V2.setCell ⟨G8, 2, none⟩ (.int .i64 zA)) = V3 at *
    have r8 := n8a
    have r6 := n6a
    have r7 := n7a
    have r4 := n4a
    have HBV := HBa
    clear n8a n6a n7a n4a HBa
    have n8a : (V3.setCell ⟨G8, 3, none⟩ (.int .i64 zB)).heap[G8]? = some (.cells #[.int .i64 op, .int .i64 (-1), .int .i64 zA, .int .i64 zB, .int .i64 imm, .int .i64 (pc : Int)] 90 (0, 0)) := heap_setCell_same _ _ _ _ _ _ r8
    have n6a : (V3.setCell ⟨G8, 3, none⟩ (.int .i64 zB)).heap[G6]? = some (.cells #[.int .i64 0, .int .i64 0, .int .i64 0, .int .i64 0, .int .i64 0, .int .i64 0] 90 (0, 0)) := (heap_setCell_other _ _ _ _ (by show G6 ≠ G8; omega)).trans r6
    have n7a : (V3.setCell ⟨G8, 3, none⟩ (.int .i64 zB)).heap[G7]? = some (.cells #[.int .i64 op, .int .i64 dst, .int .i64 (an : Int), .int .i64 (bn : Int), .int .i64 imm] 42 (0, 0)) := (heap_setCell_other _ _ _ _ (by show G7 ≠ G8; omega)).trans r7
    have HBa : Hid (Below w.heap.size w (V3.setCell ⟨G8, 3, none⟩ (.int .i64 zB))) := Below.setCell HBV.out (by show w.heap.size ≤ G8; omega) _
    have cf2 : V3.frozen? ⟨G8, 3, none⟩ = false := frozen_of_row _ _ _ _ _ r8
    have cc2 : V3.cell? ⟨G8, 3, none⟩ = some (.int .i64 (-1)) := by rw [cell_of_row _ _ _ _ _ _ r8]; rfl
    have cx2 : V3.cell? ⟨G7, 3, none⟩ = some (.int .i64 (bn : Int)) := by rw [cell_of_row _ _ _ _ _ _ r7]; rfl
    have cr2 : V3.cell? ⟨G4, bn, none⟩ = some (.int .i64 zB) := by rw [cell_of_row _ _ _ _ _ _ r4]; exact HZB.out
    clear r8 r6 r7 r4 HBV
    go_upto_region 8 with fail
    clear cf2 cc2 cx2 cr2 eB
    generalize (V3.setCell ⟨G8, 3, none⟩ (.int .i64 zB)) = V4 at *
    have r8 := n8a
    have r6 := n6a
    have r7 := n7a
    have HBV := HBa
    clear n8a n6a n7a HBa
    obtain ⟨xa, hxa⟩ : ∃ xa : Int, xa = zA := ⟨_, rfl⟩
    obtain ⟨xb, hxb⟩ : ∃ xb : Int, xb = zB := ⟨_, rfl⟩
    replace r8 : V4.heap[G8]? = some (.cells #[.int .i64 op, .int .i64 (-1), .int .i64 xa, .int .i64 xb, .int .i64 imm, .int .i64 (pc : Int)] 90 (0, 0)) := by rw [hxa, hxb]; exact r8
    have HFIN : Hid (insM P f pc l = ⟨op, (if sB = true then madeI pc else -1), xa, xb, imm, (pc : Int)⟩) := by show _ = _; rw [HIM.out, hA, hB, hxa, hxb]; rfl
    clear hxa hxb HIM
    clear hA hB
    have l6 := lt_of_block r6
    have m7a : V4.cell? ⟨G7, 0, none⟩ = some (.int .i64 op) := by rw [cell_of_row _ _ _ _ _ _ r7]; rfl
    have m7b : V4.cell? ⟨G7, 1, none⟩ = some (.int .i64 dst) := by rw [cell_of_row _ _ _ _ _ _ r7]; rfl
    have m7c : V4.cell? ⟨G7, 2, none⟩ = some (.int .i64 (an : Int)) := by rw [cell_of_row _ _ _ _ _ _ r7]; rfl
    have m7d : V4.cell? ⟨G7, 3, none⟩ = some (.int .i64 (bn : Int)) := by rw [cell_of_row _ _ _ _ _ _ r7]; rfl
    have m7e : V4.cell? ⟨G7, 4, none⟩ = some (.int .i64 imm) := by rw [cell_of_row _ _ _ _ _ _ r7]; rfl
    have hmk := HMK.out V4 HBV.out
    have hma := HMA.out
    clear r7 HMK HMA
    cases sB
    · go_upto_region 10 with (go_at_call 78; refine hmk.mono ?_; rintro e V5 ⟨rfl, hb5⟩)
      have s8 := (hb5.block _ (lt_of_block r8)).trans r8
      have s6 := (hb5.block _ l6).trans r6
      have HB5 : Hid (Below w.heap.size w V5) := HBV.out.trans (hb5.mono HBV.out.size)
      clear r8 r6 HBV hb5 m7a m7b m7c m7d m7e l6 hmk
      go_wp2_with (first
        | (refine wpList_load_row rfl 90 (.tmp 8) rfl _ rfl _ _ _ _ s8 Tryd.underlying90 rfl infoIx6 ?_)
        | (refine wpList_store_row rfl 90 (.tmp 6) _ rfl _ #[.int .i64 op, .int .i64 (-1), .int .i64 xa, .int .i64 xb, .int .i64 imm, .int .i64 (pc : Int)] rfl rfl _ _ s6 infoIx6 rfl (inC_one ⟨op, -1, xa, xb, imm, pc⟩) ?_))
      try simp only [Exit.inBlock, Exit.then]
      refine bodyPost_ret (results_cell_row rfl _ _ G6 90 #[.int .i64 op, .int .i64 (-1), .int .i64 xa, .int .i64 xb, .int .i64 imm, .int .i64 (pc : Int)] (0, 0) _ rfl (setRow_heap _ _ _ _ _ _ s6) Tryd.underlying90 rfl infoIx6) rfl ⟨by rw [HFIN.out]; rfl, ?_⟩
      exact belowSK HB5.out (by omega) _
    · go_upto_region 9 with (go_at_call 78; refine hmk.mono ?_; rintro e V5 ⟨rfl, hb5⟩)
      have s8 := (hb5.block _ (lt_of_block r8)).trans r8
      have s6 := (hb5.block _ l6).trans r6
      have HB5 : Hid (Below w.heap.size w V5) := HBV.out.trans (hb5.mono HBV.out.size)
      clear r8 r6 HBV hb5 m7a m7b m7c m7d m7e l6 hmk
      have t8 : (V5.setCell ⟨G8, 1, none⟩ (.int .i64 (madeI pc))).heap[G8]? = some (.cells #[.int .i64 op, .int .i64 (madeI pc), .int .i64 xa, .int .i64 xb, .int .i64 imm, .int .i64 (pc : Int)] 90 (0, 0)) := heap_setCell_same _ _ _ _ _ _ s8
      have t6 : (V5.setCell ⟨G8, 1, none⟩ (.int .i64 (madeI pc))).heap[G6]? = some (.cells #[.int .i64 0, .int .i64 0, .int .i64 0, .int .i64 0, .int .i64 0, .int .i64 0] 90 (0, 0)) := (heap_setCell_other _ _ _ _ (by show G6 ≠ G8; omega)).trans s6
      have HB6 : Hid (Below w.heap.size w (V5.setCell ⟨G8, 1, none⟩ (.int .i64 (madeI pc)))) := Below.setCell HB5.out (by show w.heap.size ≤ G8; omega) _
      have cf : V5.frozen? ⟨G8, 1, none⟩ = false := frozen_of_row _ _ _ _ _ s8
      have cc : V5.cell? ⟨G8, 1, none⟩ = some (.int .i64 (-1)) := by rw [cell_of_row _ _ _ _ _ _ s8]; rfl
      clear s8 s6 HB5
      go_upto_region 10 with (go_at_call 79; refine (hma _).mono ?_; rintro e wm ⟨rfl, hwm⟩; replace hwm := hwm.symm; subst hwm)
      generalize (V5.setCell ⟨G8, 1, none⟩ (.int .i64 (madeI pc))) = V6 at *
      clear cf cc hma
      go_wp2_with (first
        | (refine wpList_load_row rfl 90 (.tmp 8) rfl _ rfl _ _ _ _ t8 Tryd.underlying90 rfl infoIx6 ?_)
        | (refine wpList_store_row rfl 90 (.tmp 6) _ rfl _ #[.int .i64 op, .int .i64 (madeI pc), .int .i64 xa, .int .i64 xb, .int .i64 imm, .int .i64 (pc : Int)] rfl rfl _ _ t6 infoIx6 rfl (inC_one ⟨op, madeI pc, xa, xb, imm, pc⟩) ?_))
      try simp only [Exit.inBlock, Exit.then]
      refine bodyPost_ret (results_cell_row rfl _ _ G6 90 #[.int .i64 op, .int .i64 (madeI pc), .int .i64 xa, .int .i64 xb, .int .i64 imm, .int .i64 (pc : Int)] (0, 0) _ rfl (setRow_heap _ _ _ _ _ _ t6) Tryd.underlying90 rfl infoIx6) rfl ⟨by rw [HFIN.out]; rfl, ?_⟩
      exact belowSK HB6.out (by omega) _
end Go.Proofs.YtldbmdgpdolaaaaDoor
