import Derived.Test.YtfacdhkadnmnlaaDoorProg
import Derived.WalkLawsBesides
import Derived.Test.YtfacdhkadnmnlaaDoorPXOpen
import Derived.BigRegion
import Derived.Deep.DeepCutAuto
import Derived.Deep.LoopGhost
import Derived.Deep.RegionHeld3
import Derived.Deep.RegionWith
import Derived.Test.YtfacdhkadnmnlaaDoorPGroupA
namespace Go.Proofs.YtfacdhkadnmnlaaDoor
open Go Go.RowKit

def pickI (n many : Int) : Int := (if n < 0 then -(n + 1) else n) % many
theorem pickI_bounds (n many : Int) (h : 0 < many) : 0 ≤ pickI n many ∧ pickI n many < many := by
 unfold pickI
 exact ⟨Int.emod_nonneg _ (by omega), Int.emod_lt_of_pos _ h⟩
set_option maxRecDepth 100000 in
theorem picked_any (n many : Int) (w : World) (hn : I64 n) (h1 : 0 < many) (h2 : many ≤ 1000000) :
  Calls Tryd.prog 14 #[.int .i64 n, .int .i64 many] w fun e w' => e = .returned (.int .i64 (pickI n many)) ∧ w' = w := by
 unfold I64 at hn
 have hm : ¬ many = 0 := by omega
 by_cases h : n < 0
 ·have e : pickI n many = (-(n + 1)) % many := by unfold pickI; rw [if_pos h]
  rw [e]
  clear e
  go_enter Tryd.func14, Tryd.ntmps14
  go_wp2
  go_ret
  exact ⟨ret_int (by rw [← Int.neg_tmod, Int.tmod_eq_emod_of_nonneg (by omega)]), rfl⟩
 ·have e : pickI n many = n % many := by unfold pickI; rw [if_neg h]
  rw [e]
  clear e
  go_enter Tryd.func14, Tryd.ntmps14
  go_wp2
  go_ret
  exact ⟨ret_int (by first | rfl | omega), rfl⟩
def mkIns (x : Ins) (regs places funcs : Int) : Ins :=
 if 1 + pickI x.op 19 = 1 then ⟨1 + pickI x.op 19, pickI x.dst regs, 0, 0, x.imm⟩
 else if 1 + pickI x.op 19 ≤ 12 then ⟨1 + pickI x.op 19, pickI x.dst regs, pickI x.a regs, pickI x.b regs, 0⟩
 else if 1 + pickI x.op 19 = 13 ∨ 1 + pickI x.op 19 = 18 then ⟨1 + pickI x.op 19, pickI x.dst regs, pickI x.a regs, 0, 0⟩
 else if 1 + pickI x.op 19 = 14 then ⟨1 + pickI x.op 19, 0, pickI x.a regs, pickI x.b regs, 0⟩
 else if 1 + pickI x.op 19 = 15 then ⟨1 + pickI x.op 19, 0, 0, 0, pickI x.imm places⟩
 else if 1 + pickI x.op 19 = 16 then ⟨1 + pickI x.op 19, 0, pickI x.a regs, 0, pickI x.imm places⟩
 else if 1 + pickI x.op 19 = 17 then ⟨1 + pickI x.op 19, pickI x.dst regs, pickI x.a regs, pickI x.b regs, pickI x.imm funcs⟩
 else ⟨1 + pickI x.op 19, 0, pickI x.a regs, 0, 0⟩
set_option maxRecDepth 100000 in
set_option maxHeartbeats 2000000 in
theorem instr_mk (x : Ins) (regs places funcs : Int) (w : World) (hx : x.wf) (h1 : 1 ≤ regs) (h2 : regs ≤ 12) (h3 : 1 ≤ places) (h4 : places ≤ 100) (h5 : 1 ≤ funcs) (h6 : funcs ≤ 4) :
  Calls Tryd.prog 43 #[x.val, .int .i64 regs, .int .i64 places, .int .i64 funcs] w fun e w' => e = .returned (mkIns x regs places funcs).val ∧ Below w.heap.size w w' := by
 obtain ⟨op, dst, a, b, imm⟩ := x
 obtain ⟨ho, hd, ha, hb, hi⟩ := hx
 dsimp only at ho hd ha hb hi
 have hob := pickI_bounds op 19 (by decide)
 unfold Ins.val
 unfold mkIns
 dsimp only
 have hh : 0 < regs ∧ regs ≤ 1000000 ∧ 0 < places ∧ places ≤ 1000000 ∧ 0 < funcs ∧ funcs ≤ 1000000 := by omega
 by_cases c1 : 1 + pickI op 19 = 1
 ·rw [if_pos c1]
  dsimp only
  have c0 : pickI op 19 = 0 := by omega
  rw [c0] at c1 ⊢
  clear c1
  go_enter Tryd.func43, Tryd.ntmps43
  go_wp2_with (go_at_call 14; refine (picked_any _ _ _ ?_ ?_ ?_).mono ?_; (first | exact ho | exact hd | exact ha | exact hb | exact hi); omega; omega; rintro e w' ⟨rfl, rfl⟩)
  exact bodyPost_ret (v := .agg #[.int .i64 (1 + 0), .int .i64 (pickI dst regs), .int .i64 (0), .int .i64 (0), .int .i64 (imm)]) (by simp [results, Tryd.results43, go_sem]) rfl ⟨rfl, (((Below.refl _ _).alloc (Nat.le_refl _) _).alloc (by simp) _).alloc (by simp; omega) _⟩
 rw [if_neg c1]
 by_cases c2 : 1 + pickI op 19 ≤ 12
 ·rw [if_pos c2]
  dsimp only
  have c1' : (1 + pickI op 19 == 1) = false := by simpa using c1
  go_enter Tryd.func43, Tryd.ntmps43
  go_wp2_with (go_at_call 14; refine (picked_any _ _ _ ?_ ?_ ?_).mono ?_; (first | exact ho | exact hd | exact ha | exact hb | exact hi); omega; omega; rintro e w' ⟨rfl, rfl⟩)
  exact bodyPost_ret (v := .agg #[.int .i64 (1 + pickI op 19), .int .i64 (pickI dst regs), .int .i64 (pickI a regs), .int .i64 (pickI b regs), .int .i64 (0)]) (by simp [results, Tryd.results43, go_sem]) rfl ⟨rfl, (((Below.refl _ _).alloc (Nat.le_refl _) _).alloc (by simp) _).alloc (by simp; omega) _⟩
 rw [if_neg c2]
 by_cases c3 : 1 + pickI op 19 = 13 ∨ 1 + pickI op 19 = 18
 ·rw [if_pos c3]
  dsimp only
  rcases c3 with c3 | c3
  ·have c0 : pickI op 19 = 12 := by omega
   rw [c0]
   clear c3 c2 c1
   go_enter Tryd.func43, Tryd.ntmps43
   go_wp2_with (go_at_call 14; refine (picked_any _ _ _ ?_ ?_ ?_).mono ?_; (first | exact ho | exact hd | exact ha | exact hb | exact hi); omega; omega; rintro e w' ⟨rfl, rfl⟩)
   exact bodyPost_ret (v := .agg #[.int .i64 (1 + 12), .int .i64 (pickI dst regs), .int .i64 (pickI a regs), .int .i64 (0), .int .i64 (0)]) (by simp [results, Tryd.results43, go_sem]) rfl ⟨rfl, (((Below.refl _ _).alloc (Nat.le_refl _) _).alloc (by simp) _).alloc (by simp; omega) _⟩
  ·have c0 : pickI op 19 = 17 := by omega
   rw [c0]
   clear c3 c2 c1
   go_enter Tryd.func43, Tryd.ntmps43
   go_wp2_with (go_at_call 14; refine (picked_any _ _ _ ?_ ?_ ?_).mono ?_; (first | exact ho | exact hd | exact ha | exact hb | exact hi); omega; omega; rintro e w' ⟨rfl, rfl⟩)
   exact bodyPost_ret (v := .agg #[.int .i64 (1 + 17), .int .i64 (pickI dst regs), .int .i64 (pickI a regs), .int .i64 (0), .int .i64 (0)]) (by simp [results, Tryd.results43, go_sem]) rfl ⟨rfl, (((Below.refl _ _).alloc (Nat.le_refl _) _).alloc (by simp) _).alloc (by simp; omega) _⟩
 rw [if_neg c3]
 by_cases c14 : 1 + pickI op 19 = 14
 ·rw [if_pos c14]
  dsimp only
  have c0 : pickI op 19 = 13 := by omega
  rw [c0] at c14 ⊢
  clear c14
  go_enter Tryd.func43, Tryd.ntmps43
  go_wp2_with (go_at_call 14; refine (picked_any _ _ _ ?_ ?_ ?_).mono ?_; (first | exact ho | exact hd | exact ha | exact hb | exact hi); omega; omega; rintro e w' ⟨rfl, rfl⟩)
  exact bodyPost_ret (v := .agg #[.int .i64 (1 + 13), .int .i64 (0), .int .i64 (pickI a regs), .int .i64 (pickI b regs), .int .i64 (0)]) (by simp [results, Tryd.results43, go_sem]) rfl ⟨rfl, (((Below.refl _ _).alloc (Nat.le_refl _) _).alloc (by simp) _).alloc (by simp; omega) _⟩
 rw [if_neg c14]
 by_cases c15 : 1 + pickI op 19 = 15
 ·rw [if_pos c15]
  dsimp only
  have c0 : pickI op 19 = 14 := by omega
  rw [c0] at c15 ⊢
  clear c15
  go_enter Tryd.func43, Tryd.ntmps43
  go_wp2_with (go_at_call 14; refine (picked_any _ _ _ ?_ ?_ ?_).mono ?_; (first | exact ho | exact hd | exact ha | exact hb | exact hi); omega; omega; rintro e w' ⟨rfl, rfl⟩)
  exact bodyPost_ret (v := .agg #[.int .i64 (1 + 14), .int .i64 (0), .int .i64 (0), .int .i64 (0), .int .i64 (pickI imm places)]) (by simp [results, Tryd.results43, go_sem]) rfl ⟨rfl, (((Below.refl _ _).alloc (Nat.le_refl _) _).alloc (by simp) _).alloc (by simp; omega) _⟩
 rw [if_neg c15]
 by_cases c16 : 1 + pickI op 19 = 16
 ·rw [if_pos c16]
  dsimp only
  have c0 : pickI op 19 = 15 := by omega
  rw [c0] at c16 ⊢
  clear c16
  go_enter Tryd.func43, Tryd.ntmps43
  go_wp2_with (go_at_call 14; refine (picked_any _ _ _ ?_ ?_ ?_).mono ?_; (first | exact ho | exact hd | exact ha | exact hb | exact hi); omega; omega; rintro e w' ⟨rfl, rfl⟩)
  exact bodyPost_ret (v := .agg #[.int .i64 (1 + 15), .int .i64 (0), .int .i64 (pickI a regs), .int .i64 (0), .int .i64 (pickI imm places)]) (by simp [results, Tryd.results43, go_sem]) rfl ⟨rfl, (((Below.refl _ _).alloc (Nat.le_refl _) _).alloc (by simp) _).alloc (by simp; omega) _⟩
 rw [if_neg c16]
 by_cases c17 : 1 + pickI op 19 = 17
 ·rw [if_pos c17]
  dsimp only
  have c0 : pickI op 19 = 16 := by omega
  rw [c0] at c17 ⊢
  clear c17
  go_enter Tryd.func43, Tryd.ntmps43
  go_wp2_with (go_at_call 14; refine (picked_any _ _ _ ?_ ?_ ?_).mono ?_; (first | exact ho | exact hd | exact ha | exact hb | exact hi); omega; omega; rintro e w' ⟨rfl, rfl⟩)
  exact bodyPost_ret (v := .agg #[.int .i64 (1 + 16), .int .i64 (pickI dst regs), .int .i64 (pickI a regs), .int .i64 (pickI b regs), .int .i64 (pickI imm funcs)]) (by simp [results, Tryd.results43, go_sem]) rfl ⟨rfl, (((Below.refl _ _).alloc (Nat.le_refl _) _).alloc (by simp) _).alloc (by simp; omega) _⟩
 rw [if_neg c17]
 ·dsimp only
  have c0 : pickI op 19 = 18 := by omega
  rw [c0]
  clear c17 c16 c15 c14 c3 c2 c1
  go_enter Tryd.func43, Tryd.ntmps43
  go_wp2_with (go_at_call 14; refine (picked_any _ _ _ ?_ ?_ ?_).mono ?_; (first | exact ho | exact hd | exact ha | exact hb | exact hi); omega; omega; rintro e w' ⟨rfl, rfl⟩)
  exact bodyPost_ret (v := .agg #[.int .i64 (1 + 18), .int .i64 (0), .int .i64 (pickI a regs), .int .i64 (0), .int .i64 (0)]) (by simp [results, Tryd.results43, go_sem]) rfl ⟨rfl, (((Below.refl _ _).alloc (Nat.le_refl _) _).alloc (by simp) _).alloc (by simp; omega) _⟩
end Go.Proofs.YtfacdhkadnmnlaaDoor
namespace Go.Proofs.YtfacdhkadnmnlaaDoor
open Go Go.RowKit

theorem cell_third {w : World} {o1 o2 : Obj} {cs : Array Value} {t i : Nat} {v : Value} (h : cs[i]? = some v) : (((w.alloc o1).alloc o2).alloc (.cells cs t)).cell? ⟨w.heap.size + 1 + 1, i, none⟩ = some v := by
 have hb := heap_alloc_new ((w.alloc o1).alloc o2) (.cells cs t)
 simp only [World.size_alloc] at hb
 rw [cell_of_row _ _ i cs t (0, 0) hb, h]
theorem heap_set5 {w : World} {g t : Nat} {z0 z1 z2 z3 z4 : Value} (h : w.heap[g]? = some (.cells #[z0, z1, z2, z3, z4] t)) (a b c d e : Value) :
  (((((w.setCell ⟨g, 0, none⟩ a).setCell ⟨g, 1, none⟩ b).setCell ⟨g, 2, none⟩ c).setCell ⟨g, 3, none⟩ d).setCell ⟨g, 4, none⟩ e).heap[g]? = some (.cells #[a, b, c, d, e] t) := by
 have h0 := heap_setCell_same w g 0 _ t a h
 have h1 := heap_setCell_same _ g 1 _ t b h0
 have h2 := heap_setCell_same _ g 2 _ t c h1
 have h3 := heap_setCell_same _ g 3 _ t d h2
 have h4 := heap_setCell_same _ g 4 _ t e h3
 rw [h4]
 rfl
theorem fn_step {w wc w4 : World} {O tI tF n : Nat} {p r vc v4 : Value} {xs ys : List Value} {o : Obj} {oA oB : Obj} (hO2 : w.heap.size + 1 + 1 = O)
  (h0 : wc.heap[w.heap.size]? = some oA) (h1 : wc.heap[w.heap.size + 1]? = some oB) (h2 : wc.heap[O]? = some (.cells #[p, r, vc] tF)) (hown : wc.ownsRow (w.heap.size + 3) tI 5 vc n xs) (hb : Below w.heap.size w wc)
  (hg : (wc.alloc o).grownBy w4 vc.ownBlock) (hown4 : w4.ownsRow (w.heap.size + 3) tI 5 v4 (n + 1) (xs ++ ys)) :
  w4.heap[O]? = some (.cells #[p, r, vc] tF) ∧ (w4.setCell ⟨O, 2, none⟩ v4).heap[w.heap.size]? = some oA ∧ (w4.setCell ⟨O, 2, none⟩ v4).heap[w.heap.size + 1]? = some oB ∧ (w4.setCell ⟨O, 2, none⟩ v4).heap[O]? = some (.cells #[p, r, v4] tF) ∧
   (w4.setCell ⟨O, 2, none⟩ v4).ownsRow (w.heap.size + 3) tI 5 v4 (n + 1) (xs ++ ys) ∧ Below w.heap.size w (w4.setCell ⟨O, 2, none⟩ v4) := by
 subst hO2
 have hrow : ∀ k, vc.ownBlock = some k → w.heap.size + 3 ≤ k := fun k hk => (hown.lt k hk).1
 have hz := lt_of_block h2
 have keep : ∀ j ob, j < w.heap.size + 3 → wc.heap[j]? = some ob → w4.heap[j]? = some ob := fun j ob hj hob =>
  (hg.block j (by have := lt_of_block hob; simp; omega) (fun e => by have := hrow j e.symm; omega)).trans ((heap_alloc_old _ _ (lt_of_block hob)).trans hob)
 have e2 := keep _ _ (by omega) h2
 refine ⟨e2, ?_, ?_, ?_, ownsRow_setCell_below hown4 (by simp) _, ?_⟩
 ·rw [Below.heap_setCell _ _ _ _ (by simp; omega)]; exact keep _ _ (by omega) h0
 ·rw [Below.heap_setCell _ _ _ _ (by simp)]; exact keep _ _ (by omega) h1
 ·rw [heap_setCell_same w4 _ 2 _ tF v4 e2]; rfl
 ·exact (((hb.alloc (by have := hb.size; omega) _).grown hg (by have := hb.size; simp; omega) (fun k hk => by have := hrow k hk; omega))).setCell (by simp; omega) _
def mkFn (b : Fn) (funcs : Int) : Fn :=
 let params := pickI b.params 3
 let regs := max params 1 + pickI b.regs 11
 let n := min b.code.length 22
 ⟨params, regs, (b.code.take n).map (fun x => mkIns x regs (n + 2 : Nat) funcs) ++ [⟨1, 0, 0, 0, 7⟩, ⟨19, 0, 0, 0, 0⟩]⟩
set_option maxRecDepth 100000 in
set_option maxHeartbeats 1000000 in
theorem function_mk (bd : Fn) (v : Value) (funcs : Int) (w : World) (hv : CodeVal w v bd.code) (hwf : bd.wf) (h5 : 1 ≤ funcs) (h6 : funcs ≤ 4) :
  Calls Tryd.prog 22 #[.agg #[.int .i64 bd.params, .int .i64 bd.regs, v], .int .i64 funcs, .bool false] w fun e w' =>
   ∃ u, e = .returned (.agg #[.int .i64 (mkFn bd funcs).params, .int .i64 (mkFn bd funcs).regs, u]) ∧ w'.ownsRow w.heap.size 51 5 u (mkFn bd funcs).code.length (codeCells (mkFn bd funcs).code) ∧ Below w.heap.size w w' := by
 obtain ⟨bp, br, xs⟩ := bd
 obtain ⟨hp, hr, hxs⟩ := hwf
 obtain ⟨ao, b, off, n, cap, rfl, ⟨hlen, haddr, hat⟩, hcap, hmax⟩ := hv
 obtain ⟨iI, hiI, hzI0, hzI1, hzI2⟩ := info_parts infoI
 dsimp only at hp hr hxs hlen haddr hat
 have hpb := pickI_bounds bp 3 (by decide)
 have hrb := pickI_bounds br 11 (by decide)
 unfold maxLen at hmax
 have hM : max (pickI bp 3) 1 = 1 ∨ (1 ≤ pickI bp 3 ∧ max (pickI bp 3) 1 = pickI bp 3) := by omega
 go_enter Tryd.func22, Tryd.ntmps22
 go_wp2_with (go_at_call 14; refine (picked_any _ _ _ ?_ ?_ ?_).mono ?_; (first | exact hp | exact hr); omega; omega; rintro e w' ⟨rfl, rfl⟩)
 have k1 : (((w.alloc (.cells #[.int .i64 bp, .int .i64 br, .slice ao n cap] 56)).alloc (.cells #[.int .i64 0, .int .i64 0, .slice none 0 0] 37)).alloc (.cells #[.int .i64 (pickI bp 3), .int .i64 0, .slice none 0 0] 37)).cell? ⟨w.heap.size + 1 + 1, 0, none⟩ = some (.int .i64 (pickI bp 3)) := cell_third rfl
 go_cut [] (fun wx => wx = (((w.alloc (.cells #[.int .i64 bp, .int .i64 br, .slice ao n cap] 56)).alloc (.cells #[.int .i64 0, .int .i64 0, .slice none 0 0] 37)).alloc (.cells #[.int .i64 (pickI bp 3), .int .i64 (max (pickI bp 3) 1 + pickI br 11), .slice none 0 0] 37)).drew)
 case first =>
  by_cases hm : 1 ≤ pickI bp 3
  ·have hmx : max (pickI bp 3) 1 = pickI bp 3 := by omega
   have HMX : Hid (max (pickI bp 3) 1 = _) := hmx
   have HWR : Hid (IntKind.i64.wrap (max (pickI bp 3) 1 + pickI br 11) = max (pickI bp 3) 1 + pickI br 11) := by show _ = _; rw [IntKind.wrap_i64]; omega
   clear hM hmx
   go_region_held3 (fun w' => w'.cell? ⟨w.heap.size + 1 + 1, 0, none⟩ = some (.int .i64 (pickI bp 3)) ∧ w'.cell? ⟨w.heap.size, 1, none⟩ = some (.int .i64 br)) ((refine ⟨?_, ?_⟩ <;> first | exact cell_third rfl | go_keep)) ((go_at_call 14; refine (picked_any _ _ _ hr (by omega) (by omega)).mono ?_; rintro e w' ⟨rfl, rfl⟩))
   all_goals (go_wp2_with fail; go_meet; exact (by have h := HWR.out; rw [HMX.out] at h ⊢; rw [h]))
  ·have hmx : max (pickI bp 3) 1 = 1 := by omega
   have HMX : Hid (max (pickI bp 3) 1 = _) := hmx
   have HWR : Hid (IntKind.i64.wrap (max (pickI bp 3) 1 + pickI br 11) = max (pickI bp 3) 1 + pickI br 11) := by show _ = _; rw [IntKind.wrap_i64]; omega
   clear hM hmx
   go_region_held3 (fun w' => w'.cell? ⟨w.heap.size + 1 + 1, 0, none⟩ = some (.int .i64 (pickI bp 3)) ∧ w'.cell? ⟨w.heap.size, 1, none⟩ = some (.int .i64 br)) ((refine ⟨?_, ?_⟩ <;> first | exact cell_third rfl | go_keep)) ((go_at_call 14; refine (picked_any _ _ _ hr (by omega) (by omega)).mono ?_; rintro e w' ⟨rfl, rfl⟩))
   all_goals (go_wp2_with fail; go_meet; exact (by have h := HWR.out; rw [HMX.out] at h ⊢; rw [h]))
 case rest =>
  subst hcut
  have HN : Hid (∃ N : Nat, N = min n 22) := ⟨_, rfl⟩
  obtain ⟨N, hN⟩ := HN.out
  have HNN : Hid (N = min n 22) := hN
  clear hN HN
  generalize hR : max (pickI bp 3) 1 + pickI br 11 = RG
  have hRG : 1 ≤ RG ∧ RG ≤ 12 := by omega
  have HRG : Hid (max (pickI bp 3) 1 + pickI br 11 = RG) := hR
  clear hR
  go_upto_region 3 with fail
  go_cut [8] (fun s8 wx => s8 = .int .i64 N ∧ wx = (((w.alloc (.cells #[.int .i64 bp, .int .i64 br, .slice ao n cap] 56)).alloc (.cells #[.int .i64 0, .int .i64 0, .slice none 0 0] 37)).alloc (.cells #[.int .i64 (pickI bp 3), .int .i64 RG, .slice none 0 0] 37)).drew)
  case first =>
   by_cases h22 : n ≤ 22
   ·have HE : Hid (N = n) := HNN.out.trans (by omega)
    go_wp2_with fail
    go_meet
    exact ⟨by rw [HE.out], rfl⟩
   ·have HE : Hid (N = 22) := HNN.out.trans (by omega)
    go_wp2_with fail
    go_meet
    exact ⟨by rw [HE.out]; rfl, rfl⟩
  case rest =>
   obtain ⟨rfl, rfl⟩ := hcut
   have hN22 : N ≤ 22 := by have := HNN.out; omega
   go_wp2
   have HBX0 : Hid (∀ W, W = (((w.alloc (.cells #[.int .i64 bp, .int .i64 br, .slice ao n cap] 56)).alloc (.cells #[.int .i64 0, .int .i64 0, .slice none 0 0] 37)).alloc (.cells #[.int .i64 (pickI bp 3), .int .i64 RG, .slice none 0 0] 37)).drew → W.heap[w.heap.size]? = some (.cells #[.int .i64 bp, .int .i64 br, .slice ao n cap] 56) ∧ W.heap[w.heap.size + 1]? = some (.cells #[.int .i64 0, .int .i64 0, .slice none 0 0] 37) ∧ W.heap[w.heap.size + 1 + 1]? = some (.cells #[.int .i64 (pickI bp 3), .int .i64 RG, .slice none 0 0] 37) ∧ Below w.heap.size w W) := fun W hW => by
    subst hW
    have e1 := heap_alloc_new w (.cells #[.int .i64 bp, .int .i64 br, .slice ao n cap] 56)
    have e2 := heap_alloc_new (w.alloc (.cells #[.int .i64 bp, .int .i64 br, .slice ao n cap] 56)) (.cells #[.int .i64 0, .int .i64 0, .slice none 0 0] 37)
    have e3 := heap_alloc_new ((w.alloc (.cells #[.int .i64 bp, .int .i64 br, .slice ao n cap] 56)).alloc (.cells #[.int .i64 0, .int .i64 0, .slice none 0 0] 37)) (.cells #[.int .i64 (pickI bp 3), .int .i64 RG, .slice none 0 0] 37)
    simp only [World.size_alloc] at e2 e3
    refine ⟨(heap_alloc_old _ _ (by simp; omega)).trans ((heap_alloc_old _ _ (by simp)).trans e1), (heap_alloc_old _ _ (by simp)).trans e2, e3, ?_⟩
    exact ((((Below.refl _ w).alloc (Nat.le_refl _) _).alloc (by simp) _).alloc (by simp; omega) _).drew
   go_loopg [11] N (fun m i wr => ∃ (k : Nat) (vc : Value), k + m = N ∧ i = .int .i64 k ∧ wr.heap[w.heap.size]? = some (.cells #[.int .i64 bp, .int .i64 br, .slice ao n cap] 56) ∧ wr.heap[w.heap.size + 1]? = some (.cells #[.int .i64 0, .int .i64 0, .slice none 0 0] 37) ∧ wr.heap[w.heap.size + 1 + 1]? = some (.cells #[.int .i64 (pickI bp 3), .int .i64 RG, vc] 37) ∧ wr.ownsRow (w.heap.size + 3) 51 5 vc k (codeCells ((xs.take k).map fun x => mkIns x RG (N + 2 : Nat) funcs)) ∧ Below w.heap.size w wr)
   case atStart =>
    obtain ⟨e1, e2, e3, e4⟩ := HBX0.out _ rfl
    exact ⟨0, _, by omega, rfl, e1, e2, e3, by simpa [codeCells] using World.ownsRow_nil _ _ _ _, e4⟩
   case round =>
    obtain ⟨k, vc, hkm, rfl, hb0, hb1, hb2, hown, hbl⟩ := hrel
    by_cases hlt : k < N
    ·have hkn : k < n := by have := HNN.out; omega
     have hkx : k < xs.length := by rw [hlen]; exact hkn
     obtain rfl := haddr (by omega)
     obtain ⟨g0, g1, g2, g3, g4⟩ := (hat k hkx).keeps (keeps_below hbl)
     have hxw := hxs xs[k] (List.getElem_mem hkx)
     have hz : w.heap.size + 1 + 1 < wr.heap.size := lt_of_block hb2
     have c1 : wr.cell? ⟨w.heap.size, 2, none⟩ = some (.slice (some ⟨b, off, none⟩) n cap) := by simp [World.cell?, hb0]
     have c2 : wr.cell? ⟨w.heap.size + 1 + 1, 1, none⟩ = some (.int .i64 RG) := by simp [World.cell?, hb2]
     have HTK : Hid ((xs.take (k + 1)).map (fun x => mkIns x RG (N + 2 : Nat) funcs) = (xs.take k).map (fun x => mkIns x RG (N + 2 : Nat) funcs) ++ [mkIns xs[k] RG (N + 2 : Nat) funcs]) := by
      show _ = _
      rw [List.take_succ_eq_append_getElem hkx, List.map_append]; rfl
     generalize hxx : xs[k] = x at g0 g1 g2 g3 g4 hxw HTK
     have HC : Hid (∀ W, Calls Tryd.prog 43 #[.agg #[.int .i64 x.op, .int .i64 x.dst, .int .i64 x.a, .int .i64 x.b, .int .i64 x.imm], .int .i64 RG, .int .i64 ((N : Int) + 2), .int .i64 funcs] W fun e w' => e = .returned (mkIns x RG (N + 2 : Nat) funcs).val ∧ Below W.heap.size W w') := fun W => by
      have h := instr_mk x RG ((N + 2 : Nat) : Int) funcs W hxw hRG.1 hRG.2 (by omega) (by omega) h5 h6
      have e : ((N + 2 : Nat) : Int) = (N : Int) + 2 := by omega
      rw [e] at h ⊢
      exact h
     generalize hy : mkIns x RG (N + 2 : Nat) funcs = y at HTK HC
     obtain ⟨yo, yd, ya, yb, yi⟩ := y
     unfold Ins.val at HC
     dsimp only at HC
     clear hy hxx hxw
     go_wp2_with fail
     go_cut [12] (fun s12 wx => ∃ g, s12 = .pointer (some ⟨g, 0, none⟩) ∧ wr.heap.size ≤ g ∧ wx.heap[g]? = some (.cells #[.int .i64 yo, .int .i64 yd, .int .i64 ya, .int .i64 yb, .int .i64 yi] 51) ∧ Below wr.heap.size wr wx)
     case first =>
      have n1 := World.new_ne wr _ c1
      have n2 := World.new_ne wr _ c2
      have n3 := World.new_ne wr _ g0
      have n4 := World.new_ne wr _ g1
      have n5 := World.new_ne wr _ g2
      have n6 := World.new_ne wr _ g3
      have n7 := World.new_ne wr _ g4
      go_region_held3 (fun w' => w'.cell? ⟨w.heap.size, 2, none⟩ = some (.slice (some ⟨b, off, none⟩) n cap) ∧ w'.cell? ⟨w.heap.size + 1 + 1, 1, none⟩ = some (.int .i64 RG) ∧ w'.cell? ⟨b, off + k * 5, none⟩ = some (.int .i64 x.op) ∧ w'.cell? ⟨b, off + k * 5 + 1, none⟩ = some (.int .i64 x.dst) ∧ w'.cell? ⟨b, off + k * 5 + 2, none⟩ = some (.int .i64 x.a) ∧ w'.cell? ⟨b, off + k * 5 + 3, none⟩ = some (.int .i64 x.b) ∧ w'.cell? ⟨b, off + k * 5 + 4, none⟩ = some (.int .i64 x.imm)) (go_keep) ((go_at_call 43; refine (HC.out _).mono ?_; rintro e w1 ⟨rfl, hb1⟩; have s0 := keeps_below hb1 _ _ (by first | exact c1 | exact cell_alloc c1 _); have s1 := keeps_below hb1 _ _ (by first | exact c2 | exact cell_alloc c2 _); have s2 := keeps_below hb1 _ _ (by first | exact g0 | exact cell_alloc g0 _); have s3 := keeps_below hb1 _ _ (by first | exact g1 | exact cell_alloc g1 _); have s4 := keeps_below hb1 _ _ (by first | exact g2 | exact cell_alloc g2 _); have s5 := keeps_below hb1 _ _ (by first | exact g3 | exact cell_alloc g3 _); have s6 := keeps_below hb1 _ _ (by first | exact g4 | exact cell_alloc g4 _); try (have q : w1.heap[wr.heap.size]? = some (.cells #[.int .i64 0, .int .i64 0, .int .i64 0, .int .i64 0, .int .i64 0] 51) := (hb1.block wr.heap.size (by simp)).trans (heap_alloc_new wr _); have q0 : w1.cell? ⟨wr.heap.size, 0, none⟩ = some (.int .i64 0) := (by simp [World.cell?, q]); have f0 : w1.frozen? ⟨wr.heap.size, 0, none⟩ = false := (by simp [World.frozen?, q]); have q1 : w1.cell? ⟨wr.heap.size, 1, none⟩ = some (.int .i64 0) := (by simp [World.cell?, q]); have f1 : w1.frozen? ⟨wr.heap.size, 1, none⟩ = false := (by simp [World.frozen?, q]); have q2 : w1.cell? ⟨wr.heap.size, 2, none⟩ = some (.int .i64 0) := (by simp [World.cell?, q]); have f2 : w1.frozen? ⟨wr.heap.size, 2, none⟩ = false := (by simp [World.frozen?, q]); have q3 : w1.cell? ⟨wr.heap.size, 3, none⟩ = some (.int .i64 0) := (by simp [World.cell?, q]); have f3 : w1.frozen? ⟨wr.heap.size, 3, none⟩ = false := (by simp [World.frozen?, q]); have q4 : w1.cell? ⟨wr.heap.size, 4, none⟩ = some (.int .i64 0) := (by simp [World.cell?, q]); have f4 : w1.frozen? ⟨wr.heap.size, 4, none⟩ = false := (by simp [World.frozen?, q]))))
      ·go_wp2_with fail
       go_meet
       exact ⟨_, rfl, hb1.size, heap_alloc_new w1 _, (((Below.refl _ wr).drew).trans hb1).alloc hb1.size _⟩
      ·go_wp2_with fail
       go_meet
       exact ⟨_, rfl, Nat.le_refl _, heap_set5 q _ _ _ _ _, (((((((((Below.refl _ wr).alloc (Nat.le_refl _) _).drew).trans (hb1.mono (by simp))).setCell (Nat.le_refl _) _).setCell (Nat.le_refl _) _).setCell (Nat.le_refl _) _).setCell (Nat.le_refl _) _).setCell (Nat.le_refl _) _)⟩
     case rest =>
      obtain ⟨g, rfl, hgl, hgb, hbr⟩ := hcut
      have r0 := (hbr.block _ (lt_of_block hb0)).trans hb0
      have r1 := (hbr.block _ (lt_of_block hb1)).trans hb1
      have r2 := (hbr.block _ (lt_of_block hb2)).trans hb2
      have rown := ownsRow_below hown hbr
      have rbl : Below w.heap.size w wc := hbl.trans (hbr.mono (by omega))
      obtain ⟨aov, capv, rfl⟩ := own_shape hown
      have x0 : wc.cell? ⟨g, 0, none⟩ = some (.int .i64 yo) := by simp [World.cell?, hgb]
      have x1 : wc.cell? ⟨g, 1, none⟩ = some (.int .i64 yd) := by simp [World.cell?, hgb]
      have x2 : wc.cell? ⟨g, 2, none⟩ = some (.int .i64 ya) := by simp [World.cell?, hgb]
      have x3 : wc.cell? ⟨g, 3, none⟩ = some (.int .i64 yb) := by simp [World.cell?, hgb]
      have x4 : wc.cell? ⟨g, 4, none⟩ = some (.int .i64 yi) := by simp [World.cell?, hgb]
      have y2 : wc.cell? ⟨w.heap.size + 1 + 1, 2, none⟩ = some (.slice aov k capv) := by simp [World.cell?, r2]
      have R0 : Hid _ := r0
      have R1 : Hid _ := r1
      have R2 : Hid _ := r2
      have RB : Hid _ := rbl
      have hzc := lt_of_block r2
      clear hbl hbr r0 r1 r2 rbl hgb hb0 hb1 hb2 hown g0 g1 g2 g3 g4 c1 c2
      go_wp2_with (at_builtin; refine wpList_append_own _ rfl (.tmp 68) (.tmp 70) 35 rfl (w.heap.size + 3) 51 iI _ 5 40 Tryd.underlying35 hiI hzI0 hzI1 hzI2 rfl (by decide) _ k _ rfl (rown.alloc _) ⟨wc.heap.size, 0, none⟩ 1 1 (insCells ⟨yo, yd, ya, yb, yi⟩) rfl rfl (news_list _ _ _ _ rfl) (fun u hu => codeCells_one [⟨yo, yd, ya, yb, yi⟩] u (by simpa [codeCells] using hu)) (by unfold maxLen; omega) (by omega) (by simp; omega) ?_; intro v4 w4 hown4 hg4 _; obtain ⟨ao4, cap4, rfl⟩ := own_shape hown4; have Q := fn_step rfl R0.out R1.out R2.out rown RB.out hg4 hown4; have q2 := Q.1; have qc : w4.cell? ⟨w.heap.size + 1 + 1, 2, none⟩ = some (.slice aov k capv) := (by simp [World.cell?, q2]); have qf : w4.frozen? ⟨w.heap.size + 1 + 1, 2, none⟩ = false := (by simp [World.frozen?, q2]))
      go_roundg (gk - 1)
      case measure => omega
      case rel => exact ⟨k + 1, _, by omega, by go_num, Q.2.1, Q.2.2.1, Q.2.2.2.1, by rw [HTK.out, codeCells_append]; simpa [codeCells] using Q.2.2.2.2.1, Q.2.2.2.2.2⟩
    ·have hkN : k = N := by omega
     subst hkN
     obtain ⟨aov, capv, rfl⟩ := own_shape hown
     have hz := lt_of_block hb2
     have y2 : wr.cell? ⟨w.heap.size + 1 + 1, 2, none⟩ = some (.slice aov k capv) := by simp [World.cell?, hb2]
     have R0 : Hid _ := hb0
     have R1 : Hid _ := hb1
     have R2 : Hid _ := hb2
     have RB : Hid _ := hbl
     have HFN : Hid (mkFn ⟨bp, br, xs⟩ funcs = ⟨pickI bp 3, RG, (xs.take k).map (fun x => mkIns x RG (k + 2 : Nat) funcs) ++ [⟨1, 0, 0, 0, 7⟩] ++ [⟨19, 0, 0, 0, 0⟩]⟩) := by
      show _ = _
      unfold mkFn
      dsimp only
      rw [HRG.out, hlen, ← HNN.out, List.append_assoc]
      rfl
     generalize hcs : (xs.take k).map (fun x => mkIns x RG (k + 2 : Nat) funcs) = cs at hown HFN
     clear hbl hb0 hb1 hb2 hat hxs HBX0
     go_wp2_with (first
      | (at_builtin; refine wpList_append_own _ rfl (.tmp 74) (.tmp 76) 35 rfl (w.heap.size + 3) 51 iI _ 5 40 Tryd.underlying35 hiI hzI0 hzI1 hzI2 rfl (by decide) _ k _ rfl (hown.alloc _) ⟨wr.heap.size, 0, none⟩ 1 1 (insCells ⟨1, 0, 0, 0, 7⟩) rfl rfl (news_list _ _ _ _ rfl) (fun u hu => codeCells_one [⟨1, 0, 0, 0, 7⟩] u (by simpa [codeCells] using hu)) (by unfold maxLen; omega) (by omega) (by simp; omega) ?_; intro v4 w4 hown4 hg4 _; obtain ⟨ao4, cap4, rfl⟩ := own_shape hown4; have Q := fn_step rfl R0.out R1.out R2.out hown RB.out hg4 hown4; have q2 := Q.1; have qc : w4.cell? ⟨w.heap.size + 1 + 1, 2, none⟩ = some (.slice aov k capv) := (by simp [World.cell?, q2]); have qf : w4.frozen? ⟨w.heap.size + 1 + 1, 2, none⟩ = false := (by simp [World.frozen?, q2]))
      | (at_builtin; refine wpList_append_own _ rfl (.tmp 80) (.tmp 82) 35 rfl (w.heap.size + 3) 51 iI _ 5 40 Tryd.underlying35 hiI hzI0 hzI1 hzI2 rfl (by decide) _ (k + 1) _ rfl (Q.2.2.2.2.1.alloc _) ⟨w4.heap.size, 0, none⟩ 1 1 (insCells ⟨19, 0, 0, 0, 0⟩) rfl rfl (news_list _ _ _ _ (by simp)) (fun u hu => codeCells_one [⟨19, 0, 0, 0, 0⟩] u (by simpa [codeCells] using hu)) (by unfold maxLen; omega) (by omega) (by have := lt_of_block q2; simp; omega) ?_; intro v6 w6 hown6 hg6 _; obtain ⟨ao6, cap6, rfl⟩ := own_shape hown6; have Q6 := fn_step rfl Q.2.1 Q.2.2.1 Q.2.2.2.1 Q.2.2.2.2.1 Q.2.2.2.2.2 hg6 hown6; have q6 := Q6.1; have qc6 : w6.cell? ⟨w.heap.size + 1 + 1, 2, none⟩ = some (.slice ao4 (k + 1) cap4) := (by simp [World.cell?, q6]); have qf6 : w6.frozen? ⟨w.heap.size + 1 + 1, 2, none⟩ = false := (by simp [World.frozen?, q6]); have qd0 : w6.cell? ⟨w.heap.size + 1 + 1, 0, none⟩ = some (.int .i64 (pickI bp 3)) := (by simp [World.cell?, q6]); have qd1 : w6.cell? ⟨w.heap.size + 1 + 1, 1, none⟩ = some (.int .i64 RG) := (by simp [World.cell?, q6]); have q61 := Q6.2.2.1; rw [Below.heap_setCell _ _ _ _ (by simp)] at q61; have e0 : w6.cell? ⟨w.heap.size + 1, 0, none⟩ = some (.int .i64 0) := (by simp [World.cell?, q61]); have ef0 : w6.frozen? ⟨w.heap.size + 1, 0, none⟩ = false := (by simp [World.frozen?, q61]); have e1 : w6.cell? ⟨w.heap.size + 1, 1, none⟩ = some (.int .i64 0) := (by simp [World.cell?, q61]); have ef1 : w6.frozen? ⟨w.heap.size + 1, 1, none⟩ = false := (by simp [World.frozen?, q61]); have e2 : w6.cell? ⟨w.heap.size + 1, 2, none⟩ = some (.slice none 0 0) := (by simp [World.cell?, q61]); have ef2 : w6.frozen? ⟨w.heap.size + 1, 2, none⟩ = false := (by simp [World.frozen?, q61])))
     rw [HFN.out]
     have HO : Hid (∀ a u, a.block < w.heap.size + 3 → ∀ b u', b.block < w.heap.size + 3 → ∀ c u'', c.block < w.heap.size + 3 → ((((w6.setCell ⟨w.heap.size + 1 + 1, 2, none⟩ (.slice ao6 (k + 1 + 1) cap6)).setCell a u).setCell b u').setCell c u'').ownsRow (w.heap.size + 3) 51 5 (.slice ao6 (k + 1 + 1) cap6) (k + 1 + 1) (codeCells cs ++ insCells ⟨1, 0, 0, 0, 7⟩ ++ insCells ⟨19, 0, 0, 0, 0⟩)) :=
      fun a u ha b u' hb c u'' hc => ownsRow_setCell_below (ownsRow_setCell_below (ownsRow_setCell_below Q6.2.2.2.2.1 ha u) hb u') hc u''
     have HBB : Hid (Below w.heap.size w (w6.setCell ⟨w.heap.size + 1 + 1, 2, none⟩ (.slice ao6 (k + 1 + 1) cap6))) := Q6.2.2.2.2.2
     have hcl : cs.length = k := by rw [← hcs, List.length_map, List.length_take, hlen]; have := HNN.out; omega
     refine bodyPost_ret (v := .agg #[.int .i64 (pickI bp 3), .int .i64 RG, .slice ao6 (k + 1 + 1) cap6]) (by simp [results, Tryd.results22, go_sem, e0, e1, e2]) rfl ⟨_, rfl, ?_, ?_⟩
     ·have e1 : (cs ++ [(⟨1, 0, 0, 0, 7⟩ : Ins)] ++ [(⟨19, 0, 0, 0, 0⟩ : Ins)]).length = k + 1 + 1 := by simp [hcl]
      have e2 : codeCells (cs ++ [⟨1, 0, 0, 0, 7⟩] ++ [⟨19, 0, 0, 0, 0⟩]) = codeCells cs ++ insCells ⟨1, 0, 0, 0, 7⟩ ++ insCells ⟨19, 0, 0, 0, 0⟩ := by simp [codeCells]
      dsimp only
      rw [e1, e2]
      exact own_base (HO.out ⟨w.heap.size + 1, 0, none⟩ _ (by simp) ⟨w.heap.size + 1, 1, none⟩ _ (by simp) ⟨w.heap.size + 1, 2, none⟩ _ (by simp)) (by omega)
     ·exact ((HBB.out.setCell (by simp) _).setCell (by simp) _).setCell (by simp) _
end Go.Proofs.YtfacdhkadnmnlaaDoor
namespace Go.Proofs.YtfacdhkadnmnlaaDoor
open Go Go.RowKit

theorem built_more {wx w3 : World} {base tF tI tP O : Nat} {vo u v3 : Value} {P : List Fn} {us : List Value} {f : Fn} (ht : tI ≠ tF) (hO : O < base)
  (hbt : Built wx base tF tI vo P us) (ho : wx.heap[O]? = some (.cells #[vo] tP (0, 0))) (hu : wx.ownsRow base tI 5 u f.code.length (codeCells f.code)) (hB : base ≤ wx.heap.size)
  (hg : wx.grownBy w3 vo.ownBlock) (hown3 : w3.ownsRow base tF 3 v3 (P.length + 1) (fnsCells P us ++ fnCells f u)) :
  w3.heap[O]? = some (.cells #[vo] tP (0, 0)) ∧ Built (w3.setCell ⟨O, 0, none⟩ v3) base tF tI v3 (P ++ [f]) (us ++ [u]) ∧ (w3.setCell ⟨O, 0, none⟩ v3).heap[O]? = some (.cells #[v3] tP (0, 0)) ∧
   ∀ B' W0, B' ≤ O → Below B' W0 wx → Below B' W0 (w3.setCell ⟨O, 0, none⟩ v3) := by
 have hrow : ∀ k, vo.ownBlock = some k → base ≤ k := fun k hk => (hbt.row.lt k hk).1
 have ho3 : w3.heap[O]? = some (.cells #[vo] tP (0, 0)) := (hg.block O (lt_of_block ho) (fun e => by have := hrow O e.symm; omega)).trans ho
 refine ⟨ho3, (hbt.snoc ht hu hown3 hg).setCell hO _, one_setCell ho3, fun B' W0 hB' h => ?_⟩
 exact (h.grown hg (by omega) (fun k hk => by have := hrow k hk; omega)).setCell hB' _
theorem built_base {w : World} {base base' tF tI : Nat} {v : Value} {p : List Fn} {us : List Value} (h : Built w base tF tI v p us) (hb : base' ≤ base) : Built w base' tF tI v p us :=
 ⟨h.len, own_base h.row hb, fun i hi => own_base (h.codes i hi) hb⟩
def CodesApart (us : List Value) : Prop := ∀ (i j : Nat) (u v : Value), us[i]? = some u → us[j]? = some v → i ≠ j → u.ownBlock = none ∨ u.ownBlock ≠ v.ownBlock
theorem codesApart_nil : CodesApart [] := fun i j u v hu _ _ => by simp at hu
theorem codesApart_snoc {us : List Value} {u : Value} (h : CodesApart us) (hu : ∀ v ∈ us, ∀ k, v.ownBlock = some k → u.ownBlock ≠ some k) : CodesApart (us ++ [u]) := by
 intro i j x y hx hy hij
 have get : ∀ (m : Nat) (z : Value), (us ++ [u])[m]? = some z → (m < us.length ∧ us[m]? = some z) ∨ (m = us.length ∧ z = u) := fun m z hz => by
  rcases Nat.lt_or_ge m us.length with h1 | h1
  ·rw [List.getElem?_append_left h1] at hz; exact Or.inl ⟨h1, hz⟩
  ·rw [List.getElem?_append_right h1] at hz
   rcases Nat.eq_zero_or_pos (m - us.length) with h2 | h2
   ·rw [h2] at hz; simp at hz; exact Or.inr ⟨by omega, hz.symm⟩
   ·rw [List.getElem?_eq_none (by simp; omega)] at hz; simp at hz
 rcases get i x hx with ⟨_, hx'⟩ | ⟨hi, hxu⟩ <;> rcases get j y hy with ⟨_, hy'⟩ | ⟨hj, hyu⟩
 ·exact h i j x y hx' hy' hij
 ·cases hb : x.ownBlock with
  | none => exact Or.inl rfl
  | some k => right; intro e; rw [hyu] at e; exact hu x (List.mem_of_getElem? hx') k hb e.symm
 ·cases hb : x.ownBlock with
  | none => exact Or.inl rfl
  | some k => right; intro e; rw [hxu] at hb; exact hu y (List.mem_of_getElem? hy') k e.symm hb
 ·omega
theorem codesApart_new {w w1 : World} {base base1 tF tI m : Nat} {vo u : Value} {P : List Fn} {us : List Value} {xs : List Value} (hbt : Built w base tF tI vo P us) (ha : CodesApart us) (hu : w1.ownsRow base1 tI 5 u m xs) (hb : w.heap.size ≤ base1) : CodesApart (us ++ [u]) :=
 codesApart_snoc ha fun v hv k hk e => by
  obtain ⟨i, hi⟩ := List.getElem?_of_mem hv
  have hil : i < us.length := (List.getElem?_eq_some_iff.1 hi).1
  have hip : i < P.length := by rw [← hbt.len]; exact hil
  have h1 := hbt.codes i hip
  have e1 : us[i] = v := by rw [List.getElem?_eq_getElem hil] at hi; exact Option.some.inj hi
  rw [e1] at h1
  have h2 := (h1.lt k hk).2
  have h3 := (hu.lt k e).1
  omega
def bodyAt (l : List Fn) (i : Nat) : Fn := l.getD i ⟨0, 0, []⟩
def shapedN (l : List Fn) : Nat := min (max l.length 1) 4
def shapedPart (l : List Fn) (N k : Nat) : List Fn := (List.range k).map fun i => mkFn (bodyAt l i) N
theorem shapedPart_length (l : List Fn) (N k : Nat) : (shapedPart l N k).length = k := by simp [shapedPart]
theorem shapedPart_succ (l : List Fn) (N k : Nat) : shapedPart l N (k + 1) = shapedPart l N k ++ [mkFn (bodyAt l k) N] := by simp [shapedPart, List.range_succ]
def shapedP (l : List Fn) : List Fn := shapedPart l (shapedN l) (shapedN l)
set_option maxRecDepth 100000 in
set_option maxHeartbeats 1000000 in
theorem shaped_apart (l : List Fn) (v : Value) (w : World) (hv : ProgVal w v l) (hwf : ∀ f ∈ l, f.wf) :
  Calls Tryd.prog 11 #[v] w fun e w' => ∃ v' us, e = .returned (.agg #[v']) ∧ Built w' w.heap.size 37 51 v' (shapedP l) us ∧ CodesApart us ∧ Below w.heap.size w w' := by
 obtain ⟨ao, b, off, n, cap, rfl, ⟨hlen, haddr, hat⟩, hcap, hmax⟩ := hv
 obtain ⟨iF, hiF, hzF0, hzF1, hzF2⟩ := info_parts infoF
 unfold maxLen at hmax
 obtain ⟨N, hN⟩ : ∃ N, N = shapedN l := ⟨_, rfl⟩
 have HN : Hid (N = shapedN l) := hN
 have hN1 : 1 ≤ N := by rw [hN]; unfold shapedN; omega
 have hN4 : N ≤ 4 := by rw [hN]; unfold shapedN; omega
 have HNn : Hid (N = min (max n 1) 4) := by show _ = _; rw [hN, shapedN, hlen]
 clear hN
 go_enter Tryd.func11, Tryd.ntmps11
 go_upto_region 2 with fail
 go_cut [4] (fun s4 wx => s4 = .int .i64 N ∧ wx = (w.alloc (.cells #[.slice none 0 0] 24)).alloc (.cells #[.slice none 0 0] 24))
 case first =>
  rcases (show n = 0 ∨ (1 ≤ n ∧ n ≤ 4) ∨ 4 < n by omega) with h | h | h
  ·subst h
   have HE : Hid (N = 1) := HNn.out.trans (by omega)
   go_wp2_with fail
   go_meet
   exact ⟨by rw [HE.out]; rfl, rfl⟩
  ·have HE : Hid (N = n) := HNn.out.trans (by omega)
   go_wp2_with fail
   go_meet
   exact ⟨by rw [HE.out], rfl⟩
  ·have HE : Hid (N = 4) := HNn.out.trans (by omega)
   go_wp2_with fail
   go_meet
   exact ⟨by rw [HE.out]; rfl, rfl⟩
 case rest =>
  obtain ⟨rfl, rfl⟩ := hcut
  go_wp2
  have HE0 : Hid (((w.alloc (.cells #[.slice none 0 0] 24)).alloc (.cells #[.slice none 0 0] 24)).heap[w.heap.size + 1]? = some (.cells #[.slice none 0 0] 24)) := by
   have h := heap_alloc_new (w.alloc (.cells #[.slice none 0 0] 24)) (.cells #[.slice none 0 0] 24)
   simp only [World.size_alloc] at h
   exact h
  go_loopw [5] (fun i wr => ∃ k : Nat, k ≤ N ∧ i = .int .i64 k ∧ Below (w.heap.size + 1) ((w.alloc (.cells #[.slice none 0 0] 24)).alloc (.cells #[.slice none 0 0] 24)) wr ∧
    ∃ vo us, wr.heap[w.heap.size + 1]? = some (.cells #[vo] 24 (0, 0)) ∧ Built wr (w.heap.size + 2) 37 51 vo (shapedPart l N k) us ∧ CodesApart us) (fun i _ => N - (intOf i).toNat)
  case atStart => exact ⟨0, Nat.zero_le _, rfl, Below.refl _ _, .slice none 0 0, [], HE0.out, built_nil _ _ _ _, codesApart_nil⟩
  case round =>
   obtain ⟨k, hk, rfl, hb, vo, us, ho, hbt, hca⟩ := hrel
   have HCA : Hid (CodesApart us) := hca
   have hbw' : Below w.heap.size w wr := (((Below.refl _ _).alloc (Nat.le_refl _) _).alloc (by simp) _).trans (hb.mono (by omega))
   have co := cell_of_one ho
   have hz : w.heap.size + 1 < wr.heap.size := lt_of_block ho
   have HB : Hid (Below (w.heap.size + 1) ((w.alloc (.cells #[.slice none 0 0] 24)).alloc (.cells #[.slice none 0 0] 24)) wr) := hb
   have HO : Hid (wr.heap[w.heap.size + 1]? = some (.cells #[vo] 24 (0, 0))) := ho
   have HBT : Hid (Built wr (w.heap.size + 2) 37 51 vo (shapedPart l N k) us) := hbt
   by_cases hlt : k < N
   ·by_cases hkn : k < n
    ·have hkx : k < l.length := by rw [hlen]; exact hkn
     obtain rfl := haddr (by omega)
     obtain ⟨uu, hfn⟩ := hat k hkx
     obtain ⟨d0, d1, d2, hcv⟩ := hfn.keeps (keeps_below hbw')
     have hbw := hwf l[k] (List.getElem_mem hkx)
     have HBD : Hid (l[k] = bodyAt l k) := by show _ = _; simp [bodyAt, List.getD, hkx]
     generalize l[k] = bd at d0 d1 d2 hcv hbw HBD
     have hcv' := hcv
     obtain ⟨ao1, b1, off1, n1, cap1, rfl, _⟩ := hcv'
     have t0 := cell_alloc d0
     have t1 := cell_alloc d1
     have t2 := cell_alloc d2
     clear hat haddr hwf hfn hb ho hbt HE0 hca
     go_wp2_with (first
      | (go_at_call 22; refine (function_mk bd _ N _ (hcv.keeps (keeps_below ((Below.refl _ _).alloc (Nat.le_refl _) _))) hbw (by omega) (by omega)).mono ?_; rintro e w1 ⟨u, rfl, hown1, hb1⟩; obtain ⟨aou, capu, rfl⟩ := own_shape hown1; have z1 : wr.heap.size + 1 ≤ w1.heap.size := (by have := hb1.size; simp at this; omega); have HB1 : Hid (Below wr.heap.size wr w1) := ((Below.refl _ wr).alloc (Nat.le_refl _) _).trans (hb1.mono (by simp)); have k1 := keeps_below HB1.out _ _ co; have k2 := cell_alloc k1)
      | (at_builtin; refine wpList_append_own _ rfl (.tmp 30) (.tmp 32) 22 rfl (w.heap.size + 2) 37 iF _ 3 40 Tryd.underlying22 hiF hzF0 hzF1 hzF2 rfl (by decide) vo k (fnsCells (shapedPart l N k) us) rfl (by have h := (((HBT.out.below HB1.out).alloc (.cells #[.int .i64 (mkFn bd N).params, .int .i64 (mkFn bd N).regs, .slice aou (mkFn bd N).code.length capu] 37)).alloc (.cells #[.int .i64 (mkFn bd N).params, .int .i64 (mkFn bd N).regs, .slice aou (mkFn bd N).code.length capu] 37)).row; rw [shapedPart_length] at h; exact h) ⟨w1.heap.size + 1, 0, none⟩ 1 1 (fnCells (mkFn bd N) (.slice aou (mkFn bd N).code.length capu)) rfl rfl (news_list _ _ _ _ (by simp)) (fnCells_one _ _ _ _) (by unfold maxLen; omega) (by omega) (by simp; omega) ?_; intro v3 w3 hown3 hg3 _; obtain ⟨ao3, cap3, rfl⟩ := own_shape hown3; have RR := built_more (f := mkFn bd N) (O := w.heap.size + 1) (by decide) (by omega) (((HBT.out.below HB1.out).alloc _).alloc _) ((heap_alloc_old _ _ (by simp; omega)).trans ((heap_alloc_old _ _ (by omega)).trans ((HB1.out.block _ hz).trans HO.out))) (((own_base hown1 (by simp; omega)).alloc _).alloc _) (by simp; omega) hg3 (by rw [shapedPart_length]; exact hown3); have co3 := cell_of_one RR.1; have cf3 := free_of_one RR.1))
     have HRR := RR.2
     have HBX : Hid (Below (w.heap.size + 1) ((w.alloc (.cells #[.slice none 0 0] 24)).alloc (.cells #[.slice none 0 0] 24)) _) := HRR.2.2 (w.heap.size + 1) _ (by omega) (((HB.out.trans (HB1.out.mono (by omega))).alloc (by omega) _).alloc (by simp; omega) _)
     have HCX : Hid (CodesApart (us ++ [_])) := codesApart_new HBT.out HCA.out hown1 (by simp)
     clear RR
     go_roundw
     case rel => exact ⟨k + 1, by omega, by go_num, HBX.out, _, _, HRR.2.1, by rw [shapedPart_succ, ← HBD.out]; exact HRR.1, HCX.out⟩
     case measure => simp [intOf]; omega
    ·have hcv : CodeVal wr (.slice none 0 0) [] := ⟨none, 0, 0, 0, 0, rfl, ⟨rfl, fun h => by omega, fun k h => by simp at h⟩, ⟨Nat.le_refl _, fun _ => rfl⟩, by simp [maxLen]⟩
     have hbw : (⟨0, 0, []⟩ : Fn).wf := ⟨by simp [I64], by simp [I64], by simp⟩
     have HBD : Hid ((⟨0, 0, []⟩ : Fn) = bodyAt l k) := by show _ = _; simp [bodyAt, List.getD, List.getElem?_eq_none (show l.length ≤ k by omega)]
     clear hat haddr hwf hb ho hbt HE0 hca
     go_wp2_with (first
      | (go_at_call 22; refine (function_mk ⟨0, 0, []⟩ _ N _ (hcv.keeps (keeps_below ((Below.refl _ _).alloc (Nat.le_refl _) _))) hbw (by omega) (by omega)).mono ?_; rintro e w1 ⟨u, rfl, hown1, hb1⟩; obtain ⟨aou, capu, rfl⟩ := own_shape hown1; have z1 : wr.heap.size + 1 ≤ w1.heap.size := (by have := hb1.size; simp at this; omega); have HB1 : Hid (Below wr.heap.size wr w1) := ((Below.refl _ wr).alloc (Nat.le_refl _) _).trans (hb1.mono (by simp)); have k1 := keeps_below HB1.out _ _ co; have k2 := cell_alloc k1)
      | (at_builtin; refine wpList_append_own _ rfl (.tmp 30) (.tmp 32) 22 rfl (w.heap.size + 2) 37 iF _ 3 40 Tryd.underlying22 hiF hzF0 hzF1 hzF2 rfl (by decide) vo k (fnsCells (shapedPart l N k) us) rfl (by have h := (((HBT.out.below HB1.out).alloc (.cells #[.int .i64 (mkFn ⟨0, 0, []⟩ N).params, .int .i64 (mkFn ⟨0, 0, []⟩ N).regs, .slice aou (mkFn ⟨0, 0, []⟩ N).code.length capu] 37)).alloc (.cells #[.int .i64 (mkFn ⟨0, 0, []⟩ N).params, .int .i64 (mkFn ⟨0, 0, []⟩ N).regs, .slice aou (mkFn ⟨0, 0, []⟩ N).code.length capu] 37)).row; rw [shapedPart_length] at h; exact h) ⟨w1.heap.size + 1, 0, none⟩ 1 1 (fnCells (mkFn ⟨0, 0, []⟩ N) (.slice aou (mkFn ⟨0, 0, []⟩ N).code.length capu)) rfl rfl (news_list _ _ _ _ (by simp)) (fnCells_one _ _ _ _) (by unfold maxLen; omega) (by omega) (by simp; omega) ?_; intro v3 w3 hown3 hg3 _; obtain ⟨ao3, cap3, rfl⟩ := own_shape hown3; have RR := built_more (f := mkFn ⟨0, 0, []⟩ N) (O := w.heap.size + 1) (by decide) (by omega) (((HBT.out.below HB1.out).alloc _).alloc _) ((heap_alloc_old _ _ (by simp; omega)).trans ((heap_alloc_old _ _ (by omega)).trans ((HB1.out.block _ hz).trans HO.out))) (((own_base hown1 (by simp; omega)).alloc _).alloc _) (by simp; omega) hg3 (by rw [shapedPart_length]; exact hown3); have co3 := cell_of_one RR.1; have cf3 := free_of_one RR.1))
     have HRR := RR.2
     have HBX : Hid (Below (w.heap.size + 1) ((w.alloc (.cells #[.slice none 0 0] 24)).alloc (.cells #[.slice none 0 0] 24)) _) := HRR.2.2 (w.heap.size + 1) _ (by omega) (((HB.out.trans (HB1.out.mono (by omega))).alloc (by omega) _).alloc (by simp; omega) _)
     have HCX : Hid (CodesApart (us ++ [_])) := codesApart_new HBT.out HCA.out hown1 (by simp)
     clear RR
     go_roundw
     case rel => exact ⟨k + 1, by omega, by go_num, HBX.out, _, _, HRR.2.1, by rw [shapedPart_succ, ← HBD.out]; exact HRR.1, HCX.out⟩
     case measure => simp [intOf]; omega
   ·have hkN : k = N := by omega
    subst hkN
    obtain ⟨ao3, cap3, rfl⟩ := own_shape hbt.row
    rw [shapedPart_length] at *
    have HP : Hid (∀ a, a.block < w.heap.size + 2 → ∀ u, Built (wr.setCell a u) (w.heap.size + 2) 37 51 (.slice ao3 k cap3) (shapedPart l k k) us) := fun a ha u => hbt.setCell ha u
    have HSP : Hid (shapedP l = shapedPart l k k) := by show _ = _; rw [shapedP, ← HN.out]
    have g1 : wr.heap[w.heap.size]? = some (.cells #[.slice none 0 0] 24 (0, 0)) := (hb.block _ (by omega)).trans ((heap_alloc_old _ _ (by simp)).trans (heap_alloc_new w _))
    have c1 := cell_of_one g1
    have f1 := free_of_one g1
    clear hat haddr hb hbt hwf g1 ho hca
    go_wp2
    exact bodyPost_ret (v := .agg #[.slice ao3 k cap3]) (by simp [results, Tryd.results11, go_sem, c1]) rfl ⟨_, us, rfl, by rw [HSP.out]; exact built_base (HP.out ⟨w.heap.size, 0, none⟩ (by simp) _) (by omega), HCA.out, hbw'.setCell (by simp) _⟩
theorem shaped_mk (l : List Fn) (v : Value) (w : World) (hv : ProgVal w v l) (hwf : ∀ f ∈ l, f.wf) :
  Calls Tryd.prog 11 #[v] w fun e w' => ∃ v' us, e = .returned (.agg #[v']) ∧ Built w' w.heap.size 37 51 v' (shapedP l) us ∧ Below w.heap.size w w' :=
 (shaped_apart l v w hv hwf).mono fun _ _ ⟨v', us, h1, h2, _, h4⟩ => ⟨v', us, h1, h2, h4⟩
end Go.Proofs.YtfacdhkadnmnlaaDoor
namespace Go.Proofs.YtfacdhkadnmnlaaDoor
open Go Go.RowKit

theorem mkIns_ok (x : Ins) (regs places funcs : Int) (h1 : 1 ≤ regs) (h3 : 1 ≤ places) (h5 : 1 ≤ funcs) : codeInstr (mkIns x regs places funcs) regs places funcs = 0 := by
 rw [instr_same]
 have bO := pickI_bounds x.op 19 (by decide)
 have bD := pickI_bounds x.dst regs (by omega)
 have bA := pickI_bounds x.a regs (by omega)
 have bB := pickI_bounds x.b regs (by omega)
 have bP := pickI_bounds x.imm places (by omega)
 have bF := pickI_bounds x.imm funcs (by omega)
 unfold mkIns
 generalize pickI x.op 19 = O at *
 generalize pickI x.dst regs = D at *
 generalize pickI x.a regs = A at *
 generalize pickI x.b regs = B at *
 generalize pickI x.imm places = P at *
 generalize pickI x.imm funcs = F at *
 obtain ⟨m, rfl⟩ : ∃ m : Nat, O = m := ⟨O.toNat, by omega⟩
 have hm : m = 0 ∨ m = 1 ∨ m = 2 ∨ m = 3 ∨ m = 4 ∨ m = 5 ∨ m = 6 ∨ m = 7 ∨ m = 8 ∨ m = 9 ∨ m = 10 ∨ m = 11 ∨ m = 12 ∨ m = 13 ∨ m = 14 ∨ m = 15 ∨ m = 16 ∨ m = 17 ∨ m = 18 := by omega
 rcases hm with rfl | rfl | rfl | rfl | rfl | rfl | rfl | rfl | rfl | rfl | rfl | rfl | rfl | rfl | rfl | rfl | rfl | rfl | rfl
 all_goals
  simp [refInstr, refOk1, refOk2, regMayB, setsB, readsAB, readsBB, inB]
  try omega
theorem mkFn_ok (b : Fn) (funcs : Int) (h5 : 1 ≤ funcs) : codeFunc (mkFn b funcs) funcs = 0 := by
 have bP := pickI_bounds b.params 3 (by decide)
 have bR := pickI_bounds b.regs 11 (by decide)
 have hlen : (mkFn b funcs).code.length = min b.code.length 22 + 2 := by simp [mkFn]
 unfold codeFunc
 rw [hlen]
 have e1 : (mkFn b funcs).regs = max (pickI b.params 3) 1 + pickI b.regs 11 := rfl
 have e2 : (mkFn b funcs).params = pickI b.params 3 := rfl
 have e3 : (mkFn b funcs).code = (b.code.take (min b.code.length 22)).map (fun x => mkIns x (max (pickI b.params 3) 1 + pickI b.regs 11) (min b.code.length 22 + 2 : Nat) funcs) ++ [⟨1, 0, 0, 0, 7⟩, ⟨19, 0, 0, 0, 0⟩] := rfl
 rw [e1, e2]
 rw [if_neg (by omega), if_neg (by omega), if_neg (by omega), if_neg (by omega), if_neg (by omega), if_neg (by omega), if_neg (by omega)]
 have all : ∀ y ∈ (mkFn b funcs).code, codeInstr y (max (pickI b.params 3) 1 + pickI b.regs 11) (min b.code.length 22 + 2 : Nat) funcs = 0 := by
  rw [e3]
  intro y hy
  rcases List.mem_append.1 hy with hy | hy
  ·obtain ⟨x, _, rfl⟩ := List.mem_map.1 hy
   exact mkIns_ok x _ _ _ (by omega) (by omega) h5
  ·rw [instr_same]
   simp at hy
   rcases hy with rfl | rfl
   ·simp [refInstr, refOk1, refOk2, regMayB, setsB, readsAB, readsBB, inB]; omega
   ·simp [refInstr, refOk1, refOk2, regMayB, setsB, readsAB, readsBB, inB]; omega
 generalize (mkFn b funcs).code = c at all
 induction c with
 | nil => rfl
 | cons y r ih =>
  unfold firstErr
  rw [if_pos (all y (by simp))]
  exact ih (fun z hz => all z (by simp [hz]))
theorem shaped_ok (l : List Fn) : codeProg (shapedP l) = 0 := by
 have hl : (shapedP l).length = shapedN l := by simp [shapedP, shapedPart]
 have h1 : 1 ≤ shapedN l := by unfold shapedN; omega
 have h4 : shapedN l ≤ 4 := by unfold shapedN; omega
 unfold codeProg
 rw [hl, if_neg (by omega), if_neg (by omega)]
 have all : ∀ f ∈ shapedP l, codeFunc f (shapedN l) = 0 := by
  intro f hf
  obtain ⟨i, _, rfl⟩ := List.mem_map.1 hf
  exact mkFn_ok _ _ (by omega)
 generalize shapedP l = c at all
 clear hl
 induction c with
 | nil => rfl
 | cons y r ih =>
  unfold firstErr
  rw [if_pos (all y (by simp))]
  exact ih (fun z hz => all z (by simp [hz]))
end Go.Proofs.YtfacdhkadnmnlaaDoor
