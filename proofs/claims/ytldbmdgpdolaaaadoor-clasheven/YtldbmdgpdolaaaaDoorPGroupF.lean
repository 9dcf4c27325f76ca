import Derived.Test.YtldbmdgpdolaaaaDoorProg
import Derived.WalkLawsBesides
import Derived.Test.YtldbmdgpdolaaaaDoorPXOpen
import Derived.BigRegion
import Derived.Deep.DeepCutAuto
import Derived.Deep.LoopGhost
import Derived.Deep.RegionHeld3
import Derived.Deep.RegionWith
import Derived.Test.YtldbmdgpdolaaaaDoorPGroupA
import Derived.Test.YtldbmdgpdolaaaaDoorPGroupB
import Derived.Deep.AppendLies
import Derived.Test.YtldbmdgpdolaaaaDoorPGroupC
namespace Go.Proofs.YtldbmdgpdolaaaaDoor
open Go Go.RowKit

def pickI (n many : Int) : Int := (if n < 0 then -(n + 1) else n) % many
theorem pickI_bounds (n many : Int) (h : 0 < many) : 0 ≤ pickI n many ∧ pickI n many < many := by
  unfold pickI
  exact ⟨Int.emod_nonneg _ (by omega), Int.emod_lt_of_pos _ h⟩
set_option maxRecDepth 100000 in
theorem picked_any (n many : Int) (w : World) (hn : I64 n) (h1 : 0 < many) (h2 : many ≤ 1000000) :
    Calls Tryd.prog 6 #[.int .i64 n, .int .i64 many] w fun e w' => e = .returned (.int .i64 (pickI n many)) ∧ w' = w := by
  unfold I64 at hn
  have hm : ¬ many = 0 := by omega
  by_cases h : n < 0
  · have e : pickI n many = (-(n + 1)) % many := by unfold pickI; rw [if_pos h]
    rw [e]
    clear e
    go_enter Tryd.func6, Tryd.ntmps6
    go_wp2
    go_ret
    exact ⟨ret_int (by rw [← Int.neg_tmod, Int.tmod_eq_emod_of_nonneg (by omega)]), rfl⟩
  · have e : pickI n many = n % many := by unfold pickI; rw [if_neg h]
    rw [e]
    clear e
    go_enter Tryd.func6, Tryd.ntmps6
    go_wp2
    go_ret
    exact ⟨ret_int (by first | rfl | omega), rfl⟩
def mkIns (x : Ins) (regs places funcs : Int) : Ins :=
  if 1 + pickI x.op 19 = 1 then ⟨1 + pickI x.op 19, pickI x.dst regs, 0, 0, x.imm⟩
  else if 1 + pickI x.op 19 ≤ 12 then ⟨1 + pickI x.op 19, pickI x.dst regs, pickI x.a regs, pickI x.b regs, 0⟩
  else if 1 + pickI x.op 19 = 13 ∨ 1 + pickI x.op 19 = 18 then ⟨1 + pickI x.op 19, pickI x.dst regs, pickI x.a regs, 0, 0⟩
  else if 1 + pickI x.op 19 = 14 then ⟨1 + pickI x.op 19, 0, pickI x.a regs, pickI x.b regs, 0⟩
  else if 1 + pickI x.op 19 = 15 then ⟨1 + pickI x.op 19, 0, 0, 0, pickI x.imm places⟩
  else if 1 + pickI x.op 19 = 16 then ⟨1 + pickI x.op 19, 0, pickI x.a regs, 0, pickI x.imm places⟩
  else if 1 + pickI x.op 19 = 17 then ⟨1 + pickI x.op 19, pickI x.dst regs, pickI x.a regs, pickI x.b regs, pickI x.imm funcs⟩
  else ⟨1 + pickI x.op 19, 0, pickI x.a regs, 0, 0⟩
set_option maxRecDepth 100000 in
set_option maxHeartbeats 2000000 in
theorem instr_mk (x : Ins) (regs places funcs : Int) (w : World) (hx : x.wf) (h1 : 1 ≤ regs) (h2 : regs ≤ 12) (h3 : 1 ≤ places) (h4 : places ≤ 100) (h5 : 1 ≤ funcs) (h6 : funcs ≤ 4) :
    Calls Tryd.prog 19 #[x.val, .int .i64 regs, .int .i64 places, .int .i64 funcs] w fun e w' => e = .returned (mkIns x regs places funcs).val ∧ Below w.heap.size w w' := by
  obtain ⟨op, dst, a, b, imm⟩ := x
  obtain ⟨ho, hd, ha, hb, hi⟩ := hx
  dsimp only at ho hd ha hb hi
  have hob := pickI_bounds op 19 (by decide)
  unfold Ins.val
  unfold mkIns
  dsimp only
  have hh : 0 < regs ∧ regs ≤ 1000000 ∧ 0 < places ∧ places ≤ 1000000 ∧ 0 < funcs ∧ funcs ≤ 1000000 := by omega
  by_cases c1 : 1 + pickI op 19 = 1
  · rw [if_pos c1]
    dsimp only
    have c0 : pickI op 19 = 0 := by omega
    rw [c0] at c1 ⊢
    clear c1
    go_enter Tryd.func19, Tryd.ntmps19
    go_wp2_with (go_at_call 6; refine (picked_any _ _ _ ?_ ?_ ?_).mono ?_; (first | exact ho | exact hd | exact ha | exact hb | exact hi); omega; omega; rintro e w' ⟨rfl, rfl⟩)
    exact bodyPost_ret (v := .agg #[.int .i64 (1 + 0), .int .i64 (pickI dst regs), .int .i64 (0), .int .i64 (0), .int .i64 (imm)]) (by simp [results, Tryd.results19, go_sem]) rfl ⟨rfl, (((Below.refl _ _).alloc (Nat.le_refl _) _).alloc (by simp) _).alloc (by simp; omega) _⟩
  rw [if_neg c1]
  by_cases c2 : 1 + pickI op 19 ≤ 12
  · rw [if_pos c2]
    dsimp only
    have c1' : (1 + pickI op 19 == 1) = false := by simpa using c1
    go_enter Tryd.func19, Tryd.ntmps19
    go_wp2_with (go_at_call 6; refine (picked_any _ _ _ ?_ ?_ ?_).mono ?_; (first | exact ho | exact hd | exact ha | exact hb | exact hi); omega; omega; rintro e w' ⟨rfl, rfl⟩)
    exact bodyPost_ret (v := .agg #[.int .i64 (1 + pickI op 19), .int .i64 (pickI dst regs), .int .i64 (pickI a regs), .int .i64 (pickI b regs), .int .i64 (0)]) (by simp [results, Tryd.results19, go_sem]) rfl ⟨rfl, (((Below.refl _ _).alloc (Nat.le_refl _) _).alloc (by simp) _).alloc (by simp; omega) _⟩
  rw [if_neg c2]
  by_cases c3 : 1 + pickI op 19 = 13 ∨ 1 + pickI op 19 = 18
  · rw [if_pos c3]
    dsimp only
    rcases c3 with c3 | c3
    · have c0 : pickI op 19 = 12 := by omega
      rw [c0]
      clear c3 c2 c1
      go_enter Tryd.func19, Tryd.ntmps19
      go_wp2_with (go_at_call 6; refine (picked_any _ _ _ ?_ ?_ ?_).mono ?_; (first | exact ho | exact hd | exact ha | exact hb | exact hi); omega; omega; rintro e w' ⟨rfl, rfl⟩)
      exact bodyPost_ret (v := .agg #[.int .i64 (1 + 12), .int .i64 (pickI dst regs), .int .i64 (pickI a regs), .int .i64 (0), .int .i64 (0)]) (by simp [results, Tryd.results19, go_sem]) rfl ⟨rfl, (((Below.refl _ _).alloc (Nat.le_refl _) _).alloc (by simp) _).alloc (by simp; omega) _⟩
    · have c0 : pickI op 19 = 17 := by omega
      rw [c0]
      clear c3 c2 c1
      go_enter Tryd.func19, Tryd.ntmps19
      go_wp2_with (go_at_call 6; refine (picked_any _ _ _ ?_ ?_ ?_).mono ?_; (first | exact ho | exact hd | exact ha | exact hb | exact hi); omega; omega; rintro e w' ⟨rfl, rfl⟩)
      exact bodyPost_ret (v := .agg #[.int .i64 (1 + 17), .int .i64 (pickI dst regs), .int .i64 (pickI a regs), .int .i64 (0), .int .i64 (0)]) (by simp [results, Tryd.results19, go_sem]) rfl ⟨rfl, (((Below.refl _ _).alloc (Nat.le_refl _) _).alloc (by simp) _).alloc (by simp; omega) _⟩
  rw [if_neg c3]
  by_cases c14 : 1 + pickI op 19 = 14
  · rw [if_pos c14]
    dsimp only
    have c0 : pickI op 19 = 13 := by omega
    rw [c0] at c14 ⊢
    clear c14
    go_enter Tryd.func19, Tryd.ntmps19
    go_wp2_with (go_at_call 6; refine (picked_any _ _ _ ?_ ?_ ?_).mono ?_; (first | exact ho | exact hd | exact ha | exact hb | exact hi); omega; omega; rintro e w' ⟨rfl, rfl⟩)
    exact bodyPost_ret (v := .agg #[.int .i64 (1 + 13), .int .i64 (0), .int .i64 (pickI a regs), .int .i64 (pickI b regs), .int .i64 (0)]) (by simp [results, Tryd.results19, go_sem]) rfl ⟨rfl, (((Below.refl _ _).alloc (Nat.le_refl _) _).alloc (by simp) _).alloc (by simp; omega) _⟩
  rw [if_neg c14]
  by_cases c15 : 1 + pickI op 19 = 15
  · rw [if_pos c15]
    dsimp only
    have c0 : pickI op 19 = 14 := by omega
    rw [c0] at c15 ⊢
    clear c15
    go_enter Tryd.func19, Tryd.ntmps19
    go_wp2_with (go_at_call 6; refine (picked_any _ _ _ ?_ ?_ ?_).mono ?_; (first | exact ho | exact hd | exact ha | exact hb | exact hi); omega; omega; rintro e w' ⟨rfl, rfl⟩)
    exact bodyPost_ret (v := .agg #[.int .i64 (1 + 14), .int .i64 (0), .int .i64 (0), .int .i64 (0), .int .i64 (pickI imm places)]) (by simp [results, Tryd.results19, go_sem]) rfl ⟨rfl, (((Below.refl _ _).alloc (Nat.le_refl _) _).alloc (by simp) _).alloc (by simp; omega) _⟩
  rw [if_neg c15]
  by_cases c16 : 1 + pickI op 19 = 16
  · rw [if_pos c16]
    dsimp only
    have c0 : pickI op 19 = 15 := by omega
    rw [c0] at c16 ⊢
    clear c16
    go_enter Tryd.func19, Tryd.ntmps19
    go_wp2_with (go_at_call 6; refine (picked_any _ _ _ ?_ ?_ ?_).mono ?_; (first | exact ho | exact hd | exact ha | exact hb | exact hi); omega; omega; rintro e w' ⟨rfl, rfl⟩)
    exact bodyPost_ret (v := .agg #[.int .i64 (1 + 15), .int .i64 (0), .int .i64 (pickI a regs), .int .i64 (0), .int .i64 (pickI imm places)]) (by simp [results, Tryd.results19, go_sem]) rfl ⟨rfl, (((Below.refl _ _).alloc (Nat.le_refl _) _).alloc (by simp) _).alloc (by simp; omega) _⟩
  rw [if_neg c16]
  by_cases c17 : 1 + pickI op 19 = 17
  · rw [if_pos c17]
    dsimp only
    have c0 : pickI op 19 = 16 := by omega
    rw [c0] at c17 ⊢
    clear c17
    go_enter Tryd.func19, Tryd.ntmps19
    go_wp2_with (go_at_call 6; refine (picked_any _ _ _ ?_ ?_ ?_).mono ?_; (first | exact ho | exact hd | exact ha | exact hb | exact hi); omega; omega; rintro e w' ⟨rfl, rfl⟩)
    exact bodyPost_ret (v := .agg #[.int .i64 (1 + 16), .int .i64 (pickI dst regs), .int .i64 (pickI a regs), .int .i64 (pickI b regs), .int .i64 (pickI imm funcs)]) (by simp [results, Tryd.results19, go_sem]) rfl ⟨rfl, (((Below.refl _ _).alloc (Nat.le_refl _) _).alloc (by simp) _).alloc (by simp; omega) _⟩
  rw [if_neg c17]
  · dsimp only
    have c0 : pickI op 19 = 18 := by omega
    rw [c0]
    clear c17 c16 c15 c14 c3 c2 c1
    go_enter Tryd.func19, Tryd.ntmps19
    go_wp2_with (go_at_call 6; refine (picked_any _ _ _ ?_ ?_ ?_).mono ?_; (first | exact ho | exact hd | exact ha | exact hb | exact hi); omega; omega; rintro e w' ⟨rfl, rfl⟩)
    exact bodyPost_ret (v := .agg #[.int .i64 (1 + 18), .int .i64 (0), .int .i64 (pickI a regs), .int .i64 (0), .int .i64 (0)]) (by simp [results, Tryd.results19, go_sem]) rfl ⟨rfl, (((Below.refl _ _).alloc (Nat.le_refl _) _).alloc (by simp) _).alloc (by simp; omega) _⟩
end Go.Proofs.YtldbmdgpdolaaaaDoor
namespace Go.Proofs.YtldbmdgpdolaaaaDoor
open Go Go.RowKit

theorem cell_third {w : World} {o1 o2 : Obj} {cs : Array Value} {t i : Nat} {v : Value} (h : cs[i]? = some v) : (((w.alloc o1).alloc o2).alloc (.cells cs t)).cell? ⟨w.heap.size + 1 + 1, i, none⟩ = some v := by
  have hb := heap_alloc_new ((w.alloc o1).alloc o2) (.cells cs t)
  simp only [World.size_alloc] at hb
  rw [cell_of_row _ _ i cs t (0, 0) hb, h]
theorem heap_set5 {w : World} {g t : Nat} {z0 z1 z2 z3 z4 : Value} (h : w.heap[g]? = some (.cells #[z0, z1, z2, z3, z4] t)) (a b c d e : Value) :
    (((((w.setCell ⟨g, 0, none⟩ a).setCell ⟨g, 1, none⟩ b).setCell ⟨g, 2, none⟩ c).setCell ⟨g, 3, none⟩ d).setCell ⟨g, 4, none⟩ e).heap[g]? = some (.cells #[a, b, c, d, e] t) := by
  have h0 := heap_setCell_same w g 0 _ t a h
  have h1 := heap_setCell_same _ g 1 _ t b h0
  have h2 := heap_setCell_same _ g 2 _ t c h1
  have h3 := heap_setCell_same _ g 3 _ t d h2
  have h4 := heap_setCell_same _ g 4 _ t e h3
  rw [h4]
  rfl
theorem fn_step {w wc w4 : World} {O tI tF n : Nat} {p r vc v4 : Value} {xs ys : List Value} {o : Obj} {oA oB : Obj} (hO2 : w.heap.size + 1 + 1 = O)
    (h0 : wc.heap[w.heap.size]? = some oA) (h1 : wc.heap[w.heap.size + 1]? = some oB) (h2 : wc.heap[O]? = some (.cells #[p, r, vc] tF)) (hown : wc.ownsRow (w.heap.size + 3) tI 5 vc n xs) (hb : Below w.heap.size w wc)
    (hg : (wc.alloc o).grownBy w4 vc.ownBlock) (hown4 : w4.ownsRow (w.heap.size + 3) tI 5 v4 (n + 1) (xs ++ ys)) :
    w4.heap[O]? = some (.cells #[p, r, vc] tF) ∧ (w4.setCell ⟨O, 2, none⟩ v4).heap[w.heap.size]? = some oA ∧ (w4.setCell ⟨O, 2, none⟩ v4).heap[w.heap.size + 1]? = some oB ∧ (w4.setCell ⟨O, 2, none⟩ v4).heap[O]? = some (.cells #[p, r, v4] tF) ∧
      (w4.setCell ⟨O, 2, none⟩ v4).ownsRow (w.heap.size + 3) tI 5 v4 (n + 1) (xs ++ ys) ∧ Below w.heap.size w (w4.setCell ⟨O, 2, none⟩ v4) := by
  subst hO2
  have hrow : ∀ k, vc.ownBlock = some k → w.heap.size + 3 ≤ k := fun k hk => (hown.lt k hk).1
  have hz := lt_of_block h2
  have keep : ∀ j ob, j < w.heap.size + 3 → wc.heap[j]? = some ob → w4.heap[j]? = some ob := fun j ob hj hob =>
    (hg.block j (by have := lt_of_block hob; simp; omega) (fun e => by have := hrow j e.symm; omega)).trans ((heap_alloc_old _ _ (lt_of_block hob)).trans hob)
  have e2 := keep _ _ (by omega) h2
  refine ⟨e2, ?_, ?_, ?_, ownsRow_setCell_below hown4 (by simp) _, ?_⟩
  · rw [Below.heap_setCell _ _ _ _ (by simp; omega)]; exact keep _ _ (by omega) h0
  · rw [Below.heap_setCell _ _ _ _ (by simp)]; exact keep _ _ (by omega) h1
  · rw [heap_setCell_same w4 _ 2 _ tF v4 e2]; rfl
  · exact (((hb.alloc (by have := hb.size; omega) _).grown hg (by have := hb.size; simp; omega) (fun k hk => by have := hrow k hk; omega))).setCell (by simp; omega) _
def mkFn (b : Fn) (funcs : Int) : Fn :=
  let params := pickI b.params 3
  let regs := max params 1 + pickI b.regs 11
  let n := min b.code.length 22
  ⟨params, regs, (b.code.take n).map (fun x => mkIns x regs (n + 2 : Nat) funcs) ++ [⟨1, 0, 0, 0, 7⟩, ⟨19, 0, 0, 0, 0⟩]⟩
set_option maxRecDepth 100000 in
set_option maxHeartbeats 1000000 in
theorem function_mk (bd : Fn) (v : Value) (funcs : Int) (w : World) (hv : CodeVal w v bd.code) (hwf : bd.wf) (h5 : 1 ≤ funcs) (h6 : funcs ≤ 4) :
    Calls Tryd.prog 11 #[.agg #[.int .i64 bd.params, .int .i64 bd.regs, v], .int .i64 funcs, .bool false] w fun e w' =>
      ∃ u, e = .returned (.agg #[.int .i64 (mkFn bd funcs).params, .int .i64 (mkFn bd funcs).regs, u]) ∧ w'.ownsRow w.heap.size 42 5 u (mkFn bd funcs).code.length (codeCells (mkFn bd funcs).code) ∧ Below w.heap.size w w' := by
  obtain ⟨bp, br, xs⟩ := bd
  obtain ⟨hp, hr, hxs⟩ := hwf
  obtain ⟨ao, b, off, n, cap, rfl, ⟨hlen, haddr, hat⟩, hcap, hmax⟩ := hv
  obtain ⟨iI, hiI, hzI0, hzI1, hzI2⟩ := info_parts infoI
  dsimp only at hp hr hxs hlen haddr hat
  have hpb := pickI_bounds bp 3 (by decide)
  have hrb := pickI_bounds br 11 (by decide)
  unfold maxLen at hmax
  have hM : max (pickI bp 3) 1 = 1 ∨ (1 ≤ pickI bp 3 ∧ max (pickI bp 3) 1 = pickI bp 3) := by omega
  go_enter Tryd.func11, Tryd.ntmps11
  go_wp2_with (go_at_call 6; refine (picked_any _ _ _ ?_ ?_ ?_).mono ?_; (first | exact hp | exact hr); omega; omega; rintro e w' ⟨rfl, rfl⟩)
  have k1 : (((w.alloc (.cells #[.int .i64 bp, .int .i64 br, .slice ao n cap] 50)).alloc (.cells #[.int .i64 0, .int .i64 0, .slice none 0 0] 44)).alloc (.cells #[.int .i64 (pickI bp 3), .int .i64 0, .slice none 0 0] 44)).cell? ⟨w.heap.size + 1 + 1, 0, none⟩ = some (.int .i64 (pickI bp 3)) := cell_third rfl
  go_cut [] (fun wx => wx = (((w.alloc (.cells #[.int .i64 bp, .int .i64 br, .slice ao n cap] 50)).alloc (.cells #[.int .i64 0, .int .i64 0, .slice none 0 0] 44)).alloc (.cells #[.int .i64 (pickI bp 3), .int .i64 (max (pickI bp 3) 1 + pickI br 11), .slice none 0 0] 44)).drew)
  case first =>
    by_cases hm : 1 ≤ pickI bp 3
    · have hmx : max (pickI bp 3) 1 = pickI bp 3 := by omega
      have HMX : Hid (max (pickI bp 3) 1 = _) := hmx
      have HWR : Hid (IntKind.i64.wrap (max (pickI bp 3) 1 + pickI br 11) = max (pickI bp 3) 1 + pickI br 11) := by show _ = _; rw [IntKind.wrap_i64]; omega
      clear hM hmx
      go_region_held3 (fun w' => w'.cell? ⟨w.heap.size + 1 + 1, 0, none⟩ = some (.int .i64 (pickI bp 3)) ∧ w'.cell? ⟨w.heap.size, 1, none⟩ = some (.int .i64 br)) ((refine ⟨?_, ?_⟩ <;> first | exact cell_third rfl | go_keep)) ((go_at_call 6; refine (picked_any _ _ _ hr (by omega) (by omega)).mono ?_; rintro e w' ⟨rfl, rfl⟩))
      all_goals (go_wp2_with fail; go_meet; exact (by have h := HWR.out; rw [HMX.out] at h ⊢; rw [h]))
    · have hmx : max (pickI bp 3) 1 = 1 := by omega
      have HMX : Hid (max (pickI bp 3) 1 = _) := hmx
      have HWR : Hid (IntKind.i64.wrap (max (pickI bp 3) 1 + pickI br 11) = max (pickI bp 3) 1 + pickI br 11) := by show _ = _; rw [IntKind.wrap_i64]; omega
      clear hM hmx
      go_region_held3 (fun w' => w'.cell? ⟨w.heap.size + 1 + 1, 0, none⟩ = some (.int .i64 (pickI bp 3)) ∧ w'.cell? ⟨w.heap.size, 1, none⟩ = some (.int .i64 br)) ((refine ⟨?_, ?_⟩ <;> first | exact cell_third rfl | go_keep)) ((go_at_call 6; refine (picked_any _ _ _ hr (by omega) (by omega)).mono ?_; rintro e w' ⟨rfl, rfl⟩))
      all_goals (go_wp2_with fail; go_meet; exact (by have h := HWR.out; rw [HMX.out] at h ⊢; rw [h]))
  case rest =>
    subst hcut
    have HN : Hid (∃ N : Nat, N = min n 22) := ⟨_, rfl⟩
    obtain ⟨N, hN⟩ := HN.out
    have HNN : Hid (N = min n 22) := hN
    clear hN HN
    generalize hR : max (pickI bp 3) 1 + pickI br 11 = RG
    have hRG : 1 ≤ RG ∧ RG ≤ 12 := by omega
    have HRG : Hid (max (pickI bp 3) 1 + pickI br 11 = RG) := hR
    clear hR
    go_upto_region 3 with fail
    go_cut [8] (fun s8 wx => s8 = .int .i64 N ∧ wx = (((w.alloc (.cells #[.int .i64 bp, .int .i64 br, .slice ao n cap] 50)).alloc (.cells #[.int .i64 0, .int .i64 0, .slice none 0 0] 44)).alloc (.cells #[.int .i64 (pickI bp 3), .int .i64 RG, .slice none 0 0] 44)).drew)
    case first =>
      by_cases h22 : n ≤ 22
      · have HE : Hid (N = n) := HNN.out.trans (by omega)
        go_wp2_with fail
        go_meet
        exact ⟨by rw [HE.out], rfl⟩
      · have HE : Hid (N = 22) := HNN.out.trans (by omega)
        go_wp2_with fail
        go_meet
        exact ⟨by rw [HE.out]; rfl, rfl⟩
    case rest =>
      obtain ⟨rfl, rfl⟩ := hcut
      have hN22 : N ≤ 22 := by have := HNN.out; omega
      go_wp2
      have HBX0 : Hid (∀ W, W = (((w.alloc (.cells #[.int .i64 bp, .int .i64 br, .slice ao n cap] 50)).alloc (.cells #[.int .i64 0, .int .i64 0, .slice none 0 0] 44)).alloc (.cells #[.int .i64 (pickI bp 3), .int .i64 RG, .slice none 0 0] 44)).drew → W.heap[w.heap.size]? = some (.cells #[.int .i64 bp, .int .i64 br, .slice ao n cap] 50) ∧ W.heap[w.heap.size + 1]? = some (.cells #[.int .i64 0, .int .i64 0, .slice none 0 0] 44) ∧ W.heap[w.heap.size + 1 + 1]? = some (.cells #[.int .i64 (pickI bp 3), .int .i64 RG, .slice none 0 0] 44) ∧ Below w.heap.size w W) := fun W hW => by
        subst hW
        have e1 := heap_alloc_new w (.cells #[.int .i64 bp, .int .i64 br, .slice ao n cap] 50)
        have e2 := heap_alloc_new (w.alloc (.cells #[.int .i64 bp, .int .i64 br, .slice ao n cap] 50)) (.cells #[.int .i64 0, .int .i64 0, .slice none 0 0] 44)
        have e3 := heap_alloc_new ((w.alloc (.cells #[.int .i64 bp, .int .i64 br, .slice ao n cap] 50)).alloc (.cells #[.int .i64 0, .int .i64 0, .slice none 0 0] 44)) (.cells #[.int .i64 (pickI bp 3), .int .i64 RG, .slice none 0 0] 44)
        simp only [World.size_alloc] at e2 e3
        refine ⟨(heap_alloc_old _ _ (by simp; omega)).trans ((heap_alloc_old _ _ (by simp)).trans e1), (heap_alloc_old _ _ (by simp)).trans e2, e3, ?_⟩
        exact ((((Below.refl _ w).alloc (Nat.le_refl _) _).alloc (by simp) _).alloc (by simp; omega) _).drew
      go_loopg [11] N (fun m i wr => ∃ (k : Nat) (vc : Value), k + m = N ∧ i = .int .i64 k ∧ wr.heap[w.heap.size]? = some (.cells #[.int .i64 bp, .int .i64 br, .slice ao n cap] 50) ∧ wr.heap[w.heap.size + 1]? = some (.cells #[.int .i64 0, .int .i64 0, .slice none 0 0] 44) ∧ wr.heap[w.heap.size + 1 + 1]? = some (.cells #[.int .i64 (pickI bp 3), .int .i64 RG, vc] 44) ∧ wr.ownsRow (w.heap.size + 3) 42 5 vc k (codeCells ((xs.take k).map fun x => mkIns x RG (N + 2 : Nat) funcs)) ∧ Below w.heap.size w wr)
      case atStart =>
        obtain ⟨e1, e2, e3, e4⟩ := HBX0.out _ rfl
        exact ⟨0, _, by omega, rfl, e1, e2, e3, by simpa [codeCells] using World.ownsRow_nil _ _ _ _, e4⟩
      case round =>
        obtain ⟨k, vc, hkm, rfl, hb0, hb1, hb2, hown, hbl⟩ := hrel
        by_cases hlt : k < N
        · have hkn : k < n := by have := HNN.out; omega
          have hkx : k < xs.length := by rw [hlen]; exact hkn
          obtain rfl := haddr (by omega)
          obtain ⟨g0, g1, g2, g3, g4⟩ := (hat k hkx).keeps (keeps_below hbl)
          have hxw := hxs xs[k] (List.getElem_mem hkx)
          have hz : w.heap.size + 1 + 1 < wr.heap.size := lt_of_block hb2
          have c1 : wr.cell? ⟨w.heap.size, 2, none⟩ = some (.slice (some ⟨b, off, none⟩) n cap) := by simp [World.cell?, hb0]
          have c2 : wr.cell? ⟨w.heap.size + 1 + 1, 1, none⟩ = some (.int .i64 RG) := by simp [World.cell?, hb2]
          have HTK : Hid ((xs.take (k + 1)).map (fun x => mkIns x RG (N + 2 : Nat) funcs) = (xs.take k).map (fun x => mkIns x RG (N + 2 : Nat) funcs) ++ [mkIns xs[k] RG (N + 2 : Nat) funcs]) := by
            show _ = _
            rw [List.take_succ_eq_append_getElem hkx, List.map_append]; rfl
          generalize hxx : xs[k] = x at g0 g1 g2 g3 g4 hxw HTK
          have HC : Hid (∀ W, Calls Tryd.prog 19 #[.agg #[.int .i64 x.op, .int .i64 x.dst, .int .i64 x.a, .int .i64 x.b, .int .i64 x.imm], .int .i64 RG, .int .i64 ((N : Int) + 2), .int .i64 funcs] W fun e w' => e = .returned (mkIns x RG (N + 2 : Nat) funcs).val ∧ Below W.heap.size W w') := fun W => by
            have h := instr_mk x RG ((N + 2 : Nat) : Int) funcs W hxw hRG.1 hRG.2 (by omega) (by omega) h5 h6
            have e : ((N + 2 : Nat) : Int) = (N : Int) + 2 := by omega
            rw [e] at h ⊢
            exact h
          generalize hy : mkIns x RG (N + 2 : Nat) funcs = y at HTK HC
          obtain ⟨yo, yd, ya, yb, yi⟩ := y
          unfold Ins.val at HC
          dsimp only at HC
          clear hy hxx hxw
          go_wp2_with fail
          go_cut [12] (fun s12 wx => ∃ g, s12 = .pointer (some ⟨g, 0, none⟩) ∧ wr.heap.size ≤ g ∧ wx.heap[g]? = some (.cells #[.int .i64 yo, .int .i64 yd, .int .i64 ya, .int .i64 yb, .int .i64 yi] 42) ∧ Below wr.heap.size wr wx)
          case first =>
            have n1 := World.new_ne wr _ c1
            have n2 := World.new_ne wr _ c2
            have n3 := World.new_ne wr _ g0
            have n4 := World.new_ne wr _ g1
            have n5 := World.new_ne wr _ g2
            have n6 := World.new_ne wr _ g3
            have n7 := World.new_ne wr _ g4
            go_region_held3 (fun w' => w'.cell? ⟨w.heap.size, 2, none⟩ = some (.slice (some ⟨b, off, none⟩) n cap) ∧ w'.cell? ⟨w.heap.size + 1 + 1, 1, none⟩ = some (.int .i64 RG) ∧ w'.cell? ⟨b, off + k * 5, none⟩ = some (.int .i64 x.op) ∧ w'.cell? ⟨b, off + k * 5 + 1, none⟩ = some (.int .i64 x.dst) ∧ w'.cell? ⟨b, off + k * 5 + 2, none⟩ = some (.int .i64 x.a) ∧ w'.cell? ⟨b, off + k * 5 + 3, none⟩ = some (.int .i64 x.b) ∧ w'.cell? ⟨b, off + k * 5 + 4, none⟩ = some (.int .i64 x.imm)) (go_keep) ((go_at_call 19; refine (HC.out _).mono ?_; rintro e w1 ⟨rfl, hb1⟩; have s0 := keeps_below hb1 _ _ (by first | exact c1 | exact cell_alloc c1 _); have s1 := keeps_below hb1 _ _ (by first | exact c2 | exact cell_alloc c2 _); have s2 := keeps_below hb1 _ _ (by first | exact g0 | exact cell_alloc g0 _); have s3 := keeps_below hb1 _ _ (by first | exact g1 | exact cell_alloc g1 _); have s4 := keeps_below hb1 _ _ (by first | exact g2 | exact cell_alloc g2 _); have s5 := keeps_below hb1 _ _ (by first | exact g3 | exact cell_alloc g3 _); have s6 := keeps_below hb1 _ _ (by first | exact g4 | exact cell_alloc g4 _); try (have q : w1.heap[wr.heap.size]? = some (.cells #[.int .i64 0, .int .i64 0, .int .i64 0, .int .i64 0, .int .i64 0] 42) := (hb1.block wr.heap.size (by simp)).trans (heap_alloc_new wr _); have q0 : w1.cell? ⟨wr.heap.size, 0, none⟩ = some (.int .i64 0) := (by simp [World.cell?, q]); have f0 : w1.frozen? ⟨wr.heap.size, 0, none⟩ = false := (by simp [World.frozen?, q]); have q1 : w1.cell? ⟨wr.heap.size, 1, none⟩ = some (.int .i64 0) := (by simp [World.cell?, q]); have f1 : w1.frozen? ⟨wr.heap.size, 1, none⟩ = false := (by simp [World.frozen?, q]); have q2 : w1.cell? ⟨wr.heap.size, 2, none⟩ = some (.int .i64 0) := (by simp [World.cell?, q]); have f2 : w1.frozen? ⟨wr.heap.size, 2, none⟩ = false := (by simp [World.frozen?, q]); have q3 : w1.cell? ⟨wr.heap.size, 3, none⟩ = some (.int .i64 0) := (by simp [World.cell?, q]); have f3 : w1.frozen? ⟨wr.heap.size, 3, none⟩ = false := (by simp [World.frozen?, q]); have q4 : w1.cell? ⟨wr.heap.size, 4, none⟩ = some (.int .i64 0) := (by simp [World.cell?, q]); have f4 : w1.frozen? ⟨wr.heap.size, 4, none⟩ = false := (by simp [World.frozen?, q]))))
            · go_wp2_with fail
              go_meet
              exact ⟨_, rfl, hb1.size, heap_alloc_new w1 _, (((Below.refl _ wr).drew).trans hb1).alloc hb1.size _⟩
            · go_wp2_with fail
              go_meet
              exact ⟨_, rfl, Nat.le_refl _, heap_set5 q _ _ _ _ _, (((((((((Below.refl _ wr).alloc (Nat.le_refl _) _).drew).trans (hb1.mono (by simp))).setCell (Nat.le_refl _) _).setCell (Nat.le_refl _) _).setCell (Nat.le_refl _) _).setCell (Nat.le_refl _) _).setCell (Nat.le_refl _) _)⟩
          case rest =>
            obtain ⟨g, rfl, hgl, hgb, hbr⟩ := hcut
            have r0 := (hbr.block _ (lt_of_block hb0)).trans hb0
            have r1 := (hbr.block _ (lt_of_block hb1)).trans hb1
            have r2 := (hbr.block _ (lt_of_block hb2)).trans hb2
            have rown := ownsRow_below hown hbr
            have rbl : Below w.heap.size w wc := hbl.trans (hbr.mono (by omega))
            obtain ⟨aov, capv, rfl⟩ := own_shape hown
            have x0 : wc.cell? ⟨g, 0, none⟩ = some (.int .i64 yo) := by simp [World.cell?, hgb]
            have x1 : wc.cell? ⟨g, 1, none⟩ = some (.int .i64 yd) := by simp [World.cell?, hgb]
            have x2 : wc.cell? ⟨g, 2, none⟩ = some (.int .i64 ya) := by simp [World.cell?, hgb]
            have x3 : wc.cell? ⟨g, 3, none⟩ = some (.int .i64 yb) := by simp [World.cell?, hgb]
            have x4 : wc.cell? ⟨g, 4, none⟩ = some (.int .i64 yi) := by simp [World.cell?, hgb]
            have y2 : wc.cell? ⟨w.heap.size + 1 + 1, 2, none⟩ = some (.slice aov k capv) := by simp [World.cell?, r2]
            have R0 : Hid _ := r0
            have R1 : Hid _ := r1
            have R2 : Hid _ := r2
            have RB : Hid _ := rbl
            have hzc := lt_of_block r2
            clear hbl hbr r0 r1 r2 rbl hgb hb0 hb1 hb2 hown g0 g1 g2 g3 g4 c1 c2
            go_wp2_with (at_builtin; refine wpList_append_own _ rfl (.tmp 68) (.tmp 70) 40 rfl (w.heap.size + 3) 42 iI _ 5 40 Tryd.underlying40 hiI hzI0 hzI1 hzI2 rfl (by decide) _ k _ rfl (rown.alloc _) ⟨wc.heap.size, 0, none⟩ 1 1 (insCells ⟨yo, yd, ya, yb, yi⟩) rfl rfl (news_list _ _ _ _ rfl) (fun u hu => codeCells_one [⟨yo, yd, ya, yb, yi⟩] u (by simpa [codeCells] using hu)) (by unfold maxLen; omega) (by omega) (by simp; omega) ?_; intro v4 w4 hown4 hg4 _; obtain ⟨ao4, cap4, rfl⟩ := own_shape hown4; have Q := fn_step rfl R0.out R1.out R2.out rown RB.out hg4 hown4; have q2 := Q.1; have qc : w4.cell? ⟨w.heap.size + 1 + 1, 2, none⟩ = some (.slice aov k capv) := (by simp [World.cell?, q2]); have qf : w4.frozen? ⟨w.heap.size + 1 + 1, 2, none⟩ = false := (by simp [World.frozen?, q2]))
            go_roundg (gk - 1)
            case measure => omega
            case rel => exact ⟨k + 1, _, by omega, by go_num, Q.2.1, Q.2.2.1, Q.2.2.2.1, by rw [HTK.out, codeCells_append]; simpa [codeCells] using Q.2.2.2.2.1, Q.2.2.2.2.2⟩
        · have hkN : k = N := by omega
          subst hkN
          obtain ⟨aov, capv, rfl⟩ := own_shape hown
          have hz := lt_of_block hb2
          have y2 : wr.cell? ⟨w.heap.size + 1 + 1, 2, none⟩ = some (.slice aov k capv) := by simp [World.cell?, hb2]
          have R0 : Hid _ := hb0
          have R1 : Hid _ := hb1
          have R2 : Hid _ := hb2
          have RB : Hid _ := hbl
          have HFN : Hid (mkFn ⟨bp, br, xs⟩ funcs = ⟨pickI bp 3, RG, (xs.take k).map (fun x => mkIns x RG (k + 2 : Nat) funcs) ++ [⟨1, 0, 0, 0, 7⟩] ++ [⟨19, 0, 0, 0, 0⟩]⟩) := by
            show _ = _
            unfold mkFn
            dsimp only
            rw [HRG.out, hlen, ← HNN.out, List.append_assoc]
            rfl
          generalize hcs : (xs.take k).map (fun x => mkIns x RG (k + 2 : Nat) funcs) = cs at hown HFN
          clear hbl hb0 hb1 hb2 hat hxs HBX0
          go_wp2_with (first
            | (at_builtin; refine wpList_append_own _ rfl (.tmp 74) (.tmp 76) 40 rfl (w.heap.size + 3) 42 iI _ 5 40 Tryd.underlying40 hiI hzI0 hzI1 hzI2 rfl (by decide) _ k _ rfl (hown.alloc _) ⟨wr.heap.size, 0, none⟩ 1 1 (insCells ⟨1, 0, 0, 0, 7⟩) rfl rfl (news_list _ _ _ _ rfl) (fun u hu => codeCells_one [⟨1, 0, 0, 0, 7⟩] u (by simpa [codeCells] using hu)) (by unfold maxLen; omega) (by omega) (by simp; omega) ?_; intro v4 w4 hown4 hg4 _; obtain ⟨ao4, cap4, rfl⟩ := own_shape hown4; have Q := fn_step rfl R0.out R1.out R2.out hown RB.out hg4 hown4; have q2 := Q.1; have qc : w4.cell? ⟨w.heap.size + 1 + 1, 2, none⟩ = some (.slice aov k capv) := (by simp [World.cell?, q2]); have qf : w4.frozen? ⟨w.heap.size + 1 + 1, 2, none⟩ = false := (by simp [World.frozen?, q2]))
            | (at_builtin; refine wpList_append_own _ rfl (.tmp 80) (.tmp 82) 40 rfl (w.heap.size + 3) 42 iI _ 5 40 Tryd.underlying40 hiI hzI0 hzI1 hzI2 rfl (by decide) _ (k + 1) _ rfl (Q.2.2.2.2.1.alloc _) ⟨w4.heap.size, 0, none⟩ 1 1 (insCells ⟨19, 0, 0, 0, 0⟩) rfl rfl (news_list _ _ _ _ (by simp)) (fun u hu => codeCells_one [⟨19, 0, 0, 0, 0⟩] u (by simpa [codeCells] using hu)) (by unfold maxLen; omega) (by omega) (by have := lt_of_block q2; simp; omega) ?_; intro v6 w6 hown6 hg6 _; obtain ⟨ao6, cap6, rfl⟩ := own_shape hown6; have Q6 := fn_step rfl Q.2.1 Q.2.2.1 Q.2.2.2.1 Q.2.2.2.2.1 Q.2.2.2.2.2 hg6 hown6; have q6 := Q6.1; have qc6 : w6.cell? ⟨w.heap.size + 1 + 1, 2, none⟩ = some (.slice ao4 (k + 1) cap4) := (by simp [World.cell?, q6]); have qf6 : w6.frozen? ⟨w.heap.size + 1 + 1, 2, none⟩ = false := (by simp [World.frozen?, q6]); have qd0 : w6.cell? ⟨w.heap.size + 1 + 1, 0, none⟩ = some (.int .i64 (pickI bp 3)) := (by simp [World.cell?, q6]); have qd1 : w6.cell? ⟨w.heap.size + 1 + 1, 1, none⟩ = some (.int .i64 RG) := (by simp [World.cell?, q6]); have q61 := Q6.2.2.1; rw [Below.heap_setCell _ _ _ _ (by simp)] at q61; have e0 : w6.cell? ⟨w.heap.size + 1, 0, none⟩ = some (.int .i64 0) := (by simp [World.cell?, q61]); have ef0 : w6.frozen? ⟨w.heap.size + 1, 0, none⟩ = false := (by simp [World.frozen?, q61]); have e1 : w6.cell? ⟨w.heap.size + 1, 1, none⟩ = some (.int .i64 0) := (by simp [World.cell?, q61]); have ef1 : w6.frozen? ⟨w.heap.size + 1, 1, none⟩ = false := (by simp [World.frozen?, q61]); have e2 : w6.cell? ⟨w.heap.size + 1, 2, none⟩ = some (.slice none 0 0) := (by simp [World.cell?, q61]); have ef2 : w6.frozen? ⟨w.heap.size + 1, 2, none⟩ = false := (by simp [World.frozen?, q61])))
          rw [HFN.out]
          have HO : Hid (∀ a u, a.block < w.heap.size + 3 → ∀ b u', b.block < w.heap.size + 3 → ∀ c u'', c.block < w.heap.size + 3 → ((((w6.setCell ⟨w.heap.size + 1 + 1, 2, none⟩ (.slice ao6 (k + 1 + 1) cap6)).setCell a u).setCell b u').setCell c u'').ownsRow (w.heap.size + 3) 42 5 (.slice ao6 (k + 1 + 1) cap6) (k + 1 + 1) (codeCells cs ++ insCells ⟨1, 0, 0, 0, 7⟩ ++ insCells ⟨19, 0, 0, 0, 0⟩)) :=
            fun a u ha b u' hb c u'' hc => ownsRow_setCell_below (ownsRow_setCell_below (ownsRow_setCell_below Q6.2.2.2.2.1 ha u) hb u') hc u''
          have HBB : Hid (Below w.heap.size w (w6.setCell ⟨w.heap.size + 1 + 1, 2, none⟩ (.slice ao6 (k + 1 + 1) cap6))) := Q6.2.2.2.2.2
          have hcl : cs.length = k := by rw [← hcs, List.length_map, List.length_take, hlen]; have := HNN.out; omega
          refine bodyPost_ret (v := .agg #[.int .i64 (pickI bp 3), .int .i64 RG, .slice ao6 (k + 1 + 1) cap6]) (by simp [results, Tryd.results11, go_sem, e0, e1, e2]) rfl ⟨_, rfl, ?_, ?_⟩
          · have e1 : (cs ++ [(⟨1, 0, 0, 0, 7⟩ : Ins)] ++ [(⟨19, 0, 0, 0, 0⟩ : Ins)]).length = k + 1 + 1 := by simp [hcl]
            have e2 : codeCells (cs ++ [⟨1, 0, 0, 0, 7⟩] ++ [⟨19, 0, 0, 0, 0⟩]) = codeCells cs ++ insCells ⟨1, 0, 0, 0, 7⟩ ++ insCells ⟨19, 0, 0, 0, 0⟩ := by simp [codeCells]
            dsimp only
            rw [e1, e2]
            exact own_base (HO.out ⟨w.heap.size + 1, 0, none⟩ _ (by simp) ⟨w.heap.size + 1, 1, none⟩ _ (by simp) ⟨w.heap.size + 1, 2, none⟩ _ (by simp)) (by omega)
          · exact ((HBB.out.setCell (by simp) _).setCell (by simp) _).setCell (by simp) _
end Go.Proofs.YtldbmdgpdolaaaaDoor
namespace Go.Proofs.YtldbmdgpdolaaaaDoor
open Go Go.RowKit

def preL (p : Int) (j : Nat) : List Ins := (List.range j).map fun (i : Nat) => ⟨1, p + i, 0, 0, p + i⟩
theorem preL_succ (p : Int) (j : Nat) : preL p (j + 1) = preL p j ++ [⟨1, p + j, 0, 0, p + j⟩] := by simp [preL, List.range_succ]
theorem preL_length (p : Int) (j : Nat) : (preL p j).length = j := by simp [preL]
theorem pre_step {p : Int} {j : Nat} : p + (j : Int) + 1 = p + ((j + 1 : Nat) : Int) := by omega
def mkAll (b : Fn) (funcs : Int) : Fn :=
  let params := pickI b.params 3
  let regs := max params 1 + pickI b.regs 11
  let n := min b.code.length 22
  let k := (regs - params).toNat
  ⟨params, regs, (preL params k ++ (b.code.take n).map (fun x => mkIns x regs (k + n + 2 : Nat) funcs)) ++ [⟨1, 0, 0, 0, 7⟩] ++ [⟨19, 0, 0, 0, 0⟩]⟩
set_option maxRecDepth 100000 in
set_option maxHeartbeats 1000000 in
theorem function_all (bd : Fn) (v : Value) (funcs : Int) (w : World) (hv : CodeVal w v bd.code) (hwf : bd.wf) (h5 : 1 ≤ funcs) (h6 : funcs ≤ 4) :
    Calls Tryd.prog 11 #[.agg #[.int .i64 bd.params, .int .i64 bd.regs, v], .int .i64 funcs, .bool true] w fun e w' =>
      ∃ u, e = .returned (.agg #[.int .i64 (mkAll bd funcs).params, .int .i64 (mkAll bd funcs).regs, u]) ∧ w'.ownsRow w.heap.size 42 5 u (mkAll bd funcs).code.length (codeCells (mkAll bd funcs).code) ∧ Below w.heap.size w w' := by
  obtain ⟨bp, br, xs⟩ := bd
  obtain ⟨hp, hr, hxs⟩ := hwf
  obtain ⟨ao, b, off, n, cap, rfl, ⟨hlen, haddr, hat⟩, hcap, hmax⟩ := hv
  obtain ⟨iI, hiI, hzI0, hzI1, hzI2⟩ := info_parts infoI
  dsimp only at hp hr hxs hlen haddr hat
  have hpb := pickI_bounds bp 3 (by decide)
  have hrb := pickI_bounds br 11 (by decide)
  unfold maxLen at hmax
  have hM : max (pickI bp 3) 1 = 1 ∨ (1 ≤ pickI bp 3 ∧ max (pickI bp 3) 1 = pickI bp 3) := by omega
  go_enter Tryd.func11, Tryd.ntmps11
  go_wp2_with (go_at_call 6; refine (picked_any _ _ _ ?_ ?_ ?_).mono ?_; (first | exact hp | exact hr); omega; omega; rintro e w' ⟨rfl, rfl⟩)
  have k1 : (((w.alloc (.cells #[.int .i64 bp, .int .i64 br, .slice ao n cap] 50)).alloc (.cells #[.int .i64 0, .int .i64 0, .slice none 0 0] 44)).alloc (.cells #[.int .i64 (pickI bp 3), .int .i64 0, .slice none 0 0] 44)).cell? ⟨w.heap.size + 1 + 1, 0, none⟩ = some (.int .i64 (pickI bp 3)) := cell_third rfl
  go_cut [] (fun wx => wx = (((w.alloc (.cells #[.int .i64 bp, .int .i64 br, .slice ao n cap] 50)).alloc (.cells #[.int .i64 0, .int .i64 0, .slice none 0 0] 44)).alloc (.cells #[.int .i64 (pickI bp 3), .int .i64 (max (pickI bp 3) 1 + pickI br 11), .slice none 0 0] 44)).drew)
  case first =>
    by_cases hm : 1 ≤ pickI bp 3
    · have hmx : max (pickI bp 3) 1 = pickI bp 3 := by omega
      have HMX : Hid (max (pickI bp 3) 1 = _) := hmx
      have HWR : Hid (IntKind.i64.wrap (max (pickI bp 3) 1 + pickI br 11) = max (pickI bp 3) 1 + pickI br 11) := by show _ = _; rw [IntKind.wrap_i64]; omega
      clear hM hmx
      go_region_held3 (fun w' => w'.cell? ⟨w.heap.size + 1 + 1, 0, none⟩ = some (.int .i64 (pickI bp 3)) ∧ w'.cell? ⟨w.heap.size, 1, none⟩ = some (.int .i64 br)) ((refine ⟨?_, ?_⟩ <;> first | exact cell_third rfl | go_keep)) ((go_at_call 6; refine (picked_any _ _ _ hr (by omega) (by omega)).mono ?_; rintro e w' ⟨rfl, rfl⟩))
      all_goals (go_wp2_with fail; go_meet; exact (by have h := HWR.out; rw [HMX.out] at h ⊢; rw [h]))
    · have hmx : max (pickI bp 3) 1 = 1 := by omega
      have HMX : Hid (max (pickI bp 3) 1 = _) := hmx
      have HWR : Hid (IntKind.i64.wrap (max (pickI bp 3) 1 + pickI br 11) = max (pickI bp 3) 1 + pickI br 11) := by show _ = _; rw [IntKind.wrap_i64]; omega
      clear hM hmx
      go_region_held3 (fun w' => w'.cell? ⟨w.heap.size + 1 + 1, 0, none⟩ = some (.int .i64 (pickI bp 3)) ∧ w'.cell? ⟨w.heap.size, 1, none⟩ = some (.int .i64 br)) ((refine ⟨?_, ?_⟩ <;> first | exact cell_third rfl | go_keep)) ((go_at_call 6; refine (picked_any _ _ _ hr (by omega) (by omega)).mono ?_; rintro e w' ⟨rfl, rfl⟩))
      all_goals (go_wp2_with fail; go_meet; exact (by have h := HWR.out; rw [HMX.out] at h ⊢; rw [h]))
  case rest =>
    subst hcut
    have HN : Hid (∃ N : Nat, N = min n 22) := ⟨_, rfl⟩
    obtain ⟨N, hN⟩ := HN.out
    have HNN : Hid (N = min n 22) := hN
    clear hN HN
    generalize hR : max (pickI bp 3) 1 + pickI br 11 = RG
    have hRG : 1 ≤ RG ∧ RG ≤ 12 := by omega
    have HRG : Hid (max (pickI bp 3) 1 + pickI br 11 = RG) := hR
    clear hR
    go_upto_region 3 with fail
    go_cut [8] (fun s8 wx => s8 = .int .i64 N ∧ wx = (((w.alloc (.cells #[.int .i64 bp, .int .i64 br, .slice ao n cap] 50)).alloc (.cells #[.int .i64 0, .int .i64 0, .slice none 0 0] 44)).alloc (.cells #[.int .i64 (pickI bp 3), .int .i64 RG, .slice none 0 0] 44)).drew)
    case first =>
      by_cases h22 : n ≤ 22
      · have HE : Hid (N = n) := HNN.out.trans (by omega)
        go_wp2_with fail
        go_meet
        exact ⟨by rw [HE.out], rfl⟩
      · have HE : Hid (N = 22) := HNN.out.trans (by omega)
        go_wp2_with fail
        go_meet
        exact ⟨by rw [HE.out]; rfl, rfl⟩
    case rest =>
      obtain ⟨rfl, rfl⟩ := hcut
      have hN22 : N ≤ 22 := by have := HNN.out; omega
      have HBX0 : Hid (∀ W, W = (((w.alloc (.cells #[.int .i64 bp, .int .i64 br, .slice ao n cap] 50)).alloc (.cells #[.int .i64 0, .int .i64 0, .slice none 0 0] 44)).alloc (.cells #[.int .i64 (pickI bp 3), .int .i64 RG, .slice none 0 0] 44)).drew → W.heap[w.heap.size]? = some (.cells #[.int .i64 bp, .int .i64 br, .slice ao n cap] 50) ∧ W.heap[w.heap.size + 1]? = some (.cells #[.int .i64 0, .int .i64 0, .slice none 0 0] 44) ∧ W.heap[w.heap.size + 1 + 1]? = some (.cells #[.int .i64 (pickI bp 3), .int .i64 RG, .slice none 0 0] 44) ∧ Below w.heap.size w W) := fun W hW => by
        subst hW
        have e1 := heap_alloc_new w (.cells #[.int .i64 bp, .int .i64 br, .slice ao n cap] 50)
        have e2 := heap_alloc_new (w.alloc (.cells #[.int .i64 bp, .int .i64 br, .slice ao n cap] 50)) (.cells #[.int .i64 0, .int .i64 0, .slice none 0 0] 44)
        have e3 := heap_alloc_new ((w.alloc (.cells #[.int .i64 bp, .int .i64 br, .slice ao n cap] 50)).alloc (.cells #[.int .i64 0, .int .i64 0, .slice none 0 0] 44)) (.cells #[.int .i64 (pickI bp 3), .int .i64 RG, .slice none 0 0] 44)
        simp only [World.size_alloc] at e2 e3
        refine ⟨(heap_alloc_old _ _ (by simp; omega)).trans ((heap_alloc_old _ _ (by simp)).trans e1), (heap_alloc_old _ _ (by simp)).trans e2, e3, ?_⟩
        exact ((((Below.refl _ w).alloc (Nat.le_refl _) _).alloc (by simp) _).alloc (by simp; omega) _).drew
      have hge : pickI bp 3 ≤ RG := by have := HRG.out; omega
      obtain ⟨K, hK⟩ : ∃ K : Nat, (K : Int) = RG - pickI bp 3 := ⟨(RG - pickI bp 3).toNat, by omega⟩
      have hK12 : K ≤ 12 := by omega
      have HKK : Hid ((K : Int) = RG - pickI bp 3) := hK
      have HBY0 := HBX0.out _ rfl
      have y0 : ((((w.alloc (.cells #[.int .i64 bp, .int .i64 br, .slice ao n cap] 50)).alloc (.cells #[.int .i64 0, .int .i64 0, .slice none 0 0] 44)).alloc (.cells #[.int .i64 (pickI bp 3), .int .i64 RG, .slice none 0 0] 44)).drew).cell? ⟨w.heap.size + 1 + 1, 0, none⟩ = some (.int .i64 (pickI bp 3)) := (cell_of_row _ _ 0 _ _ _ HBY0.2.2.1).trans rfl
      clear HBY0
      go_wp2
      clear y0
      go_loopg [9] K (fun m i wr => ∃ (j : Nat) (vc : Value), j + m = K ∧ i = .int .i64 (pickI bp 3 + j) ∧ wr.heap[w.heap.size]? = some (.cells #[.int .i64 bp, .int .i64 br, .slice ao n cap] 50) ∧ wr.heap[w.heap.size + 1]? = some (.cells #[.int .i64 0, .int .i64 0, .slice none 0 0] 44) ∧ wr.heap[w.heap.size + 1 + 1]? = some (.cells #[.int .i64 (pickI bp 3), .int .i64 RG, vc] 44) ∧ wr.ownsRow (w.heap.size + 3) 42 5 vc j (codeCells (preL (pickI bp 3) j)) ∧ Below w.heap.size w wr)
      case atStart =>
        obtain ⟨e1, e2, e3, e4⟩ := HBX0.out _ rfl
        exact ⟨0, _, by omega, by simp, e1, e2, e3, by simpa [codeCells, preL] using World.ownsRow_nil _ _ _ _, e4⟩
      case round =>
       obtain ⟨j, vc, hjm, rfl, hb0, hb1, hb2, hown, hbl⟩ := hrel
       have c0 : wr.cell? ⟨w.heap.size + 1 + 1, 1, none⟩ = some (.int .i64 RG) := by simp [World.cell?, hb2]
       by_cases hjl : j < K
       · obtain ⟨aov, capv, rfl⟩ := own_shape hown
         have hzj := lt_of_block hb2
         have y2 : wr.cell? ⟨w.heap.size + 1 + 1, 2, none⟩ = some (.slice aov j capv) := by simp [World.cell?, hb2]
         have R0 : Hid _ := hb0
         have R1 : Hid _ := hb1
         have R2 : Hid _ := hb2
         have RB : Hid _ := hbl
         have HPL : Hid (preL (pickI bp 3) (j + 1) = preL (pickI bp 3) j ++ [⟨1, pickI bp 3 + j, 0, 0, pickI bp 3 + j⟩]) := preL_succ _ _
         have hjI : pickI bp 3 + (j : Int) < RG := by omega
         clear hb0 hb1 hb2 hbl hK
         go_wp2_with (at_builtin; refine wpList_append_own _ rfl (.tmp 39) (.tmp 43) 40 rfl (w.heap.size + 3) 42 iI _ 5 40 Tryd.underlying40 hiI hzI0 hzI1 hzI2 rfl (by decide) _ j _ rfl (hown.alloc _) ⟨wr.heap.size, 0, none⟩ 1 1 (insCells ⟨1, pickI bp 3 + j, 0, 0, pickI bp 3 + j⟩) rfl rfl (news_list _ _ _ _ rfl) (fun u hu => codeCells_one [⟨1, pickI bp 3 + j, 0, 0, pickI bp 3 + j⟩] u (by simpa [codeCells] using hu)) (by unfold maxLen; omega) (by omega) (by simp; omega) ?_; intro v4 w4 hown4 hg4 _; obtain ⟨ao4, cap4, rfl⟩ := own_shape hown4; have Q := fn_step rfl R0.out R1.out R2.out hown RB.out hg4 hown4; have q2 := Q.1; have qc : w4.cell? ⟨w.heap.size + 1 + 1, 2, none⟩ = some (.slice aov j capv) := (by simp [World.cell?, q2]); have qf : w4.frozen? ⟨w.heap.size + 1 + 1, 2, none⟩ = false := (by simp [World.frozen?, q2]))
         go_roundg (gk - 1)
         case measure => omega
         case rel => exact ⟨j + 1, _, by omega, by rw [← pre_step], Q.2.1, Q.2.2.1, Q.2.2.2.1, by rw [HPL.out, codeCells_append]; simpa [codeCells] using Q.2.2.2.2.1, Q.2.2.2.2.2⟩
       · obtain rfl : j = K := by omega
         obtain ⟨aop, capp, rfl⟩ := own_shape hown
         have hzj := lt_of_block hb2
         have y2 : wr.cell? ⟨w.heap.size + 1 + 1, 2, none⟩ = some (.slice aop j capp) := by simp [World.cell?, hb2]
         have hjI : ¬ pickI bp 3 + (j : Int) < RG := by omega
         have HBX1 : Hid (wr.heap[w.heap.size]? = some (.cells #[.int .i64 bp, .int .i64 br, .slice ao n cap] 50) ∧ wr.heap[w.heap.size + 1]? = some (.cells #[.int .i64 0, .int .i64 0, .slice none 0 0] 44) ∧ wr.heap[w.heap.size + 1 + 1]? = some (.cells #[.int .i64 (pickI bp 3), .int .i64 RG, .slice aop j capp] 44) ∧ wr.ownsRow (w.heap.size + 3) 42 5 (.slice aop j capp) j (codeCells (preL (pickI bp 3) j)) ∧ Below w.heap.size w wr) := ⟨hb0, hb1, hb2, hown, hbl⟩
         have HPN : Hid ((preL (pickI bp 3) j).length = j) := preL_length _ _
         clear hb0 hb1 hb2 hown hbl hK
         go_wp2
         clear y2 c0
         go_loopg [11] N (fun m i wr => ∃ (k : Nat) (vc : Value), k + m = N ∧ i = .int .i64 k ∧ wr.heap[w.heap.size]? = some (.cells #[.int .i64 bp, .int .i64 br, .slice ao n cap] 50) ∧ wr.heap[w.heap.size + 1]? = some (.cells #[.int .i64 0, .int .i64 0, .slice none 0 0] 44) ∧ wr.heap[w.heap.size + 1 + 1]? = some (.cells #[.int .i64 (pickI bp 3), .int .i64 RG, vc] 44) ∧ wr.ownsRow (w.heap.size + 3) 42 5 vc (j + k) (codeCells (preL (pickI bp 3) j ++ (xs.take k).map fun x => mkIns x RG (j + N + 2 : Nat) funcs)) ∧ Below w.heap.size w wr)
         case atStart =>
           obtain ⟨e1, e2, e3, e4, e5⟩ := HBX1.out
           exact ⟨0, _, by omega, rfl, e1, e2, e3, by simpa using e4, e5⟩
         case round =>
           obtain ⟨k, vc, hkm, rfl, hb0, hb1, hb2, hown, hbl⟩ := hrel
           by_cases hlt : k < N
           · have hkn : k < n := by have := HNN.out; omega
             have hkx : k < xs.length := by rw [hlen]; exact hkn
             obtain rfl := haddr (by omega)
             obtain ⟨g0, g1, g2, g3, g4⟩ := (hat k hkx).keeps (keeps_below hbl)
             have hxw := hxs xs[k] (List.getElem_mem hkx)
             have hz : w.heap.size + 1 + 1 < wr.heap.size := lt_of_block hb2
             have c1 : wr.cell? ⟨w.heap.size, 2, none⟩ = some (.slice (some ⟨b, off, none⟩) n cap) := by simp [World.cell?, hb0]
             have c2 : wr.cell? ⟨w.heap.size + 1 + 1, 1, none⟩ = some (.int .i64 RG) := by simp [World.cell?, hb2]
             have HTK : Hid ((xs.take (k + 1)).map (fun x => mkIns x RG (j + N + 2 : Nat) funcs) = (xs.take k).map (fun x => mkIns x RG (j + N + 2 : Nat) funcs) ++ [mkIns xs[k] RG (j + N + 2 : Nat) funcs]) := by
               show _ = _
               rw [List.take_succ_eq_append_getElem hkx, List.map_append]; rfl
             generalize hxx : xs[k] = x at g0 g1 g2 g3 g4 hxw HTK
             have HC : Hid (∀ W, Calls Tryd.prog 19 #[.agg #[.int .i64 x.op, .int .i64 x.dst, .int .i64 x.a, .int .i64 x.b, .int .i64 x.imm], .int .i64 RG, .int .i64 ((j : Int) + (N : Int) + 2), .int .i64 funcs] W fun e w' => e = .returned (mkIns x RG (j + N + 2 : Nat) funcs).val ∧ Below W.heap.size W w') := fun W => by
               have h := instr_mk x RG ((j + N + 2 : Nat) : Int) funcs W hxw hRG.1 hRG.2 (by omega) (by omega) h5 h6
               have e : ((j + N + 2 : Nat) : Int) = (j : Int) + (N : Int) + 2 := by omega
               rw [e] at h ⊢
               exact h
             generalize hy : mkIns x RG (j + N + 2 : Nat) funcs = y at HTK HC
             obtain ⟨yo, yd, ya, yb, yi⟩ := y
             unfold Ins.val at HC
             dsimp only at HC
             clear hy hxx hxw
             go_wp2_with fail
             go_cut [12] (fun s12 wx => ∃ g, s12 = .pointer (some ⟨g, 0, none⟩) ∧ wr.heap.size ≤ g ∧ wx.heap[g]? = some (.cells #[.int .i64 yo, .int .i64 yd, .int .i64 ya, .int .i64 yb, .int .i64 yi] 42) ∧ Below wr.heap.size wr wx)
             case first =>
               have n1 := World.new_ne wr _ c1
               have n2 := World.new_ne wr _ c2
               have n3 := World.new_ne wr _ g0
               have n4 := World.new_ne wr _ g1
               have n5 := World.new_ne wr _ g2
               have n6 := World.new_ne wr _ g3
               have n7 := World.new_ne wr _ g4
               go_region_held3 (fun w' => w'.cell? ⟨w.heap.size, 2, none⟩ = some (.slice (some ⟨b, off, none⟩) n cap) ∧ w'.cell? ⟨w.heap.size + 1 + 1, 1, none⟩ = some (.int .i64 RG) ∧ w'.cell? ⟨b, off + k * 5, none⟩ = some (.int .i64 x.op) ∧ w'.cell? ⟨b, off + k * 5 + 1, none⟩ = some (.int .i64 x.dst) ∧ w'.cell? ⟨b, off + k * 5 + 2, none⟩ = some (.int .i64 x.a) ∧ w'.cell? ⟨b, off + k * 5 + 3, none⟩ = some (.int .i64 x.b) ∧ w'.cell? ⟨b, off + k * 5 + 4, none⟩ = some (.int .i64 x.imm)) (go_keep) ((go_at_call 19; refine (HC.out _).mono ?_; rintro e w1 ⟨rfl, hb1⟩; have s0 := keeps_below hb1 _ _ (by first | exact c1 | exact cell_alloc c1 _); have s1 := keeps_below hb1 _ _ (by first | exact c2 | exact cell_alloc c2 _); have s2 := keeps_below hb1 _ _ (by first | exact g0 | exact cell_alloc g0 _); have s3 := keeps_below hb1 _ _ (by first | exact g1 | exact cell_alloc g1 _); have s4 := keeps_below hb1 _ _ (by first | exact g2 | exact cell_alloc g2 _); have s5 := keeps_below hb1 _ _ (by first | exact g3 | exact cell_alloc g3 _); have s6 := keeps_below hb1 _ _ (by first | exact g4 | exact cell_alloc g4 _); try (have q : w1.heap[wr.heap.size]? = some (.cells #[.int .i64 0, .int .i64 0, .int .i64 0, .int .i64 0, .int .i64 0] 42) := (hb1.block wr.heap.size (by simp)).trans (heap_alloc_new wr _); have q0 : w1.cell? ⟨wr.heap.size, 0, none⟩ = some (.int .i64 0) := (by simp [World.cell?, q]); have f0 : w1.frozen? ⟨wr.heap.size, 0, none⟩ = false := (by simp [World.frozen?, q]); have q1 : w1.cell? ⟨wr.heap.size, 1, none⟩ = some (.int .i64 0) := (by simp [World.cell?, q]); have f1 : w1.frozen? ⟨wr.heap.size, 1, none⟩ = false := (by simp [World.frozen?, q]); have q2 : w1.cell? ⟨wr.heap.size, 2, none⟩ = some (.int .i64 0) := (by simp [World.cell?, q]); have f2 : w1.frozen? ⟨wr.heap.size, 2, none⟩ = false := (by simp [World.frozen?, q]); have q3 : w1.cell? ⟨wr.heap.size, 3, none⟩ = some (.int .i64 0) := (by simp [World.cell?, q]); have f3 : w1.frozen? ⟨wr.heap.size, 3, none⟩ = false := (by simp [World.frozen?, q]); have q4 : w1.cell? ⟨wr.heap.size, 4, none⟩ = some (.int .i64 0) := (by simp [World.cell?, q]); have f4 : w1.frozen? ⟨wr.heap.size, 4, none⟩ = false := (by simp [World.frozen?, q]))))
               · go_wp2_with fail
                 go_meet
                 exact ⟨_, rfl, hb1.size, heap_alloc_new w1 _, (((Below.refl _ wr).drew).trans hb1).alloc hb1.size _⟩
               · go_wp2_with fail
                 go_meet
                 exact ⟨_, rfl, Nat.le_refl _, heap_set5 q _ _ _ _ _, (((((((((Below.refl _ wr).alloc (Nat.le_refl _) _).drew).trans (hb1.mono (by simp))).setCell (Nat.le_refl _) _).setCell (Nat.le_refl _) _).setCell (Nat.le_refl _) _).setCell (Nat.le_refl _) _).setCell (Nat.le_refl _) _)⟩
             case rest =>
               obtain ⟨g, rfl, hgl, hgb, hbr⟩ := hcut
               have r0 := (hbr.block _ (lt_of_block hb0)).trans hb0
               have r1 := (hbr.block _ (lt_of_block hb1)).trans hb1
               have r2 := (hbr.block _ (lt_of_block hb2)).trans hb2
               have rown := ownsRow_below hown hbr
               have rbl : Below w.heap.size w wc := hbl.trans (hbr.mono (by omega))
               obtain ⟨aov, capv, rfl⟩ := own_shape hown
               have x0 : wc.cell? ⟨g, 0, none⟩ = some (.int .i64 yo) := by simp [World.cell?, hgb]
               have x1 : wc.cell? ⟨g, 1, none⟩ = some (.int .i64 yd) := by simp [World.cell?, hgb]
               have x2 : wc.cell? ⟨g, 2, none⟩ = some (.int .i64 ya) := by simp [World.cell?, hgb]
               have x3 : wc.cell? ⟨g, 3, none⟩ = some (.int .i64 yb) := by simp [World.cell?, hgb]
               have x4 : wc.cell? ⟨g, 4, none⟩ = some (.int .i64 yi) := by simp [World.cell?, hgb]
               have y2 : wc.cell? ⟨w.heap.size + 1 + 1, 2, none⟩ = some (.slice aov (j + k) capv) := by simp [World.cell?, r2]
               have R0 : Hid _ := r0
               have R1 : Hid _ := r1
               have R2 : Hid _ := r2
               have RB : Hid _ := rbl
               have hzc := lt_of_block r2
               clear hbl hbr r0 r1 r2 rbl hgb hb0 hb1 hb2 hown g0 g1 g2 g3 g4 c1 c2
               go_wp2_with (at_builtin; refine wpList_append_own _ rfl (.tmp 68) (.tmp 70) 40 rfl (w.heap.size + 3) 42 iI _ 5 40 Tryd.underlying40 hiI hzI0 hzI1 hzI2 rfl (by decide) _ (j + k) _ rfl (rown.alloc _) ⟨wc.heap.size, 0, none⟩ 1 1 (insCells ⟨yo, yd, ya, yb, yi⟩) rfl rfl (news_list _ _ _ _ rfl) (fun u hu => codeCells_one [⟨yo, yd, ya, yb, yi⟩] u (by simpa [codeCells] using hu)) (by unfold maxLen; omega) (by omega) (by simp; omega) ?_; intro v4 w4 hown4 hg4 _; obtain ⟨ao4, cap4, rfl⟩ := own_shape hown4; have Q := fn_step rfl R0.out R1.out R2.out rown RB.out hg4 hown4; have q2 := Q.1; have qc : w4.cell? ⟨w.heap.size + 1 + 1, 2, none⟩ = some (.slice aov (j + k) capv) := (by simp [World.cell?, q2]); have qf : w4.frozen? ⟨w.heap.size + 1 + 1, 2, none⟩ = false := (by simp [World.frozen?, q2]))
               go_roundg (gk - 1)
               case measure => omega
               case rel => exact ⟨k + 1, _, by omega, by go_num, Q.2.1, Q.2.2.1, Q.2.2.2.1, by rw [HTK.out, ← List.append_assoc, codeCells_append, ← Nat.add_assoc]; simpa [codeCells] using Q.2.2.2.2.1, Q.2.2.2.2.2⟩
           · have hkN : k = N := by omega
             subst hkN
             obtain ⟨aov, capv, rfl⟩ := own_shape hown
             have hz := lt_of_block hb2
             have y2 : wr.cell? ⟨w.heap.size + 1 + 1, 2, none⟩ = some (.slice aov (j + k) capv) := by simp [World.cell?, hb2]
             have R0 : Hid _ := hb0
             have R1 : Hid _ := hb1
             have R2 : Hid _ := hb2
             have RB : Hid _ := hbl
             have HFN : Hid (mkAll ⟨bp, br, xs⟩ funcs = ⟨pickI bp 3, RG, (preL (pickI bp 3) j ++ (xs.take k).map (fun x => mkIns x RG (j + k + 2 : Nat) funcs)) ++ [⟨1, 0, 0, 0, 7⟩] ++ [⟨19, 0, 0, 0, 0⟩]⟩) := by
               show _ = _
               unfold mkAll
               dsimp only
               rw [HRG.out, ← HKK.out, hlen, ← HNN.out, Int.toNat_natCast]
             generalize hcs : preL (pickI bp 3) j ++ (xs.take k).map (fun x => mkIns x RG (j + k + 2 : Nat) funcs) = cs at hown HFN
             clear hbl hb0 hb1 hb2 hat hxs HBX0 HBX1
             go_wp2_with (first
               | (at_builtin; refine wpList_append_own _ rfl (.tmp 74) (.tmp 76) 40 rfl (w.heap.size + 3) 42 iI _ 5 40 Tryd.underlying40 hiI hzI0 hzI1 hzI2 rfl (by decide) _ (j + k) _ rfl (hown.alloc _) ⟨wr.heap.size, 0, none⟩ 1 1 (insCells ⟨1, 0, 0, 0, 7⟩) rfl rfl (news_list _ _ _ _ rfl) (fun u hu => codeCells_one [⟨1, 0, 0, 0, 7⟩] u (by simpa [codeCells] using hu)) (by unfold maxLen; omega) (by omega) (by simp; omega) ?_; intro v4 w4 hown4 hg4 _; obtain ⟨ao4, cap4, rfl⟩ := own_shape hown4; have Q := fn_step rfl R0.out R1.out R2.out hown RB.out hg4 hown4; have q2 := Q.1; have qc : w4.cell? ⟨w.heap.size + 1 + 1, 2, none⟩ = some (.slice aov (j + k) capv) := (by simp [World.cell?, q2]); have qf : w4.frozen? ⟨w.heap.size + 1 + 1, 2, none⟩ = false := (by simp [World.frozen?, q2]))
               | (at_builtin; refine wpList_append_own _ rfl (.tmp 80) (.tmp 82) 40 rfl (w.heap.size + 3) 42 iI _ 5 40 Tryd.underlying40 hiI hzI0 hzI1 hzI2 rfl (by decide) _ (j + k + 1) _ rfl (Q.2.2.2.2.1.alloc _) ⟨w4.heap.size, 0, none⟩ 1 1 (insCells ⟨19, 0, 0, 0, 0⟩) rfl rfl (news_list _ _ _ _ (by simp)) (fun u hu => codeCells_one [⟨19, 0, 0, 0, 0⟩] u (by simpa [codeCells] using hu)) (by unfold maxLen; omega) (by omega) (by have := lt_of_block q2; simp; omega) ?_; intro v6 w6 hown6 hg6 _; obtain ⟨ao6, cap6, rfl⟩ := own_shape hown6; have Q6 := fn_step rfl Q.2.1 Q.2.2.1 Q.2.2.2.1 Q.2.2.2.2.1 Q.2.2.2.2.2 hg6 hown6; have q6 := Q6.1; have qc6 : w6.cell? ⟨w.heap.size + 1 + 1, 2, none⟩ = some (.slice ao4 (j + k + 1) cap4) := (by simp [World.cell?, q6]); have qf6 : w6.frozen? ⟨w.heap.size + 1 + 1, 2, none⟩ = false := (by simp [World.frozen?, q6]); have qd0 : w6.cell? ⟨w.heap.size + 1 + 1, 0, none⟩ = some (.int .i64 (pickI bp 3)) := (by simp [World.cell?, q6]); have qd1 : w6.cell? ⟨w.heap.size + 1 + 1, 1, none⟩ = some (.int .i64 RG) := (by simp [World.cell?, q6]); have q61 := Q6.2.2.1; rw [Below.heap_setCell _ _ _ _ (by simp)] at q61; have e0 : w6.cell? ⟨w.heap.size + 1, 0, none⟩ = some (.int .i64 0) := (by simp [World.cell?, q61]); have ef0 : w6.frozen? ⟨w.heap.size + 1, 0, none⟩ = false := (by simp [World.frozen?, q61]); have e1 : w6.cell? ⟨w.heap.size + 1, 1, none⟩ = some (.int .i64 0) := (by simp [World.cell?, q61]); have ef1 : w6.frozen? ⟨w.heap.size + 1, 1, none⟩ = false := (by simp [World.frozen?, q61]); have e2 : w6.cell? ⟨w.heap.size + 1, 2, none⟩ = some (.slice none 0 0) := (by simp [World.cell?, q61]); have ef2 : w6.frozen? ⟨w.heap.size + 1, 2, none⟩ = false := (by simp [World.frozen?, q61])))
             rw [HFN.out]
             have HO : Hid (∀ a u, a.block < w.heap.size + 3 → ∀ b u', b.block < w.heap.size + 3 → ∀ c u'', c.block < w.heap.size + 3 → ((((w6.setCell ⟨w.heap.size + 1 + 1, 2, none⟩ (.slice ao6 (j + k + 1 + 1) cap6)).setCell a u).setCell b u').setCell c u'').ownsRow (w.heap.size + 3) 42 5 (.slice ao6 (j + k + 1 + 1) cap6) (j + k + 1 + 1) (codeCells cs ++ insCells ⟨1, 0, 0, 0, 7⟩ ++ insCells ⟨19, 0, 0, 0, 0⟩)) :=
               fun a u ha b u' hb c u'' hc => ownsRow_setCell_below (ownsRow_setCell_below (ownsRow_setCell_below Q6.2.2.2.2.1 ha u) hb u') hc u''
             have HBB : Hid (Below w.heap.size w (w6.setCell ⟨w.heap.size + 1 + 1, 2, none⟩ (.slice ao6 (j + k + 1 + 1) cap6))) := Q6.2.2.2.2.2
             have hcl : cs.length = j + k := by rw [← hcs, List.length_append, HPN.out, List.length_map, List.length_take, hlen]; have := HNN.out; omega
             refine bodyPost_ret (v := .agg #[.int .i64 (pickI bp 3), .int .i64 RG, .slice ao6 (j + k + 1 + 1) cap6]) (by simp [results, Tryd.results11, go_sem, e0, e1, e2]) rfl ⟨_, rfl, ?_, ?_⟩
             · have e1 : (cs ++ [(⟨1, 0, 0, 0, 7⟩ : Ins)] ++ [(⟨19, 0, 0, 0, 0⟩ : Ins)]).length = j + k + 1 + 1 := by simp [hcl]
               have e2 : codeCells (cs ++ [⟨1, 0, 0, 0, 7⟩] ++ [⟨19, 0, 0, 0, 0⟩]) = codeCells cs ++ insCells ⟨1, 0, 0, 0, 7⟩ ++ insCells ⟨19, 0, 0, 0, 0⟩ := by simp [codeCells]
               dsimp only
               rw [e1, e2]
               exact own_base (HO.out ⟨w.heap.size + 1, 0, none⟩ _ (by simp) ⟨w.heap.size + 1, 1, none⟩ _ (by simp) ⟨w.heap.size + 1, 2, none⟩ _ (by simp)) (by omega)
             · exact ((HBB.out.setCell (by simp) _).setCell (by simp) _).setCell (by simp) _
end Go.Proofs.YtldbmdgpdolaaaaDoor
namespace Go.Proofs.YtldbmdgpdolaaaaDoor
open Go Go.RowKit

theorem built_base {w : World} {base base' tF tI : Nat} {v : Value} {p : List Fn} {us : List Value} (h : Built w base tF tI v p us) (hb : base' ≤ base) : Built w base' tF tI v p us :=
  ⟨h.len, own_base h.row hb, fun i hi => own_base (h.codes i hi) hb⟩
def bodyAt (l : List Fn) (i : Nat) : Fn := l.getD i ⟨0, 0, []⟩
def shapedN (l : List Fn) : Nat := min (max l.length 1) 4
def shapedPart (l : List Fn) (N k : Nat) : List Fn := (List.range k).map fun i => mkFn (bodyAt l i) N
theorem shapedPart_length (l : List Fn) (N k : Nat) : (shapedPart l N k).length = k := by simp [shapedPart]
theorem shapedPart_succ (l : List Fn) (N k : Nat) : shapedPart l N (k + 1) = shapedPart l N k ++ [mkFn (bodyAt l k) N] := by simp [shapedPart, List.range_succ]
def shapedP (l : List Fn) : List Fn := shapedPart l (shapedN l) (shapedN l)
end Go.Proofs.YtldbmdgpdolaaaaDoor
namespace Go.Proofs.YtldbmdgpdolaaaaDoor
open Go Go.RowKit

theorem mkIns_ok (x : Ins) (regs places funcs : Int) (h1 : 1 ≤ regs) (h3 : 1 ≤ places) (h5 : 1 ≤ funcs) : codeInstr (mkIns x regs places funcs) regs places funcs = 0 := by
  rw [instr_same]
  have bO := pickI_bounds x.op 19 (by decide)
  have bD := pickI_bounds x.dst regs (by omega)
  have bA := pickI_bounds x.a regs (by omega)
  have bB := pickI_bounds x.b regs (by omega)
  have bP := pickI_bounds x.imm places (by omega)
  have bF := pickI_bounds x.imm funcs (by omega)
  unfold mkIns
  generalize pickI x.op 19 = O at *
  generalize pickI x.dst regs = D at *
  generalize pickI x.a regs = A at *
  generalize pickI x.b regs = B at *
  generalize pickI x.imm places = P at *
  generalize pickI x.imm funcs = F at *
  obtain ⟨m, rfl⟩ : ∃ m : Nat, O = m := ⟨O.toNat, by omega⟩
  have hm : m = 0 ∨ m = 1 ∨ m = 2 ∨ m = 3 ∨ m = 4 ∨ m = 5 ∨ m = 6 ∨ m = 7 ∨ m = 8 ∨ m = 9 ∨ m = 10 ∨ m = 11 ∨ m = 12 ∨ m = 13 ∨ m = 14 ∨ m = 15 ∨ m = 16 ∨ m = 17 ∨ m = 18 := by omega
  rcases hm with rfl | rfl | rfl | rfl | rfl | rfl | rfl | rfl | rfl | rfl | rfl | rfl | rfl | rfl | rfl | rfl | rfl | rfl | rfl
  all_goals
    simp [refInstr, refOk1, refOk2, regMayB, setsB, readsAB, readsBB, inB]
    try omega
theorem mkFn_ok (b : Fn) (funcs : Int) (h5 : 1 ≤ funcs) : codeFunc (mkFn b funcs) funcs = 0 := by
  have bP := pickI_bounds b.params 3 (by decide)
  have bR := pickI_bounds b.regs 11 (by decide)
  have hlen : (mkFn b funcs).code.length = min b.code.length 22 + 2 := by simp [mkFn]
  unfold codeFunc
  rw [hlen]
  have e1 : (mkFn b funcs).regs = max (pickI b.params 3) 1 + pickI b.regs 11 := rfl
  have e2 : (mkFn b funcs).params = pickI b.params 3 := rfl
  have e3 : (mkFn b funcs).code = (b.code.take (min b.code.length 22)).map (fun x => mkIns x (max (pickI b.params 3) 1 + pickI b.regs 11) (min b.code.length 22 + 2 : Nat) funcs) ++ [⟨1, 0, 0, 0, 7⟩, ⟨19, 0, 0, 0, 0⟩] := rfl
  rw [e1, e2]
  rw [if_neg (by omega), if_neg (by omega), if_neg (by omega), if_neg (by omega), if_neg (by omega), if_neg (by omega), if_neg (by omega)]
  have all : ∀ y ∈ (mkFn b funcs).code, codeInstr y (max (pickI b.params 3) 1 + pickI b.regs 11) (min b.code.length 22 + 2 : Nat) funcs = 0 := by
    rw [e3]
    intro y hy
    rcases List.mem_append.1 hy with hy | hy
    · obtain ⟨x, _, rfl⟩ := List.mem_map.1 hy
      exact mkIns_ok x _ _ _ (by omega) (by omega) h5
    · rw [instr_same]
      simp at hy
      rcases hy with rfl | rfl
      · simp [refInstr, refOk1, refOk2, regMayB, setsB, readsAB, readsBB, inB]; omega
      · simp [refInstr, refOk1, refOk2, regMayB, setsB, readsAB, readsBB, inB]; omega
  generalize (mkFn b funcs).code = c at all
  induction c with
  | nil => rfl
  | cons y r ih =>
    unfold firstErr
    rw [if_pos (all y (by simp))]
    exact ih (fun z hz => all z (by simp [hz]))
theorem shaped_ok (l : List Fn) : codeProg (shapedP l) = 0 := by
  have hl : (shapedP l).length = shapedN l := by simp [shapedP, shapedPart]
  have h1 : 1 ≤ shapedN l := by unfold shapedN; omega
  have h4 : shapedN l ≤ 4 := by unfold shapedN; omega
  unfold codeProg
  rw [hl, if_neg (by omega), if_neg (by omega)]
  have all : ∀ f ∈ shapedP l, codeFunc f (shapedN l) = 0 := by
    intro f hf
    obtain ⟨i, _, rfl⟩ := List.mem_map.1 hf
    exact mkFn_ok _ _ (by omega)
  generalize shapedP l = c at all
  clear hl
  induction c with
  | nil => rfl
  | cons y r ih =>
    unfold firstErr
    rw [if_pos (all y (by simp))]
    exact ih (fun z hz => all z (by simp [hz]))
end Go.Proofs.YtldbmdgpdolaaaaDoor
namespace Go.Proofs.YtldbmdgpdolaaaaDoor
open Go Go.RowKit

theorem mkAll_code (b : Fn) (N : Int) : ∃ (K n : Nat) (R : Int) (xs : List Ins), (mkAll b N).params = pickI b.params 3 ∧ (mkAll b N).regs = R ∧ R = max (pickI b.params 3) 1 + pickI b.regs 11 ∧ (K : Int) = R - pickI b.params 3 ∧ n = min b.code.length 22 ∧ xs.length = n ∧
    (mkAll b N).code = preL (pickI b.params 3) K ++ xs.map (fun x => mkIns x R (K + n + 2 : Nat) N) ++ [⟨1, 0, 0, 0, 7⟩, ⟨19, 0, 0, 0, 0⟩] ∧ K ≤ 12 ∧ 1 ≤ R ∧ R ≤ 12 := by
  have bP := pickI_bounds b.params 3 (by decide)
  have bR := pickI_bounds b.regs 11 (by decide)
  refine ⟨(max (pickI b.params 3) 1 + pickI b.regs 11 - pickI b.params 3).toNat, min b.code.length 22, max (pickI b.params 3) 1 + pickI b.regs 11, b.code.take (min b.code.length 22), rfl, rfl, rfl, by omega, rfl, by simp, ?_, by omega, by omega, by omega⟩
  unfold mkAll
  dsimp only
  rw [List.append_assoc]
  rfl
theorem firstErr_all {α : Type} {g : α → Int} : ∀ {l : List α}, (∀ x ∈ l, g x = 0) → firstErr g l = 0
  | [], _ => rfl
  | y :: r, h => by
    unfold firstErr
    rw [if_pos (h y (by simp))]
    exact firstErr_all fun z hz => h z (by simp [hz])
theorem mkAll_ok (b : Fn) (funcs : Int) (h5 : 1 ≤ funcs) : codeFunc (mkAll b funcs) funcs = 0 := by
  have bP := pickI_bounds b.params 3 (by decide)
  have bR := pickI_bounds b.regs 11 (by decide)
  obtain ⟨K, n, R, xs, e1, e2, e3, e4, e5, e6, e7, _, r1, r2⟩ := mkAll_code b funcs
  have hlen : (mkAll b funcs).code.length = K + n + 2 := by rw [e7]; simp [preL_length, e6]; omega
  unfold codeFunc
  rw [hlen, e1, e2]
  rw [if_neg (by omega), if_neg (by omega), if_neg (by omega), if_neg (by omega), if_neg (by omega), if_neg (by omega), if_neg (by omega)]
  refine firstErr_all ?_
  rw [e7]
  intro y hy
  rw [instr_same]
  rcases List.mem_append.1 hy with hy | hy
  · rcases List.mem_append.1 hy with hy | hy
    · unfold preL at hy
      obtain ⟨i, hi, rfl⟩ := List.mem_map.1 hy
      have hi' : i < K := by simpa using hi
      simp [refInstr, refOk1, refOk2, regMayB, setsB, readsAB, readsBB, inB]
      omega
    · obtain ⟨x, _, rfl⟩ := List.mem_map.1 hy
      have := mkIns_ok x R ((K + n + 2 : Nat) : Int) funcs (by omega) (by omega) h5
      rw [instr_same] at this
      exact this
  · simp at hy
    rcases hy with rfl | rfl
    · simp [refInstr, refOk1, refOk2, regMayB, setsB, readsAB, readsBB, inB]; omega
    · simp [refInstr, refOk1, refOk2, regMayB, setsB, readsAB, readsBB, inB]; omega
def fullPart (l : List Fn) (N k : Nat) : List Fn := (List.range k).map fun i => mkAll (bodyAt l i) N
theorem fullPart_length (l : List Fn) (N k : Nat) : (fullPart l N k).length = k := by simp [fullPart]
theorem fullPart_succ (l : List Fn) (N k : Nat) : fullPart l N (k + 1) = fullPart l N k ++ [mkAll (bodyAt l k) N] := by simp [fullPart, List.range_succ]
def fullP (l : List Fn) : List Fn := fullPart l (shapedN l) (shapedN l)
theorem full_ok (l : List Fn) : codeProg (fullP l) = 0 := by
  have hl : (fullP l).length = shapedN l := by simp [fullP, fullPart]
  have h1 : 1 ≤ shapedN l := by unfold shapedN; omega
  have h4 : shapedN l ≤ 4 := by unfold shapedN; omega
  unfold codeProg
  rw [hl, if_neg (by omega), if_neg (by omega)]
  refine firstErr_all fun f hf => ?_
  obtain ⟨i, _, rfl⟩ := List.mem_map.1 hf
  exact mkAll_ok _ _ (by omega)
theorem setMask_set (p : Int) (i r : Nat) (_hp : 0 ≤ p) : (setMask ⟨1, p + i, 0, 0, p + i⟩).testBit r = decide ((p + i).toNat = r) := by
  simp [setMask, setsB, Nat.testBit_two_pow]
theorem way_full {f : Fn} {p R : Int} {K : Nat} {rest : List Ins} (hp0 : 0 ≤ p) (hp : f.params = p) (hK : (K : Int) = R - p) (hc : f.code = preL p K ++ rest) {r q : Nat} (hr : (r : Int) < R) (hw : Way f r q) : (q : Int) ≤ r - p := by
  induction hw with
  | start h => rw [hp] at h; simp; omega
  | @step pc t hpc hw hset ht ih =>
    have hpk : pc < K := by omega
    have hx : insD f pc = ⟨1, p + pc, 0, 0, p + pc⟩ := by
      rw [insD_eq hpc]
      simp [hc, preL, List.getElem_append_left, hpk]
    rw [hx] at hset ht
    rw [setMask_set p pc r hp0] at hset
    have hne : (p + pc).toNat ≠ r := by simpa using hset
    have : t = pc + 1 := by simpa [behind] using ht
    subst this
    omega
theorem way_end {f : Fn} (hf : FnOk f) (hlast : insD f (f.code.length - 1) = ⟨19, 0, 0, 0, 0⟩) (himm : ∀ pc, pc < f.code.length → (insD f pc).op = 15 ∨ (insD f pc).op = 16 → (insD f pc).imm.toNat < f.code.length) {r : Nat} : ¬ Way f r f.code.length := by
  intro hw
  have h1 := hf.len1
  generalize hq : f.code.length = q at hw
  cases hw with
  | start h => omega
  | @step pc _ hpc hw hset ht =>
    have hb : q = pc + 1 → False := fun e => by
      have : pc = f.code.length - 1 := by omega
      subst this
      rw [hlast] at ht
      simp [behind] at ht
    unfold behind at ht
    split at ht
    · rename_i h15
      have := himm pc hpc (Or.inl h15)
      simp at ht; omega
    · split at ht
      · rename_i h16
        have := himm pc hpc (Or.inr h16)
        simp at ht
        rcases ht with h | h
        · exact hb h
        · omega
      · split at ht
        · simp at ht
        · simp at ht; exact hb ht
theorem imm_lt {P : List Fn} (h : codeProg P = 0) {f : Fn} (hf : f ∈ P) (pc : Nat) (hpc : pc < f.code.length) (ho : (insD f pc).op = 15 ∨ (insD f pc).op = 16) : (insD f pc).imm.toNat < f.code.length := by
  obtain ⟨h1, h4, hall⟩ := codeProg_zero h
  obtain ⟨_, _, _, _, _, _, _, hi⟩ := codeFunc_zero (hall f hf)
  rw [insD_eq hpc] at ho ⊢
  have hz := hi _ (List.getElem_mem hpc)
  rw [instr_same] at hz
  unfold refInstr at hz
  by_cases k1 : inB f.code[pc].op 1 19 = false
  · rw [if_pos k1] at hz; cases hz
  rw [if_neg k1] at hz
  by_cases k2 : refOk1 f.code[pc] f.regs = false
  · rw [if_pos k2] at hz; cases hz
  rw [if_neg k2] at hz
  by_cases k3 : refOk2 f.code[pc] f.code.length P.length = false
  · rw [if_pos k3] at hz; cases hz
  have k3 : refOk2 f.code[pc] f.code.length P.length = true := by simpa using k3
  have : 0 ≤ f.code[pc].imm ∧ f.code[pc].imm ≤ (f.code.length : Int) - 1 := by simpa [refOk2, ho, inB] using k3
  omega
theorem reads_regs {P : List Fn} (h : codeProg P = 0) {f : Fn} (hf : f ∈ P) {x : Ins} (hx : x ∈ f.code) : ∀ r ∈ readsL P x, 0 ≤ r ∧ r < f.regs := by
  obtain ⟨h1, h4, hall⟩ := codeProg_zero h
  obtain ⟨_, _, _, _, _, _, _, hi⟩ := codeFunc_zero (hall f hf)
  have hz := hi x hx
  rw [instr_same] at hz
  unfold refInstr at hz
  by_cases k1 : inB x.op 1 19 = false
  · rw [if_pos k1] at hz; cases hz
  rw [if_neg k1] at hz
  by_cases k2 : refOk1 x f.regs = false
  · rw [if_pos k2] at hz; cases hz
  have k2 : refOk1 x f.regs = true := by simpa using k2
  simp only [refOk1, Bool.and_eq_true] at k2
  obtain ⟨⟨_, m2⟩, m3⟩ := k2
  have isA : rdA P x = true → readsAB x.op = true := fun h => by
    unfold rdA at h
    split at h
    · rename_i e; rw [e]; decide
    · exact h
  have isB : rdB P x = true → readsBB x.op = true := fun h => by
    unfold rdB at h
    split at h
    · rename_i e; rw [e]; decide
    · exact h
  intro r hr
  unfold readsL at hr
  rcases List.mem_append.1 hr with hr | hr
  · split at hr
    · rename_i ha
      simp at hr
      subst hr
      rw [isA ha] at m2
      have : 0 ≤ x.a ∧ x.a ≤ f.regs - 1 := by simpa [regMayB, inB] using m2
      omega
    · simp at hr
  · split at hr
    · rename_i ha
      simp at hr
      subst hr
      rw [isB ha] at m3
      have : 0 ≤ x.b ∧ x.b ≤ f.regs - 1 := by simpa [regMayB, inB] using m3
      omega
    · simp at hr
theorem prove_zero {P : List Fn} (h : codeProg P = 0) {f : Fn} (hf : f ∈ P) {L : List Int} (hL : SureSpec f L) (hr : ∀ pc, pc < f.code.length → ∀ r ∈ readsL P (insD f pc), ¬ Way f r.toNat pc) (he : ¬ Way f 63 f.code.length) : proveE P f L = 0 := by
  have hfo := (fnOk_of h hf).1
  rw [prove_good, if_pos]
  · rcases hL.2 f.code.length (by omega) with ⟨_, e⟩ | ⟨hw, _⟩
    · exact e
    · exact absurd hw he
  · intro k hk
    rcases hL.2 k (by omega) with ⟨_, e⟩ | ⟨_, m, hm, e, hb⟩
    · rw [e]; rfl
    · rw [e]
      unfold badB
      have hd : decide (0 ≤ (m : Int)) = true := by simp
      rw [hd, Bool.true_and, List.any_eq_false]
      intro r hr2
      have hrr := reads_regs h hf (by rw [insD_eq hk] at hr2; exact List.getElem_mem hk) r (by rw [insD_eq hk] at hr2; exact hr2)
      have hregs : f.regs ≤ 12 := (codeFunc_zero ((codeProg_zero h).2.2 f hf)).2.1
      rw [hasB_bit]
      have := (hb r.toNat (by omega)).2 (hr k hk r hr2)
      simp [this]
theorem proves_full (l : List Fn) {f : Fn} (hf : f ∈ fullP l) {L : List Int} (hL : SureSpec f L) : proveE (fullP l) f L = 0 := by
  have hok := full_ok l
  have hfo := (fnOk_of hok hf).1
  refine prove_zero hok hf hL ?_ ?_
  · intro pc hpc r hr hw
    have hrr := reads_regs hok hf (by rw [insD_eq hpc] at hr; exact List.getElem_mem hpc) r (by rw [insD_eq hpc] at hr; exact hr)
    obtain ⟨i, _, rfl⟩ := List.mem_map.1 hf
    obtain ⟨K, n, R, xs, e1, e2, e3, e4, e5, e6, e7, _, r1, r2⟩ := mkAll_code (bodyAt l i) (shapedN l)
    have bP := pickI_bounds (bodyAt l i).params 3 (by decide)
    have e7' : (mkAll (bodyAt l i) (shapedN l)).code = preL (pickI (bodyAt l i).params 3) K ++ (xs.map (fun x => mkIns x R (K + n + 2 : Nat) (shapedN l)) ++ [⟨1, 0, 0, 0, 7⟩, ⟨19, 0, 0, 0, 0⟩]) := by rw [e7, List.append_assoc]
    rw [e2] at hrr
    have hq := way_full (R := R) bP.1 e1 e4 e7' (r := r.toNat) (by omega) hw
    have hpk : pc < K := by omega
    have hx : insD (mkAll (bodyAt l i) (shapedN l)) pc = ⟨1, pickI (bodyAt l i).params 3 + pc, 0, 0, pickI (bodyAt l i).params 3 + pc⟩ := by
      rw [insD_eq hpc]
      simp [e7', preL, List.getElem_append_left, hpk]
    rw [hx] at hr
    simp [readsL, rdA, rdB, readsAB, readsBB] at hr
  · refine way_end hfo ?_ (imm_lt hok hf)
    obtain ⟨i, _, rfl⟩ := List.mem_map.1 hf
    obtain ⟨K, n, R, xs, e1, e2, e3, e4, e5, e6, e7, _, r1, r2⟩ := mkAll_code (bodyAt l i) (shapedN l)
    have hl := hfo.len1
    rw [insD_eq (by omega)]
    simp [e7]
def ProgIs (l : List Fn) (P : List Fn) : Prop := (ProofAns (shapedP l) 0 ∧ P = shapedP l) ∨ (¬ ProofAns (shapedP l) 0 ∧ P = fullP l)
theorem progIs_code {l P : List Fn} (h : ProgIs l P) : codeProg P = 0 := by
  rcases h with ⟨_, rfl⟩ | ⟨_, rfl⟩
  · exact shaped_ok l
  · exact full_ok l
end Go.Proofs.YtldbmdgpdolaaaaDoor
namespace Go.Proofs.YtldbmdgpdolaaaaDoor
open Go Go.RowKit

def RowsApart (a b : Value) : Prop := a.ownBlock = none ∨ b.ownBlock = none ∨ a.ownBlock ≠ b.ownBlock
theorem built_pair {W w3 : World} {base tF tI tP Oa Ob g cap m : Nat} {va vb u u' : Value} {Pa Pb : List Fn} {ua ub : List Value} {f : Fn} {ys : List Value} {o : Obj} (ht : tI ≠ tF) (hab : RowsApart va vb) (hOO : Oa ≠ Ob) (hOa : Oa < base) (hOb : Ob < base)
    (hba : Built W base tF tI va Pa ua) (hbb : Built W base tF tI vb Pb ub) (ha : W.heap[Oa]? = some (.cells #[va] tP (0, 0))) (hb : W.heap[Ob]? = some (.cells #[vb] tP (0, 0)))
    (hu : W.ownsRow base tI 5 u f.code.length (codeCells f.code)) (hu' : W.ownsRow base tI 5 u' m ys) (hB : base ≤ W.heap.size)
    (hg : (W.alloc o).grownBy w3 va.ownBlock) (hown3 : w3.ownsRow base tF 3 (.slice (some ⟨g, 0, none⟩) (Pa.length + 1) cap) (Pa.length + 1) (fnsCells Pa ua ++ fnCells f u)) (hlie : va.ownBlock = some g ∨ g = (W.alloc o).heap.size) :
    w3.heap[Oa]? = some (.cells #[va] tP (0, 0)) ∧ (w3.setCell ⟨Oa, 0, none⟩ (.slice (some ⟨g, 0, none⟩) (Pa.length + 1) cap)).heap[Oa]? = some (.cells #[.slice (some ⟨g, 0, none⟩) (Pa.length + 1) cap] tP (0, 0)) ∧
      (w3.setCell ⟨Oa, 0, none⟩ (.slice (some ⟨g, 0, none⟩) (Pa.length + 1) cap)).heap[Ob]? = some (.cells #[vb] tP (0, 0)) ∧
      Built (w3.setCell ⟨Oa, 0, none⟩ (.slice (some ⟨g, 0, none⟩) (Pa.length + 1) cap)) base tF tI (.slice (some ⟨g, 0, none⟩) (Pa.length + 1) cap) (Pa ++ [f]) (ua ++ [u]) ∧
      Built (w3.setCell ⟨Oa, 0, none⟩ (.slice (some ⟨g, 0, none⟩) (Pa.length + 1) cap)) base tF tI vb Pb ub ∧ RowsApart (.slice (some ⟨g, 0, none⟩) (Pa.length + 1) cap) vb ∧
      (w3.setCell ⟨Oa, 0, none⟩ (.slice (some ⟨g, 0, none⟩) (Pa.length + 1) cap)).ownsRow base tI 5 u' m ys ∧
      ∀ B' W0, B' ≤ Oa → Below B' W0 W → Below B' W0 (w3.setCell ⟨Oa, 0, none⟩ (.slice (some ⟨g, 0, none⟩) (Pa.length + 1) cap)) := by
  have hrow : ∀ k, va.ownBlock = some k → base ≤ k := fun k hk => (hba.row.lt k hk).1
  have old : ∀ j, j < base → (W.alloc o).heap[j]? = W.heap[j]? := fun j hj => heap_alloc_old _ _ (by omega)
  have keep : ∀ j ob, j < base → W.heap[j]? = some ob → w3.heap[j]? = some ob := fun j ob hj h => (hg.block j (by simp; omega) (fun e => by have := hrow j e.symm; omega)).trans ((old j hj).trans h)
  have ha3 := keep _ _ hOa ha
  have hb3 := keep _ _ hOb hb
  have hbaA := hba.alloc o
  have hbbA := hbb.alloc o
  have huA : (W.alloc o).ownsRow base tI 5 u f.code.length (codeCells f.code) := hu.alloc o
  have huA' : (W.alloc o).ownsRow base tI 5 u' m ys := hu'.alloc o
  have hsym : vb.ownBlock = none ∨ vb.ownBlock ≠ va.ownBlock := by
    rcases hab with h | h | h
    · cases hv : vb.ownBlock with
      | none => exact Or.inl rfl
      | some k => right; rw [h]; simp
    · exact Or.inl h
    · exact Or.inr (Ne.symm h)
  have hbb3 : Built w3 base tF tI vb Pb ub := ⟨hbb.len, hbbA.row.kept hg hsym, fun i hi => (hbbA.codes i hi).kept hg (own_apart (hbbA.codes i hi) hbaA.row ht)⟩
  refine ⟨ha3, one_setCell ha3, ?_, (hbaA.snoc ht huA hown3 hg).setCell hOa _, hbb3.setCell hOa _, ?_, ownsRow_setCell_below (huA'.kept hg (own_apart huA' hbaA.row ht)) hOa _, fun B' W0 hB' h => ?_⟩
  · rw [Below.heap_setCell _ _ _ _ (by simpa using Ne.symm hOO)]; exact hb3
  · rcases hlie with h | h
    · rcases hsym with h2 | h2
      · exact Or.inr (Or.inl h2)
      · right; right
        simp only [Value.ownBlock]
        rw [← h]
        exact Ne.symm h2
    · right
      cases hv : vb.ownBlock with
      | none => exact Or.inl rfl
      | some k =>
        right
        have := (hbb.row.lt k hv).2
        simp only [Value.ownBlock]
        intro e
        have : g = k := by simpa using e
        simp at h
        omega
  · exact ((h.alloc (by omega) _).grown hg (by simp; omega) (fun k hk => by have := hrow k hk; omega)).setCell hB' _
theorem apart_symm {a b : Value} (h : RowsApart a b) : RowsApart b a := by
  rcases h with h | h | h
  · exact Or.inr (Or.inl h)
  · exact Or.inl h
  · exact Or.inr (Or.inr (Ne.symm h))
theorem own_len3 {w : World} {base t g cap k m : Nat} {P : List Fn} {xs : List Value} {F : Fn} {ao : Option Addr} {c : Nat} (hP : P.length = k) (hm : F.code.length = m) (h : w.ownsRow base t 3 (.slice (some ⟨g, 0, none⟩) (k + 1) cap) (k + 1) (xs ++ fnCells F (.slice ao m c))) :
    w.ownsRow base t 3 (.slice (some ⟨g, 0, none⟩) (P.length + 1) cap) (P.length + 1) (xs ++ fnCells F (.slice ao F.code.length c)) := by
  subst hP
  subst hm
  exact h
theorem y_kept {wr w2 w3 : World} {base tF tI : Nat} {va : Value} {P : List Fn} {us : List Value} {a b c : Value} {t : Nat} {o : Obj} (hbt : Built wr base tF tI va P us) (hz : wr.heap.size < w2.heap.size) (hg : ((w2.alloc (.cells #[a, b, c] t)).alloc o).grownBy w3 va.ownBlock) (O : Nat) (hO : O < w2.heap.size) (u : Value) :
    (w3.setCell ⟨O, 0, none⟩ u).cell? ⟨w2.heap.size, 0, none⟩ = some a ∧ (w3.setCell ⟨O, 0, none⟩ u).cell? ⟨w2.heap.size, 1, none⟩ = some b ∧ (w3.setCell ⟨O, 0, none⟩ u).cell? ⟨w2.heap.size, 2, none⟩ = some c := by
  have h1 : ((w2.alloc (.cells #[a, b, c] t)).alloc o).heap[w2.heap.size]? = some (.cells #[a, b, c] t) := (heap_alloc_old _ _ (by simp)).trans (heap_alloc_new w2 _)
  have h3 : w3.heap[w2.heap.size]? = some (.cells #[a, b, c] t) := (hg.block _ (by simp; omega) (fun e => by have := (hbt.row.lt _ e.symm).2; omega)).trans h1
  have h4 : (w3.setCell ⟨O, 0, none⟩ u).heap[w2.heap.size]? = some (.cells #[a, b, c] t) := by
    rw [Below.heap_setCell _ _ _ _ (by simp; omega)]; exact h3
  exact ⟨by simp [World.cell?, h4], by simp [World.cell?, h4], by simp [World.cell?, h4]⟩
set_option maxRecDepth 100000 in
set_option maxHeartbeats 2000000 in
theorem program_raw (l : List Fn) (v : Value) (w : World) (ht : TabOk w) (hc : CallOk w) (hv : ProgVal w v l) (hwf : ∀ f ∈ l, f.wf) :
    Calls Tryd.prog 5 #[v] w fun e w' => ∃ v' P us, e = .returned (.agg #[v']) ∧ ProgIs l P ∧ Built w' w.heap.size 44 42 v' P us ∧ Below w.heap.size w w' := by
  have HPV : Hid (∀ W, Below w.heap.size w W → TabOk W ∧ CallOk W) := fun W hb => ⟨ht.below hb, hc.below hb⟩
  clear ht hc
  obtain ⟨ao, b, off, n, cap, rfl, ⟨hlen, haddr, hat⟩, hcap, hmax⟩ := hv
  obtain ⟨iF, hiF, hzF0, hzF1, hzF2⟩ := info_parts infoF
  unfold maxLen at hmax
  obtain ⟨N, hN⟩ : ∃ N, N = shapedN l := ⟨_, rfl⟩
  have HN : Hid (N = shapedN l) := hN
  have hN1 : 1 ≤ N := by rw [hN]; unfold shapedN; omega
  have hN4 : N ≤ 4 := by rw [hN]; unfold shapedN; omega
  have HNn : Hid (N = min (max n 1) 4) := by show _ = _; rw [hN, shapedN, hlen]
  clear hN
  go_enter Tryd.func5, Tryd.ntmps5
  go_upto_region 1 with fail
  go_cut [3] (fun s3 wx => s3 = .int .i64 N ∧ wx = w.alloc (.cells #[.slice none 0 0] 25))
  case first =>
    rcases (show n = 0 ∨ (1 ≤ n ∧ n ≤ 4) ∨ 4 < n by omega) with h | h | h
    · subst h
      have HE : Hid (N = 1) := HNn.out.trans (by omega)
      go_wp2_with fail
      go_meet
      exact ⟨by rw [HE.out]; rfl, rfl⟩
    · have HE : Hid (N = n) := HNn.out.trans (by omega)
      go_wp2_with fail
      go_meet
      exact ⟨by rw [HE.out], rfl⟩
    · have HE : Hid (N = 4) := HNn.out.trans (by omega)
      go_wp2_with fail
      go_meet
      exact ⟨by rw [HE.out]; rfl, rfl⟩
  case rest =>
    obtain ⟨rfl, rfl⟩ := hcut
    go_wp2
    have HE0 : Hid ((((w.alloc (.cells #[.slice none 0 0] 25)).alloc (.cells #[.slice none 0 0] 25)).alloc (.cells #[.slice none 0 0] 25)).heap[w.heap.size + 1]? = some (.cells #[.slice none 0 0] 25) ∧ (((w.alloc (.cells #[.slice none 0 0] 25)).alloc (.cells #[.slice none 0 0] 25)).alloc (.cells #[.slice none 0 0] 25)).heap[w.heap.size + 1 + 1]? = some (.cells #[.slice none 0 0] 25) ∧ (((w.alloc (.cells #[.slice none 0 0] 25)).alloc (.cells #[.slice none 0 0] 25)).alloc (.cells #[.slice none 0 0] 25)).heap[w.heap.size]? = some (.cells #[.slice none 0 0] 25)) := by
      have h1 := heap_alloc_new (w.alloc (.cells #[.slice none 0 0] 25)) (.cells #[.slice none 0 0] 25)
      have h2 := heap_alloc_new ((w.alloc (.cells #[.slice none 0 0] 25)).alloc (.cells #[.slice none 0 0] 25)) (.cells #[.slice none 0 0] 25)
      simp only [World.size_alloc] at h1 h2
      exact ⟨(heap_alloc_old _ _ (by simp)).trans h1, h2, (heap_alloc_old _ _ (by simp; omega)).trans ((heap_alloc_old _ _ (by simp)).trans (heap_alloc_new w _))⟩
    go_loopw [6] (fun i wr => ∃ k : Nat, k ≤ N ∧ i = .int .i64 k ∧ Below (w.heap.size + 1) (((w.alloc (.cells #[.slice none 0 0] 25)).alloc (.cells #[.slice none 0 0] 25)).alloc (.cells #[.slice none 0 0] 25)) wr ∧
        ∃ vb ub vf uf, wr.heap[w.heap.size + 1]? = some (.cells #[vb] 25 (0, 0)) ∧ wr.heap[w.heap.size + 1 + 1]? = some (.cells #[vf] 25 (0, 0)) ∧ Built wr (w.heap.size + 3) 44 42 vb (shapedPart l N k) ub ∧ Built wr (w.heap.size + 3) 44 42 vf (fullPart l N k) uf ∧ RowsApart vb vf) (fun i _ => N - (intOf i).toNat)
    case atStart => exact ⟨0, Nat.zero_le _, rfl, Below.refl _ _, .slice none 0 0, [], .slice none 0 0, [], HE0.out.1, HE0.out.2.1, built_nil _ _ _ _, built_nil _ _ _ _, Or.inl rfl⟩
    case round =>
      obtain ⟨k, hk, rfl, hb, vb, ub, vf, uf, hob, hof, hbtb, hbtf, hap⟩ := hrel
      have hbw' : Below w.heap.size w wr := ((((Below.refl _ _).alloc (Nat.le_refl _) _).alloc (by simp) _).alloc (by simp; omega) _).trans (hb.mono (by omega))
      have cob := cell_of_one hob
      have cof := cell_of_one hof
      have hz : w.heap.size + 1 + 1 < wr.heap.size := lt_of_block hof
      have HB : Hid (Below (w.heap.size + 1) (((w.alloc (.cells #[.slice none 0 0] 25)).alloc (.cells #[.slice none 0 0] 25)).alloc (.cells #[.slice none 0 0] 25)) wr) := hb
      have HOB : Hid (wr.heap[w.heap.size + 1]? = some (.cells #[vb] 25 (0, 0))) := hob
      have HOF : Hid (wr.heap[w.heap.size + 1 + 1]? = some (.cells #[vf] 25 (0, 0))) := hof
      have HBTB : Hid (Built wr (w.heap.size + 3) 44 42 vb (shapedPart l N k) ub) := hbtb
      have HBTF : Hid (Built wr (w.heap.size + 3) 44 42 vf (fullPart l N k) uf) := hbtf
      have HAP : Hid (RowsApart vb vf) := hap
      by_cases hlt : k < N
      · by_cases hkn : k < n
        · have hkx : k < l.length := by rw [hlen]; exact hkn
          obtain rfl := haddr (by omega)
          obtain ⟨uu, hfn⟩ := hat k hkx
          obtain ⟨d0, d1, d2, hcv⟩ := hfn.keeps (keeps_below hbw')
          have hbw := hwf l[k] (List.getElem_mem hkx)
          have HBD : Hid (l[k] = bodyAt l k) := by show _ = _; simp [bodyAt, List.getD, hkx]
          generalize l[k] = bd at d0 d1 d2 hcv hbw HBD
          have hcv' := hcv
          obtain ⟨ao0, b0, off0, n0, cap0, rfl, _⟩ := hcv'
          have t0 := cell_alloc d0
          have t1 := cell_alloc d1
          have t2 := cell_alloc d2
          have BC0 := way_box wr #[.int .i64 bd.params, .int .i64 bd.regs, .slice ao0 n0 cap0] 50 0 (.int .i64 bd.params) rfl
          have BC1 := way_box wr #[.int .i64 bd.params, .int .i64 bd.regs, .slice ao0 n0 cap0] 50 1 (.int .i64 bd.regs) rfl
          have BC2 := way_box wr #[.int .i64 bd.params, .int .i64 bd.regs, .slice ao0 n0 cap0] 50 2 (.slice ao0 n0 cap0) rfl
          clear hat haddr hwf hfn hb hob hof hbtb hbtf HE0 hap
          go_upto_region 11 with (go_at_call 11; refine (function_mk bd _ N _ (hcv.keeps (keeps_below ((Below.refl _ _).alloc (Nat.le_refl _) _))) hbw (by omega) (by omega)).mono ?_; rintro e w1 ⟨u1, rfl, hown1, hb1⟩; obtain ⟨ao1, cap1, rfl⟩ := own_shape hown1; have hz1 : wr.heap.size + 1 ≤ w1.heap.size := (by have := hb1.size; simp at this; omega); have kb := keeps_below hb1 _ _ BC0; have kb1 := keeps_below hb1 _ _ BC1; have kb2 := keeps_below hb1 _ _ BC2; have HB1 : Hid (Below wr.heap.size wr w1) := ((Below.refl _ wr).alloc (Nat.le_refl _) _).trans (hb1.mono (by simp)))
          generalize hF1 : mkFn bd N = F1 at hown1 ⊢
          have HF1 : Hid (mkFn bd N = F1) := hF1
          generalize hm1 : F1.code.length = m1 at hown1 ⊢
          have HM1 : Hid (F1.code.length = m1) := hm1
          have hFA := fun W cv (hW : CodeVal W cv bd.code) => function_all bd cv N W hW hbw (by omega) (by omega)
          generalize hF2 : mkAll bd N = F2 at hFA
          have HF2 : Hid (mkAll bd N = F2) := hF2
          generalize hm2 : F2.code.length = m2 at hFA
          have HM2 : Hid (F2.code.length = m2) := hm2
          have hX : Below w1.heap.size w1 (w1.alloc (.cells #[.int .i64 F1.params, .int .i64 F1.regs, .slice ao1 m1 cap1] 44)) := (Below.refl _ _).alloc (Nat.le_refl _) _
          have HCV2 : Hid (CodeVal (w1.alloc (.cells #[.int .i64 F1.params, .int .i64 F1.regs, .slice ao1 m1 cap1] 44)) _ bd.code) := (((hcv.keeps (keeps_below HB1.out)))).keeps (keeps_below hX)
          have HBX : Hid (Below wr.heap.size wr (w1.alloc (.cells #[.int .i64 F1.params, .int .i64 F1.regs, .slice ao1 m1 cap1] 44))) := HB1.out.alloc (by omega) _
          have HU1 : Hid ((w1.alloc (.cells #[.int .i64 F1.params, .int .i64 F1.regs, .slice ao1 m1 cap1] 44)).ownsRow (w.heap.size + 3) 42 5 (.slice ao1 m1 cap1) m1 (codeCells F1.code)) := (own_base hown1 (by simp; omega)).alloc _
          have lb := cell_alloc kb
          have lb1 := cell_alloc kb1
          have lb2 := cell_alloc kb2
          have HMA1 := F1.code.length
          clear hF1 hm1 hF2 hm2 hown1 hb1 BC0 BC1 BC2 HMA1
          go_wp2_with (first
            | (go_at_call 11; refine (hFA _ _ HCV2.out).mono ?_; rintro e w2 ⟨u2, rfl, hown2, hb2⟩; obtain ⟨ao2, cap2, rfl⟩ := own_shape hown2; have HB2 : Hid (Below wr.heap.size wr w2) := HBX.out.trans (hb2.mono (by simp; omega)); have hz2 : w1.heap.size < w2.heap.size := (by have := hb2.size; simp at this; omega); have hzw : wr.heap.size < w2.heap.size := (by omega); have x0 := keeps_below hb2 _ _ (way_box w1 _ _ 0 (.int .i64 F1.params) rfl); have x1 := keeps_below hb2 _ _ (way_box w1 _ _ 1 (.int .i64 F1.regs) rfl); have x2 := keeps_below hb2 _ _ (way_box w1 _ _ 2 (.slice ao1 m1 cap1) rfl); have xx0 := cell_alloc x0; have xx1 := cell_alloc x1; have xx2 := cell_alloc x2; have cb2 := cell_alloc (keeps_below HB2.out _ _ cob); have HU1b : Hid ((w2.alloc (.cells #[.int .i64 F2.params, .int .i64 F2.regs, .slice ao2 m2 cap2] 44)).ownsRow (w.heap.size + 3) 42 5 (.slice ao1 F1.code.length cap1) F1.code.length (codeCells F1.code)) := (by have h := (ownsRow_below HU1.out hb2).alloc (.cells #[.int .i64 F2.params, .int .i64 F2.regs, .slice ao2 m2 cap2] 44); rw [← HM1.out] at h; exact h); have HU2b : Hid ((w2.alloc (.cells #[.int .i64 F2.params, .int .i64 F2.regs, .slice ao2 m2 cap2] 44)).ownsRow (w.heap.size + 3) 42 5 (.slice ao2 m2 cap2) m2 (codeCells F2.code)) := (own_base hown2 (by simp; omega)).alloc _; have HWB : Hid (Built (w2.alloc (.cells #[.int .i64 F2.params, .int .i64 F2.regs, .slice ao2 m2 cap2] 44)) (w.heap.size + 3) 44 42 vb (shapedPart l N k) ub) := (HBTB.out.below HB2.out).alloc _; have HWF : Hid (Built (w2.alloc (.cells #[.int .i64 F2.params, .int .i64 F2.regs, .slice ao2 m2 cap2] 44)) (w.heap.size + 3) 44 42 vf (fullPart l N k) uf) := (HBTF.out.below HB2.out).alloc _; have HOB2 : Hid ((w2.alloc (.cells #[.int .i64 F2.params, .int .i64 F2.regs, .slice ao2 m2 cap2] 44)).heap[w.heap.size + 1]? = some (.cells #[vb] 25 (0, 0))) := (heap_alloc_old _ _ (by omega)).trans ((HB2.out.block _ (by omega)).trans HOB.out); have HOF2 : Hid ((w2.alloc (.cells #[.int .i64 F2.params, .int .i64 F2.regs, .slice ao2 m2 cap2] 44)).heap[w.heap.size + 1 + 1]? = some (.cells #[vf] 25 (0, 0))) := (heap_alloc_old _ _ (by omega)).trans ((HB2.out.block _ (by omega)).trans HOF.out); clear hown2 hb2 hFA)
            | (at_builtin; refine wpList_append_lies _ rfl (.tmp 35) (.tmp 37) 23 rfl (w.heap.size + 3) 44 iF _ 3 40 Tryd.underlying23 hiF hzF0 hzF1 hzF2 rfl (by decide) vb k (fnsCells (shapedPart l N k) ub) rfl (by have h := (HWB.out.alloc (.cells #[.int .i64 F1.params, .int .i64 F1.regs, .slice ao1 m1 cap1] 44)).row; rw [shapedPart_length] at h; exact h) ⟨_, 0, none⟩ 1 1 (fnCells F1 (.slice ao1 m1 cap1)) rfl rfl (news_list _ _ _ _ (by simp)) (fnCells_one _ _ _ _) (by decide) (by unfold maxLen; omega) (by omega) (by simp; omega) _ rfl ?_; intro g3 cap3 w3 hown3 hg3 hlie3 hlt3; have hown3' := own_len3 (shapedPart_length l N k) HM1.out hown3; have Q := built_pair (f := F1) (m := m2) (by decide) HAP.out (by omega) (by omega) (by omega) HWB.out HWF.out HOB2.out HOF2.out HU1b.out HU2b.out (by simp; omega) hg3 hown3' hlie3; rw [shapedPart_length] at Q; have co3 := cell_of_one Q.1; have cf3 := free_of_one Q.1; have cq := cell_of_one Q.2.2.1; have HYY := y_kept HBTB.out hzw hg3 (w.heap.size + 1) (by omega) (.slice (some ⟨g3, 0, none⟩) (k + 1) cap3); have yc0 := HYY.1; have yc1 := HYY.2.1; have yc2 := HYY.2.2; have HQ1 : Hid ((w3.setCell ⟨w.heap.size + 1, 0, none⟩ (.slice (some ⟨g3, 0, none⟩) (k + 1) cap3)).heap[w.heap.size + 1]? = some (.cells #[.slice (some ⟨g3, 0, none⟩) (k + 1) cap3] 25 (0, 0))) := Q.2.1; have HQ2 : Hid ((w3.setCell ⟨w.heap.size + 1, 0, none⟩ (.slice (some ⟨g3, 0, none⟩) (k + 1) cap3)).heap[w.heap.size + 1 + 1]? = some (.cells #[vf] 25 (0, 0))) := Q.2.2.1; have HQ3 : Hid (Built (w3.setCell ⟨w.heap.size + 1, 0, none⟩ (.slice (some ⟨g3, 0, none⟩) (k + 1) cap3)) (w.heap.size + 3) 44 42 (.slice (some ⟨g3, 0, none⟩) (k + 1) cap3) (shapedPart l N k ++ [F1]) (ub ++ [.slice ao1 F1.code.length cap1])) := Q.2.2.2.1; have HQ4 : Hid (Built (w3.setCell ⟨w.heap.size + 1, 0, none⟩ (.slice (some ⟨g3, 0, none⟩) (k + 1) cap3)) (w.heap.size + 3) 44 42 vf (fullPart l N k) uf) := Q.2.2.2.2.1; have HQ5 : Hid (RowsApart vf (.slice (some ⟨g3, 0, none⟩) (k + 1) cap3)) := apart_symm Q.2.2.2.2.2.1; have HQ6 : Hid ((w3.setCell ⟨w.heap.size + 1, 0, none⟩ (.slice (some ⟨g3, 0, none⟩) (k + 1) cap3)).ownsRow (w.heap.size + 3) 42 5 (.slice ao2 m2 cap2) m2 (codeCells F2.code)) := Q.2.2.2.2.2.2.1; have HQ7 : Hid (Below (w.heap.size + 1) (((w.alloc (.cells #[.slice none 0 0] 25)).alloc (.cells #[.slice none 0 0] 25)).alloc (.cells #[.slice none 0 0] 25)) (w3.setCell ⟨w.heap.size + 1, 0, none⟩ (.slice (some ⟨g3, 0, none⟩) (k + 1) cap3))) := Q.2.2.2.2.2.2.2 _ _ (by omega) ((HB.out.trans (HB2.out.mono (by omega))).alloc (by omega) _); have hz3 : w2.heap.size < w3.heap.size := (by have := hg3.size; simp at this; omega); clear Q HYY hown3 hown3' hg3 hlie3)
            | (at_builtin; refine wpList_append_lies _ rfl (.tmp 41) (.tmp 43) 23 rfl (w.heap.size + 3) 44 iF _ 3 40 Tryd.underlying23 hiF hzF0 hzF1 hzF2 rfl (by decide) vf k (fnsCells (fullPart l N k) uf) rfl (by have h := (HQ4.out.alloc (.cells #[.int .i64 F2.params, .int .i64 F2.regs, .slice ao2 m2 cap2] 44)).row; rw [fullPart_length] at h; exact h) ⟨_, 0, none⟩ 1 1 (fnCells F2 (.slice ao2 m2 cap2)) rfl rfl (news_list _ _ _ _ (by simp)) (fnCells_one _ _ _ _) (by decide) (by unfold maxLen; omega) (by omega) (by simp; omega) _ rfl ?_; intro g4 cap4 w4 hown4 hg4 hlie4 hlt4; have hown4' := own_len3 (fullPart_length l N k) HM2.out hown4; have HQ6' := HQ6.out; rw [← HM2.out] at HQ6'; have Q4 := built_pair (f := F2) (by decide) HQ5.out (by omega) (by omega) (by omega) HQ4.out HQ3.out HQ2.out HQ1.out HQ6' HQ6' (by simp; omega) hg4 hown4' hlie4; rw [fullPart_length] at Q4; have co4 := cell_of_one Q4.1; have cf4 := free_of_one Q4.1))
          have HR := Q4.2
          have HR1 : Hid (Below (w.heap.size + 1) (((w.alloc (.cells #[.slice none 0 0] 25)).alloc (.cells #[.slice none 0 0] 25)).alloc (.cells #[.slice none 0 0] 25)) (w4.setCell ⟨w.heap.size + 1 + 1, 0, none⟩ (.slice (some ⟨g4, 0, none⟩) (k + 1) cap4))) := HR.2.2.2.2.2.2 _ _ (by omega) HQ7.out
          go_roundw
          case rel => exact ⟨k + 1, by omega, by go_num, HR1.out, _, _, _, _, HR.2.1, HR.1, by rw [shapedPart_succ, ← HBD.out, HF1.out]; exact HR.2.2.2.1, by rw [fullPart_succ, ← HBD.out, HF2.out]; exact HR.2.2.1, apart_symm HR.2.2.2.2.1⟩
          case measure => simp [intOf]; omega
        · have hcv : CodeVal wr (.slice none 0 0) [] := ⟨none, 0, 0, 0, 0, rfl, ⟨rfl, fun h => by omega, fun k h => by simp at h⟩, ⟨Nat.le_refl _, fun _ => rfl⟩, by simp [maxLen]⟩
          have hbw : (⟨0, 0, []⟩ : Fn).wf := ⟨by simp [I64], by simp [I64], by simp⟩
          have HBD : Hid ((⟨0, 0, []⟩ : Fn) = bodyAt l k) := by show _ = _; simp [bodyAt, List.getD, List.getElem?_eq_none (show l.length ≤ k by omega)]
          have BC0 := way_box wr #[.int .i64 0, .int .i64 0, .slice none 0 0] 50 0 (.int .i64 0) rfl
          have BC1 := way_box wr #[.int .i64 0, .int .i64 0, .slice none 0 0] 50 1 (.int .i64 0) rfl
          have BC2 := way_box wr #[.int .i64 0, .int .i64 0, .slice none 0 0] 50 2 (.slice none 0 0) rfl
          clear hat haddr hwf hb hob hof hbtb hbtf HE0 hap
          go_upto_region 11 with (go_at_call 11; refine (function_mk ⟨0, 0, []⟩ _ N _ (hcv.keeps (keeps_below ((Below.refl _ _).alloc (Nat.le_refl _) _))) hbw (by omega) (by omega)).mono ?_; rintro e w1 ⟨u1, rfl, hown1, hb1⟩; obtain ⟨ao1, cap1, rfl⟩ := own_shape hown1; have hz1 : wr.heap.size + 1 ≤ w1.heap.size := (by have := hb1.size; simp at this; omega); have kb := keeps_below hb1 _ _ BC0; have kb1 := keeps_below hb1 _ _ BC1; have kb2 := keeps_below hb1 _ _ BC2; have HB1 : Hid (Below wr.heap.size wr w1) := ((Below.refl _ wr).alloc (Nat.le_refl _) _).trans (hb1.mono (by simp)))
          generalize hF1 : mkFn ⟨0, 0, []⟩ N = F1 at hown1 ⊢
          have HF1 : Hid (mkFn ⟨0, 0, []⟩ N = F1) := hF1
          generalize hm1 : F1.code.length = m1 at hown1 ⊢
          have HM1 : Hid (F1.code.length = m1) := hm1
          have hFA := fun W cv (hW : CodeVal W cv ([] : List Ins)) => function_all ⟨0, 0, []⟩ cv N W hW hbw (by omega) (by omega)
          generalize hF2 : mkAll ⟨0, 0, []⟩ N = F2 at hFA
          have HF2 : Hid (mkAll ⟨0, 0, []⟩ N = F2) := hF2
          generalize hm2 : F2.code.length = m2 at hFA
          have HM2 : Hid (F2.code.length = m2) := hm2
          have hX : Below w1.heap.size w1 (w1.alloc (.cells #[.int .i64 F1.params, .int .i64 F1.regs, .slice ao1 m1 cap1] 44)) := (Below.refl _ _).alloc (Nat.le_refl _) _
          have HCV2 : Hid (CodeVal (w1.alloc (.cells #[.int .i64 F1.params, .int .i64 F1.regs, .slice ao1 m1 cap1] 44)) _ ([] : List Ins)) := (((hcv.keeps (keeps_below HB1.out)))).keeps (keeps_below hX)
          have HBX : Hid (Below wr.heap.size wr (w1.alloc (.cells #[.int .i64 F1.params, .int .i64 F1.regs, .slice ao1 m1 cap1] 44))) := HB1.out.alloc (by omega) _
          have HU1 : Hid ((w1.alloc (.cells #[.int .i64 F1.params, .int .i64 F1.regs, .slice ao1 m1 cap1] 44)).ownsRow (w.heap.size + 3) 42 5 (.slice ao1 m1 cap1) m1 (codeCells F1.code)) := (own_base hown1 (by simp; omega)).alloc _
          have lb := cell_alloc kb
          have lb1 := cell_alloc kb1
          have lb2 := cell_alloc kb2
          have HMA1 := F1.code.length
          clear hF1 hm1 hF2 hm2 hown1 hb1 BC0 BC1 BC2 HMA1
          go_wp2_with (first
            | (go_at_call 11; refine (hFA _ _ HCV2.out).mono ?_; rintro e w2 ⟨u2, rfl, hown2, hb2⟩; obtain ⟨ao2, cap2, rfl⟩ := own_shape hown2; have HB2 : Hid (Below wr.heap.size wr w2) := HBX.out.trans (hb2.mono (by simp; omega)); have hz2 : w1.heap.size < w2.heap.size := (by have := hb2.size; simp at this; omega); have hzw : wr.heap.size < w2.heap.size := (by omega); have x0 := keeps_below hb2 _ _ (way_box w1 _ _ 0 (.int .i64 F1.params) rfl); have x1 := keeps_below hb2 _ _ (way_box w1 _ _ 1 (.int .i64 F1.regs) rfl); have x2 := keeps_below hb2 _ _ (way_box w1 _ _ 2 (.slice ao1 m1 cap1) rfl); have xx0 := cell_alloc x0; have xx1 := cell_alloc x1; have xx2 := cell_alloc x2; have cb2 := cell_alloc (keeps_below HB2.out _ _ cob); have HU1b : Hid ((w2.alloc (.cells #[.int .i64 F2.params, .int .i64 F2.regs, .slice ao2 m2 cap2] 44)).ownsRow (w.heap.size + 3) 42 5 (.slice ao1 F1.code.length cap1) F1.code.length (codeCells F1.code)) := (by have h := (ownsRow_below HU1.out hb2).alloc (.cells #[.int .i64 F2.params, .int .i64 F2.regs, .slice ao2 m2 cap2] 44); rw [← HM1.out] at h; exact h); have HU2b : Hid ((w2.alloc (.cells #[.int .i64 F2.params, .int .i64 F2.regs, .slice ao2 m2 cap2] 44)).ownsRow (w.heap.size + 3) 42 5 (.slice ao2 m2 cap2) m2 (codeCells F2.code)) := (own_base hown2 (by simp; omega)).alloc _; have HWB : Hid (Built (w2.alloc (.cells #[.int .i64 F2.params, .int .i64 F2.regs, .slice ao2 m2 cap2] 44)) (w.heap.size + 3) 44 42 vb (shapedPart l N k) ub) := (HBTB.out.below HB2.out).alloc _; have HWF : Hid (Built (w2.alloc (.cells #[.int .i64 F2.params, .int .i64 F2.regs, .slice ao2 m2 cap2] 44)) (w.heap.size + 3) 44 42 vf (fullPart l N k) uf) := (HBTF.out.below HB2.out).alloc _; have HOB2 : Hid ((w2.alloc (.cells #[.int .i64 F2.params, .int .i64 F2.regs, .slice ao2 m2 cap2] 44)).heap[w.heap.size + 1]? = some (.cells #[vb] 25 (0, 0))) := (heap_alloc_old _ _ (by omega)).trans ((HB2.out.block _ (by omega)).trans HOB.out); have HOF2 : Hid ((w2.alloc (.cells #[.int .i64 F2.params, .int .i64 F2.regs, .slice ao2 m2 cap2] 44)).heap[w.heap.size + 1 + 1]? = some (.cells #[vf] 25 (0, 0))) := (heap_alloc_old _ _ (by omega)).trans ((HB2.out.block _ (by omega)).trans HOF.out); clear hown2 hb2 hFA)
            | (at_builtin; refine wpList_append_lies _ rfl (.tmp 35) (.tmp 37) 23 rfl (w.heap.size + 3) 44 iF _ 3 40 Tryd.underlying23 hiF hzF0 hzF1 hzF2 rfl (by decide) vb k (fnsCells (shapedPart l N k) ub) rfl (by have h := (HWB.out.alloc (.cells #[.int .i64 F1.params, .int .i64 F1.regs, .slice ao1 m1 cap1] 44)).row; rw [shapedPart_length] at h; exact h) ⟨_, 0, none⟩ 1 1 (fnCells F1 (.slice ao1 m1 cap1)) rfl rfl (news_list _ _ _ _ (by simp)) (fnCells_one _ _ _ _) (by decide) (by unfold maxLen; omega) (by omega) (by simp; omega) _ rfl ?_; intro g3 cap3 w3 hown3 hg3 hlie3 hlt3; have hown3' := own_len3 (shapedPart_length l N k) HM1.out hown3; have Q := built_pair (f := F1) (m := m2) (by decide) HAP.out (by omega) (by omega) (by omega) HWB.out HWF.out HOB2.out HOF2.out HU1b.out HU2b.out (by simp; omega) hg3 hown3' hlie3; rw [shapedPart_length] at Q; have co3 := cell_of_one Q.1; have cf3 := free_of_one Q.1; have cq := cell_of_one Q.2.2.1; have HYY := y_kept HBTB.out hzw hg3 (w.heap.size + 1) (by omega) (.slice (some ⟨g3, 0, none⟩) (k + 1) cap3); have yc0 := HYY.1; have yc1 := HYY.2.1; have yc2 := HYY.2.2; have HQ1 : Hid ((w3.setCell ⟨w.heap.size + 1, 0, none⟩ (.slice (some ⟨g3, 0, none⟩) (k + 1) cap3)).heap[w.heap.size + 1]? = some (.cells #[.slice (some ⟨g3, 0, none⟩) (k + 1) cap3] 25 (0, 0))) := Q.2.1; have HQ2 : Hid ((w3.setCell ⟨w.heap.size + 1, 0, none⟩ (.slice (some ⟨g3, 0, none⟩) (k + 1) cap3)).heap[w.heap.size + 1 + 1]? = some (.cells #[vf] 25 (0, 0))) := Q.2.2.1; have HQ3 : Hid (Built (w3.setCell ⟨w.heap.size + 1, 0, none⟩ (.slice (some ⟨g3, 0, none⟩) (k + 1) cap3)) (w.heap.size + 3) 44 42 (.slice (some ⟨g3, 0, none⟩) (k + 1) cap3) (shapedPart l N k ++ [F1]) (ub ++ [.slice ao1 F1.code.length cap1])) := Q.2.2.2.1; have HQ4 : Hid (Built (w3.setCell ⟨w.heap.size + 1, 0, none⟩ (.slice (some ⟨g3, 0, none⟩) (k + 1) cap3)) (w.heap.size + 3) 44 42 vf (fullPart l N k) uf) := Q.2.2.2.2.1; have HQ5 : Hid (RowsApart vf (.slice (some ⟨g3, 0, none⟩) (k + 1) cap3)) := apart_symm Q.2.2.2.2.2.1; have HQ6 : Hid ((w3.setCell ⟨w.heap.size + 1, 0, none⟩ (.slice (some ⟨g3, 0, none⟩) (k + 1) cap3)).ownsRow (w.heap.size + 3) 42 5 (.slice ao2 m2 cap2) m2 (codeCells F2.code)) := Q.2.2.2.2.2.2.1; have HQ7 : Hid (Below (w.heap.size + 1) (((w.alloc (.cells #[.slice none 0 0] 25)).alloc (.cells #[.slice none 0 0] 25)).alloc (.cells #[.slice none 0 0] 25)) (w3.setCell ⟨w.heap.size + 1, 0, none⟩ (.slice (some ⟨g3, 0, none⟩) (k + 1) cap3))) := Q.2.2.2.2.2.2.2 _ _ (by omega) ((HB.out.trans (HB2.out.mono (by omega))).alloc (by omega) _); have hz3 : w2.heap.size < w3.heap.size := (by have := hg3.size; simp at this; omega); clear Q HYY hown3 hown3' hg3 hlie3)
            | (at_builtin; refine wpList_append_lies _ rfl (.tmp 41) (.tmp 43) 23 rfl (w.heap.size + 3) 44 iF _ 3 40 Tryd.underlying23 hiF hzF0 hzF1 hzF2 rfl (by decide) vf k (fnsCells (fullPart l N k) uf) rfl (by have h := (HQ4.out.alloc (.cells #[.int .i64 F2.params, .int .i64 F2.regs, .slice ao2 m2 cap2] 44)).row; rw [fullPart_length] at h; exact h) ⟨_, 0, none⟩ 1 1 (fnCells F2 (.slice ao2 m2 cap2)) rfl rfl (news_list _ _ _ _ (by simp)) (fnCells_one _ _ _ _) (by decide) (by unfold maxLen; omega) (by omega) (by simp; omega) _ rfl ?_; intro g4 cap4 w4 hown4 hg4 hlie4 hlt4; have hown4' := own_len3 (fullPart_length l N k) HM2.out hown4; have HQ6' := HQ6.out; rw [← HM2.out] at HQ6'; have Q4 := built_pair (f := F2) (by decide) HQ5.out (by omega) (by omega) (by omega) HQ4.out HQ3.out HQ2.out HQ1.out HQ6' HQ6' (by simp; omega) hg4 hown4' hlie4; rw [fullPart_length] at Q4; have co4 := cell_of_one Q4.1; have cf4 := free_of_one Q4.1))
          have HR := Q4.2
          have HR1 : Hid (Below (w.heap.size + 1) (((w.alloc (.cells #[.slice none 0 0] 25)).alloc (.cells #[.slice none 0 0] 25)).alloc (.cells #[.slice none 0 0] 25)) (w4.setCell ⟨w.heap.size + 1 + 1, 0, none⟩ (.slice (some ⟨g4, 0, none⟩) (k + 1) cap4))) := HR.2.2.2.2.2.2 _ _ (by omega) HQ7.out
          go_roundw
          case rel => exact ⟨k + 1, by omega, by go_num, HR1.out, _, _, _, _, HR.2.1, HR.1, by rw [shapedPart_succ, ← HBD.out, HF1.out]; exact HR.2.2.2.1, by rw [fullPart_succ, ← HBD.out, HF2.out]; exact HR.2.2.1, apart_symm HR.2.2.2.2.1⟩
          case measure => simp [intOf]; omega
      · have hkN : k = N := by omega
        subst hkN
        have HSP : Hid (shapedP l = shapedPart l k k) := by show _ = _; rw [shapedP, ← HN.out]
        have HFP : Hid (fullP l = fullPart l k k) := by show _ = _; rw [fullP, ← HN.out]
        have hpv := hbtb.prog
        have hpc := HPV.out wr hbw'
        have hck := pcheck_any (shapedPart l k k) vb wr hpc.1 hpc.2 hpv
        rw [← HSP.out] at hck
        obtain ⟨ao3, cap3, rfl⟩ := own_shape hbtb.row
        obtain ⟨ao4, cap4, rfl⟩ := own_shape hbtf.row
        rw [shapedPart_length] at *
        rw [fullPart_length] at *
        have g1 : wr.heap[w.heap.size]? = some (.cells #[.slice none 0 0] 25 (0, 0)) := (hb.block _ (by omega)).trans HE0.out.2.2
        clear hat haddr hwf hpv hpc
        have HBTB2 : Hid (Built wr (w.heap.size + 3) 44 42 (.slice ao3 k cap3) (shapedPart l k k) ub) := hbtb
        have HBTF2 : Hid (Built wr (w.heap.size + 3) 44 42 (.slice ao4 k cap4) (fullPart l k k) uf) := hbtf
        clear hbtb hbtf hap hb hob hof
        go_wp2_with (go_at_call 12; refine hck.mono ?_; rintro e w5 ⟨E, rfl, hE, hb5⟩; have g5 := (hb5.block _ (by omega)).trans g1; have c5 := cell_of_one g5; have f5 := free_of_one g5; have cb5 := keeps_below hb5 _ _ cob; have cf5 := keeps_below hb5 _ _ cof; have HE : Hid (ProofAns (shapedP l) E) := hE; clear hE)
        · have hE0 : E = 0 := by simpa using (show (E == 0) = true by assumption)
          subst hE0
          exact bodyPost_ret (v := .agg #[.slice ao3 k cap3]) (by simp [results, Tryd.results5, go_sem, c5]) rfl ⟨_, shapedP l, ub, rfl, Or.inl ⟨HE.out, rfl⟩, by rw [HSP.out]; exact built_base ((HBTB2.out.below hb5).setCell (by simp) _) (by omega), (below_call hbw' (by omega) hb5).setCell (by simp) _⟩
        · have hE0 : E ≠ 0 := by
            have h : (E == 0) = false := by assumption
            simpa using h
          exact bodyPost_ret (v := .agg #[.slice ao4 k cap4]) (by simp [results, Tryd.results5, go_sem, c5]) rfl ⟨_, fullP l, uf, rfl, Or.inr ⟨fun h => hE0 (proofAns_unique HE.out h), rfl⟩, by rw [HFP.out]; exact built_base ((HBTF2.out.below hb5).setCell (by simp) _) (by omega), (below_call hbw' (by omega) hb5).setCell (by simp) _⟩
end Go.Proofs.YtldbmdgpdolaaaaDoor
