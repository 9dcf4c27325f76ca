/- Contract of tierlinekeep.function where all registers are set first: a function of raw numbers. -/
import Derived.Test.YtepnhemlhogmgaaDoorFunc
namespace Go.Proofs.YtepnhemlhogmgaaDoor
open Go Go.RowKit

/-- Registers that are set first. -/
def preL (p : Int) (j : Nat) : List Ins := (List.range j).map fun (i : Nat) => ⟨1, p + i, 0, 0, p + i⟩
theorem preL_succ (p : Int) (j : Nat) : preL p (j + 1) = preL p j ++ [⟨1, p + j, 0, 0, p + j⟩] := by simp [preL, List.range_succ]
theorem preL_length (p : Int) (j : Nat) : (preL p j).length = j := by simp [preL]
theorem pre_step {p : Int} {j : Nat} : p + (j : Int) + 1 = p + ((j + 1 : Nat) : Int) := by omega

/-- A function of raw numbers, all registers set first. -/
def mkAll (b : Fn) (funcs : Int) : Fn :=
  let params := pickI b.params 3
  let regs := max params 1 + pickI b.regs 11
  let n := min b.code.length 22
  let k := (regs - params).toNat
  ⟨params, regs, (preL params k ++ (b.code.take n).map (fun x => mkIns x regs (k + n + 2 : Nat) funcs)) ++ [⟨1, 0, 0, 0, 7⟩] ++ [⟨19, 0, 0, 0, 0⟩]⟩

set_option maxRecDepth 100000 in
set_option maxHeartbeats 1000000 in
theorem function_all (bd : Fn) (v : Value) (funcs : Int) (w : World) (hv : CodeVal w v bd.code) (hwf : bd.wf) (h5 : 1 ≤ funcs) (h6 : funcs ≤ 4) :
    Calls Tryd.prog 34 #[.agg #[.int .i64 bd.params, .int .i64 bd.regs, v], .int .i64 funcs, .bool true] w fun e w' =>
      ∃ u, e = .returned (.agg #[.int .i64 (mkAll bd funcs).params, .int .i64 (mkAll bd funcs).regs, u]) ∧ w'.ownsRow w.heap.size 70 5 u (mkAll bd funcs).code.length (codeCells (mkAll bd funcs).code) ∧ Below w.heap.size w w' := by
  obtain ⟨bp, br, xs⟩ := bd
  obtain ⟨hp, hr, hxs⟩ := hwf
  obtain ⟨ao, b, off, n, cap, rfl, ⟨hlen, haddr, hat⟩, hcap, hmax⟩ := hv
  obtain ⟨iI, hiI, hzI0, hzI1, hzI2⟩ := info_parts infoI
  dsimp only at hp hr hxs hlen haddr hat
  have hpb := pickI_bounds bp 3 (by decide)
  have hrb := pickI_bounds br 11 (by decide)
  unfold maxLen at hmax
  have hM : max (pickI bp 3) 1 = 1 ∨ (1 ≤ pickI bp 3 ∧ max (pickI bp 3) 1 = pickI bp 3) := by omega
  go_enter Tryd.func34, Tryd.ntmps34
  go_wp2_with (go_at_call 22; refine (picked_any _ _ _ ?_ ?_ ?_).mono ?_; (first | exact hp | exact hr); omega; omega; rintro e w' ⟨rfl, rfl⟩)
  have k1 : (((w.alloc (.cells #[.int .i64 bp, .int .i64 br, .slice ao n cap] 74)).alloc (.cells #[.int .i64 0, .int .i64 0, .slice none 0 0] 44)).alloc (.cells #[.int .i64 (pickI bp 3), .int .i64 0, .slice none 0 0] 44)).cell? ⟨w.heap.size + 1 + 1, 0, none⟩ = some (.int .i64 (pickI bp 3)) := cell_third rfl
  go_cut [] (fun wx => wx = (((w.alloc (.cells #[.int .i64 bp, .int .i64 br, .slice ao n cap] 74)).alloc (.cells #[.int .i64 0, .int .i64 0, .slice none 0 0] 44)).alloc (.cells #[.int .i64 (pickI bp 3), .int .i64 (max (pickI bp 3) 1 + pickI br 11), .slice none 0 0] 44)).drew)
  case first =>
    by_cases hm : 1 ≤ pickI bp 3
    · have hmx : max (pickI bp 3) 1 = pickI bp 3 := by omega
      have HMX : Hid (max (pickI bp 3) 1 = _) := hmx
      have HWR : Hid (IntKind.i64.wrap (max (pickI bp 3) 1 + pickI br 11) = max (pickI bp 3) 1 + pickI br 11) := by show _ = _; rw [IntKind.wrap_i64]; omega
      clear hM hmx
      go_region_held3 (fun w' => w'.cell? ⟨w.heap.size + 1 + 1, 0, none⟩ = some (.int .i64 (pickI bp 3)) ∧ w'.cell? ⟨w.heap.size, 1, none⟩ = some (.int .i64 br)) ((refine ⟨?_, ?_⟩ <;> first | exact cell_third rfl | go_keep)) ((go_at_call 22; refine (picked_any _ _ _ hr (by omega) (by omega)).mono ?_; rintro e w' ⟨rfl, rfl⟩))
      all_goals (go_wp2_with fail; go_meet; exact (by have h := HWR.out; rw [HMX.out] at h ⊢; rw [h]))
    · have hmx : max (pickI bp 3) 1 = 1 := by omega
      have HMX : Hid (max (pickI bp 3) 1 = _) := hmx
      have HWR : Hid (IntKind.i64.wrap (max (pickI bp 3) 1 + pickI br 11) = max (pickI bp 3) 1 + pickI br 11) := by show _ = _; rw [IntKind.wrap_i64]; omega
      clear hM hmx
      go_region_held3 (fun w' => w'.cell? ⟨w.heap.size + 1 + 1, 0, none⟩ = some (.int .i64 (pickI bp 3)) ∧ w'.cell? ⟨w.heap.size, 1, none⟩ = some (.int .i64 br)) ((refine ⟨?_, ?_⟩ <;> first | exact cell_third rfl | go_keep)) ((go_at_call 22; refine (picked_any _ _ _ hr (by omega) (by omega)).mono ?_; rintro e w' ⟨rfl, rfl⟩))
      all_goals (go_wp2_with fail; go_meet; exact (by have h := HWR.out; rw [HMX.out] at h ⊢; rw [h]))
  case rest =>
    subst hcut
    have HN : Hid (∃ N : Nat, N = min n 22) := ⟨_, rfl⟩
    obtain ⟨N, hN⟩ := HN.out
    have HNN : Hid (N = min n 22) := hN
    clear hN HN
    generalize hR : max (pickI bp 3) 1 + pickI br 11 = RG
    have hRG : 1 ≤ RG ∧ RG ≤ 12 := by omega
    have HRG : Hid (max (pickI bp 3) 1 + pickI br 11 = RG) := hR
    clear hR
    go_upto_region 3 with fail
    go_cut [8] (fun s8 wx => s8 = .int .i64 N ∧ wx = (((w.alloc (.cells #[.int .i64 bp, .int .i64 br, .slice ao n cap] 74)).alloc (.cells #[.int .i64 0, .int .i64 0, .slice none 0 0] 44)).alloc (.cells #[.int .i64 (pickI bp 3), .int .i64 RG, .slice none 0 0] 44)).drew)
    case first =>
      by_cases h22 : n ≤ 22
      · have HE : Hid (N = n) := HNN.out.trans (by omega)
        go_wp2_with fail
        go_meet
        exact ⟨by rw [HE.out], rfl⟩
      · have HE : Hid (N = 22) := HNN.out.trans (by omega)
        go_wp2_with fail
        go_meet
        exact ⟨by rw [HE.out]; rfl, rfl⟩
    case rest =>
      obtain ⟨rfl, rfl⟩ := hcut
      have hN22 : N ≤ 22 := by have := HNN.out; omega
      have HBX0 : Hid (∀ W, W = (((w.alloc (.cells #[.int .i64 bp, .int .i64 br, .slice ao n cap] 74)).alloc (.cells #[.int .i64 0, .int .i64 0, .slice none 0 0] 44)).alloc (.cells #[.int .i64 (pickI bp 3), .int .i64 RG, .slice none 0 0] 44)).drew → W.heap[w.heap.size]? = some (.cells #[.int .i64 bp, .int .i64 br, .slice ao n cap] 74) ∧ W.heap[w.heap.size + 1]? = some (.cells #[.int .i64 0, .int .i64 0, .slice none 0 0] 44) ∧ W.heap[w.heap.size + 1 + 1]? = some (.cells #[.int .i64 (pickI bp 3), .int .i64 RG, .slice none 0 0] 44) ∧ Below w.heap.size w W) := fun W hW => by
        subst hW
        have e1 := heap_alloc_new w (.cells #[.int .i64 bp, .int .i64 br, .slice ao n cap] 74)
        have e2 := heap_alloc_new (w.alloc (.cells #[.int .i64 bp, .int .i64 br, .slice ao n cap] 74)) (.cells #[.int .i64 0, .int .i64 0, .slice none 0 0] 44)
        have e3 := heap_alloc_new ((w.alloc (.cells #[.int .i64 bp, .int .i64 br, .slice ao n cap] 74)).alloc (.cells #[.int .i64 0, .int .i64 0, .slice none 0 0] 44)) (.cells #[.int .i64 (pickI bp 3), .int .i64 RG, .slice none 0 0] 44)
        simp only [World.size_alloc] at e2 e3
        refine ⟨(heap_alloc_old _ _ (by simp; omega)).trans ((heap_alloc_old _ _ (by simp)).trans e1), (heap_alloc_old _ _ (by simp)).trans e2, e3, ?_⟩
        exact ((((Below.refl _ w).alloc (Nat.le_refl _) _).alloc (by simp) _).alloc (by simp; omega) _).drew
      have hge : pickI bp 3 ≤ RG := by have := HRG.out; omega
      obtain ⟨K, hK⟩ : ∃ K : Nat, (K : Int) = RG - pickI bp 3 := ⟨(RG - pickI bp 3).toNat, by omega⟩
      have hK12 : K ≤ 12 := by omega
      have HKK : Hid ((K : Int) = RG - pickI bp 3) := hK
      have HBY0 := HBX0.out _ rfl
      have y0 : ((((w.alloc (.cells #[.int .i64 bp, .int .i64 br, .slice ao n cap] 74)).alloc (.cells #[.int .i64 0, .int .i64 0, .slice none 0 0] 44)).alloc (.cells #[.int .i64 (pickI bp 3), .int .i64 RG, .slice none 0 0] 44)).drew).cell? ⟨w.heap.size + 1 + 1, 0, none⟩ = some (.int .i64 (pickI bp 3)) := (cell_of_row _ _ 0 _ _ _ HBY0.2.2.1).trans rfl
      clear HBY0
      go_wp2
      clear y0
      go_loopg [9] K (fun m i wr => ∃ (j : Nat) (vc : Value), j + m = K ∧ i = .int .i64 (pickI bp 3 + j) ∧ wr.heap[w.heap.size]? = some (.cells #[.int .i64 bp, .int .i64 br, .slice ao n cap] 74) ∧ wr.heap[w.heap.size + 1]? = some (.cells #[.int .i64 0, .int .i64 0, .slice none 0 0] 44) ∧ wr.heap[w.heap.size + 1 + 1]? = some (.cells #[.int .i64 (pickI bp 3), .int .i64 RG, vc] 44) ∧ wr.ownsRow (w.heap.size + 3) 70 5 vc j (codeCells (preL (pickI bp 3) j)) ∧ Below w.heap.size w wr)
      case atStart =>
        obtain ⟨e1, e2, e3, e4⟩ := HBX0.out _ rfl
        exact ⟨0, _, by omega, by simp, e1, e2, e3, by simpa [codeCells, preL] using World.ownsRow_nil _ _ _ _, e4⟩
      case round =>
       obtain ⟨j, vc, hjm, rfl, hb0, hb1, hb2, hown, hbl⟩ := hrel
       have c0 : wr.cell? ⟨w.heap.size + 1 + 1, 1, none⟩ = some (.int .i64 RG) := by simp [World.cell?, hb2]
       by_cases hjl : j < K
       · obtain ⟨aov, capv, rfl⟩ := own_shape hown
         have hzj := lt_of_block hb2
         have y2 : wr.cell? ⟨w.heap.size + 1 + 1, 2, none⟩ = some (.slice aov j capv) := by simp [World.cell?, hb2]
         have R0 : Hid _ := hb0
         have R1 : Hid _ := hb1
         have R2 : Hid _ := hb2
         have RB : Hid _ := hbl
         have HPL : Hid (preL (pickI bp 3) (j + 1) = preL (pickI bp 3) j ++ [⟨1, pickI bp 3 + j, 0, 0, pickI bp 3 + j⟩]) := preL_succ _ _
         have hjI : pickI bp 3 + (j : Int) < RG := by omega
         clear hb0 hb1 hb2 hbl hK
         go_wp2_with (at_builtin; refine wpList_append_own _ rfl (.tmp 39) (.tmp 43) 42 rfl (w.heap.size + 3) 70 iI _ 5 40 Tryd.underlying42 hiI hzI0 hzI1 hzI2 rfl (by decide) _ j _ rfl (hown.alloc _) ⟨wr.heap.size, 0, none⟩ 1 1 (insCells ⟨1, pickI bp 3 + j, 0, 0, pickI bp 3 + j⟩) rfl rfl (news_list _ _ _ _ rfl) (fun u hu => codeCells_one [⟨1, pickI bp 3 + j, 0, 0, pickI bp 3 + j⟩] u (by simpa [codeCells] using hu)) (by unfold maxLen; omega) (by omega) (by simp; omega) ?_; intro v4 w4 hown4 hg4 _; obtain ⟨ao4, cap4, rfl⟩ := own_shape hown4; have Q := fn_step rfl R0.out R1.out R2.out hown RB.out hg4 hown4; have q2 := Q.1; have qc : w4.cell? ⟨w.heap.size + 1 + 1, 2, none⟩ = some (.slice aov j capv) := (by simp [World.cell?, q2]); have qf : w4.frozen? ⟨w.heap.size + 1 + 1, 2, none⟩ = false := (by simp [World.frozen?, q2]))
         go_roundg (gk - 1)
         case measure => omega
         case rel => exact ⟨j + 1, _, by omega, by rw [← pre_step], Q.2.1, Q.2.2.1, Q.2.2.2.1, by rw [HPL.out, codeCells_append]; simpa [codeCells] using Q.2.2.2.2.1, Q.2.2.2.2.2⟩
       · obtain rfl : j = K := by omega
         obtain ⟨aop, capp, rfl⟩ := own_shape hown
         have hzj := lt_of_block hb2
         have y2 : wr.cell? ⟨w.heap.size + 1 + 1, 2, none⟩ = some (.slice aop j capp) := by simp [World.cell?, hb2]
         have hjI : ¬ pickI bp 3 + (j : Int) < RG := by omega
         have HBX1 : Hid (wr.heap[w.heap.size]? = some (.cells #[.int .i64 bp, .int .i64 br, .slice ao n cap] 74) ∧ wr.heap[w.heap.size + 1]? = some (.cells #[.int .i64 0, .int .i64 0, .slice none 0 0] 44) ∧ wr.heap[w.heap.size + 1 + 1]? = some (.cells #[.int .i64 (pickI bp 3), .int .i64 RG, .slice aop j capp] 44) ∧ wr.ownsRow (w.heap.size + 3) 70 5 (.slice aop j capp) j (codeCells (preL (pickI bp 3) j)) ∧ Below w.heap.size w wr) := ⟨hb0, hb1, hb2, hown, hbl⟩
         have HPN : Hid ((preL (pickI bp 3) j).length = j) := preL_length _ _
         clear hb0 hb1 hb2 hown hbl hK
         go_wp2
         clear y2 c0
         go_loopg [11] N (fun m i wr => ∃ (k : Nat) (vc : Value), k + m = N ∧ i = .int .i64 k ∧ wr.heap[w.heap.size]? = some (.cells #[.int .i64 bp, .int .i64 br, .slice ao n cap] 74) ∧ wr.heap[w.heap.size + 1]? = some (.cells #[.int .i64 0, .int .i64 0, .slice none 0 0] 44) ∧ wr.heap[w.heap.size + 1 + 1]? = some (.cells #[.int .i64 (pickI bp 3), .int .i64 RG, vc] 44) ∧ wr.ownsRow (w.heap.size + 3) 70 5 vc (j + k) (codeCells (preL (pickI bp 3) j ++ (xs.take k).map fun x => mkIns x RG (j + N + 2 : Nat) funcs)) ∧ Below w.heap.size w wr)
         case atStart =>
           obtain ⟨e1, e2, e3, e4, e5⟩ := HBX1.out
           exact ⟨0, _, by omega, rfl, e1, e2, e3, by simpa using e4, e5⟩
         case round =>
           obtain ⟨k, vc, hkm, rfl, hb0, hb1, hb2, hown, hbl⟩ := hrel
           by_cases hlt : k < N
           · have hkn : k < n := by have := HNN.out; omega
             have hkx : k < xs.length := by rw [hlen]; exact hkn
             obtain rfl := haddr (by omega)
             obtain ⟨g0, g1, g2, g3, g4⟩ := (hat k hkx).keeps (keeps_below hbl)
             have hxw := hxs xs[k] (List.getElem_mem hkx)
             have hz : w.heap.size + 1 + 1 < wr.heap.size := lt_of_block hb2
             have c1 : wr.cell? ⟨w.heap.size, 2, none⟩ = some (.slice (some ⟨b, off, none⟩) n cap) := by simp [World.cell?, hb0]
             have c2 : wr.cell? ⟨w.heap.size + 1 + 1, 1, none⟩ = some (.int .i64 RG) := by simp [World.cell?, hb2]
             have HTK : Hid ((xs.take (k + 1)).map (fun x => mkIns x RG (j + N + 2 : Nat) funcs) = (xs.take k).map (fun x => mkIns x RG (j + N + 2 : Nat) funcs) ++ [mkIns xs[k] RG (j + N + 2 : Nat) funcs]) := by
               show _ = _
               rw [List.take_succ_eq_append_getElem hkx, List.map_append]; rfl
             generalize hxx : xs[k] = x at g0 g1 g2 g3 g4 hxw HTK
             have HC : Hid (∀ W, Calls Tryd.prog 54 #[.agg #[.int .i64 x.op, .int .i64 x.dst, .int .i64 x.a, .int .i64 x.b, .int .i64 x.imm], .int .i64 RG, .int .i64 ((j : Int) + (N : Int) + 2), .int .i64 funcs] W fun e w' => e = .returned (mkIns x RG (j + N + 2 : Nat) funcs).val ∧ Below W.heap.size W w') := fun W => by
               have h := instr_mk x RG ((j + N + 2 : Nat) : Int) funcs W hxw hRG.1 hRG.2 (by omega) (by omega) h5 h6
               have e : ((j + N + 2 : Nat) : Int) = (j : Int) + (N : Int) + 2 := by omega
               rw [e] at h ⊢
               exact h
             generalize hy : mkIns x RG (j + N + 2 : Nat) funcs = y at HTK HC
             obtain ⟨yo, yd, ya, yb, yi⟩ := y
             unfold Ins.val at HC
             dsimp only at HC
             clear hy hxx hxw
             go_wp2_with fail
             go_cut [12] (fun s12 wx => ∃ g, s12 = .pointer (some ⟨g, 0, none⟩) ∧ wr.heap.size ≤ g ∧ wx.heap[g]? = some (.cells #[.int .i64 yo, .int .i64 yd, .int .i64 ya, .int .i64 yb, .int .i64 yi] 70) ∧ Below wr.heap.size wr wx)
             case first =>
               have n1 := World.new_ne wr _ c1
               have n2 := World.new_ne wr _ c2
               have n3 := World.new_ne wr _ g0
               have n4 := World.new_ne wr _ g1
               have n5 := World.new_ne wr _ g2
               have n6 := World.new_ne wr _ g3
               have n7 := World.new_ne wr _ g4
               go_region_held3 (fun w' => w'.cell? ⟨w.heap.size, 2, none⟩ = some (.slice (some ⟨b, off, none⟩) n cap) ∧ w'.cell? ⟨w.heap.size + 1 + 1, 1, none⟩ = some (.int .i64 RG) ∧ w'.cell? ⟨b, off + k * 5, none⟩ = some (.int .i64 x.op) ∧ w'.cell? ⟨b, off + k * 5 + 1, none⟩ = some (.int .i64 x.dst) ∧ w'.cell? ⟨b, off + k * 5 + 2, none⟩ = some (.int .i64 x.a) ∧ w'.cell? ⟨b, off + k * 5 + 3, none⟩ = some (.int .i64 x.b) ∧ w'.cell? ⟨b, off + k * 5 + 4, none⟩ = some (.int .i64 x.imm)) (go_keep) ((go_at_call 54; refine (HC.out _).mono ?_; rintro e w1 ⟨rfl, hb1⟩; have s0 := keeps_below hb1 _ _ (by first | exact c1 | exact cell_alloc c1 _); have s1 := keeps_below hb1 _ _ (by first | exact c2 | exact cell_alloc c2 _); have s2 := keeps_below hb1 _ _ (by first | exact g0 | exact cell_alloc g0 _); have s3 := keeps_below hb1 _ _ (by first | exact g1 | exact cell_alloc g1 _); have s4 := keeps_below hb1 _ _ (by first | exact g2 | exact cell_alloc g2 _); have s5 := keeps_below hb1 _ _ (by first | exact g3 | exact cell_alloc g3 _); have s6 := keeps_below hb1 _ _ (by first | exact g4 | exact cell_alloc g4 _); try (have q : w1.heap[wr.heap.size]? = some (.cells #[.int .i64 0, .int .i64 0, .int .i64 0, .int .i64 0, .int .i64 0] 70) := (hb1.block wr.heap.size (by simp)).trans (heap_alloc_new wr _); have q0 : w1.cell? ⟨wr.heap.size, 0, none⟩ = some (.int .i64 0) := (by simp [World.cell?, q]); have f0 : w1.frozen? ⟨wr.heap.size, 0, none⟩ = false := (by simp [World.frozen?, q]); have q1 : w1.cell? ⟨wr.heap.size, 1, none⟩ = some (.int .i64 0) := (by simp [World.cell?, q]); have f1 : w1.frozen? ⟨wr.heap.size, 1, none⟩ = false := (by simp [World.frozen?, q]); have q2 : w1.cell? ⟨wr.heap.size, 2, none⟩ = some (.int .i64 0) := (by simp [World.cell?, q]); have f2 : w1.frozen? ⟨wr.heap.size, 2, none⟩ = false := (by simp [World.frozen?, q]); have q3 : w1.cell? ⟨wr.heap.size, 3, none⟩ = some (.int .i64 0) := (by simp [World.cell?, q]); have f3 : w1.frozen? ⟨wr.heap.size, 3, none⟩ = false := (by simp [World.frozen?, q]); have q4 : w1.cell? ⟨wr.heap.size, 4, none⟩ = some (.int .i64 0) := (by simp [World.cell?, q]); have f4 : w1.frozen? ⟨wr.heap.size, 4, none⟩ = false := (by simp [World.frozen?, q]))))
               · go_wp2_with fail
                 go_meet
                 exact ⟨_, rfl, hb1.size, heap_alloc_new w1 _, (((Below.refl _ wr).drew).trans hb1).alloc hb1.size _⟩
               · go_wp2_with fail
                 go_meet
                 exact ⟨_, rfl, Nat.le_refl _, heap_set5 q _ _ _ _ _, (((((((((Below.refl _ wr).alloc (Nat.le_refl _) _).drew).trans (hb1.mono (by simp))).setCell (Nat.le_refl _) _).setCell (Nat.le_refl _) _).setCell (Nat.le_refl _) _).setCell (Nat.le_refl _) _).setCell (Nat.le_refl _) _)⟩
             case rest =>
               obtain ⟨g, rfl, hgl, hgb, hbr⟩ := hcut
               have r0 := (hbr.block _ (lt_of_block hb0)).trans hb0
               have r1 := (hbr.block _ (lt_of_block hb1)).trans hb1
               have r2 := (hbr.block _ (lt_of_block hb2)).trans hb2
               have rown := ownsRow_below hown hbr
               have rbl : Below w.heap.size w wc := hbl.trans (hbr.mono (by omega))
               obtain ⟨aov, capv, rfl⟩ := own_shape hown
               have x0 : wc.cell? ⟨g, 0, none⟩ = some (.int .i64 yo) := by simp [World.cell?, hgb]
               have x1 : wc.cell? ⟨g, 1, none⟩ = some (.int .i64 yd) := by simp [World.cell?, hgb]
               have x2 : wc.cell? ⟨g, 2, none⟩ = some (.int .i64 ya) := by simp [World.cell?, hgb]
               have x3 : wc.cell? ⟨g, 3, none⟩ = some (.int .i64 yb) := by simp [World.cell?, hgb]
               have x4 : wc.cell? ⟨g, 4, none⟩ = some (.int .i64 yi) := by simp [World.cell?, hgb]
               have y2 : wc.cell? ⟨w.heap.size + 1 + 1, 2, none⟩ = some (.slice aov (j + k) capv) := by simp [World.cell?, r2]
               have R0 : Hid _ := r0
               have R1 : Hid _ := r1
               have R2 : Hid _ := r2
               have RB : Hid _ := rbl
               have hzc := lt_of_block r2
               clear hbl hbr r0 r1 r2 rbl hgb hb0 hb1 hb2 hown g0 g1 g2 g3 g4 c1 c2
               go_wp2_with (at_builtin; refine wpList_append_own _ rfl (.tmp 68) (.tmp 70) 42 rfl (w.heap.size + 3) 70 iI _ 5 40 Tryd.underlying42 hiI hzI0 hzI1 hzI2 rfl (by decide) _ (j + k) _ rfl (rown.alloc _) ⟨wc.heap.size, 0, none⟩ 1 1 (insCells ⟨yo, yd, ya, yb, yi⟩) rfl rfl (news_list _ _ _ _ rfl) (fun u hu => codeCells_one [⟨yo, yd, ya, yb, yi⟩] u (by simpa [codeCells] using hu)) (by unfold maxLen; omega) (by omega) (by simp; omega) ?_; intro v4 w4 hown4 hg4 _; obtain ⟨ao4, cap4, rfl⟩ := own_shape hown4; have Q := fn_step rfl R0.out R1.out R2.out rown RB.out hg4 hown4; have q2 := Q.1; have qc : w4.cell? ⟨w.heap.size + 1 + 1, 2, none⟩ = some (.slice aov (j + k) capv) := (by simp [World.cell?, q2]); have qf : w4.frozen? ⟨w.heap.size + 1 + 1, 2, none⟩ = false := (by simp [World.frozen?, q2]))
               go_roundg (gk - 1)
               case measure => omega
               case rel => exact ⟨k + 1, _, by omega, by go_num, Q.2.1, Q.2.2.1, Q.2.2.2.1, by rw [HTK.out, ← List.append_assoc, codeCells_append, ← Nat.add_assoc]; simpa [codeCells] using Q.2.2.2.2.1, Q.2.2.2.2.2⟩
           · have hkN : k = N := by omega
             subst hkN
             obtain ⟨aov, capv, rfl⟩ := own_shape hown
             have hz := lt_of_block hb2
             have y2 : wr.cell? ⟨w.heap.size + 1 + 1, 2, none⟩ = some (.slice aov (j + k) capv) := by simp [World.cell?, hb2]
             have R0 : Hid _ := hb0
             have R1 : Hid _ := hb1
             have R2 : Hid _ := hb2
             have RB : Hid _ := hbl
             have HFN : Hid (mkAll ⟨bp, br, xs⟩ funcs = ⟨pickI bp 3, RG, (preL (pickI bp 3) j ++ (xs.take k).map (fun x => mkIns x RG (j + k + 2 : Nat) funcs)) ++ [⟨1, 0, 0, 0, 7⟩] ++ [⟨19, 0, 0, 0, 0⟩]⟩) := by
               show _ = _
               unfold mkAll
               dsimp only
               rw [HRG.out, ← HKK.out, hlen, ← HNN.out, Int.toNat_natCast]
             generalize hcs : preL (pickI bp 3) j ++ (xs.take k).map (fun x => mkIns x RG (j + k + 2 : Nat) funcs) = cs at hown HFN
             clear hbl hb0 hb1 hb2 hat hxs HBX0 HBX1
             go_wp2_with (first
               | (at_builtin; refine wpList_append_own _ rfl (.tmp 74) (.tmp 76) 42 rfl (w.heap.size + 3) 70 iI _ 5 40 Tryd.underlying42 hiI hzI0 hzI1 hzI2 rfl (by decide) _ (j + k) _ rfl (hown.alloc _) ⟨wr.heap.size, 0, none⟩ 1 1 (insCells ⟨1, 0, 0, 0, 7⟩) rfl rfl (news_list _ _ _ _ rfl) (fun u hu => codeCells_one [⟨1, 0, 0, 0, 7⟩] u (by simpa [codeCells] using hu)) (by unfold maxLen; omega) (by omega) (by simp; omega) ?_; intro v4 w4 hown4 hg4 _; obtain ⟨ao4, cap4, rfl⟩ := own_shape hown4; have Q := fn_step rfl R0.out R1.out R2.out hown RB.out hg4 hown4; have q2 := Q.1; have qc : w4.cell? ⟨w.heap.size + 1 + 1, 2, none⟩ = some (.slice aov (j + k) capv) := (by simp [World.cell?, q2]); have qf : w4.frozen? ⟨w.heap.size + 1 + 1, 2, none⟩ = false := (by simp [World.frozen?, q2]))
               | (at_builtin; refine wpList_append_own _ rfl (.tmp 80) (.tmp 82) 42 rfl (w.heap.size + 3) 70 iI _ 5 40 Tryd.underlying42 hiI hzI0 hzI1 hzI2 rfl (by decide) _ (j + k + 1) _ rfl (Q.2.2.2.2.1.alloc _) ⟨w4.heap.size, 0, none⟩ 1 1 (insCells ⟨19, 0, 0, 0, 0⟩) rfl rfl (news_list _ _ _ _ (by simp)) (fun u hu => codeCells_one [⟨19, 0, 0, 0, 0⟩] u (by simpa [codeCells] using hu)) (by unfold maxLen; omega) (by omega) (by have := lt_of_block q2; simp; omega) ?_; intro v6 w6 hown6 hg6 _; obtain ⟨ao6, cap6, rfl⟩ := own_shape hown6; have Q6 := fn_step rfl Q.2.1 Q.2.2.1 Q.2.2.2.1 Q.2.2.2.2.1 Q.2.2.2.2.2 hg6 hown6; have q6 := Q6.1; have qc6 : w6.cell? ⟨w.heap.size + 1 + 1, 2, none⟩ = some (.slice ao4 (j + k + 1) cap4) := (by simp [World.cell?, q6]); have qf6 : w6.frozen? ⟨w.heap.size + 1 + 1, 2, none⟩ = false := (by simp [World.frozen?, q6]); have qd0 : w6.cell? ⟨w.heap.size + 1 + 1, 0, none⟩ = some (.int .i64 (pickI bp 3)) := (by simp [World.cell?, q6]); have qd1 : w6.cell? ⟨w.heap.size + 1 + 1, 1, none⟩ = some (.int .i64 RG) := (by simp [World.cell?, q6]); have q61 := Q6.2.2.1; rw [Below.heap_setCell _ _ _ _ (by simp)] at q61; have e0 : w6.cell? ⟨w.heap.size + 1, 0, none⟩ = some (.int .i64 0) := (by simp [World.cell?, q61]); have ef0 : w6.frozen? ⟨w.heap.size + 1, 0, none⟩ = false := (by simp [World.frozen?, q61]); have e1 : w6.cell? ⟨w.heap.size + 1, 1, none⟩ = some (.int .i64 0) := (by simp [World.cell?, q61]); have ef1 : w6.frozen? ⟨w.heap.size + 1, 1, none⟩ = false := (by simp [World.frozen?, q61]); have e2 : w6.cell? ⟨w.heap.size + 1, 2, none⟩ = some (.slice none 0 0) := (by simp [World.cell?, q61]); have ef2 : w6.frozen? ⟨w.heap.size + 1, 2, none⟩ = false := (by simp [World.frozen?, q61])))
             rw [HFN.out]
             have HO : Hid (∀ a u, a.block < w.heap.size + 3 → ∀ b u', b.block < w.heap.size + 3 → ∀ c u'', c.block < w.heap.size + 3 → ((((w6.setCell ⟨w.heap.size + 1 + 1, 2, none⟩ (.slice ao6 (j + k + 1 + 1) cap6)).setCell a u).setCell b u').setCell c u'').ownsRow (w.heap.size + 3) 70 5 (.slice ao6 (j + k + 1 + 1) cap6) (j + k + 1 + 1) (codeCells cs ++ insCells ⟨1, 0, 0, 0, 7⟩ ++ insCells ⟨19, 0, 0, 0, 0⟩)) :=
               fun a u ha b u' hb c u'' hc => ownsRow_setCell_below (ownsRow_setCell_below (ownsRow_setCell_below Q6.2.2.2.2.1 ha u) hb u') hc u''
             have HBB : Hid (Below w.heap.size w (w6.setCell ⟨w.heap.size + 1 + 1, 2, none⟩ (.slice ao6 (j + k + 1 + 1) cap6))) := Q6.2.2.2.2.2
             have hcl : cs.length = j + k := by rw [← hcs, List.length_append, HPN.out, List.length_map, List.length_take, hlen]; have := HNN.out; omega
             refine bodyPost_ret (v := .agg #[.int .i64 (pickI bp 3), .int .i64 RG, .slice ao6 (j + k + 1 + 1) cap6]) (by simp [results, Tryd.results34, go_sem, e0, e1, e2]) rfl ⟨_, rfl, ?_, ?_⟩
             · have e1 : (cs ++ [(⟨1, 0, 0, 0, 7⟩ : Ins)] ++ [(⟨19, 0, 0, 0, 0⟩ : Ins)]).length = j + k + 1 + 1 := by simp [hcl]
               have e2 : codeCells (cs ++ [⟨1, 0, 0, 0, 7⟩] ++ [⟨19, 0, 0, 0, 0⟩]) = codeCells cs ++ insCells ⟨1, 0, 0, 0, 7⟩ ++ insCells ⟨19, 0, 0, 0, 0⟩ := by simp [codeCells]
               dsimp only
               rw [e1, e2]
               exact own_base (HO.out ⟨w.heap.size + 1, 0, none⟩ _ (by simp) ⟨w.heap.size + 1, 1, none⟩ _ (by simp) ⟨w.heap.size + 1, 2, none⟩ _ (by simp)) (by omega)
             · exact ((HBB.out.setCell (by simp) _).setCell (by simp) _).setCell (by simp) _

end Go.Proofs.YtepnhemlhogmgaaDoor
