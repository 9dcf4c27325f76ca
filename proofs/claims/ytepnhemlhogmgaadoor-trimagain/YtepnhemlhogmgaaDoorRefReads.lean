/- Contracts of the document's answer to P3.4 (package tierlineref): hasBit, oneBit, readsOf. -/
import Derived.Test.YtepnhemlhogmgaaDoorReadsAll
import Derived.Test.YtepnhemlhogmgaaDoorInts
import Derived.Test.YtepnhemlhogmgaaDoorInfos
namespace Go.Proofs.YtepnhemlhogmgaaDoor
open Go Go.RowKit

def hasB (n bit : Nat) : Bool := ((n / 2 ^ bit % 2 : Nat) : Int) == 1
set_option maxRecDepth 100000 in
set_option maxHeartbeats 400000 in
theorem hasBit_any (n bit : Nat) (w : World) (hn : n < 65536) (hb : bit < 65536) :
    Calls Tryd.prog 52 #[.int .i64 n, .int .i64 bit] w fun e w' => e = .returned (.bool (hasB n bit)) ∧ w' = w := by
  go_enter Tryd.func52, Tryd.ntmps52
  go_wp2
  go_loop [0, 5] (fun m i => ∃ k : Nat, k ≤ bit ∧ i = .int .i64 k ∧ m = .int .i64 ((n / 2 ^ k : Nat) : Int)) (fun _ i => bit - (intOf i).toNat)
  case atStart => exact ⟨0, Nat.zero_le _, rfl, by simp⟩
  case round =>
    obtain ⟨k, hk, rfl, rfl⟩ := hrel
    have hlt2 : n / 2 ^ k < 65536 := Nat.lt_of_le_of_lt (Nat.div_le_self _ _) hn
    have HN : Hid (((n / 2 ^ k : Nat) : Int) / 2 = ((n / 2 ^ (k + 1) : Nat) : Int)) := by
      show _ = _
      rw [Nat.pow_succ, ← Nat.div_div_eq_div_mul]; omega
    by_cases hlt : k < bit
    · generalize n / 2 ^ k = m at hlt2 HN
      go_wp2
      go_round
      case rel => exact ⟨k + 1, by omega, by go_num, by rw [← HN.out]⟩
      case measure => simp [intOf]; omega
    · obtain rfl : k = bit := by omega
      have HM : Hid (hasB n k = (((n / 2 ^ k % 2 : Nat) : Int) == 1)) := rfl
      generalize n / 2 ^ k = m at hlt2 HN HM
      go_wp2
      go_ret
      exact ⟨by rw [HM.out]; simp, rfl⟩

def readsL (P : List Fn) (x : Ins) : List Int := (if rdA P x = true then [x.a] else []) ++ (if rdB P x = true then [x.b] else [])

theorem grown_three {w w1 : World} {o1 o2 o3 : Obj} (hg : (((w.alloc o1).alloc o2).alloc o3).grownBy w1 (Value.slice none 0 0).ownBlock) : Below (((w.alloc o1).alloc o2).alloc o3).heap.size (((w.alloc o1).alloc o2).alloc o3) w1 ∧ w.heap.size + 2 < w1.heap.size := by
  have hb := below_grown hg
  refine ⟨hb, ?_⟩
  have := hb.size
  simp at this
  omega
theorem cell_mid {w : World} {o1 o3 : Obj} {cs : Array Value} {t i : Nat} {v : Value} (h : cs[i]? = some v) : (((w.alloc o1).alloc (.cells cs t)).alloc o3).cell? ⟨w.heap.size + 1, i, none⟩ = some v := by
  refine cell_alloc ?_ _
  rw [cell_of_row ((w.alloc o1).alloc (.cells cs t)) (w.heap.size + 1) i cs t (0, 0) (by have := heap_alloc_new (w.alloc o1) (.cells cs t); simpa using this)]
  exact h
theorem cell_first {w : World} {o2 o3 : Obj} {cs : Array Value} {t i : Nat} {v : Value} (h : cs[i]? = some v) : (((w.alloc (.cells cs t)).alloc o2).alloc o3).cell? ⟨w.heap.size, i, none⟩ = some v := by
  refine cell_alloc (cell_alloc ?_ _) _
  rw [cell_of_row (w.alloc (.cells cs t)) w.heap.size i cs t (0, 0) (heap_alloc_new w _)]
  exact h

set_option maxRecDepth 100000 in
set_option maxHeartbeats 1000000 in
theorem readsOf_any (P : List Fn) (v : Value) (x : Ins) (w : World) (hv : ProgVal w v P) (hx : InsOk P x) :
    Calls Tryd.prog 51 #[.agg #[v], x.val] w fun e w' => ∃ v', e = .returned v' ∧ w'.ownsRow w.heap.size 3 1 v' (readsL P x).length (i64s (readsL P x)) ∧ Below w.heap.size w w' := by
  obtain ⟨ao, b, off, n, cap, rfl, ⟨hlen, haddr, hat⟩, hcap, hmax⟩ := hv
  obtain ⟨i64i, hi64, hz0, hz1, hz2⟩ := info_parts info64
  have hbx : ∀ o o', Below w.heap.size w ((w.alloc o).alloc o') := fun o o' => ((Below.refl _ _).alloc (Nat.le_refl _) _).alloc (by simp) _
  obtain ⟨op, dst, a, b', imm⟩ := x
  obtain ⟨o1, o2, _, _, a0, a1, b0, b1, hcall⟩ := hx
  dsimp only at o1 o2 hcall a0 a1 b0 b1
  unfold Ins.val
  dsimp only
  by_cases h : op = 17
  · subst h
    obtain ⟨i0, i1, p0, p1⟩ := hcall rfl
    obtain ⟨k, rfl⟩ := Int.eq_ofNat_of_zero_le i0
    have hk : k < P.length := by omega
    obtain ⟨u, hu⟩ := hat k hk
    obtain rfl := haddr (by omega)
    have d0 := hu.params
    have hpa : paramsAt P (k : Int) = P[k].params := by simp [paramsAt, List.getD, hk]
    have hp : readsL P ⟨17, dst, a, b', k⟩ = (if 1 ≤ P[k].params then [a] else []) ++ (if 2 ≤ P[k].params then [b'] else []) := by
      simp [readsL, rdA, rdB, hpa]
    rw [hpa] at p0 p1
    rw [hp]
    generalize P[k].params = pp at d0 p0 p1
    have hkn : (k : Int) < n := by omega
    have t0 := fun o1 => cell_alloc (cell_alloc d0 o1)
    clear hp hpa hat haddr hu hcall d0 i1 hlen
    have hA : readsAB 17 = true := by decide
    have hB : readsBB 17 = true := by decide
    rcases (show pp = 0 ∨ pp = 1 ∨ pp = 2 by omega) with rfl | rfl | rfl
    · go_enter Tryd.func51, Tryd.ntmps51
      go_wp2_with (first | (go_at_call 68; refine (ReadsA_any _ _).mono ?_; rintro e w' ⟨rfl, rfl⟩) | (go_at_call 69; refine (ReadsB_any _ _).mono ?_; rintro e w' ⟨rfl, rfl⟩))
      go_ret
      exact ⟨_, rfl, World.ownsRow_nil _ _ _ _, hbx _ _⟩
    · go_enter Tryd.func51, Tryd.ntmps51
      go_wp2_with (first | (go_at_call 68; refine (ReadsA_any _ _).mono ?_; rintro e w' ⟨rfl, rfl⟩) | (go_at_call 69; refine (ReadsB_any _ _).mono ?_; rintro e w' ⟨rfl, rfl⟩) | (at_builtin; refine wpList_append_own _ rfl (.tmp 24) (.tmp 27) 25 rfl w.heap.size 3 i64i _ 1 8 Tryd.underlying25 hi64 hz0 hz1 hz2 rfl (by decide) (.slice none 0 0) 0 [] rfl (World.ownsRow_nil _ _ _ _) ⟨w.heap.size + 2, 0, none⟩ 1 1 (i64s [a]) rfl rfl (news_list _ _ _ _ (by simp)) (i64s_one _) (by unfold maxLen; omega) (by omega) (by simp; omega) ?_; intro v1 w1 hown1 hg1 _; obtain ⟨hb1, hz⟩ := grown_three hg1; obtain ⟨ao1, cap1, rfl⟩ := own_shape hown1; have k0 := keeps_below hb1 ⟨w.heap.size + 1, 0, none⟩ (.int .i64 17) (cell_mid rfl); have k1 := keeps_below hb1 ⟨w.heap.size + 1, 3, none⟩ (.int .i64 b') (cell_mid rfl); have k2 := keeps_below hb1 ⟨w.heap.size + 1, 4, none⟩ (.int .i64 k) (cell_mid rfl); have k3 := keeps_below hb1 ⟨w.heap.size, 0, none⟩ (.slice (some ⟨b, off, none⟩) n cap) (cell_first rfl); have k4 := keeps_below hb1 _ _ (cell_alloc (t0 _ _) _); clear hg1))
      go_ret
      exact ⟨_, rfl, hown1, (((hbx _ _).alloc (by simp; omega) _).trans (hb1.mono (by simp; omega)))⟩
    · go_enter Tryd.func51, Tryd.ntmps51
      go_wp2_with (first | (go_at_call 68; refine (ReadsA_any _ _).mono ?_; rintro e w' ⟨rfl, rfl⟩) | (go_at_call 69; refine (ReadsB_any _ _).mono ?_; rintro e w' ⟨rfl, rfl⟩) | (at_builtin; refine wpList_append_own _ rfl (.tmp 24) (.tmp 27) 25 rfl w.heap.size 3 i64i _ 1 8 Tryd.underlying25 hi64 hz0 hz1 hz2 rfl (by decide) (.slice none 0 0) 0 [] rfl (World.ownsRow_nil _ _ _ _) ⟨w.heap.size + 2, 0, none⟩ 1 1 (i64s [a]) rfl rfl (news_list _ _ _ _ (by simp)) (i64s_one _) (by unfold maxLen; omega) (by omega) (by simp; omega) ?_; intro v1 w1 hown1 hg1 _; obtain ⟨hb1, hz⟩ := grown_three hg1; obtain ⟨ao1, cap1, rfl⟩ := own_shape hown1; have k0 := keeps_below hb1 ⟨w.heap.size + 1, 0, none⟩ (.int .i64 17) (cell_mid rfl); have k1 := keeps_below hb1 ⟨w.heap.size + 1, 3, none⟩ (.int .i64 b') (cell_mid rfl); have k2 := keeps_below hb1 ⟨w.heap.size + 1, 4, none⟩ (.int .i64 k) (cell_mid rfl); have k3 := keeps_below hb1 ⟨w.heap.size, 0, none⟩ (.slice (some ⟨b, off, none⟩) n cap) (cell_first rfl); have k4 := keeps_below hb1 _ _ (cell_alloc (t0 _ _) _); clear hg1) | (at_builtin; refine wpList_append_own _ rfl (.tmp 47) (.tmp 50) 25 rfl w.heap.size 3 i64i _ 1 8 Tryd.underlying25 hi64 hz0 hz1 hz2 rfl (by decide) _ _ _ rfl (hown1.alloc _) ⟨_, 0, none⟩ 1 1 (i64s [b']) rfl rfl (news_list _ _ _ _ rfl) (i64s_one _) (by unfold maxLen; omega) (by omega) (by simp; omega) ?_; intro v2 w2 hown2 hg2 _))
      go_ret
      exact ⟨_, rfl, hown2, ((((hbx _ _).alloc (by simp; omega) _).trans (hb1.mono (by simp; omega))).alloc (by omega) _).trans (grown_base (hown1.alloc _) (by simp; omega) hg2)⟩
  · have hp : readsL P ⟨op, dst, a, b', imm⟩ = (if readsAB op = true then [a] else []) ++ (if readsBB op = true then [b'] else []) := by simp [readsL, rdA, rdB, h]
    have h' : (op != 17) = true := by simpa using h
    have himp : readsAB op = false → readsBB op = false := fun hf => by
      simp [readsAB] at hf
      simp [readsBB]
      by_cases h1 : op = 1
      · subst h1; decide
      · have := hf h1; omega
    rw [hp]
    clear hp h hcall hat haddr
    cases hA : readsAB op
    · have hB := himp hA
      rw [hB]
      clear himp
      go_enter Tryd.func51, Tryd.ntmps51
      go_wp2_with (first | (go_at_call 68; refine (ReadsA_any _ _).mono ?_; rintro e w' ⟨rfl, rfl⟩) | (go_at_call 69; refine (ReadsB_any _ _).mono ?_; rintro e w' ⟨rfl, rfl⟩))
      go_ret
      exact ⟨_, rfl, World.ownsRow_nil _ _ _ _, hbx _ _⟩
    · clear himp
      cases hB : readsBB op
      · go_enter Tryd.func51, Tryd.ntmps51
        go_wp2_with (first | (go_at_call 68; refine (ReadsA_any _ _).mono ?_; rintro e w' ⟨rfl, rfl⟩) | (go_at_call 69; refine (ReadsB_any _ _).mono ?_; rintro e w' ⟨rfl, rfl⟩) | (at_builtin; refine wpList_append_own _ rfl (.tmp 24) (.tmp 27) 25 rfl w.heap.size 3 i64i _ 1 8 Tryd.underlying25 hi64 hz0 hz1 hz2 rfl (by decide) (.slice none 0 0) 0 [] rfl (World.ownsRow_nil _ _ _ _) ⟨w.heap.size + 2, 0, none⟩ 1 1 (i64s [a]) rfl rfl (news_list _ _ _ _ (by simp)) (i64s_one _) (by unfold maxLen; omega) (by omega) (by simp; omega) ?_; intro v1 w1 hown1 hg1 _; obtain ⟨hb1, hz⟩ := grown_three hg1; obtain ⟨ao1, cap1, rfl⟩ := own_shape hown1; have k0 := keeps_below hb1 ⟨w.heap.size + 1, 0, none⟩ (.int .i64 op) (cell_mid rfl); have k1 := keeps_below hb1 ⟨w.heap.size + 1, 3, none⟩ (.int .i64 b') (cell_mid rfl); clear hg1))
        go_ret
        exact ⟨_, rfl, hown1, (((hbx _ _).alloc (by simp; omega) _).trans (hb1.mono (by simp; omega)))⟩
      · go_enter Tryd.func51, Tryd.ntmps51
        go_wp2_with (first | (go_at_call 68; refine (ReadsA_any _ _).mono ?_; rintro e w' ⟨rfl, rfl⟩) | (go_at_call 69; refine (ReadsB_any _ _).mono ?_; rintro e w' ⟨rfl, rfl⟩) | (at_builtin; refine wpList_append_own _ rfl (.tmp 24) (.tmp 27) 25 rfl w.heap.size 3 i64i _ 1 8 Tryd.underlying25 hi64 hz0 hz1 hz2 rfl (by decide) (.slice none 0 0) 0 [] rfl (World.ownsRow_nil _ _ _ _) ⟨w.heap.size + 2, 0, none⟩ 1 1 (i64s [a]) rfl rfl (news_list _ _ _ _ (by simp)) (i64s_one _) (by unfold maxLen; omega) (by omega) (by simp; omega) ?_; intro v1 w1 hown1 hg1 _; obtain ⟨hb1, hz⟩ := grown_three hg1; obtain ⟨ao1, cap1, rfl⟩ := own_shape hown1; have k0 := keeps_below hb1 ⟨w.heap.size + 1, 0, none⟩ (.int .i64 op) (cell_mid rfl); have k1 := keeps_below hb1 ⟨w.heap.size + 1, 3, none⟩ (.int .i64 b') (cell_mid rfl); clear hg1) | (at_builtin; refine wpList_append_own _ rfl (.tmp 47) (.tmp 50) 25 rfl w.heap.size 3 i64i _ 1 8 Tryd.underlying25 hi64 hz0 hz1 hz2 rfl (by decide) _ _ _ rfl (hown1.alloc _) ⟨_, 0, none⟩ 1 1 (i64s [b']) rfl rfl (news_list _ _ _ _ rfl) (i64s_one _) (by unfold maxLen; omega) (by omega) (by simp; omega) ?_; intro v2 w2 hown2 hg2 _))
        go_ret
        exact ⟨_, rfl, hown2, ((((hbx _ _).alloc (by simp; omega) _).trans (hb1.mono (by simp; omega))).alloc (by omega) _).trans (grown_base (hown1.alloc _) (by simp; omega) hg2)⟩

end Go.Proofs.YtepnhemlhogmgaaDoor
