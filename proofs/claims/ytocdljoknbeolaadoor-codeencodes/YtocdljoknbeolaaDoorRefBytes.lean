/- Contracts of the document's answer to P1.4 (package tierlineref): the bytes of a number, and of a program. -/
import Derived.Test.YtocdljoknbeolaaDoorEncode
import Derived.Test.YtocdljoknbeolaaDoorRefWalk
import Derived.Test.YtocdljoknbeolaaDoorNum
import Derived.WalkLawsBesides
namespace Go.Proofs.YtocdljoknbeolaaDoor
open Go Go.RowKit

theorem set_zeros (k : Nat) (l : List Int) (b : Int) (h : k < 8) : (u8s (List.replicate (8 - k) 0 ++ l)).set (7 - k) (.int .u8 b) = u8s (List.replicate (8 - (k + 1)) 0 ++ b :: l) := by
  unfold u8s
  rw [← List.map_set]
  congr 1
  have e : 8 - k = (7 - k) + 1 := by omega
  rw [e, show 8 - (k + 1) = 7 - k by omega, List.replicate_succ', List.append_assoc]
  rw [List.set_append_right _ _ (by simp)]
  simp

set_option maxHeartbeats 400000 in
theorem eightBytesOf_any (n : Int) (w : World) (h1 : -9223372036854775808 ≤ n) (h2 : n ≤ 9223372036854775807) :
    Calls Tryd.prog 36 #[.int .i64 n] w fun e w' => e = .returned (.slice (some ⟨w.heap.size, 0, none⟩) 8 8) ∧ w'.ownsRow w.heap.size 5 1 (.slice (some ⟨w.heap.size, 0, none⟩) 8 8) 8 (u8s (lowBytes n 8)) ∧ Below w.heap.size w w' := by
  have hmk : ∀ w, (Instr.makeSlice 30 (.int .i64 8) (.int .i64 8)).run Tryd.prog w = .ok (.slice (some ⟨w.heap.size, 0, none⟩) 8 8) (w.alloc (.cells #[.int .u8 0, .int .u8 0, .int .u8 0, .int .u8 0, .int .u8 0, .int .u8 0, .int .u8 0, .int .u8 0] 5)) := fun _ => by kernel_rfl
  have HN : Hid (∀ k, -9223372036854775808 ≤ nth n k ∧ nth n k ≤ 9223372036854775807) := nth_bounds n h1 h2
  go_enter Tryd.func36, Tryd.ntmps36
  go_wp2
  go_loopw [0, 4] (fun m i wr => ∃ (k : Nat), k ≤ 8 ∧ i = .int .i64 (7 - (k : Int)) ∧ m = .int .i64 (nth n k) ∧ wr.ownsRow w.heap.size 5 1 (.slice (some ⟨w.heap.size, 0, none⟩) 8 8) 8 (u8s (List.replicate (8 - k) 0 ++ lowBytes n k)) ∧ Below w.heap.size w wr) (fun _ i _ => (intOf i + 1).toNat)
  case atStart => exact ⟨0, by omega, by go_num, by rw [nth_zero], own_built w w.heap.size 5 (u8s (List.replicate 8 0)) (Nat.le_refl _) (by simp [u8s, maxLen]), (Below.refl _ _).alloc (Nat.le_refl _) _⟩
  case round =>
    obtain ⟨k, hk, rfl, rfl, hr, hb⟩ := hrel
    obtain ⟨n1, n2⟩ := HN.out k
    have HD : Hid (wrap64 ((wrap64 (nth n k - nth n k % 256)).tdiv 256) = nth n (k + 1)) := (div256 _ n1 n2).trans (nth_succ n k)
    have HA : Hid (bits BinOp.and IntKind.i64 (nth n k) 255 = nth n k % 256) := i64_and255 _
    generalize hN : nth n k = N at n1 n2 HD HA
    by_cases hlt : k < 8
    · have c : wr.cell? ⟨w.heap.size, 7 - k, none⟩ = some (.int .u8 0) := by
        rw [hr.cellAt (7 - k) (by omega), u8s, List.getElem?_map, List.getElem?_append_left (by simp; omega), List.getElem?_replicate, if_pos (by omega)]
        rfl
      have cf := hr.frozenAt (7 - k)
      have HS := hr.stored (7 - k) (.int .u8 (N % 256))
      rw [set_zeros k _ _ hlt] at HS
      have HR : Hid ((wr.setCell ⟨w.heap.size, 7 - k, none⟩ (.int .u8 (N % 256))).ownsRow w.heap.size 5 1 (.slice (some ⟨w.heap.size, 0, none⟩) 8 8) 8 (u8s (List.replicate (8 - (k + 1)) 0 ++ N % 256 :: lowBytes n k))) := HS.1
      have HB : Hid (Below w.heap.size w wr) := hb
      have HNN : Hid (nth n k = N) := hN
      clear HS hr hb hN
      go_wp2
      rw [HA.out, HD.out]
      have e : N % 256 % 256 = N % 256 := by omega
      rw [e]
      go_roundw
      case rel => exact ⟨k + 1, by omega, by go_num, rfl, by rw [lowBytes, HNN.out]; exact HR.out, HB.out.setCell (Nat.le_refl _) _⟩
      case measure => simp [intOf]; omega
    · have hk8 : k = 8 := by omega
      subst hk8
      clear hN
      go_wp2
      go_ret
      exact ⟨rfl, by simpa using hr, hb⟩

theorem lowBytes_zero : ∀ k, lowBytes 0 k = List.replicate k 0
  | 0 => rfl
  | k + 1 => by rw [lowBytes, lowBytes_zero k, List.replicate_succ]; simp [nth]

theorem tail_cells {w : World} {base g : Nat} {m : Int} (h : w.ownsRow base 5 1 (.slice (some ⟨g, 0, none⟩) 8 8) 8 (u8s (lowBytes m 8))) :
    ∀ b, some (⟨g, 1, none⟩ : Addr) = some b → ∀ (j : Nat) (u : Value), (u8s (lowBytes m 7))[j]? = some u → w.cell? (b.add j) = some u := by
  intro b hb j u hj
  obtain rfl := Option.some.inj hb
  have hj7 : j < 7 := by
    rcases Nat.lt_or_ge j 7 with h' | h'
    · exact h'
    · rw [List.getElem?_eq_none (by simp [u8s_length, lowBytes_length]; omega)] at hj; cases hj
  have e : (⟨g, 1, none⟩ : Addr).add j = ⟨g, j + 1, none⟩ := by unfold Addr.add; split <;> simp_all; omega
  rw [e, h.cellAt (j + 1) (by omega)]
  have e2 : u8s (lowBytes m 8) = .int .u8 (nth m 7 % 256) :: u8s (lowBytes m 7) := rfl
  rw [e2]
  simpa using hj

set_option maxHeartbeats 400000 in
theorem eightBytes_any (n : Int) (w : World) (h1 : -9223372036854775808 ≤ n) (h2 : n ≤ 9223372036854775807) :
    Calls Tryd.prog 26 #[.int .i64 n] w fun e w' => ∃ v', e = .returned v' ∧ w'.ownsRow w.heap.size 5 1 v' 8 (u8s (lowBytes n 8)) ∧ Below w.heap.size w w' := by
  obtain ⟨iB, hiB, hzB0, hzB1, hzB2⟩ := info_parts infoB
  have HA : Hid (bits BinOp.and IntKind.i64 n 255 = n % 256) := i64_and255 n
  have HL : Hid (lowBytes n 8 = lowBytes (n / 256) 7 ++ [n % 256]) := lowBytes_div n 7
  have HD : Hid (wrap64 ((wrap64 (n - n % 256)).tdiv 256) = n / 256) := div256 n h1 h2
  generalize hlow : bits BinOp.and IntKind.i64 n 255 = low at HA
  by_cases hc : (n == low) = true
  · have hq : n / 256 = 0 := by have := HA.out; simp at hc; omega
    have HZ : Hid (lowBytes n 8 = List.replicate 7 0 ++ [low % 256]) := by
      show _ = _
      rw [HL.out, hq, lowBytes_zero, HA.out]
      simp
    generalize lowBytes n 8 = R at HZ
    clear hq HL HD
    go_enter Tryd.func26, Tryd.ntmps26
    go_wp2_with (at_builtin; refine wpList_append_own _ rfl (.tmp 21) (.tmp 24) 30 rfl w.heap.size 5 iB _ 1 1 Tryd.underlying30 hiB hzB0 hzB1 hzB2 rfl (by decide) _ 7 (u8s (List.replicate 7 0)) rfl ((own_built w w.heap.size 5 (u8s (List.replicate 7 0)) (Nat.le_refl _) (by simp [u8s, maxLen])).alloc _) ⟨w.heap.size + 1, 0, none⟩ 1 1 (u8s [low % 256]) rfl rfl (news_list _ _ _ _ (by simp)) (u8s_one _) (by simp [maxLen]) (by omega) (by simp; omega) ?_; intro v2 w2 hown2 hg2 _)
    go_ret
    refine ⟨_, rfl, by rw [HZ.out, u8s_append]; exact hown2, ?_⟩
    exact (((Below.refl _ w).alloc (Nat.le_refl _) _).alloc (by simp) _).trans (grown_base ((own_built w w.heap.size 5 (u8s (List.replicate 7 0)) (Nat.le_refl _) (by simp [u8s, maxLen])).alloc _) (by simp; omega) hg2)
  · have hc' : (n == low) = false := by simpa using hc
    have hD : wrap64 ((wrap64 (n - low)).tdiv 256) = n / 256 := by rw [HA.out]; exact HD.out
    have HZ : Hid (lowBytes n 8 = lowBytes (n / 256) 7 ++ [low % 256]) := by
      show _ = _
      rw [HL.out, HA.out]
      simp
    generalize lowBytes n 8 = R at HZ
    clear hc HL HD
    go_enter Tryd.func26, Tryd.ntmps26
    go_wp2_with (first
      | (go_at_call 36; refine (eightBytesOf_any (n / 256) _ (by omega) (by omega)).mono ?_; rintro e w1 ⟨rfl, hown1, hb1⟩)
      | (at_builtin; refine wpList_append_grows _ rfl (.tmp 21) (.tmp 24) 30 rfl 5 iB _ 1 1 Tryd.underlying30 hiB hzB0 hzB1 hzB2 rfl (by decide) (some ⟨w.heap.size, 1, none⟩) 7 7 (u8s (lowBytes (n / 256) 7)) rfl (by simp) (by simp [u8s_length, lowBytes_length]) (fun b hb j u hj => cell_alloc (tail_cells hown1 b hb j u hj) _) ⟨w1.heap.size, 0, none⟩ 1 1 (u8s [low % 256]) rfl rfl (news_list _ _ _ _ rfl) (u8s_one _) (by omega) (by simp [maxLen]) (by omega) ?_; intro v2 w2 hown2 hg2))
    go_ret
    have hz := hb1.size
    refine ⟨_, rfl, by rw [HZ.out, u8s_append]; exact own_base hown2 (by simp; omega), ?_⟩
    exact (hb1.alloc hz _).trans ((below_grown hg2).mono (by simp; omega))

end Go.Proofs.YtocdljoknbeolaaDoor
