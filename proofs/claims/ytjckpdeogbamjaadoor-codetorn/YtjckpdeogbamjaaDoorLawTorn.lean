/- The walk of tierlinekeep.CodeTorn: at all raw numbers, each place and each byte it says true, and nothing that was there has turned. -/
import Derived.Test.YtjckpdeogbamjaaDoorTornMath
import Derived.Test.YtjckpdeogbamjaaDoorLawFixed
namespace Go.Proofs.YtjckpdeogbamjaaDoor
open Go Go.RowKit

theorem own_cap {w : World} {base t size n : Nat} {v : Value} {xs : List Value} (h : w.ownsRow base t size v n xs) (hn : 0 < n) : ∃ g cap, v = .slice (some ⟨g, 0, none⟩) n cap ∧ n ≤ cap := by
  rcases h.2 with ⟨rfl, h0⟩ | ⟨g, cap, cur, rfl, _, _, hc, _⟩
  · omega
  · exact ⟨g, cap, rfl, hc⟩

set_option maxHeartbeats 1000000 in
theorem codeTorn_walk (l : List Fn) (v : Value) (cut tail : Int) (w : World) (ht : TabOk w) (hv : ProgVal w v l) (hwf : ∀ f ∈ l, f.wf) (hcut : I64 cut) (htail : 0 ≤ tail ∧ tail ≤ 255) :
    Calls Tryd.prog 7 #[v, .int .i64 cut, .int .u8 tail] w fun e w' => e = .returned (.bool true) ∧ Below w.heap.size w w' := by
  obtain ⟨iB, hiB, hzB0, hzB1, hzB2⟩ := info_parts infoB
  have hok := shaped_ok l
  obtain ⟨_, _, hb3, hb4, hb5, hb6⟩ := shaped_back l hwf
  have HS := shaped_mk l v w hv hwf
  obtain ⟨ao, n, cap, rfl⟩ := hv.shape
  generalize shapedP l = P at hok HS hb3 hb4 hb5 hb6
  have HSH : Hid (Calls Tryd.prog 13 #[.slice ao n cap] w fun e w' => ∃ v' us, e = .returned (.agg #[v']) ∧ Built w' w.heap.size 42 44 v' P us ∧ Below w.heap.size w w') := HS
  have HOK : Hid (codeProg P = 0) := hok
  have HT : Hid (TabOk w) := ht
  obtain ⟨L, hL⟩ : ∃ L, L = (progBytes P).length := ⟨_, rfl⟩
  have HLL : Hid (L = (progBytes P).length) := hL
  have hpk := pickI_bounds cut L (by omega)
  obtain ⟨k, hk⟩ : ∃ k : Nat, pickI cut L = (k : Int) := ⟨(pickI cut L).toNat, by omega⟩
  have hkL : k < L := by omega
  have HK : Hid (pickI cut L = (k : Int)) := hk
  have HD1 : Hid (∀ v w, TabOk w → BytesVal w v ((progBytes P).take k) → Calls Tryd.prog 9 #[v] w fun e w' => ∃ u us, e = .returned (.tuple #[.agg #[u], .int .i64 4]) ∧ Built w' w.heap.size 42 44 u (decProg ((progBytes P).take k)) us ∧ Below w.heap.size w w') := fun v w h1 h2 => by
    have h := decode_any ((progBytes P).take k) v w h1 h2 (bytes_take _ hb3 k)
    rw [torn_err _ hb4 (by omega) k (by omega)] at h
    exact h
  have HD2 : Hid (∀ v w, TabOk w → BytesVal w v (progBytes P ++ [tail]) → Calls Tryd.prog 9 #[v] w fun e w' => ∃ u us, e = .returned (.tuple #[.agg #[u], .int .i64 5]) ∧ Built w' w.heap.size 42 44 u (decProg (progBytes P ++ [tail])) us ∧ Below w.heap.size w w') := fun v w h1 h2 => by
    have h := decode_any (progBytes P ++ [tail]) v w h1 h2 (bytes_more _ hb3 tail htail)
    rw [more_err _ tail hb4 (by omega)] at h
    exact h
  rw [← hL] at hb5 hb6
  clear HS hv hwf hL hok ht hb3 hb4 hk hpk htail
  go_enter Tryd.func7, Tryd.ntmps7
  go_wp2_with (first
    | (go_at_call 13; refine HSH.out.mono ?_; rintro e w1 ⟨v1, us1, rfl, hbt1, hb1⟩; obtain ⟨ao1, cap1, rfl⟩ := own_shape hbt1.row)
    | (go_at_call 14; refine (encode_ok P _ _ (HT.out.below hb1) hbt1.prog HOK.out).mono ?_; rintro e w2 ⟨v2, rfl, hown2, hb2⟩; rw [← HLL.out] at hown2; obtain ⟨g2, cap2, rfl, hc2⟩ := own_cap hown2 (by omega); have B2 := hb1.trans (hb2.mono hb1.size); have hv2 : BytesVal w2 (.slice (some ⟨g2, 0, none⟩) L cap2) (progBytes P) := bytes_of_own (by rw [HLL.out] at hown2 ⊢; exact hown2); have hvk := bytes_cut hv2 k (by omega) (by omega); have hci : (k : Int) ≤ (cap2 : Int) := (by omega); have hbn := bytes_cells hv2)
    | (go_at_call 17; refine (picked_any cut L _ hcut (by omega) (by omega)).mono ?_; rintro e w' ⟨rfl, rfl⟩; rw [HK.out])
    | (go_at_call 9; have HDx := HD1.out; refine (HDx _ _ (HT.out.below B2) hvk).mono ?_; clear HDx; clear HD1; rintro e w3 ⟨v3, us3, rfl, hbt3, hb3⟩; obtain ⟨ao3, cap3, rfl⟩ := own_shape hbt3.row; have B3 := B2.trans (hb3.mono B2.size); have hv3 := (hv2.keeps (keeps_below hb3)).keeps (keeps_below ((Below.refl _ w3).alloc (Nat.le_refl _) (.cells #[.slice ao3 (decProg ((progBytes P).take k)).length cap3] 26))); have hc3 := bytes_cells hv3; have B4 := B3.alloc B3.size (.cells #[.slice ao3 (decProg ((progBytes P).take k)).length cap3] 26))
    | (at_builtin; have hc3' := hc3; (refine wpList_append_slice rfl (.const (.slice none 0 0)) (.tmp 37) 22 rfl (w3.heap.size + 1) 5 iB _ 1 1 Tryd.underlying22 hiB hzB0 hzB1 hzB2 rfl (by decide) (.slice none 0 0) 0 [] rfl (World.ownsRow_nil _ _ _ _) (some ⟨g2, 0, none⟩) L cap2 (u8s (progBytes P)) rfl (fun h => by simp at h) (by rw [HLL.out]; simp [u8s]) hc3 (u8s_one _) (by unfold maxLen; omega) (by omega) (by simp) ?_; clear hc3 hc3'; intro v5 w5 hown5 hg5; have hb5w := below_grown hg5; rw [Nat.zero_add] at hown5; obtain ⟨ao5, cap5, rfl⟩ := own_shape hown5; have B5 := B4.trans (hb5w.mono B4.size); have z5 : w3.heap.size + 1 ≤ w5.heap.size := (by have := hb5w.size; simpa using this)))
    | (at_builtin; (refine wpList_append_own _ rfl (.tmp 38) (.tmp 40) 22 rfl (w3.heap.size + 1) 5 iB _ 1 1 Tryd.underlying22 hiB hzB0 hzB1 hzB2 rfl (by decide) (.slice ao5 L cap5) L ([] ++ u8s (progBytes P)) rfl (hown5.alloc _) ⟨w5.heap.size, 0, none⟩ 1 1 (u8s [tail]) rfl rfl (news_list _ _ _ _ rfl) (u8s_one _) (by unfold maxLen; omega) (by omega) (by simp; omega) ?_; intro v6 w6 hown6 hg6 _; obtain ⟨ao6, cap6, rfl⟩ := own_shape hown6; have hrow6 : ∀ j, (Value.slice ao5 L cap5).ownBlock = some j → w3.heap.size + 1 ≤ j := (fun j hj => (hown5.lt j hj).1); have B6 := (B5.alloc B5.size (.cells #[.int .u8 tail] 5)).grown hg6 (by have := B3.size; simp; omega) (fun j hj => by have := hrow6 j hj; have := B3.size; omega); have hv6 : BytesVal w6 (.slice ao6 (L + 1) cap6) (progBytes P ++ [tail]) := bytes_of_own (base := w3.heap.size + 1) (by have h := hown6; rw [List.nil_append, ← u8s_append] at h; rw [List.length_append, ← HLL.out]; exact h)))
    | (go_at_call 9; (refine (HD2.out _ _ (HT.out.below B6) hv6).mono ?_; rintro e w7 ⟨v7, us7, rfl, hbt7, hb7⟩; obtain ⟨ao7, cap7, rfl⟩ := own_shape hbt7.row; have B7 := B6.trans (hb7.mono B6.size))))
  go_ret
  exact ⟨rfl, B7.alloc B7.size _⟩

end Go.Proofs.YtjckpdeogbamjaaDoor
