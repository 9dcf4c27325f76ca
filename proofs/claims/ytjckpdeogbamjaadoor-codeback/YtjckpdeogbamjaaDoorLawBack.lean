/- The walk of tierlinekeep.CodeBack: at all raw numbers it says true, and nothing that was there has turned. -/
import Derived.Test.YtjckpdeogbamjaaDoorShapeImm
import Derived.Test.YtjckpdeogbamjaaDoorSameK
namespace Go.Proofs.YtjckpdeogbamjaaDoor
open Go Go.RowKit

set_option maxHeartbeats 1000000 in
theorem codeBack_walk (l : List Fn) (v : Value) (w : World) (ht : TabOk w) (hv : ProgVal w v l) (hwf : ∀ f ∈ l, f.wf) :
    Calls Tryd.prog 4 #[v] w fun e w' => e = .returned (.bool true) ∧ Below w.heap.size w w' := by
  have hok := shaped_ok l
  obtain ⟨hb1, hb2, hb3, _, hb5, hb6⟩ := shaped_back l hwf
  have HS := shaped_mk l v w hv hwf
  obtain ⟨ao, n, cap, rfl⟩ := hv.shape
  have HD : Hid (∀ v w, TabOk w → BytesVal w v (progBytes (shapedP l)) → Calls Tryd.prog 9 #[v] w fun e w' => ∃ u us, e = .returned (.tuple #[.agg #[u], .int .i64 0]) ∧ Built w' w.heap.size 42 44 u (shapedP l) us ∧ Below w.heap.size w w') := fun v w h1 h2 => by
    have h := decode_any (progBytes (shapedP l)) v w h1 h2 hb3
    rw [hb1, hb2] at h
    exact h
  clear hb1 hb2 hb3
  generalize shapedP l = P at hok HS HD hb5 hb6
  have HSH : Hid (Calls Tryd.prog 13 #[.slice ao n cap] w fun e w' => ∃ v' us, e = .returned (.agg #[v']) ∧ Built w' w.heap.size 42 44 v' P us ∧ Below w.heap.size w w') := HS
  have HC : Hid (∀ v W, TabOk W → ProgVal W v P → Calls Tryd.prog 16 #[.agg #[v]] W fun e w' => e = .returned (.int .i64 0) ∧ Below W.heap.size W w') := fun v W h1 h2 => by
    have h := check_any P v W h1 h2
    rw [hok] at h
    exact h
  obtain ⟨L, hL⟩ : ∃ L, L = (progBytes P).length := ⟨_, rfl⟩
  have HLL : Hid (L = (progBytes P).length) := hL
  rw [← hL] at hb5 hb6
  have HOK : Hid (codeProg P = 0) := hok
  have HT : Hid (TabOk w) := ht
  clear HS hv hwf hL hok ht
  go_enter Tryd.func4, Tryd.ntmps4
  go_wp2_with (first
    | (go_at_call 13; refine HSH.out.mono ?_; rintro e w1 ⟨v1, us1, rfl, hbt1, hb1⟩; obtain ⟨ao1, cap1, rfl⟩ := own_shape hbt1.row; have B1 := (Below.refl w1.heap.size w1).alloc (Nat.le_refl _) (.cells #[.slice ao1 P.length cap1] 26))
    | (go_at_call 14; refine (encode_ok P _ _ ((HT.out.below hb1).below B1) (hbt1.alloc _).prog HOK.out).mono ?_; rintro e w2 ⟨v2, rfl, hown2, hb2⟩; rw [← HLL.out] at hown2; obtain ⟨ao2, cap2, rfl⟩ := own_shape hown2; have B2 := B1.trans (hb2.mono (by simp)); have hv2 : BytesVal w2 (.slice ao2 L cap2) (progBytes P) := bytes_of_own (by rw [HLL.out] at hown2 ⊢; exact hown2))
    | (go_at_call 9; refine (HD.out _ _ ((HT.out.below hb1).below B2) hv2).mono ?_; rintro e w3 ⟨v3, us3, rfl, hbt3, hb3⟩; obtain ⟨ao3, cap3, rfl⟩ := own_shape hbt3.row; have B3 := B2.trans (hb3.mono B2.size); have kp := keeps_below hb3 _ _ (keeps_below hb2 ⟨w1.heap.size, 0, none⟩ (.slice ao1 P.length cap1) (by simp)); have kq := cell_alloc kp (.cells #[.slice ao3 P.length cap3] 26); have B4 := B3.alloc B3.size (.cells #[.slice ao3 P.length cap3] 26); have hA := (hbt1.below B4).prog; have hB := (hbt3.alloc (.cells #[.slice ao3 P.length cap3] 26)).prog)
    | (go_at_call 15; refine (sameK_true P _ _ _ hA hB).mono ?_; rintro e w4 ⟨rfl, hb4⟩; have kr := keeps_below hb4 _ _ kq; have B5 := B4.trans (hb4.mono B4.size); have hA5 := (hbt1.below B5).prog)
    | (go_at_call 16; refine (HC.out _ _ ((HT.out.below hb1).below B5) hA5).mono ?_; rintro e w5 ⟨rfl, hb5'⟩))
  go_ret
  exact ⟨by show Ending.returned (.bool (decide (0 < L))) = _; rw [decide_eq_true (show 0 < L by omega)], hb1.trans ((B5.trans (hb5'.mono B5.size)).mono hb1.size)⟩

end Go.Proofs.YtjckpdeogbamjaaDoor
