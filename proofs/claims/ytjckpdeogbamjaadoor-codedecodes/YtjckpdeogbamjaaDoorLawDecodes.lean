/- The walk of tierlinelaw.CodeDecodes: at all bytes it says true, and nothing that was there has turned. -/
import Derived.Test.YtjckpdeogbamjaaDoorPofAny
import Derived.Test.YtjckpdeogbamjaaDoorLawFixed
import Derived.Test.YtjckpdeogbamjaaDoorSame
namespace Go.Proofs.YtjckpdeogbamjaaDoor
open Go Go.RowKit

theorem octets_any (l : List Int) (v : Value) (w : World) (hv : BytesVal w v l) (hm : l.length ≤ 140737488355328) :
    Calls Tryd.prog 8 #[v] w fun e w' => ∃ v', e = .returned v' ∧ w'.ownsRow w.heap.size 5 1 v' l.length (u8s l) ∧ Below w.heap.size w w' := by
  obtain ⟨iB, hiB, hzB0, hzB1, hzB2⟩ := info_parts infoB
  obtain ⟨ao, cap, rfl⟩ := hv.shape
  have HN : Hid (ao = none → l.length = 0 ∧ cap = 0) := bytes_none hv
  have HCL : Hid (∀ ad, ao = some ad → ∀ j u, (u8s l)[j]? = some u → w.cell? (ad.add j) = some u) := bytes_cells hv
  obtain ⟨n, hn⟩ : ∃ n, n = l.length := ⟨_, rfl⟩
  have HNL : Hid (n = l.length) := hn
  rw [← hn] at HN hm ⊢
  clear hv hn
  go_enter Tryd.func8, Tryd.ntmps8
  go_wp2_with (at_builtin; (refine wpList_append_slice rfl (.const (.slice none 0 0)) (.tmp 3) 22 rfl w.heap.size 5 iB _ 1 1 Tryd.underlying22 hiB hzB0 hzB1 hzB2 rfl (by decide) (.slice none 0 0) 0 [] rfl (World.ownsRow_nil _ _ _ _) ao n cap (u8s l) rfl HN.out (by rw [HNL.out]; simp [u8s]) HCL.out (u8s_one _) (by unfold maxLen; omega) (by omega) (Nat.le_refl _) ?_; intro v1 w1 hown1 hg1; rw [Nat.zero_add] at hown1))
  go_ret
  exact ⟨v1, rfl, hown1, below_grown hg1⟩

set_option maxHeartbeats 1000000 in
theorem codeDecodes_walk (l : List Int) (v : Value) (w : World) (ht : TabOk w) (hv : BytesVal w v l) (hby : ∀ i, 0 ≤ l.getD i 0 ∧ l.getD i 0 ≤ 255) (hm : l.length ≤ 140737488355328) :
    Calls Tryd.prog 3 #[v] w fun e w' => e = .returned (.bool true) ∧ Below w.heap.size w w' := by
  have HO : Hid (Calls Tryd.prog 8 #[v] w fun e w' => ∃ v', e = .returned v' ∧ w'.ownsRow w.heap.size 5 1 v' l.length (u8s l) ∧ Below w.heap.size w w') := octets_any l v w hv hm
  have HD : Hid (∀ v w, TabOk w → BytesVal w v l → Calls Tryd.prog 9 #[v] w fun e w' => ∃ u us, e = .returned (.tuple #[.agg #[u], .int .i64 (decErr l)]) ∧ Built w' w.heap.size 42 44 u (decProg l) us ∧ Below w.heap.size w w') := fun v w h1 h2 => decode_any l v w h1 h2 hby
  have HP : Hid (∀ v w, BytesVal w v l → Calls Tryd.prog 10 #[v] w fun e w' => ∃ u us, e = .returned (.tuple #[.agg #[u], .int .i64 (decErr l)]) ∧ Built w' w.heap.size 42 44 u (decProg l) us ∧ Below w.heap.size w w') := fun v w h2 => pof_any l v w h2 hby
  have HV : Hid (∀ W, Below w.heap.size w W → BytesVal W v l) := fun W hb => hv.keeps (keeps_below hb)
  obtain ⟨ao, cap, rfl⟩ := hv.shape
  obtain ⟨n, hn⟩ : ∃ n, n = l.length := ⟨_, rfl⟩
  have HNL : Hid (n = l.length) := hn
  rw [← hn] at HO HV ⊢
  have HT : Hid (TabOk w) := ht
  generalize decErr l = er at HD HP
  generalize decProg l = P at HD HP
  have heq : (er == er) = true := by simp
  clear hv hn hby ht hm
  go_enter Tryd.func3, Tryd.ntmps3
  go_wp2_with (first
    | (go_at_call 8; refine HO.out.mono ?_; rintro e w1 ⟨v1, rfl, hown1, hb1⟩; obtain ⟨ao1, cap1, rfl⟩ := own_shape hown1; have hv1 : Hid (BytesVal w1 (.slice ao1 n cap1) l) := (show BytesVal _ _ _ from bytes_of_own (base := w.heap.size) (by have h := hown1; rw [HNL.out] at h ⊢; exact h)); have B1 : Hid (Below w.heap.size w w1) := hb1; clear hown1 hb1)
    | (go_at_call 9; refine (HD.out _ _ (HT.out.below B1.out) hv1.out).mono ?_; rintro e w2 ⟨u2, us2, rfl, hbt2, hb2⟩; obtain ⟨ao2, cap2, rfl⟩ := own_shape hbt2.row; have B2 : Hid (Below w.heap.size w (w2.alloc (.cells #[.slice ao2 P.length cap2] 26))) := (show Below _ _ _ from (B1.out.trans (hb2.mono B1.out.size)).alloc (Nat.le_trans B1.out.size hb2.size) _); have H2 : Hid _ := hbt2.alloc (.cells #[.slice ao2 P.length cap2] 26); have hv2 : Hid (BytesVal (w2.alloc (.cells #[.slice ao2 P.length cap2] 26)) (.slice ao1 n cap1) l) := (hv1.out.keeps (keeps_below hb2)).keeps (keeps_below ((Below.refl _ w2).alloc (Nat.le_refl _) (.cells #[.slice ao2 P.length cap2] 26))); clear hbt2 hb2)
    | (go_at_call 10; (refine (HP.out _ _ (HV.out _ B2.out)).mono ?_; rintro e w3 ⟨u3, us3, rfl, hbt3, hb3⟩; obtain ⟨ao3, cap3, rfl⟩ := own_shape hbt3.row; have k3 := keeps_below hb3 ⟨w2.heap.size, 0, none⟩ (.slice ao2 P.length cap2) (by simp); have k4 := cell_alloc k3 (.cells #[.slice ao3 P.length cap3] 26); have C3 := hb3.trans ((Below.refl _ w3).alloc (by exact hb3.size) (.cells #[.slice ao3 P.length cap3] 26)); have hA : Hid (ProgVal (w3.alloc (.cells #[.slice ao3 P.length cap3] 26)) (.slice ao2 P.length cap2) P) := (Built.prog (H2.out.below C3)); have hB : Hid (ProgVal (w3.alloc (.cells #[.slice ao3 P.length cap3] 26)) (.slice ao3 P.length cap3) P) := (Built.prog (hbt3.alloc (.cells #[.slice ao3 P.length cap3] 26))); have B3 : Hid (Below w.heap.size w (w3.alloc (.cells #[.slice ao3 P.length cap3] 26))) := (show Below _ _ _ from B2.out.trans (C3.mono B2.out.size)); have hv3 : Hid (BytesVal (w3.alloc (.cells #[.slice ao3 P.length cap3] 26)) (.slice ao1 n cap1) l) := hv2.out.keeps (keeps_below C3); clear hbt3 hb3 C3))
    | (go_at_call 11; (refine (same_true P _ _ _ hA.out hB.out).mono ?_; rintro e w4 ⟨rfl, hb4⟩; have B4 : Hid (Below w.heap.size w w4) := (show Below _ _ _ from B3.out.trans (hb4.mono B3.out.size)); have hv4 : Hid (BytesVal w4 (.slice ao1 n cap1) l) := hv3.out.keeps (keeps_below hb4); clear hb4))
    | (go_at_call 12; (refine (sameBytes_true l _ _ _ hv4.out (HV.out _ B4.out)).mono ?_; rintro e w5 ⟨rfl, hw5⟩; subst hw5)))
  go_ret
  exact ⟨rfl, B4.out⟩

end Go.Proofs.YtjckpdeogbamjaaDoor
