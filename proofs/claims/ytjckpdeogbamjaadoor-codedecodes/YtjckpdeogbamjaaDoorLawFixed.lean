/- The walk of tierlinekeep.CodeFixed: at all bytes it says true, and nothing that was there has turned. -/
import Derived.Test.YtjckpdeogbamjaaDoorDecMath
import Derived.Test.YtjckpdeogbamjaaDoorEncode
namespace Go.Proofs.YtjckpdeogbamjaaDoor
open Go Go.RowKit

theorem bytes_none {w : World} {ao : Option Addr} {n cap : Nat} {l : List Int} (h : BytesVal w (.slice ao n cap) l) : ao = none → n = 0 ∧ cap = 0 := by
  obtain ⟨ao', n', cap', e, _, h2, _⟩ := h
  simp only [Value.slice.injEq] at e
  obtain ⟨rfl, rfl, rfl⟩ := e
  exact h2
theorem bytes_cells {w : World} {ao : Option Addr} {n cap : Nat} {l : List Int} (h : BytesVal w (.slice ao n cap) l) : ∀ ad, ao = some ad → ∀ j u, (u8s l)[j]? = some u → w.cell? (ad.add j) = some u := by
  obtain ⟨ao', n', cap', e, h1, _, h3⟩ := h
  simp only [Value.slice.injEq] at e
  obtain ⟨rfl, rfl, rfl⟩ := e
  intro ad ha j u hu
  have hj : j < l.length := by
    rcases Nat.lt_or_ge j l.length with h | h
    · exact h
    · rw [List.getElem?_eq_none (by simpa [u8s] using h)] at hu; simp at hu
  obtain ⟨b, off, e2, hc⟩ := h3 (by omega)
  obtain rfl : ad = ⟨b, off, none⟩ := Option.some.inj (ha.symm.trans e2)
  have := hc j (by omega)
  simp [u8s, hj] at hu
  subst hu
  rw [Addr.add_lit, this]
  simp [List.getD_eq_getElem?_getD, hj]

theorem decErr_zero {l : List Int} (h : decErr l = 0) : endOf l = l.length ∧ codeProg (progOf l) = 0 := by
  unfold decErr at h
  split at h
  · omega
  split at h
  · omega
  split at h
  · omega
  exact ⟨by omega, h⟩

set_option maxHeartbeats 1000000 in
theorem codeFixed_walk (l : List Int) (v : Value) (w : World) (ht : TabOk w) (hv : BytesVal w v l) (hby : ∀ i, 0 ≤ l.getD i 0 ∧ l.getD i 0 ≤ 255) (hm : l.length ≤ 140737488355328) :
    Calls Tryd.prog 6 #[v] w fun e w' => e = .returned (.bool true) ∧ Below w.heap.size w w' := by
  obtain ⟨iB, hiB, hzB0, hzB1, hzB2⟩ := info_parts infoB
  obtain ⟨ao, cap, rfl⟩ := hv.shape
  have HN : Hid (ao = none → l.length = 0 ∧ cap = 0) := bytes_none hv
  have HCL : Hid (∀ ad, ao = some ad → ∀ j u, (u8s l)[j]? = some u → w.cell? (ad.add j) = some u) := bytes_cells hv
  have HV : Hid (BytesVal w (.slice ao l.length cap) l) := hv
  have HD : Hid (∀ v w, TabOk w → BytesVal w v l → Calls Tryd.prog 9 #[v] w fun e w' => ∃ u us, e = .returned (.tuple #[.agg #[u], .int .i64 (decErr l)]) ∧ Built w' w.heap.size 42 44 u (decProg l) us ∧ Below w.heap.size w w') := fun v w h1 h2 => decode_any l v w h1 h2 hby
  obtain ⟨n, hn⟩ : ∃ n, n = l.length := ⟨_, rfl⟩
  have HNL : Hid (n = l.length) := hn
  rw [← hn] at HN HV hm ⊢
  have HE : Hid (decErr l = 0 ∨ decErr l ≠ 0) := by show _ ∨ _; omega
  have HT : Hid (TabOk w) := ht
  have HBY : Hid (∀ i, 0 ≤ l.getD i 0 ∧ l.getD i 0 ≤ 255) := hby
  clear hv hn hby ht
  rcases HE.out with h0 | h0
  · have h1 := decErr_zero h0
    have HP : Hid (decProg l = progOf l) := by show _ = _; simp [decProg, h0]
    have HB : Hid (progBytes (progOf l) = l) := progBytes_progOf l HBY.out h1.1
    have HCP : Hid (codeProg (progOf l) = 0) := h1.2
    rw [h0, HP.out] at HD
    clear h0 h1 HP
    generalize progOf l = P at HD HB HCP
    go_enter Tryd.func6, Tryd.ntmps6
    go_wp2_with (first
      | (at_builtin; (refine wpList_append_slice rfl (.const (.slice none 0 0)) (.tmp 8) 22 rfl w.heap.size 5 iB _ 1 1 Tryd.underlying22 hiB hzB0 hzB1 hzB2 rfl (by decide) (.slice none 0 0) 0 [] rfl (World.ownsRow_nil _ _ _ _) ao n cap (u8s l) rfl HN.out (by rw [HNL.out]; simp [u8s]) HCL.out (u8s_one _) (by unfold maxLen; omega) (by omega) (Nat.le_refl _) ?_; intro v1 w1 hown1 hg1; have hb1 := below_grown hg1; rw [Nat.zero_add] at hown1; obtain ⟨ao1, cap1, rfl⟩ := own_shape hown1; have hv1 : BytesVal w1 (.slice ao1 n cap1) l := bytes_of_own (base := w.heap.size) (by have h := hown1; rw [HNL.out] at h ⊢; exact h)))
      | (go_at_call 9; refine (HD.out _ _ (HT.out.below hb1) hv1).mono ?_; rintro e w2 ⟨u, us, rfl, hbt, hb2⟩; obtain ⟨aou, capu, rfl⟩ := own_shape hbt.row; have hb12 := hb1.trans (hb2.mono hb1.size); have hb3 := hb12.alloc hb12.size (.cells #[.slice aou P.length capu] 26))
      | (go_at_call 14; refine (encode_ok P _ _ (HT.out.below hb3) (hbt.alloc _).prog HCP.out).mono ?_; rintro e w4 ⟨v4, rfl, hown4, hb4⟩; rw [HB.out] at hown4; obtain ⟨ao4, cap4, rfl⟩ := own_shape hown4; have hb5 := hb3.trans (hb4.mono hb3.size); have hv4 := bytes_of_own hown4; have hvl := HV.out.keeps (keeps_below hb5); have c1 := conv_bytes hv4; have c2 := conv_bytes hvl))
    go_ret
    exact ⟨rfl, hb5⟩
  · have HP : Hid (decProg l = []) := by show _ = _; simp [decProg, h0]
    generalize decErr l = er at h0 HD
    go_enter Tryd.func6, Tryd.ntmps6
    go_wp2_with (first
      | (at_builtin; (refine wpList_append_slice rfl (.const (.slice none 0 0)) (.tmp 8) 22 rfl w.heap.size 5 iB _ 1 1 Tryd.underlying22 hiB hzB0 hzB1 hzB2 rfl (by decide) (.slice none 0 0) 0 [] rfl (World.ownsRow_nil _ _ _ _) ao n cap (u8s l) rfl HN.out (by rw [HNL.out]; simp [u8s]) HCL.out (u8s_one _) (by unfold maxLen; omega) (by omega) (Nat.le_refl _) ?_; intro v1 w1 hown1 hg1; have hb1 := below_grown hg1; rw [Nat.zero_add] at hown1; obtain ⟨ao1, cap1, rfl⟩ := own_shape hown1; have hv1 : BytesVal w1 (.slice ao1 n cap1) l := bytes_of_own (base := w.heap.size) (by have h := hown1; rw [HNL.out] at h ⊢; exact h)))
      | (go_at_call 9; refine (HD.out _ _ (HT.out.below hb1) hv1).mono ?_; rintro e w2 ⟨u, us, rfl, hbt, hb2⟩; rw [HP.out] at hbt; obtain ⟨aou, capu, rfl⟩ := own_shape hbt.row; have hb12 := hb1.trans (hb2.mono hb1.size)))
    go_ret
    exact ⟨rfl, hb12.alloc hb12.size _⟩

end Go.Proofs.YtjckpdeogbamjaaDoor
