import Derived.Test.YtldbmdgpdolaaaaDoorPXOneRight
import Derived.Test.YtldbmdgpdolaaaaDoorPXSsaOwn
import Derived.Test.YtldbmdgpdolaaaaDoorPXPlaceOk
namespace Go.Proofs.YtldbmdgpdolaaaaDoor
open Go Go.RowKit

theorem metT_keep {f : Fn} {L : List Int} {xs : List InsD} {rg : List Int} {M : Nat → List Int} {z : Int} {v i : Nat} (h : z ∈ metT f L xs rg M i v) : ∀ j, i ≤ j → z ∈ metT f L xs rg M j v := by
  intro j hj
  induction j with
  | zero => obtain rfl : i = 0 := by omega
            exact h
  | succ j ih =>
    rcases Nat.lt_or_ge j i with hl | hl
    · obtain rfl : i = j + 1 := by omega
      exact h
    · have h1 := metL2_keeps (l := ofT (mkL L (xs.getD j noIns).pc.toNat) (regT f xs rg j) 12) (ih hl)
      show z ∈ (if (xs.getD j noIns).id = -1 then _ else _ : Nat → List Int) v
      split
      · exact h1
      · exact metL2_keeps h1
theorem metT_here {f : Fn} {L : List Int} {xs : List InsD} {rg : List Int} {M : Nat → List Int} (hd : WalkNd f L xs rg) {z : Int} {v j : Nat} (hj : j < xs.length) (hv : (v : Int) ∈ ofT (mkL L (xs.getD j noIns).pc.toNat) (regT f xs rg j) 12) (hz : z ∈ ofT (mkL L (xs.getD j noIns).pc.toNat) (regT f xs rg j) 12) (hne : z ≠ (v : Int)) : z ∈ metT f L xs rg M (j + 1) v := by
  have h1 : z ∈ metL2 (metT f L xs rg M j) (ofT (mkL L (xs.getD j noIns).pc.toNat) (regT f xs rg j) 12) v := (metL2_mem (ofT_nodup fun r s hr hs => hd.one j hj r s hr hs)).2 (Or.inr ⟨hv, hz, hne⟩)
  show z ∈ (if (xs.getD j noIns).id = -1 then _ else _ : Nat → List Int) v
  split
  · exact h1
  · exact metL2_keeps h1
theorem metT_from {f : Fn} {L : List Int} {xs : List InsD} {rg : List Int} {M : Nat → List Int} (hd : WalkNd f L xs rg) {z : Int} {v : Nat} : ∀ j, j ≤ xs.length → z ∈ metT f L xs rg M j v → z ∈ M v ∨ ∃ i, i < j ∧ ((∃ r s, r < 12 ∧ s < 12 ∧ (regT f xs rg i).getD r 0 = (v : Int) ∧ (regT f xs rg i).getD s 0 = z) ∨ ((xs.getD i noIns).id ≠ -1 ∧ ∃ r s, r < 12 ∧ s < 12 ∧ (regT f xs rg (i + 1)).getD r 0 = (v : Int) ∧ (regT f xs rg (i + 1)).getD s 0 = z))
  | 0, _, h => Or.inl h
  | j + 1, hj, h => by
    have up : (z ∈ M v ∨ ∃ i, i < j ∧ ((∃ r s, r < 12 ∧ s < 12 ∧ (regT f xs rg i).getD r 0 = (v : Int) ∧ (regT f xs rg i).getD s 0 = z) ∨ ((xs.getD i noIns).id ≠ -1 ∧ ∃ r s, r < 12 ∧ s < 12 ∧ (regT f xs rg (i + 1)).getD r 0 = (v : Int) ∧ (regT f xs rg (i + 1)).getD s 0 = z))) → (z ∈ M v ∨ ∃ i, i < j + 1 ∧ ((∃ r s, r < 12 ∧ s < 12 ∧ (regT f xs rg i).getD r 0 = (v : Int) ∧ (regT f xs rg i).getD s 0 = z) ∨ ((xs.getD i noIns).id ≠ -1 ∧ ∃ r s, r < 12 ∧ s < 12 ∧ (regT f xs rg (i + 1)).getD r 0 = (v : Int) ∧ (regT f xs rg (i + 1)).getD s 0 = z))) := fun hc => by
      rcases hc with hc | ⟨i, hi, hc⟩
      · exact Or.inl hc
      · exact Or.inr ⟨i, by omega, hc⟩
    have first : z ∈ metL2 (metT f L xs rg M j) (ofT (mkL L (xs.getD j noIns).pc.toNat) (regT f xs rg j) 12) v → (z ∈ M v ∨ ∃ i, i < j + 1 ∧ ((∃ r s, r < 12 ∧ s < 12 ∧ (regT f xs rg i).getD r 0 = (v : Int) ∧ (regT f xs rg i).getD s 0 = z) ∨ ((xs.getD i noIns).id ≠ -1 ∧ ∃ r s, r < 12 ∧ s < 12 ∧ (regT f xs rg (i + 1)).getD r 0 = (v : Int) ∧ (regT f xs rg (i + 1)).getD s 0 = z))) := fun h1 => by
      rcases (metL2_mem (ofT_nodup fun r s hr hs => hd.one j (by omega) r s hr hs)).1 h1 with h1 | ⟨h1, h2, -⟩
      · exact up (metT_from hd j (by omega) h1)
      · obtain ⟨r, hr, -, er⟩ := ofT_mem.1 h1
        obtain ⟨s, hs, -, es⟩ := ofT_mem.1 h2
        exact Or.inr ⟨j, by omega, Or.inl ⟨r, s, hr, hs, er, es⟩⟩
    have h : z ∈ (if (xs.getD j noIns).id = -1 then metL2 (metT f L xs rg M j) (ofT (mkL L (xs.getD j noIns).pc.toNat) (regT f xs rg j) 12) else metL2 (metL2 (metT f L xs rg M j) (ofT (mkL L (xs.getD j noIns).pc.toNat) (regT f xs rg j) 12)) (ofT (mkL L ((xs.getD j noIns).pc.toNat + 1) ||| 2 ^ (insD f (xs.getD j noIns).pc.toNat).dst.toNat) (regT f xs rg (j + 1)) 12) : Nat → List Int) v := h
    by_cases hid : (xs.getD j noIns).id = -1
    · rw [if_pos hid] at h; exact first h
    · rw [if_neg hid] at h
      rcases (metL2_mem (ofT_nodup fun r s hr hs => hd.two j (by omega) hid r s hr hs)).1 h with h1 | ⟨h1, h2, -⟩
      · exact first h1
      · obtain ⟨r, hr, -, er⟩ := ofT_mem.1 h1
        obtain ⟨s, hs, -, es⟩ := ofT_mem.1 h2
        exact Or.inr ⟨j, by omega, Or.inr ⟨hid, r, s, hr, hs, er, es⟩⟩
def rvK (k j r : Nat) : Int := if k ≤ r then -1 else if j ≤ k then (if r < j then madeI r else -1) else if r = 0 then madeI (j - 1) else madeI r
def lineC (k : Nat) : List Ins := (List.range k).map (fun (i : Nat) => (⟨1, (i : Int), 0, 0, (i : Int)⟩ : Ins)) ++ ((List.range (k - 1)).map (fun (i : Nat) => (⟨2, 0, 0, ((i + 1 : Nat) : Int), 0⟩ : Ins)) ++ [⟨19, 0, 0, 0, 0⟩])
def lineF (k : Nat) : Fn := ⟨0, (k : Int), lineC k⟩
section
variable {k : Nat} (h2 : 2 ≤ k)
include h2
theorem line_len : (lineF k).code.length = 2 * k := by
  show (lineC k).length = _
  simp [lineC]; omega
omit h2 in
theorem line_set {q : Nat} (hq : q < k) : insD (lineF k) q = ⟨1, (q : Int), 0, 0, (q : Int)⟩ := by
  show (lineC k).getD q _ = _
  simp [lineC, List.getD, List.getElem?_append, hq]
theorem line_add {q : Nat} (h : k ≤ q) (hq : q < 2 * k - 1) : insD (lineF k) q = ⟨2, 0, 0, ((q - k + 1 : Nat) : Int), 0⟩ := by
  show (lineC k).getD q _ = _
  simp [lineC, List.getD, List.getElem?_append, show ¬ q < k by omega, show q - k < k - 1 by omega]
theorem line_ret : insD (lineF k) (2 * k - 1) = ⟨19, 0, 0, 0, 0⟩ := by
  show (lineC k).getD (2 * k - 1) _ = _
  simp [lineC, List.getD, List.getElem?_append, show ¬ 2 * k - 1 < k by omega, show ¬ 2 * k - 1 - k < k - 1 by omega, show 2 * k - 1 - k - (k - 1) = 0 by omega]
theorem line_op {q : Nat} (hq : q < 2 * k) : (q < k ∧ insD (lineF k) q = ⟨1, (q : Int), 0, 0, (q : Int)⟩) ∨ (k ≤ q ∧ q < 2 * k - 1 ∧ insD (lineF k) q = ⟨2, 0, 0, ((q - k + 1 : Nat) : Int), 0⟩) ∨ (q = 2 * k - 1 ∧ insD (lineF k) q = ⟨19, 0, 0, 0, 0⟩) := by
  rcases Nat.lt_or_ge q k with h | h
  · exact Or.inl ⟨h, line_set h⟩
  · rcases Nat.lt_or_ge q (2 * k - 1) with h' | h'
    · exact Or.inr (Or.inl ⟨h, h', line_add h2 h h'⟩)
    · obtain rfl : q = 2 * k - 1 := by omega
      exact Or.inr (Or.inr ⟨rfl, line_ret h2⟩)
theorem line_behind {q : Nat} (hq : q < 2 * k) : behind (insD (lineF k) q) q = if q = 2 * k - 1 then [] else [q + 1] := by
  rcases line_op h2 hq with ⟨h, e⟩ | ⟨-, h, e⟩ | ⟨h, e⟩ <;> rw [e]
  · rw [if_neg (by omega)]; rfl
  · rw [if_neg (by omega)]; rfl
  · rw [if_pos h]; rfl
theorem line_way {r q : Nat} (hr : r < k) (h : Way (lineF k) r q) : q ≤ r := by
  induction h with
  | start _ => exact Nat.zero_le _
  | @step pc tq hp hw hb ht ih =>
    rw [line_len h2] at hp
    rw [line_behind h2 hp] at ht
    by_cases e : pc = 2 * k - 1
    · omega
    · rw [if_neg e] at ht
      have ht : tq = pc + 1 := by simpa using ht
      by_cases e2 : pc = r
      · rw [e2, line_set hr] at hb
        simp [setMask, setsB] at hb
      · omega
theorem line_last {q : Nat} (h : Way (lineF k) 63 q) : q < 2 * k := by
  induction h with
  | start _ => omega
  | @step pc tq hp hw hb ht ih =>
    rw [line_behind h2 ih] at ht
    by_cases e : pc = 2 * k - 1
    · rw [if_pos e] at ht; cases ht
    · rw [if_neg e] at ht
      have ht : tq = pc + 1 := by simpa using ht
      omega
end
theorem line_code {k : Nat} (h2 : 2 ≤ k) (h12 : k ≤ 12) : codeProg [lineF k] = 0 := by
  rcases (show k = 2 ∨ k = 3 ∨ k = 4 ∨ k = 5 ∨ k = 6 ∨ k = 7 ∨ k = 8 ∨ k = 9 ∨ k = 10 ∨ k = 11 ∨ k = 12 by omega) with rfl | rfl | rfl | rfl | rfl | rfl | rfl | rfl | rfl | rfl | rfl <;> decide +kernel
theorem line_right {k : Nat} (h2 : 2 ≤ k) (h12 : k ≤ 12) : ProofAns [lineF k] 0 := by
  refine one_right (line_code h2 h12) (fun pc hpc r hr => ?_) (fun h => ?_)
  · rw [line_len h2] at hpc
    rcases line_op h2 hpc with ⟨h, e⟩ | ⟨h, h', e⟩ | ⟨h, e⟩
    · rw [e] at hr; simp [readsL, rdA, rdB, readsAB, readsBB] at hr
    · rw [e] at hr
      have : r = 0 ∨ r = ((pc - k + 1 : Nat) : Int) := by simpa [readsL, rdA, rdB, readsAB, readsBB] using hr
      rcases this with rfl | rfl
      · exact fun hw => by have := line_way h2 (by omega) hw; simp at this; omega
      · exact fun hw => by have := line_way h2 (by omega) hw; omega
    · rw [e] at hr
      have : r = 0 := by simpa [readsL, rdA, rdB, readsAB, readsBB] using hr
      subst this
      exact fun hw => by have := line_way h2 (by omega) hw; simp at this; omega
  · have := line_last h2 h
    rw [line_len h2] at this; omega
theorem line_ok {k : Nat} (h2 : 2 ≤ k) (h12 : k ≤ 12) : FlowOk [lineF k] (lineF k) := flowOk_of (line_right h2 h12) (by simp)
section
variable {k : Nat} (h2 : 2 ≤ k) (h12 : k ≤ 12)
include h2 h12
theorem line_bit {q : Nat} (hq : q < 2 * k) : (setMask (insD (lineF k) q)).testBit 63 = false := by
  rcases line_op h2 hq with ⟨h, e⟩ | ⟨h, h', e⟩ | ⟨h, e⟩ <;> rw [e]
  · have : setMask (⟨1, (q : Int), 0, 0, (q : Int)⟩ : Ins) = 2 ^ q := by simp [setMask, setsB]
    rw [this, Nat.testBit_two_pow]
    exact decide_eq_false (by omega)
  · have : setMask (⟨2, 0, 0, ((q - k + 1 : Nat) : Int), 0⟩ : Ins) = 2 ^ 0 := by simp [setMask, setsB]
    rw [this, Nat.testBit_two_pow]
    exact decide_eq_false (by omega)
  · have : setMask (⟨19, 0, 0, 0, 0⟩ : Ins) = 0 := by simp [setMask, setsB]
    rw [this]; simp
theorem line_reach : ∀ q, q < 2 * k → Way (lineF k) 63 q
  | 0, _ => Way.start (by show (0 : Int) ≤ 63; decide)
  | q + 1, h => Way.step (by rw [line_len h2]; omega) (line_reach q (by omega)) (line_bit h2 h12 (by omega)) (by rw [line_behind h2 (by omega), if_neg (by omega)]; simp)
omit h12 in
theorem line_starts : Starts (lineF k) [0] := by
  refine ⟨by decide, fun q => ⟨fun h => Or.inl (by simpa using h), fun h => ?_⟩⟩
  rcases h with rfl | ⟨pc, hp, -, ho, hq⟩
  · simp
  · rw [line_len h2] at hp
    rcases line_op h2 hp with ⟨h, e⟩ | ⟨h, h', e⟩ | ⟨h, e⟩
    · rw [e] at ho; exact absurd ho (by show ¬ (15 : Int) ≤ 1; decide)
    · rw [e] at ho; exact absurd ho (by show ¬ (15 : Int) ≤ 2; decide)
    · rw [line_behind h2 hp, if_pos h] at hq; cases hq
theorem line_end : EndAt (lineF k) [0] 0 (2 * k) := by
  refine ⟨by omega, by rw [line_len h2]; exact Nat.le_refl _, Or.inl (by rw [line_ret h2]; show (15 : Int) ≤ 19; decide), fun j h1 hj => ⟨?_, by simp; omega⟩⟩
  rcases line_op h2 (q := j - 1) (by omega) with ⟨h, e⟩ | ⟨h, h', e⟩ | ⟨h, e⟩
  · rw [e]; show (1 : Int) < 15; decide
  · rw [e]; show (2 : Int) < 15; decide
  · omega
theorem line_lives {P : List Fn} : ∀ (n : Nat) {r q : Nat}, q + n = k + (r - 1) → k ≤ q → r < k → LiveW P (lineF k) r q
  | 0, r, q, he, hq, hr => by
    have e := line_add h2 hq (by omega)
    refine LiveW.read (by rw [line_len h2]; omega) ?_
    have hm : rdMask P (insD (lineF k) q) = 2 ^ 0 ||| 2 ^ (q - k + 1) := by
      rw [e]; simp [rdMask, rdA, rdB, readsAB, readsBB]
    rw [hm, Nat.testBit_or, Nat.testBit_two_pow, Nat.testBit_two_pow]
    rcases Nat.eq_zero_or_pos r with h0 | h0
    · subst h0; rfl
    · rw [decide_eq_true (p := q - k + 1 = r) (by omega), Bool.or_true]
  | n + 1, r, q, he, hq, hr => by
    have e := line_add h2 hq (by omega)
    refine LiveW.on (by rw [line_len h2]; omega) ?_ (by rw [line_behind h2 (by omega), if_neg (by omega)]; exact List.mem_singleton.2 rfl) (line_lives n (by omega) (by omega) hr)
    have hm : setMask (insD (lineF k) q) = 2 ^ 0 := by rw [e]; simp [setMask, setsB]
    rw [hm, Nat.testBit_two_pow]
    exact decide_eq_false (by omega)
variable {S : List Nat} {T : Nat → Nat} {L : List Int} {pn : Nat} {g : List (Int × Int)} {D : PDat}
theorem line_S (h : SsaIs [lineF k] (lineF k) S T L pn g D) : S = [0] ∧ T 0 = 2 * k := by
  have e := h.ok.starts.unique (line_starts h2)
  subst e
  exact ⟨rfl, (h.ok.ends 0 (by decide)).unique (line_end h2 h12)⟩
theorem line_mk (h : SsaIs [lineF k] (lineF k) S T L pn g D) {r : Nat} (hr : r < k) : (mkL L k).testBit r = true := by
  rcases h.live.2 k (by rw [line_len h2]; omega) with ⟨hw, -⟩ | ⟨-, mm, hm, e, hb⟩
  · exact absurd (line_reach h2 h12 k (by omega)) hw
  · have : mkL L k = mm := by unfold mkL; rw [e]; rfl
    rw [this, hb r (by omega)]
    exact line_lives h2 h12 (r - 1) (by omega) (Nat.le_refl _) hr
theorem line_sets {q : Nat} (hq : q < 2 * k) : setsB (insD (lineF k) q).op = decide (q < 2 * k - 1) := by
  rcases line_op h2 hq with ⟨h, e⟩ | ⟨h, h', e⟩ | ⟨h, e⟩ <;> rw [e]
  · rw [decide_eq_true (by omega)]; rfl
  · rw [decide_eq_true (by omega)]; rfl
  · rw [decide_eq_false (by omega)]; rfl
theorem line_new (h : SsaIs [lineF k] (lineF k) S T L pn g D) (hU : ∀ q, q < (lineF k).code.length → Way (lineF k) 63 q → ∀ r, r < 12 → (rdMask [lineF k] (insD (lineF k) q)).testBit r = true → ¬ Way (lineF k) r q) : (idsD pn S.length D).length = 2 * k - 1 ∧ ∀ q, q < 2 * k - 1 → newI g (idsD pn S.length D) (madeI q) = (q : Int) := by
  obtain ⟨rfl, t0⟩ := line_S h2 h12 h
  have hpv : prevs (lineF k) [0] T 0 = [-1] := by
    have hr : List.range ([0] : List Nat).length = [0] := rfl
    have hn : nxI (lineF k) [0] (2 * k) = [] := by
      unfold nxI
      rw [line_ret h2]; rfl
    unfold prevs pvI
    rw [hr]
    simp [List.filter, t0, hn]
  have hph : D.ph 0 = [] := by
    rw [h.phFilter (line_ok h2 h12) (b := 0) (by decide)]
    unfold phiM
    rw [if_neg (by rw [hpv]; decide)]; rfl
  have hpn : pn = 0 := by have h1 : (0 : Int) = (pn : Int) := h.par; omega
  have hin : D.ins 0 = insL [lineF k] (lineF k) 0 (2 * k) (fromR (lineF k) [0] T L 0) := by
    rw [h.left.ins 0 (by decide)]
    show insL _ _ 0 (T 0 - 0) _ = _
    rw [t0]; rfl
  have hlen : (D.ins 0).length = 2 * k := by rw [hin, insL_len]
  have hid : ∀ j (hj : j < (D.ins 0).length), (D.ins 0)[j].id = if j < 2 * k - 1 then madeI j else -1 := fun j hj => by
    rw [hlen] at hj
    have e : (D.ins 0)[j] = insM [lineF k] (lineF k) (0 + j) (onR (lineF k) 0 j (fromR (lineF k) [0] T L 0)) := by
      simp only [hin]
      simp [insL]
    rw [e, insM_id, Nat.zero_add, line_sets h2 h12 hj]
    by_cases hl : j < 2 * k - 1
    · rw [decide_eq_true hl, if_pos rfl, if_pos hl]
    · rw [decide_eq_false hl, if_neg (by decide), if_neg hl]
  have hto : ∀ j, j ≤ 2 * k - 1 → (insTo (D.ins 0) j).length = j := by
    intro j
    induction j with
    | zero => intro _; simp [insTo]
    | succ j ih =>
      intro hj
      have hj' : ((D.ins 0)[j]'(by rw [hlen]; omega)).id = madeI j := by rw [hid j (by rw [hlen]; omega), if_pos (by omega)]
      rw [insTo_step (by rw [hlen]; omega), hj', if_pos (by unfold madeI; omega), List.length_append, ih (by omega)]
      rfl
  have hz : (idsTo pn D.ph D.ins 0).length = 0 := by subst hpn; rfl
  refine ⟨?_, fun q hq => ?_⟩
  · have e : idsD pn [0].length D = idsTo pn D.ph D.ins 1 := rfl
    have hs := idsTo_succ_len pn D.ph D.ins 0
    have hl : (insTo (D.ins 0) (D.ins 0).length).length = 2 * k - 1 := by
      have hj' : ((D.ins 0)[2 * k - 1]'(by rw [hlen]; omega)).id = -1 := by rw [hid _ (by rw [hlen]; omega), if_neg (by omega)]
      have hx := insTo_step (xs := D.ins 0) (k := 2 * k - 1) (by rw [hlen]; omega)
      rw [hj', if_neg (by simp), List.append_nil, show 2 * k - 1 + 1 = 2 * k by omega] at hx
      rw [hlen, hx, hto _ (Nat.le_refl _)]
    rw [e, hs, hz, hph, hl]; simp
  · have ho := h.insOrd (line_ok h2 h12) hU (b := 0) (by decide) (j := q) (by rw [hlen]; omega)
    rw [hid q (by rw [hlen]; omega), if_pos hq] at ho
    rcases ho with ⟨e, -⟩ | ⟨e, -⟩
    · exact absurd e (by unfold madeI; omega)
    · rw [e, hz, hph, hto q (by omega)]; simp
theorem line_on {l : List Int} (hl : l.length = 12) (h0 : ∀ r, r < 12 → l.getD r 0 = -1) : ∀ j, j ≤ 2 * k - 1 → (onR (lineF k) 0 j l).length = 12 ∧ ∀ r, r < 12 → (onR (lineF k) 0 j l).getD r 0 = rvK k j r := by
  intro j
  induction j with
  | zero => exact fun _ => ⟨hl, fun r hr => by rw [show onR (lineF k) 0 0 l = l from rfl, h0 r hr]; unfold rvK; rw [if_pos (Nat.zero_le k), if_neg (Nat.not_lt_zero r)]; split <;> rfl⟩
  | succ j ih =>
    intro hj
    obtain ⟨il, ig⟩ := ih (by omega)
    rw [onR_snoc, Nat.zero_add]
    have hset : ∀ d : Nat, (insD (lineF k) j).dst.toNat = d → d < 12 → (on1 (lineF k) j (onR (lineF k) 0 j l)).length = 12 ∧ ∀ r, r < 12 → (on1 (lineF k) j (onR (lineF k) 0 j l)).getD r 0 = if r = d then madeI j else rvK k j r := fun d hd h12d => by
      refine ⟨by rw [on1_len, il], fun r hr => ?_⟩
      unfold on1
      rw [line_sets h2 h12 (by omega), decide_eq_true (by omega), if_pos rfl, hd, ← ig r hr]
      by_cases e : r = d
      · subst e; simp [List.getD, il, hr]
      · rw [if_neg e]; simp [List.getD, Ne.symm e]
    rcases line_op h2 (q := j) (by omega) with ⟨h, e⟩ | ⟨h, h', e⟩ | ⟨h, -⟩
    · obtain ⟨a, b⟩ := hset j (by rw [e]; exact Int.toNat_natCast j) (by omega)
      refine ⟨a, fun r hr => ?_⟩
      rw [b r hr]
      unfold rvK
      by_cases e2 : r = j
      · rw [if_pos e2, if_neg (by omega), if_pos (by omega), if_pos (by omega), e2]
      · rw [if_neg e2]
        by_cases hk : k ≤ r
        · rw [if_pos hk, if_pos hk]
        · rw [if_neg hk, if_neg hk, if_pos (show j ≤ k by omega), if_pos (show j + 1 ≤ k by omega)]
          by_cases hr2 : r < j
          · rw [if_pos hr2, if_pos (by omega)]
          · rw [if_neg hr2, if_neg (by omega)]
    · obtain ⟨a, b⟩ := hset 0 (by rw [e]; rfl) (by omega)
      refine ⟨a, fun r hr => ?_⟩
      rw [b r hr]
      unfold rvK
      by_cases e2 : r = 0
      · rw [if_pos e2, if_neg (by omega), if_neg (by omega), if_pos e2]; rfl
      · rw [if_neg e2]
        by_cases hk : k ≤ r
        · rw [if_pos hk, if_pos hk]
        · rw [if_neg hk, if_neg hk, if_neg (show ¬ j + 1 ≤ k by omega), if_neg e2]
          by_cases hj2 : j ≤ k
          · rw [if_pos hj2, if_pos (show r < j by omega)]; try rw [if_neg e2]
          · rw [if_neg hj2, if_neg e2]
    · omega
theorem line_all (h : SsaIs [lineF k] (lineF k) S T L pn g D) (hU : ∀ q, q < (lineF k).code.length → Way (lineF k) 63 q → ∀ r, r < 12 → (rdMask [lineF k] (insD (lineF k) q)).testBit r = true → ¬ Way (lineF k) r q) (ar : Nat → List Int) :
    (idsD pn S.length D).length = 2 * k - 1 ∧ (∀ a b : Nat, a < k → b < a → (b : Int) ∈ clashL (lineF k) S L pn g D ar a) ∧ ¬ ((2 * k - 2 : Nat) : Int) ∈ clashL (lineF k) S L pn g D ar 0 := by
  obtain ⟨hlen, hnew⟩ := line_new h2 h12 h hU
  have hnd := h.walkNd (line_ok h2 h12) hU ar (b := 0)
  have hrt := h.regT ar (b := 0)
  have hie := fun j => h.insEq ar (b := 0) (j := j)
  have hil := h.insLen ar (b := 0)
  have hmk := fun r (hr : r < k) => line_mk h2 h12 h hr
  obtain ⟨rfl, t0⟩ := line_S h2 h12 h
  have hnd := hnd (by decide)
  have hil := hil (by decide)
  have hin : ∀ r, r < 12 → (wantR (mkL L 0) (fromR (lineF k) [0] T L 0)).getD r 0 = -1 := fun r hr => by
    rw [wantR_get _ _ hr]
    have hpv : prevs (lineF k) [0] T 0 = [-1] := by
      have hr : List.range ([0] : List Nat).length = [0] := rfl
      have hn : nxI (lineF k) [0] (2 * k) = [] := by
        unfold nxI
        rw [line_ret h2]; rfl
      unfold prevs pvI
      rw [hr]
      simp [List.filter, t0, hn]
    rw [fromR_eq (FromR.first hpv), parR_get _ hr, if_neg (show ¬ (r : Int) < (lineF k).params from fun h => by have h : (r : Int) < 0 := h; omega)]
    split <;> rfl
  have hon := line_on h2 h12 (l := wantR (mkL L 0) (fromR (lineF k) [0] T L 0)) (wantR_len _ _) hin
  have hreg : ∀ j, j ≤ 2 * k - 1 → ∀ r, r < 12 → (regT (lineF k) ((finD pn [0].length g D ar).ins 0) ((finD pn [0].length g D ar).rg 0) j).getD r 0 = newI g (idsD pn [0].length D) (rvK k j r) := fun j hj r hr => by
    obtain ⟨a, b⟩ := hon j hj
    have e : regT (lineF k) ((finD pn [0].length g D ar).ins 0) ((finD pn [0].length g D ar).rg 0) j = (onR (lineF k) 0 j (wantR (mkL L 0) (fromR (lineF k) [0] T L 0))).map (newI g (idsD pn [0].length D)) := hrt (by decide) j (by rw [t0]; show j ≤ 2 * k - 0; omega)
    rw [e, ← b r hr]
    simp [List.getD, a, hr]
  have hl2 : ((finD pn [0].length g D ar).ins 0).length = 2 * k := by rw [hil, t0]; rfl
  have hpc : ∀ j, j < 2 * k → (((finD pn [0].length g D ar).ins 0).getD j noIns).pc.toNat = j ∧ ((((finD pn [0].length g D ar).ins 0).getD j noIns).id ≠ -1 → j < 2 * k - 1) := fun j hj => by
    have e := hie j (by decide) (by rw [t0]; exact hj)
    rw [e]
    refine ⟨by show ((([0] : List Nat).getD 0 0 + j : Nat) : Int).toNat = j; rw [Int.toNat_natCast]; show 0 + j = j; omega, fun hid => ?_⟩
    rcases Nat.lt_or_ge j (2 * k - 1) with hl | hl
    · exact hl
    · exfalso
      apply hid
      show newI _ _ (insM _ _ _ _).id = -1
      rw [insM_id, show ([0] : List Nat).getD 0 0 + j = j from Nat.zero_add j, line_sets h2 h12 hj, decide_eq_false (by omega), if_neg (by decide)]
      exact newI_none _ _
  have hcl : ∀ v z, z ∈ clashL (lineF k) [0] L pn g D ar v ↔ v < 2 * k - 1 ∧ z ∈ metT (lineF k) L ((finD pn [0].length g D ar).ins 0) ((finD pn [0].length g D ar).rg 0) (fun _ => []) (2 * k) v := fun v z => by
    unfold clashL
    rw [hlen]
    by_cases hv : v < 2 * k - 1
    · rw [if_pos hv, sortC_mem]
      show z ∈ metT _ _ _ _ _ ((finD pn [0].length g D ar).ins 0).length v ↔ _
      rw [hl2]
      exact ⟨fun h => ⟨hv, h⟩, fun h => h.2⟩
    · rw [if_neg hv]; simp [hv]
  refine ⟨hlen, fun a b ha hb => ?_, fun hc => ?_⟩
  · rw [hcl]
    refine ⟨by omega, metT_keep (i := k + 1) ?_ _ (by omega)⟩
    have hat : ∀ r, r < k → (r : Int) ∈ ofT (mkL L (((finD pn [0].length g D ar).ins 0).getD k noIns).pc.toNat) (regT (lineF k) ((finD pn [0].length g D ar).ins 0) ((finD pn [0].length g D ar).rg 0) k) 12 := fun r hr => by
      refine ofT_mem.2 ⟨r, by omega, ?_, ?_⟩
      · rw [(hpc k (by omega)).1]; exact hmk r hr
      · rw [hreg k (by omega) r (by omega)]
        unfold rvK
        rw [if_neg (by omega), if_pos (Nat.le_refl _), if_pos hr]
        exact hnew r (by omega)
    exact metT_here hnd (by rw [hl2]; omega) (hat a ha) (hat b (by omega)) (by omega)
  · obtain ⟨-, hm⟩ := (hcl 0 _).1 hc
    have key : ∀ i, i ≤ 2 * k - 1 → ∀ r s, r < 12 → s < 12 → (regT (lineF k) ((finD pn [0].length g D ar).ins 0) ((finD pn [0].length g D ar).rg 0) i).getD r 0 = ((0 : Nat) : Int) → (regT (lineF k) ((finD pn [0].length g D ar).ins 0) ((finD pn [0].length g D ar).rg 0) i).getD s 0 = ((2 * k - 2 : Nat) : Int) → False := fun i hi r s hr hs e1 e2 => by
      rw [hreg i hi r hr] at e1
      rw [hreg i hi s hs] at e2
      have hno := newI_none g (idsD pn [0].length D)
      unfold rvK at e1 e2
      by_cases hik : i ≤ k
      · rw [if_pos hik] at e2
        by_cases hks : k ≤ s
        · rw [if_pos hks, hno] at e2; omega
        · rw [if_neg hks] at e2
          by_cases hsi : s < i
          · rw [if_pos hsi, hnew s (by omega)] at e2; omega
          · rw [if_neg hsi, hno] at e2; omega
      · rw [if_neg hik] at e1
        by_cases hkr : k ≤ r
        · rw [if_pos hkr, hno] at e1; omega
        · rw [if_neg hkr] at e1
          by_cases hr0 : r = 0
          · rw [if_pos hr0, hnew (i - 1) (by omega)] at e1; omega
          · rw [if_neg hr0, hnew r (by omega)] at e1; omega
    rcases metT_from hnd (2 * k) (by rw [hl2]; exact Nat.le_refl _) hm with h0 | ⟨i, hi, ⟨r, s, hr, hs, e1, e2⟩ | ⟨hid, r, s, hr, hs, e1, e2⟩⟩
    · cases h0
    · exact key i (by omega) r s hr hs e1 e2
    · have := (hpc i hi).2 hid
      exact key (i + 1) (by omega) r s hr hs e1 e2
end
end Go.Proofs.YtldbmdgpdolaaaaDoor
