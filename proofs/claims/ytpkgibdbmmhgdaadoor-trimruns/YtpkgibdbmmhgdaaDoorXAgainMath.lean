/- What is left of a program is all reached, all called, and right: plain mathematics. -/
import Derived.Test.YtpkgibdbmmhgdaaDoorXSmallMath
namespace Go.Proofs.YtpkgibdbmmhgdaaDoor
open Go Go.RowKit

theorem ctT_mono {s : List Bool} {i j : Nat} (hij : i ≤ j) (hj : j ≤ s.length) : ctT s i ≤ ctT s j := by
  induction j with
  | zero => have : i = 0 := by omega
            subst this; exact Nat.le_refl _
  | succ j ih =>
    by_cases e : i = j + 1
    · subst e; exact Nat.le_refl _
    · have h1 := ih (by omega) (by omega)
      have h2 := ctT_succ s j (by omega)
      omega
theorem ctT_lt {s : List Bool} {i j : Nat} (hij : i < j) (hj : j ≤ s.length) (hs : s.getD i false = true) : ctT s i < ctT s j := by
  have h1 := ctT_yes (show i < s.length by omega) hs
  have h2 := ctT_mono (show i + 1 ≤ j by omega) hj
  omega
theorem ctT_inj {s : List Bool} {i j : Nat} (hi : i < s.length) (hj : j < s.length) (hsi : s.getD i false = true) (hsj : s.getD j false = true) (h : ctT s i = ctT s j) : i = j := by
  rcases Nat.lt_trichotomy i j with h1 | h1 | h1
  · have := ctT_lt h1 (Nat.le_of_lt hj) hsi; omega
  · exact h1
  · have := ctT_lt h1 (Nat.le_of_lt hi) hsj; omega
theorem ctT_onto {s : List Bool} {m j : Nat} (hm : m ≤ s.length) (hj : j < ctT s m) : ∃ q, q < m ∧ s.getD q false = true ∧ ctT s q = j := by
  induction m with
  | zero => rw [ctT_zero] at hj; omega
  | succ m ih =>
    cases hs : s.getD m false
    · rw [ctT_no (by omega) hs] at hj
      obtain ⟨q, h1, h2, h3⟩ := ih (by omega) hj
      exact ⟨q, by omega, h2, h3⟩
    · rw [ctT_yes (by omega) hs] at hj
      by_cases e : j = ctT s m
      · exact ⟨m, by omega, hs, e.symm⟩
      · obtain ⟨q, h1, h2, h3⟩ := ih (by omega) (by omega)
        exact ⟨q, by omega, h2, h3⟩

theorem moved_get {f : Fn} {s : List Bool} {F : List Int} {k q : Nat} (hk : k ≤ s.length) (hq : q < k) (hs : s.getD q false = true) : (movedTo f (whereL s) F k)[ctT s q]? = some (mvIns (insD f q) (whereL s) F) := by
  induction k with
  | zero => omega
  | succ k ih =>
    have e := whereL_getD s k (by omega)
    have hl := moved_count (f := f) (F := F) (show k ≤ s.length by omega)
    by_cases hqk : q = k
    · subst hqk
      rw [movedTo_kept (by rw [e, whereI_yes hs]; omega), List.getElem?_append_right (by omega), hl, Nat.sub_self]; rfl
    · have h1 := ih (by omega) (by omega)
      have h2 : ctT s q < (movedTo f (whereL s) F k).length := by rw [hl]; exact ctT_lt (by omega) (by omega) hs
      cases hsk : s.getD k false
      · rw [movedTo_gone (by rw [e, whereI_no hsk])]; exact h1
      · rw [movedTo_kept (by rw [e, whereI_yes hsk]; omega), List.getElem?_append_left h2]; exact h1
theorem kept_count {P : List Fn} {c : List Bool} {m : Nat} {Q : List Fn} (h : KeptTo P c m Q) (hm : m ≤ c.length) : Q.length = ctT c m := by
  induction h with
  | zero => simp [ctT_zero]
  | gone h hk ih => rw [ih (by omega), ctT_no (by omega) hk]
  | kept h hp hk hs ih => rw [List.length_append, ih (by omega), ctT_yes (by omega) hk]; rfl
theorem kept_get {P : List Fn} {c : List Bool} {m : Nat} {Q : List Fn} (h : KeptTo P c m Q) (hm : m ≤ c.length) {k : Nat} (hk : k < m) (hc : c.getD k false = true) (hp : k < P.length) : ∃ s, Reach P[k] s ∧ Q[ctT c k]? = some (keptF P[k] s c) := by
  induction h with
  | zero => omega
  | @gone j Q h hg ih =>
    by_cases e : k = j
    · subst e; rw [hc] at hg; cases hg
    · exact ih (by omega) (by omega)
  | @kept j Q s h hp' hg hs ih =>
    have hl := kept_count h (by omega)
    by_cases e : k = j
    · subst e
      exact ⟨s, hs, by rw [List.getElem?_append_right (by omega), hl, Nat.sub_self]; rfl⟩
    · obtain ⟨s', h1, h2⟩ := ih (by omega) (by omega)
      refine ⟨s', h1, ?_⟩
      rw [List.getElem?_append_left (by rw [hl]; exact ctT_lt (by omega) (by omega) hc)]
      exact h2

theorem insD_kept {f : Fn} {s c : List Bool} (hs : Reach f s) {q : Nat} (hq : q < f.code.length) (hsq : s.getD q false = true) : ctT s q < (keptF f s c).code.length ∧ insD (keptF f s c) (ctT s q) = mvIns (insD f q) (whereL s) (whereL c) := by
  have hl : (keptF f s c).code.length = ctT s f.code.length := by
    show (movedTo f (whereL s) (whereL c) f.code.length).length = _
    exact moved_count (by rw [hs.1]; exact Nat.le_refl _)
  have h1 : ctT s q < (keptF f s c).code.length := by rw [hl]; exact ctT_lt hq (by rw [hs.1]; exact Nat.le_refl _) hsq
  refine ⟨h1, ?_⟩
  have h2 := moved_get (f := f) (F := whereL c) (k := f.code.length) (by rw [hs.1]; exact Nat.le_refl _) hq hsq
  unfold insD
  rw [List.getD_eq_getElem?_getD]
  show ((movedTo f (whereL s) (whereL c) f.code.length)[ctT s q]?).getD _ = _
  rw [h2]; rfl
theorem mv_op (x : Ins) (W F : List Int) : (mvIns x W F).op = x.op ∧ (mvIns x W F).dst = x.dst ∧ (mvIns x W F).a = x.a ∧ (mvIns x W F).b = x.b := by
  unfold mvIns
  split
  · exact ⟨rfl, rfl, rfl, rfl⟩
  · split <;> exact ⟨rfl, rfl, rfl, rfl⟩
theorem mv_mask (x : Ins) (W F : List Int) : setMask (mvIns x W F) = setMask x := by
  obtain ⟨h1, h2, _, _⟩ := mv_op x W F
  unfold setMask
  rw [h1, h2]
/-- A way of a function is one of what is left of it. -/
theorem behind_kept {f : Fn} {N : Nat} (hok : MvOk f N) {s c : List Bool} (hs : Reach f s) {q t : Nat} (hq : q < f.code.length) (hsq : s.getD q false = true) (ht : t ∈ behind (insD f q) q) (hst : t < f.code.length → s.getD t false = true) :
    ctT s t ∈ behind (insD (keptF f s c) (ctT s q)) (ctT s q) := by
  rw [(insD_kept (c := c) hs hq hsq).2]
  have hop := (mv_op (insD f q) (whereL s) (whereL c)).1
  have hnx : ctT s (q + 1) = ctT s q + 1 := ctT_yes (by rw [hs.1]; exact hq) hsq
  have himm : (insD f q).op = 15 ∨ (insD f q).op = 16 → ∃ u : Nat, u < f.code.length ∧ (insD f q).imm.toNat = u ∧ (s.getD u false = true → (mvIns (insD f q) (whereL s) (whereL c)).imm.toNat = ctT s u) := fun ho => by
    obtain ⟨u, e, hu⟩ := hok.target q hq ho
    refine ⟨u, hu, by rw [e]; simp, fun hsu => ?_⟩
    unfold mvIns
    rw [if_pos ho, e]
    show ((whereL s).getD u 0).toNat = _
    rw [whereL_getD s u (by rw [hs.1]; exact hu), whereI_yes hsu]; simp
  unfold behind at ht ⊢
  rw [hop]
  by_cases h15 : (insD f q).op = 15
  · rw [if_pos h15] at ht ⊢
    obtain ⟨u, hu, e, h⟩ := himm (Or.inl h15)
    have : t = u := by simpa [e] using ht
    subst this
    simp [h (hst hu)]
  rw [if_neg h15] at ht ⊢
  by_cases h16 : (insD f q).op = 16
  · rw [if_pos h16] at ht ⊢
    obtain ⟨u, hu, e, h⟩ := himm (Or.inr h16)
    have : t = q + 1 ∨ t = u := by simpa [e] using ht
    rcases this with rfl | rfl
    · simp [hnx]
    · simp [h (hst hu)]
  rw [if_neg h16] at ht ⊢
  by_cases h19 : (insD f q).op = 19
  · rw [if_pos h19] at ht; simp at ht
  · rw [if_neg h19] at ht ⊢
    have : t = q + 1 := by simpa using ht
    subst this
    simp [hnx]
/-- And the other way round. -/
theorem behind_back {f : Fn} {N : Nat} (hok : MvOk f N) {s c : List Bool} (hs : Reach f s) {q j : Nat} (hcl : ∀ t, t ∈ behind (insD f q) q → t < f.code.length → s.getD t false = true) (hq : q < f.code.length) (hsq : s.getD q false = true) (hj : j ∈ behind (insD (keptF f s c) (ctT s q)) (ctT s q)) :
    ∃ t, t ∈ behind (insD f q) q ∧ ctT s t = j := by
  rw [(insD_kept (c := c) hs hq hsq).2] at hj
  have hop := (mv_op (insD f q) (whereL s) (whereL c)).1
  have hnx : ctT s (q + 1) = ctT s q + 1 := ctT_yes (by rw [hs.1]; exact hq) hsq
  have himm : (insD f q).op = 15 ∨ (insD f q).op = 16 → ∃ u : Nat, u < f.code.length ∧ (insD f q).imm.toNat = u ∧ (s.getD u false = true → (mvIns (insD f q) (whereL s) (whereL c)).imm.toNat = ctT s u) := fun ho => by
    obtain ⟨u, e, hu⟩ := hok.target q hq ho
    refine ⟨u, hu, by rw [e]; simp, fun hsu => ?_⟩
    unfold mvIns
    rw [if_pos ho, e]
    show ((whereL s).getD u 0).toNat = _
    rw [whereL_getD s u (by rw [hs.1]; exact hu), whereI_yes hsu]; simp
  unfold behind at hj hcl ⊢
  rw [hop] at hj
  by_cases h15 : (insD f q).op = 15
  · rw [if_pos h15] at hj hcl ⊢
    obtain ⟨u, hu, e, h⟩ := himm (Or.inl h15)
    have hsu := hcl u (by simp [e]) hu
    rw [h hsu] at hj
    exact ⟨u, by simp [e], (show j = ctT s u by simpa using hj).symm⟩
  rw [if_neg h15] at hj hcl ⊢
  by_cases h16 : (insD f q).op = 16
  · rw [if_pos h16] at hj hcl ⊢
    obtain ⟨u, hu, e, h⟩ := himm (Or.inr h16)
    have hsu := hcl u (by simp [e]) hu
    rw [h hsu] at hj
    have : j = ctT s q + 1 ∨ j = ctT s u := by simpa using hj
    rcases this with e2 | e2
    · exact ⟨q + 1, by simp, by rw [hnx, e2]⟩
    · exact ⟨u, by simp [e], e2.symm⟩
  rw [if_neg h16] at hj hcl ⊢
  by_cases h19 : (insD f q).op = 19
  · rw [if_pos h19] at hj; simp at hj
  · rw [if_neg h19] at hj ⊢
    have : j = ctT s q + 1 := by simpa using hj
    exact ⟨q + 1, by simp, by rw [hnx, this]⟩

theorem way_to {f : Fn} (hf : FnOk f) {r q : Nat} (h : Way f r q) : Way f 63 q := way_high hf (by omega) h
theorem way_len {f : Fn} (hf : FnOk f) {r q : Nat} (h : Way f r q) : q ≤ f.code.length := by
  cases h with
  | start _ => exact Nat.zero_le _
  | step hpc _ _ ht => have := hf.goes _ hpc _ ht; omega
theorem way_kept {f : Fn} {N : Nat} (hf : FnOk f) (hok : MvOk f N) {s c : List Bool} (hs : Reach f s) {r q : Nat} (h : Way f r q) : Way (keptF f s c) r (ctT s q) := by
  induction h with
  | start h => rw [ctT_zero]; exact Way.start h
  | @step pc t hpc hw hset ht ih =>
    have hsp : s.getD pc false = true := (hs.2 pc hpc).2 (way_to hf hw)
    have hwt : Way f r t := Way.step hpc hw hset ht
    obtain ⟨h1, h2⟩ := insD_kept (c := c) hs hpc hsp
    refine Way.step h1 ih (by rw [h2, mv_mask]; exact hset) (behind_kept hok hs hpc hsp ht fun htl => (hs.2 t htl).2 (way_to hf hwt))
theorem way_back {f : Fn} {N : Nat} (hf : FnOk f) (hok : MvOk f N) {s c : List Bool} (hs : Reach f s) {r j : Nat} (h : Way (keptF f s c) r j) : ∃ q, Way f r q ∧ ctT s q = j := by
  induction h with
  | start h => exact ⟨0, Way.start h, ctT_zero s⟩
  | @step j t hj hw hset ht ih =>
    obtain ⟨q, hq, rfl⟩ := ih
    have hlen : (keptF f s c).code.length = ctT s f.code.length := by
      show (movedTo f (whereL s) (whereL c) f.code.length).length = _
      exact moved_count (by rw [hs.1]; exact Nat.le_refl _)
    have hql : q < f.code.length := by
      rcases Nat.lt_or_ge q f.code.length with h | h
      · exact h
      · have : q = f.code.length := by have := way_len hf hq; omega
        subst this; omega
    have hsq : s.getD q false = true := (hs.2 q hql).2 (way_to hf hq)
    obtain ⟨h1, h2⟩ := insD_kept (c := c) hs hql hsq
    have hset' : (setMask (insD f q)).testBit r = false := by rw [h2, mv_mask] at hset; exact hset
    obtain ⟨t', ht', e⟩ := behind_back hok hs (fun u hu hul => (hs.2 u hul).2 (way_to hf (Way.step hql hq hset' hu))) hql hsq ht
    exact ⟨t', Way.step hql hq hset' ht', e⟩
/-- All places of what is left are reached. -/
theorem kept_reached {f : Fn} {N : Nat} (hf : FnOk f) (hok : MvOk f N) {s c : List Bool} (hs : Reach f s) {j : Nat} (hj : j < (keptF f s c).code.length) : Way (keptF f s c) 63 j := by
  have hlen : (keptF f s c).code.length = ctT s f.code.length := by
    show (movedTo f (whereL s) (whereL c) f.code.length).length = _
    exact moved_count (by rw [hs.1]; exact Nat.le_refl _)
  obtain ⟨q, hq, hsq, rfl⟩ := ctT_onto (by rw [hs.1]; exact Nat.le_refl _) (hlen ▸ hj)
  exact way_kept hf hok hs ((hs.2 q hq).1 hsq)
/-- Its end is come to only where the function's was. -/
theorem kept_end {f : Fn} {N : Nat} (hf : FnOk f) (hok : MvOk f N) {s c : List Bool} (hs : Reach f s) (hn : ¬ Way f 63 f.code.length) : ¬ Way (keptF f s c) 63 (keptF f s c).code.length := by
  intro h
  have hlen : (keptF f s c).code.length = ctT s f.code.length := by
    show (movedTo f (whereL s) (whereL c) f.code.length).length = _
    exact moved_count (by rw [hs.1]; exact Nat.le_refl _)
  obtain ⟨q, hq, e⟩ := way_back hf hok hs h
  rw [hlen] at e
  rcases Nat.lt_or_ge q f.code.length with hl | hl
  · have := ctT_lt hl (by rw [hs.1]; exact Nat.le_refl _) ((hs.2 q hl).2 hq)
    omega
  · have : q = f.code.length := by have := way_len hf hq; omega
    subst this; exact hn hq

/-- A right program, and what is left of it. -/
structure Left (P : List Fn) (c : List Bool) (Q : List Fn) : Prop where
  right : ProofAns P 0
  called : CalledSpec P c
  kept : KeptTo P c P.length Q
section
variable {P Q : List Fn} {c : List Bool}
theorem Left.code (h : Left P c Q) : codeProg P = 0 := proof_code h.right
theorem Left.len (h : Left P c Q) : Q.length = ctT c P.length := kept_count h.kept (by rw [h.called.1]; exact Nat.le_refl _)
theorem Left.at_ (h : Left P c Q) {k : Nat} (hk : k < P.length) (hc : c.getD k false = true) : ctT c k < Q.length ∧ ∃ s, Reach P[k] s ∧ Q[ctT c k]? = some (keptF P[k] s c) :=
  ⟨by rw [h.len]; exact ctT_lt hk (by rw [h.called.1]; exact Nat.le_refl _) hc, kept_get h.kept (by rw [h.called.1]; exact Nat.le_refl _) hk hc hk⟩
theorem Left.fn (h : Left P c Q) {i : Nat} (hi : i < Q.length) : ∃ k, ∃ hk : k < P.length, c.getD k false = true ∧ ctT c k = i ∧ ∃ s, Reach P[k] s ∧ Q[i] = keptF P[k] s c := by
  rw [h.len] at hi
  obtain ⟨k, hk, hc, rfl⟩ := ctT_onto (by rw [h.called.1]; exact Nat.le_refl _) hi
  obtain ⟨h1, s, hs, e⟩ := h.at_ hk hc
  refine ⟨k, hk, hc, rfl, s, hs, ?_⟩
  rw [List.getElem?_eq_getElem h1] at e
  exact Option.some.inj e
theorem Left.params (h : Left P c Q) {k : Nat} (hk : k < P.length) (hc : c.getD k false = true) : (Q.getD (ctT c k) ⟨0, 0, []⟩).params = P[k].params := by
  obtain ⟨h1, s, hs, e⟩ := h.at_ hk hc
  rw [List.getD_eq_getElem?_getD, e]; rfl
theorem kept_len (f : Fn) (s c : List Bool) (hs : Reach f s) : (keptF f s c).code.length = ctT s f.code.length := by
  show (movedTo f (whereL s) (whereL c) f.code.length).length = _
  exact moved_count (by rw [hs.1]; exact Nat.le_refl _)
theorem kept_ins {f : Fn} {s : List Bool} (hs : Reach f s) {j : Nat} (hj : j < (keptF f s c).code.length) : ∃ q, q < f.code.length ∧ s.getD q false = true ∧ ctT s q = j ∧ insD (keptF f s c) j = mvIns (insD f q) (whereL s) (whereL c) := by
  obtain ⟨q, hq, hsq, rfl⟩ := ctT_onto (by rw [hs.1]; exact Nat.le_refl _) (kept_len f s c hs ▸ hj)
  exact ⟨q, hq, hsq, rfl, (insD_kept hs hq hsq).2⟩
/-- Whom a call of a called function calls. -/
theorem Left.calls (h : Left P c Q) {k q : Nat} (hk : k < P.length) (hc : c.getD k false = true) {s : List Bool} (hs : Reach P[k] s) (hq : q < P[k].code.length) (hsq : s.getD q false = true) (ho : (insD P[k] q).op = 17) :
    ∃ t : Nat, (insD P[k] q).imm = t ∧ t < P.length ∧ c.getD t false = true ∧ (mvIns (insD P[k] q) (whereL s) (whereL c)).imm = (ctT c t : Nat) := by
  obtain ⟨t, e, ht⟩ := (mvOk_of h.code (List.getElem_mem hk)).call q hq ho
  have hct : c.getD t false = true := (h.called.2 t ht).2 (Called.call ((h.called.2 k hk).1 hc) hk ⟨hq, (hs.2 q hq).1 hsq, ho, e⟩)
  refine ⟨t, e, ht, hct, ?_⟩
  unfold mvIns
  rw [if_neg (by rw [ho]; decide), if_pos ho, e]
  show (whereL c).getD t 0 = _
  rw [whereL_getD c t (by rw [h.called.1]; exact ht), whereI_yes hct]
/-- Where a jump of a reached place leads. -/
theorem Left.jumps (h : Left P c Q) {k q : Nat} (hk : k < P.length) {s : List Bool} (hs : Reach P[k] s) (hq : q < P[k].code.length) (hsq : s.getD q false = true) (ho : (insD P[k] q).op = 15 ∨ (insD P[k] q).op = 16) :
    ∃ t : Nat, t < P[k].code.length ∧ s.getD t false = true ∧ (mvIns (insD P[k] q) (whereL s) (whereL c)).imm = (ctT s t : Nat) := by
  have hf := (fnOk_of h.code (List.getElem_mem hk)).1
  obtain ⟨t, e, ht⟩ := (mvOk_of h.code (List.getElem_mem hk)).target q hq ho
  have hst : s.getD t false = true := (hs.2 t ht).2 (Way.step hq ((hs.2 q hq).1 hsq) (Nat.testBit_lt_two_pow (Nat.lt_of_lt_of_le (hf.sets q) (pow12 (by omega)))) (by
    unfold behind
    rcases ho with h15 | h16
    · rw [if_pos h15, e]; simp
    · rw [if_neg (by rw [h16]; decide), if_pos h16, e]; simp))
  refine ⟨t, ht, hst, ?_⟩
  unfold mvIns
  rw [if_pos ho, e]
  show (whereL s).getD t 0 = _
  rw [whereL_getD s t (by rw [hs.1]; exact ht), whereI_yes hst]
theorem Left.first (h : Left P c Q) {k : Nat} (hk : k < P.length) {s : List Bool} (hs : Reach P[k] s) : 1 ≤ ctT s P[k].code.length := by
  have hf := (fnOk_of h.code (List.getElem_mem hk)).1
  have h0 : s.getD 0 false = true := (hs.2 0 (by have := hf.len1; omega)).2 (Way.start (by have := hf.p2; omega))
  have := ctT_lt (show 0 < P[k].code.length by have := hf.len1; omega) (by rw [hs.1]; exact Nat.le_refl _) h0
  omega
theorem Left.instr (h : Left P c Q) {k q : Nat} (hk : k < P.length) (hc : c.getD k false = true) {s : List Bool} (hs : Reach P[k] s) (hq : q < P[k].code.length) (hsq : s.getD q false = true) :
    codeInstr (mvIns (insD P[k] q) (whereL s) (whereL c)) P[k].regs (keptF P[k] s c).code.length Q.length = 0 := by
  have hz := (codeFunc_zero ((codeProg_zero h.code).2.2 _ (List.getElem_mem hk))).2.2.2.2.2.2.2 _ (List.getElem_mem hq)
  rw [instr_same] at hz ⊢
  rw [← insD_eq hq] at hz
  have ho := h.calls hk hc hs hq hsq
  have hj := h.jumps hk hs hq hsq
  obtain ⟨m1, m2, m3, m4⟩ := mv_op (insD P[k] q) (whereL s) (whereL c)
  have mel : (insD P[k] q).op ≠ 15 → (insD P[k] q).op ≠ 16 → (insD P[k] q).op ≠ 17 → mvIns (insD P[k] q) (whereL s) (whereL c) = insD P[k] q := fun a b d => mvIns_else a b d
  have hkl := kept_len P[k] s c hs
  have hQl := h.len
  have hlt : ∀ t, t < P[k].code.length → s.getD t false = true → ctT s t < ctT s P[k].code.length := fun t ht hst => ctT_lt ht (by rw [hs.1]; exact Nat.le_refl _) hst
  have hlc : ∀ t, t < P.length → c.getD t false = true → ctT c t < ctT c P.length := fun t ht hst => ctT_lt ht (by rw [h.called.1]; exact Nat.le_refl _) hst
  generalize mvIns (insD P[k] q) (whereL s) (whereL c) = y at m1 m2 m3 m4 ho hj mel ⊢
  generalize insD P[k] q = x at hz m1 m2 m3 m4 ho hj mel
  unfold refInstr at hz ⊢
  have e1 : refOk1 y P[k].regs = refOk1 x P[k].regs := by unfold refOk1; rw [m1, m2, m3, m4]
  rw [m1, e1]
  by_cases k1 : inB x.op 1 19 = false
  · rw [if_pos k1] at hz; cases hz
  rw [if_neg k1] at hz ⊢
  by_cases k2 : refOk1 x P[k].regs = false
  · rw [if_pos k2] at hz; cases hz
  rw [if_neg k2] at hz ⊢
  by_cases k3 : refOk2 x P[k].code.length P.length = false
  · rw [if_pos k3] at hz; cases hz
  have k3 : refOk2 x P[k].code.length P.length = true := by simpa using k3
  have k4 : refOk2 y (keptF P[k] s c).code.length Q.length = true := by
    unfold refOk2 at k3 ⊢
    rw [m1]
    by_cases o1 : x.op = 15 ∨ x.op = 16
    · rw [if_pos o1]
      obtain ⟨t, ht, hst, e⟩ := hj o1
      have := hlt t ht hst
      rw [e, hkl]
      simp only [inB, decide_eq_true_eq]; omega
    rw [if_neg o1] at k3 ⊢
    by_cases o2 : x.op = 17
    · rw [if_pos o2]
      obtain ⟨t, _, ht, hct, e⟩ := ho o2
      have := hlc t ht hct
      rw [e, hQl]
      simp only [inB, decide_eq_true_eq]; omega
    rw [if_neg o2] at k3 ⊢
    rw [mel (fun a => o1 (Or.inl a)) (fun a => o1 (Or.inr a)) o2]
    exact k3
  rw [if_neg (by rw [k4]; decide)]
end
end Go.Proofs.YtpkgibdbmmhgdaaDoor
