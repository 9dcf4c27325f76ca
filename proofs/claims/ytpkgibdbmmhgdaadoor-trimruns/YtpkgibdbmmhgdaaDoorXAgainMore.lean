/- What is left of a program is right, and nothing more can be left out of it: plain mathematics. -/
import Derived.Test.YtpkgibdbmmhgdaaDoorXAgainMath
namespace Go.Proofs.YtpkgibdbmmhgdaaDoor
open Go Go.RowKit

theorem firstErr_none {α : Type} {g : α → Int} {l : List α} (h : ∀ x ∈ l, g x = 0) : firstErr g l = 0 := by
  induction l with
  | nil => rfl
  | cons y r ih => unfold firstErr; rw [if_pos (h y (by simp))]; exact ih fun x hx => h x (by simp [hx])
section
variable {P Q : List Fn} {c : List Bool}
theorem Left.func (h : Left P c Q) {k : Nat} (hk : k < P.length) (hc : c.getD k false = true) {s : List Bool} (hs : Reach P[k] s) : codeFunc (keptF P[k] s c) Q.length = 0 := by
  obtain ⟨r1, r2, p0, p2, pr, l1, l2, _⟩ := codeFunc_zero ((codeProg_zero h.code).2.2 _ (List.getElem_mem hk))
  have hkl := kept_len P[k] s c hs
  have h1 := h.first hk hs
  have h2 := ctT_le s P[k].code.length
  have e1 : (keptF P[k] s c).regs = P[k].regs := rfl
  have e2 : (keptF P[k] s c).params = P[k].params := rfl
  unfold codeFunc
  rw [e1, e2, if_neg (by omega), if_neg (by omega), if_neg (by omega), if_neg (by omega), if_neg (by omega), if_neg (by omega), if_neg (by omega)]
  refine firstErr_none fun x hx => ?_
  obtain ⟨j, hj, rfl⟩ := List.getElem_of_mem hx
  obtain ⟨q, hq, hsq, _, e⟩ := kept_ins (c := c) hs hj
  rw [← insD_eq hj, e]
  exact h.instr hk hc hs hq hsq
theorem Left.len1 (h : Left P c Q) : 1 ≤ Q.length := by
  have hp := (codeProg_zero h.code).1
  have := (h.at_ (k := 0) (by omega) ((h.called.2 0 (by omega)).2 Called.zero)).1
  omega
theorem Left.codeQ (h : Left P c Q) : codeProg Q = 0 := by
  have h1 := h.len1
  have h2 := ctT_le c P.length
  have h3 := h.len
  have h4 := (codeProg_zero h.code).2.1
  unfold codeProg
  rw [if_neg (by omega), if_neg (by omega)]
  refine firstErr_none fun f hf => ?_
  obtain ⟨i, hi, rfl⟩ := List.getElem_of_mem hf
  obtain ⟨k, hk, hc, _, s, hs, e⟩ := h.fn hi
  rw [e]
  exact h.func hk hc hs
theorem Left.reads (h : Left P c Q) {k q : Nat} (hk : k < P.length) (hc : c.getD k false = true) {s : List Bool} (hs : Reach P[k] s) (hq : q < P[k].code.length) (hsq : s.getD q false = true) :
    readsL Q (mvIns (insD P[k] q) (whereL s) (whereL c)) = readsL P (insD P[k] q) := by
  obtain ⟨m1, _, m3, m4⟩ := mv_op (insD P[k] q) (whereL s) (whereL c)
  have ha : (insD P[k] q).op = 17 → paramsAt Q (mvIns (insD P[k] q) (whereL s) (whereL c)).imm = paramsAt P (insD P[k] q).imm := fun ho => by
    obtain ⟨t, e, ht, hct, e2⟩ := h.calls hk hc hs hq hsq ho
    unfold paramsAt
    rw [e2, e]
    show (Q.getD (ctT c t) ⟨0, 0, []⟩).params = (P.getD t ⟨0, 0, []⟩).params
    rw [h.params ht hct]
    simp [List.getD, ht]
  have e1 : rdA Q (mvIns (insD P[k] q) (whereL s) (whereL c)) = rdA P (insD P[k] q) := by
    unfold rdA
    rw [m1]
    split
    · rename_i ho; rw [ha ho]
    · rfl
  have e2 : rdB Q (mvIns (insD P[k] q) (whereL s) (whereL c)) = rdB P (insD P[k] q) := by
    unfold rdB
    rw [m1]
    split
    · rename_i ho; rw [ha ho]
    · rfl
  unfold readsL
  rw [e1, e2, m3, m4]
theorem checks_eachA {P : List Fn} : ∀ {fs : List Fn}, ChecksTo P fs 0 → ∀ f ∈ fs, ProvesTo P f 0
  | [], _, f, hf => by simp at hf
  | g :: fs, ⟨e, he, h⟩, f, hf => by
    rcases h with ⟨h1, h2⟩ | ⟨rfl, h2⟩
    · exact absurd h2.symm h1
    · rcases List.mem_cons.1 hf with rfl | hf
      · exact he
      · exact checks_eachA h2 f hf
theorem Left.proves (h : Left P c Q) {k : Nat} (hk : k < P.length) : ∃ L, SureSpec P[k] L ∧ (∀ q, q < P[k].code.length → badB P (L.getD q 0) (insD P[k] q) = false) ∧ ¬ Way P[k] 63 P[k].code.length := by
  rcases h.right with ⟨h1, h2⟩ | ⟨_, h2⟩
  · exact absurd h2.symm h1
  obtain ⟨L, hL, he⟩ := checks_eachA h2 _ (List.getElem_mem hk)
  have hb : ∀ q, q < P[k].code.length → badB P (L.getD q 0) (insD P[k] q) = false := fun q hq => by
    cases hx : badB P (L.getD q 0) (insD P[k] q)
    · rfl
    · rw [prove_bad hq hx] at he; cases he
  refine ⟨L, hL, hb, fun hw => ?_⟩
  rw [prove_good hb] at he
  rcases hL.2 P[k].code.length (by omega) with ⟨hn, _⟩ | ⟨_, m, _, e, _⟩
  · exact hn hw
  · rw [if_neg (by rw [e]; omega)] at he; cases he
theorem Left.sure (h : Left P c Q) {k : Nat} (hk : k < P.length) {s : List Bool} (hs : Reach P[k] s) {L L' : List Int} (hL : SureSpec P[k] L) (hL' : SureSpec (keptF P[k] s c) L') {q : Nat} (hq : q < P[k].code.length) (hsq : s.getD q false = true) : L'.getD (ctT s q) 0 = L.getD q 0 := by
  have hf := (fnOk_of h.code (List.getElem_mem hk)).1
  have hok := mvOk_of h.code (List.getElem_mem hk)
  have hw := (hs.2 q hq).1 hsq
  have hlt := (insD_kept (c := c) hs hq hsq).1
  rcases hL.2 q (by omega) with ⟨hn, _⟩ | ⟨_, m, hm, e, hb⟩
  · exact absurd hw hn
  rcases hL'.2 (ctT s q) (by omega) with ⟨hn, _⟩ | ⟨_, m', hm', e', hb'⟩
  · exact absurd (way_kept hf hok hs hw) hn
  rw [e, e']
  have hmm : m' = m := by
    apply Nat.eq_of_testBit_eq
    intro r
    rcases Nat.lt_or_ge r 12 with hr | hr
    · rw [Bool.eq_iff_iff, hb r hr, hb' r hr]
      refine not_congr ⟨fun hx => ?_, fun hx => way_kept hf hok hs hx⟩
      obtain ⟨q', hq', ee⟩ := way_back hf hok hs hx
      have hl' := way_len hf hq'
      have hq'' : q' < P[k].code.length := by
        rcases Nat.lt_or_ge q' P[k].code.length with hx | hx
        · exact hx
        · obtain rfl : q' = P[k].code.length := by omega
          have := ctT_lt hq (by rw [hs.1]; exact Nat.le_refl _) hsq
          omega
      obtain rfl := ctT_inj (by rw [hs.1]; exact hq'') (by rw [hs.1]; exact hq) ((hs.2 q' hq'').2 (way_to hf hq')) hsq ee
      exact hq'
    · rw [Nat.testBit_lt_two_pow (Nat.lt_of_lt_of_le hm (pow12 hr)), Nat.testBit_lt_two_pow (Nat.lt_of_lt_of_le hm' (pow12 hr))]
  rw [hmm]
/-- What is left is right. -/
theorem Left.rightQ (h : Left P c Q) : Right Q := by
  refine ⟨h.codeQ, fun E hE => ?_⟩
  rcases hE with ⟨h1, _⟩ | ⟨_, h2⟩
  · exact absurd h.codeQ h1
  refine checks_nought (fun g hg L' hL' => ?_) h2
  obtain ⟨i, hi, rfl⟩ := List.getElem_of_mem hg
  obtain ⟨k, hk, hc, _, s, hs, e⟩ := h.fn hi
  rw [e] at hL' ⊢
  have hf := (fnOk_of h.code (List.getElem_mem hk)).1
  have hok := mvOk_of h.code (List.getElem_mem hk)
  obtain ⟨L, hL, hb, hn⟩ := h.proves hk
  rw [prove_good]
  · rcases hL'.2 (keptF P[k] s c).code.length (by omega) with ⟨_, e⟩ | ⟨hw, _⟩
    · rw [if_pos e]
    · exact absurd hw (kept_end hf hok hs hn)
  · intro j hj
    obtain ⟨q, hq, hsq, rfl, e2⟩ := kept_ins (c := c) hs hj
    have := hb q hq
    unfold badB at this ⊢
    rw [e2, h.sure hk hs hL hL' hq hsq, h.reads hk hc hs hq hsq]
    exact this
/-- All of what is left is reached. -/
theorem Left.reachQ (h : Left P c Q) {i : Nat} (hi : i < Q.length) {s' : List Bool} (hs' : Reach Q[i] s') : s' = List.replicate Q[i].code.length true := by
  obtain ⟨k, hk, hc, _, s, hs, e⟩ := h.fn hi
  have hf := (fnOk_of h.code (List.getElem_mem hk)).1
  have hok := mvOk_of h.code (List.getElem_mem hk)
  refine bools_ext (by rw [hs'.1]; simp) fun q hq => ?_
  have hq' : q < Q[i].code.length := by rw [← hs'.1]; exact hq
  have : Way Q[i] 63 q := by
    have hq2 := hq'
    rw [e] at hq2 ⊢
    exact kept_reached hf hok hs hq2
  refine ⟨fun _ => by simp [List.getD, hq'], fun _ => (hs'.2 q hq').2 this⟩
/-- All of what is left is called. -/
theorem Left.calledQ (h : Left P c Q) {c' : List Bool} (hc' : CalledSpec Q c') : c' = List.replicate Q.length true := by
  have key : ∀ k, Called P k → ∀ hk : k < P.length, Called Q (ctT c k) := fun k hcall => by
    induction hcall with
    | zero => intro _; rw [ctT_zero]; exact Called.zero
    | @call fn pc t hfn hk hat ih =>
      intro ht
      have hcf : c.getD fn false = true := (h.called.2 fn hk).2 hfn
      obtain ⟨h1, s, hs, e⟩ := h.at_ hk hcf
      have hsp : s.getD pc false = true := (hs.2 pc hat.1).2 hat.2.1
      have hf := (fnOk_of h.code (List.getElem_mem hk)).1
      have hok := mvOk_of h.code (List.getElem_mem hk)
      have e' : Q[ctT c fn] = keptF P[fn] s c := by rw [List.getElem?_eq_getElem h1] at e; exact Option.some.inj e
      obtain ⟨t', e1, _, _, e2⟩ := h.calls hk hcf hs hat.1 hsp hat.2.2.1
      have htt : t' = t := by have := hat.2.2.2; omega
      subst htt
      refine Called.call (pc := ctT s pc) (ih hk) h1 ?_
      rw [e']
      obtain ⟨g1, g2⟩ := insD_kept (c := c) hs hat.1 hsp
      exact ⟨g1, way_kept hf hok hs hat.2.1, by rw [g2, (mv_op _ _ _).1]; exact hat.2.2.1, by rw [g2]; exact e2⟩
  refine bools_ext (by rw [hc'.1]; simp) fun i hi => ?_
  have hi' : i < Q.length := by rw [← hc'.1]; exact hi
  obtain ⟨k, hk, hc, rfl, _⟩ := h.fn hi'
  exact ⟨fun _ => by simp [List.getD, hi'], fun _ => (hc'.2 _ hi').2 (key k ((h.called.2 k hk).1 hc) hk)⟩
theorem ct_all (n i : Nat) (h : i ≤ n) : ctT (List.replicate n true) i = i := by
  unfold ctT; rw [List.take_replicate, List.count_replicate_self]; omega
theorem where_all (n i : Nat) (h : i < n) : (whereL (List.replicate n true)).getD i 0 = i := by
  rw [whereL_getD _ i (by simpa using h), whereI_yes (by simp [List.getD, h]), ct_all n i (by omega)]
theorem mv_all {f : Fn} {n N q : Nat} (hok : MvOk f N) (hn : f.code.length = n) (hq : q < n) : mvIns (insD f q) (whereL (List.replicate n true)) (whereL (List.replicate N true)) = insD f q := by
  have ht := hok.target q (by omega)
  have hc := hok.call q (by omega)
  generalize insD f q = x at ht hc
  obtain ⟨op, dst, a, b, imm⟩ := x
  dsimp only at ht hc
  by_cases h1 : op = 15 ∨ op = 16
  · obtain ⟨t, rfl, htn⟩ := ht h1
    rw [mvIns_target h1]
    show (⟨op, dst, a, b, (whereL (List.replicate n true)).getD t 0⟩ : Ins) = _
    rw [where_all n t (by omega)]
  · by_cases h2 : op = 17
    · subst h2
      obtain ⟨t, rfl, htn⟩ := hc rfl
      rw [mvIns_call]
      show (⟨17, dst, a, b, (whereL (List.replicate N true)).getD t 0⟩ : Ins) = _
      rw [where_all N t htn]
    · exact mvIns_else (fun e => h1 (Or.inl e)) (fun e => h1 (Or.inr e)) h2
theorem moved_all {f : Fn} {n N : Nat} (hok : MvOk f N) (hn : f.code.length = n) {k : Nat} (hk : k ≤ n) : movedTo f (whereL (List.replicate n true)) (whereL (List.replicate N true)) k = f.code.take k := by
  induction k with
  | zero => simp [movedTo]
  | succ k ih =>
    rw [movedTo_kept (by rw [where_all n k (by omega)]; omega), ih (by omega), mv_all hok hn (by omega), List.take_succ_eq_append_getElem (by omega), insD_eq (by omega)]
/-- What is left is left as it is. -/
theorem Left.again (h : Left P c Q) {m : Nat} {R : List Fn} (hR : KeptTo Q (List.replicate Q.length true) m R) (hm : m ≤ Q.length) : R = Q.take m := by
  induction hR with
  | zero => simp
  | @gone k R _ hk _ => simp [List.getD, show k < Q.length by omega] at hk
  | @kept k R s hh hp hk hs ih =>
    rw [ih (by omega), List.take_succ_eq_append_getElem hp]
    congr 1
    have e := h.reachQ hp hs
    subst e
    have hmv := moved_all (mvOk_of h.codeQ (List.getElem_mem hp)) rfl (Nat.le_refl Q[k].code.length)
    unfold keptF
    rw [hmv, List.take_length]
end
end Go.Proofs.YtpkgibdbmmhgdaaDoor
