/- A run of a program and one of what is left of it go side by side. -/
import Derived.Test.YtpkgibdbmmhgdaaDoorXAgainMore
import Derived.Test.YtpkgibdbmmhgdaaDoorGroupD
namespace Go.Proofs.YtpkgibdbmmhgdaaDoor
open Go Go.RowKit

/-- Two frames that stand at the same instruction, in a program and in what is left of it. -/
structure SimFr (P : List Fn) (c : List Bool) (f g : Fr) : Prop where
  here : ∃ (k j : Nat) (hk : k < P.length) (s : List Bool), c.getD k false = true ∧ Reach P[k] s ∧ j < P[k].code.length ∧ s.getD j false = true ∧ f.fn = k ∧ f.pc = j ∧ g.fn = (ctT c k : Nat) ∧ g.pc = (ctT s j : Nat)
  regs : g.regs = f.regs
inductive SimFs (P : List Fn) (c : List Bool) : List Fr → List Fr → Prop
  | nil : SimFs P c [] []
  | snoc {fs gs : List Fr} {f g : Fr} (h : SimFs P c fs gs) (hf : SimFr P c f g) : SimFs P c (fs ++ [f]) (gs ++ [g])
theorem SimFs.inv {P : List Fn} {c : List Bool} {l m : List Fr} (h : SimFs P c l m) : (l = [] ∧ m = []) ∨ ∃ fs gs f g, l = fs ++ [f] ∧ m = gs ++ [g] ∧ SimFs P c fs gs ∧ SimFr P c f g := by
  cases h with
  | nil => exact Or.inl ⟨rfl, rfl⟩
  | snoc h hf => exact Or.inr ⟨_, _, _, _, rfl, rfl, h, hf⟩
theorem SimFs.len {P : List Fn} {c : List Bool} {l m : List Fr} (h : SimFs P c l m) : m.length = l.length := by
  induction h with
  | nil => rfl
  | snoc _ _ ih => simp [ih]
theorem SimFs.get {P : List Fn} {c : List Bool} {l m : List Fr} (h : SimFs P c l m) : ∀ (i : Nat) (f g : Fr), l[i]? = some f → m[i]? = some g → SimFr P c f g := by
  induction h with
  | nil => intro i f g h1; simp at h1
  | @snoc fs gs a b h hf ih =>
    intro i f g h1 h2
    have hl := h.len
    rcases Nat.lt_trichotomy i fs.length with hi | hi | hi
    · rw [List.getElem?_append_left hi] at h1
      rw [List.getElem?_append_left (by omega)] at h2
      exact ih i f g h1 h2
    · subst hi
      rw [List.getElem?_concat_length] at h1
      rw [← hl, List.getElem?_concat_length] at h2
      cases h1; cases h2; exact hf
    · rw [List.getElem?_eq_none (by simp; omega)] at h1; cases h1
section
variable {P Q : List Fn} {c : List Bool}
theorem fnD_nat {k : Nat} (hk : k < P.length) : fnD P (k : Int) = P[k] := by unfold fnD; simp [List.getD, hk]
/-- The function that is left of one that is called. -/
theorem Left.fnD (h : Left P c Q) {k : Nat} (hk : k < P.length) (hc : c.getD k false = true) {s : List Bool} (hs : Reach P[k] s) : fnD Q ((ctT c k : Nat) : Int) = keptF P[k] s c := by
  obtain ⟨_, s', hs', e⟩ := h.at_ hk hc
  obtain rfl := reach_unique hs hs'
  unfold Proofs.YtpkgibdbmmhgdaaDoor.fnD
  rw [Int.toNat_natCast, List.getD_eq_getElem?_getD, e]; rfl
/-- Where a jump of a reached place leads, in both. -/
theorem Left.target (h : Left P c Q) {k q : Nat} (hk : k < P.length) {s : List Bool} (hs : Reach P[k] s) (hq : q < P[k].code.length) (hsq : s.getD q false = true) (ho : (insD P[k] q).op = 15 ∨ (insD P[k] q).op = 16) :
    ∃ t : Nat, (insD P[k] q).imm = t ∧ t < P[k].code.length ∧ s.getD t false = true ∧ (mvIns (insD P[k] q) (whereL s) (whereL c)).imm = (ctT s t : Nat) := by
  obtain ⟨t, e, ht⟩ := (mvOk_of h.code (List.getElem_mem hk)).target q hq ho
  have hw := way_on h.right hk hq ((hs.2 q hq).1 hsq) (behind_jump P[k].code[q] q (by rw [← insD_eq hq]; exact ho))
  rw [← insD_eq hq, e, Int.toNat_natCast] at hw
  have hst := (hs.2 t ht).2 hw.1
  refine ⟨t, e, ht, hst, ?_⟩
  unfold mvIns
  rw [if_pos ho, e]
  show (whereL s).getD t 0 = _
  rw [whereL_getD s t (by rw [hs.1]; exact ht), whereI_yes hst]
/-- A function that is called begins in both. -/
theorem Left.begins (h : Left P c Q) {t : Nat} (ht : t < P.length) (hc : c.getD t false = true) (l : List Int) : SimFr P c (begunFr t l) (begunFr ((ctT c t : Nat) : Int) l) := by
  obtain ⟨_, s, hs, _⟩ := h.at_ ht hc
  obtain ⟨ok, _⟩ := fnOk_of h.code (List.getElem_mem ht)
  have h1 : 0 < P[t].code.length := by have := ok.len1; omega
  refine ⟨⟨t, 0, ht, s, hc, hs, h1, (hs.2 0 h1).2 (Way.start (by have := ok.p2; omega)), rfl, rfl, rfl, ?_⟩, rfl⟩
  show (0 : Int) = _
  simp [ctT]
theorem SimFr.on (h : Left P c Q) {f g : Fr} (hs : SimFr P c f g) (h1 : (insOfFr P f).op ≠ 15) (h2 : (insOfFr P f).op ≠ 19) (l : List Int) : SimFr P c ⟨f.fn, f.pc + 1, l⟩ ⟨g.fn, g.pc + 1, l⟩ := by
  obtain ⟨⟨k, j, hk, s, hc, hr, hj, hsj, e1, e2, e3, e4⟩, _⟩ := hs
  unfold insOfFr at h1 h2
  rw [e1, e2, fnD_nat hk, Int.toNat_natCast, insD_eq hj] at h1 h2
  obtain ⟨a, b⟩ := way_on h.right hk hj ((hr.2 j hj).1 hsj) (behind_next _ j h1 h2)
  refine ⟨⟨k, j + 1, hk, s, hc, hr, b, (hr.2 _ b).2 a, e1, by show f.pc + 1 = _; rw [e2]; rfl, e3, ?_⟩, rfl⟩
  show g.pc + 1 = _
  rw [e4, ctT_yes (by rw [hr.1]; exact hj) hsj]; rfl
/-- What the two frames' instructions are to one another. -/
theorem SimFr.ins (h : Left P c Q) {f g : Fr} (hs : SimFr P c f g) :
    (insOfFr Q g).op = (insOfFr P f).op ∧ (insOfFr Q g).dst = (insOfFr P f).dst ∧ (insOfFr Q g).a = (insOfFr P f).a ∧ (insOfFr Q g).b = (insOfFr P f).b ∧
    ((insOfFr P f).op ≠ 15 → (insOfFr P f).op ≠ 16 → (insOfFr P f).op ≠ 17 → (insOfFr Q g).imm = (insOfFr P f).imm) ∧
    ((insOfFr P f).op = 15 ∨ (insOfFr P f).op = 16 → ∀ l, SimFr P c ⟨f.fn, (insOfFr P f).imm, l⟩ ⟨g.fn, (insOfFr Q g).imm, l⟩) ∧
    ((insOfFr P f).op = 17 → (fnD Q (insOfFr Q g).imm).params = (fnD P (insOfFr P f).imm).params ∧ ∀ l, SimFr P c (begunFr (insOfFr P f).imm l) (begunFr (insOfFr Q g).imm l)) := by
  obtain ⟨⟨k, j, hk, s, hc, hr, hj, hsj, e1, e2, e3, e4⟩, _⟩ := hs
  have e5 : insOfFr P f = insD P[k] j := by unfold insOfFr; rw [e1, e2, fnD_nat hk, Int.toNat_natCast]
  have e6 : insOfFr Q g = mvIns (insD P[k] j) (whereL s) (whereL c) := by
    unfold insOfFr
    rw [e3, e4, h.fnD hk hc hr, Int.toNat_natCast]
    exact (insD_kept hr hj hsj).2
  rw [e5, e6]
  obtain ⟨m1, m2, m3, m4⟩ := mv_op (insD P[k] j) (whereL s) (whereL c)
  refine ⟨m1, m2, m3, m4, fun a b d => ?_, fun ho l => ?_, fun ho => ?_⟩
  · rw [show mvIns (insD P[k] j) (whereL s) (whereL c) = insD P[k] j from mvIns_else a b d]
  · obtain ⟨t, i1, i2, i3, i4⟩ := h.target hk hr hj hsj ho
    exact ⟨⟨k, t, hk, s, hc, hr, i2, i3, e1, i1, e3, i4⟩, rfl⟩
  · obtain ⟨t, i1, i2, i3, i4⟩ := h.calls hk hc hr hj hsj ho
    rw [i1, i4]
    refine ⟨?_, fun l => h.begins i2 i3 l⟩
    rw [fnD_nat i2]
    exact h.params i2 i3

theorem sim_step (hL : Left P c Q) {S : St} {gs : List Fr} (hI : RunInv P S) (h : SimFs P c S.frames gs) :
    ∃ gs', stepS Q { S with frames := gs } = { stepS P S with frames := gs' } ∧ SimFs P c (stepS P S).frames gs' := by
  obtain ⟨status, value, frames, mem, fuel, events, answers⟩ := S
  have hok := hI.fok
  clear hI
  dsimp only at h hok ⊢
  unfold stepS
  dsimp only
  by_cases hf : fuel = 0
  · rw [if_pos hf, if_pos hf]; exact ⟨gs, rfl, h⟩
  rw [if_neg hf, if_neg hf]
  rcases h.inv with ⟨rfl, rfl⟩ | ⟨fs, gs', f, g, rfl, rfl, h1, h2⟩
  · exact ⟨[], rfl, .nil⟩
  simp only [List.getLast?_concat, List.dropLast_concat]
  obtain ⟨m1, m2, m3, m4, m5, m6, m7⟩ := h2.ins hL
  have hreg : ∀ r, regD g r = regD f r := fun r => by unfold regD; rw [h2.regs]
  have hput : (insOfFr P f).op ≠ 15 → (insOfFr P f).op ≠ 19 → ∀ r v, SimFr P c (putF f r v) (putF g r v) := fun a b r v => by
    unfold putF; rw [h2.regs]; exact h2.on hL a b _
  have hgo : (insOfFr P f).op ≠ 15 → (insOfFr P f).op ≠ 19 → SimFr P c ⟨f.fn, f.pc + 1, f.regs⟩ ⟨g.fn, g.pc + 1, g.regs⟩ := fun a b => by
    rw [h2.regs]; exact h2.on hL a b _
  have hb : ∀ a b, barredI (insOfFr Q g) a b = barredI (insOfFr P f) a b := fun a b => by unfold barredI; rw [m1]
  rw [m3, m4, hreg, hreg, hb]
  have hup := ((fok_snoc P fs f).1 hok).2.2
  have hlen := h1.len
  by_cases hz : barredI (insOfFr P f) (regD f (insOfFr P f).a) (regD f (insOfFr P f).b) = 0
  · rw [if_pos hz, if_pos hz]
    unfold doS
    rw [m1, m2, m3, m4]
    simp only [hreg]
    by_cases o13 : (insOfFr P f).op = 13
    · rw [if_pos o13, if_pos o13]; exact ⟨_, rfl, h1.snoc (hput (by omega) (by omega) _ _)⟩
    rw [if_neg o13, if_neg o13]
    by_cases o14 : (insOfFr P f).op = 14
    · rw [if_pos o14, if_pos o14]; exact ⟨_, rfl, h1.snoc (hgo (by omega) (by omega))⟩
    rw [if_neg o14, if_neg o14]
    by_cases o15 : (insOfFr P f).op = 15
    · rw [if_pos o15, if_pos o15]; exact ⟨_, rfl, h1.snoc (by rw [h2.regs]; exact m6 (Or.inl o15) _)⟩
    rw [if_neg o15, if_neg o15]
    by_cases o16 : (insOfFr P f).op = 16
    · rw [if_pos o16, if_pos o16]
      by_cases hr : regD f (insOfFr P f).a = 0
      · rw [if_pos hr, if_pos hr]; exact ⟨_, rfl, h1.snoc (hgo (by omega) (by omega))⟩
      · rw [if_neg hr, if_neg hr]; exact ⟨_, rfl, h1.snoc (by rw [h2.regs]; exact m6 (Or.inr o16) _)⟩
    rw [if_neg o16, if_neg o16]
    by_cases o17 : (insOfFr P f).op = 17
    · rw [if_pos o17, if_pos o17, hlen]
      by_cases h8 : fs.length + 1 = 8
      · rw [if_pos h8, if_pos h8]; exact ⟨_, rfl, h1.snoc h2⟩
      · rw [if_neg h8, if_neg h8, (m7 o17).1]
        have := (h1.snoc h2).snoc ((m7 o17).2 ([regD f (insOfFr P f).a, regD f (insOfFr P f).b].take (fnD P (insOfFr P f).imm).params.toNat))
        rw [List.append_assoc, List.append_assoc] at this
        exact ⟨_, rfl, this⟩
    rw [if_neg o17, if_neg o17]
    by_cases o18 : (insOfFr P f).op = 18
    · rw [if_pos o18, if_pos o18]; exact ⟨_, rfl, h1.snoc (hput (by omega) (by omega) _ _)⟩
    rw [if_neg o18, if_neg o18]
    by_cases o19 : (insOfFr P f).op = 19
    · rw [if_pos o19, if_pos o19]
      unfold retS
      rcases h1.inv with ⟨rfl, rfl⟩ | ⟨fs', gs'', f', g', rfl, rfl, k1, k2⟩
      · exact ⟨[], rfl, .nil⟩
      · simp only [List.getLast?_concat, List.dropLast_concat]
        have h17 := (hup f' (by simp)).1
        rw [(k2.ins hL).2.1]
        refine ⟨_, rfl, k1.snoc ?_⟩
        unfold putF; rw [k2.regs]; exact k2.on hL (by omega) (by omega) _
    rw [if_neg o19, if_neg o19, m5 o15 o16 o17]
    exact ⟨_, rfl, h1.snoc (hput (by omega) (by omega) _ _)⟩
  · rw [if_neg hz, if_neg hz]
    exact ⟨_, rfl, h1.snoc h2⟩
/-- So many steps of the one are so many of the other. -/
theorem sim_walk (hL : Left P c Q) (n : Nat) : ∀ {S : St} {gs : List Fr}, RunInv P S → SimFs P c S.frames gs →
    ∃ gs', walkS Q n { S with frames := gs } = { walkS P n S with frames := gs' } ∧ SimFs P c (walkS P n S).frames gs' := by
  induction n with
  | zero => intro S gs _ h; exact ⟨gs, rfl, h⟩
  | succ n ih =>
    intro S gs hI h
    rw [walkS, walkS]
    by_cases h0 : S.status = 0
    · rw [if_pos h0, if_pos (show ({ S with frames := gs } : St).status = 0 from h0)]
      obtain ⟨gs', e, h'⟩ := sim_step hL hI h
      rw [e]
      exact ih (runInv_step hL.right hI h0) h'
    · rw [if_neg h0, if_neg (show ¬ ({ S with frames := gs } : St).status = 0 from h0)]
      exact ⟨gs, rfl, h⟩
/-- Both begin. -/
theorem sim_begin (hL : Left P c Q) (h1 : 0 < P.length) (args answers : List Int) (fuel : Int) :
    ∃ gs, beginSt args answers fuel = { beginSt args answers fuel with frames := gs } ∧ SimFs P c (beginSt args answers fuel).frames gs := by
  have hc : c.getD 0 false = true := (hL.called.2 0 h1).2 .zero
  have := SimFs.nil.snoc (hL.begins h1 hc args)
  refine ⟨[begunFr 0 args], rfl, ?_⟩
  show SimFs P c [begunFr 0 args] [begunFr 0 args]
  simpa [ctT] using this
end
end Go.Proofs.YtpkgibdbmmhgdaaDoor
