import Derived.Test.YtldbmdgpdolaaaaGreatDoorPXSsaNum
namespace Go.Proofs.YtldbmdgpdolaaaaGreatDoor
open Go Go.RowKit

theorem i64s_app (a b : List Int) : i64s (a ++ b) = i64s a ++ i64s b := by simp [i64s]
theorem slots_setInts {base t m : Nat} {VV : Nat → Value} {NN : Nat → Nat} {k q c : Nat} (hk : k < m) (hq : VV k = .slice (some ⟨q, 0, none⟩) (NN k) c) : ∀ (zs : List Int) (pre post : List Int) (XX : Nat → List Value) (w : World), SlotsT w base t 1 m VV NN XX → XX k = i64s (pre ++ post) → post.length = zs.length → SlotsT (setInts w q pre.length zs) base t 1 m VV NN (upd XX k (i64s (pre ++ zs))) ∧ w.grownBy (setInts w q pre.length zs) (some q)
  | [], pre, post, XX, w, h, hx, hl => by
    obtain rfl := List.length_eq_zero_iff.1 hl
    refine ⟨?_, gb_refl _ _⟩
    rw [← hx, upd_self]; exact h
  | z :: zs, pre, post, XX, w, h, hx, hl => by
    obtain ⟨y, post', rfl⟩ : ∃ y post', post = y :: post' := by
      cases post with
      | nil => cases hl
      | cons y p => exact ⟨y, p, rfl⟩
    obtain ⟨s1, s2⟩ := h.store hk hq pre.length (.int .i64 z)
    have e : (XX k).set pre.length (.int .i64 z) = i64s ((pre ++ [z]) ++ post') := by
      rw [hx, i64s_app, List.set_append_right _ _ (by simp [i64s])]
      simp [i64s]
    have := slots_setInts hk hq zs (pre ++ [z]) post' (upd XX k ((XX k).set pre.length (.int .i64 z))) _ s1 (by rw [upd_same, e]) (by simpa using hl)
    rw [List.length_append, List.length_singleton] at this
    have e2 : upd (upd XX k ((XX k).set pre.length (.int .i64 z))) k (i64s (pre ++ [z] ++ zs)) = upd XX k (i64s (pre ++ z :: zs)) := by
      funext j
      by_cases e : j = k
      · subst e; simp [upd_same]
      · simp [upd_other _ e]
    rw [e2] at this
    exact ⟨this.1, gb_trans s2 this.2⟩
theorem PartsAt.congr {w : World} {base g n : Nat} {D D' : PDat} {L : PLay} (h : PartsAt w base g n D L) (hb : ∀ b, b < n → D.bk b = D'.bk b ∧ D.ph b = D'.ph b ∧ D.ins b = D'.ins b ∧ D.rg b = D'.rg b) (ha : ∀ s, s < 12 * n → D.ar s = D'.ar s) : PartsAt w base g n D' L := by
  refine ⟨?_, fun b hbn => by rw [← (hb b hbn).2.2.2]; exact h.rlen b hbn, h.phis.congr fun i hi => ⟨rfl, by rw [(hb i hi).2.1], by rw [(hb i hi).2.1]⟩, h.ins.congr fun i hi => ⟨rfl, by rw [(hb i hi).2.2.1], by rw [(hb i hi).2.2.1]⟩, h.args.congr fun i hi => ⟨rfl, by rw [ha i hi], by rw [ha i hi]⟩, fun b hbn p hp => ?_⟩
  · have e : gC (pC D L) n = gC (pC D' L) n := gC_same fun i hi => by
      obtain ⟨e1, -, -, e2⟩ := hb i hi
      show partC _ _ _ _ = partC _ _ _ _
      rw [e1, e2]
    rw [← e]; exact h.row
  · rw [← (hb b hbn).2.1] at hp
    obtain ⟨h1, h2⟩ := h.fit b hbn p hp
    exact ⟨h1, by rw [← ha _ (by omega)]; exact h2⟩
def RegsD (n : Nat) (PH : Nat → List PhiD) : Prop := ∀ b, b < n → (PH b).Pairwise (fun p q => p.reg ≠ q.reg)
theorem reg_inj {ps : List PhiD} (h : ps.Pairwise (fun p q => p.reg ≠ q.reg)) {i j : Nat} (hi : i < ps.length) (hj : j < ps.length) (e : ps[i].reg = ps[j].reg) : i = j := by
  rcases Nat.lt_trichotomy i j with h1 | h1 | h1
  · exact absurd e (List.pairwise_iff_getElem.1 h i j hi hj h1)
  · exact h1
  · exact absurd e.symm (List.pairwise_iff_getElem.1 h j i hj hi h1)
theorem PartsAt.setArgs {w : World} {base g n : Nat} {D : PDat} {L : PLay} (h : PartsAt w base g n D L) (hd : RegsD n D.ph) {b k q c : Nat} (hb : b < n) (hk : k < (D.ph b).length) (hq : L.va (12 * b + (D.ph b)[k].reg) = .slice (some ⟨q, 0, none⟩) (D.ph b)[k].args.length c) (zs : List Int) (hl : zs.length = (D.ph b)[k].args.length) :
    PartsAt (setInts w q 0 zs) base g n { D with ph := upd D.ph b ((D.ph b).set k ⟨(D.ph b)[k].reg, (D.ph b)[k].id, zs⟩), ar := upd D.ar (12 * b + (D.ph b)[k].reg) zs } L ∧ w.grownBy (setInts w q 0 zs) (some q) := by
  obtain ⟨f1, f2⟩ := h.fit b hb _ (List.getElem_mem hk)
  have hs : 12 * b + (D.ph b)[k].reg < 12 * n := by omega
  obtain ⟨r1, r2⟩ := slots_setInts hs (NN := fun s => (D.ar s).length) (q := q) (c := c) (by rw [hq]; simp only [f2]) zs [] (D.ar (12 * b + (D.ph b)[k].reg)) _ w h.args rfl (by rw [f2, hl])
  have r2 : w.grownBy (setInts w q 0 zs) (some q) := r2
  have hty : ∀ q' cs t, some q = some q' → w.heap[q']? = some (.cells cs t (0, 0)) → t = 3 := fun q' cs t e hh => own_type (h.args.own _ hs) (by show (L.va _).ownBlock = _; rw [hq]; exact e) hh
  refine ⟨⟨h.row.kept r2 ?_, h.rlen, (h.phis.keptT r2 (fun q' cs e hh => absurd (hty q' cs _ e hh) (by decide))).congr (fun i hi => ⟨rfl, ?_, ?_⟩), h.ins.keptT r2 (fun q' cs e hh => absurd (hty q' cs _ e hh) (by decide)), r1.congr (fun i _ => ⟨rfl, ?_, ?_⟩), ?_⟩, r2⟩
  · right
    intro e
    rcases h.row.2 with ⟨e2, -⟩ | ⟨q', cap, cur, e2, -, hh, -⟩
    · cases e2
    · obtain ⟨rfl, -⟩ : g = q' ∧ n = cap := by simpa using e2
      exact absurd (hty g cur _ e.symm hh) (by decide)
  · by_cases e : i = b
    · subst e; simp [upd_same]
    · simp [upd_other _ e]
  · by_cases e : i = b
    · subst e
      simp only [upd_same]
      apply List.ext_getElem?
      intro j
      have e2 := flat_set (phC_len L.va i) (D.ph i) k 0 hk ⟨(D.ph i)[k].reg, (D.ph i)[k].id, zs⟩ (.int .i64 ((D.ph i)[k].reg : Int)) (by omega) rfl
      rw [← e2]
      have e3 := flat_set (phC_len L.va i) (D.ph i) k 0 hk (D.ph i)[k] (.int .i64 ((D.ph i)[k].reg : Int)) (by omega) rfl
      rw [List.set_getElem_self] at e3
      rw [e3]
    · simp [upd_other _ e]
  · by_cases e : i = 12 * b + (D.ph b)[k].reg
    · subst e; simp only [upd_same]; rw [f2, hl]
    · simp [upd_other _ e]
  · by_cases e : i = 12 * b + (D.ph b)[k].reg
    · subst e; simp [upd_same]
    · simp [upd_other _ e]
  · intro i hi p hp
    have hp : p ∈ upd D.ph b ((D.ph b).set k ⟨(D.ph b)[k].reg, (D.ph b)[k].id, zs⟩) i := hp
    show p.reg < 12 ∧ upd D.ar (12 * b + (D.ph b)[k].reg) zs (12 * i + p.reg) = p.args
    by_cases e : i = b
    · subst e
      rw [upd_same] at hp
      obtain ⟨j, hj, rfl⟩ := List.mem_iff_getElem.1 hp
      rw [List.length_set] at hj
      rw [List.getElem_set]
      by_cases e2 : k = j
      · rw [if_pos e2]; exact ⟨f1, upd_same _ _ _⟩
      · rw [if_neg e2]
        obtain ⟨g1, g2⟩ := h.fit i hi _ (List.getElem_mem hj)
        refine ⟨g1, ?_⟩
        rw [upd_other _ (fun e3 => e2 (reg_inj (hd i hi) hk hj (by omega)))]; exact g2
    · rw [upd_other _ e] at hp
      obtain ⟨g1, g2⟩ := h.fit i hi _ hp
      exact ⟨g1, by rw [upd_other _ (by omega)]; exact g2⟩
theorem PartsAt.setRegs {base g n b : Nat} {L : PLay} (hb : b < n) : ∀ (zs pre post : List Int) (D : PDat) (w : World), PartsAt w base g n D L → D.rg b = pre ++ post → post.length = zs.length → PartsAt (setInts w g (b * 15 + 3 + pre.length) zs) base g n { D with rg := upd D.rg b (pre ++ zs) } L ∧ w.grownBy (setInts w g (b * 15 + 3 + pre.length) zs) (some g)
  | [], pre, post, D, w, h, hx, hl => by
    obtain rfl := List.length_eq_zero_iff.1 hl
    refine ⟨?_, gb_refl _ _⟩
    rw [← hx, upd_self]; exact h
  | z :: zs, pre, post, D, w, h, hx, hl => by
    obtain ⟨y, post', rfl⟩ : ∃ y post', post = y :: post' := by
      cases post with
      | nil => cases hl
      | cons y p => exact ⟨y, p, rfl⟩
    have hr := h.rlen b hb
    rw [hx, List.length_append, List.length_cons] at hr
    obtain ⟨s1, s2⟩ := h.setReg hb (r := pre.length) (by omega) z
    have e : (D.rg b).set pre.length z = (pre ++ [z]) ++ post' := by rw [hx, List.set_append_right _ _ (by simp)]; simp
    have := PartsAt.setRegs hb zs (pre ++ [z]) post' _ _ s1 (by show upd D.rg b _ b = _; rw [upd_same, e]) (by simpa using hl)
    rw [List.length_append, List.length_singleton, ← Nat.add_assoc] at this
    refine ⟨?_, gb_trans s2 this.2⟩
    refine this.1.congr (fun i _ => ⟨rfl, rfl, rfl, ?_⟩) (fun _ _ => rfl)
    show upd (upd D.rg b _) b _ i = upd D.rg b _ i
    by_cases e : i = b
    · subst e; simp [upd_same]
    · simp [upd_other _ e]
def phN (N : Int → Int) (p : PhiD) : PhiD := ⟨p.reg, N p.id, p.args.map N⟩
def insN (N : Int → Int) (x : InsD) : InsD := ⟨x.op, N x.id, N x.a, N x.b, x.imm, x.pc⟩
def mixL {α : Type} (f : α → α) (k : Nat) (l : List α) : List α := (l.take k).map f ++ l.drop k
theorem mixL_len {α : Type} (f : α → α) (k : Nat) (l : List α) : (mixL f k l).length = l.length := by simp [mixL]; omega
theorem mixL_zero {α : Type} (f : α → α) (l : List α) : mixL f 0 l = l := by simp [mixL]
theorem mixL_all {α : Type} (f : α → α) (l : List α) : mixL f l.length l = l.map f := by simp [mixL]
theorem mixL_get {α : Type} (f : α → α) {k : Nat} {l : List α} (hk : k < l.length) : (mixL f k l)[k]'(by rw [mixL_len]; exact hk) = l[k] := by
  unfold mixL
  rw [List.getElem_append_right (by simp; omega)]
  simp [Nat.min_eq_left (Nat.le_of_lt hk)]
theorem mixL_set {α : Type} (f : α → α) {k : Nat} {l : List α} (hk : k < l.length) : (mixL f k l).set k (f l[k]) = mixL f (k + 1) l := by
  unfold mixL
  have e : ((l.take k).map f).length = k := by simp; omega
  rw [List.set_append_right _ _ (by rw [e]; exact Nat.le_refl _), e, Nat.sub_self, List.drop_eq_getElem_cons hk, List.set_cons_zero, List.take_succ_eq_append_getElem hk]
  simp only [List.map_append, List.map_cons, List.map_nil, List.append_assoc, List.cons_append, List.nil_append]
def renD (N : Int → Int) (b : Nat) (D : PDat) (ar : Nat → List Int) : PDat :=
  ⟨D.bk, fun i => if i < b then (D.ph i).map (phN N) else D.ph i, fun i => if i < b then (D.ins i).map (insN N) else D.ins i, fun i => if i < b then (D.rg i).map N else D.rg i, ar⟩
structure FitD (n : Nat) (D : PDat) : Prop where
  ph : ∀ b, b < n → ∀ p ∈ D.ph b, Fit2 p.id ∧ ∀ a ∈ p.args, Fit2 a
  ins : ∀ b, b < n → ∀ x ∈ D.ins b, Fit2 x.id ∧ Fit2 x.a ∧ Fit2 x.b
  rg : ∀ b, b < n → ∀ z ∈ D.rg b, Fit2 z
theorem upd_upd {α : Type} (g : Nat → α) (i : Nat) (x y : α) : upd (upd g i x) i y = upd g i y := by
  funext j
  by_cases e : j = i
  · rw [e, upd_same, upd_same]
  · rw [upd_other _ e, upd_other _ e, upd_other _ e]
theorem regsD_set {n : Nat} {PH : Nat → List PhiD} (h : RegsD n PH) {b k : Nat} (hk : k < (PH b).length) {p : PhiD} (hp : p.reg = (PH b)[k].reg) : RegsD n (upd PH b ((PH b).set k p)) := by
  intro i hi
  by_cases e : i = b
  · subst e
    rw [upd_same]
    have e : ((PH i).set k p).map (·.reg) = (PH i).map (·.reg) := by
      rw [List.map_set, hp]
      have : ((PH i).map (·.reg))[k]'(by simpa using hk) = (PH i)[k].reg := by simp
      rw [← this, List.set_getElem_self]
    have h1 : ((PH i).map (·.reg)).Pairwise (· ≠ ·) := List.pairwise_map.2 (h i hi)
    rw [← e] at h1
    exact List.pairwise_map.1 h1
  · rw [upd_other _ e]; exact h i hi
end Go.Proofs.YtldbmdgpdolaaaaGreatDoor
