import Derived.Test.YtldbmdgpdolaaaaDoorPXBrief
import Derived.Test.YtldbmdgpdolaaaaDoorPXSsaLive
import Derived.Test.YtldbmdgpdolaaaaDoorPXSsaIds
namespace Go.Proofs.YtldbmdgpdolaaaaDoor
open Go Go.RowKit

def stD (N : Int → Int) (b : Nat) (D : PDat) (ar : Nat → List Int) (k1 k2 : Nat) : PDat :=
  ⟨D.bk, fun i => if i < b then (D.ph i).map (phN N) else if i = b then mixL (phN N) k1 (D.ph b) else D.ph i, fun i => if i < b then (D.ins i).map (insN N) else if i = b then mixL (insN N) k2 (D.ins b) else D.ins i, fun i => if i < b then (D.rg i).map N else D.rg i, ar⟩
theorem stD_ph (N : Int → Int) (b : Nat) (D : PDat) (ar : Nat → List Int) (k1 k2 : Nat) : (stD N b D ar k1 k2).ph b = mixL (phN N) k1 (D.ph b) := by simp [stD]
theorem stD_ins (N : Int → Int) (b : Nat) (D : PDat) (ar : Nat → List Int) (k1 k2 : Nat) : (stD N b D ar k1 k2).ins b = mixL (insN N) k2 (D.ins b) := by simp [stD]
theorem stD_rg (N : Int → Int) (b : Nat) (D : PDat) (ar : Nat → List Int) (k1 k2 : Nat) : (stD N b D ar k1 k2).rg b = D.rg b := by simp [stD]
theorem stD_start {w : World} {base g n : Nat} {N : Int → Int} {b : Nat} {D : PDat} {ar : Nat → List Int} {L : PLay} (h : PartsAt w base g n (renD N b D ar) L) : PartsAt w base g n (stD N b D ar 0 0) L := by
  refine h.congr (fun i _ => ?_) (fun _ _ => rfl)
  simp only [renD, stD]
  rcases Nat.lt_trichotomy i b with e | e | e
  · simp [e]
  · subst e; simp [mixL_zero]
  · simp [show ¬ i < b by omega, show ¬ i = b by omega]
theorem stD_done {w : World} {base g n : Nat} {N : Int → Int} {b : Nat} {D : PDat} {ar : Nat → List Int} {L : PLay} (h : PartsAt w base g n { stD N b D ar (D.ph b).length (D.ins b).length with rg := upd (stD N b D ar (D.ph b).length (D.ins b).length).rg b ((D.rg b).map N) } L) : PartsAt w base g n (renD N (b + 1) D ar) L := by
  refine h.congr (fun i _ => ?_) (fun _ _ => rfl)
  simp only [renD, stD]
  rcases Nat.lt_trichotomy i b with e | e | e
  · simp [e, show i < b + 1 by omega, upd_other _ (show i ≠ b by omega)]
  · subst e; simp [mixL_all, upd_same]
  · simp [show ¬ i < b by omega, show ¬ i = b by omega, show ¬ i < b + 1 by omega, upd_other _ (show i ≠ b by omega)]
theorem stD_regs {n : Nat} {N : Int → Int} {b : Nat} {D : PDat} {ar : Nat → List Int} {k1 k2 : Nat} (h : RegsD n D.ph) : RegsD n (stD N b D ar k1 k2).ph := by
  intro i hi
  have key : ∀ (l : List PhiD) (m : Nat), l.Pairwise (fun p q => p.reg ≠ q.reg) → (mixL (phN N) m l).Pairwise (fun p q => p.reg ≠ q.reg) := by
    intro l m hl
    have e : (mixL (phN N) m l).map (·.reg) = l.map (·.reg) := by
      unfold mixL
      rw [List.map_append, List.map_map]
      have : ((fun x : PhiD => x.reg) ∘ phN N) = fun x => x.reg := rfl
      rw [this, ← List.map_append, List.take_append_drop]
    have h1 : (l.map (·.reg)).Pairwise (· ≠ ·) := List.pairwise_map.2 hl
    rw [← e] at h1
    exact List.pairwise_map.1 h1
  simp only [stD]
  split
  · have := key (D.ph i) (D.ph i).length (h i hi)
    rw [mixL_all] at this; exact this
  · split
    · rename_i e; subst e; exact key _ _ (h i hi)
    · exact h i hi
theorem below_dr {w : World} (d : Nat) : Below w.heap.size w (w.drewN d) := ⟨rfl, rfl, rfl, Nat.le_refl _, fun _ _ => rfl⟩
theorem PartsAt.own4s {w : World} {base g n : Nat} {D : PDat} {L : PLay} (h : PartsAt w base g n D L) {b c j : Nat} {u : Value} {q : Nat} (hb : b < n) (hq : L.vp b = .slice (some ⟨q, 0, none⟩) (D.ph b).length c) : Own4 base w (w.setCell ⟨q, j, none⟩ u) := by
  have hown := h.phis.own b hb
  rw [hq] at hown
  rcases hown.2 with ⟨e, -⟩ | ⟨g', cap, cur, e, hbs, hh, -⟩
  · cases e
  · obtain ⟨rfl, -⟩ : q = g' ∧ c = cap := by simpa using e
    exact Own4.of_gb (q := q) ⟨rfl, rfl, rfl, by simp, fun i hi hne => heap_setCell_other _ _ _ _ (by show i ≠ q; simpa using hne)⟩ (by simp) hbs hh (Or.inr (Or.inl rfl))
theorem PartsAt.own4i {w : World} {base g n : Nat} {D : PDat} {L : PLay} (h : PartsAt w base g n D L) {b c j : Nat} {u : Value} {q : Nat} (hb : b < n) (hq : L.vi b = .slice (some ⟨q, 0, none⟩) (D.ins b).length c) : Own4 base w (w.setCell ⟨q, j, none⟩ u) := by
  have hown := h.ins.own b hb
  rw [hq] at hown
  rcases hown.2 with ⟨e, -⟩ | ⟨g', cap, cur, e, hbs, hh, -⟩
  · cases e
  · obtain ⟨rfl, -⟩ : q = g' ∧ c = cap := by simpa using e
    exact Own4.of_gb (q := q) ⟨rfl, rfl, rfl, by simp, fun i hi hne => heap_setCell_other _ _ _ _ (by show i ≠ q; simpa using hne)⟩ (by simp) hbs hh (Or.inr (Or.inr (Or.inl rfl)))
theorem own_block1 {w : World} {base t : Nat} {q n c : Nat} {l : List Int} (h : w.ownsRow base t 1 (.slice (some ⟨q, 0, none⟩) n c) l.length (i64s l)) : base ≤ q ∧ ∃ cs : Array Value, w.heap[q]? = some (.cells cs t (0, 0)) ∧ ∀ j, j < l.length → cs[0 + j]? = some (.int .i64 (l.getD j 0)) := by
  rcases h.2 with ⟨e, -⟩ | ⟨g', cap, cur, e, hbs, hh, -, -, -, ht⟩
  · cases e
  · have e1 : q = g' := by simp at e; exact e.1
    subst e1
    refine ⟨hbs, cur, hh, fun j hj => ?_⟩
    have hx : (i64s l)[j]? = some (.int .i64 (l.getD j 0)) := by simp [i64s, List.getD, hj]
    rw [← ht, List.getElem?_take, if_pos (by omega)] at hx
    rw [Nat.zero_add]; simpa using hx
theorem stD_at (N : Int → Int) (b : Nat) (D : PDat) (ar : Nat → List Int) {k k2 : Nat} (hk : k < (D.ph b).length) : ((stD N b D ar k k2).ph b)[k]'(by rw [stD_ph, mixL_len]; exact hk) = (D.ph b)[k] := by simp only [stD_ph]; exact mixL_get _ hk
theorem ren_phi {W4 : World} {base gp n b k gA cA : Nat} {N : Int → Int} {D : PDat} {ar : Nat → List Int} {L : PLay} (h : PartsAt W4 base gp n { stD N b D ar k 0 with ph := upd (stD N b D ar k 0).ph b (((stD N b D ar k 0).ph b).set k ⟨((D.ph b)[k]?.getD ⟨0, 0, []⟩).reg, N ((D.ph b)[k]?.getD ⟨0, 0, []⟩).id, ((D.ph b)[k]?.getD ⟨0, 0, []⟩).args⟩) } L) (hd : RegsD n D.ph) (hb : b < n) (hk : k < (D.ph b).length)
    (hq : L.va (12 * b + ((D.ph b)[k]?.getD ⟨0, 0, []⟩).reg) = .slice (some ⟨gA, 0, none⟩) ((D.ph b)[k]?.getD ⟨0, 0, []⟩).args.length cA) (d : Nat) : ∃ ar', PartsAt ((setInts W4 gA 0 (((D.ph b)[k]?.getD ⟨0, 0, []⟩).args.map N)).drewN d) base gp n (stD N b D ar' (k + 1) 0) L := by
  have hP : (D.ph b)[k]?.getD ⟨0, 0, []⟩ = (D.ph b)[k] := by simp [hk]
  have hlm : ((stD N b D ar k 0).ph b).length = (D.ph b).length := by rw [stD_ph, mixL_len]
  have hgm := stD_at N b D ar (k2 := 0) hk
  rw [← hP] at hgm
  have hset : ((mixL (phN N) k (D.ph b)).set k (phN N ((D.ph b)[k]?.getD ⟨0, 0, []⟩))) = mixL (phN N) (k + 1) (D.ph b) := by rw [hP]; exact mixL_set _ hk
  generalize (D.ph b)[k]?.getD ⟨0, 0, []⟩ = P at *
  have HRD : RegsD n (upd (stD N b D ar k 0).ph b (((stD N b D ar k 0).ph b).set k ⟨P.reg, N P.id, P.args⟩)) := regsD_set (stD_regs hd) (by rw [hlm]; exact hk) (by rw [hgm])
  have hl4 : k < (upd (stD N b D ar k 0).ph b (((stD N b D ar k 0).ph b).set k ⟨P.reg, N P.id, P.args⟩) b).length := by rw [upd_same, List.length_set, hlm]; exact hk
  have hg4 : (upd (stD N b D ar k 0).ph b (((stD N b D ar k 0).ph b).set k ⟨P.reg, N P.id, P.args⟩) b)[k] = ⟨P.reg, N P.id, P.args⟩ := by simp only [upd_same, List.getElem_set_self]
  obtain ⟨u1, -⟩ := h.setArgs HRD hb hl4 (q := gA) (c := cA) (by rw [hg4]; exact hq) (P.args.map N) (by rw [hg4]; simp)
  simp only [hg4] at u1
  refine ⟨upd ar (12 * b + P.reg) (P.args.map N), (u1.below (below_dr d)).congr (fun i _ => ⟨rfl, ?_, rfl, rfl⟩) (fun _ _ => rfl)⟩
  show upd (upd (stD N b D ar k 0).ph b (((stD N b D ar k 0).ph b).set k ⟨P.reg, N P.id, P.args⟩)) b ((upd (stD N b D ar k 0).ph b (((stD N b D ar k 0).ph b).set k ⟨P.reg, N P.id, P.args⟩) b).set k ⟨P.reg, N P.id, P.args.map N⟩) i = (stD N b D _ (k + 1) 0).ph i
  rw [upd_upd, upd_same, List.set_set]
  by_cases e : i = b
  · subst e
    rw [upd_same, stD_ph, stD_ph, ← hset]; rfl
  · rw [upd_other _ e]; simp [stD, e]
theorem stD_atI (N : Int → Int) (b : Nat) (D : PDat) (ar : Nat → List Int) {k1 k : Nat} (hk : k < (D.ins b).length) : ((stD N b D ar k1 k).ins b)[k]'(by rw [stD_ins, mixL_len]; exact hk) = (D.ins b)[k] := by simp only [stD_ins]; exact mixL_get _ hk
theorem PartsAt.cellX {w : World} {base g n : Nat} {D : PDat} {L : PLay} (h : PartsAt w base g n D L) {b k q c d : Nat} {x : InsD} {u : Value} (hb : b < n) (hx : (D.ins b)[k]? = some x) (hq : L.vi b = .slice (some ⟨q, 0, none⟩) (D.ins b).length c) (hu : (inC x)[d]? = some u) : w.cell? ⟨q, k * 6 + d, none⟩ = some u ∧ w.frozen? ⟨q, k * 6 + d, none⟩ = false := by
  obtain ⟨hk, rfl⟩ := List.getElem?_eq_some_iff.1 hx
  have hown := h.ins.own b hb
  rw [hq] at hown
  exact ⟨h.insAt hb hk hq d u hu, hown.frozenAt _⟩
theorem ren_ins {w : World} {base gp n b k k1 gq cI : Nat} {N : Int → Int} {D : PDat} {ar : Nat → List Int} {L : PLay} (h : PartsAt w base gp n (stD N b D ar k1 k) L) (hb : b < n) (hk : k < (D.ins b).length) (hq : L.vi b = .slice (some ⟨gq, 0, none⟩) ((stD N b D ar k1 k).ins b).length cI) :
    (w.cell? ⟨gq, k * 6 + 1, none⟩ = some (.int .i64 (D.ins b)[k].id) ∧ w.frozen? ⟨gq, k * 6 + 1, none⟩ = false) ∧
    ((w.setCell ⟨gq, k * 6 + 1, none⟩ (.int .i64 (N (D.ins b)[k].id))).cell? ⟨gq, k * 6 + 2, none⟩ = some (.int .i64 (D.ins b)[k].a) ∧ (w.setCell ⟨gq, k * 6 + 1, none⟩ (.int .i64 (N (D.ins b)[k].id))).frozen? ⟨gq, k * 6 + 2, none⟩ = false) ∧
    (((w.setCell ⟨gq, k * 6 + 1, none⟩ (.int .i64 (N (D.ins b)[k].id))).setCell ⟨gq, k * 6 + 2, none⟩ (.int .i64 (N (D.ins b)[k].a))).cell? ⟨gq, k * 6 + 3, none⟩ = some (.int .i64 (D.ins b)[k].b) ∧ ((w.setCell ⟨gq, k * 6 + 1, none⟩ (.int .i64 (N (D.ins b)[k].id))).setCell ⟨gq, k * 6 + 2, none⟩ (.int .i64 (N (D.ins b)[k].a))).frozen? ⟨gq, k * 6 + 3, none⟩ = false) ∧
    PartsAt (((w.setCell ⟨gq, k * 6 + 1, none⟩ (.int .i64 (N (D.ins b)[k].id))).setCell ⟨gq, k * 6 + 2, none⟩ (.int .i64 (N (D.ins b)[k].a))).setCell ⟨gq, k * 6 + 3, none⟩ (.int .i64 (N (D.ins b)[k].b))) base gp n (stD N b D ar k1 (k + 1)) L ∧
    Own4 base w (((w.setCell ⟨gq, k * 6 + 1, none⟩ (.int .i64 (N (D.ins b)[k].id))).setCell ⟨gq, k * 6 + 2, none⟩ (.int .i64 (N (D.ins b)[k].a))).setCell ⟨gq, k * 6 + 3, none⟩ (.int .i64 (N (D.ins b)[k].b))) := by
  have hlm : ((stD N b D ar k1 k).ins b).length = (D.ins b).length := by rw [stD_ins, mixL_len]
  have hgm := stD_atI N b D ar (k1 := k1) hk
  have hset := mixL_set (insN N) hk
  generalize (D.ins b)[k] = X at *
  have hk0 : k < ((stD N b D ar k1 k).ins b).length := by rw [hlm]; exact hk
  have g0 : ((stD N b D ar k1 k).ins b)[k]? = some X := by rw [List.getElem?_eq_getElem hk0, hgm]
  have a1 := h.cellX hb g0 hq (d := 1) (u := .int .i64 X.id) rfl
  obtain ⟨s1, -⟩ := h.setIns hb hk0 hq (d := 1) (by omega) ⟨X.op, N X.id, X.a, X.b, X.imm, X.pc⟩ (.int .i64 (N X.id)) (by rw [hgm]; rfl)
  have o1 := h.own4i (j := k * 6 + 1) (u := .int .i64 (N X.id)) hb hq
  have e1 : ∀ x, (upd (stD N b D ar k1 k).ins b (((stD N b D ar k1 k).ins b).set k x)) b = ((stD N b D ar k1 k).ins b).set k x := fun x => upd_same _ _ _
  have q1 : ∀ x, L.vi b = .slice (some ⟨gq, 0, none⟩) ((upd (stD N b D ar k1 k).ins b (((stD N b D ar k1 k).ins b).set k x)) b).length cI := fun x => by rw [e1, List.length_set]; exact hq
  have k1' : ∀ x, k < ((upd (stD N b D ar k1 k).ins b (((stD N b D ar k1 k).ins b).set k x)) b).length := fun x => by rw [e1, List.length_set]; exact hk0
  have g1 : ∀ x, ((upd (stD N b D ar k1 k).ins b (((stD N b D ar k1 k).ins b).set k x)) b)[k]? = some x := fun x => by rw [e1, List.getElem?_set_self hk0]
  have gg1 : ∀ x, ((upd (stD N b D ar k1 k).ins b (((stD N b D ar k1 k).ins b).set k x)) b)[k]'(k1' x) = x := fun x => by have := g1 x; rw [List.getElem?_eq_getElem (k1' x)] at this; exact Option.some.inj this
  have a2 := s1.cellX hb (g1 _) (q1 _) (d := 2) (u := .int .i64 X.a) rfl
  obtain ⟨s2, -⟩ := s1.setIns hb (k1' _) (q1 _) (d := 2) (by omega) ⟨X.op, N X.id, N X.a, X.b, X.imm, X.pc⟩ (.int .i64 (N X.a)) (by rw [gg1]; rfl)
  have o2 := s1.own4i (j := k * 6 + 2) (u := .int .i64 (N X.a)) hb (q1 _)
  simp only [upd_upd, upd_same, List.set_set] at s2
  have a3 := s2.cellX hb (g1 _) (q1 _) (d := 3) (u := .int .i64 X.b) rfl
  obtain ⟨s3, -⟩ := s2.setIns hb (k1' _) (q1 _) (d := 3) (by omega) ⟨X.op, N X.id, N X.a, N X.b, X.imm, X.pc⟩ (.int .i64 (N X.b)) (by rw [gg1]; rfl)
  have o3 := s2.own4i (j := k * 6 + 3) (u := .int .i64 (N X.b)) hb (q1 _)
  simp only [upd_upd, upd_same, List.set_set] at s3
  refine ⟨a1, a2, a3, s3.congr (fun i _ => ⟨rfl, rfl, ?_, rfl⟩) (fun _ _ => rfl), (o1.trans o2).trans o3⟩
  show upd (stD N b D ar k1 k).ins b (((stD N b D ar k1 k).ins b).set k (insN N X)) i = (stD N b D ar k1 (k + 1)).ins i
  by_cases e : i = b
  · subst e; rw [upd_same, stD_ins, stD_ins, hset]
  · rw [upd_other _ e]; simp [stD, e]
def RPPost (w : World) (base gp n : Nat) (D : PDat) (L : PLay) (N : Int → Int) (e : Ending) (w' : World) : Prop :=
  e = .returned (.tuple #[]) ∧ (∃ ar, PartsAt w' base gp n (renD N n D ar) L) ∧ Own4 base w w'
set_option maxRecDepth 100000 in
set_option maxHeartbeats 8000000 in
theorem renParts_any {R2 Rs : Nat} (w : World) (base gp n : Nat) (D : PDat) (L : PLay) (N : Int → Int) (h : PartsAt w base gp n D L) (hn : n ≤ 1000) (hd : RegsD n D.ph) (hf : FitD n D) (hpl : ∀ b, b < n → (D.ph b).length ≤ 50000 ∧ (D.ins b).length ≤ 50000 ∧ ∀ p ∈ D.ph b, p.args.length ≤ 50000 ∧ 0 < p.args.length)
    (HN : ∀ W, Own4 base w W → ∀ v, Fit2 v → Calls Tryd.prog 31 #[.int .i64 v, .pointer (some ⟨R2, 0, none⟩), .pointer (some ⟨Rs, 0, none⟩)] W fun e w' => e = .returned (.int .i64 (N v)) ∧ ∃ d, w' = W.drewN d) :
    Calls Tryd.prog 17 #[.slice (some ⟨gp, 0, none⟩) n n, numberV R2 Rs] w (RPPost w base gp n D L N) := by
  have HPOST : Hid (∀ e w', (e = .returned (.tuple #[]) ∧ (∃ ar, PartsAt w' base gp n (renD N n D ar) L) ∧ Own4 base w w') → RPPost w base gp n D L N e w') := fun e w' h => h
  have HPA0 : Hid (PartsAt w base gp n (renD N 0 D D.ar) L) := h.congr (fun i _ => by simp [renD]) (fun _ _ => rfl)
  have HD : Hid (RegsD n D.ph) := hd
  have HF : Hid (FitD n D) := hf
  have HPL : Hid (∀ b, b < n → (D.ph b).length ≤ 50000 ∧ (D.ins b).length ≤ 50000 ∧ ∀ p ∈ D.ph b, p.args.length ≤ 50000 ∧ 0 < p.args.length) := hpl
  have HNN : Hid (∀ W, Own4 base w W → ∀ v, Fit2 v → Calls Tryd.prog 31 #[.int .i64 v, .pointer (some ⟨R2, 0, none⟩), .pointer (some ⟨Rs, 0, none⟩)] W fun e w' => e = .returned (.int .i64 (N v)) ∧ ∃ d, w' = W.drewN d) := HN
  have hnI : (n : Int) ≤ 1000 := by omega
  clear h hd hf hpl HN
  go_enter Tryd.func17, Tryd.ntmps17
  go_upto_region 1 with fail
  go_loopw [11] (fun i wr => ∃ (b : Nat) (ar : Nat → List Int), b ≤ n ∧ i = .int .i64 b ∧ PartsAt wr base gp n (renD N b D ar) L ∧ Own4 base w wr) (fun i _ => n - (intOf i).toNat)
  case atStart => exact ⟨0, _, Nat.zero_le _, rfl, HPA0.out, Own4.refl _ _⟩
  case round =>
    obtain ⟨b, ar, hb, rfl, hpa, ho⟩ := hrel
    have HPA : Hid (PartsAt wr base gp n (renD N b D ar) L) := hpa
    have HO : Hid (Own4 base w wr) := ho
    clear hpa ho
    by_cases hbn : b < n
    · have hbI : (b : Int) < (n : Int) := by omega
      have HPS : Hid (PartsAt wr base gp n (stD N b D ar 0 0) L) := stD_start HPA.out
      have HL1 : Hid ((D.ph b).length ≤ 50000) := (HPL.out b hbn).1
      have HL2 : Hid ((D.ins b).length ≤ 50000) := (HPL.out b hbn).2.1
      have HL3 : Hid (∀ p ∈ D.ph b, p.args.length ≤ 50000 ∧ 0 < p.args.length) := (HPL.out b hbn).2.2
      obtain ⟨aoP, cP, eP⟩ := own_shape (HPS.out.phis.own b hbn)
      obtain ⟨aoI, cI, eI⟩ := own_shape (HPS.out.ins.own b hbn)
      simp only [stD_ph, stD_ins, mixL_len] at eP eI
      have HEP : Hid (L.vp b = .slice aoP (D.ph b).length cP) := eP
      have HEI : Hid (L.vi b = .slice aoI (D.ins b).length cI) := eI
      have cP1 := HPS.out.cellP hbn
      rw [eP] at cP1
      clear eP eI HPA
      go_upto_region 5 with fail
      clear cP1
      have hl1 := HL1.out
      go_loopw [22] (fun i wi => ∃ (k : Nat) (ar : Nat → List Int), k ≤ (D.ph b).length ∧ i = .int .i64 k ∧ PartsAt wi base gp n (stD N b D ar k 0) L ∧ Own4 base w wi) (fun i _ => (D.ph b).length - (intOf i).toNat)
      case atStart => exact ⟨0, ar, Nat.zero_le _, rfl, HPS.out, HO.out⟩
      case round =>
        clear HPS HO
        obtain ⟨k, ar, hk, rfl, hpa, ho⟩ := hrel
        rename World => wi
        have HPA : Hid (PartsAt wi base gp n (stD N b D ar k 0) L) := hpa
        have HO : Hid (Own4 base w wi) := ho
        clear hpa ho
        by_cases hkn : k < (D.ph b).length
        · have hkI : (k : Int) < ((D.ph b).length : Int) := by omega
          have hlm : ((stD N b D ar k 0).ph b).length = (D.ph b).length := by rw [stD_ph, mixL_len]
          have hgm : ((stD N b D ar k 0).ph b)[k]'(by rw [hlm]; exact hkn) = (D.ph b)[k] := by simp only [stD_ph]; exact mixL_get _ hkn
          obtain ⟨gq, cap', e, -, -⟩ := (HPA.out.phis.own b hbn).form (by rw [hlm]; omega)
          have e1 : aoP = some ⟨gq, 0, none⟩ := by rw [HEP.out] at e; exact (show aoP = some ⟨gq, 0, none⟩ ∧ _ by simpa using e).1
          subst e1
          have HEP2 : Hid (L.vp b = .slice (some ⟨gq, 0, none⟩) ((stD N b D ar k 0).ph b).length cP) := by show _ = _; rw [hlm]; exact HEP.out
          have hrk := HPA.out.phAt hbn (by rw [hlm]; exact hkn) HEP2.out
          rw [hgm] at hrk
          have c1 := hrk 1 _ rfl
          have cP1 := HPA.out.cellP hbn
          rw [HEP.out] at cP1
          have HV1 : Hid (Fit2 (D.ph b)[k].id) := ((HF.out.ph b hbn _ (List.getElem_mem hkn)).1)
          go_upto_region 7 with fail
          refine wp_region_last (S := fun W => ∃ d, W = wi.drewN d) _ 17 (by kernel_rfl) (by kernel_rfl) rfl ⟨1, rfl⟩ (fun hHeld => ?_)
          simp only [List.pop_toArray, List.dropLast]
          refine wpAnyH_take (i := 0) (v := ?_) rfl (by kernel_rfl) (by kernel_rfl) (by kernel_rfl) (fun _ _ _ h => h) (Or.inl ⟨by rfl, ?_⟩) (by assumption) ?_
          rotate_left
          · (intro W hSW; obtain ⟨dW, rfl⟩ := hSW; go_simp; try (with_reducible rfl))
          (try simp only [zB])
          (try simp only [zA])
          refine wpAnyH_take (i := 1) (v := ?_) rfl (by kernel_rfl) (by kernel_rfl) (by kernel_rfl) (fun _ _ _ h => h) (Or.inl ⟨by rfl, ?_⟩) (by assumption) ?_
          rotate_left
          · (intro W hSW; obtain ⟨dW, rfl⟩ := hSW; go_simp; try (with_reducible rfl))
          (try simp only [zB])
          (try simp only [zA])
          refine wpAnyH_take (i := 2) (v := ?_) rfl (by kernel_rfl) (by kernel_rfl) (by kernel_rfl) (fun _ _ _ h => h) (Or.inl ⟨by rfl, ?_⟩) (by assumption) ?_
          rotate_left
          · (intro W hSW; obtain ⟨dW, rfl⟩ := hSW; go_simp; try (with_reducible rfl))
          (try simp only [zB])
          (try simp only [zA])
          refine wpAnyH_take (i := 3) (v := ?_) rfl (by kernel_rfl) (by kernel_rfl) (by kernel_rfl) (fun _ _ _ h => h) (Or.inl ⟨by rfl, ?_⟩) (by assumption) ?_
          rotate_left
          · (intro W hSW; obtain ⟨dW, rfl⟩ := hSW; go_simp; try (with_reducible rfl))
          (try simp only [zB])
          (try simp only [zA])
          refine wpAnyH_take (i := 4) (v := ?_) rfl (by kernel_rfl) (by kernel_rfl) (by kernel_rfl) (fun _ _ _ h => h) (Or.inl ⟨by rfl, ?_⟩) (by assumption) ?_
          rotate_left
          · (intro W hSW; obtain ⟨dW, rfl⟩ := hSW; go_simp; try (with_reducible rfl))
          (try simp only [zB])
          (try simp only [zA])
          refine wpAnyH_take (i := 5) (v := ?_) rfl (by kernel_rfl) (by kernel_rfl) (by kernel_rfl) (fun _ _ _ h => h) (Or.inl ⟨by rfl, ?_⟩) (by assumption) ?_
          rotate_left
          · (intro W hSW; obtain ⟨dW, rfl⟩ := hSW; go_simp; try (with_reducible rfl))
          (try simp only [zB])
          (try simp only [zA])
          refine wpAnyH_take (i := 6) (v := ?_) rfl (by kernel_rfl) (by kernel_rfl) (by kernel_rfl) (fun _ _ _ h => h) (Or.inl ⟨by rfl, ?_⟩) (by assumption) ?_
          rotate_left
          · (intro W hSW; obtain ⟨dW, rfl⟩ := hSW; go_simp; try (with_reducible rfl))
          (try simp only [zB])
          (try simp only [zA])
          refine wpAnyH_take (i := 7) (v := ?_) rfl (by kernel_rfl) (by kernel_rfl) (by kernel_rfl) (fun _ _ _ h => h) (Or.inl ⟨by rfl, ?_⟩) (by assumption) ?_
          rotate_left
          · (intro W hSW; obtain ⟨dW, rfl⟩ := hSW; go_simp; try (with_reducible rfl))
          (try simp only [zB])
          (try simp only [zA])
          refine wpAnyH_take (i := 8) (v := ?_) rfl (by kernel_rfl) (by kernel_rfl) (by kernel_rfl) (fun _ _ _ h => h) (Or.inl ⟨by rfl, ?_⟩) (by assumption) ?_
          rotate_left
          · (intro W hSW; obtain ⟨dW, rfl⟩ := hSW; go_simp; try (with_reducible rfl))
          (try simp only [zB])
          (try simp only [zA])
          refine wpAnyH_take (i := 9) (v := ?_) rfl (by kernel_rfl) (by kernel_rfl) (by kernel_rfl) (fun _ _ _ h => h) (Or.inl ⟨by rfl, ?_⟩) (by assumption) ?_
          rotate_left
          · (intro W hSW; obtain ⟨dW, rfl⟩ := hSW; go_simp; try (with_reducible rfl))
          (try simp only [zB])
          (try simp only [zA])
          refine wpAnyH_take (i := 10) (v := ?_) rfl (by kernel_rfl) (by kernel_rfl) (by kernel_rfl) (fun _ _ _ h => h) (Or.inl ⟨by rfl, ?_⟩) (by assumption) ?_
          rotate_left
          · (intro W hSW; obtain ⟨dW, rfl⟩ := hSW; go_simp; try (with_reducible rfl))
          (try simp only [zB])
          (try simp only [zA])
          refine wpAnyH_take (i := 11) (v := ?_) rfl (by kernel_rfl) (by kernel_rfl) (by kernel_rfl) (fun _ _ _ h => h) (Or.inl ⟨by rfl, ?_⟩) (by assumption) ?_
          rotate_left
          · (intro W hSW; obtain ⟨dW, rfl⟩ := hSW; go_simp; try (with_reducible rfl))
          (try simp only [zB])
          (try simp only [zA])
          refine wpAnyH_take (i := 12) (v := ?_) rfl (by kernel_rfl) (by kernel_rfl) (by kernel_rfl) (fun _ _ _ h => h) (Or.inl ⟨by rfl, ?_⟩) (by assumption) ?_
          rotate_left
          · (intro W hSW; obtain ⟨dW, rfl⟩ := hSW; go_simp; try (with_reducible rfl))
          (try simp only [zB])
          (try simp only [zA])
          refine wpAnyH_take (i := 13) (v := ?_) rfl (by kernel_rfl) (by kernel_rfl) (by kernel_rfl) (fun _ _ _ h => h) (Or.inl ⟨by rfl, ?_⟩) (by assumption) ?_
          rotate_left
          · (intro W hSW; obtain ⟨dW, rfl⟩ := hSW; go_simp; try (with_reducible rfl))
          (try simp only [zB])
          (try simp only [zA])
          refine wpAnyH_ready (rs := [14]) (by kernel_rfl) (by simp) ?_
          refine AllReadyH.cons rfl (fun K hK => ?_) AllReadyH.nil
          go_simp
          go_at_call 31
          refine (HNN.out wi.drew (HO.out.trans (Own4.drewN base wi 1)) _ HV1.out).mono ?_
          rintro e w3 ⟨rfl, dw3, hw3⟩
          have HEw3 : w3 = wi.drewN (1 + dw3) := by rw [hw3]; show (wi.drewN 1).drewN dw3 = _; rw [drewN_two]
          have HSw3 : ∃ d, w3 = wi.drewN d := ⟨_, HEw3⟩
          dsimp only
          refine hK.out _ _ HSw3 (fun _ => ?_)
          clear hK K hHeld hw3
          have hHeld := HSw3
          (try simp only [zA])
          refine wpAnyH_take (i := 15) (v := ?_) rfl (by kernel_rfl) (by kernel_rfl) (by kernel_rfl) (fun _ _ _ h => h) (Or.inl ⟨by rfl, ?_⟩) (by assumption) ?_
          rotate_left
          · (intro W hSW; obtain ⟨dW, rfl⟩ := hSW; go_simp; try (with_reducible rfl))
          (try simp only [zB])
          (try simp only [zA])
          refine wpAnyH_take (i := 16) (v := ?_) rfl (by kernel_rfl) (by kernel_rfl) (by kernel_rfl) (fun _ _ _ h => h) (Or.inl ⟨by rfl, ?_⟩) (by assumption) ?_
          rotate_left
          · (intro W hSW; obtain ⟨dW, rfl⟩ := hSW; go_simp; try (with_reducible rfl))
          (try simp only [zB])
          (try simp only [zA])
          refine wpAnyH_done (by kernel_rfl) ?_ _
          refine Or.inl ?_
          have HE3 : Hid (w3 = wi.drewN (1 + dw3)) := HEw3
          have ci3 : w3.cell? ⟨gq, k * 3 + 1, none⟩ = some (.int .i64 (D.ph b)[k].id) := by rw [HEw3]; exact c1
          have fi3 : w3.frozen? ⟨gq, k * 3 + 1, none⟩ = false := by
            rw [HEw3]
            have hown := HPA.out.phis.own b hbn
            rw [HEP2.out] at hown
            exact hown.frozenAt _
          clear HEw3 HSw3 hHeld
          go_simp
          go_upto_region 8 with fail
          have hp3 : PartsAt w3 base gp n (stD N b D ar k 0) L := by rw [HE3.out]; exact HPA.out.below (below_dr _)
          obtain ⟨s1, -⟩ := hp3.setId hbn (k := k) (by rw [hlm]; exact hkn) HEP2.out (N (D.ph b)[k].id)
          rw [hgm] at s1
          have HO4 : Hid (Own4 base w (w3.setCell ⟨gq, k * 3 + 1, none⟩ (.int .i64 (N (D.ph b)[k].id)))) := (HO.out.trans (by rw [HE3.out]; exact Own4.drewN base wi _)).trans (hp3.own4s hbn HEP2.out)
          have HRD : Hid (RegsD n (upd (stD N b D ar k 0).ph b (((stD N b D ar k 0).ph b).set k ⟨(D.ph b)[k].reg, N (D.ph b)[k].id, (D.ph b)[k].args⟩))) := regsD_set (stD_regs HD.out) (by rw [hlm]; exact hkn) (by rw [hgm])
          have hl4 : k < (upd (stD N b D ar k 0).ph b (((stD N b D ar k 0).ph b).set k ⟨(D.ph b)[k].reg, N (D.ph b)[k].id, (D.ph b)[k].args⟩) b).length := by rw [upd_same, List.length_set, hlm]; exact hkn
          have hg4 : (upd (stD N b D ar k 0).ph b (((stD N b D ar k 0).ph b).set k ⟨(D.ph b)[k].reg, N (D.ph b)[k].id, (D.ph b)[k].args⟩) b)[k] = ⟨(D.ph b)[k].reg, N (D.ph b)[k].id, (D.ph b)[k].args⟩ := by simp only [upd_same, List.getElem_set_self]
          have HS1 : Hid (PartsAt (w3.setCell ⟨gq, k * 3 + 1, none⟩ (.int .i64 (N (D.ph b)[k].id))) base gp n { stD N b D ar k 0 with ph := upd (stD N b D ar k 0).ph b (((stD N b D ar k 0).ph b).set k ⟨(D.ph b)[k].reg, N (D.ph b)[k].id, (D.ph b)[k].args⟩) } L) := s1
          generalize (w3.setCell ⟨gq, k * 3 + 1, none⟩ (.int .i64 (N (D.ph b)[k].id))) = W4 at *
          obtain ⟨f1, f2⟩ := s1.fit b hbn _ (List.getElem_mem hl4)
          rw [hg4] at f1 f2
          replace f1 : (D.ph b)[k].reg < 12 := f1
          replace f2 : ar (12 * b + (D.ph b)[k].reg) = (D.ph b)[k].args := f2
          have hown4 := s1.args.own (12 * b + (D.ph b)[k].reg) (by omega)
          replace hown4 : W4.ownsRow base 3 1 (L.va (12 * b + (D.ph b)[k].reg)) (ar (12 * b + (D.ph b)[k].reg)).length (i64s (ar (12 * b + (D.ph b)[k].reg))) := hown4
          rw [f2] at hown4
          obtain ⟨hle, hpos⟩ := HL3.out _ (List.getElem_mem hkn)
          obtain ⟨gA, cA, eA, -, -⟩ := hown4.form hpos
          have HEA : Hid (L.va (12 * b + (D.ph b)[k].reg) = .slice (some ⟨gA, 0, none⟩) (D.ph b)[k].args.length cA) := eA
          rw [eA] at hown4
          obtain ⟨hbA, csA, hrA, hcA⟩ := own_block1 hown4
          have hrk4 := s1.phAt (q := gq) (c := cP) hbn hl4 (by rw [HEP.out]; simp only [upd_same, List.length_set, hlm])
          rw [hg4] at hrk4
          have c24 := hrk4 2 _ rfl
          replace c24 : W4.cell? ⟨gq, k * 3 + 2, none⟩ = some (L.va (12 * b + (D.ph b)[k].reg)) := c24
          rw [eA] at c24
          have cP4 := s1.cellP hbn
          replace cP4 : W4.cell? ⟨gp, b * 15 + 1, none⟩ = some (L.vp b) := cP4
          rw [HEP.out] at cP4
          have hren := renumber_any (R2 := R2) (Rs := Rs) (cap := cA) W4 (D.ph b)[k].args N (some ⟨gA, 0, none⟩) csA hbA (Or.inr (Or.inr (Or.inr rfl))) rfl (by omega) (fun _ => rfl) (fun _ => hrA) hcA (fun z hz => (HF.out.ph b hbn _ (List.getElem_mem hkn)).2 z hz) (fun W hW => HNN.out W (HO4.out.trans hW))
          clear s1 hp3 ci3 fi3 hle hpos hown4 eA hbA hrA hcA hrk4 cP1 c1 hrk
          have HF1 : Hid ((D.ph b)[k].reg < 12) := f1
          have HH : Hid (∀ (d : Nat) (w5 : World), w5 = (setInts W4 gA 0 ((D.ph b)[k].args.map N)).drewN d → ∃ ar', PartsAt w5 base gp n (stD N b D ar' (k + 1) 0) L) := fun d w5 hw5 => by rw [hw5]; have hP : (D.ph b)[k]?.getD ⟨0, 0, []⟩ = (D.ph b)[k] := (by simp [hkn]); have := ren_phi (ar := ar) (k := k) (gA := gA) (cA := cA) (W4 := W4) (by rw [hP]; exact HS1.out) HD.out hbn hkn (by rw [hP]; exact HEA.out) d; rw [hP] at this; exact this
          clear hl4 hg4 hlm hgm f1 f2
          go_wp2_with (go_at_call 32; refine hren.mono ?_; rintro e w5 ⟨rfl, ⟨d5, hw5⟩, ho5⟩; have HW5 : Hid (w5 = (setInts W4 gA 0 ((D.ph b)[k].args.map N)).drewN d5) := hw5; clear hw5)
          go_roundw
          case rel =>
            obtain ⟨ar', hp5⟩ := HH.out d5 w5 HW5.out
            exact ⟨k + 1, ar', by omega, by go_num, hp5, HO4.out.trans ho5⟩
          case measure => simp [intOf]; omega
        · obtain rfl : k = (D.ph b).length := by omega
          have cI1 := HPA.out.cellI hbn
          rw [HEI.out] at cI1
          have hl2 := HL2.out
          go_upto_region 11 with fail
          clear cI1
          go_loopw [58] (fun i wj => ∃ k : Nat, k ≤ (D.ins b).length ∧ i = .int .i64 k ∧ PartsAt wj base gp n (stD N b D ar (D.ph b).length k) L ∧ Own4 base w wj) (fun i _ => (D.ins b).length - (intOf i).toNat)
          case atStart => exact ⟨0, Nat.zero_le _, rfl, HPA.out, HO.out⟩
          case round =>
            clear HPA HO hk
            obtain ⟨k, hk, rfl, hpa, ho⟩ := hrel
            rename World => wj
            have HPA : Hid (PartsAt wj base gp n (stD N b D ar (D.ph b).length k) L) := hpa
            have HO : Hid (Own4 base w wj) := ho
            clear hpa ho
            by_cases hkn : k < (D.ins b).length
            · have hkI : (k : Int) < ((D.ins b).length : Int) := by omega
              have hlm : ((stD N b D ar (D.ph b).length k).ins b).length = (D.ins b).length := by rw [stD_ins, mixL_len]
              have hgm : ((stD N b D ar (D.ph b).length k).ins b)[k]'(by rw [hlm]; exact hkn) = (D.ins b)[k] := by simp only [stD_ins]; exact mixL_get _ hkn
              obtain ⟨gq, cap', e, -, -⟩ := (HPA.out.ins.own b hbn).form (by rw [hlm]; omega)
              have e1 : aoI = some ⟨gq, 0, none⟩ := by rw [HEI.out] at e; exact (show aoI = some ⟨gq, 0, none⟩ ∧ _ by simpa using e).1
              subst e1
              have HEI2 : Hid (L.vi b = .slice (some ⟨gq, 0, none⟩) ((stD N b D ar (D.ph b).length k).ins b).length cI) := by show _ = _; rw [hlm]; exact HEI.out
              have hrk := HPA.out.insAt hbn (by rw [hlm]; exact hkn) HEI2.out
              rw [hgm] at hrk
              have c1 := hrk 1 _ rfl
              have c2 := hrk 2 _ rfl
              have c3 := hrk 3 _ rfl
              have cI1 := HPA.out.cellI hbn
              rw [HEI.out] at cI1
              obtain ⟨fx1, fx2, fx3⟩ := HF.out.ins b hbn _ (List.getElem_mem hkn)
              have HV1 : Hid (Fit2 (D.ins b)[k].id) := fx1
              have HV2 : Hid (Fit2 (D.ins b)[k].a) := fx2
              have HV3 : Hid (Fit2 (D.ins b)[k].b) := fx3
              clear fx1 fx2 fx3
              go_upto_region 14 with fail
              clear cI1 hrk
              refine wp_region_late (S0 := fun W => ∃ d, W = wj.drewN d) (S1 := fun _ => True) 23 (by kernel_rfl) ⟨1, rfl⟩ (fun hHeld => ?_)
              show wpAnyL _ _ _ _ _ _ _ 30 _ _ _
              refine wpAnyL_pure (i := 0) (v := ?_) rfl (by kernel_rfl) (by kernel_rfl) (by kernel_rfl) (fun _ _ _ h => h) (Or.inl ⟨by rfl, ?_⟩) ⟨trivial, Or.inr hHeld⟩ (by decide) ?_
              rotate_left
              · (intro W hSW; go_simp; try (with_reducible rfl))
              (try simp only [zB])
              (try simp only [zA])
              refine wpAnyL_pure (i := 1) (v := ?_) rfl (by kernel_rfl) (by kernel_rfl) (by kernel_rfl) (fun _ _ _ h => h) (Or.inl ⟨by rfl, ?_⟩) ⟨trivial, Or.inr hHeld⟩ (by decide) ?_
              rotate_left
              · (intro W hSW; go_simp; try (with_reducible rfl))
              (try simp only [zB])
              (try simp only [zA])
              refine wpAnyL_pure (i := 2) (v := ?_) rfl (by kernel_rfl) (by kernel_rfl) (by kernel_rfl) (fun _ _ _ h => h) (Or.inl ⟨by rfl, ?_⟩) ⟨trivial, Or.inr hHeld⟩ (by decide) ?_
              rotate_left
              · (intro W hSW; go_simp; try (with_reducible rfl))
              (try simp only [zB])
              (try simp only [zA])
              refine wpAnyL_pure (i := 3) (v := ?_) rfl (by kernel_rfl) (by kernel_rfl) (by kernel_rfl) (fun _ _ _ h => h) (Or.inl ⟨by rfl, ?_⟩) ⟨trivial, Or.inr hHeld⟩ (by decide) ?_
              rotate_left
              · (intro W hSW; go_simp; try (with_reducible rfl))
              (try simp only [zB])
              (try simp only [zA])
              refine wpAnyL_pure (i := 4) (v := ?_) rfl (by kernel_rfl) (by kernel_rfl) (by kernel_rfl) (fun _ _ _ h => h) (Or.inl ⟨by rfl, ?_⟩) ⟨trivial, Or.inr hHeld⟩ (by decide) ?_
              rotate_left
              · (intro W hSW; go_simp; try (with_reducible rfl))
              (try simp only [zB])
              (try simp only [zA])
              refine wpAnyL_pure (i := 5) (v := ?_) rfl (by kernel_rfl) (by kernel_rfl) (by kernel_rfl) (fun _ _ _ h => h) (Or.inl ⟨by rfl, ?_⟩) ⟨trivial, Or.inr hHeld⟩ (by decide) ?_
              rotate_left
              · (intro W hSW; go_simp; try (with_reducible rfl))
              (try simp only [zB])
              (try simp only [zA])
              refine wpAnyL_pure (i := 6) (v := ?_) rfl (by kernel_rfl) (by kernel_rfl) (by kernel_rfl) (fun _ _ _ h => h) (Or.inl ⟨by rfl, ?_⟩) ⟨trivial, Or.inr hHeld⟩ (by decide) ?_
              rotate_left
              · (intro W hSW; go_simp; try (with_reducible rfl))
              (try simp only [zB])
              (try simp only [zA])
              refine wpAnyL_take (i := 7) (v := ?_) rfl (by kernel_rfl) (by kernel_rfl) (by kernel_rfl) (fun _ _ _ h => h) (Or.inl ⟨by rfl, ?_⟩) hHeld trivial (by kernel_rfl) ?_
              rotate_left
              · (intro W hSW; obtain ⟨dW, rfl⟩ := hSW; go_simp; try (with_reducible rfl))
              (try simp only [zB])
              (try simp only [zA])
              refine wpAnyL_pure (i := 9) (v := ?_) rfl (by kernel_rfl) (by kernel_rfl) (by kernel_rfl) (fun _ _ _ h => h) (Or.inl ⟨by rfl, ?_⟩) ⟨trivial, Or.inr hHeld⟩ (by decide) ?_
              rotate_left
              · (intro W hSW; go_simp; try (with_reducible rfl))
              (try simp only [zB])
              (try simp only [zA])
              refine wpAnyL_pure (i := 10) (v := ?_) rfl (by kernel_rfl) (by kernel_rfl) (by kernel_rfl) (fun _ _ _ h => h) (Or.inl ⟨by rfl, ?_⟩) ⟨trivial, Or.inr hHeld⟩ (by decide) ?_
              rotate_left
              · (intro W hSW; go_simp; try (with_reducible rfl))
              (try simp only [zB])
              (try simp only [zA])
              refine wpAnyL_pure (i := 11) (v := ?_) rfl (by kernel_rfl) (by kernel_rfl) (by kernel_rfl) (fun _ _ _ h => h) (Or.inl ⟨by rfl, ?_⟩) ⟨trivial, Or.inr hHeld⟩ (by decide) ?_
              rotate_left
              · (intro W hSW; go_simp; try (with_reducible rfl))
              (try simp only [zB])
              (try simp only [zA])
              refine wpAnyL_pure (i := 12) (v := ?_) rfl (by kernel_rfl) (by kernel_rfl) (by kernel_rfl) (fun _ _ _ h => h) (Or.inl ⟨by rfl, ?_⟩) ⟨trivial, Or.inr hHeld⟩ (by decide) ?_
              rotate_left
              · (intro W hSW; go_simp; try (with_reducible rfl))
              (try simp only [zB])
              (try simp only [zA])
              refine wpAnyL_take (i := 13) (v := ?_) rfl (by kernel_rfl) (by kernel_rfl) (by kernel_rfl) (fun _ _ _ h => h) (Or.inl ⟨by rfl, ?_⟩) hHeld trivial (by kernel_rfl) ?_
              rotate_left
              · (intro W hSW; obtain ⟨dW, rfl⟩ := hSW; go_simp; try (with_reducible rfl))
              (try simp only [zB])
              (try simp only [zA])
              refine wpAnyL_pure (i := 15) (v := ?_) rfl (by kernel_rfl) (by kernel_rfl) (by kernel_rfl) (fun _ _ _ h => h) (Or.inl ⟨by rfl, ?_⟩) ⟨trivial, Or.inr hHeld⟩ (by decide) ?_
              rotate_left
              · (intro W hSW; go_simp; try (with_reducible rfl))
              (try simp only [zB])
              (try simp only [zA])
              refine wpAnyL_pure (i := 16) (v := ?_) rfl (by kernel_rfl) (by kernel_rfl) (by kernel_rfl) (fun _ _ _ h => h) (Or.inl ⟨by rfl, ?_⟩) ⟨trivial, Or.inr hHeld⟩ (by decide) ?_
              rotate_left
              · (intro W hSW; go_simp; try (with_reducible rfl))
              (try simp only [zB])
              (try simp only [zA])
              refine wpAnyL_pure (i := 17) (v := ?_) rfl (by kernel_rfl) (by kernel_rfl) (by kernel_rfl) (fun _ _ _ h => h) (Or.inl ⟨by rfl, ?_⟩) ⟨trivial, Or.inr hHeld⟩ (by decide) ?_
              rotate_left
              · (intro W hSW; go_simp; try (with_reducible rfl))
              (try simp only [zB])
              (try simp only [zA])
              refine wpAnyL_pure (i := 18) (v := ?_) rfl (by kernel_rfl) (by kernel_rfl) (by kernel_rfl) (fun _ _ _ h => h) (Or.inl ⟨by rfl, ?_⟩) ⟨trivial, Or.inr hHeld⟩ (by decide) ?_
              rotate_left
              · (intro W hSW; go_simp; try (with_reducible rfl))
              (try simp only [zB])
              (try simp only [zA])
              refine wpAnyL_take (i := 19) (v := ?_) rfl (by kernel_rfl) (by kernel_rfl) (by kernel_rfl) (fun _ _ _ h => h) (Or.inl ⟨by rfl, ?_⟩) hHeld trivial (by kernel_rfl) ?_
              rotate_left
              · (intro W hSW; obtain ⟨dW, rfl⟩ := hSW; go_simp; try (with_reducible rfl))
              (try simp only [zB])
              (try simp only [zA])
              refine wpAnyL_one (i := 8) (by kernel_rfl) rfl (fun K hK => ?_)
              go_simp
              go_at_call 31
              refine (HNN.out wj.drew (HO.out.trans (Own4.drewN base wj 1)) _ HV1.out).mono ?_
              rintro e v3 ⟨rfl, dv3, hv3⟩
              have HEv3 : Hid (v3 = wj.drewN (1 + dv3)) := by rw [hv3]; show (wj.drewN 1).drewN dv3 = _; rw [drewN_two]
              have HSv3 : ∃ d, v3 = wj.drewN d := ⟨_, HEv3.out⟩
              dsimp only
              refine hK.out _ _ ⟨trivial, Or.inr HSv3⟩ ?_
              clear hK K hHeld hv3
              have hHeld := HSv3
              clear HSv3
              (try simp only [zA])
              refine wpAnyL_one (i := 14) (by kernel_rfl) rfl (fun K hK => ?_)
              go_simp
              go_at_call 31
              refine (HNN.out v3 (HO.out.trans (by rw [HEv3.out]; exact Own4.drewN base wj _)) _ HV2.out).mono ?_
              rintro e v4 ⟨rfl, dv4, hv4⟩
              have HEv4 : Hid (v4 = wj.drewN ((1 + dv3) + dv4)) := by rw [hv4]; rw [HEv3.out]; show (wj.drewN (1 + dv3)).drewN dv4 = _; rw [drewN_two]
              have HSv4 : ∃ d, v4 = wj.drewN d := ⟨_, HEv4.out⟩
              dsimp only
              refine hK.out _ _ ⟨trivial, Or.inr HSv4⟩ ?_
              clear hK K hHeld hv4
              have hHeld := HSv4
              clear HSv4
              (try simp only [zA])
              refine wpAnyL_one (i := 20) (by kernel_rfl) rfl (fun K hK => ?_)
              go_simp
              go_at_call 31
              refine (HNN.out v4 (HO.out.trans (by rw [HEv4.out]; exact Own4.drewN base wj _)) _ HV3.out).mono ?_
              rintro e v5 ⟨rfl, dv5, hv5⟩
              have HEv5 : Hid (v5 = wj.drewN ((1 + dv3 + dv4) + dv5)) := by rw [hv5]; rw [HEv4.out]; show (wj.drewN (1 + dv3 + dv4)).drewN dv5 = _; rw [drewN_two]
              have HSv5 : ∃ d, v5 = wj.drewN d := ⟨_, HEv5.out⟩
              dsimp only
              refine hK.out _ _ ⟨trivial, Or.inr HSv5⟩ ?_
              clear hK K hHeld hv5
              have hHeld := HSv5
              clear HSv5
              (try simp only [zA])
              refine wpAnyL_pure (i := 21) (v := ?_) rfl (by kernel_rfl) (by kernel_rfl) (by kernel_rfl) (fun _ _ _ h => h) (Or.inl ⟨by rfl, ?_⟩) ⟨trivial, Or.inr hHeld⟩ (by decide) ?_
              rotate_left
              · (intro W hSW; go_simp; try (with_reducible rfl))
              (try simp only [zB])
              (try simp only [zA])
              refine wpAnyL_pure (i := 22) (v := ?_) rfl (by kernel_rfl) (by kernel_rfl) (by kernel_rfl) (fun _ _ _ h => h) (Or.inl ⟨by rfl, ?_⟩) ⟨trivial, Or.inr hHeld⟩ (by decide) ?_
              rotate_left
              · (intro W hSW; go_simp; try (with_reducible rfl))
              (try simp only [zB])
              (try simp only [zA])
              have hp5 : PartsAt v5 base gp n (stD N b D ar (D.ph b).length k) L := by rw [HEv5.out]; exact HPA.out.below (below_dr _)
              obtain ⟨⟨q1, g1⟩, ⟨q2, g2⟩, ⟨q3, g3⟩, hpn, hon⟩ := ren_ins hp5 hbn hkn HEI2.out
              have HPN : Hid _ := hpn
              have HON : Hid _ := hon
              have HO5 : Hid (Own4 base w v5) := HO.out.trans (by rw [HEv5.out]; exact Own4.drewN base wj _)
              clear hp5 hpn hon HEv3 HEv4 HEv5 c1 c2 c3
              refine wpAnyL_one (i := 23) (by kernel_rfl) rfl (fun K hK => ?_)
              go_simp
              refine hK.out _ _ ⟨trivial, Or.inl (by kernel_rfl)⟩ ?_
              clear hK K
              (try simp only [zA])
              refine wpAnyL_pure (i := 24) (v := ?_) rfl (by kernel_rfl) (by kernel_rfl) (by kernel_rfl) (fun _ _ _ h => h) (Or.inl ⟨by rfl, ?_⟩) ⟨trivial, Or.inl (by kernel_rfl)⟩ (by decide) ?_
              rotate_left
              · (intro W hSW; go_simp; try (with_reducible rfl))
              (try simp only [zB])
              (try simp only [zA])
              refine wpAnyL_pure (i := 25) (v := ?_) rfl (by kernel_rfl) (by kernel_rfl) (by kernel_rfl) (fun _ _ _ h => h) (Or.inl ⟨by rfl, ?_⟩) ⟨trivial, Or.inl (by kernel_rfl)⟩ (by decide) ?_
              rotate_left
              · (intro W hSW; go_simp; try (with_reducible rfl))
              (try simp only [zB])
              (try simp only [zA])
              refine wpAnyL_one (i := 26) (by kernel_rfl) rfl (fun K hK => ?_)
              go_simp
              refine hK.out _ _ ⟨trivial, Or.inl (by kernel_rfl)⟩ ?_
              clear hK K
              (try simp only [zA])
              refine wpAnyL_pure (i := 27) (v := ?_) rfl (by kernel_rfl) (by kernel_rfl) (by kernel_rfl) (fun _ _ _ h => h) (Or.inl ⟨by rfl, ?_⟩) ⟨trivial, Or.inl (by kernel_rfl)⟩ (by decide) ?_
              rotate_left
              · (intro W hSW; go_simp; try (with_reducible rfl))
              (try simp only [zB])
              (try simp only [zA])
              refine wpAnyL_pure (i := 28) (v := ?_) rfl (by kernel_rfl) (by kernel_rfl) (by kernel_rfl) (fun _ _ _ h => h) (Or.inl ⟨by rfl, ?_⟩) ⟨trivial, Or.inl (by kernel_rfl)⟩ (by decide) ?_
              rotate_left
              · (intro W hSW; go_simp; try (with_reducible rfl))
              (try simp only [zB])
              (try simp only [zA])
              refine wpAnyL_one (i := 29) (by kernel_rfl) rfl (fun K hK => ?_)
              go_simp
              refine hK.out _ _ ⟨trivial, Or.inl (by kernel_rfl)⟩ ?_
              clear hK K
              (try simp only [zA])
              refine wpAnyL_done (by kernel_rfl) ?_ _
              (try simp only [zA])
              clear q1 g1 q2 g2 q3 g3
              have HPN2 := HPN.out
              have HON2 := HON.out
              generalize (((v5.setCell ⟨gq, k * 6 + 1, none⟩ (.int .i64 (N (D.ins b)[k].id))).setCell ⟨gq, k * 6 + 2, none⟩ (.int .i64 (N (D.ins b)[k].a))).setCell ⟨gq, k * 6 + 3, none⟩ (.int .i64 (N (D.ins b)[k].b))) = V6 at *
              have HP6 : Hid (PartsAt V6 base gp n (stD N b D ar (D.ph b).length (k + 1)) L) := HPN2
              have HO6 : Hid (Own4 base w V6) := HO5.out.trans HON2
              clear HPN2 HON2 HPN HON
              go_wp2
              go_roundw
              case rel => exact ⟨k + 1, by omega, by go_num, HP6.out, HO6.out⟩
              case measure => simp [intOf]; omega
            · obtain rfl : k = (D.ins b).length := by omega
              have hr12 := HPA.out.rlen b hbn
              rw [stD_rg] at hr12
              obtain ⟨hbg, cur, hrow, hcr⟩ : base ≤ gp ∧ ∃ cur : Array Value, wj.heap[gp]? = some (.cells cur 74 (0, 0)) ∧ ∀ j, j < 12 → cur[b * 15 + 3 + j]? = some (.int .i64 ((D.rg b).getD j 0)) := by
                rcases HPA.out.row.2 with ⟨e, -⟩ | ⟨g', cap, cur, e, hbs, hh, -⟩
                · cases e
                · obtain ⟨rfl, -⟩ : gp = g' ∧ n = cap := by simpa using e
                  refine ⟨hbs, cur, hh, fun j hj => ?_⟩
                  have := HPA.out.cellR hbn hj
                  rw [stD_rg] at this
                  rw [← cell_of_row _ _ _ _ _ _ hh]; exact this
              have hren := renumber_any (R2 := R2) (Rs := Rs) (cap := 12) wj (D.rg b) N (some ⟨gp, b * 15 + 3, none⟩) cur hbg (Or.inl rfl) hr12 (by omega) (fun _ => rfl) (fun _ => hrow) hcr (fun z hz => HF.out.rg b hbn z hz) (fun W hW => HNN.out W (HO.out.trans hW))
              have HX : Hid (∀ (d : Nat) (w5 : World), w5 = (setInts wj gp (b * 15 + 3) ((D.rg b).map N)).drewN d → PartsAt w5 base gp n (renD N (b + 1) D ar) L) := fun d w5 hw5 => by
                obtain ⟨u1, -⟩ := PartsAt.setRegs hbn ((D.rg b).map N) [] (D.rg b) _ _ HPA.out (by rw [stD_rg]; rfl) (by simp)
                rw [hw5]
                exact stD_done (u1.below (below_dr d))
              clear hr12 hbg hrow hcr
              go_wp2_with (go_at_call 32; refine hren.mono ?_; rintro e w5 ⟨rfl, ⟨d5, hw5⟩, ho5⟩; have HW5 : Hid (w5 = (setInts wj gp (b * 15 + 3) ((D.rg b).map N)).drewN d5) := hw5; clear hw5)
              go_roundw
              case rel => exact ⟨b + 1, ar, by omega, by go_num, HX.out d5 w5 HW5.out, HO.out.trans ho5⟩
              case measure => simp [intOf]; omega
    · obtain rfl : b = n := by omega
      go_wp2
      go_end0
      exact HPOST.out _ _ ⟨rfl, ⟨ar, HPA.out⟩, HO.out⟩
end Go.Proofs.YtldbmdgpdolaaaaDoor
