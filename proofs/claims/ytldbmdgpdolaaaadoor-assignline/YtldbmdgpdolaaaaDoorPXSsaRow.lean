import Derived.Test.YtldbmdgpdolaaaaDoorPXOneRight
import Derived.Test.YtldbmdgpdolaaaaDoorPXSettleMath
import Derived.Test.YtldbmdgpdolaaaaDoorPXSsaAny
import Derived.Test.YtldbmdgpdolaaaaDoorPXPlaceMeet
namespace Go.Proofs.YtldbmdgpdolaaaaDoor
open Go Go.RowKit

structure InsD where
  op : Int
  id : Int
  a : Int
  b : Int
  imm : Int
  pc : Int
def inC (x : InsD) : List Value := [.int .i64 x.op, .int .i64 x.id, .int .i64 x.a, .int .i64 x.b, .int .i64 x.imm, .int .i64 x.pc]
theorem inC_len (x : InsD) : (inC x).length = 6 := rfl
def phC (VA : Nat → Value) (b : Nat) (p : PhiD) : List Value := [.int .i64 p.reg, .int .i64 p.id, VA (12 * b + p.reg)]
theorem phC_len (VA : Nat → Value) (b : Nat) (p : PhiD) : (phC VA b p).length = 3 := rfl
def partC (bk : Int) (vp vi : Value) (rg : List Int) : List Value := [.int .i64 bk, vp, vi] ++ i64s rg
theorem partC_len (bk : Int) (vp vi : Value) (rg : List Int) (h : rg.length = 12) : (partC bk vp vi rg).length = 15 := by simp [partC, i64s, h]
structure PDat where
  bk : Nat → Int
  ph : Nat → List PhiD
  ins : Nat → List InsD
  rg : Nat → List Int
  ar : Nat → List Int
structure PLay where
  vp : Nat → Value
  vi : Nat → Value
  va : Nat → Value
def pC (D : PDat) (L : PLay) (b : Nat) : List Value := partC (D.bk b) (L.vp b) (L.vi b) (D.rg b)
structure PartsAt (w : World) (base g n : Nat) (D : PDat) (L : PLay) : Prop where
  row : w.ownsRow base 74 15 (.slice (some ⟨g, 0, none⟩) n n) n (gC (pC D L) n)
  rlen : ∀ b, b < n → (D.rg b).length = 12
  phis : SlotsT w base 86 3 n L.vp (fun b => (D.ph b).length) (fun b => (D.ph b).flatMap (phC L.va b))
  ins : SlotsT w base 90 6 n L.vi (fun b => (D.ins b).length) (fun b => (D.ins b).flatMap inC)
  args : SlotsT w base 3 1 (12 * n) L.va (fun s => (D.ar s).length) (fun s => i64s (D.ar s))
  fit : ∀ b, b < n → ∀ p ∈ D.ph b, p.reg < 12 ∧ D.ar (12 * b + p.reg) = p.args
theorem pC_len {w : World} {base g n : Nat} {D : PDat} {L : PLay} (h : PartsAt w base g n D L) : ∀ i, i < n → (pC D L i).length = 15 := fun i hi => partC_len _ _ _ _ (h.rlen i hi)
theorem PartsAt.kept {w w' : World} {base g n : Nat} {D : PDat} {L : PLay} (h : PartsAt w base g n D L) {row : Option Nat} (hg : w.grownBy w' row) (hr : ∀ q cs t, row = some q → w.heap[q]? = some (.cells cs t (0, 0)) → q < base ∨ (t ≠ 74 ∧ t ≠ 86 ∧ t ≠ 90 ∧ t ≠ 3)) : PartsAt w' base g n D L := by
  refine ⟨h.row.kept hg ?_, h.rlen, h.phis.keptT hg fun q cs e hh => ?_, h.ins.keptT hg fun q cs e hh => ?_, h.args.keptT hg fun q cs e hh => ?_, h.fit⟩
  · rcases h.row.2 with ⟨e, -⟩ | ⟨q, cap, cur, e, hb, hh, -⟩
    · rw [e]; exact Or.inl rfl
    · right
      rw [e]
      intro e2
      rcases hr q cur _ e2.symm hh with h1 | ⟨h1, -⟩
      · omega
      · exact h1 rfl
  · rcases hr q cs _ e hh with h1 | ⟨-, h1, -⟩
    · exact h1
    · exact absurd rfl h1
  · rcases hr q cs _ e hh with h1 | ⟨-, -, h1, -⟩
    · exact h1
    · exact absurd rfl h1
  · rcases hr q cs _ e hh with h1 | ⟨-, -, -, h1⟩
    · exact h1
    · exact absurd rfl h1
theorem PartsAt.below {w w' : World} {base g n : Nat} {D : PDat} {L : PLay} (h : PartsAt w base g n D L) (hb : Below w.heap.size w w') : PartsAt w' base g n D L := h.kept (gb_below none hb) (fun q cs t e => by cases e)
theorem PartsAt.mono {w : World} {base base' g n : Nat} {D : PDat} {L : PLay} (h : PartsAt w base g n D L) (hb : base' ≤ base) : PartsAt w base' g n D L :=
  ⟨ownsRow_monoR h.row hb, h.rlen, h.phis.mono hb, h.ins.mono hb, h.args.mono hb, h.fit⟩
theorem PartsAt.cell {w : World} {base g n : Nat} {D : PDat} {L : PLay} (h : PartsAt w base g n D L) {b c : Nat} (hb : b < n) (hc : c < 15) : w.cell? ⟨g, b * 15 + c, none⟩ = (pC D L b)[c]? := by
  rw [h.row.cellAt (b * 15 + c) (at_lt hb hc)]
  exact gC_get (pC_len h) b c hb hc
theorem PartsAt.cellP {w : World} {base g n : Nat} {D : PDat} {L : PLay} (h : PartsAt w base g n D L) {b : Nat} (hb : b < n) : w.cell? ⟨g, b * 15 + 1, none⟩ = some (L.vp b) := (h.cell hb (by omega)).trans rfl
theorem PartsAt.cellI {w : World} {base g n : Nat} {D : PDat} {L : PLay} (h : PartsAt w base g n D L) {b : Nat} (hb : b < n) : w.cell? ⟨g, b * 15 + 2, none⟩ = some (L.vi b) := (h.cell hb (by omega)).trans rfl
theorem PartsAt.cellR {w : World} {base g n : Nat} {D : PDat} {L : PLay} (h : PartsAt w base g n D L) {b r : Nat} (hb : b < n) (hr : r < 12) : w.cell? ⟨g, b * 15 + 3 + r, none⟩ = some (.int .i64 ((D.rg b).getD r 0)) := by
  have := h.cell hb (c := 3 + r) (by omega)
  rw [← Nat.add_assoc] at this
  rw [this]
  have hl := h.rlen b hb
  unfold pC partC
  rw [List.getElem?_append_right (by simp)]
  simp [i64s, List.getD, hl, hr]
theorem partC_rg (bk : Int) (vp vi : Value) (rg : List Int) (r : Nat) (z : Int) : (partC bk vp vi rg).set (3 + r) (.int .i64 z) = partC bk vp vi (rg.set r z) := by
  unfold partC
  rw [List.set_append_right _ _ (by simp)]
  simp [i64s, List.map_set]
theorem updC {D D' : PDat} {L L' : PLay} {b : Nat} {xs : List Value} (h1 : pC D' L' b = xs) (h2 : ∀ i, i ≠ b → pC D' L' i = pC D L i) (n : Nat) : gC (upd (pC D L) b xs) n = gC (pC D' L') n := gC_same fun i _ => by
  by_cases e : i = b
  · rw [e, upd_same, h1]
  · rw [upd_other _ e, h2 i e]
theorem PartsAt.setP {w : World} {base g n : Nat} {D : PDat} {L : PLay} (h : PartsAt w base g n D L) {b : Nat} (hb : b < n) {v : Value} {ps : List PhiD} (hown : w.ownsRow base 86 3 v ps.length (ps.flatMap (phC L.va b))) (hloc : ∀ q, v.ownBlock = some q → ∀ j, j < n → j ≠ b → (L.vp j).ownBlock ≠ some q) (hfit : ∀ p ∈ ps, p ∈ D.ph b) :
    PartsAt (w.setCell ⟨g, b * 15 + 1, none⟩ v) base g n { D with ph := upd D.ph b ps } { L with vp := upd L.vp b v } ∧ w.grownBy (w.setCell ⟨g, b * 15 + 1, none⟩ v) (some g) := by
  obtain ⟨r1, r2⟩ := h.row.stored (b * 15 + 1) v
  rw [gC_set (pC_len h) hb (by omega)] at r1
  rw [updC (D' := { D with ph := upd D.ph b ps }) (L' := { L with vp := upd L.vp b v }) (by show partC _ (upd L.vp b v b) _ _ = _; rw [upd_same]; rfl) (fun i hi => by show partC _ (upd L.vp b v i) _ _ = _; rw [upd_other _ hi]; rfl)] at r1
  have hPt : ∀ cs t, t ≠ 74 → w.heap[g]? = some (.cells cs t (0, 0)) → False := by
    intro cs t ht hh
    rcases h.row.2 with ⟨e, -⟩ | ⟨q, cap, cur, e, -, hq, -⟩
    · cases e
    · obtain ⟨rfl, -⟩ : g = q ∧ n = cap := by simpa using e
      rw [hh] at hq
      simp at hq
      exact ht hq.2
  refine ⟨⟨r1, h.rlen, ?_, h.ins.keptT r2 (fun q cs e hh => ?_), h.args.keptT r2 (fun q cs e hh => ?_), ?_⟩, r2⟩
  · refine ((h.phis.put hb hown hloc).keptT r2 (fun q cs e hh => ?_)).congr (fun i _ => ⟨rfl, ?_, ?_⟩)
    · obtain rfl : g = q := by simpa using e
      exact (hPt _ _ (by decide) hh).elim
    · by_cases e : i = b
      · subst e; simp [upd_same]
      · simp [upd_other _ e]
    · by_cases e : i = b
      · subst e; simp [upd_same]
      · simp [upd_other _ e]
  · obtain rfl : g = q := by simpa using e
    exact (hPt _ _ (by decide) hh).elim
  · obtain rfl : g = q := by simpa using e
    exact (hPt _ _ (by decide) hh).elim
  · intro i hi p hp
    by_cases e : i = b
    · subst e
      have hp : p ∈ upd D.ph i ps i := hp
      rw [upd_same] at hp
      exact h.fit i hi p (hfit p hp)
    · have hp : p ∈ upd D.ph b ps i := hp
      rw [upd_other _ e] at hp
      exact h.fit i hi p hp
theorem PartsAt.typeP {w : World} {base g n : Nat} {D : PDat} {L : PLay} (h : PartsAt w base g n D L) {q t : Nat} {cs : Array Value} (e : some g = some q) (hh : w.heap[q]? = some (.cells cs t (0, 0))) : t = 74 := own_type h.row (v := .slice (some ⟨g, 0, none⟩) n n) e hh
theorem PartsAt.setId {w : World} {base g n : Nat} {D : PDat} {L : PLay} (h : PartsAt w base g n D L) {b k q c : Nat} (hb : b < n) (hk : k < (D.ph b).length) (hq : L.vp b = .slice (some ⟨q, 0, none⟩) (D.ph b).length c) (z : Int) :
    PartsAt (w.setCell ⟨q, k * 3 + 1, none⟩ (.int .i64 z)) base g n { D with ph := upd D.ph b ((D.ph b).set k ⟨(D.ph b)[k].reg, z, (D.ph b)[k].args⟩) } L ∧ w.grownBy (w.setCell ⟨q, k * 3 + 1, none⟩ (.int .i64 z)) (some q) := by
  obtain ⟨r1, r2⟩ := h.phis.store hb hq (k * 3 + 1) (.int .i64 z)
  have hty : ∀ q' cs t, some q = some q' → w.heap[q']? = some (.cells cs t (0, 0)) → t = 86 := fun q' cs t e hh => own_type (h.phis.own b hb) (by show (L.vp b).ownBlock = _; rw [hq]; exact e) hh
  refine ⟨⟨h.row.kept r2 ?_, h.rlen, r1.congr (fun i _ => ⟨rfl, ?_, ?_⟩), h.ins.keptT r2 (fun q' cs e hh => ?_), h.args.keptT r2 (fun q' cs e hh => ?_), ?_⟩, r2⟩
  · right
    intro e
    rcases h.row.2 with ⟨e2, -⟩ | ⟨q', cap, cur, e2, -, hh, -⟩
    · cases e2
    · obtain ⟨rfl, -⟩ : g = q' ∧ n = cap := by simpa using e2
      have := hty g cur _ e.symm hh
      exact absurd this (by decide)
  · by_cases e : i = b
    · subst e; simp [upd_same]
    · simp [upd_other _ e]
  · by_cases e : i = b
    · subst e
      simp only [upd_same]
      exact flat_set (phC_len L.va i) (D.ph i) k 1 hk _ _ (by omega) rfl
    · simp [upd_other _ e]
  · exact absurd (hty q' cs _ e hh) (by decide)
  · exact absurd (hty q' cs _ e hh) (by decide)
  · intro i hi p hp
    have hp : p ∈ upd D.ph b ((D.ph b).set k ⟨(D.ph b)[k].reg, z, (D.ph b)[k].args⟩) i := hp
    by_cases e : i = b
    · subst e
      rw [upd_same] at hp
      rcases List.mem_or_eq_of_mem_set hp with hp | rfl
      · exact h.fit i hi p hp
      · exact h.fit i hi (D.ph i)[k] (List.getElem_mem hk)
    · rw [upd_other _ e] at hp; exact h.fit i hi p hp
theorem PartsAt.setIns {w : World} {base g n : Nat} {D : PDat} {L : PLay} (h : PartsAt w base g n D L) {b k q c d : Nat} (hb : b < n) (hk : k < (D.ins b).length) (hq : L.vi b = .slice (some ⟨q, 0, none⟩) (D.ins b).length c) (hd : d < 6) (x : InsD) (u : Value) (hx : inC x = (inC (D.ins b)[k]).set d u) :
    PartsAt (w.setCell ⟨q, k * 6 + d, none⟩ u) base g n { D with ins := upd D.ins b ((D.ins b).set k x) } L ∧ w.grownBy (w.setCell ⟨q, k * 6 + d, none⟩ u) (some q) := by
  obtain ⟨r1, r2⟩ := h.ins.store hb hq (k * 6 + d) u
  have hty : ∀ q' cs t, some q = some q' → w.heap[q']? = some (.cells cs t (0, 0)) → t = 90 := fun q' cs t e hh => own_type (h.ins.own b hb) (by show (L.vi b).ownBlock = _; rw [hq]; exact e) hh
  refine ⟨⟨h.row.kept r2 ?_, h.rlen, h.phis.keptT r2 (fun q' cs e hh => ?_), r1.congr (fun i _ => ⟨rfl, ?_, ?_⟩), h.args.keptT r2 (fun q' cs e hh => ?_), h.fit⟩, r2⟩
  · right
    intro e
    rcases h.row.2 with ⟨e2, -⟩ | ⟨q', cap, cur, e2, -, hh, -⟩
    · cases e2
    · obtain ⟨rfl, -⟩ : g = q' ∧ n = cap := by simpa using e2
      have := hty g cur _ e.symm hh
      exact absurd this (by decide)
  · exact absurd (hty q' cs _ e hh) (by decide)
  · by_cases e : i = b
    · subst e; simp [upd_same]
    · simp [upd_other _ e]
  · by_cases e : i = b
    · subst e
      simp only [upd_same]
      exact flat_set inC_len (D.ins i) k d hk x u hd hx
    · simp [upd_other _ e]
  · exact absurd (hty q' cs _ e hh) (by decide)
theorem PartsAt.setReg {w : World} {base g n : Nat} {D : PDat} {L : PLay} (h : PartsAt w base g n D L) {b r : Nat} (hb : b < n) (hr : r < 12) (z : Int) :
    PartsAt (w.setCell ⟨g, b * 15 + 3 + r, none⟩ (.int .i64 z)) base g n { D with rg := upd D.rg b ((D.rg b).set r z) } L ∧ w.grownBy (w.setCell ⟨g, b * 15 + 3 + r, none⟩ (.int .i64 z)) (some g) := by
  obtain ⟨r1, r2⟩ := h.row.stored (b * 15 + (3 + r)) (.int .i64 z)
  rw [gC_set (pC_len h) hb (by omega)] at r1
  rw [updC (D' := { D with rg := upd D.rg b ((D.rg b).set r z) }) (L' := L) (by show partC _ _ _ (upd D.rg b _ b) = _; rw [upd_same]; exact (partC_rg _ _ _ _ _ _).symm) (fun i hi => by show partC _ _ _ (upd D.rg b _ i) = _; rw [upd_other _ hi]; rfl)] at r1
  rw [← Nat.add_assoc] at r1 r2
  refine ⟨⟨r1, fun i hi => ?_, h.phis.keptT r2 (fun q' cs e hh => ?_), h.ins.keptT r2 (fun q' cs e hh => ?_), h.args.keptT r2 (fun q' cs e hh => ?_), h.fit⟩, r2⟩
  · show (upd D.rg b _ i).length = 12
    by_cases e : i = b
    · subst e; rw [upd_same, List.length_set]; exact h.rlen i hi
    · rw [upd_other _ e]; exact h.rlen i hi
  · exact absurd (h.typeP e hh) (by decide)
  · exact absurd (h.typeP e hh) (by decide)
  · exact absurd (h.typeP e hh) (by decide)
theorem PartsAt.addIns {w w' : World} {base g n : Nat} {D : PDat} {L : PLay} (h : PartsAt w base g n D L) {b : Nat} (hb : b < n) {v : Value} {x : InsD} (hg : w.grownBy w' (L.vi b).ownBlock) (hown : w'.ownsRow base 90 6 v ((D.ins b).length + 1) ((D.ins b).flatMap inC ++ inC x)) (hloc : ∀ q, v.ownBlock = some q → (L.vi b).ownBlock = some q ∨ w.heap.size ≤ q) :
    PartsAt (w'.setCell ⟨g, b * 15 + 2, none⟩ v) base g n { D with ins := upd D.ins b (D.ins b ++ [x]) } { L with vi := upd L.vi b v } ∧ w'.grownBy (w'.setCell ⟨g, b * 15 + 2, none⟩ v) (some g) := by
  have hty : ∀ q' cs t, (L.vi b).ownBlock = some q' → w.heap[q']? = some (.cells cs t (0, 0)) → t = 90 := fun q' cs t e hh => own_type (h.ins.own b hb) e hh
  have hrow : w'.ownsRow base 74 15 (.slice (some ⟨g, 0, none⟩) n n) n (gC (pC D L) n) := h.row.kept hg (by
    right
    intro e
    rcases h.row.2 with ⟨e2, -⟩ | ⟨q', cap, cur, e2, -, hh, -⟩
    · cases e2
    · obtain ⟨rfl, -⟩ : g = q' ∧ n = cap := by simpa using e2
      exact absurd (hty g cur _ e.symm hh) (by decide))
  obtain ⟨r1, r2⟩ := hrow.stored (b * 15 + 2) v
  have hPt : ∀ q' cs t, some g = some q' → w'.heap[q']? = some (.cells cs t (0, 0)) → t = 74 := fun q' cs t e hh => own_type hrow (v := .slice (some ⟨g, 0, none⟩) n n) e hh
  rw [gC_set (pC_len h) hb (by omega)] at r1
  rw [updC (D' := { D with ins := upd D.ins b (D.ins b ++ [x]) }) (L' := { L with vi := upd L.vi b v }) (by show partC _ _ (upd L.vi b v b) _ = _; rw [upd_same]; rfl) (fun i hi => by show partC _ _ (upd L.vi b v i) _ = _; rw [upd_other _ hi]; rfl)] at r1
  refine ⟨⟨r1, h.rlen, (h.phis.keptT hg (fun q' cs e hh => absurd (hty q' cs _ e hh) (by decide))).keptT r2 (fun q' cs e hh => absurd (hPt q' cs _ e hh) (by decide)), ((h.ins.upd hb hg hown hloc).keptT r2 (fun q' cs e hh => absurd (hPt q' cs _ e hh) (by decide))).congr (fun i _ => ⟨rfl, ?_, ?_⟩), (h.args.keptT hg (fun q' cs e hh => absurd (hty q' cs _ e hh) (by decide))).keptT r2 (fun q' cs e hh => absurd (hPt q' cs _ e hh) (by decide)), h.fit⟩, r2⟩
  · by_cases e : i = b
    · subst e; simp [upd_same]
    · simp [upd_other _ e]
  · by_cases e : i = b
    · subst e; simp [upd_same, List.flatMap_append]
    · simp [upd_other _ e]
end Go.Proofs.YtldbmdgpdolaaaaDoor
namespace Go.Proofs.YtldbmdgpdolaaaaDoor
open Go Go.RowKit

noncomputable def phi1 (f : Fn) (S : List Nat) (T : Nat → Nat) (L : List Int) (b r : Nat) : PhiD := ⟨r, (fromR f S T L b).getD r 0, (prevs f S T b).map fun z => (behR f S T L z).getD r 0⟩
noncomputable def phiTo (f : Fn) (S : List Nat) (T : Nat → Nat) (L : List Int) (b : Nat) : Nat → List PhiD
  | 0 => []
  | r + 1 => phiTo f S T L b r ++ (if (fromR f S T L b).getD r 0 = -1 then [] else [phi1 f S T L b r])
noncomputable def phiM (f : Fn) (S : List Nat) (T : Nat → Nat) (L : List Int) (b : Nat) : List PhiD := if 1 < (prevs f S T b).length then phiTo f S T L b 12 else []
theorem phiTo_len (f : Fn) (S : List Nat) (T : Nat → Nat) (L : List Int) (b : Nat) : ∀ r, (phiTo f S T L b r).length ≤ r
  | 0 => Nat.le_refl _
  | r + 1 => by
    have := phiTo_len f S T L b r
    rw [phiTo, List.length_append]
    split <;> simp <;> omega
theorem phiTo_mem {f : Fn} {S : List Nat} {T : Nat → Nat} {L : List Int} {b : Nat} {p : PhiD} : ∀ {r : Nat}, p ∈ phiTo f S T L b r ↔ ∃ q, q < r ∧ (fromR f S T L b).getD q 0 ≠ -1 ∧ p = phi1 f S T L b q
  | 0 => by simp [phiTo]
  | r + 1 => by
    rw [phiTo, List.mem_append, phiTo_mem]
    constructor
    · rintro (⟨q, h1, h2, h3⟩ | h)
      · exact ⟨q, by omega, h2, h3⟩
      · split at h
        · cases h
        · rename_i h2
          exact ⟨r, by omega, h2, by simpa using h⟩
    · rintro ⟨q, h1, h2, h3⟩
      by_cases e : q = r
      · subst e; right; rw [if_neg h2, h3]; exact List.mem_cons_self
      · exact Or.inl ⟨q, by omega, h2, h3⟩
theorem phiTo_regs (f : Fn) (S : List Nat) (T : Nat → Nat) (L : List Int) (b : Nat) : ∀ r, (phiTo f S T L b r).Pairwise (fun p q => p.reg ≠ q.reg)
  | 0 => List.Pairwise.nil
  | r + 1 => by
    rw [phiTo, List.pairwise_append]
    refine ⟨phiTo_regs f S T L b r, ?_, fun p hp q hq => ?_⟩
    · split <;> simp
    · obtain ⟨x, hx, -, rfl⟩ := phiTo_mem.1 hp
      split at hq
      · cases hq
      · have : q = phi1 f S T L b r := by simpa using hq
        rw [this]
        show x ≠ r
        omega
def phC0 (VA : Nat → Value) (p : PhiD) : List Value := [.int .i64 p.reg, .int .i64 p.id, VA p.reg]
structure PhisAt (w : World) (base : Nat) (v : Value) (VA : Nat → Value) (AR : Nat → List Int) (ps : List PhiD) : Prop where
  row : w.ownsRow base 86 3 v ps.length (ps.flatMap (phC0 VA))
  args : SlotsT w base 3 1 12 VA (fun r => (AR r).length) (fun r => i64s (AR r))
  fit : ∀ p ∈ ps, p.reg < 12 ∧ AR p.reg = p.args
theorem PhisAt.nil (w : World) (base : Nat) : PhisAt w base (.slice none 0 0) (fun _ => .slice none 0 0) (fun _ => []) [] :=
  ⟨World.ownsRow_nil _ _ _ _, SlotsT.nils _ _ _ _ _, fun p hp => by cases hp⟩
theorem PhisAt.below {w w' : World} {base : Nat} {v : Value} {VA : Nat → Value} {AR : Nat → List Int} {ps : List PhiD} (h : PhisAt w base v VA AR ps) (hb : Below w.heap.size w w') : PhisAt w' base v VA AR ps := ⟨ownsRow_below h.row hb, h.args.below hb, h.fit⟩
theorem PhisAt.mono {w : World} {base base' : Nat} {v : Value} {VA : Nat → Value} {AR : Nat → List Int} {ps : List PhiD} (h : PhisAt w base v VA AR ps) (hb : base' ≤ base) : PhisAt w base' v VA AR ps := ⟨ownsRow_monoR h.row hb, h.args.mono hb, h.fit⟩
theorem PhisAt.add {w w' : World} {base : Nat} {v v' va : Value} {VA : Nat → Value} {AR : Nat → List Int} {ps : List PhiD} {p : PhiD} (h : PhisAt w base v VA AR ps) (hp : p.reg < 12) (hn : ∀ q ∈ ps, q.reg ≠ p.reg) (ha : w.ownsRow base 3 1 va p.args.length (i64s p.args)) (hap : ∀ g, va.ownBlock = some g → ∀ j, j < 12 → (VA j).ownBlock ≠ some g)
    (hg : w.grownBy w' v.ownBlock) (hrow : w'.ownsRow base 86 3 v' (ps.length + 1) (ps.flatMap (phC0 VA) ++ [.int .i64 p.reg, .int .i64 p.id, va])) : PhisAt w' base v' (upd VA p.reg va) (upd AR p.reg p.args) (ps ++ [p]) := by
  have hty : ∀ q' cs t, v.ownBlock = some q' → w.heap[q']? = some (.cells cs t (0, 0)) → t = 86 := fun q' cs t e hh => own_type h.row e hh
  refine ⟨?_, ?_, fun q hq => ?_⟩
  · have e : (ps ++ [p]).flatMap (phC0 (upd VA p.reg va)) = ps.flatMap (phC0 VA) ++ [.int .i64 p.reg, .int .i64 p.id, va] := by
      rw [List.flatMap_append, flat_congr (g := phC0 VA) (fun q hq => by unfold phC0; rw [upd_other _ (hn q hq)])]
      simp [phC0, upd_same]
    rw [e, List.length_append]
    exact hrow
  · refine ((h.args.put hp ha (fun g hg j hj _ => hap g hg j hj)).keptT hg (fun q cs e hh => absurd (hty q cs _ e hh) (by decide))).congr (fun i _ => ⟨rfl, ?_, ?_⟩)
    · by_cases e : i = p.reg
      · subst e; simp [upd_same]
      · simp [upd_other _ e]
    · by_cases e : i = p.reg
      · subst e; simp [upd_same]
      · simp [upd_other _ e]
  · rcases List.mem_append.1 hq with hq | hq
    · obtain ⟨h1, h2⟩ := h.fit q hq
      exact ⟨h1, by rw [upd_other _ (hn q hq)]; exact h2⟩
    · obtain rfl : q = p := by simpa using hq
      exact ⟨hp, upd_same _ _ _⟩
end Go.Proofs.YtldbmdgpdolaaaaDoor
namespace Go.Proofs.YtldbmdgpdolaaaaDoor
open Go Go.RowKit

theorem run_index_regs (l : List Int) (hl : l.length = 12) (k : Nat) (hk : k < 12) (w : World) : (Instr.index 108 (.agg (i64s l).toArray) (.int .i64 (k : Int))).run Tryd.prog w = .ok (.int .i64 (l.getD k 0)) w := by
  have hn : (0 : Int) ≤ (k : Int) ∧ (k : Int) < ((12 : Nat) : Int) := by omega
  have hg : (i64s l)[k]? = some (.int .i64 (l[k]'(by omega))) := by simp [i64s, hl, hk]
  simp [Instr.index, run_underlying Tryd.underlying108, asIntOf, hn, go_sem, hl, hk, hg, List.getD]
end Go.Proofs.YtldbmdgpdolaaaaDoor
