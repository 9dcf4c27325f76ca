/- Programs that a call has built in memory of its own: what it owns, and that it reads as a program. No program is named. -/
import Derived.Test.YtapjfiihfgndeaaDoorLater
import Derived.OneCell
import Derived.Laws.AppendOwnNone
namespace Go.Proofs.YtapjfiihfgndeaaDoor
open Go Go.RowKit

def insCells (x : Ins) : List Value := [.int .i64 x.op, .int .i64 x.dst, .int .i64 x.a, .int .i64 x.b, .int .i64 x.imm]
def codeCells (xs : List Ins) : List Value := xs.flatMap insCells
theorem codeCells_length (xs : List Ins) : (codeCells xs).length = xs.length * 5 := by
  induction xs with
  | nil => rfl
  | cons x r ih =>
    have : codeCells (x :: r) = insCells x ++ codeCells r := rfl
    rw [this, List.length_append, ih]; simp [insCells]; omega
theorem codeCells_append (xs ys : List Ins) : codeCells (xs ++ ys) = codeCells xs ++ codeCells ys := by simp [codeCells]
theorem codeCells_get (xs : List Ins) (k j : Nat) (h : k < xs.length) (hj : j < 5) : (codeCells xs)[k * 5 + j]? = (insCells xs[k])[j]? := by
  induction xs generalizing k with
  | nil => simp at h
  | cons x r ih =>
    have e : codeCells (x :: r) = insCells x ++ codeCells r := rfl
    rw [e]
    cases k with
    | zero => rw [List.getElem?_append_left (by simp [insCells]; omega)]; simp
    | succ k =>
      rw [List.getElem?_append_right (by simp [insCells]; omega)]
      have := ih k (by simpa using h)
      have e2 : (k + 1) * 5 + j - (insCells x).length = k * 5 + j := by simp [insCells]; omega
      rw [e2, this]; rfl
theorem codeCells_one (xs : List Ins) : ∀ u ∈ codeCells xs, u.oneCell' = true := by
  intro u hu
  obtain ⟨x, _, hx⟩ := List.mem_flatMap.1 hu
  simp [insCells] at hx
  rcases hx with rfl | rfl | rfl | rfl | rfl <;> rfl

/-- The cells that a slice of instructions leads to. -/
theorem codeIn_cells {w : World} {ao : Option Addr} {b off n : Nat} {xs : List Ins} (h : CodeIn w ao b off n xs) : ∀ j u, (codeCells xs)[j]? = some u → w.cell? ((⟨b, off, none⟩ : Addr).add j) = some u := by
  intro j u hu
  have hj : j < xs.length * 5 := by
    rw [← codeCells_length]
    rcases Nat.lt_or_ge j (codeCells xs).length with h' | h'
    · exact h'
    · simp [List.getElem?_eq_none h'] at hu
  have hk : j / 5 < xs.length := by omega
  have hm : j % 5 < 5 := by omega
  have hg := codeCells_get xs (j / 5) (j % 5) hk hm
  rw [show j / 5 * 5 + j % 5 = j by omega] at hg
  rw [hg] at hu
  obtain ⟨h0, h1, h2, h3, h4⟩ := h.at_ (j / 5) hk
  have hadd : (⟨b, off, none⟩ : Addr).add j = ⟨b, off + j / 5 * 5 + j % 5, none⟩ := by
    unfold Addr.add
    split
    · rename_i e; subst e; simp
    · simp; omega
  rw [hadd]
  have hc : j % 5 = 0 ∨ j % 5 = 1 ∨ j % 5 = 2 ∨ j % 5 = 3 ∨ j % 5 = 4 := by omega
  rcases hc with e | e | e | e | e <;> rw [e] at hu ⊢ <;> simp [insCells] at hu <;> subst hu
  · simpa using h0
  · exact h1
  · exact h2
  · exact h3
  · exact h4

theorem code_of_own {w : World} {base t : Nat} {v : Value} {xs : List Ins} (h : w.ownsRow base t 5 v xs.length (codeCells xs)) : CodeVal w v xs := by
  have hc := @World.ownsRow.cells _ _ _ _ _ _ _ h
  rcases h.2 with ⟨rfl, h0⟩ | ⟨g, cap, cur, rfl, _, hg, hn, hm, _, _⟩
  · have : xs = [] := List.length_eq_zero_iff.1 h0
    subst this
    exact ⟨none, 0, 0, 0, 0, rfl, ⟨rfl, fun h => by omega, fun k h => by simp at h⟩, ⟨Nat.le_refl _, fun _ => rfl⟩, by simp [maxLen]⟩
  · refine ⟨some ⟨g, 0, none⟩, g, 0, xs.length, cap, rfl, ⟨rfl, fun _ => rfl, fun k hk => ?_⟩, ⟨hn, fun h => by cases h⟩, hm⟩
    have cell : ∀ j u, (codeCells xs)[j]? = some u → w.cell? ⟨g, j, none⟩ = some u := fun j u hu => by
      have := hc (g := g) rfl j u hu
      have hadd : (⟨g, 0, none⟩ : Addr).add j = ⟨g, j, none⟩ := by unfold Addr.add; split <;> simp_all
      rwa [hadd] at this
    refine ⟨?_, ?_, ?_, ?_, ?_⟩
    · simpa using cell (k * 5 + 0) _ (codeCells_get xs k 0 hk (by omega))
    · rw [Nat.zero_add]; exact cell (k * 5 + 1) _ (codeCells_get xs k 1 hk (by omega))
    · rw [Nat.zero_add]; exact cell (k * 5 + 2) _ (codeCells_get xs k 2 hk (by omega))
    · rw [Nat.zero_add]; exact cell (k * 5 + 3) _ (codeCells_get xs k 3 hk (by omega))
    · rw [Nat.zero_add]; exact cell (k * 5 + 4) _ (codeCells_get xs k 4 hk (by omega))

def fnCells (f : Fn) (u : Value) : List Value := [.int .i64 f.params, .int .i64 f.regs, u]
def fnsCells : List Fn → List Value → List Value
  | f :: p, u :: us => fnCells f u ++ fnsCells p us
  | _, _ => []
theorem fnsCells_length (p : List Fn) (us : List Value) (h : us.length = p.length) : (fnsCells p us).length = p.length * 3 := by
  induction p generalizing us with
  | nil => cases us <;> simp_all [fnsCells]
  | cons f p ih =>
    cases us with
    | nil => simp at h
    | cons u us => simp [fnsCells, fnCells, ih us (by simpa using h)]; omega
theorem fnsCells_snoc (p : List Fn) (us : List Value) (f : Fn) (u : Value) (h : us.length = p.length) : fnsCells (p ++ [f]) (us ++ [u]) = fnsCells p us ++ fnCells f u := by
  induction p generalizing us with
  | nil => cases us <;> simp_all [fnsCells]
  | cons g p ih =>
    cases us with
    | nil => simp at h
    | cons u' us => simp [fnsCells, ih us (by simpa using h)]
theorem fnsCells_get (p : List Fn) (us : List Value) (hl : us.length = p.length) (k j : Nat) (h : k < p.length) (hj : j < 3) : (fnsCells p us)[k * 3 + j]? = (fnCells p[k] (us[k]'(by omega)))[j]? := by
  induction p generalizing us k with
  | nil => simp at h
  | cons f p ih =>
    cases us with
    | nil => simp at hl
    | cons u us =>
      simp only [fnsCells]
      cases k with
      | zero => rw [List.getElem?_append_left (by simp [fnCells]; omega)]; simp
      | succ k =>
        rw [List.getElem?_append_right (by simp [fnCells]; omega)]
        have := ih us (by simpa using hl) k (by simpa using h)
        have e2 : (k + 1) * 3 + j - (fnCells f u).length = k * 3 + j := by simp [fnCells]; omega
        rw [e2, this]; rfl

/-- A program that the call has built: a row of functions, each with a row of instructions. -/
structure Built (w : World) (base tF tI : Nat) (v : Value) (p : List Fn) (us : List Value) : Prop where
  len : us.length = p.length
  row : w.ownsRow base tF 3 v p.length (fnsCells p us)
  codes : ∀ i (h : i < p.length), w.ownsRow base tI 5 (us[i]'(by omega)) p[i].code.length (codeCells p[i].code)

theorem built_nil (w : World) (base tF tI : Nat) : Built w base tF tI (.slice none 0 0) [] [] := ⟨rfl, World.ownsRow_nil _ _ _ _, fun i h => by simp at h⟩

theorem ownsRow_below {w w' : World} {base t size n : Nat} {v : Value} {xs : List Value} (h : w.ownsRow base t size v n xs) (hb : Below w.heap.size w w') : w'.ownsRow base t size v n xs := by
  refine ⟨h.1, ?_⟩
  rcases h.2 with h2 | ⟨g, cap, cur, hv, hg, hh, r⟩
  · exact Or.inl h2
  · exact Or.inr ⟨g, cap, cur, hv, hg, (hb.block g (lt_of_block hh)).trans hh, r⟩
theorem Built.below {w w' : World} {base tF tI : Nat} {v : Value} {p : List Fn} {us : List Value} (h : Built w base tF tI v p us) (hb : Below w.heap.size w w') : Built w' base tF tI v p us :=
  ⟨h.len, ownsRow_below h.row hb, fun i hi => ownsRow_below (h.codes i hi) hb⟩
theorem Built.alloc {w : World} {base tF tI : Nat} {v : Value} {p : List Fn} {us : List Value} (h : Built w base tF tI v p us) (o : Obj) : Built (w.alloc o) base tF tI v p us :=
  h.below ((Below.refl _ _).alloc (Nat.le_refl _) _)
/-- A store below what is owned. -/
theorem Built.setCell {w : World} {base tF tI : Nat} {v : Value} {p : List Fn} {us : List Value} (h : Built w base tF tI v p us) {a : Addr} (ha : a.block < base) (u : Value) : Built (w.setCell a u) base tF tI v p us :=
  ⟨h.len, ownsRow_setCell_below h.row ha u, fun i hi => ownsRow_setCell_below (h.codes i hi) ha u⟩

/-- Rows of two element types are two rows. -/
theorem own_apart {w : World} {base t t' size size' n n' : Nat} {v v' : Value} {xs xs' : List Value} (h : w.ownsRow base t size v n xs) (h' : w.ownsRow base t' size' v' n' xs') (ht : t ≠ t') :
    v.ownBlock = none ∨ v.ownBlock ≠ v'.ownBlock := by
  rcases h.2 with ⟨rfl, _⟩ | ⟨g, cap, cur, rfl, _, hg, _⟩
  · exact Or.inl rfl
  · right
    rcases h'.2 with ⟨rfl, _⟩ | ⟨g', cap', cur', rfl, _, hg', _⟩
    · simp [Value.ownBlock]
    · simp only [Value.ownBlock]
      intro e
      obtain rfl : g = g' := by simpa using e
      rw [hg] at hg'
      simp at hg'
      exact ht hg'.2

theorem Built.snoc {w w' : World} {base tF tI : Nat} {v v' u : Value} {p : List Fn} {us : List Value} {f : Fn} (ht : tI ≠ tF) (h : Built w base tF tI v p us) (hu : w.ownsRow base tI 5 u f.code.length (codeCells f.code))
    (hrow : w'.ownsRow base tF 3 v' (p.length + 1) (fnsCells p us ++ fnCells f u)) (hg : w.grownBy w' v.ownBlock) : Built w' base tF tI v' (p ++ [f]) (us ++ [u]) := by
  refine ⟨by simp [h.len], ?_, fun i hi => ?_⟩
  · rw [fnsCells_snoc p us f u h.len]; simpa using hrow
  · by_cases hip : i < p.length
    · have e1 : (p ++ [f])[i] = p[i] := List.getElem_append_left hip
      have e2 : (us ++ [u])[i]'(by simp [h.len]; omega) = us[i]'(by rw [h.len]; exact hip) := List.getElem_append_left (by rw [h.len]; exact hip)
      rw [e1, e2]
      exact (h.codes i hip).kept hg (own_apart (h.codes i hip) h.row ht)
    · have hi' : i = p.length := by simp at hi; omega
      subst hi'
      have e1 : (p ++ [f])[p.length] = f := by simp
      have e2 : (us ++ [u])[p.length]'(by simp [h.len]) = u := by simp [← h.len]
      rw [e1, e2]
      exact hu.kept hg (own_apart hu h.row ht)

theorem Built.prog {w : World} {base tF tI : Nat} {v : Value} {p : List Fn} {us : List Value} (h : Built w base tF tI v p us) : ProgVal w v p := by
  have hc := @World.ownsRow.cells _ _ _ _ _ _ _ h.row
  rcases h.row.2 with ⟨rfl, h0⟩ | ⟨g, cap, cur, rfl, _, hg, hn, hm, _, _⟩
  · have : p = [] := List.length_eq_zero_iff.1 h0
    subst this
    exact ⟨none, 0, 0, 0, 0, rfl, ⟨rfl, fun h => by omega, fun k h => by simp at h⟩, ⟨Nat.le_refl _, fun _ => rfl⟩, by simp [maxLen]⟩
  · refine ⟨some ⟨g, 0, none⟩, g, 0, p.length, cap, rfl, ⟨rfl, fun _ => rfl, fun k hk => ?_⟩, ⟨hn, fun h => by cases h⟩, hm⟩
    have cell : ∀ j u, (fnsCells p us)[j]? = some u → w.cell? ⟨g, j, none⟩ = some u := fun j u hu => by
      have := hc (g := g) rfl j u hu
      have hadd : (⟨g, 0, none⟩ : Addr).add j = ⟨g, j, none⟩ := by unfold Addr.add; split <;> simp_all
      rwa [hadd] at this
    refine ⟨us[k]'(by rw [h.len]; exact hk), ?_, ?_, ?_, code_of_own (h.codes k hk)⟩
    · simpa using cell (k * 3 + 0) _ (fnsCells_get p us h.len k 0 hk (by omega))
    · rw [Nat.zero_add]; exact cell (k * 3 + 1) _ (fnsCells_get p us h.len k 1 hk (by omega))
    · rw [Nat.zero_add]; exact cell (k * 3 + 2) _ (fnsCells_get p us h.len k 2 hk (by omega))

/-- append onto a row of one's own of what a slice leads to, nil or not. -/
theorem wpList_append_slice {P : Program} {w : World} {ops : Array Oper} {rest : List Oper} {o : Oper} {a : Act} {Q : Exit → Act → World → Prop} (hgd : o.guard = none) (s x : Operand) (t : TypeId)
    (ho : o.op = .call { callee := .builtin .append, args := #[s, x], argTypes := #[t, t] })
    (base : Nat) (e : TypeId) (i : TypeInfo) (z : Value) (size bytes : Nat) (ht : P.underlying t = some (.slice e)) (hi : P.info? e = some i) (hz : i.zero = some z)
    (hsize : i.size = size) (hby : i.bytes = bytes) (hzs : z.cells.size = size) (hsz : 0 < size)
    (v : Value) (n : Nat) (xs : List Value) (hs : a.eval s = v) (hown : w.ownsRow base e size v n xs)
    (ao : Option Addr) (m c : Nat) (news : List Value) (hx : a.eval x = .slice ao m c) (hnone : ao = none → m = 0 ∧ c = 0) (hl : news.length = m * size)
    (hnews : ∀ ad, ao = some ad → ∀ j u, news[j]? = some u → w.cell? (ad.add j) = some u) (h1 : ∀ u ∈ news, u.oneCell' = true)
    (h63 : n + m ≤ maxLen) (hbytes : (n + m) * bytes ≤ 140737488355328) (hbase : base ≤ w.heap.size)
    (h : ∀ v' w', w'.ownsRow base e size v' (n + m) (xs ++ news) → w.grownBy w' v.ownBlock → wpList P ops Q rest (a.put o.dst v') w') : wpList P ops Q (o :: rest) a w := by
  cases ao with
  | none =>
    obtain ⟨rfl, rfl⟩ := hnone rfl
    have hn0 : news = [] := List.length_eq_zero_iff.1 (by simpa using hl)
    subst hn0
    refine wpList_append_own_none hgd s x t ho base e i size ht hi v n xs hs hown hx (h v w (by simpa using hown) ⟨rfl, rfl, rfl, Nat.le_refl _, fun _ _ _ => rfl⟩)
  | some ad =>
    exact wpList_append_own w hgd s x t ho base e i z size bytes ht hi hz hsize hby hzs hsz v n xs hs hown ad m c news hx hl (hnews ad rfl) h1 h63 hbytes hbase fun v' w' h2 h3 _ => h v' w' h2 h3

/-- What grows beside all old blocks leaves them as they were. -/
theorem below_grown {w w' : World} (hg : w.grownBy w' none) : Below w.heap.size w w' := ⟨hg.os, hg.tape, hg.output, hg.size, fun k hk => hg.block k hk (by simp)⟩

/-- One function more: its code was copied into a row of its own, it was laid beside the others, and the variable that leads to them was set. -/
theorem built_step {wr w1 w3 : World} {base tF tI tP O : Nat} {vo u1 v3 : Value} {P : List Fn} {us : List Value} {f : Fn} {cF : Array Value} {oN : Obj} (ht : tI ≠ tF) (hO : O < base) (hOz : O < wr.heap.size)
    (hbt : Built wr base tF tI vo P us) (ho : wr.heap[O]? = some (.cells #[vo] tP (0, 0)))
    (hg1 : (wr.alloc (.cells cF tF)).grownBy w1 none) (hown1 : w1.ownsRow base tI 5 u1 f.code.length (codeCells f.code))
    (hg3 : ((w1.setCell ⟨wr.heap.size, 2, none⟩ u1).alloc oN).grownBy w3 vo.ownBlock)
    (hown3 : w3.ownsRow base tF 3 v3 (P.length + 1) (fnsCells P us ++ fnCells f u1)) :
    w3.heap[O]? = some (.cells #[vo] tP (0, 0)) ∧ Built (w3.setCell ⟨O, 0, none⟩ v3) base tF tI v3 (P ++ [f]) (us ++ [u1]) ∧ (w3.setCell ⟨O, 0, none⟩ v3).heap[O]? = some (.cells #[v3] tP (0, 0)) ∧
      ∀ B' W0, B' ≤ O → Below B' W0 wr → Below B' W0 (w3.setCell ⟨O, 0, none⟩ v3) := by
  have b1 : Below wr.heap.size wr w1 := ((Below.refl _ _).alloc (Nat.le_refl _) _).trans ((below_grown hg1).mono (by simp))
  have hF : w1.heap[wr.heap.size]? = some (.cells cF tF) := (hg1.block wr.heap.size (by simp) (by simp)).trans (heap_alloc_new wr _)
  have hne : u1.ownBlock ≠ some wr.heap.size := by
    intro e
    rcases hown1.2 with ⟨rfl, _⟩ | ⟨g, cap, cur, rfl, _, hg, _⟩
    · simp [Value.ownBlock] at e
    · obtain rfl : g = wr.heap.size := by simpa [Value.ownBlock] using e
      rw [hF] at hg
      simp at hg
      exact ht hg.2.symm
  have b2 : Below wr.heap.size wr (w1.setCell ⟨wr.heap.size, 2, none⟩ u1) := b1.setCell (Nat.le_refl _) _
  have b2' : Below wr.heap.size wr ((w1.setCell ⟨wr.heap.size, 2, none⟩ u1).alloc oN) := b2.alloc (by have := b2.size; omega) _
  have hcode : ((w1.setCell ⟨wr.heap.size, 2, none⟩ u1).alloc oN).ownsRow base tI 5 u1 f.code.length (codeCells f.code) := (ownsRow_setCell_other hown1 hne _).alloc _
  have hbt2 := hbt.below b2'
  have hrow : ∀ k, vo.ownBlock = some k → base ≤ k := fun k hk => (hbt.row.lt k hk).1
  have ho3 : w3.heap[O]? = some (.cells #[vo] tP (0, 0)) :=
    (hg3.block O (by have := b2'.size; omega) (fun e => by have := hrow O e.symm; omega)).trans ((b2'.block O hOz).trans ho)
  refine ⟨ho3, (hbt2.snoc ht hcode hown3 hg3).setCell hO _, one_setCell ho3, fun B' W0 hB h => ?_⟩
  have hB2 : Below B' W0 ((w1.setCell ⟨wr.heap.size, 2, none⟩ u1).alloc oN) := h.trans (b2'.mono (by omega))
  exact (hB2.grown hg3 (by have := b2'.size; omega) (fun k hk => by have := hrow k hk; omega)).setCell hB _

theorem fnCells_one (f : Fn) (ao : Option Addr) (n c : Nat) : ∀ u ∈ fnCells f (.slice ao n c), u.oneCell' = true := by
  intro u hu
  simp [fnCells] at hu
  rcases hu with rfl | rfl | rfl <;> rfl

/-- The cells of a new block of three. -/
theorem news_three (w : World) (a b c : Value) (t g : Nat) (hg : g = w.heap.size) : ∀ j u, [a, b, c][j]? = some u → (w.alloc (.cells #[a, b, c] t)).cell? ((⟨g, 0, none⟩ : Addr).add j) = some u := by
  subst hg
  intro j u hu
  match j, hu with
  | 0, hu => simp at hu; subst hu; simp [Addr.add]
  | 1, hu => simp at hu; subst hu; simp [Addr.add]
  | 2, hu => simp at hu; subst hu; simp [Addr.add]
  | j + 3, hu => simp at hu

/-- What is owned has a slice's shape. -/
theorem own_shape {w : World} {base t size n : Nat} {v : Value} {xs : List Value} (h : w.ownsRow base t size v n xs) : ∃ ao cap, v = .slice ao n cap := by
  rcases h.2 with ⟨rfl, rfl⟩ | ⟨g, cap, cur, rfl, _⟩
  · exact ⟨none, 0, rfl⟩
  · exact ⟨_, cap, rfl⟩

end Go.Proofs.YtapjfiihfgndeaaDoor
