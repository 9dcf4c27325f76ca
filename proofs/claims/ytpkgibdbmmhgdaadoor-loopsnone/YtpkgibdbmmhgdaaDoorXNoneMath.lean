/- A function that only goes on has no loop; stores into a program that was built. -/
import Derived.Test.YtpkgibdbmmhgdaaDoorXFlowLps
import Derived.Test.YtpkgibdbmmhgdaaDoorGroupF
namespace Go.Proofs.YtpkgibdbmmhgdaaDoor
open Go Go.RowKit

/-- A list of instructions, one with another Imm. -/
def immAt : List Ins → Nat → Int → List Ins
  | [], _, _ => []
  | x :: xs, 0, z => ⟨x.op, x.dst, x.a, x.b, z⟩ :: xs
  | x :: xs, n + 1, z => x :: immAt xs n z
theorem immAt_len : ∀ (xs : List Ins) (n : Nat) (z : Int), (immAt xs n z).length = xs.length
  | [], _, _ => rfl
  | _ :: _, 0, _ => rfl
  | _ :: xs, n + 1, z => by rw [immAt, List.length_cons, immAt_len xs n z, List.length_cons]
theorem immAt_get : ∀ (xs : List Ins) (n : Nat) (z : Int) (q : Nat), (immAt xs n z).getD q ⟨0, 0, 0, 0, 0⟩ = if q = n ∧ n < xs.length then ⟨(xs.getD q ⟨0, 0, 0, 0, 0⟩).op, (xs.getD q ⟨0, 0, 0, 0, 0⟩).dst, (xs.getD q ⟨0, 0, 0, 0, 0⟩).a, (xs.getD q ⟨0, 0, 0, 0, 0⟩).b, z⟩ else xs.getD q ⟨0, 0, 0, 0, 0⟩
  | [], n, z, q => by rw [if_neg (fun h => by simp at h)]; rfl
  | x :: xs, 0, z, q => by
    cases q with
    | zero => rw [if_pos ⟨rfl, by simp⟩]; rfl
    | succ q => rw [if_neg (fun h => by omega)]; rfl
  | x :: xs, n + 1, z, q => by
    cases q with
    | zero => rw [if_neg (fun h => by omega)]; rfl
    | succ q =>
      have h := immAt_get xs n z q
      show (immAt xs n z).getD q ⟨0, 0, 0, 0, 0⟩ = _
      rw [h]
      by_cases hc : q = n ∧ n < xs.length
      · rw [if_pos hc, if_pos ⟨by omega, by simpa using hc.2⟩]; rfl
      · rw [if_neg hc, if_neg (fun h => hc ⟨by omega, by simpa using h.2⟩)]; rfl
theorem codeCells_imm : ∀ (xs : List Ins) (n : Nat) (z : Int), (codeCells xs).set (n * 5 + 4) (.int .i64 z) = codeCells (immAt xs n z)
  | [], _, _ => rfl
  | x :: xs, 0, z => by
    show (insCells x ++ codeCells xs).set 4 _ = insCells _ ++ codeCells xs
    rw [List.set_append_left _ _ (by simp [insCells])]
    rfl
  | x :: xs, n + 1, z => by
    show (insCells x ++ codeCells xs).set ((n + 1) * 5 + 4) _ = insCells x ++ codeCells (immAt xs n z)
    rw [List.set_append_right _ _ (by simp [insCells]; omega), ← codeCells_imm xs n z]
    congr 2
    simp [insCells]; omega
def immFn (f : Fn) (pc : Nat) (z : Int) : Fn := ⟨f.params, f.regs, immAt f.code pc z⟩
theorem immFn_ins (f : Fn) (pc : Nat) (z : Int) (q : Nat) : insD (immFn f pc z) q = if q = pc ∧ pc < f.code.length then ⟨(insD f q).op, (insD f q).dst, (insD f q).a, (insD f q).b, z⟩ else insD f q := immAt_get f.code pc z q
/-- All functions whose instructions lie in one block. -/
def immAll (g pc : Nat) (z : Int) : List Fn → List Value → List Fn
  | f :: p, u :: us => (if u.ownBlock = some g then immFn f pc z else f) :: immAll g pc z p us
  | p, [] => p
  | [], _ => []
theorem immAll_len (g pc : Nat) (z : Int) : ∀ (p : List Fn) (us : List Value), (immAll g pc z p us).length = p.length
  | [], [] => rfl
  | [], _ :: _ => rfl
  | _ :: _, [] => rfl
  | _ :: p, _ :: us => by rw [immAll, List.length_cons, immAll_len g pc z p us, List.length_cons]
theorem immAll_get (g pc : Nat) (z : Int) : ∀ (p : List Fn) (us : List Value) (j : Nat) (h1 : j < p.length) (h2 : j < us.length) (h3 : j < (immAll g pc z p us).length), (immAll g pc z p us)[j] = if us[j].ownBlock = some g then immFn p[j] pc z else p[j]
  | f :: p, u :: us, 0, _, _, _ => rfl
  | f :: p, u :: us, j + 1, h1, h2, h3 => immAll_get g pc z p us j (by simpa using h1) (by simpa using h2) (by simpa [immAll] using h3)
theorem immAll_cells (g pc : Nat) (z : Int) : ∀ (p : List Fn) (us : List Value), fnsCells (immAll g pc z p us) us = fnsCells p us
  | [], [] => rfl
  | [], _ :: _ => rfl
  | _ :: _, [] => rfl
  | f :: p, u :: us => by
    rw [immAll, fnsCells, fnsCells, immAll_cells g pc z p us]
    congr 1
    split <;> rfl
/-- A store of another Imm. -/
theorem Built.imm {w : World} {base tF tI : Nat} {v : Value} {P : List Fn} {us : List Value} (h : Built w base tF tI v P us) (ht : tI ≠ tF) {k g cap n : Nat} (hk : k < P.length) (hu : us[k]'(by have := h.len; omega) = .slice (some ⟨g, 0, none⟩) n cap) (pc : Nat) (z : Int) :
    Built (w.setCell ⟨g, pc * 5 + 4, none⟩ (.int .i64 z)) base tF tI v (immAll g pc z P us) us ∧ w.grownBy (w.setCell ⟨g, pc * 5 + 4, none⟩ (.int .i64 z)) (some g) ∧ base ≤ g := by
  have hl := h.len
  have hck := h.codes k hk
  rw [hu] at hck
  have hn : n = P[k].code.length := by
    rcases hck.2 with ⟨e, _⟩ | ⟨g', cap', cur, e, _⟩
    · cases e
    · exact (Value.slice.inj e).2.1
  subst hn
  obtain ⟨-, hg⟩ := hck.stored (pc * 5 + 4) (.int .i64 z)
  have hgb : base ≤ g := by
    rcases hck.2 with ⟨e, _⟩ | ⟨g', cap', cur, e, hb, _⟩
    · cases e
    · have := (Value.slice.inj e).1
      simp at this
      omega
  refine ⟨⟨by rw [immAll_len]; exact hl, ?_, fun j hj => ?_⟩, hg, hgb⟩
  · rw [immAll_cells, immAll_len]
    refine h.row.kept hg ?_
    have := own_apart h.row hck (Ne.symm ht)
    exact this
  · have hjP : j < P.length := by rw [immAll_len] at hj; exact hj
    have hjU : j < us.length := by omega
    rw [immAll_get g pc z P us j hjP hjU hj]
    have hcj := h.codes j hjP
    by_cases e : us[j].ownBlock = some g
    · rw [if_pos e]
      show World.ownsRow _ base tI 5 us[j] (immAt P[j].code pc z).length (codeCells (immAt P[j].code pc z))
      rw [immAt_len, ← codeCells_imm]
      rcases hcj.2 with ⟨e2, _⟩ | ⟨g', cap', cur, e2, _⟩
      · rw [e2] at e; cases e
      · rw [e2] at e hcj ⊢
        obtain rfl : g' = g := by simpa [Value.ownBlock] using e
        exact (hcj.stored (pc * 5 + 4) (.int .i64 z)).1
    · rw [if_neg e]
      exact hcj.kept hg (Or.inr e)
/-- A function that only goes on. -/
def Fwd (f : Fn) (n : Nat) : Prop := ∀ pc, pc < n → ((insD f pc).op = 15 ∨ (insD f pc).op = 16) → (pc : Int) < (insD f pc).imm
theorem fwd_behind {f : Fn} (h : Fwd f f.code.length) {pc q : Nat} (hp : pc < f.code.length) (hq : q ∈ behind (insD f pc) pc) : pc < q := by
  unfold behind at hq
  split at hq
  · have := h pc hp (Or.inl (by assumption))
    simp at hq; omega
  · split at hq
    · have := h pc hp (Or.inr (by assumption))
      simp at hq; omega
    · split at hq
      · simp at hq
      · simp at hq; omega
theorem fwd_next {P : List Fn} {f : Fn} (ok : FlowOk P f) (hf : Fwd f f.code.length) {S : List Nat} {T : Nat → Nat} (h : BlkOk f S T) {b c : Nat} (hb : b < S.length) (hc : ((c : Nat) : Int) ∈ nxI f S (T b)) : b < c := by
  obtain ⟨q, hq, e⟩ := (nxI_mem f S (T b) _).1 hc
  have hw : Way f 63 S[b] := (h.starts.reach ok (List.getElem_mem hb)).1
  have hE := h.ends b hb
  have hqS := hE.leads ok h.starts hw hq
  have h1 := hE.lt
  have h2 := hE.le
  have hlt := fwd_behind hf (by omega) hq
  obtain ⟨hr, hr2⟩ := rank_lt h.starts.rises hqS
  have hcr : c = rank S q := by omega
  have e2 := hr2 hr
  rcases Nat.lt_or_ge b c with h3 | h3
  · exact h3
  · exfalso
    rw [hcr] at h3
    have hle : S[rank S q] ≤ S[b] := by
      rcases Nat.eq_or_lt_of_le h3 with h4 | h4
      · simp only [h4]; exact Nat.le_refl _
      · exact Nat.le_of_lt (List.pairwise_iff_getElem.1 h.starts.rises _ _ hr hb h4)
    omega
/-- Where all ways go on, no later block stands on each way to a block. -/
theorem fwd_way {pv : Nat → List Nat} {K : Nat} (hc : ∀ b, b < K → Come pv b) (hp : ∀ b p, p ∈ pv b → p < b) : ∀ (b : Nat), b < K → ∀ d, b < d → WayB pv d b := by
  intro b
  induction b using Nat.strongRecOn with
  | ind b ih =>
    intro hb d hd
    obtain ⟨x, hx⟩ := hc b hb
    cases hx with
    | start h => exact WayB.start (by omega)
    | @step p _ hw he hn =>
      have hlt := hp b p he
      exact WayB.step (ih p hlt (by omega) d (by omega)) he (by omega)
theorem fwd_none {P : List Fn} {f : Fn} (ok : FlowOk P f) (hf : Fwd f f.code.length) {Ls : List (List Int)} (h : LoopsOk f Ls) : Ls = [] := by
  obtain ⟨S, T, hB, hL⟩ := h
  have hpl : ∀ b p, p ∈ pvN f S T b → p < b := fun b p hp => by
    obtain ⟨h1, h2⟩ := (pvN_mem f S T b p).1 hp
    exact fwd_next ok hf hB h1 h2
  refine hL.none fun b d hm hd => ?_
  obtain ⟨hb, hn⟩ := pairsOf_mem _ _ _ _ hm
  have hlt : b < d := fwd_next ok hf hB hb (by rw [nxN_nxI]; exact List.mem_map.2 ⟨d, hn, rfl⟩)
  exact hd (fwd_way (fun b hb => hB.come ok hb) hpl b hb d hlt)
end Go.Proofs.YtpkgibdbmmhgdaaDoor
