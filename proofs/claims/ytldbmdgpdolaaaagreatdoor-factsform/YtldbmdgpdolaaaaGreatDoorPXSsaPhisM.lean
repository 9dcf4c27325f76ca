import Derived.Test.YtldbmdgpdolaaaaGreatDoorPXSsaAny
import Derived.Test.YtldbmdgpdolaaaaGreatDoorPXSsaRow
namespace Go.Proofs.YtldbmdgpdolaaaaGreatDoor
open Go Go.RowKit

noncomputable def phi1 (f : Fn) (S : List Nat) (T : Nat → Nat) (L : List Int) (b r : Nat) : PhiD := ⟨r, (fromR f S T L b).getD r 0, (prevs f S T b).map fun z => (behR f S T L z).getD r 0⟩
noncomputable def phiTo (f : Fn) (S : List Nat) (T : Nat → Nat) (L : List Int) (b : Nat) : Nat → List PhiD
  | 0 => []
  | r + 1 => phiTo f S T L b r ++ (if (fromR f S T L b).getD r 0 = -1 then [] else [phi1 f S T L b r])
noncomputable def phiM (f : Fn) (S : List Nat) (T : Nat → Nat) (L : List Int) (b : Nat) : List PhiD := if 1 < (prevs f S T b).length then phiTo f S T L b 12 else []
theorem phiTo_len (f : Fn) (S : List Nat) (T : Nat → Nat) (L : List Int) (b : Nat) : ∀ r, (phiTo f S T L b r).length ≤ r
  | 0 => Nat.le_refl _
  | r + 1 => by
    have := phiTo_len f S T L b r
    rw [phiTo, List.length_append]
    split <;> simp <;> omega
theorem phiTo_mem {f : Fn} {S : List Nat} {T : Nat → Nat} {L : List Int} {b : Nat} {p : PhiD} : ∀ {r : Nat}, p ∈ phiTo f S T L b r ↔ ∃ q, q < r ∧ (fromR f S T L b).getD q 0 ≠ -1 ∧ p = phi1 f S T L b q
  | 0 => by simp [phiTo]
  | r + 1 => by
    rw [phiTo, List.mem_append, phiTo_mem]
    constructor
    · rintro (⟨q, h1, h2, h3⟩ | h)
      · exact ⟨q, by omega, h2, h3⟩
      · split at h
        · cases h
        · rename_i h2
          exact ⟨r, by omega, h2, by simpa using h⟩
    · rintro ⟨q, h1, h2, h3⟩
      by_cases e : q = r
      · subst e; right; rw [if_neg h2, h3]; exact List.mem_cons_self
      · exact Or.inl ⟨q, by omega, h2, h3⟩
theorem phiTo_regs (f : Fn) (S : List Nat) (T : Nat → Nat) (L : List Int) (b : Nat) : ∀ r, (phiTo f S T L b r).Pairwise (fun p q => p.reg ≠ q.reg)
  | 0 => List.Pairwise.nil
  | r + 1 => by
    rw [phiTo, List.pairwise_append]
    refine ⟨phiTo_regs f S T L b r, ?_, fun p hp q hq => ?_⟩
    · split <;> simp
    · obtain ⟨x, hx, -, rfl⟩ := phiTo_mem.1 hp
      split at hq
      · cases hq
      · have : q = phi1 f S T L b r := by simpa using hq
        rw [this]
        show x ≠ r
        omega
def phC0 (VA : Nat → Value) (p : PhiD) : List Value := [.int .i64 p.reg, .int .i64 p.id, VA p.reg]
structure PhisAt (w : World) (base : Nat) (v : Value) (VA : Nat → Value) (AR : Nat → List Int) (ps : List PhiD) : Prop where
  row : w.ownsRow base 72 3 v ps.length (ps.flatMap (phC0 VA))
  args : SlotsT w base 3 1 12 VA (fun r => (AR r).length) (fun r => i64s (AR r))
  fit : ∀ p ∈ ps, p.reg < 12 ∧ AR p.reg = p.args
theorem PhisAt.nil (w : World) (base : Nat) : PhisAt w base (.slice none 0 0) (fun _ => .slice none 0 0) (fun _ => []) [] :=
  ⟨World.ownsRow_nil _ _ _ _, SlotsT.nils _ _ _ _ _, fun p hp => by cases hp⟩
theorem PhisAt.below {w w' : World} {base : Nat} {v : Value} {VA : Nat → Value} {AR : Nat → List Int} {ps : List PhiD} (h : PhisAt w base v VA AR ps) (hb : Below w.heap.size w w') : PhisAt w' base v VA AR ps := ⟨ownsRow_below h.row hb, h.args.below hb, h.fit⟩
theorem PhisAt.mono {w : World} {base base' : Nat} {v : Value} {VA : Nat → Value} {AR : Nat → List Int} {ps : List PhiD} (h : PhisAt w base v VA AR ps) (hb : base' ≤ base) : PhisAt w base' v VA AR ps := ⟨ownsRow_mono h.row hb, h.args.mono hb, h.fit⟩
theorem PhisAt.add {w w' : World} {base : Nat} {v v' va : Value} {VA : Nat → Value} {AR : Nat → List Int} {ps : List PhiD} {p : PhiD} (h : PhisAt w base v VA AR ps) (hp : p.reg < 12) (hn : ∀ q ∈ ps, q.reg ≠ p.reg) (ha : w.ownsRow base 3 1 va p.args.length (i64s p.args)) (hap : ∀ g, va.ownBlock = some g → ∀ j, j < 12 → (VA j).ownBlock ≠ some g)
    (hg : w.grownBy w' v.ownBlock) (hrow : w'.ownsRow base 72 3 v' (ps.length + 1) (ps.flatMap (phC0 VA) ++ [.int .i64 p.reg, .int .i64 p.id, va])) : PhisAt w' base v' (upd VA p.reg va) (upd AR p.reg p.args) (ps ++ [p]) := by
  have hty : ∀ q' cs t, v.ownBlock = some q' → w.heap[q']? = some (.cells cs t (0, 0)) → t = 72 := fun q' cs t e hh => own_type h.row e hh
  refine ⟨?_, ?_, fun q hq => ?_⟩
  · have e : (ps ++ [p]).flatMap (phC0 (upd VA p.reg va)) = ps.flatMap (phC0 VA) ++ [.int .i64 p.reg, .int .i64 p.id, va] := by
      rw [List.flatMap_append, flat_congr (g := phC0 VA) (fun q hq => by unfold phC0; rw [upd_other _ (hn q hq)])]
      simp [phC0, upd_same]
    rw [e, List.length_append]
    exact hrow
  · refine ((h.args.put hp ha (fun g hg j hj _ => hap g hg j hj)).keptT hg (fun q cs e hh => absurd (hty q cs _ e hh) (by decide))).congr (fun i _ => ⟨rfl, ?_, ?_⟩)
    · by_cases e : i = p.reg
      · subst e; simp [upd_same]
      · simp [upd_other _ e]
    · by_cases e : i = p.reg
      · subst e; simp [upd_same]
      · simp [upd_other _ e]
  · rcases List.mem_append.1 hq with hq | hq
    · obtain ⟨h1, h2⟩ := h.fit q hq
      exact ⟨h1, by rw [upd_other _ (hn q hq)]; exact h2⟩
    · obtain rfl : q = p := by simpa using hq
      exact ⟨hp, upd_same _ _ _⟩
end Go.Proofs.YtldbmdgpdolaaaaGreatDoor
