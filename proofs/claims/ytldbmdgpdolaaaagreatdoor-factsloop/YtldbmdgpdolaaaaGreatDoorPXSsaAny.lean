import Derived.Test.YtldbmdgpdolaaaaGreatDoorPXSsaFrom
import Derived.Test.YtldbmdgpdolaaaaGreatDoorPXSsaRow
import Derived.Test.YtldbmdgpdolaaaaGreatDoorPXSsaMath
namespace Go.Proofs.YtldbmdgpdolaaaaGreatDoor
open Go Go.RowKit

theorem fromS_any {P : List Fn} {f : Fn} {S : List Nat} {T : Nat → Nat} {L : List Int} {pv cv bv lv : Value} {b : Nat} {l : List Int} (hf : FromR f S T L b l) : ∀ (w : World), SsaFn w P f S T L pv cv bv lv → TabOk w → b < S.length →
    Calls Tryz.prog 51 #[.agg (fnV f pv cv bv lv), .int .i64 b] w fun e w' => e = .returned (.agg (i64s l).toArray) ∧ Below w.heap.size w w' := by
  induction hf with
  | joins h => exact fun w hs _ hb => fromS_joins w hs _ hb h
  | first h => exact fun w hs _ hb => fromS_one w hs _ hb (-1) h _ (parR_len _) (fun W _ => behindS_start f pv cv bv lv W)
  | @one b j l h hf ih =>
    intro w hs ht hb
    have hj : j < S.length := by
      have hm : ((j : Nat) : Int) ∈ prevs f S T b := by rw [h]; simp
      rcases (prevs_mem _).1 hm with ⟨-, e⟩ | ⟨j', hj', e, -⟩
      · omega
      · have : j = j' := by omega
        rw [this]; exact hj'
    exact fromS_one w hs b hb _ h _ (by rw [onR_len]; exact hf.len) (fun W hW => behindS_one W (hs.below hW) (ht.below hW) j hj l hf.len (fun W' hW' => ih W' ((hs.below hW).below hW') ((ht.below hW).below hW') hj))
theorem fromS_all {P : List Fn} {f : Fn} {S : List Nat} {T : Nat → Nat} {L : List Int} {pv cv bv lv : Value} (w : World) (h : SsaFn w P f S T L pv cv bv lv) (ht : TabOk w) (b : Nat) (hb : b < S.length) :
    Calls Tryz.prog 51 #[.agg (fnV f pv cv bv lv), .int .i64 b] w fun e w' => e = .returned (.agg (i64s (fromR f S T L b)).toArray) ∧ Below w.heap.size w w' := fromS_any (fromR_is h.flow h.ok L hb) w h ht hb
theorem behindS_all {P : List Fn} {f : Fn} {S : List Nat} {T : Nat → Nat} {L : List Int} {pv cv bv lv : Value} (w : World) (h : SsaFn w P f S T L pv cv bv lv) (ht : TabOk w) (b : Nat) (z : Int) (hz : z ∈ prevs f S T b) :
    Calls Tryz.prog 82 #[.agg (fnV f pv cv bv lv), .int .i64 z] w fun e w' => e = .returned (.agg (i64s (behR f S T L z)).toArray) ∧ Below w.heap.size w w' := by
  rcases (prevs_mem z).1 hz with ⟨-, rfl⟩ | ⟨j, hj, rfl, -⟩
  · unfold behR; rw [if_pos rfl]; exact behindS_start f pv cv bv lv w
  · unfold behR
    rw [if_neg (by omega), Int.toNat_natCast]
    exact behindS_one w h ht j hj _ (fromR_is h.flow h.ok L hj).len (fun W hW => fromS_all W (h.below hW) (ht.below hW) j hj)
end Go.Proofs.YtldbmdgpdolaaaaGreatDoor
namespace Go.Proofs.YtldbmdgpdolaaaaGreatDoor
open Go Go.RowKit

noncomputable def phi1 (f : Fn) (S : List Nat) (T : Nat → Nat) (L : List Int) (b r : Nat) : PhiD := ⟨r, (fromR f S T L b).getD r 0, (prevs f S T b).map fun z => (behR f S T L z).getD r 0⟩
noncomputable def phiTo (f : Fn) (S : List Nat) (T : Nat → Nat) (L : List Int) (b : Nat) : Nat → List PhiD
  | 0 => []
  | r + 1 => phiTo f S T L b r ++ (if (fromR f S T L b).getD r 0 = -1 then [] else [phi1 f S T L b r])
noncomputable def phiM (f : Fn) (S : List Nat) (T : Nat → Nat) (L : List Int) (b : Nat) : List PhiD := if 1 < (prevs f S T b).length then phiTo f S T L b 12 else []
theorem phiTo_len (f : Fn) (S : List Nat) (T : Nat → Nat) (L : List Int) (b : Nat) : ∀ r, (phiTo f S T L b r).length ≤ r
  | 0 => Nat.le_refl _
  | r + 1 => by
    have := phiTo_len f S T L b r
    rw [phiTo, List.length_append]
    split <;> simp <;> omega
theorem phiTo_mem {f : Fn} {S : List Nat} {T : Nat → Nat} {L : List Int} {b : Nat} {p : PhiD} : ∀ {r : Nat}, p ∈ phiTo f S T L b r ↔ ∃ q, q < r ∧ (fromR f S T L b).getD q 0 ≠ -1 ∧ p = phi1 f S T L b q
  | 0 => by simp [phiTo]
  | r + 1 => by
    rw [phiTo, List.mem_append, phiTo_mem]
    constructor
    · rintro (⟨q, h1, h2, h3⟩ | h)
      · exact ⟨q, by omega, h2, h3⟩
      · split at h
        · cases h
        · rename_i h2
          exact ⟨r, by omega, h2, by simpa using h⟩
    · rintro ⟨q, h1, h2, h3⟩
      by_cases e : q = r
      · subst e; right; rw [if_neg h2, h3]; exact List.mem_cons_self
      · exact Or.inl ⟨q, by omega, h2, h3⟩
theorem phiTo_regs (f : Fn) (S : List Nat) (T : Nat → Nat) (L : List Int) (b : Nat) : ∀ r, (phiTo f S T L b r).Pairwise (fun p q => p.reg ≠ q.reg)
  | 0 => List.Pairwise.nil
  | r + 1 => by
    rw [phiTo, List.pairwise_append]
    refine ⟨phiTo_regs f S T L b r, ?_, fun p hp q hq => ?_⟩
    · split <;> simp
    · obtain ⟨x, hx, -, rfl⟩ := phiTo_mem.1 hp
      split at hq
      · cases hq
      · have : q = phi1 f S T L b r := by simpa using hq
        rw [this]
        show x ≠ r
        omega
def phC0 (VA : Nat → Value) (p : PhiD) : List Value := [.int .i64 p.reg, .int .i64 p.id, VA p.reg]
structure PhisAt (w : World) (base : Nat) (v : Value) (VA : Nat → Value) (AR : Nat → List Int) (ps : List PhiD) : Prop where
  row : w.ownsRow base 72 3 v ps.length (ps.flatMap (phC0 VA))
  args : SlotsT w base 3 1 12 VA (fun r => (AR r).length) (fun r => i64s (AR r))
  fit : ∀ p ∈ ps, p.reg < 12 ∧ AR p.reg = p.args
theorem PhisAt.nil (w : World) (base : Nat) : PhisAt w base (.slice none 0 0) (fun _ => .slice none 0 0) (fun _ => []) [] :=
  ⟨World.ownsRow_nil _ _ _ _, SlotsT.nils _ _ _ _ _, fun p hp => by cases hp⟩
theorem PhisAt.below {w w' : World} {base : Nat} {v : Value} {VA : Nat → Value} {AR : Nat → List Int} {ps : List PhiD} (h : PhisAt w base v VA AR ps) (hb : Below w.heap.size w w') : PhisAt w' base v VA AR ps := ⟨ownsRow_below h.row hb, h.args.below hb, h.fit⟩
theorem PhisAt.mono {w : World} {base base' : Nat} {v : Value} {VA : Nat → Value} {AR : Nat → List Int} {ps : List PhiD} (h : PhisAt w base v VA AR ps) (hb : base' ≤ base) : PhisAt w base' v VA AR ps := ⟨ownsRow_monoR h.row hb, h.args.mono hb, h.fit⟩
theorem PhisAt.add {w w' : World} {base : Nat} {v v' va : Value} {VA : Nat → Value} {AR : Nat → List Int} {ps : List PhiD} {p : PhiD} (h : PhisAt w base v VA AR ps) (hp : p.reg < 12) (hn : ∀ q ∈ ps, q.reg ≠ p.reg) (ha : w.ownsRow base 3 1 va p.args.length (i64s p.args)) (hap : ∀ g, va.ownBlock = some g → ∀ j, j < 12 → (VA j).ownBlock ≠ some g)
    (hg : w.grownBy w' v.ownBlock) (hrow : w'.ownsRow base 72 3 v' (ps.length + 1) (ps.flatMap (phC0 VA) ++ [.int .i64 p.reg, .int .i64 p.id, va])) : PhisAt w' base v' (upd VA p.reg va) (upd AR p.reg p.args) (ps ++ [p]) := by
  have hty : ∀ q' cs t, v.ownBlock = some q' → w.heap[q']? = some (.cells cs t (0, 0)) → t = 72 := fun q' cs t e hh => own_type h.row e hh
  refine ⟨?_, ?_, fun q hq => ?_⟩
  · have e : (ps ++ [p]).flatMap (phC0 (upd VA p.reg va)) = ps.flatMap (phC0 VA) ++ [.int .i64 p.reg, .int .i64 p.id, va] := by
      rw [List.flatMap_append, flat_congr (g := phC0 VA) (fun q hq => by unfold phC0; rw [upd_other _ (hn q hq)])]
      simp [phC0, upd_same]
    rw [e, List.length_append]
    exact hrow
  · refine ((h.args.put hp ha (fun g hg j hj _ => hap g hg j hj)).keptT hg (fun q cs e hh => absurd (hty q cs _ e hh) (by decide))).congr (fun i _ => ⟨rfl, ?_, ?_⟩)
    · by_cases e : i = p.reg
      · subst e; simp [upd_same]
      · simp [upd_other _ e]
    · by_cases e : i = p.reg
      · subst e; simp [upd_same]
      · simp [upd_other _ e]
  · rcases List.mem_append.1 hq with hq | hq
    · obtain ⟨h1, h2⟩ := h.fit q hq
      exact ⟨h1, by rw [upd_other _ (hn q hq)]; exact h2⟩
    · obtain rfl : q = p := by simpa using hq
      exact ⟨hp, upd_same _ _ _⟩
end Go.Proofs.YtldbmdgpdolaaaaGreatDoor
namespace Go.Proofs.YtldbmdgpdolaaaaGreatDoor
open Go Go.RowKit

theorem run_index_regs (l : List Int) (hl : l.length = 12) (k : Nat) (hk : k < 12) (w : World) : (Instr.index 95 (.agg (i64s l).toArray) (.int .i64 (k : Int))).run Tryz.prog w = .ok (.int .i64 (l.getD k 0)) w := by
  have hn : (0 : Int) ≤ (k : Int) ∧ (k : Int) < ((12 : Nat) : Int) := by omega
  have hg : (i64s l)[k]? = some (.int .i64 (l[k]'(by omega))) := by simp [i64s, hl, hk]
  simp [Instr.index, run_underlying Tryz.underlying95, asIntOf, hn, go_sem, hl, hk, hg, List.getD]
end Go.Proofs.YtldbmdgpdolaaaaGreatDoor
