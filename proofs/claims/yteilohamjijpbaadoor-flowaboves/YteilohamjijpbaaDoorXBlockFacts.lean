/- What holds of a function's blocks: plain mathematics, and the contract of tierlinekeep.has. -/
import Derived.Test.YteilohamjijpbaaDoorXFlowBlocks
namespace Go.Proofs.YteilohamjijpbaaDoor
open Go Go.RowKit

theorem BlocksAt.below {w w' : World} {base g : Nat} {f : Fn} {S : List Nat} {T : Nat → Nat} {VV : Nat → Value} {LL : Nat → List Int} (h : BlocksAt w base g f S T VV LL) (hb : Below w.heap.size w w') : BlocksAt w' base g f S T VV LL :=
  ⟨h.starts, h.ends, ownsRow_below h.row hb, h.slots.below hb, h.led⟩
/-- The cells of a block. -/
theorem BlocksAt.cells {w : World} {base g : Nat} {f : Fn} {S : List Nat} {T : Nat → Nat} {VV : Nat → Value} {LL : Nat → List Int} (h : BlocksAt w base g f S T VV LL) (i : Nat) (hi : i < S.length) :
    w.cell? ⟨g, i * 4, none⟩ = some (.int .i64 ((S[i] : Nat) : Int)) ∧ w.cell? ⟨g, i * 4 + 1, none⟩ = some (.int .i64 ((T i : Nat) : Int)) ∧ w.cell? ⟨g, i * 4 + 2, none⟩ = some (VV (2 * i)) ∧ w.cell? ⟨g, i * 4 + 3, none⟩ = some (VV (2 * i + 1)) := by
  refine ⟨?_, blk_to h.row i hi, blk_next h.row i hi, blk_prev h.row i hi⟩
  rw [blk_from h.row i hi]
  simp [List.getD, hi]
theorem own_ints {w : World} {base : Nat} {v : Value} {l : List Int} (h : OwnI w base v l) : IntsVal w v l := ints_of_own h
theorem BlocksAt.next {w : World} {base g : Nat} {f : Fn} {S : List Nat} {T : Nat → Nat} {VV : Nat → Value} {LL : Nat → List Int} (h : BlocksAt w base g f S T VV LL) (i : Nat) (hi : i < S.length) : IntsVal w (VV (2 * i)) (nxI f S (T i)) ∧ IntsVal w (VV (2 * i + 1)) (pvI f S T S.length i) := by
  have h1 := own_ints (h.slots.own (2 * i) (by omega))
  have h2 := own_ints (h.slots.own (2 * i + 1) (by omega))
  rw [(h.led i hi).1, if_pos hi] at h1
  rw [(h.led i hi).2] at h2
  exact ⟨h1, h2⟩

theorem starts_len {P : List Fn} {f : Fn} (ok : FlowOk P f) {S : List Nat} (h : Starts f S) : S.length ≤ f.code.length := by
  have hlt : ∀ x ∈ S, x < f.code.length := fun x hx => (h.reach ok hx).2
  have h1 := rank_all hlt
  have h2 : ∀ j, rank S j ≤ j := fun j => by
    induction j with
    | zero => rw [rank_zero]; omega
    | succ j ih => rw [rank_next h.rises]; split <;> omega
  have := h2 f.code.length
  omega
/-- Blocks of a function, told by numbers alone. -/
structure BlkOk (f : Fn) (S : List Nat) (T : Nat → Nat) : Prop where
  starts : Starts f S
  ends : ∀ i (hi : i < S.length), EndAt f S S[i] (T i)
theorem BlocksAt.ok {w : World} {base g : Nat} {f : Fn} {S : List Nat} {T : Nat → Nat} {VV : Nat → Value} {LL : Nat → List Int} (h : BlocksAt w base g f S T VV LL) : BlkOk f S T := ⟨h.starts, h.ends⟩
/-- Blocks lie one behind the other. -/
theorem BlkOk.apart {f : Fn} {S : List Nat} {T : Nat → Nat} (h : BlkOk f S T) {i j : Nat} (hj : j < S.length) (hij : i < j) : T i ≤ S[j] := by
  have hlt := List.pairwise_iff_getElem.1 h.starts.rises i j (by omega) hj hij
  rcases Nat.lt_or_ge S[j] (T i) with h1 | h1
  · exact absurd (List.getElem_mem hj) ((h.ends i (by omega)).goes S[j] hlt h1).2
  · exact h1
/-- A place lies in a block. -/
def InBlk (S : List Nat) (T : Nat → Nat) (pc i : Nat) : Prop := ∃ hi : i < S.length, S[i] ≤ pc ∧ pc < T i
theorem BlkOk.one {f : Fn} {S : List Nat} {T : Nat → Nat} (h : BlkOk f S T) {pc i j : Nat} (h1 : InBlk S T pc i) (h2 : InBlk S T pc j) : i = j := by
  obtain ⟨hi, a1, a2⟩ := h1
  obtain ⟨hj, b1, b2⟩ := h2
  rcases Nat.lt_trichotomy i j with hl | hl | hl
  · have := h.apart hj hl; omega
  · exact hl
  · have := h.apart hi hl; omega
theorem BlkOk.reach {P : List Fn} {f : Fn} (ok : FlowOk P f) {S : List Nat} {T : Nat → Nat} (h : BlkOk f S T) {pc i : Nat} (h1 : InBlk S T pc i) : Way f 63 pc := by
  obtain ⟨hi, a1, a2⟩ := h1
  exact (h.ends i hi).reach ok (h.starts.reach ok (List.getElem_mem hi)).1 pc a1 a2
theorem BlkOk.start {f : Fn} {S : List Nat} {T : Nat → Nat} (h : BlkOk f S T) {q : Nat} (hq : q ∈ S) : InBlk S T q (rank S q) := by
  obtain ⟨h1, h2⟩ := rank_lt h.starts.rises hq
  have h2 := h2 h1
  refine ⟨h1, by omega, ?_⟩
  have := (h.ends _ h1).lt
  omega
/-- Inside a block, ahead of its last place, all ops go on. -/
theorem BlkOk.mid {f : Fn} {S : List Nat} {T : Nat → Nat} (h : BlkOk f S T) {pc i : Nat} (h1 : InBlk S T pc i) (h2 : pc ≠ T i - 1) : (insD f pc).op < 15 := by
  obtain ⟨hi, a1, a2⟩ := h1
  have := ((h.ends i hi).goes (pc + 1) (by omega) (by omega)).1
  rwa [Nat.add_sub_cancel] at this
/-- Each place that is reached lies in a block. -/
theorem BlkOk.cover {P : List Fn} {f : Fn} (ok : FlowOk P f) {S : List Nat} {T : Nat → Nat} (h : BlkOk f S T) {pc : Nat} (hw : Way f 63 pc) : ∃ i, InBlk S T pc i := by
  induction hw with
  | start _ => exact ⟨_, h.start h.starts.zero⟩
  | @step pc q hpc hw _ ht ih =>
    obtain ⟨i, hin⟩ := ih
    by_cases hl : pc = T i - 1
    · obtain ⟨hi, a1, a2⟩ := hin
      refine ⟨_, h.start ((h.ends i hi).leads ok h.starts (h.starts.reach ok (List.getElem_mem hi)).1 (q := q) (by rw [← hl]; exact ht))⟩
    · have hop := h.mid hin hl
      rw [behind_on _ _ hop] at ht
      have : q = pc + 1 := by simpa using ht
      subst this
      obtain ⟨hi, a1, a2⟩ := hin
      exact ⟨i, hi, by omega, by omega⟩

end Go.Proofs.YteilohamjijpbaaDoor
