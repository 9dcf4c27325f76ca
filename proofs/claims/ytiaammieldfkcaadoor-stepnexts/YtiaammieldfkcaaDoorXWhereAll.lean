/- Contracts of trim.reached, trim.where and trim.Where. -/
import Derived.Test.YtiaammieldfkcaaDoorXKeptMath
import Derived.Test.YtiaammieldfkcaaDoorGroupC
namespace Go.Proofs.YtiaammieldfkcaaDoor
open Go Go.RowKit

theorem made_ints (c : Nat) : (madeCells (Value.int .i64 0).cells (c * 1)).toList = i64s (List.replicate c 0) := by
  simp [madeCells, i64s, Value.cells]
  apply List.ext_getElem
  · simp
  · intro i h1 h2
    have : i % 1 = 0 := Nat.mod_one i
    simp [this]
theorem iget_set (s : List Int) (i q : Nat) (v : Int) (hi : i < s.length) : (s.set i v).getD q 0 = if q = i then v else s.getD q 0 := by
  rw [List.getD_eq_getElem?_getD, List.getElem?_set, List.getD_eq_getElem?_getD]
  by_cases h : i = q
  · subst h; simp [hi]
  · simp [h, Ne.symm h]

theorem pcheck_zero (P : List Fn) (h : ProofAns P 0) (v : Value) (w : World) (ht : TabOk w) (hc : CallOk w) (hv : ProgVal w v P) :
    Calls Tryd.prog 38 #[.agg #[v]] w fun e w' => e = .returned (.int .i64 0) ∧ Below w.heap.size w w' :=
  (pcheck_any P v w ht hc hv).mono fun _ _ ⟨_, he, hE, hb⟩ => ⟨by rw [he, proofAns_unique hE h], hb⟩
theorem pcheck_bad (P : List Fn) (h : ¬ ProofAns P 0) (v : Value) (w : World) (ht : TabOk w) (hc : CallOk w) (hv : ProgVal w v P) :
    Calls Tryd.prog 38 #[.agg #[v]] w fun e w' => ∃ E, e = .returned (.int .i64 E) ∧ (E != 0) = true ∧ ProofAns P E ∧ Below w.heap.size w w' :=
  (pcheck_any P v w ht hc hv).mono fun _ _ ⟨E, he, hE, hb⟩ => ⟨E, he, by simp only [bne_iff_ne, ne_eq]; intro h0; exact h (h0 ▸ hE), hE, hb⟩

/-- What a call that answers P5.1 leaves. -/
def WherePost (P : List Fn) (fn : Int) (w : World) (e : Ending) (w' : World) : Prop :=
  ∃ v' E A, e = .returned (.tuple #[v', .int .i64 E]) ∧ WhereAns P fn E A ∧ IntsVal w' v' A ∧ Below w.heap.size w w'

theorem own_row_ints {w : World} {g n : Nat} {l : List Int} (h : w.ownsRow 0 3 1 (.slice (some ⟨g, 0, none⟩) n n) n (i64s l)) (hl : l.length = n) : IntsVal w (.slice (some ⟨g, 0, none⟩) n n) l := by
  rw [← hl] at h ⊢
  exact ints_of_own h

end Go.Proofs.YtiaammieldfkcaaDoor
