import Derived.Test.YtldbmdgpdolaaaaGreatDoorPGroupF
import Derived.Test.YtldbmdgpdolaaaaGreatDoorPGroupB
import Derived.Test.YtldbmdgpdolaaaaGreatDoorPGroupC
namespace Go.Proofs.YtldbmdgpdolaaaaGreatDoor
open Go Go.RowKit

theorem out_ex (f : Fn) (q : Nat) : ∀ r, r ≤ 12 → ∃ v, OutOk f r q v := by
  intro r
  induction r with
  | zero =>
    intro _
    by_cases h : Way f 63 q
    · exact ⟨0, out_zero_yes h⟩
    · exact ⟨-1, out_zero_no h⟩
  | succ r ih =>
    intro hr
    obtain ⟨v, hv⟩ := ih (by omega)
    by_cases h : Way f 63 q
    · by_cases h2 : Way f r q
      · exact ⟨v, out_same hv (fun _ => h2)⟩
      · exact ⟨_, (out_add hv (by omega) h h2).1⟩
    · exact ⟨v, out_same hv (fun h3 => absurd h3 h)⟩
theorem sure_ex (f : Fn) : ∃ L, SureSpec f L := by
  have h : ∀ q, ∃ v, OutOk f 12 q v := fun q => out_ex f q 12 (Nat.le_refl _)
  refine ⟨(List.range (f.code.length + 1)).map fun q => Classical.choose (h q), spec_of_out (by simp) fun q hq => ?_⟩
  have e : ((List.range (f.code.length + 1)).map fun q => Classical.choose (h q)).getD q 0 = Classical.choose (h q) := by simp [List.getD, hq]
  rw [e]
  exact Classical.choose_spec (h q)
theorem ans_nought {P : List Fn} (h : codeProg P = 0) (hz : ∀ f ∈ P, ∀ L, SureSpec f L → proveE P f L = 0) : ProofAns P 0 := by
  refine Or.inr ⟨h, ?_⟩
  have : ∀ fs : List Fn, (∀ f ∈ fs, f ∈ P) → ChecksTo P fs 0 := by
    intro fs
    induction fs with
    | nil => intro _; rfl
    | cons f fs ih =>
      intro hf
      obtain ⟨L, hL⟩ := sure_ex f
      exact ⟨0, ⟨L, hL, (hz f (hf f (by simp)) L hL).symm⟩, Or.inr ⟨rfl, ih (fun g hg => hf g (by simp [hg]))⟩⟩
  exact this P (fun f hf => hf)
theorem progIs_ans {l P : List Fn} (h : ProgIs l P) : ProofAns P 0 := by
  rcases h with ⟨h1, rfl⟩ | ⟨_, rfl⟩
  · exact h1
  · exact ans_nought (full_ok l) (fun f hf L hL => proves_full l hf hL)
theorem pick_some (n : Int) (N : Nat) (h : 1 ≤ N) : ∃ k : Nat, k < N ∧ pickI n N = k := by
  have b := pickI_bounds n N (by omega)
  obtain ⟨k, hk⟩ := Int.eq_ofNat_of_zero_le b.1
  exact ⟨k, by omega, hk⟩
end Go.Proofs.YtldbmdgpdolaaaaGreatDoor
