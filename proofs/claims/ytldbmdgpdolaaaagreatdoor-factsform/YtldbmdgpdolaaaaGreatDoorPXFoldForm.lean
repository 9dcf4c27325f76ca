import Derived.Test.YtldbmdgpdolaaaaGreatDoorPXFoldFacts
namespace Go.Proofs.YtldbmdgpdolaaaaGreatDoor
open Go Go.RowKit

theorem met_first {f : Fn} {S : List Nat} {T : Nat → Nat} {pn : Nat} {g : List (Int × Int)} {D : PDat} {ar : Nat → List Int} {F : Facts} {G : Ways} (hi : (fcOf f S T pn g D ar).know.Inv F G) : metB G (prevs f S T 0) 0 = true :=
  (FC.met_iff (c := fcOf f S T pn g D ar)).2 ⟨-1, (prevs_mem _).2 (Or.inl ⟨rfl, rfl⟩), hi.start⟩
theorem num_known {a : FV} (h : a.kind ≠ 1) : a.num = 0 := by
  cases a with
  | never => rfl
  | known z => exact absurd rfl h
  | many => rfl
theorem ins_fact {c : FC} {F : Facts} {G : Ways} (hi : c.know.Inv F G) (hk : c.know.Closed F G) {b : Nat} (hb : b < c.n) {x : InsD} (hx : x ∈ c.IN b) (hne : x.id ≠ -1) : F x.id.toNat = if metB G (c.PV b) b = true then madeF x (rdF F x.a) (rdF F x.b) else .never := by
  have hs : c.know.site (insS b x) := ⟨b, hb, Or.inr ⟨x, hx, hne, rfl⟩⟩
  by_cases hm : metB G (c.PV b) b = true
  · rw [if_pos hm]
    have h1 : (madeF x (rdF F x.a) (rdF F x.b)).le (F x.id.toNat) := hk.site _ hs (FC.met_iff.1 hm)
    by_cases hn : F x.id.toNat = .never
    · rw [hn] at h1 ⊢
      exact (FV.le_never h1).symm
    · exact FV.le_antisymm (hi.asc _ hs hn).2 h1
  · rw [if_neg hm]
    by_cases hn : F x.id.toNat = .never
    · exact hn
    · exact absurd (FC.met_iff.2 (hi.asc _ hs hn).1) hm
theorem set_fact {c : FC} {F : Facts} {G : Ways} (hi : c.know.Inv F G) (hk : c.know.Closed F G) {b : Nat} (hb : b < c.n) {x : InsD} (hx : x ∈ c.IN b) (hne : x.id ≠ -1) (ho : x.op = 1) (ha : x.a = -1) (hbb : x.b = -1) : F x.id.toNat = if metB G (c.PV b) b = true then .known x.imm else .never := by
  rw [ins_fact hi hk hb hx hne, ha, hbb]
  have e : rdF F (-1) = .known 0 := if_pos rfl
  rw [e]
  have e2 : madeF x (.known 0) (.known 0) = .known x.imm := by
    unfold madeF
    rw [if_neg (by rw [ho]; simp), if_neg (by rw [ho]; simp), ho]
    rfl
  rw [e2]
end Go.Proofs.YtldbmdgpdolaaaaGreatDoor
