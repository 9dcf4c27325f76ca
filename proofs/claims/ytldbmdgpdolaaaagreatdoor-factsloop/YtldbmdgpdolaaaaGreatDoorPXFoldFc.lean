import Derived.Test.YtldbmdgpdolaaaaGreatDoorPXFoldLearn
import Derived.Test.YtldbmdgpdolaaaaGreatDoorPXSsaFact
namespace Go.Proofs.YtldbmdgpdolaaaaGreatDoor
open Go Go.RowKit

def fcOf (f : Fn) (S : List Nat) (T : Nat → Nat) (pn : Nat) (g : List (Int × Int)) (D : PDat) (ar : Nat → List Int) : FC where
  n := S.length
  VN := (idsD pn S.length D).length
  par := pn
  PV := prevs f S T
  NX := fun b => nxI f S (T b)
  PH := (finD pn S.length g D ar).ph
  IN := (finD pn S.length g D ar).ins
  I1 := fun b => rank S (T b)
  I2 := fun b => rank S ((((finD pn S.length g D ar).ins b).getD (((finD pn S.length g D ar).ins b).length - 1) noIns).imm.toNat)
theorem ints_range {w W : World} {v : Value} {l : List Int} {base : Nat} (h : OwnI w base v l) (hW : Below w.heap.size w W) : IntsVal W v l := (ints_of_own h).keeps (keeps_below hW)
theorem fcMem_of {f : Fn} {S : List Nat} {T : Nat → Nat} {pn : Nat} {g : List (Int × Int)} {D : PDat} {ar : Nat → List Int} {w : World} {base gp bB gB : Nat} {Ly : PLay} {VV : Nat → Value} {LL : Nat → List Int}
    (hp : PartsAt w base gp S.length (finD pn S.length g D ar) Ly) (hb : BlocksAt w bB gB f S T VV LL) (hG : KnowG w) (h0 : ∀ b, b < S.length → 0 < ((finD pn S.length g D ar).ins b).length)
    (hi1 : ∀ b, b < S.length → ((fcOf f S T pn g D ar).last b).op = 16 → ((S.getD (rank S (T b)) 0 : Nat) : Int) = ((T b : Nat) : Int) ∧ ∀ j, j < rank S (T b) → ((S.getD j 0 : Nat) : Int) ≠ ((T b : Nat) : Int))
    (hi2 : ∀ b, b < S.length → ((fcOf f S T pn g D ar).last b).op = 16 → ((S.getD ((fcOf f S T pn g D ar).I2 b) 0 : Nat) : Int) = ((fcOf f S T pn g D ar).last b).imm ∧ ∀ j, j < (fcOf f S T pn g D ar).I2 b → ((S.getD j 0 : Nat) : Int) ≠ ((fcOf f S T pn g D ar).last b).imm) :
    FcMem (fcOf f S T pn g D ar) gp gB (fun i => ((S.getD i 0 : Nat) : Int)) (fun i => ((T i : Nat) : Int)) VV w := by
  refine ⟨fun b hbn => ?_, fun W hW => ⟨ownsRow_below hb.row hW, hG.below hW, fun b hbn => ?_⟩, hi1, hi2⟩
  · have hbn : b < S.length := hbn
    obtain ⟨ao, q, c, e, hc, hq, hj⟩ := hp.phs hbn
    obtain ⟨ao2, q2, c2, e2, hc2, hq2, hj2⟩ := hp.inss hbn
    refine ⟨pC (finD pn S.length g D ar) Ly b, ao, q, c, ao2, q2, c2, fun j => Ly.va (12 * b + (((finD pn S.length g D ar).ph b).getD j noPhi).reg), pC_len hp b hbn, ?_, ?_, ?_, hq, hq2 (h0 b hbn), hc, hc2, fun W hW => ⟨?_, ?_, ?_, ?_⟩⟩
    · simp only [pC, partC, List.all_toArray, List.all_append, e, e2]
      simp [Value.oneCell', i64s]
    · show some (Ly.vp b) = _
      rw [e]; rfl
    · show some (Ly.vi b) = _
      rw [e2]; rfl
    · intro j u hu
      have hj15 : j < 15 := by rw [← pC_len hp b hbn]; exact (List.getElem?_eq_some_iff.1 hu).1
      rw [(hp.below hW).cell hbn hj15]; exact hu
    · rw [(hp.below hW).cellI hbn, e2]; rfl
    · intro j hjl
      have hjl : j < ((finD pn S.length g D ar).ph b).length := hjl
      have h1 := (hj W hW j hjl).2.2.2
      have eg : ((fcOf f S T pn g D ar).PH b).getD j noPhi = ((finD pn S.length g D ar).ph b)[j] := by
        show ((finD pn S.length g D ar).ph b).getD j noPhi = _
        rw [List.getD, List.getElem?_eq_getElem hjl]; rfl
      have eg2 : ((finD pn S.length g D ar).ph b).getD j noPhi = ((finD pn S.length g D ar).ph b)[j] := eg
      rw [eg]
      simp only [eg2]
      refine ⟨h1, ?_⟩
      obtain ⟨hr, har⟩ := hp.fit b hbn _ (List.getElem_mem hjl)
      have h2 := hp.args.own (12 * b + ((finD pn S.length g D ar).ph b)[j].reg) (by omega)
      simp only [har] at h2
      exact ints_range h2 hW
    · intro j hjl
      have hjl : j < ((finD pn S.length g D ar).ins b).length := hjl
      have eg : ((fcOf f S T pn g D ar).IN b).getD j noIns = ((finD pn S.length g D ar).ins b)[j] := by
        show ((finD pn S.length g D ar).ins b).getD j noIns = _
        rw [List.getD, List.getElem?_eq_getElem hjl]; rfl
      rw [eg]; exact hj2 W hW j hjl
  · have hbn : b < S.length := hbn
    obtain ⟨l1, l2⟩ := hb.led b hbn
    have s1 := hb.slots.own (2 * b) (by omega)
    have s2 := hb.slots.own (2 * b + 1) (by omega)
    rw [l1, if_pos hbn] at s1
    rw [l2] at s2
    exact ⟨ints_range s1 hW, ints_range s2 hW⟩
end Go.Proofs.YtldbmdgpdolaaaaGreatDoor
