import Derived.Test.YtldbmdgpdolaaaaGreatDoorPXSsaBuild
import Derived.Test.YtldbmdgpdolaaaaGreatDoorPXFoldLearn
namespace Go.Proofs.YtldbmdgpdolaaaaGreatDoor
open Go Go.RowKit

theorem newI_at {g : List (Int × Int)} {A rest : List Int} {z : Int} (hz : z ≠ -1) (hg : ∀ q ∈ g, q.1 ≠ z) (hn : (A ++ z :: rest).Nodup) : newI g (A ++ z :: rest) z = (A.length : Int) := by
  have hnm : z ∉ A := fun h => by
    rw [List.nodup_append] at hn
    exact hn.2.2 z h z (by simp) rfl
  unfold newI
  rw [if_neg hz, stG_free hg, if_pos (by simp), List.idxOf_append, if_neg hnm, List.idxOf_cons_self]
  simp
theorem SsaIs.phiOrd {P : List Fn} {f : Fn} {S : List Nat} {T : Nat → Nat} {L : List Int} {pn : Nat} {g : List (Int × Int)} {D : PDat} (h : SsaIs P f S T L pn g D) (ok : FlowOk P f) (hU : ∀ q, q < f.code.length → Way f 63 q → ∀ r, r < 12 → (rdMask P (insD f q)).testBit r = true → ¬ Way f r q) {b : Nat} (hb : b < S.length) {j : Nat} (hj : j < (D.ph b).length) :
    newI g (idsD pn S.length D) (D.ph b)[j].id = (((idsTo pn D.ph D.ins b).length + j : Nat) : Int) ∧ (D.ph b)[j].args.length = (prevs f S T b).length := by
  have hpf := phiFit_all ok hU h.ok h.live
  have hsv := SInv.settle (fun p hp a ha => ((hpf p hp).2 a ha).2) h.settle (SInv.new (phi_ids ok h.ok h.live))
  have hpn : pn ≤ 12 := by have := ok.ok.p2; rw [h.par] at this; omega
  obtain ⟨hnd, -⟩ := ids_ok ok h.ok h.live h.left hpn S.length (Nat.le_refl _)
  have hm : (D.ph b)[j] ∈ D.ph b := List.getElem_mem hj
  obtain ⟨r, hr, -, e, -, hid, -⟩ := phi_form ok h.ok h.live hb ((h.left.ph b hb).subset hm)
  obtain ⟨rest, hrest⟩ := idsTo_phi (params := pn) (IN := D.ins) hb hj
  constructor
  · have hg := (hsv.1.sub _ (List.mem_flatten.2 ⟨_, List.mem_map.2 ⟨b, List.mem_range.2 hb, rfl⟩, hm⟩)).2
    unfold idsD
    rw [hrest] at hnd ⊢
    rw [newI_at (by rw [hid]; unfold phiI; omega) hg hnd]
    rw [List.length_append, List.length_map, List.length_take, Nat.min_eq_left (Nat.le_of_lt hj)]
  · rw [e]
    show (List.map _ _).length = _
    rw [List.length_map]
theorem SsaIs.insOrd {P : List Fn} {f : Fn} {S : List Nat} {T : Nat → Nat} {L : List Int} {pn : Nat} {g : List (Int × Int)} {D : PDat} (h : SsaIs P f S T L pn g D) (ok : FlowOk P f) (hU : ∀ q, q < f.code.length → Way f 63 q → ∀ r, r < 12 → (rdMask P (insD f q)).testBit r = true → ¬ Way f r q) {b : Nat} (hb : b < S.length) {j : Nat} (hj : j < (D.ins b).length) :
    (((D.ins b)[j].id = -1 ∧ insTo (D.ins b) (j + 1) = insTo (D.ins b) j) ∨ (newI g (idsD pn S.length D) (D.ins b)[j].id = (((idsTo pn D.ph D.ins b).length + (D.ph b).length + (insTo (D.ins b) j).length : Nat) : Int) ∧ (insTo (D.ins b) (j + 1)).length = (insTo (D.ins b) j).length + 1)) := by
  by_cases hne : (D.ins b)[j].id = -1
  · left
    refine ⟨hne, ?_⟩
    rw [insTo_step hj, if_neg (by simp [hne])]; simp
  · right
    have hpf := phiFit_all ok hU h.ok h.live
    have hsv := SInv.settle (fun p hp a ha => ((hpf p hp).2 a ha).2) h.settle (SInv.new (phi_ids ok h.ok h.live))
    have hpn : pn ≤ 12 := by have := ok.ok.p2; rw [h.par] at this; omega
    obtain ⟨hnd, -⟩ := ids_ok ok h.ok h.live h.left hpn S.length (Nat.le_refl _)
    obtain ⟨rest, hrest⟩ := idsTo_ins (params := pn) (PH := D.ph) hb hj hne
    have hle := (h.ok.ends b hb).le
    have hid : ∃ pc : Nat, pc < 40 ∧ (D.ins b)[j].id = madeI pc := by
      have e : (D.ins b)[j] = insM P f (S.getD b 0 + j) (onR f (S.getD b 0) j (fromR f S T L b)) := by
        simp only [h.left.ins b hb]; simp [insL]
      have hl : (D.ins b).length = T b - S.getD b 0 := by rw [h.left.ins b hb, insL_len]
      rw [e, insM_id] at hne ⊢
      split at hne
      · rename_i hs
        exact ⟨S.getD b 0 + j, by have := ok.ok.len2; omega, by rw [if_pos hs]⟩
      · exact absurd rfl hne
    obtain ⟨pc, hpc, hid⟩ := hid
    have hg : ∀ q ∈ g, q.1 ≠ (D.ins b)[j].id := fun q hq e => by
      obtain ⟨p, hp, e2, -⟩ := hsv.1.went q hq
      obtain ⟨l, hl, hpl⟩ := List.mem_flatten.1 hp
      obtain ⟨b', hb', rfl⟩ := List.mem_map.1 hl
      obtain ⟨r, hr, -, -, -, e3, -⟩ := phi_form ok h.ok h.live (List.mem_range.1 hb') hpl
      rw [← e2, e3, hid] at e
      unfold phiI madeI at e
      omega
    constructor
    · unfold idsD
      rw [hrest] at hnd ⊢
      rw [newI_at hne hg hnd]
      simp only [List.length_append, List.length_map]
    · rw [insTo_step hj, if_pos hne]; simp
theorem idsTo_succ_len (pn : Nat) (PH : Nat → List PhiD) (IN : Nat → List InsD) (b : Nat) : (idsTo pn PH IN (b + 1)).length = (idsTo pn PH IN b).length + (PH b).length + (insTo (IN b) (IN b).length).length := by
  rw [idsTo, List.length_append, idsP, List.length_append, List.length_map]
  unfold insTo
  rw [List.take_length]
  omega
end Go.Proofs.YtldbmdgpdolaaaaGreatDoor
namespace Go.Proofs.YtldbmdgpdolaaaaGreatDoor
open Go Go.RowKit

def fcOf (f : Fn) (S : List Nat) (T : Nat → Nat) (pn : Nat) (g : List (Int × Int)) (D : PDat) (ar : Nat → List Int) : FC where
  n := S.length
  VN := (idsD pn S.length D).length
  par := pn
  PV := prevs f S T
  NX := fun b => nxI f S (T b)
  PH := (finD pn S.length g D ar).ph
  IN := (finD pn S.length g D ar).ins
  I1 := fun b => rank S (T b)
  I2 := fun b => rank S ((((finD pn S.length g D ar).ins b).getD (((finD pn S.length g D ar).ins b).length - 1) noIns).imm.toNat)
theorem ints_range {w W : World} {v : Value} {l : List Int} {base : Nat} (h : OwnI w base v l) (hW : Below w.heap.size w W) : IntsVal W v l := (ints_of_own h).keeps (keeps_below hW)
theorem fcMem_of {f : Fn} {S : List Nat} {T : Nat → Nat} {pn : Nat} {g : List (Int × Int)} {D : PDat} {ar : Nat → List Int} {w : World} {base gp bB gB : Nat} {Ly : PLay} {VV : Nat → Value} {LL : Nat → List Int}
    (hp : PartsAt w base gp S.length (finD pn S.length g D ar) Ly) (hb : BlocksAt w bB gB f S T VV LL) (hG : KnowG w) (h0 : ∀ b, b < S.length → 0 < ((finD pn S.length g D ar).ins b).length)
    (hi1 : ∀ b, b < S.length → ((fcOf f S T pn g D ar).last b).op = 16 → ((S.getD (rank S (T b)) 0 : Nat) : Int) = ((T b : Nat) : Int) ∧ ∀ j, j < rank S (T b) → ((S.getD j 0 : Nat) : Int) ≠ ((T b : Nat) : Int))
    (hi2 : ∀ b, b < S.length → ((fcOf f S T pn g D ar).last b).op = 16 → ((S.getD ((fcOf f S T pn g D ar).I2 b) 0 : Nat) : Int) = ((fcOf f S T pn g D ar).last b).imm ∧ ∀ j, j < (fcOf f S T pn g D ar).I2 b → ((S.getD j 0 : Nat) : Int) ≠ ((fcOf f S T pn g D ar).last b).imm) :
    FcMem (fcOf f S T pn g D ar) gp gB (fun i => ((S.getD i 0 : Nat) : Int)) (fun i => ((T i : Nat) : Int)) VV w := by
  refine ⟨fun b hbn => ?_, fun W hW => ⟨ownsRow_below hb.row hW, hG.below hW, fun b hbn => ?_⟩, hi1, hi2⟩
  · have hbn : b < S.length := hbn
    obtain ⟨ao, q, c, e, hc, hq, hj⟩ := hp.phs hbn
    obtain ⟨ao2, q2, c2, e2, hc2, hq2, hj2⟩ := hp.inss hbn
    refine ⟨pC (finD pn S.length g D ar) Ly b, ao, q, c, ao2, q2, c2, fun j => Ly.va (12 * b + (((finD pn S.length g D ar).ph b).getD j noPhi).reg), pC_len hp b hbn, ?_, ?_, ?_, hq, hq2 (h0 b hbn), hc, hc2, fun W hW => ⟨?_, ?_, ?_, ?_⟩⟩
    · simp only [pC, partC, List.all_toArray, List.all_append, e, e2]
      simp [Value.oneCell', i64s]
    · show some (Ly.vp b) = _
      rw [e]; rfl
    · show some (Ly.vi b) = _
      rw [e2]; rfl
    · intro j u hu
      have hj15 : j < 15 := by rw [← pC_len hp b hbn]; exact (List.getElem?_eq_some_iff.1 hu).1
      rw [(hp.below hW).cell hbn hj15]; exact hu
    · rw [(hp.below hW).cellI hbn, e2]; rfl
    · intro j hjl
      have hjl : j < ((finD pn S.length g D ar).ph b).length := hjl
      have h1 := (hj W hW j hjl).2.2.2
      have eg : ((fcOf f S T pn g D ar).PH b).getD j noPhi = ((finD pn S.length g D ar).ph b)[j] := by
        show ((finD pn S.length g D ar).ph b).getD j noPhi = _
        rw [List.getD, List.getElem?_eq_getElem hjl]; rfl
      have eg2 : ((finD pn S.length g D ar).ph b).getD j noPhi = ((finD pn S.length g D ar).ph b)[j] := eg
      rw [eg]
      simp only [eg2]
      refine ⟨h1, ?_⟩
      obtain ⟨hr, har⟩ := hp.fit b hbn _ (List.getElem_mem hjl)
      have h2 := hp.args.own (12 * b + ((finD pn S.length g D ar).ph b)[j].reg) (by omega)
      simp only [har] at h2
      exact ints_range h2 hW
    · intro j hjl
      have hjl : j < ((finD pn S.length g D ar).ins b).length := hjl
      have eg : ((fcOf f S T pn g D ar).IN b).getD j noIns = ((finD pn S.length g D ar).ins b)[j] := by
        show ((finD pn S.length g D ar).ins b).getD j noIns = _
        rw [List.getD, List.getElem?_eq_getElem hjl]; rfl
      rw [eg]; exact hj2 W hW j hjl
  · have hbn : b < S.length := hbn
    obtain ⟨l1, l2⟩ := hb.led b hbn
    have s1 := hb.slots.own (2 * b) (by omega)
    have s2 := hb.slots.own (2 * b + 1) (by omega)
    rw [l1, if_pos hbn] at s1
    rw [l2] at s2
    exact ⟨ints_range s1 hW, ints_range s2 hW⟩
end Go.Proofs.YtldbmdgpdolaaaaGreatDoor
