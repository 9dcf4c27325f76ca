import Derived.Test.YtldbmdgpdolaaaaGreatDoorPXSsaInss
namespace Go.Proofs.YtldbmdgpdolaaaaGreatDoor
open Go Go.RowKit

theorem newI_at {g : List (Int × Int)} {A rest : List Int} {z : Int} (hz : z ≠ -1) (hg : ∀ q ∈ g, q.1 ≠ z) (hn : (A ++ z :: rest).Nodup) : newI g (A ++ z :: rest) z = (A.length : Int) := by
  have hnm : z ∉ A := fun h => by
    rw [List.nodup_append] at hn
    exact hn.2.2 z h z (by simp) rfl
  unfold newI
  rw [if_neg hz, stG_free hg, if_pos (by simp), List.idxOf_append, if_neg hnm, List.idxOf_cons_self]
  simp
theorem SsaIs.phiOrd {P : List Fn} {f : Fn} {S : List Nat} {T : Nat → Nat} {L : List Int} {pn : Nat} {g : List (Int × Int)} {D : PDat} (h : SsaIs P f S T L pn g D) (ok : FlowOk P f) (hU : ∀ q, q < f.code.length → Way f 63 q → ∀ r, r < 12 → (rdMask P (insD f q)).testBit r = true → ¬ Way f r q) {b : Nat} (hb : b < S.length) {j : Nat} (hj : j < (D.ph b).length) :
    newI g (idsD pn S.length D) (D.ph b)[j].id = (((idsTo pn D.ph D.ins b).length + j : Nat) : Int) ∧ (D.ph b)[j].args.length = (prevs f S T b).length := by
  have hpf := phiFit_all ok hU h.ok h.live
  have hsv := SInv.settle (fun p hp a ha => ((hpf p hp).2 a ha).2) h.settle (SInv.new (phi_ids ok h.ok h.live))
  have hpn : pn ≤ 12 := by have := ok.ok.p2; rw [h.par] at this; omega
  obtain ⟨hnd, -⟩ := ids_ok ok h.ok h.live h.left hpn S.length (Nat.le_refl _)
  have hm : (D.ph b)[j] ∈ D.ph b := List.getElem_mem hj
  obtain ⟨r, hr, -, e, -, hid, -⟩ := phi_form ok h.ok h.live hb ((h.left.ph b hb).subset hm)
  obtain ⟨rest, hrest⟩ := idsTo_phi (params := pn) (IN := D.ins) hb hj
  constructor
  · have hg := (hsv.1.sub _ (List.mem_flatten.2 ⟨_, List.mem_map.2 ⟨b, List.mem_range.2 hb, rfl⟩, hm⟩)).2
    unfold idsD
    rw [hrest] at hnd ⊢
    rw [newI_at (by rw [hid]; unfold phiI; omega) hg hnd]
    rw [List.length_append, List.length_map, List.length_take, Nat.min_eq_left (Nat.le_of_lt hj)]
  · rw [e]
    show (List.map _ _).length = _
    rw [List.length_map]
theorem SsaIs.insOrd {P : List Fn} {f : Fn} {S : List Nat} {T : Nat → Nat} {L : List Int} {pn : Nat} {g : List (Int × Int)} {D : PDat} (h : SsaIs P f S T L pn g D) (ok : FlowOk P f) (hU : ∀ q, q < f.code.length → Way f 63 q → ∀ r, r < 12 → (rdMask P (insD f q)).testBit r = true → ¬ Way f r q) {b : Nat} (hb : b < S.length) {j : Nat} (hj : j < (D.ins b).length) :
    (((D.ins b)[j].id = -1 ∧ insTo (D.ins b) (j + 1) = insTo (D.ins b) j) ∨ (newI g (idsD pn S.length D) (D.ins b)[j].id = (((idsTo pn D.ph D.ins b).length + (D.ph b).length + (insTo (D.ins b) j).length : Nat) : Int) ∧ (insTo (D.ins b) (j + 1)).length = (insTo (D.ins b) j).length + 1)) := by
  by_cases hne : (D.ins b)[j].id = -1
  · left
    refine ⟨hne, ?_⟩
    rw [insTo_step hj, if_neg (by simp [hne])]; simp
  · right
    have hpf := phiFit_all ok hU h.ok h.live
    have hsv := SInv.settle (fun p hp a ha => ((hpf p hp).2 a ha).2) h.settle (SInv.new (phi_ids ok h.ok h.live))
    have hpn : pn ≤ 12 := by have := ok.ok.p2; rw [h.par] at this; omega
    obtain ⟨hnd, -⟩ := ids_ok ok h.ok h.live h.left hpn S.length (Nat.le_refl _)
    obtain ⟨rest, hrest⟩ := idsTo_ins (params := pn) (PH := D.ph) hb hj hne
    have hle := (h.ok.ends b hb).le
    have hid : ∃ pc : Nat, pc < 40 ∧ (D.ins b)[j].id = madeI pc := by
      have e : (D.ins b)[j] = insM P f (S.getD b 0 + j) (onR f (S.getD b 0) j (fromR f S T L b)) := by
        simp only [h.left.ins b hb]; simp [insL]
      have hl : (D.ins b).length = T b - S.getD b 0 := by rw [h.left.ins b hb, insL_len]
      rw [e, insM_id] at hne ⊢
      split at hne
      · rename_i hs
        exact ⟨S.getD b 0 + j, by have := ok.ok.len2; omega, by rw [if_pos hs]⟩
      · exact absurd rfl hne
    obtain ⟨pc, hpc, hid⟩ := hid
    have hg : ∀ q ∈ g, q.1 ≠ (D.ins b)[j].id := fun q hq e => by
      obtain ⟨p, hp, e2, -⟩ := hsv.1.went q hq
      obtain ⟨l, hl, hpl⟩ := List.mem_flatten.1 hp
      obtain ⟨b', hb', rfl⟩ := List.mem_map.1 hl
      obtain ⟨r, hr, -, -, -, e3, -⟩ := phi_form ok h.ok h.live (List.mem_range.1 hb') hpl
      rw [← e2, e3, hid] at e
      unfold phiI madeI at e
      omega
    constructor
    · unfold idsD
      rw [hrest] at hnd ⊢
      rw [newI_at hne hg hnd]
      simp only [List.length_append, List.length_map]
    · rw [insTo_step hj, if_pos hne]; simp
theorem idsTo_succ_len (pn : Nat) (PH : Nat → List PhiD) (IN : Nat → List InsD) (b : Nat) : (idsTo pn PH IN (b + 1)).length = (idsTo pn PH IN b).length + (PH b).length + (insTo (IN b) (IN b).length).length := by
  rw [idsTo, List.length_append, idsP, List.length_append, List.length_map]
  unfold insTo
  rw [List.take_length]
  omega
end Go.Proofs.YtldbmdgpdolaaaaGreatDoor
