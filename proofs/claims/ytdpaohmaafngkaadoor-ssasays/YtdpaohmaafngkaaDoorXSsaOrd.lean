/- ssa's values are counted as they come: plain mathematics. -/
import Derived.Test.YtdpaohmaafngkaaDoorXSsaInss
namespace Go.Proofs.YtdpaohmaafngkaaDoor
open Go Go.RowKit

theorem newI_at {g : List (Int × Int)} {A rest : List Int} {z : Int} (hz : z ≠ -1) (hg : ∀ q ∈ g, q.1 ≠ z) (hn : (A ++ z :: rest).Nodup) : newI g (A ++ z :: rest) z = (A.length : Int) := by
  have hnm : z ∉ A := fun h => by
    rw [List.nodup_append] at hn
    exact hn.2.2 z h z (by simp) rfl
  unfold newI
  rw [if_neg hz, stG_free hg, if_pos (by simp), List.idxOf_append, if_neg hnm, List.idxOf_cons_self]
  simp
theorem phiTo_mono (f : Fn) (S : List Nat) (T : Nat → Nat) (L : List Int) (b : Nat) : ∀ r, (phiTo f S T L b r).Pairwise (fun p q => p.reg < q.reg)
  | 0 => List.Pairwise.nil
  | r + 1 => by
    rw [phiTo, List.pairwise_append]
    refine ⟨phiTo_mono f S T L b r, ?_, fun p hp q hq => ?_⟩
    · split <;> simp
    · obtain ⟨x, hx, -, rfl⟩ := phiTo_mem.1 hp
      split at hq
      · cases hq
      · have : q = phi1 f S T L b r := by simpa using hq
        rw [this]
        show x < r
        exact hx
theorem phiM_mono (f : Fn) (S : List Nat) (T : Nat → Nat) (L : List Int) (b : Nat) : (phiM f S T L b).Pairwise (fun p q => p.reg < q.reg) := by
  unfold phiM; split
  · exact phiTo_mono _ _ _ _ _ _
  · exact List.Pairwise.nil
/-- Phis as they are counted. -/
theorem SsaIs.phiOrd {P : List Fn} {f : Fn} {S : List Nat} {T : Nat → Nat} {L : List Int} {pn : Nat} {g : List (Int × Int)} {D : PDat} (h : SsaIs P f S T L pn g D) (ok : FlowOk P f) (hU : ∀ q, q < f.code.length → Way f 63 q → ∀ r, r < 12 → (rdMask P (insD f q)).testBit r = true → ¬ Way f r q) {b : Nat} (hb : b < S.length) {j : Nat} (hj : j < (D.ph b).length) :
    newI g (idsD pn S.length D) (D.ph b)[j].id = (((idsTo pn D.ph D.ins b).length + j : Nat) : Int) ∧ (D.ph b)[j].args.length = (prevs f S T b).length := by
  have hpf := phiFit_all ok hU h.ok h.live
  have hsv := SInv.settle (fun p hp a ha => ((hpf p hp).2 a ha).2) h.settle (SInv.new (phi_ids ok h.ok h.live))
  have hpn : pn ≤ 12 := by have := ok.ok.p2; rw [h.par] at this; omega
  obtain ⟨hnd, -⟩ := ids_ok ok h.ok h.live h.left hpn S.length (Nat.le_refl _)
  have hm : (D.ph b)[j] ∈ D.ph b := List.getElem_mem hj
  obtain ⟨r, hr, -, e, -, hid, -⟩ := phi_form ok h.ok h.live hb ((h.left.ph b hb).subset hm)
  obtain ⟨rest, hrest⟩ := idsTo_phi (params := pn) (IN := D.ins) hb hj
  constructor
  · have hg := (hsv.1.sub _ (List.mem_flatten.2 ⟨_, List.mem_map.2 ⟨b, List.mem_range.2 hb, rfl⟩, hm⟩)).2
    unfold idsD
    rw [hrest] at hnd ⊢
    rw [newI_at (by rw [hid]; unfold phiI; omega) hg hnd]
    rw [List.length_append, List.length_map, List.length_take, Nat.min_eq_left (Nat.le_of_lt hj)]
  · rw [e]
    show (List.map _ _).length = _
    rw [List.length_map]
/-- Instructions as they are counted. -/
theorem SsaIs.insOrd {P : List Fn} {f : Fn} {S : List Nat} {T : Nat → Nat} {L : List Int} {pn : Nat} {g : List (Int × Int)} {D : PDat} (h : SsaIs P f S T L pn g D) (ok : FlowOk P f) (hU : ∀ q, q < f.code.length → Way f 63 q → ∀ r, r < 12 → (rdMask P (insD f q)).testBit r = true → ¬ Way f r q) {b : Nat} (hb : b < S.length) {j : Nat} (hj : j < (D.ins b).length) :
    (((D.ins b)[j].id = -1 ∧ insTo (D.ins b) (j + 1) = insTo (D.ins b) j) ∨ (newI g (idsD pn S.length D) (D.ins b)[j].id = (((idsTo pn D.ph D.ins b).length + (D.ph b).length + (insTo (D.ins b) j).length : Nat) : Int) ∧ (insTo (D.ins b) (j + 1)).length = (insTo (D.ins b) j).length + 1)) := by
  by_cases hne : (D.ins b)[j].id = -1
  · left
    refine ⟨hne, ?_⟩
    rw [insTo_step hj, if_neg (by simp [hne])]; simp
  · right
    have hpf := phiFit_all ok hU h.ok h.live
    have hsv := SInv.settle (fun p hp a ha => ((hpf p hp).2 a ha).2) h.settle (SInv.new (phi_ids ok h.ok h.live))
    have hpn : pn ≤ 12 := by have := ok.ok.p2; rw [h.par] at this; omega
    obtain ⟨hnd, -⟩ := ids_ok ok h.ok h.live h.left hpn S.length (Nat.le_refl _)
    obtain ⟨rest, hrest⟩ := idsTo_ins (params := pn) (PH := D.ph) hb hj hne
    have hle := (h.ok.ends b hb).le
    have hid : ∃ pc : Nat, pc < 40 ∧ (D.ins b)[j].id = madeI pc := by
      have e : (D.ins b)[j] = insM P f (S.getD b 0 + j) (onR f (S.getD b 0) j (fromR f S T L b)) := by
        simp only [h.left.ins b hb]; simp [insL]
      have hl : (D.ins b).length = T b - S.getD b 0 := by rw [h.left.ins b hb, insL_len]
      rw [e, insM_id] at hne ⊢
      split at hne
      · rename_i hs
        exact ⟨S.getD b 0 + j, by have := ok.ok.len2; omega, by rw [if_pos hs]⟩
      · exact absurd rfl hne
    obtain ⟨pc, hpc, hid⟩ := hid
    have hg : ∀ q ∈ g, q.1 ≠ (D.ins b)[j].id := fun q hq e => by
      obtain ⟨p, hp, e2, -⟩ := hsv.1.went q hq
      obtain ⟨l, hl, hpl⟩ := List.mem_flatten.1 hp
      obtain ⟨b', hb', rfl⟩ := List.mem_map.1 hl
      obtain ⟨r, hr, -, -, -, e3, -⟩ := phi_form ok h.ok h.live (List.mem_range.1 hb') hpl
      rw [← e2, e3, hid] at e
      unfold phiI madeI at e
      omega
    constructor
    · unfold idsD
      rw [hrest] at hnd ⊢
      rw [newI_at hne hg hnd]
      simp only [List.length_append, List.length_map]
    · rw [insTo_step hj, if_pos hne]; simp
theorem idsTo_succ_len (pn : Nat) (PH : Nat → List PhiD) (IN : Nat → List InsD) (b : Nat) : (idsTo pn PH IN (b + 1)).length = (idsTo pn PH IN b).length + (PH b).length + (insTo (IN b) (IN b).length).length := by
  rw [idsTo, List.length_append, idsP, List.length_append, List.length_map]
  unfold insTo
  rw [List.take_length]
  omega
theorem SsaIs.once {P : List Fn} {f : Fn} {S : List Nat} {T : Nat → Nat} {L : List Int} {pn : Nat} {g : List (Int × Int)} {D : PDat} (h : SsaIs P f S T L pn g D) (ok : FlowOk P f) (hU : ∀ q, q < f.code.length → Way f 63 q → ∀ r, r < 12 → (rdMask P (insD f q)).testBit r = true → ¬ Way f r q) {ar : Nat → List Int} {w : World} {base gp : Nat} {Ly : PLay} (hp : PartsAt w base gp S.length (finD pn S.length g D ar) Ly) (BB : Nat → Nat) (hBB : ∀ i, BB i = (idsTo pn D.ph D.ins i).length) :
    ∀ i, i < S.length → ∃ (ao : Option Addr) (q c np : Nat) (R : Nat → Nat) (ao2 : Option Addr) (q2 c2 ni : Nat) (CI : Nat → Nat), np ≤ 12 ∧ np ≤ c ∧ (0 < np → ao = some ⟨q, 0, none⟩) ∧ S.getD i 0 + ni = T i ∧ ni ≤ 40 ∧ ni ≤ c2 ∧ (0 < ni → ao2 = some ⟨q2, 0, none⟩) ∧ CI 0 = 0 ∧ (∀ j, CI j ≤ j) ∧ BB (i + 1) = BB i + np + CI ni ∧
      (∀ W, Below w.heap.size w W → W.cell? ⟨gp, i * 15, none⟩ = some (.int .i64 (i : Int)) ∧ W.cell? ⟨gp, i * 15 + 1, none⟩ = some (.slice ao np c) ∧ W.cell? ⟨gp, i * 15 + 2, none⟩ = some (.slice ao2 ni c2)) ∧
      (∀ j, j < np → ∃ (aA : Option Addr) (cA : Nat), (∀ j', j' < j → R j' < R j) ∧ ∀ W, Below w.heap.size w W → W.rangeAt q (j * 3) [.int .i64 (R j : Int), .int .i64 ((BB i + j : Nat) : Int), .slice aA (prevs f S T i).length cA]) ∧
      (∀ j, j < ni → ∃ x : InsD, x.pc = ((S.getD i 0 + j : Nat) : Int) ∧ S.getD i 0 + j < f.code.length ∧ x.op = (insD f (S.getD i 0 + j)).op ∧ ((x.id = -1 ∧ CI (j + 1) = CI j) ∨ (x.id = ((BB i + np + CI j : Nat) : Int) ∧ CI (j + 1) = CI j + 1)) ∧ ∀ W, Below w.heap.size w W → W.rangeAt q2 (j * 6) (inC x)) := fun i hi => by
  obtain ⟨ao, q, c, e, hc, h0, hj⟩ := hp.phs hi
  obtain ⟨ao2, q2, c2, e2, hc2, h02, hj2⟩ := hp.inss hi
  have hE := h.ok.ends i hi
  have eS : S.getD i 0 = S[i] := by simp [List.getD, hi]
  have hle := hE.le; have hlt := hE.lt; have hl40 := ok.ok.len2
  have hF : (finD pn S.length g D ar).ph i = (D.ph i).map (phN (newI g (idsD pn S.length D))) := finD_ph _ _ _ _ _ hi
  have hI : (finD pn S.length g D ar).ins i = (D.ins i).map (insN (newI g (idsD pn S.length D))) := finD_ins _ _ _ _ _ hi
  have hni : (D.ins i).length = T i - S.getD i 0 := by rw [h.left.ins i hi, insL_len]
  have hFl : ((finD pn S.length g D ar).ph i).length = (D.ph i).length := by rw [hF, List.length_map]
  have hIl : ((finD pn S.length g D ar).ins i).length = (D.ins i).length := by rw [hI, List.length_map]
  have hl12 : (D.ph i).length ≤ 12 := Nat.le_trans (h.left.ph i hi).length_le (phi_len f S T L i)
  rw [hFl] at e hc h0
  rw [hIl] at e2 hc2 h02
  have hmono := (phiM_mono f S T L i).sublist (h.left.ph i hi)
  refine ⟨ao, q, c, (D.ph i).length, fun j => ((D.ph i).getD j ⟨0, 0, []⟩).reg, ao2, q2, c2, (D.ins i).length, fun j => (insTo (D.ins i) j).length, hl12, hc, h0, by omega, by omega, hc2, h02, rfl, fun j => ?_, ?_, fun W hW => ⟨?_, ?_, ?_⟩, fun j hjl => ?_, fun j hjl => ?_⟩
  · unfold insTo
    refine Nat.le_trans (List.length_filter_le _ _) ?_
    rw [List.length_map, List.length_take]; omega
  · rw [hBB, hBB]; exact idsTo_succ_len _ _ _ _
  · have := (hp.below hW).cell hi (c := 0) (by omega)
    rw [Nat.add_zero] at this
    rw [this]
    show some (Value.int .i64 ((finD pn S.length g D ar).bk i)) = _
    show some (Value.int .i64 (D.bk i)) = _
    rw [(h.part i hi).1]
  · rw [(hp.below hW).cellP hi, e]
  · rw [(hp.below hW).cellI hi, e2]
  · obtain ⟨f1, f2⟩ := h.phiOrd ok hU hi hjl
    have hjF : j < ((finD pn S.length g D ar).ph i).length := by rw [hFl]; exact hjl
    have hx : ((finD pn S.length g D ar).ph i)[j] = phN (newI g (idsD pn S.length D)) (D.ph i)[j] := by simp only [hF, List.getElem_map]
    have hreg := (h.phi ok (ar := ar) hi (List.getElem_mem hjF)).2.1
    obtain ⟨aA, cA, eA⟩ := own_shape (hp.args.own (12 * i + ((finD pn S.length g D ar).ph i)[j].reg) (by omega))
    have hfit := (hp.fit i hi _ (List.getElem_mem hjF)).2
    have hgd : ∀ (z : Nat) (hz : z < (D.ph i).length), (D.ph i).getD z ⟨0, 0, []⟩ = (D.ph i)[z] := fun z hz => by simp [List.getD, hz]
    refine ⟨aA, cA, fun j' hj' => ?_, fun W hW => ?_⟩
    · show ((D.ph i).getD j' ⟨0, 0, []⟩).reg < ((D.ph i).getD j ⟨0, 0, []⟩).reg
      rw [hgd j' (by omega), hgd j hjl]
      exact List.pairwise_iff_getElem.1 hmono j' j (by omega) hjl hj'
    · have := (hj W hW j hjF).2.2.2
      unfold phC at this
      rw [eA, hfit, hx] at this
      have hal : (phN (newI g (idsD pn S.length D)) (D.ph i)[j]).args.length = (prevs f S T i).length := by
        show (List.map _ _).length = _
        rw [List.length_map, f2]
      rw [hal] at this
      have hid : (phN (newI g (idsD pn S.length D)) (D.ph i)[j]).id = ((BB i + j : Nat) : Int) := by rw [hBB]; exact f1
      rw [hid] at this
      show W.rangeAt q (j * 3) [.int .i64 ((((D.ph i).getD j ⟨0, 0, []⟩).reg : Nat) : Int), _, _]
      rw [hgd j hjl]
      exact this
  · have hjI : j < ((finD pn S.length g D ar).ins i).length := by rw [hIl]; exact hjl
    obtain ⟨g1, -, x, hx, g2, g3, -⟩ := h.ins ok hU (ar := ar) hi hjI
    have hx2 : ((finD pn S.length g D ar).ins i)[j] = insN (newI g (idsD pn S.length D)) (D.ins i)[j] := by simp only [hI, List.getElem_map]
    refine ⟨x, g2, g1, g3, ?_, fun W hW => by rw [hx]; exact hj2 W hW j hjI⟩
    rw [hx, hx2]
    rcases h.insOrd ok hU hi hjl with ⟨k1, k2⟩ | ⟨k1, k2⟩
    · left
      refine ⟨?_, by show (insTo _ _).length = (insTo _ _).length; rw [k2]⟩
      show newI _ _ (D.ins i)[j].id = -1
      rw [k1]; unfold newI; rw [if_pos rfl]
    · right
      refine ⟨?_, k2⟩
      show newI _ _ (D.ins i)[j].id = _
      rw [k1, hBB]
end Go.Proofs.YtdpaohmaafngkaaDoor
