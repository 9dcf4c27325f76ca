import Derived.Test.YtldbmdgpdolaaaaGreatDoorPXSsaBuild
namespace Go.Proofs.YtldbmdgpdolaaaaGreatDoor
open Go Go.RowKit

theorem finD_ph (pn n : Nat) (g : List (Int × Int)) (D : PDat) (ar : Nat → List Int) {b : Nat} (hb : b < n) : (finD pn n g D ar).ph b = (D.ph b).map (phN (newI g (idsD pn n D))) := if_pos hb
theorem finD_ins (pn n : Nat) (g : List (Int × Int)) (D : PDat) (ar : Nat → List Int) {b : Nat} (hb : b < n) : (finD pn n g D ar).ins b = (D.ins b).map (insN (newI g (idsD pn n D))) := if_pos hb
theorem finD_rg (pn n : Nat) (g : List (Int × Int)) (D : PDat) (ar : Nat → List Int) {b : Nat} (hb : b < n) : (finD pn n g D ar).rg b = (D.rg b).map (newI g (idsD pn n D)) := if_pos hb
theorem getD_map {α β : Type} (f : α → β) (l : List α) {r : Nat} (d : α) (e : β) (hr : r < l.length) : (l.map f).getD r e = f (l.getD r d) := by
  simp [List.getD, hr]
theorem SsaIs.phi {P : List Fn} {f : Fn} {S : List Nat} {T : Nat → Nat} {L : List Int} {pn : Nat} {g : List (Int × Int)} {D : PDat} (h : SsaIs P f S T L pn g D) (ok : FlowOk P f) {ar : Nat → List Int} {b : Nat} (hb : b < S.length) {p : PhiD} (hp : p ∈ (finD pn S.length g D ar).ph b) :
    1 < (prevs f S T b).length ∧ p.reg < 12 ∧ (mkL L (S.getD b 0)).testBit p.reg = true ∧ ((finD pn S.length g D ar).rg b).getD p.reg 0 = p.id := by
  rw [finD_ph _ _ _ _ _ hb] at hp
  rw [finD_rg _ _ _ _ _ hb]
  obtain ⟨p0, hp0, rfl⟩ := List.mem_map.1 hp
  obtain ⟨r, hr, hj, -, hreg, hid, hw⟩ := phi_form ok h.ok h.live hb ((h.left.ph b hb).subset hp0)
  have eS : S.getD b 0 = S[b] := by simp [List.getD, hb]
  have hrc := h.ok.starts.reach ok (List.getElem_mem hb)
  have hbit : (mkL L (S.getD b 0)).testBit r = true := by
    rw [eS]
    rcases h.live.2 S[b] hrc.2 with ⟨h2, -⟩ | ⟨-, m, hm, e, hb2⟩
    · exact absurd hrc.1 h2
    · have : mkL L S[b] = m := by unfold mkL; rw [e]; rfl
      rw [this]
      exact (hb2 r hr).2 hw
  show 1 < _ ∧ p0.reg < 12 ∧ (mkL L (S.getD b 0)).testBit p0.reg = true ∧ (List.map (newI g (idsD pn S.length D)) (D.rg b)).getD p0.reg 0 = newI g (idsD pn S.length D) p0.id
  rw [hreg]
  refine ⟨hj, hr, hbit, ?_⟩
  rw [(h.part b hb).2, getD_map _ _ (0 : Int) 0 (by rw [wantR_len]; exact hr), wantR_get _ _ hr, if_pos hbit, fromR_eq (.joins hj), wantR_get _ _ hr, if_pos hbit, phiR_get b hr, hid]
theorem PartsAt.phs {w : World} {base g n : Nat} {D : PDat} {L : PLay} (h : PartsAt w base g n D L) {b : Nat} (hb : b < n) : ∃ (ao : Option Addr) (q c : Nat), L.vp b = .slice ao (D.ph b).length c ∧ (D.ph b).length ≤ c ∧ (0 < (D.ph b).length → ao = some ⟨q, 0, none⟩) ∧
    ∀ W, Below w.heap.size w W → ∀ j (hj : j < (D.ph b).length), W.cell? ⟨q, j * 3, none⟩ = some (.int .i64 ((D.ph b)[j].reg : Nat)) ∧ W.cell? ⟨q, j * 3 + 1, none⟩ = some (.int .i64 (D.ph b)[j].id) ∧ W.cell? ⟨q, j * 3 + 2, none⟩ = some (L.va (12 * b + (D.ph b)[j].reg)) ∧ W.rangeAt q (j * 3) (phC L.va b (D.ph b)[j]) := by
  obtain ⟨hx, hc⟩ := h.phis.own b hb
  rcases hc with ⟨e, e2⟩ | ⟨q, cap, cur, e, hq, hh, hle, hmx, hsz, htk⟩
  · exact ⟨none, 0, 0, by rw [e, e2], by omega, by omega, fun _ _ j hj => by omega⟩
  · refine ⟨_, q, cap, e, hle, fun _ => rfl, fun W hW j hj => ?_⟩
    have hown : W.ownsRow base 72 3 (.slice (some ⟨q, 0, none⟩) (D.ph b).length cap) (D.ph b).length ((D.ph b).flatMap (phC L.va b)) := by
      rw [← e]; exact ownsRow_below (h.phis.own b hb) hW
    have hc : ∀ c, c < 3 → W.cell? ⟨q, j * 3 + c, none⟩ = (phC L.va b (D.ph b)[j])[c]? := fun c hc => by
      rw [hown.cellAt (j * 3 + c) (at_lt hj hc)]
      exact flat_get (phC_len L.va b) _ _ _ hj hc
    refine ⟨hc 0 (by omega), hc 1 (by omega), hc 2 (by omega), fun i u hu => ?_⟩
    have hi : i < 3 := by
      rcases Nat.lt_or_ge i 3 with h | h
      · exact h
      · rw [List.getElem?_eq_none (by rw [phC_len]; exact h)] at hu; cases hu
    rw [hc i hi]; exact hu
theorem prevs_congr {f : Fn} {S : List Nat} {T T' : Nat → Nat} (h : ∀ i, i < S.length → T i = T' i) (b : Nat) : pvI f S T' S.length b = prevs f S T b := by
  unfold prevs pvI
  congr 2
  exact List.filter_congr fun j hj => by rw [h j (List.mem_range.1 hj)]
theorem BlkOk.same {f : Fn} {S S' : List Nat} {T T' : Nat → Nat} (h : BlkOk f S T) (h' : BlkOk f S' T') : S = S' ∧ ∀ i, i < S.length → T i = T' i := by
  obtain rfl := h.starts.unique h'.starts
  exact ⟨rfl, fun i hi => (h.ends i hi).unique (h'.ends i hi)⟩
theorem SsaIs.phs {P : List Fn} {f : Fn} {S : List Nat} {T : Nat → Nat} {L : List Int} {pn : Nat} {g : List (Int × Int)} {D : PDat} (h : SsaIs P f S T L pn g D) (ok : FlowOk P f) {ar : Nat → List Int} {w : World} {base gp : Nat} {Ly : PLay} (hp : PartsAt w base gp S.length (finD pn S.length g D ar) Ly) :
    ∀ i, i < S.length → ∃ (ao : Option Addr) (q c np : Nat), np ≤ 12 ∧ np ≤ c ∧ (0 < np → ao = some ⟨q, 0, none⟩ ∧ 1 < (prevs f S T i).length) ∧ (∀ W, Below w.heap.size w W → W.cell? ⟨gp, i * 15 + 1, none⟩ = some (.slice ao np c)) ∧
      ∀ j, j < np → ∃ (r : Nat) (id : Int) (aA : Option Addr) (nA cA : Nat), r < 12 ∧ (mkL L (S.getD i 0)).testBit r = true ∧ ∀ W, Below w.heap.size w W → W.rangeAt q (j * 3) [.int .i64 (r : Int), .int .i64 id, .slice aA nA cA] ∧ W.cell? ⟨gp, i * 15 + 3 + r, none⟩ = some (.int .i64 id) := fun i hi => by
  obtain ⟨ao, q, c, e, hc, h0, hj⟩ := hp.phs hi
  have hl : ((finD pn S.length g D ar).ph i).length ≤ 12 := by
    rw [finD_ph _ _ _ _ _ hi, List.length_map]
    exact Nat.le_trans (h.left.ph i hi).length_le (phi_len f S T L i)
  refine ⟨ao, q, c, _, hl, hc, fun h1 => ⟨h0 h1, (h.phi ok (ar := ar) hi (List.getElem_mem h1)).1⟩, fun W hW => by rw [← e]; exact (hp.below hW).cellP hi, fun j hjl => ?_⟩
  obtain ⟨-, f2, f3, f4⟩ := h.phi ok (ar := ar) hi (List.getElem_mem hjl)
  obtain ⟨aA, cA, eA⟩ := own_shape (hp.args.own (12 * i + ((finD pn S.length g D ar).ph i)[j].reg) (by omega))
  refine ⟨((finD pn S.length g D ar).ph i)[j].reg, ((finD pn S.length g D ar).ph i)[j].id, aA, ((finD pn S.length g D ar).ar (12 * i + ((finD pn S.length g D ar).ph i)[j].reg)).length, cA, f2, f3, fun W hW => ⟨?_, ?_⟩⟩
  · have := (hj W hW j hjl).2.2.2
    unfold phC at this
    rw [eA] at this
    exact this
  · rw [(hp.below hW).cellR hi f2, f4]
end Go.Proofs.YtldbmdgpdolaaaaGreatDoor
