import Derived.Test.YtldbmdgpdolaaaaGreatDoorPXSsaRaw
namespace Go.Proofs.YtldbmdgpdolaaaaGreatDoor
open Go Go.RowKit

theorem rdA_bit {P : List Fn} {x : Ins} (h : rdA P x = true) : (rdMask P x).testBit x.a.toNat = true := by
  rw [rdMask_bit]; unfold readsL; rw [if_pos h]; simp
theorem rdB_bit {P : List Fn} {x : Ins} (h : rdB P x = true) : (rdMask P x).testBit x.b.toNat = true := by
  rw [rdMask_bit]; unfold readsL; rw [if_pos h]; simp
theorem PartsAt.inss {w : World} {base g n : Nat} {D : PDat} {L : PLay} (h : PartsAt w base g n D L) {b : Nat} (hb : b < n) : ∃ (ao : Option Addr) (q c : Nat), L.vi b = .slice ao (D.ins b).length c ∧ (D.ins b).length ≤ c ∧ (0 < (D.ins b).length → ao = some ⟨q, 0, none⟩) ∧
    ∀ W, Below w.heap.size w W → ∀ j (hj : j < (D.ins b).length), W.rangeAt q (j * 6) (inC (D.ins b)[j]) := by
  obtain ⟨hx, hc⟩ := h.ins.own b hb
  rcases hc with ⟨e, e2⟩ | ⟨q, cap, cur, e, hq, hh, hle, hmx, hsz, htk⟩
  · exact ⟨none, 0, 0, by rw [e, e2], by omega, by omega, fun _ _ j hj => by omega⟩
  · refine ⟨_, q, cap, e, hle, fun _ => rfl, fun W hW j hj => ?_⟩
    have hown : W.ownsRow base 67 6 (.slice (some ⟨q, 0, none⟩) (D.ins b).length cap) (D.ins b).length ((D.ins b).flatMap inC) := by
      rw [← e]; exact ownsRow_below (h.ins.own b hb) hW
    intro i u hu
    have hi : i < 6 := by
      rcases Nat.lt_or_ge i 6 with h | h
      · exact h
      · rw [List.getElem?_eq_none (by rw [inC_len]; exact h)] at hu; cases hu
    rw [hown.cellAt (j * 6 + i) (at_lt hj hi), flat_get inC_len _ _ _ hj hi]
    exact hu
theorem SsaIs.ins {P : List Fn} {f : Fn} {S : List Nat} {T : Nat → Nat} {L : List Int} {pn : Nat} {g : List (Int × Int)} {D : PDat} (h : SsaIs P f S T L pn g D) (ok : FlowOk P f) (hU : ∀ q, q < f.code.length → Way f 63 q → ∀ r, r < 12 → (rdMask P (insD f q)).testBit r = true → ¬ Way f r q) {ar : Nat → List Int} {b : Nat} (hb : b < S.length) {j : Nat} (hj : j < ((finD pn S.length g D ar).ins b).length) :
    S.getD b 0 + j < f.code.length ∧ InsOk P (insD f (S.getD b 0 + j)) ∧ ∃ x : InsD, x = ((finD pn S.length g D ar).ins b)[j] ∧ x.pc = ((S.getD b 0 + j : Nat) : Int) ∧ x.op = (insD f (S.getD b 0 + j)).op ∧ x.imm = (insD f (S.getD b 0 + j)).imm ∧ (0 ≤ x.a ↔ rdA P (insD f (S.getD b 0 + j)) = true) ∧ (0 ≤ x.b ↔ rdB P (insD f (S.getD b 0 + j)) = true) ∧ (0 ≤ x.id ↔ setsB (insD f (S.getD b 0 + j)).op = true) ∧ x.a < ((idsD pn S.length D).length : Int) ∧ x.b < ((idsD pn S.length D).length : Int) := by
  have hE := h.ok.ends b hb
  have eS : S.getD b 0 = S[b] := by simp [List.getD, hb]
  have hle := hE.le; have hlt := hE.lt
  have hl : ((finD pn S.length g D ar).ins b).length = T b - S[b] := by
    rw [finD_ins _ _ _ _ _ hb, List.length_map, h.left.ins b hb, insL_len, eS]
  have hpc : S.getD b 0 + j < f.code.length := by omega
  have hio := (ok.insD hpc).1
  refine ⟨hpc, hio, _, rfl, ?_⟩
  have hx : ((finD pn S.length g D ar).ins b)[j] = insN (newI g (idsD pn S.length D)) (insM P f (S.getD b 0 + j) (onR f (S.getD b 0) j (fromR f S T L b))) := by
    have e : (finD pn S.length g D ar).ins b = (insL P f (S.getD b 0) (T b - S.getD b 0) (fromR f S T L b)).map (insN (newI g (idsD pn S.length D))) := by rw [finD_ins _ _ _ _ _ hb, h.left.ins b hb]
    simp only [e, List.getElem_map]
    simp [insL]
  rw [hx]
  have hlen := (fromR_is ok h.ok L hb).len
  have hraw : RawL pn f S T L (onR f (S.getD b 0) j (fromR f S T L b)) := raw_on hb j _ _ (Nat.le_refl _) (by omega) hlen (raw_from ok h.ok h.par (fromR_is ok h.ok L hb) hb)
  have hthere : ∀ r, r < 12 → (rdMask P (insD f (S.getD b 0 + j))).testBit r = true → (onR f (S.getD b 0) j (fromR f S T L b)).getD r 0 ≠ -1 := fun r hr hbit => by
    rw [eS] at hbit ⊢
    exact onR_live ok h.ok hb hr hlen (from_live ok hU h.ok h.live (fromR_is ok h.ok L hb) hb r hr) j (by omega) (LiveW.read (by omega) hbit)
  have hcnt : ∀ r, r < 12 → newI g (idsD pn S.length D) ((onR f (S.getD b 0) j (fromR f S T L b)).getD r 0) < ((idsD pn S.length D).length : Int) := fun r hr => newI_lt ((hraw r hr).imp id fun e => h.counted ok hU e)
  have hm1 : newI g (idsD pn S.length D) (-1) < ((idsD pn S.length D).length : Int) := newI_lt (Or.inl rfl)
  have ha : (insD f (S.getD b 0 + j)).a.toNat < 12 := by have := hio.a0; have := hio.a1; omega
  have hb' : (insD f (S.getD b 0 + j)).b.toNat < 12 := by have := hio.b0; have := hio.b1; omega
  refine ⟨rfl, rfl, rfl, ?_, ?_, ?_, ?_, ?_⟩
  · show 0 ≤ newI _ _ (if rdA _ _ = true then _ else -1) ↔ _
    rw [newI_there]
    split
    · rename_i h1; exact ⟨fun _ => h1, fun _ => hthere _ ha (rdA_bit h1)⟩
    · rename_i h1; exact ⟨fun h2 => absurd rfl h2, fun h2 => absurd h2 h1⟩
  · show 0 ≤ newI _ _ (if rdB _ _ = true then _ else -1) ↔ _
    rw [newI_there]
    split
    · rename_i h1; exact ⟨fun _ => h1, fun _ => hthere _ hb' (rdB_bit h1)⟩
    · rename_i h1; exact ⟨fun h2 => absurd rfl h2, fun h2 => absurd h2 h1⟩
  · show 0 ≤ newI _ _ (if setsB _ = true then _ else -1) ↔ _
    rw [newI_there]
    split
    · rename_i h1; exact ⟨fun _ => h1, fun _ => by unfold madeI; omega⟩
    · rename_i h1; exact ⟨fun h2 => absurd rfl h2, fun h2 => absurd h2 h1⟩
  · show newI _ _ (if rdA _ _ = true then _ else -1) < _
    split
    · exact hcnt _ ha
    · exact hm1
  · show newI _ _ (if rdB _ _ = true then _ else -1) < _
    split
    · exact hcnt _ hb'
    · exact hm1
theorem SsaIs.inss {P : List Fn} {f : Fn} {S : List Nat} {T : Nat → Nat} {L : List Int} {pn : Nat} {g : List (Int × Int)} {D : PDat} (h : SsaIs P f S T L pn g D) (ok : FlowOk P f) (hU : ∀ q, q < f.code.length → Way f 63 q → ∀ r, r < 12 → (rdMask P (insD f q)).testBit r = true → ¬ Way f r q) {ar : Nat → List Int} {w : World} {base gp : Nat} {Ly : PLay} (hp : PartsAt w base gp S.length (finD pn S.length g D ar) Ly) :
    ∀ i, i < S.length → ∃ (ao : Option Addr) (q c ni : Nat), ni ≤ 40 ∧ ni ≤ c ∧ (0 < ni → ao = some ⟨q, 0, none⟩) ∧ (∀ W, Below w.heap.size w W → W.cell? ⟨gp, i * 15 + 2, none⟩ = some (.slice ao ni c)) ∧
      ∀ j, j < ni → ∃ (x : InsD) (pc : Nat), pc < f.code.length ∧ InsOk P (insD f pc) ∧ x.pc = (pc : Int) ∧ x.imm = (insD f pc).imm ∧ (0 ≤ x.a ↔ rdA P (insD f pc) = true) ∧ (0 ≤ x.b ↔ rdB P (insD f pc) = true) ∧ (0 ≤ x.id ↔ setsB (insD f pc).op = true) ∧ x.a < ((idsD pn S.length D).length : Int) ∧ x.b < ((idsD pn S.length D).length : Int) ∧ ∀ W, Below w.heap.size w W → W.rangeAt q (j * 6) (inC x) := fun i hi => by
  obtain ⟨ao, q, c, e, hc, h0, hj⟩ := hp.inss hi
  have hl : ((finD pn S.length g D ar).ins i).length ≤ 40 := by
    rw [finD_ins _ _ _ _ _ hi, List.length_map, h.left.ins i hi, insL_len]
    have := (h.ok.ends i hi).le; have := ok.ok.len2; omega
  refine ⟨ao, q, c, _, hl, hc, h0, fun W hW => by rw [← e]; exact (hp.below hW).cellI hi, fun j hjl => ?_⟩
  obtain ⟨h1, h2, x, hx, f1, -, f3, f4, f5, f6, f7, f8⟩ := h.ins ok hU (ar := ar) hi hjl
  exact ⟨x, _, h1, h2, f1, f3, f4, f5, f6, f7, f8, fun W hW => by rw [hx]; exact hj W hW j hjl⟩
end Go.Proofs.YtldbmdgpdolaaaaGreatDoor
