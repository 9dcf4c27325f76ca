import Derived.Test.YtldbmdgpdolaaaaGreatDoorPXFoldFc
import Derived.Test.YtldbmdgpdolaaaaGreatDoorPXSsaFact
namespace Go.Proofs.YtldbmdgpdolaaaaGreatDoor
open Go Go.RowKit

theorem insTo_mono (xs : List InsD) {j j' : Nat} (h : j ≤ j') (h' : j' ≤ xs.length) : (insTo xs j).length ≤ (insTo xs j').length := by
  induction j' with
  | zero => obtain rfl : j = 0 := by omega
            exact Nat.le_refl _
  | succ k ih =>
    by_cases e : j = k + 1
    · rw [e]; exact Nat.le_refl _
    · have := ih (by omega) (by omega)
      rw [insTo_step (by omega), List.length_append]; omega
theorem idsTo_mono (pn : Nat) (PH : Nat → List PhiD) (IN : Nat → List InsD) {b b' : Nat} (h : b ≤ b') : (idsTo pn PH IN b).length ≤ (idsTo pn PH IN b').length := by
  obtain ⟨r, e⟩ := idsTo_pre pn PH IN h
  rw [e, List.length_append]; omega
theorem idsTo_zero (pn : Nat) (PH : Nat → List PhiD) (IN : Nat → List InsD) : (idsTo pn PH IN 0).length = pn := by simp [idsTo]
theorem newI_ge (g : List (Int × Int)) (ids : List Int) (v : Int) : -1 ≤ newI g ids v := by
  unfold newI
  split
  · omega
  · split <;> omega
theorem SsaIs.phAll {P : List Fn} {f : Fn} {S : List Nat} {T : Nat → Nat} {L : List Int} {pn : Nat} {g : List (Int × Int)} {D : PDat} (h : SsaIs P f S T L pn g D) (ok : FlowOk P f) (hU : ∀ q, q < f.code.length → Way f 63 q → ∀ r, r < 12 → (rdMask P (insD f q)).testBit r = true → ¬ Way f r q) {ar : Nat → List Int} {b : Nat} (hb : b < S.length) {j : Nat} (hj : j < ((finD pn S.length g D ar).ph b).length) :
    j < (D.ph b).length ∧ ((finD pn S.length g D ar).ph b)[j].id = (((idsTo pn D.ph D.ins b).length + j : Nat) : Int) ∧ ((finD pn S.length g D ar).ph b)[j].args.length = (prevs f S T b).length ∧ ∀ a ∈ ((finD pn S.length g D ar).ph b)[j].args, 0 ≤ a ∧ a < ((idsD pn S.length D).length : Int) := by
  have hF : (finD pn S.length g D ar).ph b = (D.ph b).map (phN (newI g (idsD pn S.length D))) := finD_ph _ _ _ _ _ hb
  have hjl : j < (D.ph b).length := by rw [hF, List.length_map] at hj; exact hj
  have hx : ((finD pn S.length g D ar).ph b)[j] = phN (newI g (idsD pn S.length D)) (D.ph b)[j] := by simp only [hF, List.getElem_map]
  have hm : (D.ph b)[j] ∈ D.ph b := List.getElem_mem hjl
  obtain ⟨r0, hr0, -, e0, -, hid0, hlw⟩ := phi_form ok h.ok h.live hb ((h.left.ph b hb).subset hm)
  obtain ⟨f1, f2⟩ := h.phiOrd ok hU hb hjl
  have hargs : ((finD pn S.length g D ar).ph b)[j].args = (D.ph b)[j].args.map (newI g (idsD pn S.length D)) := by rw [hx]; rfl
  have hids : ((finD pn S.length g D ar).ph b)[j].id = newI g (idsD pn S.length D) (D.ph b)[j].id := by rw [hx]; rfl
  refine ⟨hjl, by rw [hids]; exact f1, by rw [hargs, List.length_map]; exact f2, fun a ha => ?_⟩
  rw [hargs] at ha
  obtain ⟨a0, ha0, rfl⟩ := List.mem_map.1 ha
  rw [e0] at ha0
  obtain ⟨z, hz, rfl⟩ := List.mem_map.1 ha0
  have h1 := beh_there ok hU h.ok h.live hb hr0 hlw hz
  exact ⟨(newI_there _ _ _).2 h1, newI_lt (Or.inr (h.counted ok hU ((raw_beh ok h.ok h.par hz r0 hr0).resolve_left h1)))⟩
theorem SsaIs.insAll {P : List Fn} {f : Fn} {S : List Nat} {T : Nat → Nat} {L : List Int} {pn : Nat} {g : List (Int × Int)} {D : PDat} (h : SsaIs P f S T L pn g D) (ok : FlowOk P f) (hU : ∀ q, q < f.code.length → Way f 63 q → ∀ r, r < 12 → (rdMask P (insD f q)).testBit r = true → ¬ Way f r q) {ar : Nat → List Int} {b : Nat} (hb : b < S.length) {j : Nat} (hj : j < ((finD pn S.length g D ar).ins b).length) :
    j < (D.ins b).length ∧ (((finD pn S.length g D ar).ins b)[j].id = -1 ∨ (((finD pn S.length g D ar).ins b)[j].id = (((idsTo pn D.ph D.ins b).length + (D.ph b).length + (insTo (D.ins b) j).length : Nat) : Int) ∧ (insTo (D.ins b) (j + 1)).length = (insTo (D.ins b) j).length + 1)) ∧
    -1 ≤ ((finD pn S.length g D ar).ins b)[j].a ∧ ((finD pn S.length g D ar).ins b)[j].a < ((idsD pn S.length D).length : Int) ∧ -1 ≤ ((finD pn S.length g D ar).ins b)[j].b ∧ ((finD pn S.length g D ar).ins b)[j].b < ((idsD pn S.length D).length : Int) := by
  have hI : (finD pn S.length g D ar).ins b = (D.ins b).map (insN (newI g (idsD pn S.length D))) := finD_ins _ _ _ _ _ hb
  have hjl : j < (D.ins b).length := by rw [hI, List.length_map] at hj; exact hj
  have hx2 : ((finD pn S.length g D ar).ins b)[j] = insN (newI g (idsD pn S.length D)) (D.ins b)[j] := by simp only [hI, List.getElem_map]
  obtain ⟨g1, -, x, hx, g2, g3, g4, g5, g6, g7, g8, g9⟩ := h.ins ok hU (ar := ar) hb hj
  refine ⟨hjl, ?_, ?_, by rw [← hx]; exact g8, ?_, by rw [← hx]; exact g9⟩
  · rw [hx2]
    rcases h.insOrd ok hU hb hjl with ⟨k1, k2⟩ | ⟨k1, k2⟩
    · left
      show newI _ _ (D.ins b)[j].id = -1
      rw [k1]; unfold newI; rw [if_pos rfl]
    · exact Or.inr ⟨k1, k2⟩
  · rw [hx2]; exact newI_ge _ _ _
  · rw [hx2]; exact newI_ge _ _ _
theorem SsaIs.uniq {P : List Fn} {f : Fn} {S : List Nat} {T : Nat → Nat} {L : List Int} {pn : Nat} {g : List (Int × Int)} {D : PDat} (h : SsaIs P f S T L pn g D) (ok : FlowOk P f) (hU : ∀ q, q < f.code.length → Way f 63 q → ∀ r, r < 12 → (rdMask P (insD f q)).testBit r = true → ¬ Way f r q) {ar : Nat → List Int} :
    ∀ s s', (fcOf f S T pn g D ar).know.site s → (fcOf f S T pn g D ar).know.site s' → s.id = s'.id → s = s' := by
  have hsite : ∀ s, (fcOf f S T pn g D ar).know.site s → ∃ b, b < S.length ∧ ((∃ j, ∃ hj : j < ((finD pn S.length g D ar).ph b).length, s = phiS (fcOf f S T pn g D ar) b ((finD pn S.length g D ar).ph b)[j] ∧ s.id = (idsTo pn D.ph D.ins b).length + j ∧ j < (D.ph b).length) ∨
      (∃ j, ∃ hj : j < ((finD pn S.length g D ar).ins b).length, s = insS b ((finD pn S.length g D ar).ins b)[j] ∧ s.id = (idsTo pn D.ph D.ins b).length + (D.ph b).length + (insTo (D.ins b) j).length ∧ (insTo (D.ins b) (j + 1)).length = (insTo (D.ins b) j).length + 1 ∧ j < (D.ins b).length)) := by
    intro s hs
    obtain ⟨b, hb, ⟨p, hp, rfl⟩ | ⟨x, hx, hne, rfl⟩⟩ := hs
    · have hb : b < S.length := hb
      obtain ⟨j, hj, rfl⟩ := List.getElem_of_mem hp
      have hj : j < ((finD pn S.length g D ar).ph b).length := hj
      obtain ⟨h1, h2, -⟩ := h.phAll ok hU (ar := ar) hb hj
      exact ⟨b, hb, Or.inl ⟨j, hj, rfl, by show (((finD pn S.length g D ar).ph b)[j]).id.toNat = _; rw [h2]; rfl, h1⟩⟩
    · have hb : b < S.length := hb
      obtain ⟨j, hj, rfl⟩ := List.getElem_of_mem hx
      have hj : j < ((finD pn S.length g D ar).ins b).length := hj
      obtain ⟨h1, h2, -⟩ := h.insAll ok hU (ar := ar) hb hj
      obtain ⟨h3, h4⟩ := h2.resolve_left hne
      exact ⟨b, hb, Or.inr ⟨j, hj, rfl, by show (((finD pn S.length g D ar).ins b)[j]).id.toNat = _; rw [h3]; rfl, h4, h1⟩⟩
  have hrange : ∀ s, (fcOf f S T pn g D ar).know.site s → ∀ b, b < S.length → s.blk = b → (idsTo pn D.ph D.ins b).length ≤ s.id ∧ s.id < (idsTo pn D.ph D.ins (b + 1)).length := by
    intro s hs b hb hbk
    obtain ⟨b', hb', ⟨j, hj, e, h1, h2⟩ | ⟨j, hj, e, h1, h2, h3⟩⟩ := hsite s hs
    · have eb : b' = b := by rw [e] at hbk; exact hbk
      subst eb
      rw [idsTo_succ_len]; omega
    · have eb : b' = b := by rw [e] at hbk; exact hbk
      subst eb
      rw [idsTo_succ_len]
      have := insTo_mono (D.ins b') (j := j + 1) (j' := (D.ins b').length) (by omega) (Nat.le_refl _)
      omega
  intro s s' hs hs' he
  have hblk : ∀ s, (fcOf f S T pn g D ar).know.site s → s.blk < S.length := fun s hs => by
    obtain ⟨b, hb, ⟨p, hp, rfl⟩ | ⟨x, hx, hne, rfl⟩⟩ := hs <;> exact hb
  have r1 := hrange s hs s.blk (hblk s hs) rfl
  have r2 := hrange s' hs' s'.blk (hblk s' hs') rfl
  have eb : s.blk = s'.blk := by
    rcases Nat.lt_trichotomy s.blk s'.blk with h1 | h1 | h1
    · have := idsTo_mono pn D.ph D.ins (b := s.blk + 1) (b' := s'.blk) (by omega); omega
    · exact h1
    · have := idsTo_mono pn D.ph D.ins (b := s'.blk + 1) (b' := s.blk) (by omega); omega
  obtain ⟨b, hb, c1⟩ := hsite s hs
  obtain ⟨b', hb', c2⟩ := hsite s' hs'
  have e1 : b = b' := by
    have : s.blk = b := by rcases c1 with ⟨j, hj, e, -⟩ | ⟨j, hj, e, -⟩ <;> rw [e] <;> rfl
    have : s'.blk = b' := by rcases c2 with ⟨j, hj, e, -⟩ | ⟨j, hj, e, -⟩ <;> rw [e] <;> rfl
    omega
  subst e1
  rcases c1 with ⟨j, hj, e, h1, h2⟩ | ⟨j, hj, e, h1, h2, h3⟩ <;> rcases c2 with ⟨j', hj', e', h1', h2'⟩ | ⟨j', hj', e', h1', h2', h3'⟩
  · obtain rfl : j = j' := by omega
    rw [e, e']
  · omega
  · omega
  · obtain rfl : j = j' := by
      rcases Nat.lt_trichotomy j j' with h4 | h4 | h4
      · have := insTo_mono (D.ins b) (j := j + 1) (j' := j') (by omega) (by omega); omega
      · exact h4
      · have := insTo_mono (D.ins b) (j := j' + 1) (j' := j) (by omega) (by omega); omega
    rw [e, e']
theorem SsaIs.lastOf {P : List Fn} {f : Fn} {S : List Nat} {T : Nat → Nat} {L : List Int} {pn : Nat} {g : List (Int × Int)} {D : PDat} (h : SsaIs P f S T L pn g D) (ok : FlowOk P f) (hU : ∀ q, q < f.code.length → Way f 63 q → ∀ r, r < 12 → (rdMask P (insD f q)).testBit r = true → ¬ Way f r q) {ar : Nat → List Int} {b : Nat} (hb : b < S.length) :
    0 < ((finD pn S.length g D ar).ins b).length ∧ ((finD pn S.length g D ar).ins b).length ≤ 40 ∧ T b - 1 < f.code.length ∧ InsOk P (insD f (T b - 1)) ∧ ((fcOf f S T pn g D ar).last b).op = (insD f (T b - 1)).op ∧ ((fcOf f S T pn g D ar).last b).imm = (insD f (T b - 1)).imm ∧ (0 ≤ ((fcOf f S T pn g D ar).last b).a ↔ rdA P (insD f (T b - 1)) = true) ∧ (∀ q ∈ behind (insD f (T b - 1)) (T b - 1), q ∈ S) := by
  have hE := h.ok.ends b hb
  have eS : S.getD b 0 = S[b] := by simp [List.getD, hb]
  have hle := hE.le; have hlt := hE.lt; have h40 := ok.ok.len2
  have hl : ((finD pn S.length g D ar).ins b).length = T b - S[b] := by
    rw [finD_ins _ _ _ _ _ hb, List.length_map, h.left.ins b hb, insL_len, eS]
  have hj : ((finD pn S.length g D ar).ins b).length - 1 < ((finD pn S.length g D ar).ins b).length := by omega
  obtain ⟨g1, g0, x, hx, g2, g3, g4, g5, g6, g7, g8, g9⟩ := h.ins ok hU (ar := ar) hb hj
  have hpl : S.getD b 0 + (((finD pn S.length g D ar).ins b).length - 1) = T b - 1 := by rw [eS]; omega
  rw [hpl] at g1 g0 g3 g4 g5
  have hlast : (fcOf f S T pn g D ar).last b = ((finD pn S.length g D ar).ins b)[((finD pn S.length g D ar).ins b).length - 1] := by
    show ((finD pn S.length g D ar).ins b).getD (((finD pn S.length g D ar).ins b).length - 1) noIns = _
    rw [List.getD, List.getElem?_eq_getElem hj]; rfl
  rw [hlast, ← hx]
  exact ⟨by omega, by omega, g1, g0, g3, g4, g5, fun q hq => hE.leads ok h.ok.starts (h.ok.starts.reach ok (List.getElem_mem hb)).1 hq⟩
theorem SsaIs.ifOf {P : List Fn} {f : Fn} {S : List Nat} {T : Nat → Nat} {L : List Int} {pn : Nat} {g : List (Int × Int)} {D : PDat} (h : SsaIs P f S T L pn g D) (ok : FlowOk P f) (hU : ∀ q, q < f.code.length → Way f 63 q → ∀ r, r < 12 → (rdMask P (insD f q)).testBit r = true → ¬ Way f r q) {ar : Nat → List Int} {b : Nat} (hb : b < S.length) (ho : ((fcOf f S T pn g D ar).last b).op = 16) :
    0 ≤ ((fcOf f S T pn g D ar).last b).imm ∧ T b ∈ S ∧ ((fcOf f S T pn g D ar).last b).imm.toNat ∈ S ∧ ((rank S (T b) : Nat) : Int) ∈ nxI f S (T b) ∧ ((rank S ((fcOf f S T pn g D ar).last b).imm.toNat : Nat) : Int) ∈ nxI f S (T b) := by
  obtain ⟨-, -, l1, l2, l3, l4, -, l5⟩ := h.lastOf ok hU (ar := ar) hb
  rw [l3] at ho
  rw [l4]
  have hE := h.ok.ends b hb
  have hlt := hE.lt
  have hbh : behind (insD f (T b - 1)) (T b - 1) = [T b, (insD f (T b - 1)).imm.toNat] := by
    unfold behind
    rw [if_neg (by omega), if_pos ho, show T b - 1 + 1 = T b by omega]
  refine ⟨(ok.insD l1).2 (Or.inr ho), l5 _ (by rw [hbh]; simp), l5 _ (by rw [hbh]; simp), (nxI_mem f S (T b) _).2 ⟨T b, by rw [hbh]; simp, rfl⟩, (nxI_mem f S (T b) _).2 ⟨_, by rw [hbh]; exact List.mem_cons_of_mem _ (List.mem_singleton.2 rfl), rfl⟩⟩
theorem rank_first {S : List Nat} (h : S.Pairwise (· < ·)) {q : Nat} (hq : q ∈ S) : ((S.getD (rank S q) 0 : Nat) : Int) = (q : Int) ∧ ∀ j, j < rank S q → ((S.getD j 0 : Nat) : Int) ≠ (q : Int) := by
  obtain ⟨h1, h2⟩ := rank_lt h hq
  refine ⟨by rw [List.getD, List.getElem?_eq_getElem h1]; show ((S[rank S q] : Nat) : Int) = _; rw [h2 h1], fun j hj e => ?_⟩
  have hjl : j < S.length := by omega
  rw [List.getD, List.getElem?_eq_getElem hjl] at e
  have e : S[j] = q := by have e2 : ((S[j] : Nat) : Int) = (q : Int) := e; omega
  have := rank_at h j hjl
  rw [e] at this
  omega
theorem SsaIs.fcOk {P : List Fn} {f : Fn} {S : List Nat} {T : Nat → Nat} {L : List Int} {pn : Nat} {g : List (Int × Int)} {D : PDat} (h : SsaIs P f S T L pn g D) (ok : FlowOk P f) (hU : ∀ q, q < f.code.length → Way f 63 q → ∀ r, r < 12 → (rdMask P (insD f q)).testBit r = true → ¬ Way f r q) {ar : Nat → List Int} : (fcOf f S T pn g D ar).Ok := by
  have hn : S.length ≤ f.code.length := starts_len ok h.ok.starts
  have h40 := ok.ok.len2
  have hpn : pn ≤ 12 := by have := ok.ok.p2; rw [h.par] at this; omega
  have hlo : ∀ b, b ≤ S.length → pn ≤ (idsTo pn D.ph D.ins b).length := fun b _ => by have := idsTo_mono pn D.ph D.ins (Nat.zero_le b); rw [idsTo_zero] at this; exact this
  have hhi : ∀ b, b < S.length → (idsTo pn D.ph D.ins b).length + (D.ph b).length + (insTo (D.ins b) (D.ins b).length).length ≤ (idsD pn S.length D).length := fun b hb => by
    rw [← idsTo_succ_len]; exact idsTo_mono pn D.ph D.ins hb
  refine ⟨by show S.length ≤ 40; omega, ?_, fun b hb => ⟨?_, fun z hz => ?_⟩, fun b hb => ⟨?_, fun z hz => ?_⟩, fun b hb => ⟨?_, fun p hp => ?_⟩, fun b hb => ⟨(h.lastOf ok hU (ar := ar) hb).1, (h.lastOf ok hU (ar := ar) hb).2.1, fun x hx => ?_⟩, fun b hb ho => ?_, h.uniq ok hU⟩
  · show (idsTo pn D.ph D.ins S.length).length ≤ 3000
    have := idsTo_len pn (PH := D.ph) (IN := D.ins) (n := S.length) (fun b hb => Nat.le_trans (h.left.ph b hb).length_le (phi_len f S T L b)) (fun b hb => by rw [h.left.ins b hb, insL_len]; have := (h.ok.ends b hb).le; omega)
    omega
  · exact prevs_len (blocks40 ok h.ok)
  · have hz : z ∈ prevs f S T b := hz
    rcases (prevs_mem _).1 hz with ⟨-, e⟩ | ⟨j', hj', e, hm⟩
    · rw [e]; exact ⟨by omega, by omega⟩
    · rw [e]; exact ⟨by omega, by omega⟩
  · have := nxI_len f S (T b)
    show (nxI f S (T b)).length ≤ 1000
    omega
  · obtain ⟨q, hq, e⟩ := (nxI_mem f S (T b) z).1 hz
    have := rank_le S q
    rw [e]; exact ⟨by omega, by omega⟩
  · have hb : b < S.length := hb
    show ((finD pn S.length g D ar).ph b).length ≤ 12
    rw [finD_ph _ _ _ _ _ hb, List.length_map]
    exact Nat.le_trans (h.left.ph b hb).length_le (phi_len f S T L b)
  · have hb : b < S.length := hb
    obtain ⟨j, hj, rfl⟩ := List.getElem_of_mem hp
    have hj : j < ((finD pn S.length g D ar).ph b).length := hj
    obtain ⟨h1, h2, h3, h4⟩ := h.phAll ok hU (ar := ar) hb hj
    have e1 := hlo b (by omega)
    have e2 := hhi b hb
    refine ⟨h3, ?_, ?_, h4⟩
    · show (pn : Int) ≤ (((finD pn S.length g D ar).ph b)[j]).id
      rw [h2]; omega
    · show (((finD pn S.length g D ar).ph b)[j]).id < ((idsD pn S.length D).length : Int)
      rw [h2]; omega
  · have hb : b < S.length := hb
    obtain ⟨j, hj, rfl⟩ := List.getElem_of_mem hx
    have hj : j < ((finD pn S.length g D ar).ins b).length := hj
    obtain ⟨h1, h2, h3, h4, h5, h6⟩ := h.insAll ok hU (ar := ar) hb hj
    have e1 := hlo b (by omega)
    have e2 := hhi b hb
    have e3 := insTo_mono (D.ins b) (j := j + 1) (j' := (D.ins b).length) (by omega) (Nat.le_refl _)
    refine ⟨?_, ?_, h3, h4, h5, h6⟩
    · rcases h2 with h2 | ⟨h2, -⟩
      · exact Or.inl h2
      · right
        show (pn : Int) ≤ (((finD pn S.length g D ar).ins b)[j]).id
        rw [h2]; omega
    · show (((finD pn S.length g D ar).ins b)[j]).id < ((idsD pn S.length D).length : Int)
      rcases h2 with h2 | ⟨h2, h7⟩
      · rw [h2]; omega
      · rw [h2]; omega
  · have hb : b < S.length := hb
    obtain ⟨k1, k2, k3, k4, k5⟩ := h.ifOf ok hU (ar := ar) hb ho
    obtain ⟨-, -, -, -, l3, -, l5, -⟩ := h.lastOf ok hU (ar := ar) hb
    refine ⟨l5.2 ?_, (rank_lt h.ok.starts.rises k2).1, (rank_lt h.ok.starts.rises k3).1, k4, k5⟩
    unfold rdA
    rw [l3] at ho
    rw [if_neg (by omega), ho]; rfl
theorem SsaIs.fcMem {P : List Fn} {f : Fn} {S : List Nat} {T : Nat → Nat} {L : List Int} {pn : Nat} {g : List (Int × Int)} {D : PDat} (h : SsaIs P f S T L pn g D) (ok : FlowOk P f) (hU : ∀ q, q < f.code.length → Way f 63 q → ∀ r, r < 12 → (rdMask P (insD f q)).testBit r = true → ¬ Way f r q) {ar : Nat → List Int} {w : World} {base gp bB gB : Nat} {Ly : PLay} {VV : Nat → Value} {LL : Nat → List Int}
    (hp : PartsAt w base gp S.length (finD pn S.length g D ar) Ly) (hb : BlocksAt w bB gB f S T VV LL) (hG : KnowG w) : FcMem (fcOf f S T pn g D ar) gp gB (fun i => ((S.getD i 0 : Nat) : Int)) (fun i => ((T i : Nat) : Int)) VV w :=
  fcMem_of hp hb hG (fun b hb => (h.lastOf ok hU (ar := ar) hb).1) (fun b hb ho => rank_first h.ok.starts.rises (h.ifOf ok hU (ar := ar) hb ho).2.1) (fun b hb ho => by
    obtain ⟨k1, k2, k3, -⟩ := h.ifOf ok hU (ar := ar) hb ho
    have := rank_first h.ok.starts.rises k3
    rw [Int.toNat_of_nonneg k1] at this
    exact this)
end Go.Proofs.YtldbmdgpdolaaaaGreatDoor
