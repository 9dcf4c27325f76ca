import Derived.Test.YtldbmdgpdolaaaaGreatDoorPXFoldFacts
import Derived.Test.YtldbmdgpdolaaaaGreatDoorPXSsaFact
namespace Go.Proofs.YtldbmdgpdolaaaaGreatDoor
open Go Go.RowKit

theorem out_existsS (f : Fn) (q : Nat) : ∀ r, r ≤ 12 → ∃ v, OutOk f r q v := by
  intro r
  induction r with
  | zero =>
    intro _
    by_cases h : Way f 63 q
    · exact ⟨0, out_zero_yes h⟩
    · exact ⟨-1, out_zero_no h⟩
  | succ r ih =>
    intro hr
    obtain ⟨v, hv⟩ := ih (by omega)
    by_cases h : Way f 63 q
    · by_cases h2 : Way f r q
      · exact ⟨v, out_same hv (fun _ => h2)⟩
      · exact ⟨_, (out_add hv (by omega) h h2).1⟩
    · exact ⟨v, out_same hv (fun h3 => absurd h3 h)⟩
theorem sure_existsS (f : Fn) : ∃ L, SureSpec f L := by
  have h : ∀ q, ∃ v, OutOk f 12 q v := fun q => out_existsS f q 12 (Nat.le_refl _)
  refine ⟨(List.range (f.code.length + 1)).map fun q => Classical.choose (h q), spec_of_out (by simp) fun q hq => ?_⟩
  have e : ((List.range (f.code.length + 1)).map fun q => Classical.choose (h q)).getD q 0 = Classical.choose (h q) := by simp [List.getD, hq]
  rw [e]
  exact Classical.choose_spec (h q)
theorem one_right {f : Fn} (hc : codeProg [f] = 0) (hr : ∀ pc, pc < f.code.length → ∀ r ∈ readsL [f] (insD f pc), ¬ Way f r.toNat pc) (he : ¬ Way f 63 f.code.length) : ProofAns [f] 0 := by
  refine Or.inr ⟨hc, checks_all fun g hg => ?_⟩
  obtain rfl : g = f := by simpa using hg
  obtain ⟨L, hL⟩ := sure_existsS g
  exact ⟨L, hL, (prove_zero hc hg hL hr he).symm⟩
theorem Know.Inv.only {C : Know} (hC : C.Ok) {F : Facts} {G : Ways} (h : C.Inv F G) (hk : C.Closed F G) {x : Int × Int} (hx : x ∈ G) : x = (-1, 0) ∨ ∃ b : Nat, b < C.n ∧ C.met G b ∧ x.1 = (b : Int) ∧ x.2 ∈ C.goes b F := by
  classical
  let Q : Int × Int → Prop := fun x => x = (-1, 0) ∨ ∃ b : Nat, b < C.n ∧ C.met G b ∧ x.1 = (b : Int) ∧ x.2 ∈ C.goes b F
  have hG : ∀ y, y ∈ G.filter (fun y => decide (Q y)) ↔ y ∈ G ∧ Q y := fun y => by rw [List.mem_filter, decide_eq_true_eq]
  have hm : ∀ b, C.met (G.filter fun y => decide (Q y)) b → C.met G b := fun b hb => Know.met_mono (fun y hy => ((hG y).1 hy).1) hb
  have hcl : C.Closed F (G.filter fun y => decide (Q y)) := ⟨hk.par, (hG _).2 ⟨hk.start, Or.inl rfl⟩, fun s hs hb => FV.le_trans (hC.mono s hs F F _ G (leF.refl F) fun y hy => ((hG y).1 hy).1) (hk.site s hs (hm _ hb)), fun b hb hmb z hz => (hG _).2 ⟨hk.go b hb (hm b hmb) z hz, Or.inr ⟨b, hb, hm b hmb, rfl, hz⟩⟩⟩
  exact ((hG x).1 ((h.least F _ hcl).2 x hx)).2
theorem metB_one (G : Ways) (z b : Int) : metB G [z] b = decide ((z, b) ∈ G) := by simp [metB]
theorem metB_two (G : Ways) (y z b : Int) : metB G [y, z] b = (decide ((y, b) ∈ G) || decide ((z, b) ∈ G)) := by simp [metB]
theorem rdA_set {P : List Fn} {x : Ins} (h : x.op = 1) : rdA P x = false := by simp [rdA, h, readsAB]
theorem rdB_set {P : List Fn} {x : Ins} (h : x.op = 1) : rdB P x = false := by simp [rdB, h, readsBB]
section
variable {P : List Fn} {f : Fn} {S : List Nat} {T : Nat → Nat} {L : List Int} {pn : Nat} {g : List (Int × Int)} {D : PDat}
theorem SsaIs.insMem (h : SsaIs P f S T L pn g D) (ar : Nat → List Int) {b j : Nat} (hb : b < S.length) (hj : j < T b - S.getD b 0) : ((finD pn S.length g D ar).ins b).getD j noIns ∈ (finD pn S.length g D ar).ins b := by
  have hl : j < ((finD pn S.length g D ar).ins b).length := by rw [h.insLen ar hb]; exact hj
  have e : ((finD pn S.length g D ar).ins b).getD j noIns = ((finD pn S.length g D ar).ins b)[j] := by simp [List.getD, hl]
  rw [e]; exact List.getElem_mem hl
theorem SsaIs.setFact (h : SsaIs P f S T L pn g D) {ar : Nat → List Int} {F : Facts} {G : Ways} (hi : (fcOf f S T pn g D ar).know.Inv F G) (hk : (fcOf f S T pn g D ar).know.Closed F G) {b j : Nat} (hb : b < S.length) (hj : j < T b - S.getD b 0) (ho : (insD f (S.getD b 0 + j)).op = 1) :
    F (newI g (idsD pn S.length D) (madeI (S.getD b 0 + j))).toNat = if metB G (prevs f S T b) b = true then .known (insD f (S.getD b 0 + j)).imm else .never := by
  have hx := h.insEq ar hb hj
  have hmem := h.insMem ar hb hj
  rw [hx] at hmem
  have hid : (insN (newI g (idsD pn S.length D)) (insM P f (S.getD b 0 + j) (onR f (S.getD b 0) j (fromR f S T L b)))).id = newI g (idsD pn S.length D) (madeI (S.getD b 0 + j)) := by
    show newI _ _ (insM _ _ _ _).id = _
    rw [insM_id, ho, if_pos (by decide)]
  have ra : rdA P (insD f (S.getD b 0 + j)) = false := rdA_set ho
  have rb : rdB P (insD f (S.getD b 0 + j)) = false := rdB_set ho
  have ha : (insN (newI g (idsD pn S.length D)) (insM P f (S.getD b 0 + j) (onR f (S.getD b 0) j (fromR f S T L b)))).a = -1 := by
    show newI _ _ (if rdA _ _ = true then _ else -1) = -1
    rw [ra]; exact newI_none _ _
  have hbb : (insN (newI g (idsD pn S.length D)) (insM P f (S.getD b 0 + j) (onR f (S.getD b 0) j (fromR f S T L b)))).b = -1 := by
    show newI _ _ (if rdB _ _ = true then _ else -1) = -1
    rw [rb]; exact newI_none _ _
  have := set_fact hi hk (b := b) hb hmem (by rw [hid]; exact newI_ne (by unfold madeI; omega)) ho ha hbb
  rw [hid] at this
  exact this
theorem SsaIs.lastEq (h : SsaIs P f S T L pn g D) (ar : Nat → List Int) {b : Nat} (hb : b < S.length) (hT : 0 < T b - S.getD b 0) : (fcOf f S T pn g D ar).last b = insN (newI g (idsD pn S.length D)) (insM P f (S.getD b 0 + (T b - S.getD b 0 - 1)) (onR f (S.getD b 0) (T b - S.getD b 0 - 1) (fromR f S T L b))) := by
  show ((finD pn S.length g D ar).ins b).getD (((finD pn S.length g D ar).ins b).length - 1) noIns = _
  rw [h.insLen ar hb]
  exact h.insEq ar hb (by omega)
theorem SsaIs.goesEq (h : SsaIs P f S T L pn g D) (ar : Nat → List Int) {b : Nat} (hb : b < S.length) (hT : 0 < T b - S.getD b 0) (F : Facts) : (fcOf f S T pn g D ar).know.goes b F = goesF F (insD f (S.getD b 0 + (T b - S.getD b 0 - 1))).op (newI g (idsD pn S.length D) (if rdA P (insD f (S.getD b 0 + (T b - S.getD b 0 - 1))) = true then (onR f (S.getD b 0) (T b - S.getD b 0 - 1) (fromR f S T L b)).getD (insD f (S.getD b 0 + (T b - S.getD b 0 - 1))).a.toNat 0 else -1)) (nxI f S (T b)) (rank S (T b)) (rank S (insD f (S.getD b 0 + (T b - S.getD b 0 - 1))).imm.toNat) := by
  show goesF F ((fcOf f S T pn g D ar).last b).op ((fcOf f S T pn g D ar).last b).a (nxI f S (T b)) (rank S (T b)) (rank S ((fcOf f S T pn g D ar).last b).imm.toNat) = _
  rw [h.lastEq ar hb hT]; rfl
end
section
variable (n m : Int)
theorem imm_set1 (z a b : Int) : immB z (hasOf 1) a b = true := by
  unfold immB; rw [if_pos (by decide)]
variable {S : List Nat} {T : Nat → Nat} {L : List Int} {pn : Nat} {g : List (Int × Int)} {D : PDat}
end
end Go.Proofs.YtldbmdgpdolaaaaGreatDoor
