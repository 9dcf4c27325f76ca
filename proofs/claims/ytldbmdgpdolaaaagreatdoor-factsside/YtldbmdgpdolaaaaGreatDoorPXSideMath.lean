import Derived.Test.YtldbmdgpdolaaaaGreatDoorPXFoldFacts
import Derived.Test.YtldbmdgpdolaaaaGreatDoorPXSsaFact
namespace Go.Proofs.YtldbmdgpdolaaaaGreatDoor
open Go Go.RowKit

theorem out_existsS (f : Fn) (q : Nat) : ∀ r, r ≤ 12 → ∃ v, OutOk f r q v := by
  intro r
  induction r with
  | zero =>
    intro _
    by_cases h : Way f 63 q
    · exact ⟨0, out_zero_yes h⟩
    · exact ⟨-1, out_zero_no h⟩
  | succ r ih =>
    intro hr
    obtain ⟨v, hv⟩ := ih (by omega)
    by_cases h : Way f 63 q
    · by_cases h2 : Way f r q
      · exact ⟨v, out_same hv (fun _ => h2)⟩
      · exact ⟨_, (out_add hv (by omega) h h2).1⟩
    · exact ⟨v, out_same hv (fun h3 => absurd h3 h)⟩
theorem sure_existsS (f : Fn) : ∃ L, SureSpec f L := by
  have h : ∀ q, ∃ v, OutOk f 12 q v := fun q => out_existsS f q 12 (Nat.le_refl _)
  refine ⟨(List.range (f.code.length + 1)).map fun q => Classical.choose (h q), spec_of_out (by simp) fun q hq => ?_⟩
  have e : ((List.range (f.code.length + 1)).map fun q => Classical.choose (h q)).getD q 0 = Classical.choose (h q) := by simp [List.getD, hq]
  rw [e]
  exact Classical.choose_spec (h q)
theorem one_right {f : Fn} (hc : codeProg [f] = 0) (hr : ∀ pc, pc < f.code.length → ∀ r ∈ readsL [f] (insD f pc), ¬ Way f r.toNat pc) (he : ¬ Way f 63 f.code.length) : ProofAns [f] 0 := by
  refine Or.inr ⟨hc, checks_all fun g hg => ?_⟩
  obtain rfl : g = f := by simpa using hg
  obtain ⟨L, hL⟩ := sure_existsS g
  exact ⟨L, hL, (prove_zero hc hg hL hr he).symm⟩
theorem Know.Inv.only {C : Know} (hC : C.Ok) {F : Facts} {G : Ways} (h : C.Inv F G) (hk : C.Closed F G) {x : Int × Int} (hx : x ∈ G) : x = (-1, 0) ∨ ∃ b : Nat, b < C.n ∧ C.met G b ∧ x.1 = (b : Int) ∧ x.2 ∈ C.goes b F := by
  classical
  let Q : Int × Int → Prop := fun x => x = (-1, 0) ∨ ∃ b : Nat, b < C.n ∧ C.met G b ∧ x.1 = (b : Int) ∧ x.2 ∈ C.goes b F
  have hG : ∀ y, y ∈ G.filter (fun y => decide (Q y)) ↔ y ∈ G ∧ Q y := fun y => by rw [List.mem_filter, decide_eq_true_eq]
  have hm : ∀ b, C.met (G.filter fun y => decide (Q y)) b → C.met G b := fun b hb => Know.met_mono (fun y hy => ((hG y).1 hy).1) hb
  have hcl : C.Closed F (G.filter fun y => decide (Q y)) := ⟨hk.par, (hG _).2 ⟨hk.start, Or.inl rfl⟩, fun s hs hb => FV.le_trans (hC.mono s hs F F _ G (leF.refl F) fun y hy => ((hG y).1 hy).1) (hk.site s hs (hm _ hb)), fun b hb hmb z hz => (hG _).2 ⟨hk.go b hb (hm b hmb) z hz, Or.inr ⟨b, hb, hm b hmb, rfl, hz⟩⟩⟩
  exact ((hG x).1 ((h.least F _ hcl).2 x hx)).2
theorem metB_one (G : Ways) (z b : Int) : metB G [z] b = decide ((z, b) ∈ G) := by simp [metB]
theorem metB_two (G : Ways) (y z b : Int) : metB G [y, z] b = (decide ((y, b) ∈ G) || decide ((z, b) ∈ G)) := by simp [metB]
theorem rdA_set {P : List Fn} {x : Ins} (h : x.op = 1) : rdA P x = false := by simp [rdA, h, readsAB]
theorem rdB_set {P : List Fn} {x : Ins} (h : x.op = 1) : rdB P x = false := by simp [rdB, h, readsBB]
section
variable {P : List Fn} {f : Fn} {S : List Nat} {T : Nat → Nat} {L : List Int} {pn : Nat} {g : List (Int × Int)} {D : PDat}
theorem SsaIs.insMem (h : SsaIs P f S T L pn g D) (ar : Nat → List Int) {b j : Nat} (hb : b < S.length) (hj : j < T b - S.getD b 0) : ((finD pn S.length g D ar).ins b).getD j noIns ∈ (finD pn S.length g D ar).ins b := by
  have hl : j < ((finD pn S.length g D ar).ins b).length := by rw [h.insLen ar hb]; exact hj
  have e : ((finD pn S.length g D ar).ins b).getD j noIns = ((finD pn S.length g D ar).ins b)[j] := by simp [List.getD, hl]
  rw [e]; exact List.getElem_mem hl
theorem SsaIs.setFact (h : SsaIs P f S T L pn g D) {ar : Nat → List Int} {F : Facts} {G : Ways} (hi : (fcOf f S T pn g D ar).know.Inv F G) (hk : (fcOf f S T pn g D ar).know.Closed F G) {b j : Nat} (hb : b < S.length) (hj : j < T b - S.getD b 0) (ho : (insD f (S.getD b 0 + j)).op = 1) :
    F (newI g (idsD pn S.length D) (madeI (S.getD b 0 + j))).toNat = if metB G (prevs f S T b) b = true then .known (insD f (S.getD b 0 + j)).imm else .never := by
  have hx := h.insEq ar hb hj
  have hmem := h.insMem ar hb hj
  rw [hx] at hmem
  have hid : (insN (newI g (idsD pn S.length D)) (insM P f (S.getD b 0 + j) (onR f (S.getD b 0) j (fromR f S T L b)))).id = newI g (idsD pn S.length D) (madeI (S.getD b 0 + j)) := by
    show newI _ _ (insM _ _ _ _).id = _
    rw [insM_id, ho, if_pos (by decide)]
  have ra : rdA P (insD f (S.getD b 0 + j)) = false := rdA_set ho
  have rb : rdB P (insD f (S.getD b 0 + j)) = false := rdB_set ho
  have ha : (insN (newI g (idsD pn S.length D)) (insM P f (S.getD b 0 + j) (onR f (S.getD b 0) j (fromR f S T L b)))).a = -1 := by
    show newI _ _ (if rdA _ _ = true then _ else -1) = -1
    rw [ra]; exact newI_none _ _
  have hbb : (insN (newI g (idsD pn S.length D)) (insM P f (S.getD b 0 + j) (onR f (S.getD b 0) j (fromR f S T L b)))).b = -1 := by
    show newI _ _ (if rdB _ _ = true then _ else -1) = -1
    rw [rb]; exact newI_none _ _
  have := set_fact hi hk (b := b) hb hmem (by rw [hid]; exact newI_ne (by unfold madeI; omega)) ho ha hbb
  rw [hid] at this
  exact this
theorem SsaIs.lastEq (h : SsaIs P f S T L pn g D) (ar : Nat → List Int) {b : Nat} (hb : b < S.length) (hT : 0 < T b - S.getD b 0) : (fcOf f S T pn g D ar).last b = insN (newI g (idsD pn S.length D)) (insM P f (S.getD b 0 + (T b - S.getD b 0 - 1)) (onR f (S.getD b 0) (T b - S.getD b 0 - 1) (fromR f S T L b))) := by
  show ((finD pn S.length g D ar).ins b).getD (((finD pn S.length g D ar).ins b).length - 1) noIns = _
  rw [h.insLen ar hb]
  exact h.insEq ar hb (by omega)
theorem SsaIs.goesEq (h : SsaIs P f S T L pn g D) (ar : Nat → List Int) {b : Nat} (hb : b < S.length) (hT : 0 < T b - S.getD b 0) (F : Facts) : (fcOf f S T pn g D ar).know.goes b F = goesF F (insD f (S.getD b 0 + (T b - S.getD b 0 - 1))).op (newI g (idsD pn S.length D) (if rdA P (insD f (S.getD b 0 + (T b - S.getD b 0 - 1))) = true then (onR f (S.getD b 0) (T b - S.getD b 0 - 1) (fromR f S T L b)).getD (insD f (S.getD b 0 + (T b - S.getD b 0 - 1))).a.toNat 0 else -1)) (nxI f S (T b)) (rank S (T b)) (rank S (insD f (S.getD b 0 + (T b - S.getD b 0 - 1))).imm.toNat) := by
  show goesF F ((fcOf f S T pn g D ar).last b).op ((fcOf f S T pn g D ar).last b).a (nxI f S (T b)) (rank S (T b)) (rank S ((fcOf f S T pn g D ar).last b).imm.toNat) = _
  rw [h.lastEq ar hb hT]; rfl
end
def sideF (n m : Int) : Fn := ⟨0, 2, [⟨1, 0, 0, 0, n⟩, ⟨16, 0, 0, 0, 4⟩, ⟨1, 1, 0, 0, m⟩, ⟨15, 0, 0, 0, 5⟩, ⟨1, 1, 0, 0, 8⟩, ⟨19, 0, 1, 0, 0⟩]⟩
section
variable (n m : Int)
theorem side_behind : ∀ pc, pc < 6 → behind (insD (sideF n m) pc) pc = [[1], [2, 4], [3], [5], [5], []].getD pc [] := fun pc h => by
  rcases (show pc = 0 ∨ pc = 1 ∨ pc = 2 ∨ pc = 3 ∨ pc = 4 ∨ pc = 5 by omega) with rfl | rfl | rfl | rfl | rfl | rfl <;> rfl
theorem side_way {r : Nat} (T : List Nat) (h0 : 0 ∈ T) (hs : ∀ pc ∈ T, pc < 6 → (setMask (insD (sideF n m) pc)).testBit r = false → ∀ q ∈ [[1], [2, 4], [3], [5], [5], []].getD pc [], q ∈ T) {q : Nat} (h : Way (sideF n m) r q) : q ∈ T := by
  induction h with
  | start => exact h0
  | @step pc tq hp hw hb ht ih =>
    have hp6 : pc < 6 := hp
    rw [side_behind n m pc hp6] at ht
    exact hs pc ih hp6 hb tq ht
theorem side_mask : ∀ pc, pc < 6 → setMask (insD (sideF n m) pc) = [1, 0, 2, 0, 2, 0].getD pc 0 := fun pc h => by
  rcases (show pc = 0 ∨ pc = 1 ∨ pc = 2 ∨ pc = 3 ∨ pc = 4 ∨ pc = 5 by omega) with rfl | rfl | rfl | rfl | rfl | rfl <;> rfl
theorem side_way0 {q : Nat} (h : Way (sideF n m) 0 q) : q ∈ [0] := side_way n m [0] (by simp) (fun pc hp h6 hb => by
  obtain rfl : pc = 0 := by simpa using hp
  rw [side_mask n m 0 h6] at hb
  exact absurd hb (by decide)) h
theorem side_way1 {q : Nat} (h : Way (sideF n m) 1 q) : q ∈ [0, 1, 2, 4] := side_way n m [0, 1, 2, 4] (by simp) (fun pc hp h6 hb => by
  rw [side_mask n m pc h6] at hb
  simp at hp
  rcases hp with rfl | rfl | rfl | rfl
  · simp
  · simp
  · exact absurd hb (by decide)
  · exact absurd hb (by decide)) h
theorem side_end : ¬ Way (sideF n m) 63 6 := fun h => by
  have := side_way n m [0, 1, 2, 3, 4, 5] (by simp) (fun pc hp h6 hb => by
    rcases (show pc = 0 ∨ pc = 1 ∨ pc = 2 ∨ pc = 3 ∨ pc = 4 ∨ pc = 5 by omega) with rfl | rfl | rfl | rfl | rfl | rfl <;> simp) h
  simp at this
theorem imm_set1 (z a b : Int) : immB z (hasOf 1) a b = true := by
  unfold immB; rw [if_pos (by decide)]
theorem side_code : codeProg [sideF n m] = 0 := by
  simp [codeProg, codeFunc, firstErr, codeInstr, sideF, imm_set1]
  decide
theorem side_right : ProofAns [sideF n m] 0 := by
  refine one_right (side_code n m) (fun pc hpc r hr => ?_) (side_end n m)
  have hpc : pc < 6 := hpc
  rcases (show pc = 0 ∨ pc = 1 ∨ pc = 2 ∨ pc = 3 ∨ pc = 4 ∨ pc = 5 by omega) with rfl | rfl | rfl | rfl | rfl | rfl
  · simp [readsL, rdA, rdB, insD, sideF, readsAB, readsBB] at hr
  · have : r = 0 := by simpa [readsL, rdA, rdB, insD, sideF, readsAB, readsBB] using hr
    subst this
    exact fun h => by have := side_way0 n m h; simp at this
  · simp [readsL, rdA, rdB, insD, sideF, readsAB, readsBB] at hr
  · simp [readsL, rdA, rdB, insD, sideF, readsAB, readsBB] at hr
  · simp [readsL, rdA, rdB, insD, sideF, readsAB, readsBB] at hr
  · have : r = 1 := by simpa [readsL, rdA, rdB, insD, sideF, readsAB, readsBB] using hr
    subst this
    exact fun h => by have := side_way1 n m h; simp at this
theorem side_reach : ∀ q, q < 6 → Way (sideF n m) 63 q := by
  have h0 : Way (sideF n m) 63 0 := Way.start (by show (0 : Int) ≤ 63; decide)
  have st : ∀ pc q, pc < 6 → Way (sideF n m) 63 pc → q ∈ behind (insD (sideF n m) pc) pc → Way (sideF n m) 63 q := fun pc q hp hw hq => Way.step hp hw (by rw [side_mask n m pc hp]; rcases (show pc = 0 ∨ pc = 1 ∨ pc = 2 ∨ pc = 3 ∨ pc = 4 ∨ pc = 5 by omega) with rfl | rfl | rfl | rfl | rfl | rfl <;> decide) hq
  have h1 := st 0 1 (by omega) h0 (by rw [side_behind n m 0 (by omega)]; simp)
  have h2 := st 1 2 (by omega) h1 (by rw [side_behind n m 1 (by omega)]; simp)
  have h4 := st 1 4 (by omega) h1 (by rw [side_behind n m 1 (by omega)]; simp)
  have h3 := st 2 3 (by omega) h2 (by rw [side_behind n m 2 (by omega)]; simp)
  have h5 := st 3 5 (by omega) h3 (by rw [side_behind n m 3 (by omega)]; simp)
  intro q hq
  rcases (show q = 0 ∨ q = 1 ∨ q = 2 ∨ q = 3 ∨ q = 4 ∨ q = 5 by omega) with rfl | rfl | rfl | rfl | rfl | rfl <;> assumption
theorem side_ok : FlowOk [sideF n m] (sideF n m) := flowOk_of (side_right n m) (by simp)
theorem side_starts : Starts (sideF n m) [0, 2, 4, 5] := by
  refine ⟨by decide, fun q => ⟨fun h => ?_, fun h => ?_⟩⟩
  · simp at h
    rcases h with rfl | rfl | rfl | rfl
    · exact Or.inl rfl
    · exact Or.inr ⟨1, by show 1 < 6; decide, side_reach n m 1 (by omega), by show (15 : Int) ≤ 16; decide, by rw [side_behind n m 1 (by omega)]; simp⟩
    · exact Or.inr ⟨1, by show 1 < 6; decide, side_reach n m 1 (by omega), by show (15 : Int) ≤ 16; decide, by rw [side_behind n m 1 (by omega)]; simp⟩
    · exact Or.inr ⟨3, by show 3 < 6; decide, side_reach n m 3 (by omega), by show (15 : Int) ≤ 15; decide, by rw [side_behind n m 3 (by omega)]; simp⟩
  · rcases h with rfl | ⟨pc, hp, -, ho, hq⟩
    · simp
    · have hp : pc < 6 := hp
      rw [side_behind n m pc hp] at hq
      rcases (show pc = 0 ∨ pc = 1 ∨ pc = 2 ∨ pc = 3 ∨ pc = 4 ∨ pc = 5 by omega) with rfl | rfl | rfl | rfl | rfl | rfl
      · exact absurd ho (by show ¬ (15 : Int) ≤ 1; decide)
      · simp at hq; rcases hq with rfl | rfl <;> simp
      · exact absurd ho (by show ¬ (15 : Int) ≤ 1; decide)
      · simp at hq; subst hq; simp
      · exact absurd ho (by show ¬ (15 : Int) ≤ 1; decide)
      · simp at hq
theorem side_ends : EndAt (sideF n m) [0, 2, 4, 5] 0 2 ∧ EndAt (sideF n m) [0, 2, 4, 5] 2 4 ∧ EndAt (sideF n m) [0, 2, 4, 5] 4 5 ∧ EndAt (sideF n m) [0, 2, 4, 5] 5 6 := by
  refine ⟨⟨by decide, by show 2 ≤ 6; decide, Or.inl (by show (15 : Int) ≤ 16; decide), fun j h1 h2 => ?_⟩, ⟨by decide, by show 4 ≤ 6; decide, Or.inl (by show (15 : Int) ≤ 15; decide), fun j h1 h2 => ?_⟩, ⟨by decide, by show 5 ≤ 6; decide, Or.inr (by decide), fun j h1 h2 => by omega⟩, ⟨by decide, by show 6 ≤ 6; decide, Or.inl (by show (15 : Int) ≤ 19; decide), fun j h1 h2 => by omega⟩⟩
  · obtain rfl : j = 1 := by omega
    exact ⟨by show (1 : Int) < 15; decide, by decide⟩
  · obtain rfl : j = 3 := by omega
    exact ⟨by show (1 : Int) < 15; decide, by decide⟩
theorem side_live {P : List Fn} {r : Nat} (h : LiveW P (sideF n m) r 5) : (rdMask P (insD (sideF n m) 5)).testBit r = true := by
  cases h with
  | read _ hr => exact hr
  | on _ _ ht _ => rw [side_behind n m 5 (by omega)] at ht; simp at ht
theorem side_read5 (P : List Fn) : rdMask P (insD (sideF n m) 5) = 2 := by simp [rdMask, rdA, rdB, insD, sideF, readsAB, readsBB]
variable {S : List Nat} {T : Nat → Nat} {L : List Int} {pn : Nat} {g : List (Int × Int)} {D : PDat}
theorem side_S (h : SsaIs [sideF n m] (sideF n m) S T L pn g D) : S = [0, 2, 4, 5] ∧ T 0 = 2 ∧ T 1 = 4 ∧ T 2 = 5 ∧ T 3 = 6 := by
  have e := h.ok.starts.unique (side_starts n m)
  subst e
  obtain ⟨e0, e1, e2, e3⟩ := side_ends n m
  exact ⟨rfl, (h.ok.ends 0 (by decide)).unique e0, (h.ok.ends 1 (by decide)).unique e1, (h.ok.ends 2 (by decide)).unique e2, (h.ok.ends 3 (by decide)).unique e3⟩
theorem side_nx : nxI (sideF n m) [0, 2, 4, 5] 2 = [1, 2] ∧ nxI (sideF n m) [0, 2, 4, 5] 4 = [3] ∧ nxI (sideF n m) [0, 2, 4, 5] 5 = [3] ∧ nxI (sideF n m) [0, 2, 4, 5] 6 = [] := ⟨rfl, rfl, rfl, rfl⟩
theorem side_prevs (h0 : T 0 = 2) (h1 : T 1 = 4) (h2 : T 2 = 5) (h3 : T 3 = 6) : prevs (sideF n m) [0, 2, 4, 5] T 0 = [-1] ∧ prevs (sideF n m) [0, 2, 4, 5] T 1 = [0] ∧ prevs (sideF n m) [0, 2, 4, 5] T 2 = [0] ∧ prevs (sideF n m) [0, 2, 4, 5] T 3 = [1, 2] := by
  obtain ⟨a, b, c, d⟩ := side_nx n m
  have hr : List.range ([0, 2, 4, 5] : List Nat).length = [0, 1, 2, 3] := rfl
  refine ⟨?_, ?_, ?_, ?_⟩ <;> unfold prevs pvI <;> rw [hr] <;> simp [List.filter, h0, h1, h2, h3, a, b, c, d]
theorem side_regs (h : SsaIs [sideF n m] (sideF n m) S T L pn g D) : fromR (sideF n m) S T L 3 = wantR 2 (phiR 3) ∧ (behR (sideF n m) S T L 1).getD 1 0 = madeI 2 ∧ (behR (sideF n m) S T L 2).getD 1 0 = madeI 4 ∧ (onR (sideF n m) 0 1 (fromR (sideF n m) S T L 0)).getD 0 0 = madeI 0 := by
  obtain ⟨rfl, h0, h1, h2, h3⟩ := side_S n m h
  obtain ⟨p0, p1, p2, p3⟩ := side_prevs n m h0 h1 h2 h3
  have hmk : ∀ r, r < 12 → ((mkL L 5).testBit r = true ↔ r = 1) := fun r hr => by
    rcases h.live.2 5 (by show 5 < 6; decide) with ⟨hw, -⟩ | ⟨-, mm, hm, e, hb⟩
    · exact absurd (side_reach n m 5 (by omega)) hw
    · have : mkL L 5 = mm := by unfold mkL; rw [e]; rfl
      rw [this, hb r hr]
      refine ⟨fun hl => ?_, fun e => ?_⟩
      · have := side_live n m hl
        rw [side_read5, show (2 : Nat) = 2 ^ 1 from rfl, Nat.testBit_two_pow] at this
        exact (of_decide_eq_true this).symm
      · subst e
        exact LiveW.read (by show 5 < 6; decide) (by rw [side_read5]; decide)
  have hl : ∀ b, b < 4 → (fromR (sideF n m) [0, 2, 4, 5] T L b).length = 12 := fun b hb => (fromR_is (side_ok n m) h.ok L hb).len
  refine ⟨?_, ?_, ?_, ?_⟩
  · rw [fromR_eq (FromR.joins (f := sideF n m) (S := [0, 2, 4, 5]) (T := T) (L := L) (b := 3) (by rw [p3]; decide))]
    show wantR (mkL L 5) (phiR 3) = _
    unfold wantR
    refine List.map_congr_left fun r hr => ?_
    have hr := List.mem_range.1 hr
    have e2 : (2 : Nat).testBit r = decide (1 = r) := by rw [show (2 : Nat) = 2 ^ 1 from rfl, Nat.testBit_two_pow]
    by_cases e : r = 1
    · rw [if_pos ((hmk r hr).2 e), if_pos (by rw [e2, e]; rfl)]
    · rw [if_neg (fun hb => e ((hmk r hr).1 hb)), if_neg (by rw [e2]; simpa using fun e' : 1 = r => e e'.symm)]
  · have e : behR (sideF n m) [0, 2, 4, 5] T L 1 = onR (sideF n m) 2 2 (fromR (sideF n m) [0, 2, 4, 5] T L 1) := by
      show (if (1 : Int) = -1 then _ else onR (sideF n m) 2 (T 1 - 2) _) = _
      rw [if_neg (by decide), h1]; rfl
    rw [e, onR_snoc, onR_snoc]
    show (onR (sideF n m) 2 0 _ |>.set 1 (madeI 2)).getD 1 0 = _
    have := hl 1 (by decide)
    simp [onR, List.getD, this]
  · have e : behR (sideF n m) [0, 2, 4, 5] T L 2 = onR (sideF n m) 4 1 (fromR (sideF n m) [0, 2, 4, 5] T L 2) := by
      show (if (2 : Int) = -1 then _ else onR (sideF n m) 4 (T 2 - 4) _) = _
      rw [if_neg (by decide), h2]; rfl
    rw [e, onR_snoc]
    show (onR (sideF n m) 4 0 _ |>.set 1 (madeI 4)).getD 1 0 = _
    have := hl 2 (by decide)
    simp [onR, List.getD, this]
  · rw [onR_snoc]
    show (onR (sideF n m) 0 0 _ |>.set 0 (madeI 0)).getD 0 0 = _
    have := hl 0 (by decide)
    simp [onR, List.getD, this]
theorem side_ph (h : SsaIs [sideF n m] (sideF n m) S T L pn g D) (hU : ∀ q, q < (sideF n m).code.length → Way (sideF n m) 63 q → ∀ r, r < 12 → (rdMask [sideF n m] (insD (sideF n m) q)).testBit r = true → ¬ Way (sideF n m) r q) : D.ph 3 = [⟨1, phiI 3 1, [madeI 2, madeI 4]⟩] := by
  have hr := side_regs n m h
  obtain ⟨rfl, h0, h1, h2, h3⟩ := side_S n m h
  obtain ⟨p0, p1, p2, p3⟩ := side_prevs n m h0 h1 h2 h3
  obtain ⟨r3, b1, b2, -⟩ := hr
  have e1 : phi1 (sideF n m) [0, 2, 4, 5] T L 3 1 = ⟨1, phiI 3 1, [madeI 2, madeI 4]⟩ := by
    unfold phi1
    rw [r3, p3, List.map_cons, List.map_cons, List.map_nil, b1, b2, wantR_get _ _ (by omega), phiR_get 3 (by omega), if_pos (by decide)]
  have e2 : phiM (sideF n m) [0, 2, 4, 5] T L 3 = [⟨1, phiI 3 1, [madeI 2, madeI 4]⟩] := by
    unfold phiM
    rw [if_pos (by rw [p3]; decide)]
    have hg : ∀ r, r < 12 → (fromR (sideF n m) [0, 2, 4, 5] T L 3).getD r 0 = if r = 1 then phiI 3 1 else -1 := fun r hr => by
      rw [r3, wantR_get _ _ hr, phiR_get 3 hr]
      have e2 : (2 : Nat).testBit r = decide (1 = r) := by rw [show (2 : Nat) = 2 ^ 1 from rfl, Nat.testBit_two_pow]
      rw [e2]
      by_cases e : r = 1
      · subst e; simp
      · rw [if_neg (by simpa using fun e' : 1 = r => e e'.symm), if_neg e]
    have step : ∀ r, r < 12 → phiTo (sideF n m) [0, 2, 4, 5] T L 3 (r + 1) = phiTo (sideF n m) [0, 2, 4, 5] T L 3 r ++ (if r = 1 then [⟨1, phiI 3 1, [madeI 2, madeI 4]⟩] else []) := fun r hr => by
      rw [phiTo, hg r hr]
      by_cases e : r = 1
      · subst e; rw [if_pos rfl, if_pos rfl, if_neg (by unfold phiI; omega), e1]
      · rw [if_neg e, if_neg e, if_pos rfl]
    rw [step 11 (by omega), step 10 (by omega), step 9 (by omega), step 8 (by omega), step 7 (by omega), step 6 (by omega), step 5 (by omega), step 4 (by omega), step 3 (by omega), step 2 (by omega), step 1 (by omega), step 0 (by omega)]
    simp [phiTo]
  rw [h.phFilter (side_ok n m) (b := 3) (by decide), e2]
  by_cases hl : isLeft g ⟨1, phiI 3 1, [madeI 2, madeI 4]⟩ = true
  · simp [hl]
  · have hw := h.went (side_ok n m) hU (b := 3) (by decide) (p := ⟨1, phiI 3 1, [madeI 2, madeI 4]⟩) (by rw [e2]; simp) (by simpa using hl)
    have a1 := hw (madeI 2) (by simp)
    have a2 := hw (madeI 4) (by simp)
    rw [h.own_self (side_ok n m) hU (by decide)] at a1 a2
    exact absurd (a1.trans a2.symm) (by decide)
theorem side_all (h : SsaIs [sideF n m] (sideF n m) S T L pn g D) (hU : ∀ q, q < (sideF n m).code.length → Way (sideF n m) 63 q → ∀ r, r < 12 → (rdMask [sideF n m] (insD (sideF n m) q)).testBit r = true → ¬ Way (sideF n m) r q) {ar : Nat → List Int} {F : Facts} {G : Ways} (hi : (fcOf (sideF n m) S T pn g D ar).know.Inv F G) (hk : (fcOf (sideF n m) S T pn g D ar).know.Closed F G) :
    S.length = 4 ∧ (∃ v : Nat, ∃ args, (finD pn S.length g D ar).ph 3 = [⟨1, (v : Int), args⟩] ∧ v < (idsD pn S.length D).length ∧ F v = .known (if n = 0 then m else 8)) ∧ metB G (prevs (sideF n m) S T 0) 0 = true ∧ metB G (prevs (sideF n m) S T 1) 1 = decide (n = 0) ∧ metB G (prevs (sideF n m) S T 2) 2 = decide (n ≠ 0) ∧ metB G (prevs (sideF n m) S T 3) 3 = true := by
  have hph := side_ph n m h hU
  have hrg := side_regs n m h
  have hok := h.fcOk (side_ok n m) hU (ar := ar)
  have hco := hok.know
  have hS := side_S n m h
  have hset := fun (b j : Nat) (hb : b < S.length) (hj : j < T b - S.getD b 0) (ho : (insD (sideF n m) (S.getD b 0 + j)).op = 1) => h.setFact hi hk hb hj ho
  have hgo := fun (b : Nat) (hb : b < S.length) (hT : 0 < T b - S.getD b 0) => h.goesEq ar hb hT F
  have hpm : (⟨1, phiI 3 1, [madeI 2, madeI 4]⟩ : PhiD) ∈ D.ph 3 := by rw [hph]; simp
  have hfi : (finD pn S.length g D ar).ph 3 = (D.ph 3).map (phN (newI g (idsD pn S.length D))) := finD_ph _ _ _ _ _ (by rw [hS.1]; decide)
  generalize hN : newI g (idsD pn S.length D) = N at *
  have hm0 : metB G (prevs (sideF n m) S T 0) 0 = true := met_first hi
  have honly := fun x hx => Know.Inv.only hco hi hk (x := x) hx
  have hclo := hk.go
  have hphf := fun (p : PhiD) (hp : p ∈ (fcOf (sideF n m) S T pn g D ar).PH 3) (hb : 3 < (fcOf (sideF n m) S T pn g D ar).n) => phi_fact hi hk hb hp
  have hidr := fun (p : PhiD) (hp : p ∈ (finD pn S.length g D ar).ph 3) (hb : 3 < S.length) => (hok.ph 3 hb).2 p hp
  have hmet : ∀ b, b < S.length → ((fcOf (sideF n m) S T pn g D ar).know.met G b ↔ metB G (prevs (sideF n m) S T b) b = true) := fun b _ => FC.met_iff.symm
  have hnn : (fcOf (sideF n m) S T pn g D ar).know.n = S.length := rfl
  have hPH : (fcOf (sideF n m) S T pn g D ar).PH 3 = (finD pn S.length g D ar).ph 3 := rfl
  have hVN : (fcOf (sideF n m) S T pn g D ar).VN = (idsD pn S.length D).length := rfl
  have hPV : (fcOf (sideF n m) S T pn g D ar).PV 3 = prevs (sideF n m) S T 3 := rfl
  have hn4 : (fcOf (sideF n m) S T pn g D ar).n = S.length := rfl
  rw [hPH, hPV, hn4] at hphf
  rw [hVN] at hidr
  generalize (fcOf (sideF n m) S T pn g D ar).know = KN at *
  generalize (idsD pn S.length D).length = vn at *
  obtain ⟨rfl, t0, t1, t2, t3⟩ := hS
  obtain ⟨p0, p1, p2, p3⟩ := side_prevs n m t0 t1 t2 t3
  obtain ⟨x0, x1, x2, x3⟩ := side_nx n m
  obtain ⟨-, -, -, o0⟩ := hrg
  have f0 := hset 0 0 (by decide) (by rw [t0]; decide) rfl
  have f2 := hset 1 0 (by decide) (by rw [t1]; decide) rfl
  have f4 := hset 2 0 (by decide) (by rw [t2]; decide) rfl
  have g0 := hgo 0 (by decide) (by rw [t0]; decide)
  have g1 := hgo 1 (by decide) (by rw [t1]; decide)
  have g2 := hgo 2 (by decide) (by rw [t2]; decide)
  have hm0' : metB G (prevs (sideF n m) [0, 2, 4, 5] T 0) ((0 : Nat) : Int) = true := hm0
  rw [if_pos hm0'] at f0
  rw [t0] at g0
  rw [t1] at g1
  rw [t2] at g2
  have f0 : F (N (madeI 0)).toNat = .known n := f0
  have f2 : F (N (madeI 2)).toNat = if metB G (prevs (sideF n m) [0, 2, 4, 5] T 1) 1 = true then .known m else .never := f2
  have f4 : F (N (madeI 4)).toNat = if metB G (prevs (sideF n m) [0, 2, 4, 5] T 2) 2 = true then .known 8 else .never := f4
  have e1 : (if rdA [sideF n m] (insD (sideF n m) 1) = true then (onR (sideF n m) 0 1 (fromR (sideF n m) [0, 2, 4, 5] T L 0)).getD 0 0 else -1) = madeI 0 := by
    rw [if_pos (by simp [rdA, insD, sideF, readsAB])]; exact o0
  have g0 : KN.goes 0 F = if n = 0 then [1] else [2] := by
    refine g0.trans ?_
    show goesF F 16 (N (if rdA [sideF n m] (insD (sideF n m) 1) = true then (onR (sideF n m) 0 1 (fromR (sideF n m) [0, 2, 4, 5] T L 0)).getD 0 0 else -1)) (nxI (sideF n m) [0, 2, 4, 5] 2) 1 2 = _
    rw [e1]
    unfold goesF
    rw [if_neg (by decide), f0]
    rfl
  have g1 : KN.goes 1 F = [3] := by
    refine g1.trans ?_
    show goesF F 15 _ (nxI (sideF n m) [0, 2, 4, 5] 4) _ _ = _
    unfold goesF
    rw [if_pos (by decide), x1]
  have g2 : KN.goes 2 F = [3] := by
    refine g2.trans ?_
    show goesF F 1 _ (nxI (sideF n m) [0, 2, 4, 5] 5) _ _ = _
    unfold goesF
    rw [if_pos (by decide), x2]
  have i01 : ((0 : Int), (1 : Int)) ∈ G ↔ n = 0 := by
    refine ⟨fun hx => ?_, fun e => hclo 0 (by rw [hnn]; decide) ((hmet 0 (by decide)).2 hm0') 1 (by rw [g0, if_pos e]; simp)⟩
    rcases honly _ hx with e | ⟨b, -, -, e, hz⟩
    · exact absurd (congrArg Prod.fst e) (by decide)
    · have e : (0 : Int) = (b : Int) := e
      obtain rfl : b = 0 := by omega
      rw [g0] at hz
      by_cases hn : n = 0
      · exact hn
      · rw [if_neg hn] at hz; simp at hz
  have i02 : ((0 : Int), (2 : Int)) ∈ G ↔ n ≠ 0 := by
    refine ⟨fun hx hn => ?_, fun e => hclo 0 (by rw [hnn]; decide) ((hmet 0 (by decide)).2 hm0') 2 (by rw [g0, if_neg e]; simp)⟩
    rcases honly _ hx with e | ⟨b, -, -, e, hz⟩
    · exact absurd (congrArg Prod.fst e) (by decide)
    · have e : (0 : Int) = (b : Int) := e
      obtain rfl : b = 0 := by omega
      rw [g0, if_pos hn] at hz
      simp at hz
  have m1 : metB G (prevs (sideF n m) [0, 2, 4, 5] T 1) 1 = decide (n = 0) := by
    rw [p1, metB_one]; exact decide_eq_decide.2 i01
  have m2 : metB G (prevs (sideF n m) [0, 2, 4, 5] T 2) 2 = decide (n ≠ 0) := by
    rw [p2, metB_one]; exact decide_eq_decide.2 i02
  have i13 : ((1 : Int), (3 : Int)) ∈ G ↔ n = 0 := by
    refine ⟨fun hx => ?_, fun e => hclo 1 (by rw [hnn]; decide) ((hmet 1 (by decide)).2 (m1.trans (decide_eq_true e))) 3 (by rw [g1]; simp)⟩
    rcases honly _ hx with e | ⟨b, -, hb, e, -⟩
    · exact absurd (congrArg Prod.fst e) (by decide)
    · have e : (1 : Int) = (b : Int) := e
      obtain rfl : b = 1 := by omega
      exact of_decide_eq_true (m1.symm.trans ((hmet 1 (by decide)).1 hb))
  have i23 : ((2 : Int), (3 : Int)) ∈ G ↔ n ≠ 0 := by
    refine ⟨fun hx => ?_, fun e => hclo 2 (by rw [hnn]; decide) ((hmet 2 (by decide)).2 (m2.trans (decide_eq_true e))) 3 (by rw [g2]; simp)⟩
    rcases honly _ hx with e | ⟨b, -, hb, e, -⟩
    · exact absurd (congrArg Prod.fst e) (by decide)
    · have e : (2 : Int) = (b : Int) := e
      obtain rfl : b = 2 := by omega
      exact of_decide_eq_true (m2.symm.trans ((hmet 2 (by decide)).1 hb))
  have m3 : metB G (prevs (sideF n m) [0, 2, 4, 5] T 3) 3 = true := by
    rw [p3, metB_two]
    by_cases hn : n = 0
    · rw [decide_eq_true (i13.2 hn), Bool.true_or]
    · rw [decide_eq_true (i23.2 hn), Bool.or_true]
  refine ⟨rfl, ?_, hm0, m1, m2, m3⟩
  have hp : phN N ⟨1, phiI 3 1, [madeI 2, madeI 4]⟩ ∈ (finD pn [0, 2, 4, 5].length g D ar).ph 3 := by rw [hfi, hph]; simp
  obtain ⟨-, hlo, hhi, -⟩ := hidr _ hp (by decide)
  have hlo : (0 : Int) ≤ N (phiI 3 1) := Int.le_trans (Int.natCast_nonneg _) hlo
  have hhi : N (phiI 3 1) < (vn : Int) := hhi
  have hf := hphf _ hp (by decide)
  have m3' : metB G (prevs (sideF n m) [0, 2, 4, 5] T 3) ((3 : Nat) : Int) = true := m3
  rw [if_pos m3', p3] at hf
  have hf : F (N (phiI 3 1)).toNat = comesT F G 3 [1, 2] [N (madeI 2), N (madeI 4)] 2 := hf
  refine ⟨(N (phiI 3 1)).toNat, [N (madeI 2), N (madeI 4)], ?_, by omega, ?_⟩
  · rw [hfi, hph, Int.toNat_of_nonneg hlo]; rfl
  · rw [hf]
    show (if ((2 : Int), (3 : Int)) ∈ G then eitherF (if ((1 : Int), (3 : Int)) ∈ G then eitherF .never (F (N (madeI 2)).toNat) else .never) (F (N (madeI 4)).toNat) else (if ((1 : Int), (3 : Int)) ∈ G then eitherF .never (F (N (madeI 2)).toNat) else .never)) = _
    rw [f2, f4, m1, m2]
    by_cases hn : n = 0
    · rw [if_neg (fun h2 => i23.1 h2 hn), if_pos (i13.2 hn), if_pos (decide_eq_true hn), if_pos hn]
      simp [eitherF]
    · rw [if_pos (i23.2 hn), if_neg (fun h2 => hn (i13.1 h2)), if_pos (decide_eq_true hn), if_neg hn]
      simp [eitherF]
end
end Go.Proofs.YtldbmdgpdolaaaaGreatDoor
