import Derived.Test.YtldbmdgpdolaaaaGreatDoorPGroupB
import Derived.Test.YtldbmdgpdolaaaaGreatDoorPXFoldFacts
import Derived.Test.YtldbmdgpdolaaaaGreatDoorPXSideMath
namespace Go.Proofs.YtldbmdgpdolaaaaGreatDoor
open Go Go.RowKit

theorem Know.Inv.lower {C : Know} (hC : C.Ok) {F : Facts} {G : Ways} (h : C.Inv F G) (hk : C.Closed F G) {s1 s2 : Site} (h1 : C.site s1) (h2 : C.site s2) {u : FV} (l1 : u.le (F s1.id)) (l2 : u.le (F s2.id))
    (c1 : ∀ F', leF F' F → F' s2.id = u → (s1.tr F' G).le u) (c2 : ∀ F', leF F' F → F' s1.id = u → (s2.tr F' G).le u) : F s1.id = u := by
  have f1 : updF (updF F s1.id u) s2.id u s1.id = u := by
    by_cases e : s1.id = s2.id
    · rw [e, updF_same]
    · rw [updF_other _ _ e, updF_same]
  have f2 : updF (updF F s1.id u) s2.id u s2.id = u := updF_same _ _ _
  have fo : ∀ v, v ≠ s1.id → v ≠ s2.id → updF (updF F s1.id u) s2.id u v = F v := fun v e1 e2 => by rw [updF_other _ _ e2, updF_other _ _ e1]
  have hle : leF (updF (updF F s1.id u) s2.id u) F := fun v => by
    by_cases e1 : v = s1.id
    · rw [e1, f1]; exact l1
    · by_cases e2 : v = s2.id
      · rw [e2, f2]; exact l2
      · rw [fo v e1 e2]; exact FV.le_refl _
  generalize updF (updF F s1.id u) s2.id u = F' at *
  have b1 := (hC.blk s1 h1).2
  have b2 := (hC.blk s2 h2).2
  have hcl : C.Closed F' G := ⟨fun v hv => by rw [fo v (by omega) (by omega)]; exact hk.par v hv, hk.start, fun s hs hm => by
    by_cases e1 : s.id = s1.id
    · have e := hC.uniq s s1 hs h1 e1
      subst e
      rw [f1]; exact c1 F' hle f2
    · by_cases e2 : s.id = s2.id
      · have e := hC.uniq s s2 hs h2 e2
        subst e
        rw [f2]; exact c2 F' hle f1
      · rw [fo _ e1 e2]
        exact FV.le_trans (hC.mono s hs F' F G G hle (fun _ h => h)) (hk.site s hs hm), fun b hb hm z hz => hk.go b hb hm z (hC.goes b hb F' F hle z hz)⟩
  have := (h.least F' G hcl).1 s1.id
  rw [f1] at this
  exact FV.le_antisymm this l1
theorem or_self (n : Int) (h : I64 n) : bits .or .i64 n n = n := by
  unfold I64 at h
  have e := to_bv n (by omega) (by omega)
  have := bits_or_bv (BitVec.ofInt 64 n) (BitVec.ofInt 64 n)
  rw [e, BitVec.or_self, e] at this
  exact this
section
variable {P : List Fn} {f : Fn} {S : List Nat} {T : Nat → Nat} {L : List Int} {pn : Nat} {g : List (Int × Int)} {D : PDat}
theorem SsaIs.insFact (h : SsaIs P f S T L pn g D) {ar : Nat → List Int} {F : Facts} {G : Ways} (hi : (fcOf f S T pn g D ar).know.Inv F G) (hk : (fcOf f S T pn g D ar).know.Closed F G) {b j : Nat} (hb : b < S.length) (hj : j < T b - S.getD b 0) (ho : setsB (insD f (S.getD b 0 + j)).op = true) :
    insN (newI g (idsD pn S.length D)) (insM P f (S.getD b 0 + j) (onR f (S.getD b 0) j (fromR f S T L b))) ∈ (finD pn S.length g D ar).ins b ∧ (insN (newI g (idsD pn S.length D)) (insM P f (S.getD b 0 + j) (onR f (S.getD b 0) j (fromR f S T L b)))).id = newI g (idsD pn S.length D) (madeI (S.getD b 0 + j)) ∧
    F (newI g (idsD pn S.length D) (madeI (S.getD b 0 + j))).toNat = if metB G (prevs f S T b) b = true then madeF (insN (newI g (idsD pn S.length D)) (insM P f (S.getD b 0 + j) (onR f (S.getD b 0) j (fromR f S T L b)))) (rdF F (insN (newI g (idsD pn S.length D)) (insM P f (S.getD b 0 + j) (onR f (S.getD b 0) j (fromR f S T L b)))).a) (rdF F (insN (newI g (idsD pn S.length D)) (insM P f (S.getD b 0 + j) (onR f (S.getD b 0) j (fromR f S T L b)))).b) else .never := by
  have hx := h.insEq ar hb hj
  have hmem := h.insMem ar hb hj
  rw [hx] at hmem
  have hid : (insN (newI g (idsD pn S.length D)) (insM P f (S.getD b 0 + j) (onR f (S.getD b 0) j (fromR f S T L b)))).id = newI g (idsD pn S.length D) (madeI (S.getD b 0 + j)) := by
    show newI _ _ (insM _ _ _ _).id = _
    rw [insM_id, if_pos ho]
  refine ⟨hmem, hid, ?_⟩
  have := ins_fact hi hk (b := b) hb hmem (by rw [hid]; exact newI_ne (by unfold madeI; omega))
  rw [hid] at this
  exact this
end
def loopF (n m : Int) : Fn := ⟨1, 4, [⟨1, 1, 0, 0, n⟩, ⟨1, 2, 0, 0, m⟩, ⟨1, 3, 0, 0, -1⟩, ⟨16, 0, 0, 0, 5⟩, ⟨19, 0, 1, 0, 0⟩, ⟨2, 2, 2, 3, 0⟩, ⟨7, 1, 1, 1, 0⟩, ⟨2, 0, 0, 2, 0⟩, ⟨15, 0, 0, 0, 3⟩]⟩
section
variable (n m : Int)
theorem nine {pc : Nat} (h : pc < 9) : pc = 0 ∨ pc = 1 ∨ pc = 2 ∨ pc = 3 ∨ pc = 4 ∨ pc = 5 ∨ pc = 6 ∨ pc = 7 ∨ pc = 8 := by omega
theorem loop_behind : ∀ pc, pc < 9 → behind (insD (loopF n m) pc) pc = [[1], [2], [3], [4, 5], [], [6], [7], [8], [3]].getD pc [] := fun pc h => by
  rcases nine h with rfl | rfl | rfl | rfl | rfl | rfl | rfl | rfl | rfl <;> rfl
theorem loop_mask : ∀ pc, pc < 9 → setMask (insD (loopF n m) pc) = [2, 4, 8, 0, 0, 4, 2, 1, 0].getD pc 0 := fun pc h => by
  rcases nine h with rfl | rfl | rfl | rfl | rfl | rfl | rfl | rfl | rfl <;> rfl
theorem loop_rd (P : List Fn) : ∀ pc, pc < 9 → rdMask P (insD (loopF n m) pc) = [0, 0, 0, 1, 2, 12, 2, 5, 0].getD pc 0 := fun pc h => by
  rcases nine h with rfl | rfl | rfl | rfl | rfl | rfl | rfl | rfl | rfl <;> simp [rdMask, rdA, rdB, insD, loopF, readsAB, readsBB]
theorem loop_way {r : Nat} (T : List Nat) (h0 : (1 : Int) ≤ (r : Int) → 0 ∈ T) (hs : ∀ pc ∈ T, pc < 9 → (setMask (insD (loopF n m) pc)).testBit r = false → ∀ q ∈ [[1], [2], [3], [4, 5], [], [6], [7], [8], [3]].getD pc [], q ∈ T) {q : Nat} (h : Way (loopF n m) r q) : q ∈ T := by
  induction h with
  | start hp => exact h0 hp
  | @step pc tq hp hw hb ht ih =>
    have hp9 : pc < 9 := hp
    rw [loop_behind n m pc hp9] at ht
    exact hs pc ih hp9 hb tq ht
theorem loop_way0 {q : Nat} (h : Way (loopF n m) 0 q) : q ∈ ([] : List Nat) := loop_way n m [] (fun h => by omega) (fun pc hp => by simp at hp) h
theorem loop_way1 {q : Nat} (h : Way (loopF n m) 1 q) : q ∈ [0] := loop_way n m [0] (fun _ => by simp) (fun pc hp h9 hb => by
  obtain rfl : pc = 0 := by simpa using hp
  rw [loop_mask n m 0 h9] at hb
  exact absurd hb (by decide)) h
theorem loop_way2 {q : Nat} (h : Way (loopF n m) 2 q) : q ∈ [0, 1] := loop_way n m [0, 1] (fun _ => by simp) (fun pc hp h9 hb => by
  rw [loop_mask n m pc h9] at hb
  simp at hp
  rcases hp with rfl | rfl
  · simp
  · exact absurd hb (by decide)) h
theorem loop_way3 {q : Nat} (h : Way (loopF n m) 3 q) : q ∈ [0, 1, 2] := loop_way n m [0, 1, 2] (fun _ => by simp) (fun pc hp h9 hb => by
  rw [loop_mask n m pc h9] at hb
  simp at hp
  rcases hp with rfl | rfl | rfl
  · simp
  · simp
  · exact absurd hb (by decide)) h
theorem loop_end : ¬ Way (loopF n m) 63 9 := fun h => by
  have := loop_way n m [0, 1, 2, 3, 4, 5, 6, 7, 8] (fun _ => by simp) (fun pc hp h9 hb => by
    rcases nine h9 with rfl | rfl | rfl | rfl | rfl | rfl | rfl | rfl | rfl <;> simp) h
  simp at this
theorem loop_code : codeProg [loopF n m] = 0 := by
  simp [codeProg, codeFunc, firstErr, codeInstr, loopF, imm_set1]
  decide
theorem loop_right : ProofAns [loopF n m] 0 := by
  refine one_right (loop_code n m) (fun pc hpc r hr => ?_) (loop_end n m)
  have hpc : pc < 9 := hpc
  rcases nine hpc with rfl | rfl | rfl | rfl | rfl | rfl | rfl | rfl | rfl
  · simp [readsL, rdA, rdB, insD, loopF, readsAB, readsBB] at hr
  · simp [readsL, rdA, rdB, insD, loopF, readsAB, readsBB] at hr
  · simp [readsL, rdA, rdB, insD, loopF, readsAB, readsBB] at hr
  · have : r = 0 := by simpa [readsL, rdA, rdB, insD, loopF, readsAB, readsBB] using hr
    subst this
    exact fun h => by have := loop_way0 n m h; simp at this
  · have : r = 1 := by simpa [readsL, rdA, rdB, insD, loopF, readsAB, readsBB] using hr
    subst this
    exact fun h => by have := loop_way1 n m h; simp at this
  · have : r = 2 ∨ r = 3 := by simpa [readsL, rdA, rdB, insD, loopF, readsAB, readsBB] using hr
    rcases this with rfl | rfl
    · exact fun h => by have := loop_way2 n m h; simp at this
    · exact fun h => by have := loop_way3 n m h; simp at this
  · have : r = 1 := by simpa [readsL, rdA, rdB, insD, loopF, readsAB, readsBB] using hr
    subst this
    exact fun h => by have := loop_way1 n m h; simp at this
  · have : r = 0 ∨ r = 2 := by simpa [readsL, rdA, rdB, insD, loopF, readsAB, readsBB] using hr
    rcases this with rfl | rfl
    · exact fun h => by have := loop_way0 n m h; simp at this
    · exact fun h => by have := loop_way2 n m h; simp at this
  · simp [readsL, rdA, rdB, insD, loopF, readsAB, readsBB] at hr
theorem loop_reach : ∀ q, q < 9 → Way (loopF n m) 63 q := by
  have h0 : Way (loopF n m) 63 0 := Way.start (by show (1 : Int) ≤ 63; decide)
  have st : ∀ pc q, pc < 9 → Way (loopF n m) 63 pc → q ∈ [[1], [2], [3], [4, 5], [], [6], [7], [8], [3]].getD pc [] → Way (loopF n m) 63 q := fun pc q hp hw hq => Way.step hp hw (by rw [loop_mask n m pc hp]; rcases nine hp with rfl | rfl | rfl | rfl | rfl | rfl | rfl | rfl | rfl <;> decide) (by rw [loop_behind n m pc hp]; exact hq)
  have h1 := st 0 1 (by omega) h0 (by simp)
  have h2 := st 1 2 (by omega) h1 (by simp)
  have h3 := st 2 3 (by omega) h2 (by simp)
  have h4 := st 3 4 (by omega) h3 (by simp)
  have h5 := st 3 5 (by omega) h3 (by simp)
  have h6 := st 5 6 (by omega) h5 (by simp)
  have h7 := st 6 7 (by omega) h6 (by simp)
  have h8 := st 7 8 (by omega) h7 (by simp)
  intro q hq
  rcases nine hq with rfl | rfl | rfl | rfl | rfl | rfl | rfl | rfl | rfl <;> assumption
theorem loop_ok : FlowOk [loopF n m] (loopF n m) := flowOk_of (loop_right n m) (by simp)
theorem loop_starts : Starts (loopF n m) [0, 3, 4, 5] := by
  refine ⟨by decide, fun q => ⟨fun h => ?_, fun h => ?_⟩⟩
  · simp at h
    rcases h with rfl | rfl | rfl | rfl
    · exact Or.inl rfl
    · exact Or.inr ⟨8, by show 8 < 9; decide, loop_reach n m 8 (by omega), by show (15 : Int) ≤ 15; decide, by rw [loop_behind n m 8 (by omega)]; simp⟩
    · exact Or.inr ⟨3, by show 3 < 9; decide, loop_reach n m 3 (by omega), by show (15 : Int) ≤ 16; decide, by rw [loop_behind n m 3 (by omega)]; simp⟩
    · exact Or.inr ⟨3, by show 3 < 9; decide, loop_reach n m 3 (by omega), by show (15 : Int) ≤ 16; decide, by rw [loop_behind n m 3 (by omega)]; simp⟩
  · rcases h with rfl | ⟨pc, hp, -, ho, hq⟩
    · simp
    · have hp : pc < 9 := hp
      rw [loop_behind n m pc hp] at hq
      rcases nine hp with rfl | rfl | rfl | rfl | rfl | rfl | rfl | rfl | rfl
      · exact absurd ho (by show ¬ (15 : Int) ≤ 1; decide)
      · exact absurd ho (by show ¬ (15 : Int) ≤ 1; decide)
      · exact absurd ho (by show ¬ (15 : Int) ≤ 1; decide)
      · simp at hq; rcases hq with rfl | rfl <;> simp
      · simp at hq
      · exact absurd ho (by show ¬ (15 : Int) ≤ 2; decide)
      · exact absurd ho (by show ¬ (15 : Int) ≤ 7; decide)
      · exact absurd ho (by show ¬ (15 : Int) ≤ 2; decide)
      · simp at hq; subst hq; simp
theorem loop_ends : EndAt (loopF n m) [0, 3, 4, 5] 0 3 ∧ EndAt (loopF n m) [0, 3, 4, 5] 3 4 ∧ EndAt (loopF n m) [0, 3, 4, 5] 4 5 ∧ EndAt (loopF n m) [0, 3, 4, 5] 5 9 := by
  refine ⟨⟨by decide, by show 3 ≤ 9; decide, Or.inr (by decide), fun j h1 h2 => ?_⟩, ⟨by decide, by show 4 ≤ 9; decide, Or.inl (by show (15 : Int) ≤ 16; decide), fun j h1 h2 => by omega⟩, ⟨by decide, by show 5 ≤ 9; decide, Or.inl (by show (15 : Int) ≤ 19; decide), fun j h1 h2 => by omega⟩, ⟨by decide, by show 9 ≤ 9; decide, Or.inl (by show (15 : Int) ≤ 15; decide), fun j h1 h2 => ?_⟩⟩
  · rcases (show j = 1 ∨ j = 2 by omega) with rfl | rfl
    · exact ⟨by show (1 : Int) < 15; decide, by decide⟩
    · exact ⟨by show (1 : Int) < 15; decide, by decide⟩
  · rcases (show j = 6 ∨ j = 7 ∨ j = 8 by omega) with rfl | rfl | rfl
    · exact ⟨by show (2 : Int) < 15; decide, by decide⟩
    · exact ⟨by show (7 : Int) < 15; decide, by decide⟩
    · exact ⟨by show (2 : Int) < 15; decide, by decide⟩
theorem loop_live {P : List Fn} {r q : Nat} (h : LiveW P (loopF n m) r q) : r < 4 := by
  induction h with
  | @read pc hp hr =>
    have hp : pc < 9 := hp
    rw [loop_rd n m P pc hp] at hr
    rcases Nat.lt_or_ge r 4 with h | h
    · exact h
    · have : ∀ k, k < 16 → k.testBit r = false := fun k hk => Nat.testBit_lt_two_pow (Nat.lt_of_lt_of_le hk (by have := Nat.pow_le_pow_right (n := 2) (by decide) h; simpa using this))
      rw [this _ (by rcases nine hp with rfl | rfl | rfl | rfl | rfl | rfl | rfl | rfl | rfl <;> decide)] at hr
      cases hr
  | on _ _ _ _ ih => exact ih
theorem loop_lives (P : List Fn) {r : Nat} (h : r < 4) : LiveW P (loopF n m) r 3 := by
  have on3 : ∀ {r q : Nat}, q ∈ [4, 5] → LiveW P (loopF n m) r q → LiveW P (loopF n m) r 3 := fun hq hw => LiveW.on (by show 3 < 9; decide) (by rw [loop_mask n m 3 (by omega)]; simp) (by rw [loop_behind n m 3 (by omega)]; exact hq) hw
  rcases (show r = 0 ∨ r = 1 ∨ r = 2 ∨ r = 3 by omega) with rfl | rfl | rfl | rfl
  · exact LiveW.read (by show 3 < 9; decide) (by rw [loop_rd n m P 3 (by omega)]; decide)
  · exact on3 (q := 4) (by simp) (LiveW.read (by show 4 < 9; decide) (by rw [loop_rd n m P 4 (by omega)]; decide))
  · exact on3 (q := 5) (by simp) (LiveW.read (by show 5 < 9; decide) (by rw [loop_rd n m P 5 (by omega)]; decide))
  · exact on3 (q := 5) (by simp) (LiveW.read (by show 5 < 9; decide) (by rw [loop_rd n m P 5 (by omega)]; decide))
variable {S : List Nat} {T : Nat → Nat} {L : List Int} {pn : Nat} {g : List (Int × Int)} {D : PDat}
theorem loop_S (h : SsaIs [loopF n m] (loopF n m) S T L pn g D) : S = [0, 3, 4, 5] ∧ T 0 = 3 ∧ T 1 = 4 ∧ T 2 = 5 ∧ T 3 = 9 := by
  have e := h.ok.starts.unique (loop_starts n m)
  subst e
  obtain ⟨e0, e1, e2, e3⟩ := loop_ends n m
  exact ⟨rfl, (h.ok.ends 0 (by decide)).unique e0, (h.ok.ends 1 (by decide)).unique e1, (h.ok.ends 2 (by decide)).unique e2, (h.ok.ends 3 (by decide)).unique e3⟩
theorem loop_nx : nxI (loopF n m) [0, 3, 4, 5] 3 = [1] ∧ nxI (loopF n m) [0, 3, 4, 5] 4 = [2, 3] ∧ nxI (loopF n m) [0, 3, 4, 5] 5 = [] ∧ nxI (loopF n m) [0, 3, 4, 5] 9 = [1] := ⟨rfl, rfl, rfl, rfl⟩
theorem loop_prevs (h0 : T 0 = 3) (h1 : T 1 = 4) (h2 : T 2 = 5) (h3 : T 3 = 9) : prevs (loopF n m) [0, 3, 4, 5] T 0 = [-1] ∧ prevs (loopF n m) [0, 3, 4, 5] T 1 = [0, 3] ∧ prevs (loopF n m) [0, 3, 4, 5] T 2 = [1] ∧ prevs (loopF n m) [0, 3, 4, 5] T 3 = [1] := by
  obtain ⟨a, b, c, d⟩ := loop_nx n m
  have hr : List.range ([0, 3, 4, 5] : List Nat).length = [0, 1, 2, 3] := rfl
  refine ⟨?_, ?_, ?_, ?_⟩ <;> unfold prevs pvI <;> rw [hr] <;> simp [List.filter, h0, h1, h2, h3, a, b, c, d]
theorem loop_mk (h : SsaIs [loopF n m] (loopF n m) S T L pn g D) {r : Nat} (hr : r < 12) : (mkL L 3).testBit r = true ↔ r < 4 := by
  rcases h.live.2 3 (by show 3 < 9; decide) with ⟨hw, -⟩ | ⟨-, mm, hm, e, hb⟩
  · exact absurd (loop_reach n m 3 (by omega)) hw
  · have : mkL L 3 = mm := by unfold mkL; rw [e]; rfl
    rw [this, hb r hr]
    exact ⟨fun hl => loop_live n m hl, fun hl => loop_lives n m _ hl⟩
theorem loop_regs (h : SsaIs [loopF n m] (loopF n m) S T L pn g D) : fromR (loopF n m) S T L 0 = parR 1 ∧ fromR (loopF n m) S T L 1 = wantR 15 (phiR 1) ∧ fromR (loopF n m) S T L 3 = wantR 15 (phiR 1) ∧ behR (loopF n m) S T L 0 = onR (loopF n m) 0 3 (parR 1) ∧ behR (loopF n m) S T L 3 = onR (loopF n m) 5 4 (wantR 15 (phiR 1)) := by
  have hmk := fun r (hr : r < 12) => loop_mk n m h hr
  obtain ⟨rfl, h0, h1, h2, h3⟩ := loop_S n m h
  obtain ⟨p0, p1, p2, p3⟩ := loop_prevs n m h0 h1 h2 h3
  have r0 : fromR (loopF n m) [0, 3, 4, 5] T L 0 = parR 1 := fromR_eq (FromR.first p0)
  have f1 : FromR (loopF n m) [0, 3, 4, 5] T L 1 (wantR 15 (phiR 1)) := by
    have e : wantR (mkL L 3) (phiR 1) = wantR 15 (phiR 1) := by
      unfold wantR
      refine List.map_congr_left fun r hr => ?_
      have hr := List.mem_range.1 hr
      by_cases e : r < 4
      · rw [if_pos ((hmk r hr).2 e), if_pos (by rcases (show r = 0 ∨ r = 1 ∨ r = 2 ∨ r = 3 by omega) with rfl | rfl | rfl | rfl <;> decide)]
      · rw [if_neg (fun hb => e ((hmk r hr).1 hb)), if_neg (by rw [Nat.testBit_lt_two_pow (Nat.lt_of_lt_of_le (by decide : 15 < 2 ^ 4) (Nat.pow_le_pow_right (by decide) (by omega)))]; decide)]
    rw [← e]
    exact FromR.joins (f := loopF n m) (S := [0, 3, 4, 5]) (T := T) (L := L) (b := 1) (by rw [p1]; decide)
  have r1 := fromR_eq f1
  have r3 : fromR (loopF n m) [0, 3, 4, 5] T L 3 = wantR 15 (phiR 1) := by
    have e := fromR_eq (FromR.one (b := 3) (j := 1) (by rw [p3]; rfl) f1)
    rw [e, h1]; rfl
  refine ⟨r0, r1, r3, ?_, ?_⟩
  · show (if (0 : Int) = -1 then _ else onR (loopF n m) 0 (T 0 - 0) (fromR (loopF n m) [0, 3, 4, 5] T L 0)) = _
    rw [if_neg (by decide), h0, r0]
  · show (if (3 : Int) = -1 then _ else onR (loopF n m) 5 (T 3 - 5) (fromR (loopF n m) [0, 3, 4, 5] T L 3)) = _
    rw [if_neg (by decide), h3, r3]
theorem loop_ph (h : SsaIs [loopF n m] (loopF n m) S T L pn g D) (hU : ∀ q, q < (loopF n m).code.length → Way (loopF n m) 63 q → ∀ r, r < 12 → (rdMask [loopF n m] (insD (loopF n m) q)).testBit r = true → ¬ Way (loopF n m) r q) : D.ph 1 = [⟨0, phiI 1 0, [0, madeI 7]⟩, ⟨1, phiI 1 1, [madeI 0, madeI 6]⟩, ⟨2, phiI 1 2, [madeI 1, madeI 5]⟩] ∧ stG g (phiI 1 3) = madeI 2 := by
  obtain ⟨-, r1, -, b0, b3⟩ := loop_regs n m h
  obtain ⟨rfl, h0, h1, h2, h3⟩ := loop_S n m h
  obtain ⟨p0, p1, p2, p3⟩ := loop_prevs n m h0 h1 h2 h3
  have e1 : ∀ r, phi1 (loopF n m) [0, 3, 4, 5] T L 1 r = ⟨r, (wantR 15 (phiR 1)).getD r 0, [(onR (loopF n m) 0 3 (parR 1)).getD r 0, (onR (loopF n m) 5 4 (wantR 15 (phiR 1))).getD r 0]⟩ := fun r => by
    unfold phi1
    rw [r1, p1, List.map_cons, List.map_cons, List.map_nil, b0, b3]
  have e2 : phiM (loopF n m) [0, 3, 4, 5] T L 1 = [⟨0, phiI 1 0, [0, madeI 7]⟩, ⟨1, phiI 1 1, [madeI 0, madeI 6]⟩, ⟨2, phiI 1 2, [madeI 1, madeI 5]⟩, ⟨3, phiI 1 3, [madeI 2, phiI 1 3]⟩] := by
    unfold phiM
    rw [if_pos (by rw [p1]; decide)]
    have step : ∀ r, phiTo (loopF n m) [0, 3, 4, 5] T L 1 (r + 1) = phiTo (loopF n m) [0, 3, 4, 5] T L 1 r ++ (if (wantR 15 (phiR 1)).getD r 0 = -1 then [] else [⟨r, (wantR 15 (phiR 1)).getD r 0, [(onR (loopF n m) 0 3 (parR 1)).getD r 0, (onR (loopF n m) 5 4 (wantR 15 (phiR 1))).getD r 0]⟩]) := fun r => by
      rw [phiTo, r1, e1]
    rw [step 11, step 10, step 9, step 8, step 7, step 6, step 5, step 4, step 3, step 2, step 1, step 0]
    rfl
  have hf := h.phFilter (loop_ok n m) (b := 1) (by decide)
  rw [e2] at hf
  have hleft : ∀ p ∈ phiM (loopF n m) [0, 3, 4, 5] T L 1, ∀ a b : Int, p.args = [a, b] → a < 52 → b < 52 → a ≠ b → isLeft g p = true := fun p hp a b hab ha hb hne => by
    by_cases hl : isLeft g p = true
    · exact hl
    · have hw := h.went (loop_ok n m) hU (b := 1) (by decide) hp (by simpa using hl)
      have a1 := hw a (by rw [hab]; simp)
      have a2 := hw b (by rw [hab]; simp)
      rw [h.own_self (loop_ok n m) hU ha] at a1
      rw [h.own_self (loop_ok n m) hU hb] at a2
      exact absurd (a1.trans a2.symm) hne
  rw [e2] at hleft
  have l0 := hleft ⟨0, phiI 1 0, [0, madeI 7]⟩ (by simp) 0 (madeI 7) rfl (by decide) (by decide) (by decide)
  have l1 := hleft ⟨1, phiI 1 1, [madeI 0, madeI 6]⟩ (by simp) (madeI 0) (madeI 6) rfl (by decide) (by decide) (by decide)
  have l2 := hleft ⟨2, phiI 1 2, [madeI 1, madeI 5]⟩ (by simp) (madeI 1) (madeI 5) rfl (by decide) (by decide) (by decide)
  have m2 : stG g (madeI 2) = madeI 2 := h.own_self (loop_ok n m) hU (by decide)
  have l3 : isLeft g ⟨3, phiI 1 3, [madeI 2, phiI 1 3]⟩ = false := by
    by_cases hl : isLeft g ⟨3, phiI 1 3, [madeI 2, phiI 1 3]⟩ = true
    · exfalso
      have hm : (⟨3, phiI 1 3, [madeI 2, phiI 1 3]⟩ : PhiD) ∈ D.ph 1 := by rw [hf]; exact List.mem_filter.2 ⟨by simp, hl⟩
      have h2 := h.two (loop_ok n m) hU (b := 1) (by decide) hm
      have ms : stG g (phiI 1 3) = phiI 1 3 := stG_free (isLeft_iff.1 hl)
      obtain ⟨a, ha, c, hc, n1, n2, n3, -⟩ := h2
      simp at ha hc
      rcases ha with rfl | rfl
      · rcases hc with rfl | rfl
        · exact n3 rfl
        · exact n2 ms
      · exact n1 ms
    · simpa using hl
  refine ⟨?_, ?_⟩
  · rw [hf]; simp [l0, l1, l2, l3]
  · have hw := h.went (loop_ok n m) hU (b := 1) (by decide) (p := ⟨3, phiI 1 3, [madeI 2, phiI 1 3]⟩) (by rw [e2]; simp) l3 (madeI 2) (by simp)
    exact hw.symm.trans m2
theorem loop_pn (h : SsaIs [loopF n m] (loopF n m) S T L pn g D) : pn = 1 := by
  have h1 : (1 : Int) = (pn : Int) := h.par
  omega
theorem loop_rg (h : SsaIs [loopF n m] (loopF n m) S T L pn g D) (ar : Nat → List Int) : (finD pn S.length g D ar).rg 1 = [newI g (idsD pn S.length D) (phiI 1 0), newI g (idsD pn S.length D) (phiI 1 1), newI g (idsD pn S.length D) (phiI 1 2), newI g (idsD pn S.length D) (phiI 1 3), -1, -1, -1, -1, -1, -1, -1, -1] := by
  have hmk := fun r (hr : r < 12) => loop_mk n m h hr
  obtain ⟨-, r1, -, -, -⟩ := loop_regs n m h
  obtain ⟨rfl, -⟩ := loop_S n m h
  have hp := (h.part 1 (by decide)).2
  rw [r1] at hp
  have e : wantR (mkL L 3) (wantR 15 (phiR 1)) = wantR 15 (phiR 1) := by
    show wantR (mkL L 3) (wantR 15 (phiR 1)) = (List.range 12).map fun r => if (15 : Nat).testBit r = true then (phiR 1).getD r 0 else -1
    unfold wantR
    refine List.map_congr_left fun r hr => ?_
    have hr := List.mem_range.1 hr
    have hg := wantR_get 15 (phiR 1) hr
    unfold wantR at hg
    rw [hg]
    by_cases e : r < 4
    · rw [if_pos ((hmk r hr).2 e)]
    · rw [if_neg (fun hb => e ((hmk r hr).1 hb)), if_neg (by rw [Nat.testBit_lt_two_pow (Nat.lt_of_lt_of_le (by decide : 15 < 2 ^ 4) (Nat.pow_le_pow_right (by decide) (by omega)))]; decide)]
  have hp : D.rg 1 = wantR 15 (phiR 1) := hp.trans e
  rw [finD_rg _ _ _ _ _ (by decide), hp]
  have hN := newI_none g (idsD pn [0, 3, 4, 5].length D)
  generalize newI g (idsD pn [0, 3, 4, 5].length D) = N at *
  show [N (phiI 1 0), N (phiI 1 1), N (phiI 1 2), N (phiI 1 3), N (-1), N (-1), N (-1), N (-1), N (-1), N (-1), N (-1), N (-1)] = _
  rw [hN]
theorem either_never (a : FV) : eitherF .never a = a := by simp [eitherF]
theorem made_or {n : Int} (hn : I64 n) {x : InsD} (hx : x.op = 7) : madeF x (.known n) (.known n) = .known n := by
  unfold madeF
  rw [if_neg (by rw [hx]; simp), if_neg (by rw [hx]; simp), hx]
  show FV.known (bits .or .i64 n n) = _
  rw [or_self n hn]
theorem made_pred (m : Int) {x : InsD} (hx : x.op = 2) : madeF x (.known m) (.known (-1)) = .known (wrap64 (m + -1)) := by
  unfold madeF
  rw [if_neg (by rw [hx]; simp), if_neg (by rw [hx]; simp), hx]
  rfl
theorem either_many (a : FV) : eitherF .many a = .many := FV.le_antisymm (FV.le_many _) (eitherF_left _ _)
theorem wrap_pred (z : Int) : wrap64 (z + -1) ≠ z := by unfold wrap64; omega
theorem loop_all (hm : I64 n) (h : SsaIs [loopF n m] (loopF n m) S T L pn g D) (hU : ∀ q, q < (loopF n m).code.length → Way (loopF n m) 63 q → ∀ r, r < 12 → (rdMask [loopF n m] (insD (loopF n m) q)).testBit r = true → ¬ Way (loopF n m) r q) {ar : Nat → List Int} {F : Facts} {G : Ways} (hi : (fcOf (loopF n m) S T pn g D ar).know.Inv F G) (hk : (fcOf (loopF n m) S T pn g D ar).know.Closed F G) :
    S.length = 4 ∧ (∀ b, b < 4 → metB G (prevs (loopF n m) S T b) (b : Int) = true) ∧ ∃ v0 v1 v2 v3 : Nat, newI g (idsD pn S.length D) (phiI 1 0) = (v0 : Int) ∧ newI g (idsD pn S.length D) (phiI 1 1) = (v1 : Int) ∧ newI g (idsD pn S.length D) (phiI 1 2) = (v2 : Int) ∧ newI g (idsD pn S.length D) (phiI 1 3) = (v3 : Int) ∧
      v0 < (idsD pn S.length D).length ∧ v1 < (idsD pn S.length D).length ∧ v2 < (idsD pn S.length D).length ∧ v3 < (idsD pn S.length D).length ∧ F v0 = .many ∧ F v1 = .known n ∧ F v2 = .many ∧ F v3 = .known (-1) := by
  obtain ⟨hph, hg3⟩ := loop_ph n m h hU
  obtain ⟨r0, r1, r3, -, -⟩ := loop_regs n m h
  have hok := h.fcOk (loop_ok n m) hU (ar := ar)
  have hco := hok.know
  have hpn := loop_pn n m h
  have hS := loop_S n m h
  have hset := fun (b j : Nat) (hb : b < S.length) (hj : j < T b - S.getD b 0) (ho : (insD (loopF n m) (S.getD b 0 + j)).op = 1) => h.setFact hi hk hb hj ho
  have hins := fun (b j : Nat) (hb : b < S.length) (hj : j < T b - S.getD b 0) (ho : setsB (insD (loopF n m) (S.getD b 0 + j)).op = true) => h.insFact hi hk hb hj ho
  have hgo := fun (b : Nat) (hb : b < S.length) (hT : 0 < T b - S.getD b 0) => h.goesEq ar hb hT F
  have hfi : (finD pn S.length g D ar).ph 1 = (D.ph 1).map (phN (newI g (idsD pn S.length D))) := finD_ph _ _ _ _ _ (by rw [hS.1]; decide)
  have n3 : newI g (idsD pn S.length D) (phiI 1 3) = newI g (idsD pn S.length D) (madeI 2) := by
    unfold newI
    rw [hg3, h.own_self (loop_ok n m) hU (z := madeI 2) (by decide), if_neg (show ¬ phiI 1 3 = -1 by decide), if_neg (show ¬ madeI 2 = -1 by decide)]
  have n0 : newI g (idsD pn S.length D) 0 = 0 := by
    obtain ⟨rest, e⟩ := idsTo_par (params := pn) (n := S.length) (k := 0) (PH := D.ph) (IN := D.ins) (by omega)
    unfold newI
    rw [h.own_self (loop_ok n m) hU (z := 0) (by decide), if_neg (by decide)]
    show (if (0 : Int) ∈ idsTo pn D.ph D.ins S.length then _ else _) = _
    rw [show idsD pn S.length D = idsTo pn D.ph D.ins S.length from rfl, e]
    simp
  have hne := fun (v : Int) (hv : v ≠ -1) => newI_ne (g := g) (ids := idsD pn S.length D) hv
  generalize hN : newI g (idsD pn S.length D) = N at *
  have hm0 : metB G (prevs (loopF n m) S T 0) ((0 : Nat) : Int) = true := met_first hi
  have hclo := hk.go
  have hpar := hi.par
  have hmet : ∀ b, b < S.length → ((fcOf (loopF n m) S T pn g D ar).know.met G b ↔ metB G (prevs (loopF n m) S T b) b = true) := fun b _ => FC.met_iff.symm
  have hnn : (fcOf (loopF n m) S T pn g D ar).know.n = S.length := rfl
  obtain ⟨rfl, t0, t1, t2, t3⟩ := hS
  obtain ⟨p0, p1, p2, p3⟩ := loop_prevs n m t0 t1 t2 t3
  obtain ⟨x0, x1, x2, x3⟩ := loop_nx n m
  have f0 := hset 0 0 (by decide) (by rw [t0]; decide) rfl
  have f1 := hset 0 1 (by decide) (by rw [t0]; decide) rfl
  have f2 := hset 0 2 (by decide) (by rw [t0]; decide) rfl
  rw [if_pos hm0] at f0 f1 f2
  have f0 : F (N (madeI 0)).toNat = .known n := f0
  have f1 : F (N (madeI 1)).toNat = .known m := f1
  have f2 : F (N (madeI 2)).toNat = .known (-1) := f2
  have g0 := hgo 0 (by decide) (by rw [t0]; decide)
  have g1 := hgo 1 (by decide) (by rw [t1]; decide)
  have g3 := hgo 3 (by decide) (by rw [t3]; decide)
  rw [t0] at g0
  rw [t1] at g1
  rw [t3] at g3
  have g0 : (fcOf (loopF n m) [0, 3, 4, 5] T pn g D ar).know.goes 0 F = [1] := by
    refine g0.trans ?_
    show goesF F 1 _ (nxI (loopF n m) [0, 3, 4, 5] 3) _ _ = _
    unfold goesF
    rw [if_pos (by decide), x0]
  have i01 : ((0 : Int), (1 : Int)) ∈ G := hclo 0 (by rw [hnn]; decide) ((hmet 0 (by decide)).2 hm0) 1 (by rw [g0]; simp)
  have m1 : metB G (prevs (loopF n m) [0, 3, 4, 5] T 1) ((1 : Nat) : Int) = true := by
    rw [p1]; show metB G [0, 3] 1 = true
    rw [metB_two, decide_eq_true i01, Bool.true_or]
  have hF : ∀ r a b, (⟨r, phiI 1 r, [a, b]⟩ : PhiD) ∈ D.ph 1 → F (N (phiI 1 r)).toNat = (if ((3 : Int), (1 : Int)) ∈ G then eitherF (F (N a).toNat) (F (N b).toNat) else F (N a).toNat) := fun r a b hp => by
    have hf := phi_fact hi hk (b := 1) (show 1 < [0, 3, 4, 5].length by decide) (p := phN N ⟨r, phiI 1 r, [a, b]⟩) (show _ ∈ (finD pn [0, 3, 4, 5].length g D ar).ph 1 by rw [hfi]; exact List.mem_map_of_mem hp)
    have m1' : metB G ((fcOf (loopF n m) [0, 3, 4, 5] T pn g D ar).PV 1) ((1 : Nat) : Int) = true := m1
    rw [if_pos m1'] at hf
    have hf : F (N (phiI 1 r)).toNat = comesT F G 1 (prevs (loopF n m) [0, 3, 4, 5] T 1) [N a, N b] (prevs (loopF n m) [0, 3, 4, 5] T 1).length := hf
    rw [p1] at hf
    rw [hf]
    show (if ((3 : Int), (1 : Int)) ∈ G then eitherF (if ((0 : Int), (1 : Int)) ∈ G then eitherF .never (F (N a).toNat) else .never) (F (N b).toNat) else (if ((0 : Int), (1 : Int)) ∈ G then eitherF .never (F (N a).toNat) else .never)) = _
    rw [if_pos i01, either_never]
  have e0 : F (N (phiI 1 0)).toNat = .many := by
    have hz : F (N 0).toNat = .many := by rw [n0]; exact hpar 0 (show 0 < pn by omega)
    rw [hF 0 0 (madeI 7) (by rw [hph]; simp), hz, either_many]
    split <;> rfl
  have g1 : (fcOf (loopF n m) [0, 3, 4, 5] T pn g D ar).know.goes 1 F = [2, 3] := by
    refine g1.trans ?_
    show goesF F 16 (N (if rdA [loopF n m] (insD (loopF n m) 3) = true then (onR (loopF n m) 3 0 (fromR (loopF n m) [0, 3, 4, 5] T L 1)).getD 0 0 else -1)) (nxI (loopF n m) [0, 3, 4, 5] 4) _ _ = _
    rw [if_pos (by simp [rdA, insD, loopF, readsAB]), r1]
    show goesF F 16 (N (phiI 1 0)) (nxI (loopF n m) [0, 3, 4, 5] 4) _ _ = _
    unfold goesF
    rw [if_neg (by decide), e0]
    exact x1
  have i12 : ((1 : Int), (2 : Int)) ∈ G := hclo 1 (by rw [hnn]; decide) ((hmet 1 (by decide)).2 m1) 2 (by rw [g1]; simp)
  have i13 : ((1 : Int), (3 : Int)) ∈ G := hclo 1 (by rw [hnn]; decide) ((hmet 1 (by decide)).2 m1) 3 (by rw [g1]; simp)
  have m2 : metB G (prevs (loopF n m) [0, 3, 4, 5] T 2) ((2 : Nat) : Int) = true := by
    rw [p2]; show metB G [1] 2 = true
    rw [metB_one, decide_eq_true i12]
  have m3 : metB G (prevs (loopF n m) [0, 3, 4, 5] T 3) ((3 : Nat) : Int) = true := by
    rw [p3]; show metB G [1] 3 = true
    rw [metB_one, decide_eq_true i13]
  have g3 : (fcOf (loopF n m) [0, 3, 4, 5] T pn g D ar).know.goes 3 F = [1] := by
    refine g3.trans ?_
    show goesF F 15 _ (nxI (loopF n m) [0, 3, 4, 5] 9) _ _ = _
    unfold goesF
    rw [if_pos (by decide), x3]
  have i31 : ((3 : Int), (1 : Int)) ∈ G := hclo 3 (by rw [hnn]; decide) ((hmet 3 (by decide)).2 m3) 1 (by rw [g3]; simp)
  have h1 := hF 1 (madeI 0) (madeI 6) (by rw [hph]; simp)
  have h2 := hF 2 (madeI 1) (madeI 5) (by rw [hph]; simp)
  rw [if_pos i31] at h1 h2
  rw [f0] at h1
  rw [f1] at h2
  obtain ⟨k6, id6, q6⟩ := hins 3 1 (by decide) (by rw [t3]; decide) rfl
  obtain ⟨-, -, q5⟩ := hins 3 0 (by decide) (by rw [t3]; decide) rfl
  rw [if_pos m3] at q5 q6
  rw [r3] at q5 q6 k6
  have x6 : insN N (insM [loopF n m] (loopF n m) ([0, 3, 4, 5].getD 3 0 + 1) (onR (loopF n m) ([0, 3, 4, 5].getD 3 0) 1 (wantR 15 (phiR 1)))) = ⟨7, N (madeI 6), N (phiI 1 1), N (phiI 1 1), 0, 6⟩ := rfl
  have x5 : insN N (insM [loopF n m] (loopF n m) ([0, 3, 4, 5].getD 3 0 + 0) (onR (loopF n m) ([0, 3, 4, 5].getD 3 0) 0 (wantR 15 (phiR 1)))) = ⟨2, N (madeI 5), N (phiI 1 2), N (phiI 1 3), 0, 5⟩ := rfl
  rw [x6] at q6 k6
  rw [x5] at q5
  have rd : ∀ (F : Facts) (v : Int), v ≠ -1 → rdF F (N v) = F (N v).toNat := fun F v hv => if_neg (hne v hv)
  have q6 : F (N (madeI 6)).toNat = madeF ⟨7, N (madeI 6), N (phiI 1 1), N (phiI 1 1), 0, 6⟩ (rdF F (N (phiI 1 1))) (rdF F (N (phiI 1 1))) := q6
  have q5 : F (N (madeI 5)).toNat = madeF ⟨2, N (madeI 5), N (phiI 1 2), N (phiI 1 3), 0, 5⟩ (rdF F (N (phiI 1 2))) (rdF F (N (phiI 1 3))) := q5
  rw [rd F _ (by decide)] at q6
  rw [rd F (phiI 1 2) (by decide), rd F (phiI 1 3) (by decide), n3, f2] at q5
  have l1 : (FV.known n).le (F (N (phiI 1 1)).toNat) := by rw [h1]; exact eitherF_left _ _
  have l2 : (FV.known n).le (F (N (madeI 6)).toNat) := by
    rw [q6]
    generalize F (N (phiI 1 1)).toNat = A at l1
    cases A with
    | never => exact absurd l1 id
    | known z =>
      have l1 : n = z := l1
      subst l1
      rw [made_or hm rfl]; exact FV.le_refl _
    | many => exact FV.le_many _
  have e1 : F (N (phiI 1 1)).toNat = .known n := by
    refine Know.Inv.lower hco hi hk (s1 := phiS (fcOf (loopF n m) [0, 3, 4, 5] T pn g D ar) 1 (phN N ⟨1, phiI 1 1, [madeI 0, madeI 6]⟩)) (s2 := insS 3 ⟨7, N (madeI 6), N (phiI 1 1), N (phiI 1 1), 0, 6⟩) ⟨1, show 1 < [0, 3, 4, 5].length by decide, Or.inl ⟨_, show _ ∈ (finD pn [0, 3, 4, 5].length g D ar).ph 1 by rw [hfi]; exact List.mem_map_of_mem (by rw [hph]; simp), rfl⟩⟩ ⟨3, show 3 < [0, 3, 4, 5].length by decide, Or.inr ⟨_, k6, hne _ (by decide), rfl⟩⟩ l1 l2 (fun F' hle he => ?_) (fun F' hle he => ?_)
    · show (comesT F' G 1 (prevs (loopF n m) [0, 3, 4, 5] T 1) [N (madeI 0), N (madeI 6)] (prevs (loopF n m) [0, 3, 4, 5] T 1).length).le _
      rw [p1]
      show (if ((3 : Int), (1 : Int)) ∈ G then eitherF (if ((0 : Int), (1 : Int)) ∈ G then eitherF .never (F' (N (madeI 0)).toNat) else .never) (F' (N (madeI 6)).toNat) else (if ((0 : Int), (1 : Int)) ∈ G then eitherF .never (F' (N (madeI 0)).toNat) else .never)).le _
      have he : F' (N (madeI 6)).toNat = .known n := he
      rw [if_pos i31, if_pos i01, either_never, he]
      exact eitherF_least (by rw [← f0]; exact hle _) (FV.le_refl _)
    · show (madeF ⟨7, N (madeI 6), N (phiI 1 1), N (phiI 1 1), 0, 6⟩ (rdF F' (N (phiI 1 1))) (rdF F' (N (phiI 1 1)))).le _
      have he : F' (N (phiI 1 1)).toNat = .known n := he
      rw [rd F' _ (by decide), he, made_or hm rfl]
      exact FV.le_refl _
  have e2 : F (N (phiI 1 2)).toNat = .many := by
    have hl := eitherF_left (.known m) (F (N (madeI 5)).toNat)
    have hr := eitherF_right (.known m) (F (N (madeI 5)).toNat)
    rw [← h2] at hl hr
    rw [q5] at hr
    cases hA : F (N (phiI 1 2)).toNat with
    | never => rw [hA] at hl; exact absurd hl id
    | known z =>
      rw [hA] at hl hr
      have hl : m = z := hl
      subst hl
      rw [made_pred m rfl] at hr
      exact absurd hr (wrap_pred m)
    | many => rfl
  have e3 : F (N (phiI 1 3)).toNat = .known (-1) := by rw [n3]; exact f2
  have hid : ∀ r a b, (⟨r, phiI 1 r, [a, b]⟩ : PhiD) ∈ D.ph 1 → 0 ≤ N (phiI 1 r) ∧ N (phiI 1 r) < ((idsD pn [0, 3, 4, 5].length D).length : Int) := fun r a b hp => by
    obtain ⟨-, hlo, hhi, -⟩ := (hok.ph 1 (show 1 < [0, 3, 4, 5].length by decide)).2 (phN N ⟨r, phiI 1 r, [a, b]⟩) (show _ ∈ (finD pn [0, 3, 4, 5].length g D ar).ph 1 by rw [hfi]; exact List.mem_map_of_mem hp)
    exact ⟨Int.le_trans (Int.natCast_nonneg _) hlo, hhi⟩
  obtain ⟨a0, b0⟩ := hid 0 0 (madeI 7) (by rw [hph]; simp)
  obtain ⟨a1, b1⟩ := hid 1 (madeI 0) (madeI 6) (by rw [hph]; simp)
  obtain ⟨a2, b2⟩ := hid 2 (madeI 1) (madeI 5) (by rw [hph]; simp)
  have hid3 : 0 ≤ N (phiI 1 3) ∧ N (phiI 1 3) < ((idsD pn [0, 3, 4, 5].length D).length : Int) := by
    obtain ⟨k2, id2, -⟩ := hins 0 2 (by decide) (by rw [t0]; decide) rfl
    obtain ⟨h1, h2, -⟩ := (hok.ins 0 (show 0 < [0, 3, 4, 5].length by decide)).2.2 _ k2
    rw [id2] at h1 h2
    rw [n3]
    rcases h1 with h1 | h1
    · exact absurd h1 (hne _ (by decide))
    · exact ⟨Int.le_trans (Int.natCast_nonneg _) h1, h2⟩
  obtain ⟨a3, b3⟩ := hid3
  refine ⟨rfl, fun b hb => ?_, (N (phiI 1 0)).toNat, (N (phiI 1 1)).toNat, (N (phiI 1 2)).toNat, (N (phiI 1 3)).toNat, by omega, by omega, by omega, by omega, by omega, by omega, by omega, by omega, e0, e1, e2, e3⟩
  rcases (show b = 0 ∨ b = 1 ∨ b = 2 ∨ b = 3 by omega) with rfl | rfl | rfl | rfl
  · exact hm0
  · exact m1
  · exact m2
  · exact m3
end
end Go.Proofs.YtldbmdgpdolaaaaGreatDoor
