import Derived.Test.YtldbmdgpdolaaaaDoorPXPlaceOk
namespace Go.Proofs.YtldbmdgpdolaaaaDoor
open Go Go.RowKit

theorem rise_len {n : Nat} : ∀ {l : List Int}, l.Pairwise (· < ·) → (∀ z ∈ l, 0 ≤ z ∧ z < (n : Int)) → l.length ≤ n := by
  have key : ∀ (l : List Int) (m : Int), l.Pairwise (· < ·) → (∀ z ∈ l, m ≤ z ∧ z < (n : Int)) → m ≤ n → (l.length : Int) + m ≤ n := by
    intro l
    induction l with
    | nil => intro m _ _ hm; simpa using hm
    | cons a l ih =>
      intro m hp hz _
      obtain ⟨h1, h2⟩ := List.pairwise_cons.1 hp
      have ha := hz a (by simp)
      have := ih (a + 1) h2 (fun z hm => ⟨by have := h1 z hm; omega, (hz z (by simp [hm])).2⟩) (by omega)
      rw [List.length_cons]; omega
  intro l hp hz
  have := key l 0 hp hz (by omega)
  omega
structure WalkNd (f : Fn) (L : List Int) (xs : List InsD) (rg : List Int) : Prop where
  one : ∀ j, j < xs.length → ∀ r s, r < 12 → s < 12 → (mkL L (xs.getD j noIns).pc.toNat).testBit r = true → (mkL L (xs.getD j noIns).pc.toNat).testBit s = true → (regT f xs rg j).getD r 0 = (regT f xs rg j).getD s 0 → r = s
  two : ∀ j, j < xs.length → (xs.getD j noIns).id ≠ -1 → ∀ r s, r < 12 → s < 12 → (mkL L ((xs.getD j noIns).pc.toNat + 1) ||| 2 ^ (insD f (xs.getD j noIns).pc.toNat).dst.toNat).testBit r = true → (mkL L ((xs.getD j noIns).pc.toNat + 1) ||| 2 ^ (insD f (xs.getD j noIns).pc.toNat).dst.toNat).testBit s = true → (regT f xs rg (j + 1)).getD r 0 = (regT f xs rg (j + 1)).getD s 0 → r = s
theorem metOk_walk {f : Fn} {L : List Int} {n : Nat} {xs : List InsD} {rg : List Int} {M : Nat → List Int} (hw : WalkOk f L n xs rg) (hd : WalkNd f L xs rg) (h : MetOk n M) : ∀ j, j ≤ xs.length → MetOk n (metT f L xs rg M j)
  | 0, _ => h
  | j + 1, hj => by
    have ih := metOk_walk hw hd h j (by omega)
    obtain ⟨pc, m, hpc, -, -, hm, -, hr, hset⟩ := hw.step j (by omega)
    have hmk : mkL L pc = m := by unfold mkL; rw [hm]; rfl
    have h1 : MetOk n (metL2 (metT f L xs rg M j) (ofT (mkL L (xs.getD j noIns).pc.toNat) (regT f xs rg j) 12)) := by
      refine ih.meet (ofT_nodup fun r s hr hs => hd.one j (by omega) r s hr hs) fun z hz => ?_
      obtain ⟨r, hr12, hb, rfl⟩ := ofT_mem.1 hz
      rw [hpc, Int.toNat_natCast, hmk] at hb
      exact hr r hr12 hb
    show MetOk n (if (xs.getD j noIns).id = -1 then _ else _)
    by_cases hid : (xs.getD j noIns).id = -1
    · rw [if_pos hid]; exact h1
    · rw [if_neg hid]
      obtain ⟨d, m2, hdd, -, -, hm2, -, hr2⟩ := hset hid
      have hmk2 : mkL L (pc + 1) = m2 := by unfold mkL; rw [hm2]; rfl
      refine h1.meet (ofT_nodup fun r s hr hs => hd.two j (by omega) hid r s hr hs) fun z hz => ?_
      obtain ⟨r, hr12, hb, rfl⟩ := ofT_mem.1 hz
      rw [hpc, Int.toNat_natCast, hmk2, hdd, Int.toNat_natCast] at hb
      exact hr2 r hr12 hb
section
variable {P : List Fn} {f : Fn} {S : List Nat} {T : Nat → Nat} {L : List Int} {pn : Nat} {g : List (Int × Int)} {D : PDat}
theorem SsaIs.walkNd (h : SsaIs P f S T L pn g D) (ok : FlowOk P f) (hU : ∀ q, q < f.code.length → Way f 63 q → ∀ r, r < 12 → (rdMask P (Go.Proofs.YtldbmdgpdolaaaaDoor.insD f q)).testBit r = true → ¬ Way f r q) (ar : Nat → List Int) {b : Nat} (hb : b < S.length) :
    WalkNd f L ((finD pn S.length g D ar).ins b) ((finD pn S.length g D ar).rg b) := by
  have eS : S.getD b 0 = S[b] := by simp [List.getD, hb]
  have hE := h.ok.ends b hb
  have hle := hE.le
  have hlt := hE.lt
  have h40 := ok.ok.len2
  have hfr := fromR_is ok h.ok L hb
  have hraw : ∀ j, S[b] + j ≤ T b → RawL pn f S T L (onR f S[b] j (wantR (mkL L S[b]) (fromR f S T L b))) := fun j hj => raw_on hb j _ _ (by rw [eS]; omega) (by omega) (wantR_len _ _) (raw_want (raw_from ok h.ok h.par hfr hb))
  have hown : ∀ j, S[b] + j ≤ T b → OwnL f (onR f S[b] j (wantR (mkL L S[b]) (fromR f S T L b))) := fun j hj => ownL_on j _ _ (by omega) (wantR_len _ _) (ownL_want _ (ownL_from ok h.ok hfr hb))
  have key : ∀ j, j ≤ T b - S[b] → ∀ r s, r < 12 → s < 12 → 0 ≤ (Go.Proofs.YtldbmdgpdolaaaaDoor.regT f ((finD pn S.length g D ar).ins b) ((finD pn S.length g D ar).rg b) j).getD r 0 → 0 ≤ (Go.Proofs.YtldbmdgpdolaaaaDoor.regT f ((finD pn S.length g D ar).ins b) ((finD pn S.length g D ar).rg b) j).getD s 0 →
      (Go.Proofs.YtldbmdgpdolaaaaDoor.regT f ((finD pn S.length g D ar).ins b) ((finD pn S.length g D ar).rg b) j).getD r 0 = (Go.Proofs.YtldbmdgpdolaaaaDoor.regT f ((finD pn S.length g D ar).ins b) ((finD pn S.length g D ar).rg b) j).getD s 0 → r = s := fun j hj r s hr hs h0 h1 e => by
    rw [h.regT ar hb j (by rw [eS]; exact hj), eS, getD_map _ _ 0 0 (by rw [onR_len, wantR_len]; exact hr)] at h0 e
    rw [h.regT ar hb j (by rw [eS]; exact hj), eS, getD_map _ _ 0 0 (by rw [onR_len, wantR_len]; exact hs)] at h1
    rw [getD_map _ _ 0 0 (by rw [onR_len, wantR_len]; exact hs)] at e
    have n0 := (newI_there _ _ _).1 h0
    have n1 := (newI_there _ _ _).1 h1
    have c0 := h.counted ok hU ((hraw j (by omega) r hr).resolve_left n0)
    have c1 := h.counted ok hU ((hraw j (by omega) s hs).resolve_left n1)
    have e2 := newI_inj n0 n1 c0 c1 e
    have o0 := (hown j (by omega) r hr).resolve_left n0
    have o1 := (hown j (by omega) s hs).resolve_left n1
    rw [← o0, ← o1, ← h.own ok hU, e2, h.own ok hU]
  have hw := h.walkOk ok hU ar hb
  have hlen := h.insLen ar hb
  rw [eS] at hlen
  refine ⟨fun j hj r s hr hs br bs e => ?_, fun j hj hid r s hr hs br bs e => ?_⟩
  · obtain ⟨pc, m, hpc, -, -, hm, -, hrg, -⟩ := hw.step j hj
    have hmk : mkL L pc = m := by unfold mkL; rw [hm]; rfl
    rw [hpc, Int.toNat_natCast, hmk] at br bs
    exact key j (by omega) r s hr hs (hrg r hr br).1 (hrg s hs bs).1 e
  · obtain ⟨pc, m, hpc, -, -, -, -, -, hset⟩ := hw.step j hj
    obtain ⟨d, m2, hdd, -, -, hm2, -, hr2⟩ := hset hid
    have hmk2 : mkL L (pc + 1) = m2 := by unfold mkL; rw [hm2]; rfl
    rw [hpc, Int.toNat_natCast, hmk2, hdd, Int.toNat_natCast] at br bs
    exact key (j + 1) (by omega) r s hr hs (hr2 r hr br).1 (hr2 s hs bs).1 e
theorem SsaIs.clOk (h : SsaIs P f S T L pn g D) (ok : FlowOk P f) (hU : ∀ q, q < f.code.length → Way f 63 q → ∀ r, r < 12 → (rdMask P (Go.Proofs.YtldbmdgpdolaaaaDoor.insD f q)).testBit r = true → ¬ Way f r q) (ar : Nat → List Int) : ∀ b, b ≤ S.length → MetOk (idsD pn S.length D).length (clT f L (finD pn S.length g D ar) b)
  | 0, _ => metOk_nil _
  | b + 1, hb => metOk_walk (h.walkOk ok hU ar hb) (h.walkNd ok hU ar hb) (SsaIs.clOk h ok hU ar b (by omega)) _ (Nat.le_refl _)
theorem SsaIs.clashOk (h : SsaIs P f S T L pn g D) (ok : FlowOk P f) (hU : ∀ q, q < f.code.length → Way f 63 q → ∀ r, r < 12 → (rdMask P (Go.Proofs.YtldbmdgpdolaaaaDoor.insD f q)).testBit r = true → ¬ Way f r q) (ar : Nat → List Int) :
    MetOk (idsD pn S.length D).length (clashL f S L pn g D ar) ∧ ∀ v, (clashL f S L pn g D ar v).Pairwise (· < ·) := by
  have hc := h.clOk ok hU ar S.length (Nat.le_refl _)
  have hm : ∀ v z, z ∈ clashL f S L pn g D ar v ↔ z ∈ clT f L (finD pn S.length g D ar) S.length v := fun v z => by
    unfold clashL
    split
    · exact sortC_mem _ _
    · rename_i hv
      rw [hc.out v (by omega)]
  refine ⟨⟨fun u hu z hz => hc.rng u hu z ((hm u z).1 hz), fun u hu => if_neg (by omega), fun u v hz => (hm v _).2 (hc.even u v ((hm u _).1 hz)), fun u hz => hc.self u ((hm u _).1 hz)⟩, fun v => ?_⟩
  unfold clashL
  split
  · exact sortC_rise _
  · exact List.Pairwise.nil
end
end Go.Proofs.YtldbmdgpdolaaaaDoor
