import Derived.Test.YtldbmdgpdolaaaaGreatDoorPXSsaFact
namespace Go.Proofs.YtldbmdgpdolaaaaGreatDoor
open Go Go.RowKit

theorem stG_pres {Q : Int → Prop} {g : List (Int × Int)} (h : ∀ q ∈ g, Q q.2) : ∀ {v : Int}, Q v → Q (stG g v) := by
  induction g with
  | nil => intro v hv; exact hv
  | cons p g ih =>
    intro v hv
    rw [stG]
    refine ih (fun q hq => h q (by simp [hq])) ?_
    split
    · exact h p (by simp)
    · exact hv
theorem loneG_mem {g : List (Int × Int)} {id : Int} : ∀ (args : List Int) (one : Int), loneG g id one args = one ∨ loneG g id one args = -1 ∨ ∃ a ∈ args, loneG g id one args = stG g a
  | [], one => Or.inl rfl
  | a :: t, one => by
    rw [loneG]
    split
    · rcases loneG_mem t one with h | h | ⟨x, hx, h⟩
      · exact Or.inl h
      · exact Or.inr (Or.inl h)
      · exact Or.inr (Or.inr ⟨x, by simp [hx], h⟩)
    · split
      · exact Or.inr (Or.inl rfl)
      · rcases loneG_mem t (stG g a) with h | h | ⟨x, hx, h⟩
        · exact Or.inr (Or.inr ⟨a, by simp, h⟩)
        · exact Or.inr (Or.inl h)
        · exact Or.inr (Or.inr ⟨x, by simp [hx], h⟩)
theorem leftG_pres {Q : Int → Prop} : ∀ (ps : List PhiD) (g : List (Int × Int)), (∀ p ∈ ps, ∀ a ∈ p.args, Q a) → (∀ q ∈ g, Q q.2) → (∀ q ∈ (leftG g ps).1, Q q.2) ∧ ∀ p ∈ (leftG g ps).2, p ∈ ps
  | [], g, _, h => ⟨h, fun p hp => by cases hp⟩
  | p :: t, g, ha, h => by
    rw [leftG]
    split
    · have := leftG_pres t g (fun x hx => ha x (by simp [hx])) h
      refine ⟨this.1, fun x hx => ?_⟩
      rcases List.mem_cons.1 hx with e | hx
      · rw [e]; simp
      · have := this.2 x hx; simp [this]
    · rename_i hne
      have hq : Q (loneG g p.id (-1) p.args) := by
        rcases loneG_mem (g := g) (id := p.id) p.args (-1) with e | e | ⟨a, haa, e⟩
        · exact absurd e hne
        · exact absurd e hne
        · rw [e]; exact stG_pres h (ha p (by simp) a haa)
      have := leftG_pres t (g ++ [(p.id, loneG g p.id (-1) p.args)]) (fun x hx => ha x (by simp [hx])) (fun q hq' => by
        rcases List.mem_append.1 hq' with h' | h'
        · exact h q h'
        · have e : q = (p.id, loneG g p.id (-1) p.args) := by simpa using h'
          rw [e]; exact hq)
      exact ⟨this.1, fun x hx => by have := this.2 x hx; simp [this]⟩
theorem roundG_pres {Q : Int → Prop} : ∀ (ps : List (List PhiD)) (g : List (Int × Int)), (∀ l ∈ ps, ∀ p ∈ l, ∀ a ∈ p.args, Q a) → (∀ q ∈ g, Q q.2) → (∀ q ∈ (roundG g ps).1, Q q.2) ∧ ∀ l ∈ (roundG g ps).2, ∀ p ∈ l, ∃ l' ∈ ps, p ∈ l'
  | [], g, _, h => ⟨h, fun l hl => by cases hl⟩
  | ps :: t, g, ha, h => by
    rw [roundG]
    have h1 := leftG_pres ps g (ha ps (by simp)) h
    have h2 := roundG_pres t (leftG g ps).1 (fun l hl => ha l (by simp [hl])) h1.1
    refine ⟨h2.1, fun l hl p hp => ?_⟩
    rcases List.mem_cons.1 hl with e | hl
    · rw [e] at hp; exact ⟨ps, by simp, h1.2 p hp⟩
    · obtain ⟨l', h3, h4⟩ := h2.2 l hl p hp
      exact ⟨l', by simp [h3], h4⟩
theorem SettleTo.pres {Q : Int → Prop} {g g' : List (Int × Int)} {ps ps' : List (List PhiD)} (hs : SettleTo g ps g' ps') : (∀ l ∈ ps, ∀ p ∈ l, ∀ a ∈ p.args, Q a) → (∀ q ∈ g, Q q.2) → ∀ q ∈ g', Q q.2 := by
  induction hs with
  | stop _ => exact fun ha h => (roundG_pres _ _ ha h).1
  | on _ _ ih =>
    intro ha h
    have := roundG_pres _ _ ha h
    exact ih (fun l hl p hp a haa => by obtain ⟨l', h1, h2⟩ := this.2 l hl p hp; exact ha l' h1 p h2 a haa) this.1
def RawV (pn : Nat) (f : Fn) (S : List Nat) (T : Nat → Nat) (L : List Int) (z : Int) : Prop :=
  (0 ≤ z ∧ z < (pn : Int)) ∨ (∃ b, b < S.length ∧ ∃ pc : Nat, S.getD b 0 ≤ pc ∧ pc < T b ∧ setsB (insD f pc).op = true ∧ z = madeI pc) ∨ (∃ b r, b < S.length ∧ r < 12 ∧ z = phiI b r ∧ (phi1 f S T L b r).id = z ∧ phi1 f S T L b r ∈ phiM f S T L b)
def RawL (pn : Nat) (f : Fn) (S : List Nat) (T : Nat → Nat) (L : List Int) (l : List Int) : Prop := ∀ r, r < 12 → l.getD r 0 = -1 ∨ RawV pn f S T L (l.getD r 0)
theorem raw_on1 {pn : Nat} {f : Fn} {S : List Nat} {T : Nat → Nat} {L : List Int} {b pc : Nat} (hb : b < S.length) (h1 : S.getD b 0 ≤ pc) (h2 : pc < T b) {l : List Int} (hl : l.length = 12) (h : RawL pn f S T L l) : RawL pn f S T L (on1 f pc l) := fun r hr => by
  unfold on1
  split
  · rename_i hs
    rw [List.getD, List.getElem?_set]
    split
    · rename_i e
      rw [if_pos (by omega)]
      exact Or.inr (Or.inr (Or.inl ⟨b, hb, pc, h1, h2, hs, rfl⟩))
    · exact h r hr
  · exact h r hr
theorem raw_on {pn : Nat} {f : Fn} {S : List Nat} {T : Nat → Nat} {L : List Int} {b : Nat} (hb : b < S.length) : ∀ (n pc : Nat) (l : List Int), S.getD b 0 ≤ pc → pc + n ≤ T b → l.length = 12 → RawL pn f S T L l → RawL pn f S T L (onR f pc n l)
  | 0, _, _, _, _, _, h => h
  | n + 1, pc, l, h1, h2, hl, h => raw_on hb n (pc + 1) _ (by omega) (by omega) (by rw [on1_len]; exact hl) (raw_on1 hb h1 (by omega) hl h)
theorem raw_par {pn : Nat} {f : Fn} {S : List Nat} {T : Nat → Nat} {L : List Int} (hp : f.params = (pn : Int)) : RawL pn f S T L (parR f.params) := fun r hr => by
  rw [parR_get _ hr, hp]
  split
  · exact Or.inr (Or.inl ⟨by omega, by omega⟩)
  · exact Or.inl rfl
theorem raw_from {P : List Fn} {f : Fn} (ok : FlowOk P f) {S : List Nat} {T : Nat → Nat} (hB : BlkOk f S T) {L : List Int} {pn : Nat} (hp : f.params = (pn : Int)) {b : Nat} {l : List Int} (h : FromR f S T L b l) : b < S.length → RawL pn f S T L l := by
  induction h with
  | @joins b h =>
    intro hb r hr
    have e := fromR_eq (.joins h : FromR f S T L b _)
    rw [wantR_get _ _ hr]
    split
    · rename_i hbit
      right
      have e2 : (fromR f S T L b).getD r 0 = phiI b r := by rw [e, wantR_get _ _ hr, if_pos hbit, phiR_get b hr]
      refine Or.inr (Or.inr ⟨b, r, hb, hr, phiR_get b hr, ?_, ?_⟩)
      · rw [phiR_get b hr]; exact e2
      · unfold phiM
        rw [if_pos h]
        exact phiTo_mem.2 ⟨r, hr, by rw [e2]; unfold phiI; omega, rfl⟩
    · exact Or.inl rfl
  | first _ => exact fun _ => raw_par hp
  | @one b j l h hf ih =>
    intro hb
    obtain ⟨hj, -⟩ := prev_behind ok hB hb (show ((j : Nat) : Int) ∈ prevs f S T b by rw [h]; simp)
    have hE := hB.ends j hj
    have eS : S.getD j 0 = S[j] := by simp [List.getD, hj]
    have := hE.lt
    exact raw_on hj _ _ _ (Nat.le_refl _) (by omega) hf.len (ih hj)
theorem raw_beh {P : List Fn} {f : Fn} (ok : FlowOk P f) {S : List Nat} {T : Nat → Nat} (hB : BlkOk f S T) {L : List Int} {pn : Nat} (hp : f.params = (pn : Int)) {b : Nat} {z : Int} (hz : z ∈ prevs f S T b) : RawL pn f S T L (behR f S T L z) := by
  unfold behR
  split
  · exact raw_par hp
  · rename_i h
    rcases (prevs_mem z).1 hz with ⟨-, e⟩ | ⟨j, hj, rfl, -⟩
    · exact absurd e h
    · rw [Int.toNat_natCast]
      have hE := hB.ends j hj
      have eS : S.getD j 0 = S[j] := by simp [List.getD, hj]
      have := hE.lt
      exact raw_on hj _ _ _ (Nat.le_refl _) (by omega) (fromR_is ok hB L hj).len (raw_from ok hB hp (fromR_is ok hB L hj) hj)
theorem idsTo_mem {pn : Nat} {PH : Nat → List PhiD} {IN : Nat → List InsD} {z : Int} : ∀ {n : Nat}, z ∈ idsTo pn PH IN n ↔ (0 ≤ z ∧ z < (pn : Int)) ∨ ∃ b, b < n ∧ z ∈ idsP (PH b) (IN b)
  | 0 => by
    show z ∈ (List.range pn).map (fun r => ((r : Nat) : Int)) ↔ _
    rw [List.mem_map]
    constructor
    · rintro ⟨r, hr, rfl⟩
      have := List.mem_range.1 hr
      exact Or.inl ⟨by omega, by omega⟩
    · rintro (⟨h1, h2⟩ | ⟨b, hb, -⟩)
      · exact ⟨z.toNat, List.mem_range.2 (by omega), by omega⟩
      · omega
  | n + 1 => by
    rw [idsTo, List.mem_append, idsTo_mem]
    constructor
    · rintro ((h | ⟨b, hb, h⟩) | h)
      · exact Or.inl h
      · exact Or.inr ⟨b, by omega, h⟩
      · exact Or.inr ⟨n, by omega, h⟩
    · rintro (h | ⟨b, hb, h⟩)
      · exact Or.inl (Or.inl h)
      · by_cases e : b = n
        · subst e; exact Or.inr h
        · exact Or.inl (Or.inr ⟨b, by omega, h⟩)
theorem SsaIs.counted {P : List Fn} {f : Fn} {S : List Nat} {T : Nat → Nat} {L : List Int} {pn : Nat} {g : List (Int × Int)} {D : PDat} (h : SsaIs P f S T L pn g D) (ok : FlowOk P f) (hU : ∀ q, q < f.code.length → Way f 63 q → ∀ r, r < 12 → (rdMask P (insD f q)).testBit r = true → ¬ Way f r q) {z : Int} (hz : RawV pn f S T L z) : stG g z ∈ idsD pn S.length D := by
  have hpf := phiFit_all ok hU h.ok h.live
  have hsv := SInv.settle (fun p hp a ha => ((hpf p hp).2 a ha).2) h.settle (SInv.new (phi_ids ok h.ok h.live))
  have hrg : RawV pn f S T L (stG g z) := stG_pres (h.settle.pres (Q := RawV pn f S T L) (fun l hl p hp a ha => by
    obtain ⟨b, hb, rfl⟩ := List.mem_map.1 hl
    have hb := List.mem_range.1 hb
    obtain ⟨r, hr, -, e, -⟩ := phi_form ok h.ok h.live hb hp
    rw [e] at ha
    obtain ⟨y, hy, rfl⟩ := List.mem_map.1 ha
    rcases raw_beh ok h.ok h.par hy r hr with e2 | e2
    · exact absurd e2 ((hpf p (List.mem_flatten.2 ⟨_, hl, hp⟩)).2 _ (by rw [e]; exact List.mem_map.2 ⟨y, hy, rfl⟩)).2
    · exact e2) (by simp)) hz
  have hkey := hsv.1.ok.left z
  generalize stG g z = x at *
  refine idsTo_mem.2 ?_
  rcases hrg with a | ⟨b, hb, pc, a1, a2, a3, a4⟩ | ⟨b, r, hb, hr, a1, a2, a3⟩
  · exact Or.inl a
  · refine Or.inr ⟨b, hb, List.mem_append_right _ ?_⟩
    rw [h.left.ins b hb, insL_ids]
    exact List.mem_map.2 ⟨pc - S.getD b 0, List.mem_filter.2 ⟨List.mem_range.2 (by omega), by rw [Nat.add_sub_cancel' a1]; exact a3⟩, by rw [Nat.add_sub_cancel' a1]; exact a4.symm⟩
  · have hm : phi1 f S T L b r ∈ (phsOf (phiM f S T L) S.length).flatten := List.mem_flatten.2 ⟨_, List.mem_map.2 ⟨b, List.mem_range.2 hb, rfl⟩, a3⟩
    rcases hsv.1.cov _ hm with h1 | ⟨q, hq, e⟩
    · obtain ⟨l, hl, hpl⟩ := List.mem_flatten.1 h1
      obtain ⟨b', hb', rfl⟩ := List.mem_map.1 hl
      exact Or.inr ⟨b', List.mem_range.1 hb', List.mem_append_left _ (List.mem_map.2 ⟨_, hpl, a2⟩)⟩
    · exact absurd (e.trans a2) (hkey q hq)
theorem newI_lt {g : List (Int × Int)} {ids : List Int} {v : Int} (hv : v = -1 ∨ stG g v ∈ ids) : newI g ids v < (ids.length : Int) := by
  unfold newI
  split
  · omega
  · rename_i h
    rcases hv with e | e
    · exact absurd e h
    · rw [if_pos e]
      have := List.idxOf_lt_length_of_mem e
      omega
theorem newI_there (g : List (Int × Int)) (ids : List Int) (v : Int) : 0 ≤ newI g ids v ↔ v ≠ -1 := by
  unfold newI
  split
  · rename_i h; simp [h]
  · rename_i h
    split <;> simp [h]
end Go.Proofs.YtldbmdgpdolaaaaGreatDoor
