import Derived.Test.YtldbmdgpdolaaaaGreatDoorPXSsaBuild
namespace Go.Proofs.YtldbmdgpdolaaaaGreatDoor
open Go Go.RowKit

theorem finD_ph (pn n : Nat) (g : List (Int × Int)) (D : PDat) (ar : Nat → List Int) {b : Nat} (hb : b < n) : (finD pn n g D ar).ph b = (D.ph b).map (phN (newI g (idsD pn n D))) := if_pos hb
theorem finD_ins (pn n : Nat) (g : List (Int × Int)) (D : PDat) (ar : Nat → List Int) {b : Nat} (hb : b < n) : (finD pn n g D ar).ins b = (D.ins b).map (insN (newI g (idsD pn n D))) := if_pos hb
theorem finD_rg (pn n : Nat) (g : List (Int × Int)) (D : PDat) (ar : Nat → List Int) {b : Nat} (hb : b < n) : (finD pn n g D ar).rg b = (D.rg b).map (newI g (idsD pn n D)) := if_pos hb
theorem getD_map {α β : Type} (f : α → β) (l : List α) {r : Nat} (d : α) (e : β) (hr : r < l.length) : (l.map f).getD r e = f (l.getD r d) := by
  simp [List.getD, hr]
theorem SsaIs.phi {P : List Fn} {f : Fn} {S : List Nat} {T : Nat → Nat} {L : List Int} {pn : Nat} {g : List (Int × Int)} {D : PDat} (h : SsaIs P f S T L pn g D) (ok : FlowOk P f) {ar : Nat → List Int} {b : Nat} (hb : b < S.length) {p : PhiD} (hp : p ∈ (finD pn S.length g D ar).ph b) :
    1 < (prevs f S T b).length ∧ p.reg < 12 ∧ (mkL L (S.getD b 0)).testBit p.reg = true ∧ ((finD pn S.length g D ar).rg b).getD p.reg 0 = p.id := by
  rw [finD_ph _ _ _ _ _ hb] at hp
  rw [finD_rg _ _ _ _ _ hb]
  obtain ⟨p0, hp0, rfl⟩ := List.mem_map.1 hp
  obtain ⟨r, hr, hj, -, hreg, hid, hw⟩ := phi_form ok h.ok h.live hb ((h.left.ph b hb).subset hp0)
  have eS : S.getD b 0 = S[b] := by simp [List.getD, hb]
  have hrc := h.ok.starts.reach ok (List.getElem_mem hb)
  have hbit : (mkL L (S.getD b 0)).testBit r = true := by
    rw [eS]
    rcases h.live.2 S[b] hrc.2 with ⟨h2, -⟩ | ⟨-, m, hm, e, hb2⟩
    · exact absurd hrc.1 h2
    · have : mkL L S[b] = m := by unfold mkL; rw [e]; rfl
      rw [this]
      exact (hb2 r hr).2 hw
  show 1 < _ ∧ p0.reg < 12 ∧ (mkL L (S.getD b 0)).testBit p0.reg = true ∧ (List.map (newI g (idsD pn S.length D)) (D.rg b)).getD p0.reg 0 = newI g (idsD pn S.length D) p0.id
  rw [hreg]
  refine ⟨hj, hr, hbit, ?_⟩
  rw [(h.part b hb).2, getD_map _ _ (0 : Int) 0 (by rw [wantR_len]; exact hr), wantR_get _ _ hr, if_pos hbit, fromR_eq (.joins hj), wantR_get _ _ hr, if_pos hbit, phiR_get b hr, hid]
theorem PartsAt.phs {w : World} {base g n : Nat} {D : PDat} {L : PLay} (h : PartsAt w base g n D L) {b : Nat} (hb : b < n) : ∃ (ao : Option Addr) (q c : Nat), L.vp b = .slice ao (D.ph b).length c ∧ (D.ph b).length ≤ c ∧ (0 < (D.ph b).length → ao = some ⟨q, 0, none⟩) ∧
    ∀ W, Below w.heap.size w W → ∀ j (hj : j < (D.ph b).length), W.cell? ⟨q, j * 3, none⟩ = some (.int .i64 ((D.ph b)[j].reg : Nat)) ∧ W.cell? ⟨q, j * 3 + 1, none⟩ = some (.int .i64 (D.ph b)[j].id) ∧ W.cell? ⟨q, j * 3 + 2, none⟩ = some (L.va (12 * b + (D.ph b)[j].reg)) ∧ W.rangeAt q (j * 3) (phC L.va b (D.ph b)[j]) := by
  obtain ⟨hx, hc⟩ := h.phis.own b hb
  rcases hc with ⟨e, e2⟩ | ⟨q, cap, cur, e, hq, hh, hle, hmx, hsz, htk⟩
  · exact ⟨none, 0, 0, by rw [e, e2], by omega, by omega, fun _ _ j hj => by omega⟩
  · refine ⟨_, q, cap, e, hle, fun _ => rfl, fun W hW j hj => ?_⟩
    have hown : W.ownsRow base 72 3 (.slice (some ⟨q, 0, none⟩) (D.ph b).length cap) (D.ph b).length ((D.ph b).flatMap (phC L.va b)) := by
      rw [← e]; exact ownsRow_below (h.phis.own b hb) hW
    have hc : ∀ c, c < 3 → W.cell? ⟨q, j * 3 + c, none⟩ = (phC L.va b (D.ph b)[j])[c]? := fun c hc => by
      rw [hown.cellAt (j * 3 + c) (at_lt hj hc)]
      exact flat_get (phC_len L.va b) _ _ _ hj hc
    refine ⟨hc 0 (by omega), hc 1 (by omega), hc 2 (by omega), fun i u hu => ?_⟩
    have hi : i < 3 := by
      rcases Nat.lt_or_ge i 3 with h | h
      · exact h
      · rw [List.getElem?_eq_none (by rw [phC_len]; exact h)] at hu; cases hu
    rw [hc i hi]; exact hu
theorem prevs_congr {f : Fn} {S : List Nat} {T T' : Nat → Nat} (h : ∀ i, i < S.length → T i = T' i) (b : Nat) : pvI f S T' S.length b = prevs f S T b := by
  unfold prevs pvI
  congr 2
  exact List.filter_congr fun j hj => by rw [h j (List.mem_range.1 hj)]
theorem BlkOk.same {f : Fn} {S S' : List Nat} {T T' : Nat → Nat} (h : BlkOk f S T) (h' : BlkOk f S' T') : S = S' ∧ ∀ i, i < S.length → T i = T' i := by
  obtain rfl := h.starts.unique h'.starts
  exact ⟨rfl, fun i hi => (h.ends i hi).unique (h'.ends i hi)⟩
theorem SsaIs.phs {P : List Fn} {f : Fn} {S : List Nat} {T : Nat → Nat} {L : List Int} {pn : Nat} {g : List (Int × Int)} {D : PDat} (h : SsaIs P f S T L pn g D) (ok : FlowOk P f) {ar : Nat → List Int} {w : World} {base gp : Nat} {Ly : PLay} (hp : PartsAt w base gp S.length (finD pn S.length g D ar) Ly) :
    ∀ i, i < S.length → ∃ (ao : Option Addr) (q c np : Nat), np ≤ 12 ∧ np ≤ c ∧ (0 < np → ao = some ⟨q, 0, none⟩ ∧ 1 < (prevs f S T i).length) ∧ (∀ W, Below w.heap.size w W → W.cell? ⟨gp, i * 15 + 1, none⟩ = some (.slice ao np c)) ∧
      ∀ j, j < np → ∃ (r : Nat) (id : Int) (aA : Option Addr) (nA cA : Nat), r < 12 ∧ (mkL L (S.getD i 0)).testBit r = true ∧ ∀ W, Below w.heap.size w W → W.rangeAt q (j * 3) [.int .i64 (r : Int), .int .i64 id, .slice aA nA cA] ∧ W.cell? ⟨gp, i * 15 + 3 + r, none⟩ = some (.int .i64 id) := fun i hi => by
  obtain ⟨ao, q, c, e, hc, h0, hj⟩ := hp.phs hi
  have hl : ((finD pn S.length g D ar).ph i).length ≤ 12 := by
    rw [finD_ph _ _ _ _ _ hi, List.length_map]
    exact Nat.le_trans (h.left.ph i hi).length_le (phi_len f S T L i)
  refine ⟨ao, q, c, _, hl, hc, fun h1 => ⟨h0 h1, (h.phi ok (ar := ar) hi (List.getElem_mem h1)).1⟩, fun W hW => by rw [← e]; exact (hp.below hW).cellP hi, fun j hjl => ?_⟩
  obtain ⟨-, f2, f3, f4⟩ := h.phi ok (ar := ar) hi (List.getElem_mem hjl)
  obtain ⟨aA, cA, eA⟩ := own_shape (hp.args.own (12 * i + ((finD pn S.length g D ar).ph i)[j].reg) (by omega))
  refine ⟨((finD pn S.length g D ar).ph i)[j].reg, ((finD pn S.length g D ar).ph i)[j].id, aA, ((finD pn S.length g D ar).ar (12 * i + ((finD pn S.length g D ar).ph i)[j].reg)).length, cA, f2, f3, fun W hW => ⟨?_, ?_⟩⟩
  · have := (hj W hW j hjl).2.2.2
    unfold phC at this
    rw [eA] at this
    exact this
  · rw [(hp.below hW).cellR hi f2, f4]
end Go.Proofs.YtldbmdgpdolaaaaGreatDoor
namespace Go.Proofs.YtldbmdgpdolaaaaGreatDoor
open Go Go.RowKit

theorem stG_pres {Q : Int → Prop} {g : List (Int × Int)} (h : ∀ q ∈ g, Q q.2) : ∀ {v : Int}, Q v → Q (stG g v) := by
  induction g with
  | nil => intro v hv; exact hv
  | cons p g ih =>
    intro v hv
    rw [stG]
    refine ih (fun q hq => h q (by simp [hq])) ?_
    split
    · exact h p (by simp)
    · exact hv
theorem loneG_mem {g : List (Int × Int)} {id : Int} : ∀ (args : List Int) (one : Int), loneG g id one args = one ∨ loneG g id one args = -1 ∨ ∃ a ∈ args, loneG g id one args = stG g a
  | [], one => Or.inl rfl
  | a :: t, one => by
    rw [loneG]
    split
    · rcases loneG_mem t one with h | h | ⟨x, hx, h⟩
      · exact Or.inl h
      · exact Or.inr (Or.inl h)
      · exact Or.inr (Or.inr ⟨x, by simp [hx], h⟩)
    · split
      · exact Or.inr (Or.inl rfl)
      · rcases loneG_mem t (stG g a) with h | h | ⟨x, hx, h⟩
        · exact Or.inr (Or.inr ⟨a, by simp, h⟩)
        · exact Or.inr (Or.inl h)
        · exact Or.inr (Or.inr ⟨x, by simp [hx], h⟩)
theorem leftG_pres {Q : Int → Prop} : ∀ (ps : List PhiD) (g : List (Int × Int)), (∀ p ∈ ps, ∀ a ∈ p.args, Q a) → (∀ q ∈ g, Q q.2) → (∀ q ∈ (leftG g ps).1, Q q.2) ∧ ∀ p ∈ (leftG g ps).2, p ∈ ps
  | [], g, _, h => ⟨h, fun p hp => by cases hp⟩
  | p :: t, g, ha, h => by
    rw [leftG]
    split
    · have := leftG_pres t g (fun x hx => ha x (by simp [hx])) h
      refine ⟨this.1, fun x hx => ?_⟩
      rcases List.mem_cons.1 hx with e | hx
      · rw [e]; simp
      · have := this.2 x hx; simp [this]
    · rename_i hne
      have hq : Q (loneG g p.id (-1) p.args) := by
        rcases loneG_mem (g := g) (id := p.id) p.args (-1) with e | e | ⟨a, haa, e⟩
        · exact absurd e hne
        · exact absurd e hne
        · rw [e]; exact stG_pres h (ha p (by simp) a haa)
      have := leftG_pres t (g ++ [(p.id, loneG g p.id (-1) p.args)]) (fun x hx => ha x (by simp [hx])) (fun q hq' => by
        rcases List.mem_append.1 hq' with h' | h'
        · exact h q h'
        · have e : q = (p.id, loneG g p.id (-1) p.args) := by simpa using h'
          rw [e]; exact hq)
      exact ⟨this.1, fun x hx => by have := this.2 x hx; simp [this]⟩
theorem roundG_pres {Q : Int → Prop} : ∀ (ps : List (List PhiD)) (g : List (Int × Int)), (∀ l ∈ ps, ∀ p ∈ l, ∀ a ∈ p.args, Q a) → (∀ q ∈ g, Q q.2) → (∀ q ∈ (roundG g ps).1, Q q.2) ∧ ∀ l ∈ (roundG g ps).2, ∀ p ∈ l, ∃ l' ∈ ps, p ∈ l'
  | [], g, _, h => ⟨h, fun l hl => by cases hl⟩
  | ps :: t, g, ha, h => by
    rw [roundG]
    have h1 := leftG_pres ps g (ha ps (by simp)) h
    have h2 := roundG_pres t (leftG g ps).1 (fun l hl => ha l (by simp [hl])) h1.1
    refine ⟨h2.1, fun l hl p hp => ?_⟩
    rcases List.mem_cons.1 hl with e | hl
    · rw [e] at hp; exact ⟨ps, by simp, h1.2 p hp⟩
    · obtain ⟨l', h3, h4⟩ := h2.2 l hl p hp
      exact ⟨l', by simp [h3], h4⟩
theorem SettleTo.pres {Q : Int → Prop} {g g' : List (Int × Int)} {ps ps' : List (List PhiD)} (hs : SettleTo g ps g' ps') : (∀ l ∈ ps, ∀ p ∈ l, ∀ a ∈ p.args, Q a) → (∀ q ∈ g, Q q.2) → ∀ q ∈ g', Q q.2 := by
  induction hs with
  | stop _ => exact fun ha h => (roundG_pres _ _ ha h).1
  | on _ _ ih =>
    intro ha h
    have := roundG_pres _ _ ha h
    exact ih (fun l hl p hp a haa => by obtain ⟨l', h1, h2⟩ := this.2 l hl p hp; exact ha l' h1 p h2 a haa) this.1
def RawV (pn : Nat) (f : Fn) (S : List Nat) (T : Nat → Nat) (L : List Int) (z : Int) : Prop :=
  (0 ≤ z ∧ z < (pn : Int)) ∨ (∃ b, b < S.length ∧ ∃ pc : Nat, S.getD b 0 ≤ pc ∧ pc < T b ∧ setsB (insD f pc).op = true ∧ z = madeI pc) ∨ (∃ b r, b < S.length ∧ r < 12 ∧ z = phiI b r ∧ (phi1 f S T L b r).id = z ∧ phi1 f S T L b r ∈ phiM f S T L b)
def RawL (pn : Nat) (f : Fn) (S : List Nat) (T : Nat → Nat) (L : List Int) (l : List Int) : Prop := ∀ r, r < 12 → l.getD r 0 = -1 ∨ RawV pn f S T L (l.getD r 0)
theorem raw_on1 {pn : Nat} {f : Fn} {S : List Nat} {T : Nat → Nat} {L : List Int} {b pc : Nat} (hb : b < S.length) (h1 : S.getD b 0 ≤ pc) (h2 : pc < T b) {l : List Int} (hl : l.length = 12) (h : RawL pn f S T L l) : RawL pn f S T L (on1 f pc l) := fun r hr => by
  unfold on1
  split
  · rename_i hs
    rw [List.getD, List.getElem?_set]
    split
    · rename_i e
      rw [if_pos (by omega)]
      exact Or.inr (Or.inr (Or.inl ⟨b, hb, pc, h1, h2, hs, rfl⟩))
    · exact h r hr
  · exact h r hr
theorem raw_on {pn : Nat} {f : Fn} {S : List Nat} {T : Nat → Nat} {L : List Int} {b : Nat} (hb : b < S.length) : ∀ (n pc : Nat) (l : List Int), S.getD b 0 ≤ pc → pc + n ≤ T b → l.length = 12 → RawL pn f S T L l → RawL pn f S T L (onR f pc n l)
  | 0, _, _, _, _, _, h => h
  | n + 1, pc, l, h1, h2, hl, h => raw_on hb n (pc + 1) _ (by omega) (by omega) (by rw [on1_len]; exact hl) (raw_on1 hb h1 (by omega) hl h)
theorem raw_par {pn : Nat} {f : Fn} {S : List Nat} {T : Nat → Nat} {L : List Int} (hp : f.params = (pn : Int)) : RawL pn f S T L (parR f.params) := fun r hr => by
  rw [parR_get _ hr, hp]
  split
  · exact Or.inr (Or.inl ⟨by omega, by omega⟩)
  · exact Or.inl rfl
theorem raw_from {P : List Fn} {f : Fn} (ok : FlowOk P f) {S : List Nat} {T : Nat → Nat} (hB : BlkOk f S T) {L : List Int} {pn : Nat} (hp : f.params = (pn : Int)) {b : Nat} {l : List Int} (h : FromR f S T L b l) : b < S.length → RawL pn f S T L l := by
  induction h with
  | @joins b h =>
    intro hb r hr
    have e := fromR_eq (.joins h : FromR f S T L b _)
    rw [wantR_get _ _ hr]
    split
    · rename_i hbit
      right
      have e2 : (fromR f S T L b).getD r 0 = phiI b r := by rw [e, wantR_get _ _ hr, if_pos hbit, phiR_get b hr]
      refine Or.inr (Or.inr ⟨b, r, hb, hr, phiR_get b hr, ?_, ?_⟩)
      · rw [phiR_get b hr]; exact e2
      · unfold phiM
        rw [if_pos h]
        exact phiTo_mem.2 ⟨r, hr, by rw [e2]; unfold phiI; omega, rfl⟩
    · exact Or.inl rfl
  | first _ => exact fun _ => raw_par hp
  | @one b j l h hf ih =>
    intro hb
    obtain ⟨hj, -⟩ := prev_behind ok hB hb (show ((j : Nat) : Int) ∈ prevs f S T b by rw [h]; simp)
    have hE := hB.ends j hj
    have eS : S.getD j 0 = S[j] := by simp [List.getD, hj]
    have := hE.lt
    exact raw_on hj _ _ _ (Nat.le_refl _) (by omega) hf.len (ih hj)
theorem raw_beh {P : List Fn} {f : Fn} (ok : FlowOk P f) {S : List Nat} {T : Nat → Nat} (hB : BlkOk f S T) {L : List Int} {pn : Nat} (hp : f.params = (pn : Int)) {b : Nat} {z : Int} (hz : z ∈ prevs f S T b) : RawL pn f S T L (behR f S T L z) := by
  unfold behR
  split
  · exact raw_par hp
  · rename_i h
    rcases (prevs_mem z).1 hz with ⟨-, e⟩ | ⟨j, hj, rfl, -⟩
    · exact absurd e h
    · rw [Int.toNat_natCast]
      have hE := hB.ends j hj
      have eS : S.getD j 0 = S[j] := by simp [List.getD, hj]
      have := hE.lt
      exact raw_on hj _ _ _ (Nat.le_refl _) (by omega) (fromR_is ok hB L hj).len (raw_from ok hB hp (fromR_is ok hB L hj) hj)
theorem idsTo_mem {pn : Nat} {PH : Nat → List PhiD} {IN : Nat → List InsD} {z : Int} : ∀ {n : Nat}, z ∈ idsTo pn PH IN n ↔ (0 ≤ z ∧ z < (pn : Int)) ∨ ∃ b, b < n ∧ z ∈ idsP (PH b) (IN b)
  | 0 => by
    show z ∈ (List.range pn).map (fun r => ((r : Nat) : Int)) ↔ _
    rw [List.mem_map]
    constructor
    · rintro ⟨r, hr, rfl⟩
      have := List.mem_range.1 hr
      exact Or.inl ⟨by omega, by omega⟩
    · rintro (⟨h1, h2⟩ | ⟨b, hb, -⟩)
      · exact ⟨z.toNat, List.mem_range.2 (by omega), by omega⟩
      · omega
  | n + 1 => by
    rw [idsTo, List.mem_append, idsTo_mem]
    constructor
    · rintro ((h | ⟨b, hb, h⟩) | h)
      · exact Or.inl h
      · exact Or.inr ⟨b, by omega, h⟩
      · exact Or.inr ⟨n, by omega, h⟩
    · rintro (h | ⟨b, hb, h⟩)
      · exact Or.inl (Or.inl h)
      · by_cases e : b = n
        · subst e; exact Or.inr h
        · exact Or.inl (Or.inr ⟨b, by omega, h⟩)
theorem SsaIs.counted {P : List Fn} {f : Fn} {S : List Nat} {T : Nat → Nat} {L : List Int} {pn : Nat} {g : List (Int × Int)} {D : PDat} (h : SsaIs P f S T L pn g D) (ok : FlowOk P f) (hU : ∀ q, q < f.code.length → Way f 63 q → ∀ r, r < 12 → (rdMask P (insD f q)).testBit r = true → ¬ Way f r q) {z : Int} (hz : RawV pn f S T L z) : stG g z ∈ idsD pn S.length D := by
  have hpf := phiFit_all ok hU h.ok h.live
  have hsv := SInv.settle (fun p hp a ha => ((hpf p hp).2 a ha).2) h.settle (SInv.new (phi_ids ok h.ok h.live))
  have hrg : RawV pn f S T L (stG g z) := stG_pres (h.settle.pres (Q := RawV pn f S T L) (fun l hl p hp a ha => by
    obtain ⟨b, hb, rfl⟩ := List.mem_map.1 hl
    have hb := List.mem_range.1 hb
    obtain ⟨r, hr, -, e, -⟩ := phi_form ok h.ok h.live hb hp
    rw [e] at ha
    obtain ⟨y, hy, rfl⟩ := List.mem_map.1 ha
    rcases raw_beh ok h.ok h.par hy r hr with e2 | e2
    · exact absurd e2 ((hpf p (List.mem_flatten.2 ⟨_, hl, hp⟩)).2 _ (by rw [e]; exact List.mem_map.2 ⟨y, hy, rfl⟩)).2
    · exact e2) (by simp)) hz
  have hkey := hsv.1.ok.left z
  generalize stG g z = x at *
  refine idsTo_mem.2 ?_
  rcases hrg with a | ⟨b, hb, pc, a1, a2, a3, a4⟩ | ⟨b, r, hb, hr, a1, a2, a3⟩
  · exact Or.inl a
  · refine Or.inr ⟨b, hb, List.mem_append_right _ ?_⟩
    rw [h.left.ins b hb, insL_ids]
    exact List.mem_map.2 ⟨pc - S.getD b 0, List.mem_filter.2 ⟨List.mem_range.2 (by omega), by rw [Nat.add_sub_cancel' a1]; exact a3⟩, by rw [Nat.add_sub_cancel' a1]; exact a4.symm⟩
  · have hm : phi1 f S T L b r ∈ (phsOf (phiM f S T L) S.length).flatten := List.mem_flatten.2 ⟨_, List.mem_map.2 ⟨b, List.mem_range.2 hb, rfl⟩, a3⟩
    rcases hsv.1.cov _ hm with h1 | ⟨q, hq, e⟩
    · obtain ⟨l, hl, hpl⟩ := List.mem_flatten.1 h1
      obtain ⟨b', hb', rfl⟩ := List.mem_map.1 hl
      exact Or.inr ⟨b', List.mem_range.1 hb', List.mem_append_left _ (List.mem_map.2 ⟨_, hpl, a2⟩)⟩
    · exact absurd (e.trans a2) (hkey q hq)
theorem newI_lt {g : List (Int × Int)} {ids : List Int} {v : Int} (hv : v = -1 ∨ stG g v ∈ ids) : newI g ids v < (ids.length : Int) := by
  unfold newI
  split
  · omega
  · rename_i h
    rcases hv with e | e
    · exact absurd e h
    · rw [if_pos e]
      have := List.idxOf_lt_length_of_mem e
      omega
theorem newI_there (g : List (Int × Int)) (ids : List Int) (v : Int) : 0 ≤ newI g ids v ↔ v ≠ -1 := by
  unfold newI
  split
  · rename_i h; simp [h]
  · rename_i h
    split <;> simp [h]
end Go.Proofs.YtldbmdgpdolaaaaGreatDoor
namespace Go.Proofs.YtldbmdgpdolaaaaGreatDoor
open Go Go.RowKit

theorem rdA_bit {P : List Fn} {x : Ins} (h : rdA P x = true) : (rdMask P x).testBit x.a.toNat = true := by
  rw [rdMask_bit]; unfold readsL; rw [if_pos h]; simp
theorem rdB_bit {P : List Fn} {x : Ins} (h : rdB P x = true) : (rdMask P x).testBit x.b.toNat = true := by
  rw [rdMask_bit]; unfold readsL; rw [if_pos h]; simp
theorem PartsAt.inss {w : World} {base g n : Nat} {D : PDat} {L : PLay} (h : PartsAt w base g n D L) {b : Nat} (hb : b < n) : ∃ (ao : Option Addr) (q c : Nat), L.vi b = .slice ao (D.ins b).length c ∧ (D.ins b).length ≤ c ∧ (0 < (D.ins b).length → ao = some ⟨q, 0, none⟩) ∧
    ∀ W, Below w.heap.size w W → ∀ j (hj : j < (D.ins b).length), W.rangeAt q (j * 6) (inC (D.ins b)[j]) := by
  obtain ⟨hx, hc⟩ := h.ins.own b hb
  rcases hc with ⟨e, e2⟩ | ⟨q, cap, cur, e, hq, hh, hle, hmx, hsz, htk⟩
  · exact ⟨none, 0, 0, by rw [e, e2], by omega, by omega, fun _ _ j hj => by omega⟩
  · refine ⟨_, q, cap, e, hle, fun _ => rfl, fun W hW j hj => ?_⟩
    have hown : W.ownsRow base 67 6 (.slice (some ⟨q, 0, none⟩) (D.ins b).length cap) (D.ins b).length ((D.ins b).flatMap inC) := by
      rw [← e]; exact ownsRow_below (h.ins.own b hb) hW
    intro i u hu
    have hi : i < 6 := by
      rcases Nat.lt_or_ge i 6 with h | h
      · exact h
      · rw [List.getElem?_eq_none (by rw [inC_len]; exact h)] at hu; cases hu
    rw [hown.cellAt (j * 6 + i) (at_lt hj hi), flat_get inC_len _ _ _ hj hi]
    exact hu
theorem SsaIs.ins {P : List Fn} {f : Fn} {S : List Nat} {T : Nat → Nat} {L : List Int} {pn : Nat} {g : List (Int × Int)} {D : PDat} (h : SsaIs P f S T L pn g D) (ok : FlowOk P f) (hU : ∀ q, q < f.code.length → Way f 63 q → ∀ r, r < 12 → (rdMask P (insD f q)).testBit r = true → ¬ Way f r q) {ar : Nat → List Int} {b : Nat} (hb : b < S.length) {j : Nat} (hj : j < ((finD pn S.length g D ar).ins b).length) :
    S.getD b 0 + j < f.code.length ∧ InsOk P (insD f (S.getD b 0 + j)) ∧ ∃ x : InsD, x = ((finD pn S.length g D ar).ins b)[j] ∧ x.pc = ((S.getD b 0 + j : Nat) : Int) ∧ x.op = (insD f (S.getD b 0 + j)).op ∧ x.imm = (insD f (S.getD b 0 + j)).imm ∧ (0 ≤ x.a ↔ rdA P (insD f (S.getD b 0 + j)) = true) ∧ (0 ≤ x.b ↔ rdB P (insD f (S.getD b 0 + j)) = true) ∧ (0 ≤ x.id ↔ setsB (insD f (S.getD b 0 + j)).op = true) ∧ x.a < ((idsD pn S.length D).length : Int) ∧ x.b < ((idsD pn S.length D).length : Int) := by
  have hE := h.ok.ends b hb
  have eS : S.getD b 0 = S[b] := by simp [List.getD, hb]
  have hle := hE.le; have hlt := hE.lt
  have hl : ((finD pn S.length g D ar).ins b).length = T b - S[b] := by
    rw [finD_ins _ _ _ _ _ hb, List.length_map, h.left.ins b hb, insL_len, eS]
  have hpc : S.getD b 0 + j < f.code.length := by omega
  have hio := (ok.insD hpc).1
  refine ⟨hpc, hio, _, rfl, ?_⟩
  have hx : ((finD pn S.length g D ar).ins b)[j] = insN (newI g (idsD pn S.length D)) (insM P f (S.getD b 0 + j) (onR f (S.getD b 0) j (fromR f S T L b))) := by
    have e : (finD pn S.length g D ar).ins b = (insL P f (S.getD b 0) (T b - S.getD b 0) (fromR f S T L b)).map (insN (newI g (idsD pn S.length D))) := by rw [finD_ins _ _ _ _ _ hb, h.left.ins b hb]
    simp only [e, List.getElem_map]
    simp [insL]
  rw [hx]
  have hlen := (fromR_is ok h.ok L hb).len
  have hraw : RawL pn f S T L (onR f (S.getD b 0) j (fromR f S T L b)) := raw_on hb j _ _ (Nat.le_refl _) (by omega) hlen (raw_from ok h.ok h.par (fromR_is ok h.ok L hb) hb)
  have hthere : ∀ r, r < 12 → (rdMask P (insD f (S.getD b 0 + j))).testBit r = true → (onR f (S.getD b 0) j (fromR f S T L b)).getD r 0 ≠ -1 := fun r hr hbit => by
    rw [eS] at hbit ⊢
    exact onR_live ok h.ok hb hr hlen (from_live ok hU h.ok h.live (fromR_is ok h.ok L hb) hb r hr) j (by omega) (LiveW.read (by omega) hbit)
  have hcnt : ∀ r, r < 12 → newI g (idsD pn S.length D) ((onR f (S.getD b 0) j (fromR f S T L b)).getD r 0) < ((idsD pn S.length D).length : Int) := fun r hr => newI_lt ((hraw r hr).imp id fun e => h.counted ok hU e)
  have hm1 : newI g (idsD pn S.length D) (-1) < ((idsD pn S.length D).length : Int) := newI_lt (Or.inl rfl)
  have ha : (insD f (S.getD b 0 + j)).a.toNat < 12 := by have := hio.a0; have := hio.a1; omega
  have hb' : (insD f (S.getD b 0 + j)).b.toNat < 12 := by have := hio.b0; have := hio.b1; omega
  refine ⟨rfl, rfl, rfl, ?_, ?_, ?_, ?_, ?_⟩
  · show 0 ≤ newI _ _ (if rdA _ _ = true then _ else -1) ↔ _
    rw [newI_there]
    split
    · rename_i h1; exact ⟨fun _ => h1, fun _ => hthere _ ha (rdA_bit h1)⟩
    · rename_i h1; exact ⟨fun h2 => absurd rfl h2, fun h2 => absurd h2 h1⟩
  · show 0 ≤ newI _ _ (if rdB _ _ = true then _ else -1) ↔ _
    rw [newI_there]
    split
    · rename_i h1; exact ⟨fun _ => h1, fun _ => hthere _ hb' (rdB_bit h1)⟩
    · rename_i h1; exact ⟨fun h2 => absurd rfl h2, fun h2 => absurd h2 h1⟩
  · show 0 ≤ newI _ _ (if setsB _ = true then _ else -1) ↔ _
    rw [newI_there]
    split
    · rename_i h1; exact ⟨fun _ => h1, fun _ => by unfold madeI; omega⟩
    · rename_i h1; exact ⟨fun h2 => absurd rfl h2, fun h2 => absurd h2 h1⟩
  · show newI _ _ (if rdA _ _ = true then _ else -1) < _
    split
    · exact hcnt _ ha
    · exact hm1
  · show newI _ _ (if rdB _ _ = true then _ else -1) < _
    split
    · exact hcnt _ hb'
    · exact hm1
theorem SsaIs.inss {P : List Fn} {f : Fn} {S : List Nat} {T : Nat → Nat} {L : List Int} {pn : Nat} {g : List (Int × Int)} {D : PDat} (h : SsaIs P f S T L pn g D) (ok : FlowOk P f) (hU : ∀ q, q < f.code.length → Way f 63 q → ∀ r, r < 12 → (rdMask P (insD f q)).testBit r = true → ¬ Way f r q) {ar : Nat → List Int} {w : World} {base gp : Nat} {Ly : PLay} (hp : PartsAt w base gp S.length (finD pn S.length g D ar) Ly) :
    ∀ i, i < S.length → ∃ (ao : Option Addr) (q c ni : Nat), ni ≤ 40 ∧ ni ≤ c ∧ (0 < ni → ao = some ⟨q, 0, none⟩) ∧ (∀ W, Below w.heap.size w W → W.cell? ⟨gp, i * 15 + 2, none⟩ = some (.slice ao ni c)) ∧
      ∀ j, j < ni → ∃ (x : InsD) (pc : Nat), pc < f.code.length ∧ InsOk P (insD f pc) ∧ x.pc = (pc : Int) ∧ x.imm = (insD f pc).imm ∧ (0 ≤ x.a ↔ rdA P (insD f pc) = true) ∧ (0 ≤ x.b ↔ rdB P (insD f pc) = true) ∧ (0 ≤ x.id ↔ setsB (insD f pc).op = true) ∧ x.a < ((idsD pn S.length D).length : Int) ∧ x.b < ((idsD pn S.length D).length : Int) ∧ ∀ W, Below w.heap.size w W → W.rangeAt q (j * 6) (inC x) := fun i hi => by
  obtain ⟨ao, q, c, e, hc, h0, hj⟩ := hp.inss hi
  have hl : ((finD pn S.length g D ar).ins i).length ≤ 40 := by
    rw [finD_ins _ _ _ _ _ hi, List.length_map, h.left.ins i hi, insL_len]
    have := (h.ok.ends i hi).le; have := ok.ok.len2; omega
  refine ⟨ao, q, c, _, hl, hc, h0, fun W hW => by rw [← e]; exact (hp.below hW).cellI hi, fun j hjl => ?_⟩
  obtain ⟨h1, h2, x, hx, f1, -, f3, f4, f5, f6, f7, f8⟩ := h.ins ok hU (ar := ar) hi hjl
  exact ⟨x, _, h1, h2, f1, f3, f4, f5, f6, f7, f8, fun W hW => by rw [hx]; exact hj W hW j hjl⟩
end Go.Proofs.YtldbmdgpdolaaaaGreatDoor
namespace Go.Proofs.YtldbmdgpdolaaaaGreatDoor
open Go Go.RowKit

theorem newI_at {g : List (Int × Int)} {A rest : List Int} {z : Int} (hz : z ≠ -1) (hg : ∀ q ∈ g, q.1 ≠ z) (hn : (A ++ z :: rest).Nodup) : newI g (A ++ z :: rest) z = (A.length : Int) := by
  have hnm : z ∉ A := fun h => by
    rw [List.nodup_append] at hn
    exact hn.2.2 z h z (by simp) rfl
  unfold newI
  rw [if_neg hz, stG_free hg, if_pos (by simp), List.idxOf_append, if_neg hnm, List.idxOf_cons_self]
  simp
theorem SsaIs.phiOrd {P : List Fn} {f : Fn} {S : List Nat} {T : Nat → Nat} {L : List Int} {pn : Nat} {g : List (Int × Int)} {D : PDat} (h : SsaIs P f S T L pn g D) (ok : FlowOk P f) (hU : ∀ q, q < f.code.length → Way f 63 q → ∀ r, r < 12 → (rdMask P (insD f q)).testBit r = true → ¬ Way f r q) {b : Nat} (hb : b < S.length) {j : Nat} (hj : j < (D.ph b).length) :
    newI g (idsD pn S.length D) (D.ph b)[j].id = (((idsTo pn D.ph D.ins b).length + j : Nat) : Int) ∧ (D.ph b)[j].args.length = (prevs f S T b).length := by
  have hpf := phiFit_all ok hU h.ok h.live
  have hsv := SInv.settle (fun p hp a ha => ((hpf p hp).2 a ha).2) h.settle (SInv.new (phi_ids ok h.ok h.live))
  have hpn : pn ≤ 12 := by have := ok.ok.p2; rw [h.par] at this; omega
  obtain ⟨hnd, -⟩ := ids_ok ok h.ok h.live h.left hpn S.length (Nat.le_refl _)
  have hm : (D.ph b)[j] ∈ D.ph b := List.getElem_mem hj
  obtain ⟨r, hr, -, e, -, hid, -⟩ := phi_form ok h.ok h.live hb ((h.left.ph b hb).subset hm)
  obtain ⟨rest, hrest⟩ := idsTo_phi (params := pn) (IN := D.ins) hb hj
  constructor
  · have hg := (hsv.1.sub _ (List.mem_flatten.2 ⟨_, List.mem_map.2 ⟨b, List.mem_range.2 hb, rfl⟩, hm⟩)).2
    unfold idsD
    rw [hrest] at hnd ⊢
    rw [newI_at (by rw [hid]; unfold phiI; omega) hg hnd]
    rw [List.length_append, List.length_map, List.length_take, Nat.min_eq_left (Nat.le_of_lt hj)]
  · rw [e]
    show (List.map _ _).length = _
    rw [List.length_map]
theorem SsaIs.insOrd {P : List Fn} {f : Fn} {S : List Nat} {T : Nat → Nat} {L : List Int} {pn : Nat} {g : List (Int × Int)} {D : PDat} (h : SsaIs P f S T L pn g D) (ok : FlowOk P f) (hU : ∀ q, q < f.code.length → Way f 63 q → ∀ r, r < 12 → (rdMask P (insD f q)).testBit r = true → ¬ Way f r q) {b : Nat} (hb : b < S.length) {j : Nat} (hj : j < (D.ins b).length) :
    (((D.ins b)[j].id = -1 ∧ insTo (D.ins b) (j + 1) = insTo (D.ins b) j) ∨ (newI g (idsD pn S.length D) (D.ins b)[j].id = (((idsTo pn D.ph D.ins b).length + (D.ph b).length + (insTo (D.ins b) j).length : Nat) : Int) ∧ (insTo (D.ins b) (j + 1)).length = (insTo (D.ins b) j).length + 1)) := by
  by_cases hne : (D.ins b)[j].id = -1
  · left
    refine ⟨hne, ?_⟩
    rw [insTo_step hj, if_neg (by simp [hne])]; simp
  · right
    have hpf := phiFit_all ok hU h.ok h.live
    have hsv := SInv.settle (fun p hp a ha => ((hpf p hp).2 a ha).2) h.settle (SInv.new (phi_ids ok h.ok h.live))
    have hpn : pn ≤ 12 := by have := ok.ok.p2; rw [h.par] at this; omega
    obtain ⟨hnd, -⟩ := ids_ok ok h.ok h.live h.left hpn S.length (Nat.le_refl _)
    obtain ⟨rest, hrest⟩ := idsTo_ins (params := pn) (PH := D.ph) hb hj hne
    have hle := (h.ok.ends b hb).le
    have hid : ∃ pc : Nat, pc < 40 ∧ (D.ins b)[j].id = madeI pc := by
      have e : (D.ins b)[j] = insM P f (S.getD b 0 + j) (onR f (S.getD b 0) j (fromR f S T L b)) := by
        simp only [h.left.ins b hb]; simp [insL]
      have hl : (D.ins b).length = T b - S.getD b 0 := by rw [h.left.ins b hb, insL_len]
      rw [e, insM_id] at hne ⊢
      split at hne
      · rename_i hs
        exact ⟨S.getD b 0 + j, by have := ok.ok.len2; omega, by rw [if_pos hs]⟩
      · exact absurd rfl hne
    obtain ⟨pc, hpc, hid⟩ := hid
    have hg : ∀ q ∈ g, q.1 ≠ (D.ins b)[j].id := fun q hq e => by
      obtain ⟨p, hp, e2, -⟩ := hsv.1.went q hq
      obtain ⟨l, hl, hpl⟩ := List.mem_flatten.1 hp
      obtain ⟨b', hb', rfl⟩ := List.mem_map.1 hl
      obtain ⟨r, hr, -, -, -, e3, -⟩ := phi_form ok h.ok h.live (List.mem_range.1 hb') hpl
      rw [← e2, e3, hid] at e
      unfold phiI madeI at e
      omega
    constructor
    · unfold idsD
      rw [hrest] at hnd ⊢
      rw [newI_at hne hg hnd]
      simp only [List.length_append, List.length_map]
    · rw [insTo_step hj, if_pos hne]; simp
theorem idsTo_succ_len (pn : Nat) (PH : Nat → List PhiD) (IN : Nat → List InsD) (b : Nat) : (idsTo pn PH IN (b + 1)).length = (idsTo pn PH IN b).length + (PH b).length + (insTo (IN b) (IN b).length).length := by
  rw [idsTo, List.length_append, idsP, List.length_append, List.length_map]
  unfold insTo
  rw [List.take_length]
  omega
end Go.Proofs.YtldbmdgpdolaaaaGreatDoor
namespace Go.Proofs.YtldbmdgpdolaaaaGreatDoor
open Go Go.RowKit

theorem onR_pres {Q : Int → Prop} {f : Fn} (hQ : ∀ pc : Nat, pc < 40 → Q (madeI pc)) : ∀ (n pc : Nat) (l : List Int), pc + n ≤ 40 → (∀ r, r < 12 → Q (l.getD r 0)) → ∀ r, r < 12 → Q ((onR f pc n l).getD r 0)
  | 0, _, _, _, h => h
  | n + 1, pc, l, hp, h => by
    rw [onR]
    refine onR_pres hQ n (pc + 1) _ (by omega) fun r hr => ?_
    unfold on1
    split
    · by_cases e : (insD f pc).dst.toNat = r
      · subst e
        by_cases hl : (insD f pc).dst.toNat < l.length
        · rw [List.getD, List.getElem?_set_self hl]; exact hQ pc (by omega)
        · rw [List.set_eq_of_length_le (by omega)]; exact h _ hr
      · rw [List.getD, List.getElem?_set_ne e]; exact h r hr
    · exact h r hr
theorem pair_same {all : List PhiD} (h : all.Pairwise (fun p q => p.id ≠ q.id)) {p q : PhiD} (hp : p ∈ all) (hq : q ∈ all) (e : p.id = q.id) : p = q := by
  induction all with
  | nil => cases hp
  | cons a t ih =>
    obtain ⟨h1, h2⟩ := List.pairwise_cons.1 h
    rcases List.mem_cons.1 hp with e1 | hp1
    · rcases List.mem_cons.1 hq with e2 | hq1
      · rw [e1, e2]
      · rw [e1] at e; exact absurd e (h1 q hq1)
    · rcases List.mem_cons.1 hq with e2 | hq1
      · rw [e2] at e; exact absurd e.symm (h1 p hp1)
      · exact ih h2 hp1 hq1
theorem SsaIs.notSelf {P : List Fn} {f : Fn} {S : List Nat} {T : Nat → Nat} {L : List Int} {pn : Nat} {g : List (Int × Int)} {D : PDat} (h : SsaIs P f S T L pn g D) (ok : FlowOk P f) (hU : ∀ q, q < f.code.length → Way f 63 q → ∀ r, r < 12 → (rdMask P (insD f q)).testBit r = true → ¬ Way f r q) {b : Nat} (hb : b < S.length) {p : PhiD} (hp : p ∈ D.ph b) : ¬ ∀ a ∈ p.args, stG g a = p.id := by
  intro hself
  have hB := h.ok
  have hpf := phiFit_all ok hU h.ok h.live
  have hnd := phi_ids ok h.ok h.live
  obtain ⟨hsv, -⟩ := SInv.settle (fun p hp a ha => ((hpf p hp).2 a ha).2) h.settle (SInv.new hnd)
  have hall : ∀ {q : PhiD} {i : Nat}, i < S.length → q ∈ phiM f S T L i → q ∈ (phsOf (phiM f S T L) S.length).flatten := fun hi hq => List.mem_flatten.2 ⟨_, List.mem_map.2 ⟨_, List.mem_range.2 hi, rfl⟩, hq⟩
  have hpall := hall hb ((h.left.ph b hb).subset hp)
  have hprem : p ∈ (phsOf D.ph S.length).flatten := List.mem_flatten.2 ⟨_, List.mem_map.2 ⟨b, List.mem_range.2 hb, rfl⟩, hp⟩
  have hpfree : stG g p.id = p.id := stG_free (hsv.sub p hprem).2
  have hform : ∀ {q : PhiD}, q ∈ (phsOf (phiM f S T L) S.length).flatten → 52 ≤ q.id := fun hq => by
    obtain ⟨l, hl, hql⟩ := List.mem_flatten.1 hq
    obtain ⟨i, hi, rfl⟩ := List.mem_map.1 hl
    obtain ⟨r, -, -, -, -, e, -⟩ := phi_form ok h.ok h.live (List.mem_range.1 hi) hql
    rw [e]; unfold phiI; omega
  have hsmall : ∀ z : Int, z < 52 → stG g z ≠ p.id := fun z hz => by
    rw [stG_free (fun x hx => by
      obtain ⟨q, hq, e, -⟩ := hsv.went x hx
      have := hform hq
      omega)]
    have := hform hpall
    omega
  have hmade : ∀ pc : Nat, pc < 40 → stG g (madeI pc) ≠ p.id := fun pc hpc => hsmall _ (by unfold madeI; omega)
  -- what comes to a phi that stands for it stands for it
  have hclose : ∀ i, i < S.length → 1 < (prevs f S T i).length → ∀ r, r < 12 → (fromR f S T L i).getD r 0 ≠ -1 → stG g ((fromR f S T L i).getD r 0) = p.id → ∀ z ∈ prevs f S T i, stG g ((behR f S T L z).getD r 0) = p.id := by
    intro i hi hj r hr hne hz z hzp
    have hq : phi1 f S T L i r ∈ phiM f S T L i := by
      unfold phiM; rw [if_pos hj]; exact phiTo_mem.2 ⟨r, hr, hne, rfl⟩
    have hqa := hall hi hq
    have ha : (behR f S T L z).getD r 0 ∈ (phi1 f S T L i r).args := List.mem_map.2 ⟨z, hzp, rfl⟩
    have hid : (phi1 f S T L i r).id = (fromR f S T L i).getD r 0 := rfl
    rcases hsv.cov _ hqa with hr2 | ⟨x, hx, ex⟩
    · have e1 : stG g (phi1 f S T L i r).id = (phi1 f S T L i r).id := stG_free (hsv.sub _ hr2).2
      rw [hid] at e1
      have e2 := pair_same hnd hqa hpall (by rw [hid, ← e1]; exact hz)
      rw [← e2] at hself ⊢
      exact hself _ ha
    · obtain ⟨q, hqq, e1, e2⟩ := hsv.went x hx
      have e3 := pair_same hnd hqa hqq (by rw [e1, ex])
      rw [← e3] at e2
      rw [e2 _ ha, hid]; exact hz
  have key : ∀ pc, Way f 63 pc → ∀ i, InBlk S T pc i → ∀ r, r < 12 → stG g ((fromR f S T L i).getD r 0) ≠ p.id := by
    intro pc hw
    induction hw with
    | start _ =>
      intro i hi r hr hz
      obtain ⟨hl, h0⟩ := hB.starts.first
      have : i = 0 := by
        have h1 := hB.start hB.starts.zero
        rw [rank_zero] at h1
        exact hB.one hi h1
      subst this
      have hm : (-1 : Int) ∈ prevs f S T 0 := (prevs_mem _).2 (Or.inl ⟨rfl, rfl⟩)
      have hpar : stG g ((behR f S T L (-1)).getD r 0) ≠ p.id := by
        unfold behR
        rw [if_pos rfl, parR_get _ hr]
        exact hsmall _ (by split <;> omega)
      by_cases hj : 1 < (prevs f S T 0).length
      · refine hpar (hclose 0 hl hj r hr (fun e => ?_) hz _ hm)
        rw [e] at hz; exact hsmall _ (by omega) hz
      · rcases hpp : prevs f S T 0 with _ | ⟨a, t⟩
        · rw [hpp] at hm; simp at hm
        · cases t with
          | nil =>
            rw [hpp] at hm
            have e : a = -1 := (by simpa using hm : (-1 : Int) = a).symm
            rw [fromR_eq (.first (by rw [hpp, e]))] at hz
            unfold behR at hpar
            rw [if_pos rfl] at hpar
            exact hpar hz
          | cons c t => rw [hpp] at hj; simp at hj
    | @step pc q hpc hw _ ht ih =>
      intro i hi r hr hz
      obtain ⟨j, hj⟩ := hB.cover ok hw
      have ihj := ih j hj
      by_cases hl : pc = T j - 1
      · obtain ⟨hj', a1, a2⟩ := hj
        rw [hl] at ht
        have hq := (hB.ends j hj').leads ok hB.starts (hB.starts.reach ok (List.getElem_mem hj')).1 ht
        have e : i = rank S q := hB.one hi (hB.start hq)
        have hm := prevs_leads hB hj' ht
        rw [← e] at hm
        have hi' : i < S.length := hi.1
        have hE := hB.ends j hj'
        have eS : S.getD j 0 = S[j] := by simp [List.getD, hj']
        have hbeh : stG g ((onR f (S.getD j 0) (T j - S.getD j 0) (fromR f S T L j)).getD r 0) ≠ p.id := by
          refine onR_pres (Q := fun z => stG g z ≠ p.id) hmade _ _ _ ?_ ihj r hr
          have h1 := hE.le; have h2 := hE.lt; have h3 := ok.ok.len2
          omega
        have hbeh2 : stG g ((behR f S T L (j : Int)).getD r 0) ≠ p.id := by
          unfold behR
          rw [if_neg (by omega)]
          exact hbeh
        by_cases hjj : 1 < (prevs f S T i).length
        · refine hbeh2 (hclose i hi' hjj r hr (fun e => ?_) hz _ hm)
          rw [e] at hz; exact hsmall _ (by omega) hz
        · rcases hpp : prevs f S T i with _ | ⟨a, t⟩
          · rw [hpp] at hm; simp at hm
          · cases t with
            | nil =>
              rw [hpp] at hm
              have e : a = (j : Int) := (by simpa using hm : (j : Int) = a).symm
              rw [fromR_eq (.one (by rw [hpp, e]) (fromR_is ok hB L hj'))] at hz
              exact hbeh hz
            | cons c t => rw [hpp] at hjj; simp at hjj
      · have hop := hB.mid hj hl
        rw [behind_on _ _ hop] at ht
        have : q = pc + 1 := by simpa using ht
        subst this
        obtain ⟨hj', a1, a2⟩ := hj
        have : i = j := hB.one hi ⟨hj', by omega, by omega⟩
        subst this
        exact ihj r hr hz
  have hr := hB.starts.reach ok (List.getElem_mem hb)
  obtain ⟨r, hr12, -, e, -, -, -⟩ := phi_form ok h.ok h.live hb ((h.left.ph b hb).subset hp)
  have := key S[b] hr.1 b ⟨hb, Nat.le_refl _, (hB.ends b hb).lt⟩ r hr12
  apply this
  have e2 : p.id = (fromR f S T L b).getD r 0 := by rw [e]; rfl
  rw [← e2]; exact hpfree
theorem SsaIs.two {P : List Fn} {f : Fn} {S : List Nat} {T : Nat → Nat} {L : List Int} {pn : Nat} {g : List (Int × Int)} {D : PDat} (h : SsaIs P f S T L pn g D) (ok : FlowOk P f) (hU : ∀ q, q < f.code.length → Way f 63 q → ∀ r, r < 12 → (rdMask P (insD f q)).testBit r = true → ¬ Way f r q) {b : Nat} (hb : b < S.length) {p : PhiD} (hp : p ∈ D.ph b) : ∃ a ∈ p.args, ∃ c ∈ p.args, stG g a ≠ p.id ∧ stG g c ≠ p.id ∧ stG g a ≠ stG g c ∧ stG g p.id = p.id := by
  have hpf := phiFit_all ok hU h.ok h.live
  obtain ⟨hsv, hl⟩ := SInv.settle (fun p hp a ha => ((hpf p hp).2 a ha).2) h.settle (SInv.new (phi_ids ok h.ok h.live))
  have hprem : p ∈ (phsOf D.ph S.length).flatten := List.mem_flatten.2 ⟨_, List.mem_map.2 ⟨b, List.mem_range.2 hb, rfl⟩, hp⟩
  have hpall : p ∈ (phsOf (phiM f S T L) S.length).flatten := List.mem_flatten.2 ⟨_, List.mem_map.2 ⟨b, List.mem_range.2 hb, rfl⟩, (h.left.ph b hb).subset hp⟩
  have hlone := hl _ (List.mem_map.2 ⟨b, List.mem_range.2 hb, rfl⟩) p hp
  rcases loneG_none (fun a ha => stG_val hsv.val ((hpf p hpall).2 a ha).2) hlone with ⟨-, hs⟩ | ⟨a, ha, y, h1, h2, h3, h4⟩
  · exact absurd hs (h.notSelf ok hU hb hp)
  · rcases h4 with h4 | ⟨h4, c, hc, h5⟩
    · exact absurd h4 h3
    · exact ⟨a, ha, c, hc, h1, by rw [h5]; exact h4, by rw [h5]; exact fun e => h2 e.symm, stG_free (hsv.sub p hprem).2⟩
end Go.Proofs.YtldbmdgpdolaaaaGreatDoor
