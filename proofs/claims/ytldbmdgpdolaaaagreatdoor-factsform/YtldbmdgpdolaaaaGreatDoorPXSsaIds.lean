import Derived.Test.YtldbmdgpdolaaaaGreatDoorPXSsaRenM
import Derived.Test.YtldbmdgpdolaaaaGreatDoorPXSsaSane
namespace Go.Proofs.YtldbmdgpdolaaaaGreatDoor
open Go Go.RowKit

structure LeftOf (P : List Fn) (f : Fn) (S : List Nat) (T : Nat → Nat) (L : List Int) (PH : Nat → List PhiD) (IN : Nat → List InsD) : Prop where
  ph : ∀ b, b < S.length → (PH b).Sublist (phiM f S T L b)
  ins : ∀ b, b < S.length → IN b = insL P f (S.getD b 0) (T b - S.getD b 0) (fromR f S T L b)
theorem insM_id (P : List Fn) (f : Fn) (pc : Nat) (l : List Int) : (insM P f pc l).id = if setsB (insD f pc).op = true then madeI pc else -1 := rfl
theorem insL_ids (P : List Fn) (f : Fn) (fr n : Nat) (l : List Int) : ((insL P f fr n l).map (·.id)).filter (fun z => decide (z ≠ -1)) = ((List.range n).filter (fun k => setsB (insD f (fr + k)).op)).map (fun k => madeI (fr + k)) := by
  induction n with
  | zero => rfl
  | succ n ih =>
    rw [insL_succ, List.map_append, List.filter_append, ih, List.range_succ, List.filter_append, List.map_append]
    congr 1
    simp only [List.map_cons, List.map_nil, insM_id]
    cases hs : setsB (insD f (fr + n)).op
    · simp [hs]
    · have : madeI (fr + n) ≠ -1 := by unfold madeI; omega
      simp [hs, this]
def KindI (pn : Nat) (S : List Nat) (T : Nat → Nat) (b : Nat) (z : Int) : Prop := (0 ≤ z ∧ z < (pn : Int)) ∨ (∃ b', b' < b ∧ ∃ pc : Nat, S.getD b' 0 ≤ pc ∧ pc < T b' ∧ z = madeI pc) ∨ (∃ b' r, b' < b ∧ r < 12 ∧ z = phiI b' r)
theorem ids_ok {P : List Fn} {f : Fn} (ok : FlowOk P f) {S : List Nat} {T : Nat → Nat} (hB : BlkOk f S T) {L : List Int} (hL : LiveSpec P f L) {PH : Nat → List PhiD} {IN : Nat → List InsD} (h : LeftOf P f S T L PH IN) {pn : Nat} (hpn : pn ≤ 12) : ∀ b, b ≤ S.length → (idsTo pn PH IN b).Nodup ∧ ∀ z ∈ idsTo pn PH IN b, KindI pn S T b z
  | 0, _ => by
    refine ⟨?_, fun z hz => ?_⟩
    · show ((List.range pn).map (fun r => ((r : Nat) : Int))).Nodup
      rw [List.Nodup, List.pairwise_map]
      exact (List.nodup_range (n := pn)).imp (fun {a b} h e => h (by omega))
    · obtain ⟨r, hr, rfl⟩ := List.mem_map.1 (show z ∈ (List.range pn).map (fun r => ((r : Nat) : Int)) from hz)
      have := List.mem_range.1 hr
      exact Or.inl ⟨by omega, by omega⟩
  | b + 1, hb => by
    obtain ⟨h1, h2⟩ := ids_ok ok hB hL h hpn b (by omega)
    have hbl : b < S.length := by omega
    have h40 := blocks40 ok hB
    have hE := hB.ends b hbl
    have eS : S.getD b 0 = S[b] := by simp [List.getD, hbl]
    have hle := hE.le
    have hlt := hE.lt
    have hl40 := ok.ok.len2
    have hphi : ∀ z ∈ (PH b).map (·.id), ∃ r, r < 12 ∧ z = phiI b r := fun z hz => by
      obtain ⟨p, hp, rfl⟩ := List.mem_map.1 hz
      obtain ⟨r, hr, -, -, -, e, -⟩ := phi_form ok hB hL hbl ((h.ph b hbl).subset hp)
      exact ⟨r, hr, e⟩
    have hinsE : ((IN b).map (·.id)).filter (fun z => decide (z ≠ -1)) = ((List.range (T b - S.getD b 0)).filter (fun k => setsB (insD f (S.getD b 0 + k)).op)).map (fun k => madeI (S.getD b 0 + k)) := by rw [h.ins b hbl, insL_ids]
    have hins : ∀ z ∈ ((IN b).map (·.id)).filter (fun z => decide (z ≠ -1)), ∃ pc : Nat, S.getD b 0 ≤ pc ∧ pc < T b ∧ z = madeI pc := fun z hz => by
      rw [hinsE] at hz
      obtain ⟨k, hk, rfl⟩ := List.mem_map.1 hz
      have := List.mem_range.1 (List.mem_filter.1 hk).1
      exact ⟨S.getD b 0 + k, by omega, by omega, rfl⟩
    have hT : ∀ b', b' < S.length → T b' ≤ 40 := fun b' hb' => by have := (hB.ends b' hb').le; omega
    refine ⟨?_, fun z hz => ?_⟩
    · rw [idsTo, List.nodup_append]
      refine ⟨h1, ?_, fun x hx y hy e => ?_⟩
      · rw [idsP, List.nodup_append]
        refine ⟨?_, ?_, fun x hx y hy e => ?_⟩
        · have hp : (phiM f S T L b).Pairwise (fun p q => p.id ≠ q.id) := by
            have := phi_ids ok hB hL
            rw [List.pairwise_flatten] at this
            exact this.1 _ (List.mem_map.2 ⟨b, List.mem_range.2 hbl, rfl⟩)
          rw [List.Nodup, List.pairwise_map]
          exact hp.sublist (h.ph b hbl)
        · rw [hinsE, List.Nodup, List.pairwise_map]
          refine (List.Pairwise.filter _ (List.nodup_range (n := T b - S.getD b 0))).imp (fun {a c} hne e => hne ?_)
          unfold madeI at e; omega
        · obtain ⟨r, hr, e1⟩ := hphi x hx
          obtain ⟨pc, p1, p2, e2⟩ := hins y hy
          rw [e1, e2] at e
          unfold phiI madeI at e
          have := hT b hbl
          omega
      · rcases List.mem_append.1 hy with hy | hy
        · obtain ⟨r, hr, e1⟩ := hphi y hy
          rw [e1] at e
          rcases h2 x hx with ⟨a1, a2⟩ | ⟨b', hb', pc, a1, a2, a3⟩ | ⟨b', r', hb', hr', a3⟩
          · unfold phiI at e; omega
          · rw [a3] at e
            have := hT b' (by omega)
            unfold phiI madeI at e; omega
          · rw [a3] at e; unfold phiI at e; omega
        · obtain ⟨pc', p1, p2, e1⟩ := hins y hy
          rw [e1] at e
          have hTb := hT b hbl
          rcases h2 x hx with ⟨a1, a2⟩ | ⟨b', hb', pc, a1, a2, a3⟩ | ⟨b', r', hb', hr', a3⟩
          · unfold madeI at e; omega
          · rw [a3] at e
            have := hB.apart hbl hb'
            unfold madeI at e
            omega
          · rw [a3] at e; unfold phiI madeI at e; omega
    · rw [idsTo] at hz
      rcases List.mem_append.1 hz with hz | hz
      · rcases h2 z hz with a | ⟨b', hb', a⟩ | ⟨b', r', hb', a⟩
        · exact Or.inl a
        · exact Or.inr (Or.inl ⟨b', by omega, a⟩)
        · exact Or.inr (Or.inr ⟨b', r', by omega, a⟩)
      · rcases List.mem_append.1 hz with hz | hz
        · obtain ⟨r, hr, e1⟩ := hphi z hz
          exact Or.inr (Or.inr ⟨b, r, by omega, hr, e1⟩)
        · obtain ⟨pc, p1, p2, e1⟩ := hins z hz
          exact Or.inr (Or.inl ⟨b, by omega, pc, p1, p2, e1⟩)
theorem kind_fit {P : List Fn} {f : Fn} (ok : FlowOk P f) {S : List Nat} {T : Nat → Nat} (hB : BlkOk f S T) {pn : Nat} (hpn : pn ≤ 12) {z : Int} (h : KindI pn S T S.length z) : 0 ≤ z ∧ z ≤ 600 := by
  have h40 := blocks40 ok hB
  rcases h with ⟨a, b⟩ | ⟨b', hb', pc, a1, a2, rfl⟩ | ⟨b', r, hb', hr, rfl⟩
  · omega
  · have := (hB.ends b' hb').le; have := ok.ok.len2
    unfold madeI; omega
  · unfold phiI; omega
theorem idsTo_len (pn : Nat) {PH : Nat → List PhiD} {IN : Nat → List InsD} {n : Nat} (h1 : ∀ b, b < n → (PH b).length ≤ 12) (h2 : ∀ b, b < n → (IN b).length ≤ 40) : (idsTo pn PH IN n).length ≤ pn + 52 * n := by
  induction n with
  | zero => simp [idsTo]
  | succ n ih =>
    have := ih (fun b hb => h1 b (by omega)) (fun b hb => h2 b (by omega))
    have a := h1 n (by omega)
    have c := h2 n (by omega)
    have d := List.length_filter_le (fun z => decide (z ≠ (-1 : Int))) ((IN n).map (·.id))
    rw [List.length_map] at d
    rw [idsTo, List.length_append, idsP, List.length_append, List.length_map]
    omega
theorem fitD_all {P : List Fn} {f : Fn} (ok : FlowOk P f) (hU : ∀ q, q < f.code.length → Way f 63 q → ∀ r, r < 12 → (rdMask P (insD f q)).testBit r = true → ¬ Way f r q) {S : List Nat} {T : Nat → Nat} (hB : BlkOk f S T) {L : List Int} (hL : LiveSpec P f L) {D : PDat} (h : LeftOf P f S T L D.ph D.ins) (hr : ∀ b, b < S.length → D.rg b = wantR (mkL L (S.getD b 0)) (fromR f S T L b)) : FitD S.length D := by
  have hpf := phiFit_all ok hU hB hL
  refine ⟨fun b hb p hp => ?_, fun b hb x hx => ?_, fun b hb z hz => ?_⟩
  · obtain ⟨h1, h2⟩ := hpf p (List.mem_flatten.2 ⟨phiM f S T L b, List.mem_map.2 ⟨b, List.mem_range.2 hb, rfl⟩, (h.ph b hb).subset hp⟩)
    exact ⟨h1, fun a ha => (h2 a ha).1⟩
  · rw [h.ins b hb] at hx
    obtain ⟨k, hk, rfl⟩ := List.mem_map.1 hx
    have hk := List.mem_range.1 hk
    have hE := hB.ends b hb
    have eS : S.getD b 0 = S[b] := by simp [List.getD, hb]
    have hle := hE.le; have hlt := hE.lt; have hl40 := ok.ok.len2
    have hv : ValL (onR f (S.getD b 0) k (fromR f S T L b)) := valL_on _ _ _ (by omega) (valL_from ok hB (fromR_is ok hB L hb) hb)
    have hio := (ok.insD (show S.getD b 0 + k < f.code.length by omega)).1
    have hneg : Fit2 (-1) := ⟨by omega, by omega⟩
    refine ⟨?_, ?_, ?_⟩
    · show Fit2 (if setsB _ = true then madeI _ else -1)
      split
      · unfold madeI; exact ⟨by omega, by omega⟩
      · exact hneg
    · show Fit2 (if rdA _ _ = true then _ else -1)
      split
      · exact (hv _ (by have := hio.a0; have := hio.a1; omega)).fit
      · exact hneg
    · show Fit2 (if rdB _ _ = true then _ else -1)
      split
      · exact (hv _ (by have := hio.b0; have := hio.b1; omega)).fit
      · exact hneg
  · rw [hr b hb] at hz
    obtain ⟨i, hi, rfl⟩ := List.mem_iff_getElem.1 hz
    have hi12 : i < 12 := by rw [wantR_len] at hi; exact hi
    have := valL_want (m := mkL L (S.getD b 0)) (valL_from ok hB (fromR_is ok hB L hb) hb) i hi12
    rw [List.getD, List.getElem?_eq_getElem hi] at this
    exact this.fit
end Go.Proofs.YtldbmdgpdolaaaaGreatDoor
