/- To each phi that is left come two other values: plain mathematics. -/
import Derived.Test.YtdpaohmaafngkaaDoorXSsaOrd
namespace Go.Proofs.YtdpaohmaafngkaaDoor
open Go Go.RowKit

theorem onR_pres {Q : Int → Prop} {f : Fn} (hQ : ∀ pc : Nat, pc < 40 → Q (madeI pc)) : ∀ (n pc : Nat) (l : List Int), pc + n ≤ 40 → (∀ r, r < 12 → Q (l.getD r 0)) → ∀ r, r < 12 → Q ((onR f pc n l).getD r 0)
  | 0, _, _, _, h => h
  | n + 1, pc, l, hp, h => by
    rw [onR]
    refine onR_pres hQ n (pc + 1) _ (by omega) fun r hr => ?_
    unfold on1
    split
    · by_cases e : (insD f pc).dst.toNat = r
      · subst e
        by_cases hl : (insD f pc).dst.toNat < l.length
        · rw [List.getD, List.getElem?_set_self hl]; exact hQ pc (by omega)
        · rw [List.set_eq_of_length_le (by omega)]; exact h _ hr
      · rw [List.getD, List.getElem?_set_ne e]; exact h r hr
    · exact h r hr
theorem pair_same {all : List PhiD} (h : all.Pairwise (fun p q => p.id ≠ q.id)) {p q : PhiD} (hp : p ∈ all) (hq : q ∈ all) (e : p.id = q.id) : p = q := by
  induction all with
  | nil => cases hp
  | cons a t ih =>
    obtain ⟨h1, h2⟩ := List.pairwise_cons.1 h
    rcases List.mem_cons.1 hp with e1 | hp1
    · rcases List.mem_cons.1 hq with e2 | hq1
      · rw [e1, e2]
      · rw [e1] at e; exact absurd e (h1 q hq1)
    · rcases List.mem_cons.1 hq with e2 | hq1
      · rw [e2] at e; exact absurd e.symm (h1 p hp1)
      · exact ih h2 hp1 hq1
theorem SsaIs.notSelf {P : List Fn} {f : Fn} {S : List Nat} {T : Nat → Nat} {L : List Int} {pn : Nat} {g : List (Int × Int)} {D : PDat} (h : SsaIs P f S T L pn g D) (ok : FlowOk P f) (hU : ∀ q, q < f.code.length → Way f 63 q → ∀ r, r < 12 → (rdMask P (insD f q)).testBit r = true → ¬ Way f r q) {b : Nat} (hb : b < S.length) {p : PhiD} (hp : p ∈ D.ph b) : ¬ ∀ a ∈ p.args, stG g a = p.id := by
  intro hself
  have hB := h.ok
  have hpf := phiFit_all ok hU h.ok h.live
  have hnd := phi_ids ok h.ok h.live
  obtain ⟨hsv, -⟩ := SInv.settle (fun p hp a ha => ((hpf p hp).2 a ha).2) h.settle (SInv.new hnd)
  have hall : ∀ {q : PhiD} {i : Nat}, i < S.length → q ∈ phiM f S T L i → q ∈ (phsOf (phiM f S T L) S.length).flatten := fun hi hq => List.mem_flatten.2 ⟨_, List.mem_map.2 ⟨_, List.mem_range.2 hi, rfl⟩, hq⟩
  have hpall := hall hb ((h.left.ph b hb).subset hp)
  have hprem : p ∈ (phsOf D.ph S.length).flatten := List.mem_flatten.2 ⟨_, List.mem_map.2 ⟨b, List.mem_range.2 hb, rfl⟩, hp⟩
  have hpfree : stG g p.id = p.id := stG_free (hsv.sub p hprem).2
  have hform : ∀ {q : PhiD}, q ∈ (phsOf (phiM f S T L) S.length).flatten → 52 ≤ q.id := fun hq => by
    obtain ⟨l, hl, hql⟩ := List.mem_flatten.1 hq
    obtain ⟨i, hi, rfl⟩ := List.mem_map.1 hl
    obtain ⟨r, -, -, -, -, e, -⟩ := phi_form ok h.ok h.live (List.mem_range.1 hi) hql
    rw [e]; unfold phiI; omega
  have hsmall : ∀ z : Int, z < 52 → stG g z ≠ p.id := fun z hz => by
    rw [stG_free (fun x hx => by
      obtain ⟨q, hq, e, -⟩ := hsv.went x hx
      have := hform hq
      omega)]
    have := hform hpall
    omega
  have hmade : ∀ pc : Nat, pc < 40 → stG g (madeI pc) ≠ p.id := fun pc hpc => hsmall _ (by unfold madeI; omega)
  -- what comes to a phi that stands for it stands for it
  have hclose : ∀ i, i < S.length → 1 < (prevs f S T i).length → ∀ r, r < 12 → (fromR f S T L i).getD r 0 ≠ -1 → stG g ((fromR f S T L i).getD r 0) = p.id → ∀ z ∈ prevs f S T i, stG g ((behR f S T L z).getD r 0) = p.id := by
    intro i hi hj r hr hne hz z hzp
    have hq : phi1 f S T L i r ∈ phiM f S T L i := by
      unfold phiM; rw [if_pos hj]; exact phiTo_mem.2 ⟨r, hr, hne, rfl⟩
    have hqa := hall hi hq
    have ha : (behR f S T L z).getD r 0 ∈ (phi1 f S T L i r).args := List.mem_map.2 ⟨z, hzp, rfl⟩
    have hid : (phi1 f S T L i r).id = (fromR f S T L i).getD r 0 := rfl
    rcases hsv.cov _ hqa with hr2 | ⟨x, hx, ex⟩
    · have e1 : stG g (phi1 f S T L i r).id = (phi1 f S T L i r).id := stG_free (hsv.sub _ hr2).2
      rw [hid] at e1
      have e2 := pair_same hnd hqa hpall (by rw [hid, ← e1]; exact hz)
      rw [← e2] at hself ⊢
      exact hself _ ha
    · obtain ⟨q, hqq, e1, e2⟩ := hsv.went x hx
      have e3 := pair_same hnd hqa hqq (by rw [e1, ex])
      rw [← e3] at e2
      rw [e2 _ ha, hid]; exact hz
  have key : ∀ pc, Way f 63 pc → ∀ i, InBlk S T pc i → ∀ r, r < 12 → stG g ((fromR f S T L i).getD r 0) ≠ p.id := by
    intro pc hw
    induction hw with
    | start _ =>
      intro i hi r hr hz
      obtain ⟨hl, h0⟩ := hB.starts.first
      have : i = 0 := by
        have h1 := hB.start hB.starts.zero
        rw [rank_zero] at h1
        exact hB.one hi h1
      subst this
      have hm : (-1 : Int) ∈ prevs f S T 0 := (prevs_mem _).2 (Or.inl ⟨rfl, rfl⟩)
      have hpar : stG g ((behR f S T L (-1)).getD r 0) ≠ p.id := by
        unfold behR
        rw [if_pos rfl, parR_get _ hr]
        exact hsmall _ (by split <;> omega)
      by_cases hj : 1 < (prevs f S T 0).length
      · refine hpar (hclose 0 hl hj r hr (fun e => ?_) hz _ hm)
        rw [e] at hz; exact hsmall _ (by omega) hz
      · rcases hpp : prevs f S T 0 with _ | ⟨a, t⟩
        · rw [hpp] at hm; simp at hm
        · cases t with
          | nil =>
            rw [hpp] at hm
            have e : a = -1 := (by simpa using hm : (-1 : Int) = a).symm
            rw [fromR_eq (.first (by rw [hpp, e]))] at hz
            unfold behR at hpar
            rw [if_pos rfl] at hpar
            exact hpar hz
          | cons c t => rw [hpp] at hj; simp at hj
    | @step pc q hpc hw _ ht ih =>
      intro i hi r hr hz
      obtain ⟨j, hj⟩ := hB.cover ok hw
      have ihj := ih j hj
      by_cases hl : pc = T j - 1
      · obtain ⟨hj', a1, a2⟩ := hj
        rw [hl] at ht
        have hq := (hB.ends j hj').leads ok hB.starts (hB.starts.reach ok (List.getElem_mem hj')).1 ht
        have e : i = rank S q := hB.one hi (hB.start hq)
        have hm := prevs_leads hB hj' ht
        rw [← e] at hm
        have hi' : i < S.length := hi.1
        have hE := hB.ends j hj'
        have eS : S.getD j 0 = S[j] := by simp [List.getD, hj']
        have hbeh : stG g ((onR f (S.getD j 0) (T j - S.getD j 0) (fromR f S T L j)).getD r 0) ≠ p.id := by
          refine onR_pres (Q := fun z => stG g z ≠ p.id) hmade _ _ _ ?_ ihj r hr
          have h1 := hE.le; have h2 := hE.lt; have h3 := ok.ok.len2
          omega
        have hbeh2 : stG g ((behR f S T L (j : Int)).getD r 0) ≠ p.id := by
          unfold behR
          rw [if_neg (by omega)]
          exact hbeh
        by_cases hjj : 1 < (prevs f S T i).length
        · refine hbeh2 (hclose i hi' hjj r hr (fun e => ?_) hz _ hm)
          rw [e] at hz; exact hsmall _ (by omega) hz
        · rcases hpp : prevs f S T i with _ | ⟨a, t⟩
          · rw [hpp] at hm; simp at hm
          · cases t with
            | nil =>
              rw [hpp] at hm
              have e : a = (j : Int) := (by simpa using hm : (j : Int) = a).symm
              rw [fromR_eq (.one (by rw [hpp, e]) (fromR_is ok hB L hj'))] at hz
              exact hbeh hz
            | cons c t => rw [hpp] at hjj; simp at hjj
      · have hop := hB.mid hj hl
        rw [behind_on _ _ hop] at ht
        have : q = pc + 1 := by simpa using ht
        subst this
        obtain ⟨hj', a1, a2⟩ := hj
        have : i = j := hB.one hi ⟨hj', by omega, by omega⟩
        subst this
        exact ihj r hr hz
  have hr := hB.starts.reach ok (List.getElem_mem hb)
  obtain ⟨r, hr12, -, e, -, -, -⟩ := phi_form ok h.ok h.live hb ((h.left.ph b hb).subset hp)
  have := key S[b] hr.1 b ⟨hb, Nat.le_refl _, (hB.ends b hb).lt⟩ r hr12
  apply this
  have e2 : p.id = (fromR f S T L b).getD r 0 := by rw [e]; rfl
  rw [← e2]; exact hpfree
theorem SsaIs.two {P : List Fn} {f : Fn} {S : List Nat} {T : Nat → Nat} {L : List Int} {pn : Nat} {g : List (Int × Int)} {D : PDat} (h : SsaIs P f S T L pn g D) (ok : FlowOk P f) (hU : ∀ q, q < f.code.length → Way f 63 q → ∀ r, r < 12 → (rdMask P (insD f q)).testBit r = true → ¬ Way f r q) {b : Nat} (hb : b < S.length) {p : PhiD} (hp : p ∈ D.ph b) : ∃ a ∈ p.args, ∃ c ∈ p.args, stG g a ≠ p.id ∧ stG g c ≠ p.id ∧ stG g a ≠ stG g c ∧ stG g p.id = p.id := by
  have hpf := phiFit_all ok hU h.ok h.live
  obtain ⟨hsv, hl⟩ := SInv.settle (fun p hp a ha => ((hpf p hp).2 a ha).2) h.settle (SInv.new (phi_ids ok h.ok h.live))
  have hprem : p ∈ (phsOf D.ph S.length).flatten := List.mem_flatten.2 ⟨_, List.mem_map.2 ⟨b, List.mem_range.2 hb, rfl⟩, hp⟩
  have hpall : p ∈ (phsOf (phiM f S T L) S.length).flatten := List.mem_flatten.2 ⟨_, List.mem_map.2 ⟨b, List.mem_range.2 hb, rfl⟩, (h.left.ph b hb).subset hp⟩
  have hlone := hl _ (List.mem_map.2 ⟨b, List.mem_range.2 hb, rfl⟩) p hp
  rcases loneG_none (fun a ha => stG_val hsv.val ((hpf p hpall).2 a ha).2) hlone with ⟨-, hs⟩ | ⟨a, ha, y, h1, h2, h3, h4⟩
  · exact absurd hs (h.notSelf ok hU hb hp)
  · rcases h4 with h4 | ⟨h4, c, hc, h5⟩
    · exact absurd h4 h3
    · exact ⟨a, ha, c, hc, h1, by rw [h5]; exact h4, by rw [h5]; exact fun e => h2 e.symm, stG_free (hsv.sub p hprem).2⟩
end Go.Proofs.YtdpaohmaafngkaaDoor
