/- Ways from a block onwards, as the document's rounds find them: plain mathematics. -/
import Derived.Test.YteilohamjijpbaaDoorXLoopMath
import Derived.Test.YteilohamjijpbaaDoorXFlowLps
namespace Go.Proofs.YteilohamjijpbaaDoor
open Go Go.RowKit

/-- From a block there is a way to another that does not come through a third one. -/
inductive WayF (nx : Nat → List Nat) (d s : Nat) : Nat → Prop
  | start : WayF nx d s s
  | step {p b : Nat} (hw : WayF nx d s p) (he : b ∈ nx p) (hn : b ≠ d) : WayF nx d s b
/-- What holds of the marks between two rounds. -/
structure FInv (nx : Nat → List Nat) (K d s : Nat) (seen : List Bool) : Prop where
  len : seen.length = K
  top : seen.getD s false = true
  sound : ∀ b, seen.getD b false = true → WayF nx d s b
def FShut (nx : Nat → List Nat) (d i : Nat) (seen : List Bool) : Prop := ∀ j, j < i → seen.getD j false = true → ∀ n ∈ nx j, n = d ∨ seen.getD n false = true
/-- In the midst of a round. -/
structure FMid (nx : Nat → List Nat) (K d s : Nat) (seen0 : List Bool) (i k : Nat) (again : Bool) (seen : List Bool) : Prop where
  inv : FInv nx K d s seen
  fix : again = false → seen = seen0 ∧ FShut nx d i seen ∧ (seen.getD i false = true → ∀ n ∈ (nx i).take k, n = d ∨ seen.getD n false = true)
  less : again = true → unseen seen < unseen seen0
  le : unseen seen ≤ unseen seen0
theorem FMid.start {nx : Nat → List Nat} {K d s : Nat} {seen : List Bool} (h : FInv nx K d s seen) : FMid nx K d s seen 0 0 false seen :=
  ⟨h, fun _ => ⟨rfl, fun j hj => by omega, fun _ n hn => by simp at hn⟩, (fun h => by cases h), Nat.le_refl _⟩
theorem FMid.skip {nx : Nat → List Nat} {K d s : Nat} {seen0 : List Bool} {i k : Nat} {again : Bool} {seen : List Bool} (h : FMid nx K d s seen0 i k again seen) {n : Nat} (hn : (nx i)[k]? = some n) (hd : n = d ∨ seen.getD n false = true) : FMid nx K d s seen0 i (k + 1) again seen := by
  refine ⟨h.inv, fun ha => ?_, h.less, h.le⟩
  obtain ⟨h1, h2, h3⟩ := h.fix ha
  refine ⟨h1, h2, fun hs m hm => ?_⟩
  rw [List.take_add_one, hn] at hm
  rcases List.mem_append.1 hm with hm | hm
  · exact h3 hs m hm
  · simp at hm; rw [hm]; exact hd
theorem FMid.mark {nx : Nat → List Nat} {K d s : Nat} {seen0 : List Bool} {i k : Nat} {again : Bool} {seen : List Bool} (h : FMid nx K d s seen0 i k again seen) {n : Nat} (hi : seen.getD i false = true) (hn : (nx i)[k]? = some n) (hd : n ≠ d) (hK : n < K) (hs : seen.getD n false = false) : FMid nx K d s seen0 i (k + 1) true (seen.set n true) := by
  have hl : n < seen.length := by rw [h.inv.len]; exact hK
  have hg : ∀ q, (seen.set n true).getD q false = if q = n then true else seen.getD q false := fun q => lgetD_set seen n q true hl
  have hu := unseen_set seen n hl hs
  have hle := h.le
  refine ⟨⟨by rw [List.length_set]; exact h.inv.len, ?_, fun b hb => ?_⟩, (fun h => by cases h), fun _ => by omega, by omega⟩
  · rw [hg]; split
    · rfl
    · exact h.inv.top
  · rw [hg] at hb
    by_cases e : b = n
    · subst e; exact WayF.step (h.inv.sound i hi) (List.mem_of_getElem? hn) hd
    · rw [if_neg e] at hb; exact h.inv.sound b hb
theorem FMid.next {nx : Nat → List Nat} {K d s : Nat} {seen0 : List Bool} {i k : Nat} {again : Bool} {seen : List Bool} (h : FMid nx K d s seen0 i k again seen) (hk : (nx i).length ≤ k ∨ seen.getD i false = false) : FMid nx K d s seen0 (i + 1) 0 again seen := by
  refine ⟨h.inv, fun ha => ?_, h.less, h.le⟩
  obtain ⟨h1, h2, h3⟩ := h.fix ha
  refine ⟨h1, fun j hj hs n hn => ?_, fun _ n hn => by simp at hn⟩
  by_cases e : j = i
  · subst e
    rcases hk with hk | hk
    · rw [List.take_of_length_le hk] at h3; exact h3 hs n hn
    · rw [hs] at hk; cases hk
  · exact h2 j (by omega) hs n hn
/-- Between two rounds: what the next one is to do. -/
def FLoops (nx : Nat → List Nat) (K d s : Nat) (again : Bool) (seen : List Bool) : Prop := FInv nx K d s seen ∧ (again = false → FShut nx d K seen)
theorem FMid.ends {nx : Nat → List Nat} {K d s : Nat} {seen0 : List Bool} {k : Nat} {again : Bool} {seen : List Bool} (h : FMid nx K d s seen0 K k again seen) : FLoops nx K d s again seen ∧ unseen seen + (if again = true then 1 else 0) < unseen seen0 + 1 := by
  refine ⟨⟨h.inv, fun ha => (h.fix ha).2.1⟩, ?_⟩
  have := h.le
  cases again
  · simp; omega
  · have := h.less rfl
    simp; omega
theorem FLoops.done {nx : Nat → List Nat} {K d s : Nat} {seen : List Bool} (h : FLoops nx K d s false seen) (hs : s < K) (hp : ∀ b p, b < K → p ∈ nx b → p < K) (b : Nat) : seen.getD b false = true ↔ WayF nx d s b := by
  refine ⟨h.1.sound b, fun hw => ?_⟩
  have key : b < K ∧ seen.getD b false = true := by
    induction hw with
    | start => exact ⟨hs, h.1.top⟩
    | @step p b _ he hn ih =>
      refine ⟨hp p b ih.1 he, ?_⟩
      rcases h.2 rfl p ih.1 ih.2 b he with e | e
      · exact absurd e hn
      · exact e
  exact key.2
theorem FInv.first (nx : Nat → List Nat) {K d s : Nat} (hs : s < K) : FInv nx K d s ((List.replicate K false).set s true) := by
  have hg : ∀ q, ((List.replicate K false).set s true).getD q false = if q = s then true else (List.replicate K false).getD q false := fun q => lgetD_set _ s q true (by simpa using hs)
  refine ⟨by simp, by rw [hg, if_pos rfl], fun b hb => ?_⟩
  rw [hg] at hb
  by_cases e : b = s
  · subst e; exact WayF.start
  · rw [if_neg e] at hb
    by_cases hq : b < K
    · simp [List.getD, hq] at hb
    · simp [List.getD, hq] at hb
theorem nxN_mem (f : Fn) (S : List Nat) (T : Nat → Nat) (b p : Nat) : p ∈ nxN f S T b ↔ ((p : Nat) : Int) ∈ nxI f S (T b) := by
  rw [nxN_nxI, List.mem_map]
  constructor
  · intro h; exact ⟨p, h, rfl⟩
  · rintro ⟨q, hq, e⟩
    obtain rfl : q = p := by omega
    exact hq
/-- Ways onwards from the first block are ways to it. -/
theorem wayF_wayB {P : List Fn} {f : Fn} (ok : FlowOk P f) {S : List Nat} {T : Nat → Nat} (h : BlkOk f S T) {d : Nat} (hd : 0 ≠ d) (b : Nat) : WayF (nxN f S T) d 0 b ↔ WayB (pvN f S T) d b := by
  obtain ⟨h0, -⟩ := h.starts.first
  constructor
  · intro hw
    have key : b < S.length ∧ WayB (pvN f S T) d b := by
      induction hw with
      | start => exact ⟨h0, WayB.start hd⟩
      | @step p b _ he hn ih => exact ⟨h.nxN_lt ok ih.1 he, WayB.step ih.2 ((pvN_mem f S T b p).2 ⟨ih.1, (nxN_mem f S T p b).1 he⟩) hn⟩
    exact key.2
  · intro hw
    induction hw with
    | start => exact WayF.start
    | @step p b _ he hn ih => exact WayF.step ih ((nxN_mem f S T p b).2 ((pvN_mem f S T b p).1 he).2) hn
theorem WayF.ahead {nx : Nat → List Nat} {d p q b : Nat} (h : WayF nx d q b) (he : q ∈ nx p) (hn : q ≠ d) : WayF nx d p b := by
  induction h with
  | start => exact WayF.step WayF.start he hn
  | step _ h1 h2 ih => exact WayF.step ih h1 h2
/-- What comes to a block without another one. -/
theorem wayF_back {P : List Fn} {f : Fn} (ok : FlowOk P f) {S : List Nat} {T : Nat → Nat} (h : BlkOk f S T) {head closing b : Nat} (hb : b < S.length) : WayF (nxN f S T) head b closing ↔ Back (pvN f S T) head closing b := by
  constructor
  · intro hw
    have key : ∀ c, WayF (nxN f S T) head b c → c < S.length ∧ ∀ z, Back (pvN f S T) head z c → Back (pvN f S T) head z b := fun c hw => by
      induction hw with
      | start => exact ⟨hb, fun z hz => hz⟩
      | @step p c _ he hn ih =>
        exact ⟨h.nxN_lt ok ih.1 he, fun z hz => ih.2 z (Back.up hz hn ((pvN_mem f S T c p).2 ⟨ih.1, (nxN_mem f S T p c).1 he⟩))⟩
    exact (key closing hw).2 closing Back.here
  · intro hw
    clear hb
    induction hw with
    | here => exact WayF.start
    | @up b' p _ hn hp ih => exact ih.ahead ((nxN_mem f S T p b').2 ((pvN_mem f S T b' p).1 hp).2) hn
theorem lwork_exists {pv : Nat → List Nat} {K head closing : Nat} (hp : ∀ b p, p ∈ pv b → p < K) (hh : head < K) (hc : closing < K) : ∃ I, LWork pv K head closing I [] := by
  classical
  have hg : ∀ b, ((List.range K).map fun b => decide (b = head ∨ Back pv head closing b)).getD b false = true ↔ b < K ∧ (b = head ∨ Back pv head closing b) := fun b => by
    rw [List.getD_eq_getElem?_getD, List.getElem?_map]
    by_cases hb : b < K
    · rw [List.getElem?_range hb]; simp [hb]
    · rw [List.getElem?_eq_none (by simpa using hb)]; simp [hb]
  refine ⟨(List.range K).map fun b => decide (b = head ∨ Back pv head closing b), by simp, (hg head).2 ⟨hh, Or.inl rfl⟩, (fun b hb => by cases hb), fun b h1 h2 => ?_, fun b h1 h2 p hpb => ?_, Or.inl ((hg closing).2 ⟨hc, Or.inr Back.here⟩)⟩
  · obtain ⟨h3, h4⟩ := (hg b).1 h1
    exact ⟨h3, h4.resolve_left h2⟩
  · obtain ⟨h3, h4⟩ := (hg b).1 h1
    exact Or.inl ((hg p).2 ⟨hp b p hpb, Or.inr (Back.up (h4.resolve_left h2) h2 hpb)⟩)
/-- The members of a loop, by whatever way they were found. -/
theorem memL_of {pv : Nat → List Nat} {K head closing : Nat} {I : List Bool} (h : LWork pv K head closing I []) (p : Nat → Bool) (hp : ∀ b, b < K → (p b = true ↔ b ≠ head ∧ Back pv head closing b)) : ((head : Nat) : Int) :: ((List.range K).filter p).map (fun b => ((b : Nat) : Int)) = memL I head K := by
  unfold memL
  congr 2
  refine List.filter_congr fun b hb => ?_
  have h1 := hp b (List.mem_range.1 hb)
  have h2 := h.done b
  rw [Bool.eq_iff_iff, h1, Bool.and_eq_true, bne_iff_ne, h2]
  constructor
  · rintro ⟨a, b⟩; exact ⟨Or.inr b, a⟩
  · rintro ⟨a, b⟩; exact ⟨b, a.resolve_left b⟩
theorem LoopIs.unique {pv : Nat → List Nat} {K head closing : Nat} {L L' : List Int} (h : LoopIs pv K head closing L) (h' : LoopIs pv K head closing L') : L = L' := by
  obtain ⟨I, hI, rfl⟩ := h
  obtain ⟨I', hI', rfl⟩ := h'
  unfold memL
  congr 2
  refine List.filter_congr fun b _ => ?_
  rw [Bool.eq_iff_iff, Bool.and_eq_true, Bool.and_eq_true, hI.done b, hI'.done b]
theorem LoopsTo.last {pv : Nat → List Nat} {K : Nat} {q : List (Nat × Nat)} {Ls : List (List Int)} (h : LoopsTo pv K q Ls) : ∀ ps b hd, q = ps ++ [(b, hd)] → (LoopsTo pv K ps Ls ∧ ¬ Dom pv hd b) ∨ ∃ Ls0 L, LoopsTo pv K ps Ls0 ∧ Dom pv hd b ∧ LoopIs pv K hd b L ∧ Ls = Ls0 ++ [L] := by
  cases h with
  | nil => intro ps b hd e; simp at e
  | skip hp hn =>
    intro ps' b' hd' e
    obtain ⟨e1, e2⟩ := List.append_inj' e rfl
    simp at e2
    obtain ⟨rfl, rfl⟩ := e2
    subst e1
    exact Or.inl ⟨hp, hn⟩
  | add hp hd hL =>
    intro ps' b' hd' e
    obtain ⟨e1, e2⟩ := List.append_inj' e rfl
    simp at e2
    obtain ⟨rfl, rfl⟩ := e2
    subst e1
    exact Or.inr ⟨_, _, hp, hd, hL, rfl⟩
theorem LoopsTo.unique {pv : Nat → List Nat} {K : Nat} {ps : List (Nat × Nat)} {Ls : List (List Int)} (h : LoopsTo pv K ps Ls) : ∀ {Ls'}, LoopsTo pv K ps Ls' → Ls = Ls' := by
  induction h with
  | nil =>
    intro Ls' h'
    generalize hq : ([] : List (Nat × Nat)) = q at h'
    cases h' with
    | nil => rfl
    | skip _ _ => simp at hq
    | add _ _ _ => simp at hq
  | skip _ hn ih =>
    intro Ls' h'
    rcases h'.last _ _ _ rfl with ⟨h1, _⟩ | ⟨_, _, _, h2, _⟩
    · exact ih h1
    · exact absurd h2 hn
  | add _ hd hL ih =>
    intro Ls' h'
    rcases h'.last _ _ _ rfl with ⟨_, h2⟩ | ⟨Ls0, L0, h1, _, h3, rfl⟩
    · exact absurd hd h2
    · rw [ih h1, hL.unique h3]
end Go.Proofs.YteilohamjijpbaaDoor
