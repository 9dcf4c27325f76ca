/- What comes to a block without a loop's head: plain mathematics. -/
import Derived.Test.YteilohamjijpbaaDoorXStandMath
namespace Go.Proofs.YteilohamjijpbaaDoor
open Go Go.RowKit

/-- A block that comes to the closing one without the head in between. -/
inductive Back (pv : Nat → List Nat) (head closing : Nat) : Nat → Prop
  | here : Back pv head closing closing
  | up {b p : Nat} (hb : Back pv head closing b) (hn : b ≠ head) (hp : p ∈ pv b) : Back pv head closing p
/-- The head stands on each way to all of them. -/
theorem Back.dom {pv : Nat → List Nat} {head closing b : Nat} (hd : Dom pv head closing) (h : Back pv head closing b) : Dom pv head b := by
  induction h with
  | here => exact hd
  | @up b p _ hn hp ih => exact fun hw => ih (WayB.step hw hp hn)
/-- So the first block is among them only as the head. -/
theorem Back.first {pv : Nat → List Nat} {head closing : Nat} (hd : Dom pv head closing) (h : Back pv head closing 0) : head = 0 := by
  by_cases h0 : 0 = head
  · exact h0.symm
  · exact absurd (WayB.start h0) (h.dom hd)
/-- What holds all along of the marks and the work. -/
structure LWork (pv : Nat → List Nat) (K head closing : Nat) (I : List Bool) (wk : List Nat) : Prop where
  len : I.length = K
  top : I.getD head false = true
  work : ∀ b ∈ wk, b < K ∧ Back pv head closing b
  sound : ∀ b, I.getD b false = true → b ≠ head → b < K ∧ Back pv head closing b
  shut : ∀ b, I.getD b false = true → b ≠ head → ∀ p ∈ pv b, I.getD p false = true ∨ p ∈ wk
  last : I.getD closing false = true ∨ closing ∈ wk
theorem lgetD_set (l : List Bool) (i q : Nat) (v : Bool) (hi : i < l.length) : (l.set i v).getD q false = if q = i then v else l.getD q false := by
  simp only [List.getD_eq_getElem?_getD, List.getElem?_set]
  by_cases h : i = q
  · subst h; simp [hi]
  · rw [if_neg h, if_neg (fun e => h e.symm)]
theorem LWork.start (pv : Nat → List Nat) {K head closing : Nat} (hh : head < K) (hc : closing < K) : LWork pv K head closing ((List.replicate K false).set head true) [closing] := by
  have hs : ∀ q, ((List.replicate K false).set head true).getD q false = if q = head then true else false := fun q => by
    rw [lgetD_set _ _ _ _ (by simpa using hh)]
    by_cases h : q = head
    · rw [if_pos h, if_pos h]
    · rw [if_neg h, if_neg h]
      by_cases hq : q < K
      · simp [List.getD, hq]
      · simp [List.getD, hq]
  have hno : ∀ b, ((List.replicate K false).set head true).getD b false = true → b ≠ head → False := fun b h hn => by
    rw [hs, if_neg hn] at h; cases h
  exact ⟨by simp, by rw [hs, if_pos rfl], fun b hb => by rw [List.mem_singleton.1 hb]; exact ⟨hc, Back.here⟩, fun b h hn => absurd (hno b h hn) id, fun b h hn => absurd (hno b h hn) id, Or.inr (List.mem_singleton.2 rfl)⟩
theorem LWork.skip {pv : Nat → List Nat} {K head closing b : Nat} {I : List Bool} {wk : List Nat} (h : LWork pv K head closing I (wk ++ [b])) (hb : I.getD b false = true) : LWork pv K head closing I wk := by
  refine ⟨h.len, h.top, fun c hc => h.work c (List.mem_append.2 (Or.inl hc)), h.sound, fun c h1 h2 p hp => ?_, ?_⟩
  · rcases h.shut c h1 h2 p hp with h3 | h3
    · exact Or.inl h3
    · rcases List.mem_append.1 h3 with h4 | h4
      · exact Or.inr h4
      · rw [List.mem_singleton.1 h4]; exact Or.inl hb
  · rcases h.last with h3 | h3
    · exact Or.inl h3
    · rcases List.mem_append.1 h3 with h4 | h4
      · exact Or.inr h4
      · rw [List.mem_singleton.1 h4]; exact Or.inl hb
theorem LWork.mark {pv : Nat → List Nat} {K head closing b : Nat} {I : List Bool} {wk : List Nat} (hp : ∀ b p, p ∈ pv b → p < K) (h : LWork pv K head closing I (wk ++ [b])) (hb : I.getD b false = false) : LWork pv K head closing (I.set b true) (wk ++ pv b) := by
  obtain ⟨hbK, hbB⟩ := h.work b (List.mem_append.2 (Or.inr (List.mem_singleton.2 rfl)))
  have hbh : b ≠ head := fun e => by rw [e, h.top] at hb; cases hb
  have hs : ∀ q, (I.set b true).getD q false = if q = b then true else I.getD q false := fun q => lgetD_set I b q true (by rw [h.len]; exact hbK)
  have hkeep : ∀ q, I.getD q false = true → (I.set b true).getD q false = true := fun q hq => by
    rw [hs]; split
    · rfl
    · exact hq
  refine ⟨by rw [List.length_set]; exact h.len, hkeep head h.top, fun c hc => ?_, fun c h1 h2 => ?_, fun c h1 h2 p hpc => ?_, ?_⟩
  · rcases List.mem_append.1 hc with h3 | h3
    · exact h.work c (List.mem_append.2 (Or.inl h3))
    · exact ⟨hp b c h3, Back.up hbB hbh h3⟩
  · by_cases hcb : c = b
    · rw [hcb]; exact ⟨hbK, hbB⟩
    · rw [hs, if_neg hcb] at h1; exact h.sound c h1 h2
  · by_cases hcb : c = b
    · rw [hcb] at hpc; exact Or.inr (List.mem_append.2 (Or.inr hpc))
    · rw [hs, if_neg hcb] at h1
      rcases h.shut c h1 h2 p hpc with h3 | h3
      · exact Or.inl (hkeep p h3)
      · rcases List.mem_append.1 h3 with h4 | h4
        · exact Or.inr (List.mem_append.2 (Or.inl h4))
        · rw [List.mem_singleton.1 h4, hs, if_pos rfl]; exact Or.inl rfl
  · rcases h.last with h3 | h3
    · exact Or.inl (hkeep closing h3)
    · rcases List.mem_append.1 h3 with h4 | h4
      · exact Or.inr (List.mem_append.2 (Or.inl h4))
      · rw [List.mem_singleton.1 h4, hs, if_pos rfl]; exact Or.inl rfl
/-- Where no work is left, the marks say who belongs. -/
theorem LWork.done {pv : Nat → List Nat} {K head closing : Nat} {I : List Bool} (h : LWork pv K head closing I []) (b : Nat) : I.getD b false = true ↔ (b = head ∨ Back pv head closing b) := by
  constructor
  · intro h1
    by_cases hb : b = head
    · exact Or.inl hb
    · exact Or.inr (h.sound b h1 hb).2
  · rintro (e | e)
    · rw [e]; exact h.top
    · induction e with
      | here => exact h.last.resolve_right (by simp)
      | @up b p _ hn hp ih => exact (h.shut b ih hn p hp).resolve_right (by simp)
end Go.Proofs.YteilohamjijpbaaDoor
