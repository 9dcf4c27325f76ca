import Derived.Test.YtldbmdgpdolaaaaGreatDoorPXSsaAtS
import Derived.Test.YtldbmdgpdolaaaaGreatDoorPXSsaFact
import Derived.Test.YtldbmdgpdolaaaaGreatDoorPXSsaInss
namespace Go.Proofs.YtldbmdgpdolaaaaGreatDoor
open Go Go.RowKit

theorem FromR.congr {f : Fn} {S : List Nat} {T T' : Nat → Nat} {L : List Int} (hT : ∀ i, i < S.length → T i = T' i) {b : Nat} {l : List Int} (h : FromR f S T L b l) : FromR f S T' L b l := by
  have hp : ∀ b, prevs f S T' b = prevs f S T b := fun b => prevs_congr hT b
  induction h with
  | joins h => exact .joins (by rw [hp]; exact h)
  | first h => exact .first (by rw [hp]; exact h)
  | @one b j l h hf ih =>
    have hj : j < S.length := by
      have hm : ((j : Nat) : Int) ∈ prevs f S T b := by rw [h]; simp
      rcases (prevs_mem _).1 hm with ⟨-, e⟩ | ⟨j', hj', e, -⟩
      · omega
      · have : j = j' := by omega
        rw [this]; exact hj'
    rw [hT j hj]
    exact .one (by rw [hp]; exact h) ih
theorem fromR_congr {P : List Fn} {f : Fn} (ok : FlowOk P f) {S : List Nat} {T T' : Nat → Nat} (hB : BlkOk f S T) (L : List Int) (hT : ∀ i, i < S.length → T i = T' i) {b : Nat} (hb : b < S.length) : fromR f S T' L b = fromR f S T L b :=
  fromR_eq ((fromR_is ok hB L hb).congr hT)
theorem behR_congr {P : List Fn} {f : Fn} (ok : FlowOk P f) {S : List Nat} {T T' : Nat → Nat} (hB : BlkOk f S T) (L : List Int) (hT : ∀ i, i < S.length → T i = T' i) {b : Nat} {z : Int} (hz : z ∈ prevs f S T b) : behR f S T' L z = behR f S T L z := by
  unfold behR
  split
  · rfl
  · rename_i h
    rcases (prevs_mem z).1 hz with ⟨-, e⟩ | ⟨j, hj, rfl, -⟩
    · exact absurd e h
    · rw [Int.toNat_natCast, fromR_congr ok hB L hT hj, hT j hj]
theorem phiM_congr {P : List Fn} {f : Fn} (ok : FlowOk P f) {S : List Nat} {T T' : Nat → Nat} (hB : BlkOk f S T) (L : List Int) (hT : ∀ i, i < S.length → T i = T' i) {b : Nat} (hb : b < S.length) : phiM f S T' L b = phiM f S T L b := by
  have hp : prevs f S T' b = prevs f S T b := prevs_congr hT b
  have h1 : ∀ r, phi1 f S T' L b r = phi1 f S T L b r := fun r => by
    unfold phi1
    rw [fromR_congr ok hB L hT hb, hp]
    congr 1
    exact List.map_congr_left fun z hz => by rw [behR_congr ok hB L hT hz]
  have h2 : ∀ r, phiTo f S T' L b r = phiTo f S T L b r := fun r => by
    induction r with
    | zero => rfl
    | succ r ih => rw [phiTo, phiTo, ih, h1, fromR_congr ok hB L hT hb]
  unfold phiM
  rw [hp, h2]
theorem idsTo_congr (pn : Nat) {PH PH' : Nat → List PhiD} {IN IN' : Nat → List InsD} : ∀ {n : Nat}, (∀ b, b < n → PH b = PH' b) → (∀ b, b < n → IN b = IN' b) → idsTo pn PH IN n = idsTo pn PH' IN' n
  | 0, _, _ => rfl
  | n + 1, h1, h2 => by
    rw [idsTo, idsTo, idsTo_congr pn (fun b hb => h1 b (by omega)) (fun b hb => h2 b (by omega)), h1 n (by omega), h2 n (by omega)]
theorem SsaIs.same {P : List Fn} {f : Fn} (ok : FlowOk P f) {S S' : List Nat} {T T' : Nat → Nat} {L L' : List Int} {pn pn' : Nat} {g g' : List (Int × Int)} {D D' : PDat} (h : SsaIs P f S T L pn g D) (h' : SsaIs P f S' T' L' pn' g' D') :
    S = S' ∧ (∀ i, i < S.length → T i = T' i) ∧ L = L' ∧ pn = pn' ∧ g = g' ∧ (∀ b, b < S.length → D.ph b = D'.ph b) ∧ (∀ b, b < S.length → D.ins b = D'.ins b) ∧ idsD pn S.length D = idsD pn' S'.length D' := by
  obtain ⟨rfl, hT⟩ := h.ok.same h'.ok
  obtain rfl := spec_unique h.live h'.live
  have e1 : pn = pn' := by have := h.par; have := h'.par; omega
  subst e1
  have hph : phsOf (phiM f S T' L) S.length = phsOf (phiM f S T L) S.length := by
    unfold phsOf
    exact List.map_congr_left fun b hb => phiM_congr ok h.ok L hT (List.mem_range.1 hb)
  have hs' := h'.settle
  rw [hph] at hs'
  obtain ⟨e2, e3⟩ := h.settle.unique hs'
  have e4 : ∀ b, b < S.length → D.ph b = D'.ph b := fun b hb => phsOf_at e3 hb
  have e5 : ∀ b, b < S.length → D.ins b = D'.ins b := fun b hb => by
    rw [h.left.ins b hb, h'.left.ins b hb, fromR_congr ok h.ok L hT hb, hT b hb]
  exact ⟨rfl, hT, rfl, rfl, e2, e4, e5, idsTo_congr pn e4 e5⟩
end Go.Proofs.YtldbmdgpdolaaaaGreatDoor
