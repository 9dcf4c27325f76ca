import Derived.Test.YtldbmdgpdolaaaaGreatDoorPXSsaMath
namespace Go.Proofs.YtldbmdgpdolaaaaGreatDoor
open Go Go.RowKit

theorem on1_live {P : List Fn} {f : Fn} (ok : FlowOk P f) {pc q r : Nat} (hpc : pc < f.code.length) (hq : q ∈ behind (insD f pc) pc) (hr : r < 12) {l : List Int} (hl : l.length = 12) (h : LiveW P f r pc → l.getD r 0 ≠ -1) (hw : LiveW P f r q) : (on1 f pc l).getD r 0 ≠ -1 := by
  have hio := (ok.insD hpc).1
  have hsb := set_bit (insD f pc) hio.dst0 r
  unfold on1
  by_cases hs : setsB (insD f pc).op = true
  · rw [if_pos hs]
    by_cases hd : (insD f pc).dst.toNat = r
    · rw [hd]
      simp only [List.getD, List.getElem?_set_self (show r < l.length by omega), Option.getD_some]
      unfold madeI; omega
    · simp only [List.getD, List.getElem?_set_ne hd]
      refine h (LiveW.on hpc ?_ hq hw)
      rw [hsb, hs]
      have : ¬ (insD f pc).dst = (r : Int) := fun e => hd (by rw [e]; simp)
      simpa using this
  · rw [if_neg hs]
    refine h (LiveW.on hpc ?_ hq hw)
    rw [hsb]
    simp [Bool.not_eq_true] at hs
    simp [hs]
theorem onR_live {P : List Fn} {f : Fn} (ok : FlowOk P f) {S : List Nat} {T : Nat → Nat} (hB : BlkOk f S T) {j : Nat} (hj : j < S.length) {r : Nat} (hr : r < 12) {l : List Int} (hl : l.length = 12) (h : LiveW P f r S[j] → l.getD r 0 ≠ -1) : ∀ n, n < T j - S[j] → LiveW P f r (S[j] + n) → (onR f S[j] n l).getD r 0 ≠ -1
  | 0, _, hw => h hw
  | n + 1, hn, hw => by
    have hE := hB.ends j hj
    have hle := hE.le
    have hop := (hE.goes (S[j] + n + 1) (by omega) (by omega)).1
    rw [show S[j] + n + 1 - 1 = S[j] + n from rfl] at hop
    rw [onR_snoc]
    exact on1_live ok (by omega) (q := S[j] + (n + 1)) (by rw [behind_on _ _ hop]; simp; omega) hr (by rw [onR_len]; exact hl) (fun hw' => onR_live ok hB hj hr hl h n (by omega) hw') hw
theorem onR_behind {P : List Fn} {f : Fn} (ok : FlowOk P f) {S : List Nat} {T : Nat → Nat} (hB : BlkOk f S T) {j : Nat} (hj : j < S.length) {r : Nat} (hr : r < 12) {l : List Int} (hl : l.length = 12) (h : LiveW P f r S[j] → l.getD r 0 ≠ -1) {q : Nat} (hq : q ∈ behind (insD f (T j - 1)) (T j - 1)) (hw : LiveW P f r q) : (onR f S[j] (T j - S[j]) l).getD r 0 ≠ -1 := by
  have hE := hB.ends j hj
  have hlt := hE.lt
  have hle := hE.le
  obtain ⟨n, hn⟩ : ∃ n, T j - S[j] = n + 1 := ⟨T j - S[j] - 1, by omega⟩
  rw [hn, onR_snoc]
  have e : S[j] + n = T j - 1 := by omega
  rw [e]
  refine on1_live ok (by omega) hq hr (by rw [onR_len]; exact hl) (fun hw' => ?_) hw
  exact onR_live ok hB hj hr hl h n (by omega) (by rw [e]; exact hw')
theorem prev_behind {P : List Fn} {f : Fn} (ok : FlowOk P f) {S : List Nat} {T : Nat → Nat} (hB : BlkOk f S T) {b j : Nat} (hb : b < S.length) (h : ((j : Nat) : Int) ∈ prevs f S T b) : ∃ hj : j < S.length, S[b] ∈ behind (insD f (T j - 1)) (T j - 1) := by
  rcases (prevs_mem _).1 h with ⟨-, e⟩ | ⟨j', hj', e, hm⟩
  · omega
  · have : j = j' := by omega
    subst this
    obtain ⟨q, hq, e2⟩ := (nxI_mem f S (T j) _).1 hm
    have hqS := (hB.ends j hj').leads ok hB.starts (hB.starts.reach ok (List.getElem_mem hj')).1 hq
    have hr := (rank_lt hB.starts.rises hqS).2 (rank_lt hB.starts.rises hqS).1
    refine ⟨hj', ?_⟩
    have e3 : rank S q = b := by omega
    simp only [e3] at hr
    rw [hr]; exact hq
theorem from_live {P : List Fn} {f : Fn} (ok : FlowOk P f) (hU : ∀ q, q < f.code.length → Way f 63 q → ∀ r, r < 12 → (rdMask P (insD f q)).testBit r = true → ¬ Way f r q) {S : List Nat} {T : Nat → Nat} (hB : BlkOk f S T) {L : List Int} (hL : LiveSpec P f L) {b : Nat} {l : List Int} (h : FromR f S T L b l) : ∀ (hb : b < S.length) r, r < 12 → LiveW P f r S[b] → l.getD r 0 ≠ -1 := by
  induction h with
  | @joins b hj =>
    intro hb r hr hw
    have eS : S.getD b 0 = S[b] := by simp [List.getD, hb]
    have hrc := hB.starts.reach ok (List.getElem_mem hb)
    rw [wantR_get _ _ hr, phiR_get b hr, eS]
    rcases hL.2 S[b] hrc.2 with ⟨h1, -⟩ | ⟨-, m, hm, e, hb2⟩
    · exact absurd hrc.1 h1
    · have : mkL L S[b] = m := by unfold mkL; rw [e]; rfl
      rw [this, if_pos ((hb2 r hr).2 hw)]
      unfold phiI; omega
  | @first b h =>
    intro hb r hr hw
    have hb0 : b = 0 := by
      rcases (prevs_mem (-1)).1 (show (-1 : Int) ∈ prevs f S T b by rw [h]; simp) with ⟨e, -⟩ | ⟨j, -, e, -⟩
      · exact e
      · omega
    subst hb0
    obtain ⟨hl, h0⟩ := hB.starts.first
    rw [h0] at hw
    rw [parR_get _ hr]
    have hns := live_sure ok hU hr hw (Way.start (by have := ok.ok.p2; omega))
    by_cases hp : (r : Int) < f.params
    · rw [if_pos hp]; omega
    · exact absurd (Way.start (by omega)) hns
  | @one b j l h hf ih =>
    intro hb r hr hw
    obtain ⟨hj, hq⟩ := prev_behind ok hB hb (show ((j : Nat) : Int) ∈ prevs f S T b by rw [h]; simp)
    have eS : S.getD j 0 = S[j] := by simp [List.getD, hj]
    rw [eS]
    exact onR_behind ok hB hj hr hf.len (ih hj r hr) hq hw
end Go.Proofs.YtldbmdgpdolaaaaGreatDoor
