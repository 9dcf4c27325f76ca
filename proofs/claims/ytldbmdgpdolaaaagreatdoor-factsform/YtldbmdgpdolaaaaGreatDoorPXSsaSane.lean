import Derived.Test.YtldbmdgpdolaaaaGreatDoorPXSsaCount
import Derived.Test.YtldbmdgpdolaaaaGreatDoorPXSsaLive
import Derived.Test.YtldbmdgpdolaaaaGreatDoorPXSsaPartM
namespace Go.Proofs.YtldbmdgpdolaaaaGreatDoor
open Go Go.RowKit

theorem blocks40 {P : List Fn} {f : Fn} (ok : FlowOk P f) {S : List Nat} {T : Nat → Nat} (hB : BlkOk f S T) : S.length ≤ 40 := Nat.le_trans (starts_len ok hB.starts) ok.ok.len2
theorem prevs_len {f : Fn} {S : List Nat} {T : Nat → Nat} {b : Nat} (hn : S.length ≤ 40) : (prevs f S T b).length ≤ 1000 := by
  unfold prevs pvI
  rw [List.length_append, List.length_map]
  have h1 := List.length_filter_le (fun j => decide (((b : Nat) : Int) ∈ nxI f S (T j))) (List.range S.length)
  rw [List.length_range] at h1
  have h2 : (if b = 0 then [(-1 : Int)] else []).length ≤ 1 := by split <;> simp
  omega
def ValI (z : Int) : Prop := -1 ≤ z ∧ z ≤ 600
theorem ValI.fit {z : Int} (h : ValI z) : Fit2 z := ⟨h.1, by have := h.2; omega⟩
def ValL (l : List Int) : Prop := ∀ r, r < 12 → ValI (l.getD r 0)
theorem valL_par {p : Int} (_h1 : p ≤ 12) : ValL (parR p) := fun r hr => by
  rw [parR_get p hr]; split
  · exact ⟨by omega, by omega⟩
  · exact ⟨by omega, by omega⟩
theorem valL_phi {b : Nat} (hb : b < 40) : ValL (phiR b) := fun r hr => by
  rw [phiR_get b hr]; unfold phiI; exact ⟨by omega, by omega⟩
theorem valL_want {m : Nat} {l : List Int} (h : ValL l) : ValL (wantR m l) := fun r hr => by
  rw [wantR_get m l hr]; split
  · exact h r hr
  · exact ⟨by omega, by omega⟩
theorem valL_on1 {f : Fn} {pc : Nat} {l : List Int} (hpc : pc < 40) (h : ValL l) : ValL (on1 f pc l) := fun r hr => by
  unfold on1
  split
  · rw [List.getD, List.getElem?_set]
    split
    · split
      · simp only [Option.getD_some]; unfold madeI; exact ⟨by omega, by omega⟩
      · exact ⟨by simp, by simp⟩
    · exact h r hr
  · exact h r hr
theorem valL_on {f : Fn} : ∀ (n pc : Nat) (l : List Int), pc + n ≤ 40 → ValL l → ValL (onR f pc n l)
  | 0, _, _, _, h => h
  | n + 1, pc, l, hp, h => valL_on n (pc + 1) _ (by omega) (valL_on1 (by omega) h)
theorem valL_from {P : List Fn} {f : Fn} (ok : FlowOk P f) {S : List Nat} {T : Nat → Nat} (hB : BlkOk f S T) {L : List Int} {b : Nat} {l : List Int} (h : FromR f S T L b l) : b < S.length → ValL l := by
  have h40 := blocks40 ok hB
  have hp2 := ok.ok.p2
  induction h with
  | joins _ => exact fun hb => valL_want (valL_phi (by omega))
  | first _ => exact fun _ => valL_par (by omega)
  | @one b j l h hf ih =>
    intro hb
    obtain ⟨hj, -⟩ := prev_behind ok hB hb (show ((j : Nat) : Int) ∈ prevs f S T b by rw [h]; simp)
    have hE := hB.ends j hj
    have eS : S.getD j 0 = S[j] := by simp [List.getD, hj]
    rw [eS]
    have := hE.lt; have := hE.le; have := ok.ok.len2
    exact valL_on _ _ _ (by omega) (ih hj)
theorem valL_beh {P : List Fn} {f : Fn} (ok : FlowOk P f) {S : List Nat} {T : Nat → Nat} (hB : BlkOk f S T) {L : List Int} {b : Nat} (_hb : b < S.length) {z : Int} (hz : z ∈ prevs f S T b) : ValL (behR f S T L z) := by
  unfold behR
  split
  · exact valL_par (by have := ok.ok.p2; omega)
  · rename_i h
    rcases (prevs_mem z).1 hz with ⟨-, e⟩ | ⟨j, hj, rfl, -⟩
    · exact absurd e h
    · rw [Int.toNat_natCast]
      have hE := hB.ends j hj
      have eS : S.getD j 0 = S[j] := by simp [List.getD, hj]
      rw [eS]
      have := hE.lt; have := hE.le; have := ok.ok.len2
      exact valL_on _ _ _ (by omega) (valL_from ok hB (fromR_is ok hB L hj) hj)
theorem beh_there {P : List Fn} {f : Fn} (ok : FlowOk P f) (hU : ∀ q, q < f.code.length → Way f 63 q → ∀ r, r < 12 → (rdMask P (insD f q)).testBit r = true → ¬ Way f r q) {S : List Nat} {T : Nat → Nat} (hB : BlkOk f S T) {L : List Int} (hL : LiveSpec P f L) {b r : Nat} (hb : b < S.length) (hr : r < 12) (hw : LiveW P f r S[b]) {z : Int} (hz : z ∈ prevs f S T b) : (behR f S T L z).getD r 0 ≠ -1 := by
  unfold behR
  split
  · rename_i h
    subst h
    have hb0 : b = 0 := by
      rcases (prevs_mem (-1)).1 hz with ⟨e, -⟩ | ⟨j, -, e, -⟩
      · exact e
      · omega
    subst hb0
    obtain ⟨hl, h0⟩ := hB.starts.first
    rw [h0] at hw
    rw [parR_get _ hr]
    have hns := live_sure ok hU hr hw (Way.start (by have := ok.ok.p2; omega))
    by_cases hp : (r : Int) < f.params
    · rw [if_pos hp]; omega
    · exact absurd (Way.start (by omega)) hns
  · rename_i h
    rcases (prevs_mem z).1 hz with ⟨-, e⟩ | ⟨j, hj, rfl, -⟩
    · exact absurd e h
    · rw [Int.toNat_natCast]
      obtain ⟨hj', hq⟩ := prev_behind ok hB hb hz
      have eS : S.getD j 0 = S[j] := by simp [List.getD, hj]
      rw [eS]
      exact onR_behind ok hB hj hr (fromR_is ok hB L hj).len (from_live ok hU hB hL (fromR_is ok hB L hj) hj r hr) hq hw
theorem phi_form {P : List Fn} {f : Fn} (ok : FlowOk P f) {S : List Nat} {T : Nat → Nat} (hB : BlkOk f S T) {L : List Int} (hL : LiveSpec P f L) {b : Nat} (hb : b < S.length) {p : PhiD} (hp : p ∈ phiM f S T L b) : ∃ r, r < 12 ∧ 1 < (prevs f S T b).length ∧ p = phi1 f S T L b r ∧ p.reg = r ∧ p.id = phiI b r ∧ LiveW P f r S[b] := by
  unfold phiM at hp
  split at hp
  · rename_i hj
    obtain ⟨r, hr, h1, rfl⟩ := phiTo_mem.1 hp
    have ef : fromR f S T L b = wantR (mkL L (S.getD b 0)) (phiR b) := fromR_eq (.joins hj)
    have eS : S.getD b 0 = S[b] := by simp [List.getD, hb]
    have hrc := hB.starts.reach ok (List.getElem_mem hb)
    have hid : (phi1 f S T L b r).id = (fromR f S T L b).getD r 0 := rfl
    rw [ef, wantR_get _ _ hr] at h1
    split at h1
    · rename_i hbit
      refine ⟨r, hr, hj, rfl, rfl, by rw [hid, ef, wantR_get _ _ hr, if_pos hbit, phiR_get b hr], ?_⟩
      rw [eS] at hbit
      rcases hL.2 S[b] hrc.2 with ⟨h2, -⟩ | ⟨-, m, hm, e, hb2⟩
      · exact absurd hrc.1 h2
      · have : mkL L S[b] = m := by unfold mkL; rw [e]; rfl
        rw [this] at hbit
        exact (hb2 r hr).1 hbit
    · exact absurd rfl h1
  · cases hp
theorem phiFit_all {P : List Fn} {f : Fn} (ok : FlowOk P f) (hU : ∀ q, q < f.code.length → Way f 63 q → ∀ r, r < 12 → (rdMask P (insD f q)).testBit r = true → ¬ Way f r q) {S : List Nat} {T : Nat → Nat} (hB : BlkOk f S T) {L : List Int} (hL : LiveSpec P f L) : phiFit (phsOf (phiM f S T L) S.length).flatten := by
  intro p hp
  obtain ⟨l, hl, hpl⟩ := List.mem_flatten.1 hp
  obtain ⟨b, hb, rfl⟩ := List.mem_map.1 hl
  have hb : b < S.length := List.mem_range.1 hb
  obtain ⟨r, hr, -, e, -, hid, hw⟩ := phi_form ok hB hL hb hpl
  have h40 := blocks40 ok hB
  refine ⟨by rw [hid]; unfold phiI; exact ⟨by omega, by omega⟩, fun a ha => ?_⟩
  rw [e] at ha
  obtain ⟨z, hz, rfl⟩ := List.mem_map.1 ha
  exact ⟨(valL_beh ok hB hb hz r hr).fit, beh_there ok hU hB hL hb hr hw hz⟩
theorem phi_ids {P : List Fn} {f : Fn} (ok : FlowOk P f) {S : List Nat} {T : Nat → Nat} (hB : BlkOk f S T) {L : List Int} (hL : LiveSpec P f L) : (phsOf (phiM f S T L) S.length).flatten.Pairwise (fun p q => p.id ≠ q.id) := by
  have hin : ∀ b, b < S.length → (phiM f S T L b).Pairwise (fun p q => p.id ≠ q.id) := fun b hb => by
    have hreg : (phiM f S T L b).Pairwise (fun p q => p.reg ≠ q.reg) := by
      unfold phiM; split
      · exact phiTo_regs _ _ _ _ _ _
      · exact List.Pairwise.nil
    refine hreg.imp_of_mem fun {p q} hp hq hne e => hne ?_
    obtain ⟨r, _, -, -, e1, e2, -⟩ := phi_form ok hB hL hb hp
    obtain ⟨r', _, -, -, e3, e4, -⟩ := phi_form ok hB hL hb hq
    rw [e2, e4] at e
    unfold phiI at e
    omega
  rw [List.pairwise_flatten]
  refine ⟨fun l hl => ?_, ?_⟩
  · obtain ⟨b, hb, rfl⟩ := List.mem_map.1 hl
    exact hin b (List.mem_range.1 hb)
  · unfold phsOf
    rw [List.pairwise_map]
    refine (List.pairwise_lt_range).imp_of_mem fun {a b} ha hb hlt p hp q hq e => ?_
    obtain ⟨r, _, -, -, e1, e2, -⟩ := phi_form ok hB hL (List.mem_range.1 ha) hp
    obtain ⟨r', _, -, -, e3, e4, -⟩ := phi_form ok hB hL (List.mem_range.1 hb) hq
    rw [e2, e4] at e
    unfold phiI at e
    omega
theorem phi_regs (f : Fn) (S : List Nat) (T : Nat → Nat) (L : List Int) (n : Nat) : ∀ b, b < n → (phiM f S T L b).Pairwise (fun p q => p.reg ≠ q.reg) := fun b _ => by
  unfold phiM; split
  · exact phiTo_regs _ _ _ _ _ _
  · exact List.Pairwise.nil
theorem phi_len (f : Fn) (S : List Nat) (T : Nat → Nat) (L : List Int) (b : Nat) : (phiM f S T L b).length ≤ 12 := by
  unfold phiM; split
  · exact phiTo_len _ _ _ _ _ _
  · simp
theorem phisLen_le {PH : Nat → List PhiD} (h : ∀ b, (PH b).length ≤ 12) (n : Nat) : phisLen (phsOf PH n) ≤ 12 * n := by
  unfold phisLen phsOf
  induction n with
  | zero => simp
  | succ n ih =>
    rw [List.range_succ, List.map_append, List.map_append, List.sum_append]
    have := h n
    simp only [List.map_cons, List.map_nil, List.sum_cons, List.sum_nil]
    omega
end Go.Proofs.YtldbmdgpdolaaaaGreatDoor
