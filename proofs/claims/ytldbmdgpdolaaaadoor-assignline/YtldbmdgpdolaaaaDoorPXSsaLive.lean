import Derived.Test.YtldbmdgpdolaaaaDoorPXPlaceMeet
import Derived.Test.YtldbmdgpdolaaaaDoorPXSsaCount
import Derived.Test.YtldbmdgpdolaaaaDoorPXSsaPartM
namespace Go.Proofs.YtldbmdgpdolaaaaDoor
open Go Go.RowKit

theorem on1_live {P : List Fn} {f : Fn} (ok : FlowOk P f) {pc q r : Nat} (hpc : pc < f.code.length) (hq : q ∈ behind (insD f pc) pc) (hr : r < 12) {l : List Int} (hl : l.length = 12) (h : LiveW P f r pc → l.getD r 0 ≠ -1) (hw : LiveW P f r q) : (on1 f pc l).getD r 0 ≠ -1 := by
  have hio := (ok.insD hpc).1
  have hsb := set_bit (insD f pc) hio.dst0 r
  unfold on1
  by_cases hs : setsB (insD f pc).op = true
  · rw [if_pos hs]
    by_cases hd : (insD f pc).dst.toNat = r
    · rw [hd]
      simp only [List.getD, List.getElem?_set_self (show r < l.length by omega), Option.getD_some]
      unfold madeI; omega
    · simp only [List.getD, List.getElem?_set_ne hd]
      refine h (LiveW.on hpc ?_ hq hw)
      rw [hsb, hs]
      have : ¬ (insD f pc).dst = (r : Int) := fun e => hd (by rw [e]; simp)
      simpa using this
  · rw [if_neg hs]
    refine h (LiveW.on hpc ?_ hq hw)
    rw [hsb]
    simp [Bool.not_eq_true] at hs
    simp [hs]
theorem onR_live {P : List Fn} {f : Fn} (ok : FlowOk P f) {S : List Nat} {T : Nat → Nat} (hB : BlkOk f S T) {j : Nat} (hj : j < S.length) {r : Nat} (hr : r < 12) {l : List Int} (hl : l.length = 12) (h : LiveW P f r S[j] → l.getD r 0 ≠ -1) : ∀ n, n < T j - S[j] → LiveW P f r (S[j] + n) → (onR f S[j] n l).getD r 0 ≠ -1
  | 0, _, hw => h hw
  | n + 1, hn, hw => by
    have hE := hB.ends j hj
    have hle := hE.le
    have hop := (hE.goes (S[j] + n + 1) (by omega) (by omega)).1
    rw [show S[j] + n + 1 - 1 = S[j] + n from rfl] at hop
    rw [onR_snoc]
    exact on1_live ok (by omega) (q := S[j] + (n + 1)) (by rw [behind_on _ _ hop]; simp; omega) hr (by rw [onR_len]; exact hl) (fun hw' => onR_live ok hB hj hr hl h n (by omega) hw') hw
theorem onR_behind {P : List Fn} {f : Fn} (ok : FlowOk P f) {S : List Nat} {T : Nat → Nat} (hB : BlkOk f S T) {j : Nat} (hj : j < S.length) {r : Nat} (hr : r < 12) {l : List Int} (hl : l.length = 12) (h : LiveW P f r S[j] → l.getD r 0 ≠ -1) {q : Nat} (hq : q ∈ behind (insD f (T j - 1)) (T j - 1)) (hw : LiveW P f r q) : (onR f S[j] (T j - S[j]) l).getD r 0 ≠ -1 := by
  have hE := hB.ends j hj
  have hlt := hE.lt
  have hle := hE.le
  obtain ⟨n, hn⟩ : ∃ n, T j - S[j] = n + 1 := ⟨T j - S[j] - 1, by omega⟩
  rw [hn, onR_snoc]
  have e : S[j] + n = T j - 1 := by omega
  rw [e]
  refine on1_live ok (by omega) hq hr (by rw [onR_len]; exact hl) (fun hw' => ?_) hw
  exact onR_live ok hB hj hr hl h n (by omega) (by rw [e]; exact hw')
theorem prev_behind {P : List Fn} {f : Fn} (ok : FlowOk P f) {S : List Nat} {T : Nat → Nat} (hB : BlkOk f S T) {b j : Nat} (hb : b < S.length) (h : ((j : Nat) : Int) ∈ prevs f S T b) : ∃ hj : j < S.length, S[b] ∈ behind (insD f (T j - 1)) (T j - 1) := by
  rcases (prevs_mem _).1 h with ⟨-, e⟩ | ⟨j', hj', e, hm⟩
  · omega
  · have : j = j' := by omega
    subst this
    obtain ⟨q, hq, e2⟩ := (nxI_mem f S (T j) _).1 hm
    have hqS := (hB.ends j hj').leads ok hB.starts (hB.starts.reach ok (List.getElem_mem hj')).1 hq
    have hr := (rank_lt hB.starts.rises hqS).2 (rank_lt hB.starts.rises hqS).1
    refine ⟨hj', ?_⟩
    have e3 : rank S q = b := by omega
    simp only [e3] at hr
    rw [hr]; exact hq
theorem from_live {P : List Fn} {f : Fn} (ok : FlowOk P f) (hU : ∀ q, q < f.code.length → Way f 63 q → ∀ r, r < 12 → (rdMask P (insD f q)).testBit r = true → ¬ Way f r q) {S : List Nat} {T : Nat → Nat} (hB : BlkOk f S T) {L : List Int} (hL : LiveSpec P f L) {b : Nat} {l : List Int} (h : FromR f S T L b l) : ∀ (hb : b < S.length) r, r < 12 → LiveW P f r S[b] → l.getD r 0 ≠ -1 := by
  induction h with
  | @joins b hj =>
    intro hb r hr hw
    have eS : S.getD b 0 = S[b] := by simp [List.getD, hb]
    have hrc := hB.starts.reach ok (List.getElem_mem hb)
    rw [wantR_get _ _ hr, phiR_get b hr, eS]
    rcases hL.2 S[b] hrc.2 with ⟨h1, -⟩ | ⟨-, m, hm, e, hb2⟩
    · exact absurd hrc.1 h1
    · have : mkL L S[b] = m := by unfold mkL; rw [e]; rfl
      rw [this, if_pos ((hb2 r hr).2 hw)]
      unfold phiI; omega
  | @first b h =>
    intro hb r hr hw
    have hb0 : b = 0 := by
      rcases (prevs_mem (-1)).1 (show (-1 : Int) ∈ prevs f S T b by rw [h]; simp) with ⟨e, -⟩ | ⟨j, -, e, -⟩
      · exact e
      · omega
    subst hb0
    obtain ⟨hl, h0⟩ := hB.starts.first
    rw [h0] at hw
    rw [parR_get _ hr]
    have hns := live_sure ok hU hr hw (Way.start (by have := ok.ok.p2; omega))
    by_cases hp : (r : Int) < f.params
    · rw [if_pos hp]; omega
    · exact absurd (Way.start (by omega)) hns
  | @one b j l h hf ih =>
    intro hb r hr hw
    obtain ⟨hj, hq⟩ := prev_behind ok hB hb (show ((j : Nat) : Int) ∈ prevs f S T b by rw [h]; simp)
    have eS : S.getD j 0 = S[j] := by simp [List.getD, hj]
    rw [eS]
    exact onR_behind ok hB hj hr hf.len (ih hj r hr) hq hw
end Go.Proofs.YtldbmdgpdolaaaaDoor
namespace Go.Proofs.YtldbmdgpdolaaaaDoor
open Go Go.RowKit

theorem blocks40 {P : List Fn} {f : Fn} (ok : FlowOk P f) {S : List Nat} {T : Nat → Nat} (hB : BlkOk f S T) : S.length ≤ 40 := Nat.le_trans (starts_len ok hB.starts) ok.ok.len2
theorem prevs_len {f : Fn} {S : List Nat} {T : Nat → Nat} {b : Nat} (hn : S.length ≤ 40) : (prevs f S T b).length ≤ 1000 := by
  unfold prevs pvI
  rw [List.length_append, List.length_map]
  have h1 := List.length_filter_le (fun j => decide (((b : Nat) : Int) ∈ nxI f S (T j))) (List.range S.length)
  rw [List.length_range] at h1
  have h2 : (if b = 0 then [(-1 : Int)] else []).length ≤ 1 := by split <;> simp
  omega
def ValI (z : Int) : Prop := -1 ≤ z ∧ z ≤ 600
theorem ValI.fit {z : Int} (h : ValI z) : Fit2 z := ⟨h.1, by have := h.2; omega⟩
def ValL (l : List Int) : Prop := ∀ r, r < 12 → ValI (l.getD r 0)
theorem valL_par {p : Int} (_h1 : p ≤ 12) : ValL (parR p) := fun r hr => by
  rw [parR_get p hr]; split
  · exact ⟨by omega, by omega⟩
  · exact ⟨by omega, by omega⟩
theorem valL_phi {b : Nat} (hb : b < 40) : ValL (phiR b) := fun r hr => by
  rw [phiR_get b hr]; unfold phiI; exact ⟨by omega, by omega⟩
theorem valL_want {m : Nat} {l : List Int} (h : ValL l) : ValL (wantR m l) := fun r hr => by
  rw [wantR_get m l hr]; split
  · exact h r hr
  · exact ⟨by omega, by omega⟩
theorem valL_on1 {f : Fn} {pc : Nat} {l : List Int} (hpc : pc < 40) (h : ValL l) : ValL (on1 f pc l) := fun r hr => by
  unfold on1
  split
  · rw [List.getD, List.getElem?_set]
    split
    · split
      · simp only [Option.getD_some]; unfold madeI; exact ⟨by omega, by omega⟩
      · exact ⟨by simp, by simp⟩
    · exact h r hr
  · exact h r hr
theorem valL_on {f : Fn} : ∀ (n pc : Nat) (l : List Int), pc + n ≤ 40 → ValL l → ValL (onR f pc n l)
  | 0, _, _, _, h => h
  | n + 1, pc, l, hp, h => valL_on n (pc + 1) _ (by omega) (valL_on1 (by omega) h)
theorem valL_from {P : List Fn} {f : Fn} (ok : FlowOk P f) {S : List Nat} {T : Nat → Nat} (hB : BlkOk f S T) {L : List Int} {b : Nat} {l : List Int} (h : FromR f S T L b l) : b < S.length → ValL l := by
  have h40 := blocks40 ok hB
  have hp2 := ok.ok.p2
  induction h with
  | joins _ => exact fun hb => valL_want (valL_phi (by omega))
  | first _ => exact fun _ => valL_par (by omega)
  | @one b j l h hf ih =>
    intro hb
    obtain ⟨hj, -⟩ := prev_behind ok hB hb (show ((j : Nat) : Int) ∈ prevs f S T b by rw [h]; simp)
    have hE := hB.ends j hj
    have eS : S.getD j 0 = S[j] := by simp [List.getD, hj]
    rw [eS]
    have := hE.lt; have := hE.le; have := ok.ok.len2
    exact valL_on _ _ _ (by omega) (ih hj)
theorem valL_beh {P : List Fn} {f : Fn} (ok : FlowOk P f) {S : List Nat} {T : Nat → Nat} (hB : BlkOk f S T) {L : List Int} {b : Nat} (_hb : b < S.length) {z : Int} (hz : z ∈ prevs f S T b) : ValL (behR f S T L z) := by
  unfold behR
  split
  · exact valL_par (by have := ok.ok.p2; omega)
  · rename_i h
    rcases (prevs_mem z).1 hz with ⟨-, e⟩ | ⟨j, hj, rfl, -⟩
    · exact absurd e h
    · rw [Int.toNat_natCast]
      have hE := hB.ends j hj
      have eS : S.getD j 0 = S[j] := by simp [List.getD, hj]
      rw [eS]
      have := hE.lt; have := hE.le; have := ok.ok.len2
      exact valL_on _ _ _ (by omega) (valL_from ok hB (fromR_is ok hB L hj) hj)
theorem beh_there {P : List Fn} {f : Fn} (ok : FlowOk P f) (hU : ∀ q, q < f.code.length → Way f 63 q → ∀ r, r < 12 → (rdMask P (insD f q)).testBit r = true → ¬ Way f r q) {S : List Nat} {T : Nat → Nat} (hB : BlkOk f S T) {L : List Int} (hL : LiveSpec P f L) {b r : Nat} (hb : b < S.length) (hr : r < 12) (hw : LiveW P f r S[b]) {z : Int} (hz : z ∈ prevs f S T b) : (behR f S T L z).getD r 0 ≠ -1 := by
  unfold behR
  split
  · rename_i h
    subst h
    have hb0 : b = 0 := by
      rcases (prevs_mem (-1)).1 hz with ⟨e, -⟩ | ⟨j, -, e, -⟩
      · exact e
      · omega
    subst hb0
    obtain ⟨hl, h0⟩ := hB.starts.first
    rw [h0] at hw
    rw [parR_get _ hr]
    have hns := live_sure ok hU hr hw (Way.start (by have := ok.ok.p2; omega))
    by_cases hp : (r : Int) < f.params
    · rw [if_pos hp]; omega
    · exact absurd (Way.start (by omega)) hns
  · rename_i h
    rcases (prevs_mem z).1 hz with ⟨-, e⟩ | ⟨j, hj, rfl, -⟩
    · exact absurd e h
    · rw [Int.toNat_natCast]
      obtain ⟨hj', hq⟩ := prev_behind ok hB hb hz
      have eS : S.getD j 0 = S[j] := by simp [List.getD, hj]
      rw [eS]
      exact onR_behind ok hB hj hr (fromR_is ok hB L hj).len (from_live ok hU hB hL (fromR_is ok hB L hj) hj r hr) hq hw
theorem phi_form {P : List Fn} {f : Fn} (ok : FlowOk P f) {S : List Nat} {T : Nat → Nat} (hB : BlkOk f S T) {L : List Int} (hL : LiveSpec P f L) {b : Nat} (hb : b < S.length) {p : PhiD} (hp : p ∈ phiM f S T L b) : ∃ r, r < 12 ∧ 1 < (prevs f S T b).length ∧ p = phi1 f S T L b r ∧ p.reg = r ∧ p.id = phiI b r ∧ LiveW P f r S[b] := by
  unfold phiM at hp
  split at hp
  · rename_i hj
    obtain ⟨r, hr, h1, rfl⟩ := phiTo_mem.1 hp
    have ef : fromR f S T L b = wantR (mkL L (S.getD b 0)) (phiR b) := fromR_eq (.joins hj)
    have eS : S.getD b 0 = S[b] := by simp [List.getD, hb]
    have hrc := hB.starts.reach ok (List.getElem_mem hb)
    have hid : (phi1 f S T L b r).id = (fromR f S T L b).getD r 0 := rfl
    rw [ef, wantR_get _ _ hr] at h1
    split at h1
    · rename_i hbit
      refine ⟨r, hr, hj, rfl, rfl, by rw [hid, ef, wantR_get _ _ hr, if_pos hbit, phiR_get b hr], ?_⟩
      rw [eS] at hbit
      rcases hL.2 S[b] hrc.2 with ⟨h2, -⟩ | ⟨-, m, hm, e, hb2⟩
      · exact absurd hrc.1 h2
      · have : mkL L S[b] = m := by unfold mkL; rw [e]; rfl
        rw [this] at hbit
        exact (hb2 r hr).1 hbit
    · exact absurd rfl h1
  · cases hp
theorem phiFit_all {P : List Fn} {f : Fn} (ok : FlowOk P f) (hU : ∀ q, q < f.code.length → Way f 63 q → ∀ r, r < 12 → (rdMask P (insD f q)).testBit r = true → ¬ Way f r q) {S : List Nat} {T : Nat → Nat} (hB : BlkOk f S T) {L : List Int} (hL : LiveSpec P f L) : phiFit (phsOf (phiM f S T L) S.length).flatten := by
  intro p hp
  obtain ⟨l, hl, hpl⟩ := List.mem_flatten.1 hp
  obtain ⟨b, hb, rfl⟩ := List.mem_map.1 hl
  have hb : b < S.length := List.mem_range.1 hb
  obtain ⟨r, hr, -, e, -, hid, hw⟩ := phi_form ok hB hL hb hpl
  have h40 := blocks40 ok hB
  refine ⟨by rw [hid]; unfold phiI; exact ⟨by omega, by omega⟩, fun a ha => ?_⟩
  rw [e] at ha
  obtain ⟨z, hz, rfl⟩ := List.mem_map.1 ha
  exact ⟨(valL_beh ok hB hb hz r hr).fit, beh_there ok hU hB hL hb hr hw hz⟩
theorem phi_ids {P : List Fn} {f : Fn} (ok : FlowOk P f) {S : List Nat} {T : Nat → Nat} (hB : BlkOk f S T) {L : List Int} (hL : LiveSpec P f L) : (phsOf (phiM f S T L) S.length).flatten.Pairwise (fun p q => p.id ≠ q.id) := by
  have hin : ∀ b, b < S.length → (phiM f S T L b).Pairwise (fun p q => p.id ≠ q.id) := fun b hb => by
    have hreg : (phiM f S T L b).Pairwise (fun p q => p.reg ≠ q.reg) := by
      unfold phiM; split
      · exact phiTo_regs _ _ _ _ _ _
      · exact List.Pairwise.nil
    refine hreg.imp_of_mem fun {p q} hp hq hne e => hne ?_
    obtain ⟨r, _, -, -, e1, e2, -⟩ := phi_form ok hB hL hb hp
    obtain ⟨r', _, -, -, e3, e4, -⟩ := phi_form ok hB hL hb hq
    rw [e2, e4] at e
    unfold phiI at e
    omega
  rw [List.pairwise_flatten]
  refine ⟨fun l hl => ?_, ?_⟩
  · obtain ⟨b, hb, rfl⟩ := List.mem_map.1 hl
    exact hin b (List.mem_range.1 hb)
  · unfold phsOf
    rw [List.pairwise_map]
    refine (List.pairwise_lt_range).imp_of_mem fun {a b} ha hb hlt p hp q hq e => ?_
    obtain ⟨r, _, -, -, e1, e2, -⟩ := phi_form ok hB hL (List.mem_range.1 ha) hp
    obtain ⟨r', _, -, -, e3, e4, -⟩ := phi_form ok hB hL (List.mem_range.1 hb) hq
    rw [e2, e4] at e
    unfold phiI at e
    omega
theorem phi_regs (f : Fn) (S : List Nat) (T : Nat → Nat) (L : List Int) (n : Nat) : ∀ b, b < n → (phiM f S T L b).Pairwise (fun p q => p.reg ≠ q.reg) := fun b _ => by
  unfold phiM; split
  · exact phiTo_regs _ _ _ _ _ _
  · exact List.Pairwise.nil
theorem phi_len (f : Fn) (S : List Nat) (T : Nat → Nat) (L : List Int) (b : Nat) : (phiM f S T L b).length ≤ 12 := by
  unfold phiM; split
  · exact phiTo_len _ _ _ _ _ _
  · simp
theorem phisLen_le {PH : Nat → List PhiD} (h : ∀ b, (PH b).length ≤ 12) (n : Nat) : phisLen (phsOf PH n) ≤ 12 * n := by
  unfold phisLen phsOf
  induction n with
  | zero => simp
  | succ n ih =>
    rw [List.range_succ, List.map_append, List.map_append, List.sum_append]
    have := h n
    simp only [List.map_cons, List.map_nil, List.sum_cons, List.sum_nil]
    omega
end Go.Proofs.YtldbmdgpdolaaaaDoor
namespace Go.Proofs.YtldbmdgpdolaaaaDoor
open Go Go.RowKit

def newI (g : List (Int × Int)) (ids : List Int) (v : Int) : Int := if v = -1 then -1 else if stG g v ∈ ids then ((ids.idxOf (stG g v) : Nat) : Int) else 0
structure NumSt (w : World) (R2 B2 Rs R B : Nat) (g : List (Int × Int)) (ids : List Int) : Prop where
  num : NumAt w R2 B2 ids
  st : w.cell? ⟨Rs, 0, none⟩ = some (standsV R)
  gone : GoneAt w R B g.length g
abbrev numberV (R2 Rs : Nat) : Value := .func (.func 31) #[] #[.pointer (some ⟨R2, 0, none⟩), .pointer (some ⟨Rs, 0, none⟩)]
structure Own4 (base : Nat) (w w' : World) : Prop where
  os : w'.os = w.os
  tape : w'.tape = w.tape
  output : w'.output = w.output
  size : w'.heap.size = w.heap.size
  block : ∀ k, k < base ∨ (∀ cs t f, w.heap[k]? = some (.cells cs t f) → t ≠ 74 ∧ t ≠ 86 ∧ t ≠ 90 ∧ t ≠ 3) → w'.heap[k]? = w.heap[k]?
theorem Own4.refl (base : Nat) (w : World) : Own4 base w w := ⟨rfl, rfl, rfl, rfl, fun _ _ => rfl⟩
theorem Own4.trans {base : Nat} {a b c : World} (h : Own4 base a b) (k : Own4 base b c) : Own4 base a c := by
  refine ⟨k.os.trans h.os, k.tape.trans h.tape, k.output.trans h.output, k.size.trans h.size, fun q hq => ?_⟩
  have e := h.block q hq
  refine (k.block q ?_).trans e
  rcases hq with hq | hq
  · exact Or.inl hq
  · exact Or.inr fun cs t f hh => hq cs t f (by rw [← e]; exact hh)
theorem Own4.drewN (base : Nat) (w : World) (d : Nat) : Own4 base w (w.drewN d) := ⟨rfl, rfl, rfl, rfl, fun _ _ => rfl⟩
theorem Own4.of_gb {base : Nat} {w w' : World} {q t : Nat} {cs : Array Value} {f : Nat × Nat} (hg : w.grownBy w' (some q)) (hs : w'.heap.size = w.heap.size) (hq : base ≤ q) (hh : w.heap[q]? = some (.cells cs t f)) (ht : t = 74 ∨ t = 86 ∨ t = 90 ∨ t = 3) : Own4 base w w' := by
  refine ⟨hg.os, hg.tape, hg.output, hs, fun k hk => ?_⟩
  by_cases e : k = q
  · subst e
    rcases hk with hk | hk
    · omega
    · obtain ⟨h1, h2, h3, h4⟩ := hk _ _ _ hh
      rcases ht with e | e | e | e
      · exact absurd e h1
      · exact absurd e h2
      · exact absurd e h3
      · exact absurd e h4
  · rcases Nat.lt_or_ge k w.heap.size with hlt | hge
    · exact hg.block k hlt (by simpa using e)
    · rw [Array.getElem?_eq_none (by omega), Array.getElem?_eq_none (by omega)]
theorem Own4.cell {base : Nat} {w w' : World} (h : Own4 base w w') {a : Addr} {v : Value} {cs : Array Value} {t : Nat} {f : Nat × Nat} (hh : w.heap[a.block]? = some (.cells cs t f)) (ht : t ≠ 74 ∧ t ≠ 86 ∧ t ≠ 90 ∧ t ≠ 3) (hc : w.cell? a = some v) : w'.cell? a = some v :=
  (World.cell?_of_block (h.block a.block (Or.inr fun cs' t' f' e => by rw [hh] at e; simp at e; rw [← e.2.1]; exact ht))).trans hc
theorem Own4.map {base B m : Nat} {w w' : World} {D : Dat} (h : Own4 base w w') (hm : MapAt w B m D) : MapAt w' B m D := by
  obtain ⟨es, cl, hh, r⟩ := hm
  exact ⟨es, cl, (h.block B (Or.inr fun cs t f e => by rw [hh] at e; cases e)).trans hh, r⟩
theorem Own4.below {base : Nat} {w w' : World} (h : Own4 base w w') : Below base w w' := ⟨h.os, h.tape, h.output, by rw [h.size]; exact Nat.le_refl _, fun k hk => h.block k (Or.inl hk)⟩
structure NumBox (w : World) (R2 Rs R : Nat) : Prop where
  r2 : ∃ cs f, w.heap[R2]? = some (.cells cs 82 f)
  rs : ∃ cs f, w.heap[Rs]? = some (.cells cs 59 f)
  r : ∃ cs f, w.heap[R]? = some (.cells cs 82 f)
theorem NumSt.own4 {base : Nat} {w w' : World} {R2 B2 Rs R B : Nat} {g : List (Int × Int)} {ids : List Int} (h : NumSt w R2 B2 Rs R B g ids) (hb : NumBox w R2 Rs R) (k : Own4 base w w') : NumSt w' R2 B2 Rs R B g ids := by
  obtain ⟨cs2, f2, h2⟩ := hb.r2
  obtain ⟨css, fs, hs⟩ := hb.rs
  obtain ⟨cs, f, hr⟩ := hb.r
  obtain ⟨D, hM, hD⟩ := h.num.map
  obtain ⟨D', hM', hD'⟩ := h.gone.map
  exact ⟨⟨k.cell (a := ⟨R2, 0, none⟩) h2 (by decide) h.num.cell, D, k.map hM, hD⟩, k.cell (a := ⟨Rs, 0, none⟩) hs (by decide) h.st, ⟨k.cell (a := ⟨R, 0, none⟩) hr (by decide) h.gone.cell, ⟨D', k.map hM', hD'⟩, h.gone.ok, h.gone.fit⟩⟩
set_option maxRecDepth 100000 in
theorem number_any {R2 B2 Rs R B : Nat} {g : List (Int × Int)} {ids : List Int} (w : World) (h : NumSt w R2 B2 Rs R B g ids) (v : Int) (hv : Fit2 v) :
    Calls Tryd.prog 31 #[.int .i64 v, .pointer (some ⟨R2, 0, none⟩), .pointer (some ⟨Rs, 0, none⟩)] w fun e w' => e = .returned (.int .i64 (newI g ids v)) ∧ ∃ d, w' = w.drewN d := by
  by_cases hn : v = -1
  · have e : newI g ids v = -1 := by unfold newI; rw [if_pos hn]
    have ev : (v == -1) = true := by simpa using hn
    rw [e]
    clear hn e h
    go_enter Tryd.func31, Tryd.ntmps31
    go_wp2
    go_ret
    exact ⟨rfl, 0, rfl⟩
  · have ev : (v == -1) = false := by simpa using hn
    have HCS := fun m => stands_any2 (w.drewN m) (h.gone.below ⟨rfl, rfl, rfl, Nat.le_refl _, fun _ _ => rfl⟩) v hv
    have hfs := stG_fit h.gone.fit hv
    have e : newI g ids v = if stG g v ∈ ids then ((ids.idxOf (stG g v) : Nat) : Int) else 0 := by unfold newI; rw [if_neg hn]
    have wfs := hfs.wf
    have c2 := h.num.cell
    have cs := h.st
    obtain ⟨D, hM, hD⟩ := h.num.map
    have hlk : ∀ m, (Instr.lookup 82 (.map (some B2)) (.int .i64 (stG g v)) false).run Tryd.prog (w.drewN m) = .ok (.int .i64 (newI g ids v)) (w.drewN m) := fun m => by
      have hM' : MapAt (w.drewN m) B2 ids.length D := hM
      obtain ⟨c, h1, h2, -⟩ := hM'.lookup_int mlaw Tryd.underlying82 Tryd.underlying3 (zero_int _) (Maps.keyOf_int_mk Tryd.underlying3 wfs)
      rw [h1, e]
      by_cases hm : stG g v ∈ ids
      · rw [hD.key _ hm] at h2
        rw [if_pos hm]
        have : ((ids.idxOf (stG g v) : Nat) : Int) = c := by simpa using h2
        rw [this]
      · rw [if_neg hm]
        have hh := hD.has (stG g v)
        rw [decide_eq_false hm] at hh
        rw [Maps.atKey_of_not_has hh] at h2
        have : (0 : Int) = c := by simpa using h2
        rw [this]
    clear hn e hM hD h hfs wfs
    generalize newI g ids v = NV at *
    generalize stG g v = SV at *
    go_enter Tryd.func31, Tryd.ntmps31
    go_wp2
    go_quiet ((go_at_call 50; exact (HCS _).mono fun _ _ h => ⟨h.1, _, h.2⟩))
    go_wp2
    go_ret
    exact ⟨rfl, _, rfl⟩
theorem drewN_two (w : World) (a b : Nat) : (w.drewN a).drewN b = w.drewN (a + b) := by
  simp only [World.drewN, Nat.add_assoc]
theorem setCell_drewN (w : World) (d : Nat) (a : Addr) (v : Value) : (w.drewN d).setCell a v = (w.setCell a v).drewN d := by
  rfl
def setInts (w : World) (q : Nat) : Nat → List Int → World
  | _, [] => w
  | off, z :: zs => setInts (w.setCell ⟨q, off, none⟩ (.int .i64 z)) q (off + 1) zs
theorem setInts_snoc (q : Nat) (z : Int) : ∀ (zs : List Int) (off : Nat) (w : World), setInts w q off (zs ++ [z]) = (setInts w q off zs).setCell ⟨q, off + zs.length, none⟩ (.int .i64 z)
  | [], off, w => rfl
  | y :: zs, off, w => by
    rw [List.cons_append, setInts, setInts_snoc q z zs (off + 1), setInts, List.length_cons, Nat.add_assoc, Nat.add_comm 1 zs.length]
def RenPost (w : World) (base q off : Nat) (l : List Int) (N : Int → Int) (e : Ending) (w' : World) : Prop := e = .returned (.tuple #[]) ∧ (∃ d, w' = (setInts w q off (l.map N)).drewN d) ∧ Own4 base w w'
set_option maxRecDepth 100000 in
set_option maxHeartbeats 1000000 in
theorem renumber_any {base q off n cap t R2 Rs : Nat} (w : World) (l : List Int) (N : Int → Int) (ao : Option Addr) (cs : Array Value) (hq : base ≤ q) (ht : t = 74 ∨ t = 86 ∨ t = 90 ∨ t = 3) (hl : l.length = n) (hn : n ≤ 100000) (ha : 0 < n → ao = some ⟨q, off, none⟩) (hrow : 0 < n → w.heap[q]? = some (.cells cs t (0, 0))) (hc : ∀ j, j < n → cs[off + j]? = some (.int .i64 (l.getD j 0)))
    (hf : ∀ z ∈ l, Fit2 z)
    (HN : ∀ W, Own4 base w W → ∀ v, Fit2 v → Calls Tryd.prog 31 #[.int .i64 v, .pointer (some ⟨R2, 0, none⟩), .pointer (some ⟨Rs, 0, none⟩)] W fun e w' => e = .returned (.int .i64 (N v)) ∧ ∃ d, w' = W.drewN d) :
    Calls Tryd.prog 32 #[.slice ao n cap, numberV R2 Rs] w (RenPost w base q off l N) := by
  have HP : Hid (∀ e w', (e = .returned (.tuple #[]) ∧ (∃ d, w' = (setInts w q off (l.map N)).drewN d) ∧ Own4 base w w') → RenPost w base q off l N e w') := fun e w' h => h
  have HA : Hid (0 < n → ao = some ⟨q, off, none⟩) := ha
  have HQ : Hid (base ≤ q) := hq
  have HT : Hid (t = 74 ∨ t = 86 ∨ t = 90 ∨ t = 3) := ht
  have HL : Hid (l.length = n) := hl
  have HF : Hid (∀ j, j < n → Fit2 (l.getD j 0)) := fun j hj => hf _ (by rw [List.getD, List.getElem?_eq_getElem (by omega)]; exact List.getElem_mem _)
  have HR : Hid (0 < n → w.heap[q]? = some (.cells cs t (0, 0))) := hrow
  have HC : Hid (∀ j, j < n → cs[off + j]? = some (.int .i64 (l.getD j 0))) := hc
  have HNN : Hid (∀ W, Own4 base w W → ∀ v, Fit2 v → Calls Tryd.prog 31 #[.int .i64 v, .pointer (some ⟨R2, 0, none⟩), .pointer (some ⟨Rs, 0, none⟩)] W fun e w' => e = .returned (.int .i64 (N v)) ∧ ∃ d, w' = W.drewN d) := HN
  have hnI : (n : Int) ≤ 100000 := by omega
  clear ha hq ht hl hf hrow hc HN
  go_enter Tryd.func32, Tryd.ntmps32
  go_upto_region 1 with fail
  go_loopw [8] (fun i wr => ∃ (k d : Nat) (cs' : Array Value), k ≤ n ∧ i = .int .i64 k ∧ wr = (setInts w q off ((l.take k).map N)).drewN d ∧ (0 < n → wr.heap[q]? = some (.cells cs' t (0, 0))) ∧ (∀ j, k ≤ j → j < n → cs'[off + j]? = some (.int .i64 (l.getD j 0))) ∧ Own4 base w wr) (fun i _ => n - (intOf i).toNat)
  case atStart => exact ⟨0, 0, cs, Nat.zero_le _, rfl, rfl, HR.out, fun j _ hj => HC.out j hj, Own4.refl _ _⟩
  case round =>
    obtain ⟨k, d, cs', hk, rfl, hw, hrow, hcs, ho⟩ := hrel
    have HW : Hid (wr = (setInts w q off ((l.take k).map N)).drewN d) := hw
    have HCS : Hid (∀ j, k ≤ j → j < n → cs'[off + j]? = some (.int .i64 (l.getD j 0))) := hcs
    have HO : Hid (Own4 base w wr) := ho
    clear hw hcs ho
    by_cases hlt : k < n
    · have hkI : (k : Int) < (n : Int) := by omega
      obtain rfl := HA.out (by omega)
      have hrk := hrow (by omega)
      have cq : wr.cell? ⟨q, off + k, none⟩ = some (.int .i64 (l.getD k 0)) := by rw [cell_of_row _ _ _ _ _ _ hrk]; exact HCS.out k (Nat.le_refl _) hlt
      have fq : wr.frozen? ⟨q, off + k, none⟩ = false := frozen_of_row _ _ _ _ _ hrk
      have hcall := HNN.out wr HO.out _ (HF.out k hlt)
      have HRK : Hid (wr.heap[q]? = some (.cells cs' t (0, 0))) := hrk
      have HV : Hid (N (l.getD k 0) = N (l.getD k 0)) := rfl
      obtain ⟨v, hv⟩ : ∃ v, v = l.getD k 0 := ⟨_, rfl⟩
      have HVE : Hid (v = l.getD k 0) := hv
      rw [← hv] at hcall cq
      clear hrow hrk hv HV
      go_wp2_with (go_at_call 31; refine hcall.mono ?_; rintro e w2 ⟨rfl, d2, hw2⟩; have cq2 : w2.cell? ⟨q, off + k, none⟩ = some (.int .i64 v) := (by rw [hw2]; exact cq); have fq2 : w2.frozen? ⟨q, off + k, none⟩ = false := (by rw [hw2]; exact fq); have HW2 : Hid (w2 = wr.drewN d2) := hw2; clear hw2)
      go_roundw
      case rel =>
        have hrow2 : w2.heap[q]? = some (.cells cs' t (0, 0)) := by rw [HW2.out]; exact HRK.out
        have hsame := heap_setCell_same w2 q (off + k) _ _ (.int .i64 (N v)) hrow2
        have hO2 : Own4 base w2 (w2.setCell ⟨q, off + k, none⟩ (.int .i64 (N v))) := by
          refine Own4.of_gb (q := q) ⟨rfl, rfl, rfl, by simp, fun i hi hne => heap_setCell_other _ _ _ _ (by show i ≠ q; simpa using hne)⟩ (by simp) HQ.out hrow2 HT.out
        refine ⟨k + 1, d + d2, cs'.setIfInBounds (off + k) (.int .i64 (N v)), by omega, by go_num, ?_, fun _ => hsame, fun j hj hjn => ?_, HO.out.trans ((by rw [HW2.out]; exact Own4.drewN _ _ _ : Own4 base wr w2).trans hO2)⟩
        · have hkl : k < l.length := by rw [HL.out]; exact hlt
          have e1 : (l.take (k + 1)).map N = (l.take k).map N ++ [N v] := by
            rw [List.take_succ_eq_append_getElem hkl, List.map_append, HVE.out, List.getD, List.getElem?_eq_getElem hkl]; rfl
          rw [e1, setInts_snoc, HW2.out, HW.out, List.length_map, List.length_take, Nat.min_eq_left (by omega), drewN_two]
          exact setCell_drewN _ _ _ _
        · rw [Array.getElem?_setIfInBounds_ne (by omega)]
          exact HCS.out j (by omega) hjn
      case measure => simp [intOf]; omega
    · obtain rfl : k = n := by omega
      have HE : Hid (wr = (setInts w q off (l.map N)).drewN d) := by
        show _ = _
        have := HW.out
        rw [List.take_of_length_le (by rw [HL.out]; exact Nat.le_refl _)] at this
        exact this
      go_wp2
      go_end0
      exact HP.out _ _ ⟨rfl, ⟨d, HE.out⟩, HO.out⟩
end Go.Proofs.YtldbmdgpdolaaaaDoor
namespace Go.Proofs.YtldbmdgpdolaaaaDoor
open Go Go.RowKit

theorem i64s_app (a b : List Int) : i64s (a ++ b) = i64s a ++ i64s b := by simp [i64s]
theorem slots_setInts {base t m : Nat} {VV : Nat → Value} {NN : Nat → Nat} {k q c : Nat} (hk : k < m) (hq : VV k = .slice (some ⟨q, 0, none⟩) (NN k) c) : ∀ (zs : List Int) (pre post : List Int) (XX : Nat → List Value) (w : World), SlotsT w base t 1 m VV NN XX → XX k = i64s (pre ++ post) → post.length = zs.length → SlotsT (setInts w q pre.length zs) base t 1 m VV NN (upd XX k (i64s (pre ++ zs))) ∧ w.grownBy (setInts w q pre.length zs) (some q)
  | [], pre, post, XX, w, h, hx, hl => by
    obtain rfl := List.length_eq_zero_iff.1 hl
    refine ⟨?_, gb_refl _ _⟩
    rw [← hx, upd_self]; exact h
  | z :: zs, pre, post, XX, w, h, hx, hl => by
    obtain ⟨y, post', rfl⟩ : ∃ y post', post = y :: post' := by
      cases post with
      | nil => cases hl
      | cons y p => exact ⟨y, p, rfl⟩
    obtain ⟨s1, s2⟩ := h.store hk hq pre.length (.int .i64 z)
    have e : (XX k).set pre.length (.int .i64 z) = i64s ((pre ++ [z]) ++ post') := by
      rw [hx, i64s_app, List.set_append_right _ _ (by simp [i64s])]
      simp [i64s]
    have := slots_setInts hk hq zs (pre ++ [z]) post' (upd XX k ((XX k).set pre.length (.int .i64 z))) _ s1 (by rw [upd_same, e]) (by simpa using hl)
    rw [List.length_append, List.length_singleton] at this
    have e2 : upd (upd XX k ((XX k).set pre.length (.int .i64 z))) k (i64s (pre ++ [z] ++ zs)) = upd XX k (i64s (pre ++ z :: zs)) := by
      funext j
      by_cases e : j = k
      · subst e; simp [upd_same]
      · simp [upd_other _ e]
    rw [e2] at this
    exact ⟨this.1, gb_trans s2 this.2⟩
theorem PartsAt.congr {w : World} {base g n : Nat} {D D' : PDat} {L : PLay} (h : PartsAt w base g n D L) (hb : ∀ b, b < n → D.bk b = D'.bk b ∧ D.ph b = D'.ph b ∧ D.ins b = D'.ins b ∧ D.rg b = D'.rg b) (ha : ∀ s, s < 12 * n → D.ar s = D'.ar s) : PartsAt w base g n D' L := by
  refine ⟨?_, fun b hbn => by rw [← (hb b hbn).2.2.2]; exact h.rlen b hbn, h.phis.congr fun i hi => ⟨rfl, by rw [(hb i hi).2.1], by rw [(hb i hi).2.1]⟩, h.ins.congr fun i hi => ⟨rfl, by rw [(hb i hi).2.2.1], by rw [(hb i hi).2.2.1]⟩, h.args.congr fun i hi => ⟨rfl, by rw [ha i hi], by rw [ha i hi]⟩, fun b hbn p hp => ?_⟩
  · have e : gC (pC D L) n = gC (pC D' L) n := gC_same fun i hi => by
      obtain ⟨e1, -, -, e2⟩ := hb i hi
      show partC _ _ _ _ = partC _ _ _ _
      rw [e1, e2]
    rw [← e]; exact h.row
  · rw [← (hb b hbn).2.1] at hp
    obtain ⟨h1, h2⟩ := h.fit b hbn p hp
    exact ⟨h1, by rw [← ha _ (by omega)]; exact h2⟩
def RegsD (n : Nat) (PH : Nat → List PhiD) : Prop := ∀ b, b < n → (PH b).Pairwise (fun p q => p.reg ≠ q.reg)
theorem reg_inj {ps : List PhiD} (h : ps.Pairwise (fun p q => p.reg ≠ q.reg)) {i j : Nat} (hi : i < ps.length) (hj : j < ps.length) (e : ps[i].reg = ps[j].reg) : i = j := by
  rcases Nat.lt_trichotomy i j with h1 | h1 | h1
  · exact absurd e (List.pairwise_iff_getElem.1 h i j hi hj h1)
  · exact h1
  · exact absurd e.symm (List.pairwise_iff_getElem.1 h j i hj hi h1)
theorem PartsAt.setArgs {w : World} {base g n : Nat} {D : PDat} {L : PLay} (h : PartsAt w base g n D L) (hd : RegsD n D.ph) {b k q c : Nat} (hb : b < n) (hk : k < (D.ph b).length) (hq : L.va (12 * b + (D.ph b)[k].reg) = .slice (some ⟨q, 0, none⟩) (D.ph b)[k].args.length c) (zs : List Int) (hl : zs.length = (D.ph b)[k].args.length) :
    PartsAt (setInts w q 0 zs) base g n { D with ph := upd D.ph b ((D.ph b).set k ⟨(D.ph b)[k].reg, (D.ph b)[k].id, zs⟩), ar := upd D.ar (12 * b + (D.ph b)[k].reg) zs } L ∧ w.grownBy (setInts w q 0 zs) (some q) := by
  obtain ⟨f1, f2⟩ := h.fit b hb _ (List.getElem_mem hk)
  have hs : 12 * b + (D.ph b)[k].reg < 12 * n := by omega
  obtain ⟨r1, r2⟩ := slots_setInts hs (NN := fun s => (D.ar s).length) (q := q) (c := c) (by rw [hq]; simp only [f2]) zs [] (D.ar (12 * b + (D.ph b)[k].reg)) _ w h.args rfl (by rw [f2, hl])
  have r2 : w.grownBy (setInts w q 0 zs) (some q) := r2
  have hty : ∀ q' cs t, some q = some q' → w.heap[q']? = some (.cells cs t (0, 0)) → t = 3 := fun q' cs t e hh => own_type (h.args.own _ hs) (by show (L.va _).ownBlock = _; rw [hq]; exact e) hh
  refine ⟨⟨h.row.kept r2 ?_, h.rlen, (h.phis.keptT r2 (fun q' cs e hh => absurd (hty q' cs _ e hh) (by decide))).congr (fun i hi => ⟨rfl, ?_, ?_⟩), h.ins.keptT r2 (fun q' cs e hh => absurd (hty q' cs _ e hh) (by decide)), r1.congr (fun i _ => ⟨rfl, ?_, ?_⟩), ?_⟩, r2⟩
  · right
    intro e
    rcases h.row.2 with ⟨e2, -⟩ | ⟨q', cap, cur, e2, -, hh, -⟩
    · cases e2
    · obtain ⟨rfl, -⟩ : g = q' ∧ n = cap := by simpa using e2
      exact absurd (hty g cur _ e.symm hh) (by decide)
  · by_cases e : i = b
    · subst e; simp [upd_same]
    · simp [upd_other _ e]
  · by_cases e : i = b
    · subst e
      simp only [upd_same]
      apply List.ext_getElem?
      intro j
      have e2 := flat_set (phC_len L.va i) (D.ph i) k 0 hk ⟨(D.ph i)[k].reg, (D.ph i)[k].id, zs⟩ (.int .i64 ((D.ph i)[k].reg : Int)) (by omega) rfl
      rw [← e2]
      have e3 := flat_set (phC_len L.va i) (D.ph i) k 0 hk (D.ph i)[k] (.int .i64 ((D.ph i)[k].reg : Int)) (by omega) rfl
      rw [List.set_getElem_self] at e3
      rw [e3]
    · simp [upd_other _ e]
  · by_cases e : i = 12 * b + (D.ph b)[k].reg
    · subst e; simp only [upd_same]; rw [f2, hl]
    · simp [upd_other _ e]
  · by_cases e : i = 12 * b + (D.ph b)[k].reg
    · subst e; simp [upd_same]
    · simp [upd_other _ e]
  · intro i hi p hp
    have hp : p ∈ upd D.ph b ((D.ph b).set k ⟨(D.ph b)[k].reg, (D.ph b)[k].id, zs⟩) i := hp
    show p.reg < 12 ∧ upd D.ar (12 * b + (D.ph b)[k].reg) zs (12 * i + p.reg) = p.args
    by_cases e : i = b
    · subst e
      rw [upd_same] at hp
      obtain ⟨j, hj, rfl⟩ := List.mem_iff_getElem.1 hp
      rw [List.length_set] at hj
      rw [List.getElem_set]
      by_cases e2 : k = j
      · rw [if_pos e2]; exact ⟨f1, upd_same _ _ _⟩
      · rw [if_neg e2]
        obtain ⟨g1, g2⟩ := h.fit i hi _ (List.getElem_mem hj)
        refine ⟨g1, ?_⟩
        rw [upd_other _ (fun e3 => e2 (reg_inj (hd i hi) hk hj (by omega)))]; exact g2
    · rw [upd_other _ e] at hp
      obtain ⟨g1, g2⟩ := h.fit i hi _ hp
      exact ⟨g1, by rw [upd_other _ (by omega)]; exact g2⟩
theorem PartsAt.setRegs {base g n b : Nat} {L : PLay} (hb : b < n) : ∀ (zs pre post : List Int) (D : PDat) (w : World), PartsAt w base g n D L → D.rg b = pre ++ post → post.length = zs.length → PartsAt (setInts w g (b * 15 + 3 + pre.length) zs) base g n { D with rg := upd D.rg b (pre ++ zs) } L ∧ w.grownBy (setInts w g (b * 15 + 3 + pre.length) zs) (some g)
  | [], pre, post, D, w, h, hx, hl => by
    obtain rfl := List.length_eq_zero_iff.1 hl
    refine ⟨?_, gb_refl _ _⟩
    rw [← hx, upd_self]; exact h
  | z :: zs, pre, post, D, w, h, hx, hl => by
    obtain ⟨y, post', rfl⟩ : ∃ y post', post = y :: post' := by
      cases post with
      | nil => cases hl
      | cons y p => exact ⟨y, p, rfl⟩
    have hr := h.rlen b hb
    rw [hx, List.length_append, List.length_cons] at hr
    obtain ⟨s1, s2⟩ := h.setReg hb (r := pre.length) (by omega) z
    have e : (D.rg b).set pre.length z = (pre ++ [z]) ++ post' := by rw [hx, List.set_append_right _ _ (by simp)]; simp
    have := PartsAt.setRegs hb zs (pre ++ [z]) post' _ _ s1 (by show upd D.rg b _ b = _; rw [upd_same, e]) (by simpa using hl)
    rw [List.length_append, List.length_singleton, ← Nat.add_assoc] at this
    refine ⟨?_, gb_trans s2 this.2⟩
    refine this.1.congr (fun i _ => ⟨rfl, rfl, rfl, ?_⟩) (fun _ _ => rfl)
    show upd (upd D.rg b _) b _ i = upd D.rg b _ i
    by_cases e : i = b
    · subst e; simp [upd_same]
    · simp [upd_other _ e]
def phN (N : Int → Int) (p : PhiD) : PhiD := ⟨p.reg, N p.id, p.args.map N⟩
def insN (N : Int → Int) (x : InsD) : InsD := ⟨x.op, N x.id, N x.a, N x.b, x.imm, x.pc⟩
def mixL {α : Type} (f : α → α) (k : Nat) (l : List α) : List α := (l.take k).map f ++ l.drop k
theorem mixL_len {α : Type} (f : α → α) (k : Nat) (l : List α) : (mixL f k l).length = l.length := by simp [mixL]; omega
theorem mixL_zero {α : Type} (f : α → α) (l : List α) : mixL f 0 l = l := by simp [mixL]
theorem mixL_all {α : Type} (f : α → α) (l : List α) : mixL f l.length l = l.map f := by simp [mixL]
theorem mixL_get {α : Type} (f : α → α) {k : Nat} {l : List α} (hk : k < l.length) : (mixL f k l)[k]'(by rw [mixL_len]; exact hk) = l[k] := by
  unfold mixL
  rw [List.getElem_append_right (by simp; omega)]
  simp [Nat.min_eq_left (Nat.le_of_lt hk)]
theorem mixL_set {α : Type} (f : α → α) {k : Nat} {l : List α} (hk : k < l.length) : (mixL f k l).set k (f l[k]) = mixL f (k + 1) l := by
  unfold mixL
  have e : ((l.take k).map f).length = k := by simp; omega
  rw [List.set_append_right _ _ (by rw [e]; exact Nat.le_refl _), e, Nat.sub_self, List.drop_eq_getElem_cons hk, List.set_cons_zero, List.take_succ_eq_append_getElem hk]
  simp only [List.map_append, List.map_cons, List.map_nil, List.append_assoc, List.cons_append, List.nil_append]
def renD (N : Int → Int) (b : Nat) (D : PDat) (ar : Nat → List Int) : PDat :=
  ⟨D.bk, fun i => if i < b then (D.ph i).map (phN N) else D.ph i, fun i => if i < b then (D.ins i).map (insN N) else D.ins i, fun i => if i < b then (D.rg i).map N else D.rg i, ar⟩
structure FitD (n : Nat) (D : PDat) : Prop where
  ph : ∀ b, b < n → ∀ p ∈ D.ph b, Fit2 p.id ∧ ∀ a ∈ p.args, Fit2 a
  ins : ∀ b, b < n → ∀ x ∈ D.ins b, Fit2 x.id ∧ Fit2 x.a ∧ Fit2 x.b
  rg : ∀ b, b < n → ∀ z ∈ D.rg b, Fit2 z
theorem upd_upd {α : Type} (g : Nat → α) (i : Nat) (x y : α) : upd (upd g i x) i y = upd g i y := by
  funext j
  by_cases e : j = i
  · rw [e, upd_same, upd_same]
  · rw [upd_other _ e, upd_other _ e, upd_other _ e]
theorem regsD_set {n : Nat} {PH : Nat → List PhiD} (h : RegsD n PH) {b k : Nat} (hk : k < (PH b).length) {p : PhiD} (hp : p.reg = (PH b)[k].reg) : RegsD n (upd PH b ((PH b).set k p)) := by
  intro i hi
  by_cases e : i = b
  · subst e
    rw [upd_same]
    have e : ((PH i).set k p).map (·.reg) = (PH i).map (·.reg) := by
      rw [List.map_set, hp]
      have : ((PH i).map (·.reg))[k]'(by simpa using hk) = (PH i)[k].reg := by simp
      rw [← this, List.set_getElem_self]
    have h1 : ((PH i).map (·.reg)).Pairwise (· ≠ ·) := List.pairwise_map.2 (h i hi)
    rw [← e] at h1
    exact List.pairwise_map.1 h1
  · rw [upd_other _ e]; exact h i hi
end Go.Proofs.YtldbmdgpdolaaaaDoor
