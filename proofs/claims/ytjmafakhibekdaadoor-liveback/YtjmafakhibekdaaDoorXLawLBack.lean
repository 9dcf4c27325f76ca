/- The walk of tierlinekeep.LiveBack: at all raw numbers it says true, and nothing that was there has turned. -/
import Derived.Test.YtjmafakhibekdaaDoorXBlockFacts
import Derived.Test.YtjmafakhibekdaaDoorXFlowFace
import Derived.Test.YtjmafakhibekdaaDoorXRightRaw
namespace Go.Proofs.YtjmafakhibekdaaDoor
open Go Go.RowKit

/-- LiveSpec is a fixed point: what is live ahead of a place, by what is live behind it. -/
theorem spec_mk {P : List Fn} {f : Fn} {L : List Int} (h : LiveSpec P f L) {q : Nat} (hq : q < f.code.length) (hw : Way f 63 q) : L.getD q 0 = ((mkL L q : Nat) : Int) ∧ mkL L q < 4096 ∧ ∀ r, r < 12 → ((mkL L q).testBit r = true ↔ LiveW P f r q) := by
  rcases h.2 q hq with ⟨hn, _⟩ | ⟨_, m, hm, e, hb⟩
  · exact absurd hw hn
  · have em : mkL L q = m := by unfold mkL; rw [e]; rfl
    rw [em]
    exact ⟨e, hm, hb⟩
theorem spec_want_lt {P : List Fn} {f : Fn} (ok : FlowOk P f) {L : List Int} (h : LiveSpec P f L) {q : Nat} (hq : q < f.code.length) (hw : Way f 63 q) : wantL L (behind (insD f q) q) < 4096 :=
  want_lt L _ fun _ ht => (spec_mk h (ok.on hq hw ht).2 (ok.on hq hw ht).1).2.1
theorem spec_ahead {P : List Fn} {f : Fn} (ok : FlowOk P f) {L : List Int} (h : LiveSpec P f L) {q : Nat} (hq : q < f.code.length) (hw : Way f 63 q) : mkL L q = aheadL P f L q := by
  obtain ⟨-, h2, h3⟩ := spec_mk h hq hw
  have hwl := spec_want_lt ok h hq hw
  have hal : aheadL P f L q < 4096 := Nat.or_lt_two_pow (n := 12) (rdMask_lt12 (ok.insD hq).1) (Nat.lt_of_le_of_lt (lessM_le _ _ (by omega)) hwl)
  apply Nat.eq_of_testBit_eq
  intro r
  by_cases hr : r < 12
  · rw [Bool.eq_iff_iff, h3 r hr, ahead_bit _ _ _ _ _ (by omega)]
    constructor
    · intro hl
      cases hl with
      | read _ h1 => exact Or.inl h1
      | @on _ u _ hs ht hw2 => exact Or.inr ⟨hs, u, ht, ((spec_mk h (ok.on hq hw ht).2 (ok.on hq hw ht).1).2.2 r hr).2 hw2⟩
    · rintro (h1 | ⟨hs, u, ht, hw2⟩)
      · exact LiveW.read hq h1
      · exact LiveW.on hq hs ht (((spec_mk h (ok.on hq hw ht).2 (ok.on hq hw ht).1).2.2 r hr).1 hw2)
  · rw [Nat.testBit_lt_two_pow (Nat.lt_of_lt_of_le h2 (pow12 (by omega))), Nat.testBit_lt_two_pow (Nat.lt_of_lt_of_le hal (pow12 (by omega)))]
/-- What is wanted behind a block, by the blocks behind it. -/
def wnt (L : List Int) (S : List Nat) (zs : List Int) : Nat := wantL L (zs.map fun z => S.getD z.toNat 0)
theorem wnt_next (L : List Int) (S : List Nat) (zs : List Int) (z : Int) : wnt L S (zs ++ [z]) = wnt L S zs ||| mkL L (S.getD z.toNat 0) := by
  unfold wnt wantL
  rw [List.map_append, List.foldl_append]
  rfl
theorem wnt_all {P : List Fn} {f : Fn} (ok : FlowOk P f) {L : List Int} {S : List Nat} {T : Nat → Nat} (h : BlkOk f S T) {i : Nat} (hi : i < S.length) : wnt L S (nxI f S (T i)) = wantL L (behind (insD f (T i - 1)) (T i - 1)) := by
  have hS : ∀ q, q ∈ behind (insD f (T i - 1)) (T i - 1) → S.getD (((rank S q : Nat) : Int)).toNat 0 = q := fun q hq => by
    have hm := (h.ends i hi).leads ok h.starts (h.starts.reach ok (List.getElem_mem hi)).1 hq
    obtain ⟨h1, h2⟩ := rank_lt h.starts.rises hm
    have h2 := h2 h1
    rw [Int.toNat_natCast]
    simpa [List.getD, h1] using h2
  apply Nat.eq_of_testBit_eq
  intro r
  unfold wnt
  rw [Bool.eq_iff_iff, want_bit, want_bit]
  constructor
  · rintro ⟨t, ht, hb⟩
    obtain ⟨z, hz, rfl⟩ := List.mem_map.1 ht
    obtain ⟨q, hq, rfl⟩ := (nxI_mem f S (T i) z).1 hz
    rw [hS q hq] at hb
    exact ⟨q, hq, hb⟩
  · rintro ⟨q, hq, hb⟩
    exact ⟨q, List.mem_map.2 ⟨_, (nxI_mem f S (T i) _).2 ⟨q, hq, rfl⟩, hS q hq⟩, hb⟩
theorem wnt_lt {P : List Fn} {f : Fn} (ok : FlowOk P f) {L : List Int} (hL : LiveSpec P f L) {S : List Nat} {T : Nat → Nat} (h : BlkOk f S T) {i : Nat} (hi : i < S.length) (j : Nat) : wnt L S ((nxI f S (T i)).take j) < 4096 := by
  unfold wnt
  refine want_lt L _ fun t ht => ?_
  obtain ⟨z, hz, rfl⟩ := List.mem_map.1 ht
  obtain ⟨q, hq, rfl⟩ := (nxI_mem f S (T i) z).1 (List.mem_of_mem_take hz)
  have hm := (h.ends i hi).leads ok h.starts (h.starts.reach ok (List.getElem_mem hi)).1 hq
  obtain ⟨h1, h2⟩ := rank_lt h.starts.rises hm
  have h2 := h2 h1
  have e : S.getD (((rank S q : Nat) : Int)).toNat 0 = q := by
    rw [Int.toNat_natCast]; simpa [List.getD, h1] using h2
  have hr := h.starts.reach ok hm
  rw [e]
  exact (spec_mk hL hr.2 hr.1).2.1
/-- The program's own numbers. -/
theorem spec_bits {P : List Fn} {f : Fn} (ok : FlowOk P f) {L : List Int} (h : LiveSpec P f L) {q : Nat} (hq : q < f.code.length) (hw : Way f 63 q) :
    bits .or .i64 (bits .andNot .i64 ((wantL L (behind (insD f q) q) : Nat) : Int) ((setMask (insD f q) : Nat) : Int)) ((rdMask P (insD f q) : Nat) : Int) = ((mkL L q : Nat) : Int) := by
  have h1 := spec_want_lt ok h hq hw
  have h2 := rdMask_lt12 (ok.insD hq).1
  have h3 : setMask (insD f q) < 65536 := setMask_lt (ok.insD hq).1
  have h4 := lessM_le (wantL L (behind (insD f q) q)) (setMask (insD f q)) (by omega)
  rw [lessM_int _ _ (by omega) h3, bits_or_nat _ _ (by omega) (by omega), spec_ahead ok h hq hw, aheadL, Nat.or_comm]

set_option maxHeartbeats 8000000 in
set_option maxRecDepth 100000 in
theorem liveBack_walk (l : List Fn) (v : Value) (fn : Int) (w : World) (ht : TabOk w) (hc : CallOk w) (hv : ProgVal w v l) (hwf : ∀ f ∈ l, f.wf) (hfn : I64 fn) :
    Calls Tryd.prog 9 #[v, .int .i64 fn] w fun e w' => e = .returned (.bool true) ∧ Below w.heap.size w w' := by
  have hSh := program_raw l v w ht hc hv hwf
  obtain ⟨aol, nl, capl, rfl⟩ := hv.shape
  have HT : Hid (TabOk w) := ht
  have HCO : Hid (CallOk w) := hc
  clear hv hwf ht hc
  go_enter Tryd.func9, Tryd.ntmps9
  go_upto_region 2 with (go_at_call 13; refine hSh.mono ?_; rintro e w1 ⟨v1, P, us, rfl, hpi, hbt, hb1⟩; have hp1 := hbt.prog; have hcp := progIs_code hpi; obtain ⟨hn1, hn4, -⟩ := codeProg_zero hcp; obtain ⟨k, hk, ek⟩ := pick_some fn P.length hn1; obtain ⟨b, off, cap, u, rfl, d0, d1, d2, hcv, hm, hcc⟩ := prog_fn hp1 hk)
  have hRi := progIs_ans hpi
  have OK : Hid (FlowOk P P[k]) := flowOk_of hRi (List.getElem_mem hk)
  have hl1 := OK.out.ok.len1
  have hl2 := OK.out.ok.len2
  have hfe := fnErr_ok hcp hk
  have hca : codeAt P k = P[k].code := by simp [codeAt, List.getD, hk]
  have HBL : Hid (∀ W, Below w1.heap.size w1 W → Calls Tryd.prog 15 #[.agg #[.slice (some ⟨b, off, none⟩) P.length cap], .int .i64 k] W fun e w' => ∃ g S T VV LL, e = .returned (.tuple #[.slice (some ⟨g, 0, none⟩) S.length S.length, .int .i64 0]) ∧ BlocksAt w' W.heap.size g P[k] S T VV LL ∧ W.heap.size ≤ g ∧ Below W.heap.size W w') := fun W hb => Blocks_right P hRi k hk _ W ((HT.out.below hb1).below hb) ((HCO.out.below hb1).below hb) (hp1.keeps (keeps_below hb))
  have HLI : Hid (∀ W, Below w1.heap.size w1 W → Calls Tryd.prog 18 #[.agg #[.slice (some ⟨b, off, none⟩) P.length cap], .int .i64 k] W fun e w' => ∃ v' L, e = .returned (.tuple #[v', .int .i64 0]) ∧ LiveSpec P P[k] L ∧ IntsVal w' v' L ∧ Below W.heap.size W w') := fun W hb => Live_right P hRi k hk _ W ((HT.out.below hb1).below hb) ((HCO.out.below hb1).below hb) (hp1.keeps (keeps_below hb))
  have HRD : Hid (∀ q, q < P[k].code.length → ∀ W, Below w1.heap.size w1 W → Calls Tryd.prog 19 #[.agg #[.slice (some ⟨b, off, none⟩) P.length cap], .int .i64 k, .int .i64 q] W fun e w' => e = .returned (.tuple #[.int .i64 (rdMask P (insD P[k] q)), .int .i64 (setMask (insD P[k] q)), .int .i64 0]) ∧ Below W.heap.size W w') := fun q hq W hb => by
    have := reads_ok P (.slice (some ⟨b, off, none⟩) P.length cap) k q W ((HT.out.below hb1).below hb) ((HCO.out.below hb1).below hb) (hp1.keeps (keeps_below hb)) hfe (by rw [hca]; exact hq)
    have e : insAtP P k q = insD P[k] q := by unfold insAtP insD; rw [hca]
    rw [e] at this; exact this
  obtain ⟨ao2, b2, off2, n, cap2, rfl, ⟨hlen2, haddr2, hat2⟩, hcap2, hmx2⟩ := hcv
  obtain rfl := haddr2 (by omega)
  have HIN : Hid (∀ W, Below w1.heap.size w1 W → ∀ q, q < n → W.cell? ⟨b2, off2 + q * 5, none⟩ = some (.int .i64 (insD P[k] q).op)) := fun W hW q hq => by
    have hqf : q < P[k].code.length := by rw [hlen2]; exact hq
    rw [insD_eq hqf]
    exact keeps_below hW _ _ (hat2 q hqf).1
  have HB1 : Hid (Below w.heap.size w w1) := hb1
  have hz1 := hb1.size
  have hkI : (k : Int) < P.length := by omega
  have hcc2 := hcap2.1
  have HN : Hid (P[k].code.length = n) := hlen2
  clear hfe hRi hpi hcp hbt hp1 hb1 hSh hca hat2 haddr2 hcap2
  rw [hlen2] at hl1 hl2
  generalize P[k] = f at *
  clear hlen2
  unfold maxLen at hmx2
  have d0' := fun o => cell_alloc d0 o
  have d1' := fun o => cell_alloc d1 o
  have t2 := fun o => cell_alloc d2 o
  generalize hNN : P.length = N at *
  clear hNN
  obtain ⟨fp, fr, fc⟩ := f
  dsimp only at *
  go_upto_region 8 with (first
    | (go_at_call 14; refine (picked_any _ _ _ hfn (by omega) (by omega)).mono ?_; rintro e w' ⟨rfl, hw'⟩; replace hw' := hw'.symm; subst hw')
    | (go_at_call 18; refine (HLI.out _ ((Below.refl _ _).alloc (Nat.le_refl _) _)).mono ?_; rintro e w2 ⟨v2, L, rfl, hL, hI2, hb2⟩; obtain ⟨ao3, b3, off3, n3, cap3, rfl, hl3, ha3, hc3, hcp3, hm3⟩ := ints_get hI2; rw [hL.1, HN.out] at hl3; subst hl3; obtain rfl := ha3 (by omega); have q0 := keeps_below hb2 ⟨w1.heap.size, 0, none⟩ (.slice (some ⟨b, off, none⟩) N cap) (by simp); have q2 := keeps_below hb2 _ _ (t2 _); have HC3 : Hid (∀ q, q < n → w2.cell? ⟨b3, off3 + q, none⟩ = some (.int .i64 (L.getD q 0))) := hc3; have HB2 : Hid (Below w1.heap.size w1 w2) := ((Below.refl _ _).alloc (Nat.le_refl _) _).trans (hb2.mono (by simp)); have HL : Hid (LiveSpec P ⟨fp, fr, fc⟩ L) := hL; clear hL hI2 ha3 hc3 hb2)
    | (go_at_call 15; refine (HBL.out _ HB2.out).mono ?_; rintro e w3 ⟨g, S, T, VV, LL, rfl, hB, hgw, hb3⟩; have r0 := keeps_below hb3 _ _ q0; have r2 := keeps_below hb3 _ _ q2; obtain ⟨hk0, -⟩ := hB.starts.first; have hk0I : ((S.length : Int) == 0) = false := beq_eq_false_iff_ne.2 (by omega)))
  have HBA : Hid (BlocksAt w3 _ g ⟨fp, fr, fc⟩ S T VV LL) := hB
  have HB3 : Hid (Below w1.heap.size w1 w3) := HB2.out.trans (hb3.mono HB2.out.size)
  have HW3 : Hid (Below w.heap.size w w3) := HB1.out.trans (HB3.out.mono hz1)
  have HC4 : Hid (∀ W, Below w3.heap.size w3 W → ∀ q, q < n → W.cell? ⟨b3, off3 + q, none⟩ = some (.int .i64 (L.getD q 0))) := fun W hW q hq => keeps_below hW _ _ (keeps_below hb3 _ _ (HC3.out q hq))
  have HR0 : Hid (w3.cell? ⟨w1.heap.size, 0, none⟩ = some (.slice (some ⟨b, off, none⟩) N cap)) := r0
  have hkn : S.length ≤ 1000 := by
    have h1 := starts_len OK.out HBA.out.starts
    have h2 : (⟨fp, fr, fc⟩ : Fn).code.length = n := HN.out
    omega
  have HCL : Hid (∀ W, Below w3.heap.size w3 W → ∀ i, i < S.length → W.cell? ⟨g, i * 4, none⟩ = some (.int .i64 ((S.getD i 0 : Nat) : Int)) ∧ W.cell? ⟨g, i * 4 + 1, none⟩ = some (.int .i64 ((T i : Nat) : Int)) ∧ W.cell? ⟨g, i * 4 + 2, none⟩ = some (VV (2 * i))) := fun W hW i hi => by
    have h := (HBA.out.below hW).cells i hi
    refine ⟨?_, h.2.1, h.2.2.1⟩
    rw [h.1]; simp [List.getD, hi]
  have HMI : Hid (∀ i, i < S.length → S.getD i 0 < T i ∧ T i ≤ n) := fun i hi => by
    have h := HBA.out.ends i hi
    have e : S.getD i 0 = S[i] := by simp [List.getD, hi]
    rw [e]
    exact ⟨h.lt, by rw [← HN.out]; exact h.le⟩
  have HIB : Hid (∀ i, i < S.length → ∀ q, S.getD i 0 ≤ q → q < T i → Way ⟨fp, fr, fc⟩ 63 q ∧ L.getD q 0 = ((mkL L q : Nat) : Int) ∧ (q ≠ T i - 1 → wantL L (behind (insD ⟨fp, fr, fc⟩ q) q) = mkL L (q + 1)) ∧ bits .or .i64 (bits .andNot .i64 ((wantL L (behind (insD ⟨fp, fr, fc⟩ q) q) : Nat) : Int) ((setMask (insD ⟨fp, fr, fc⟩ q) : Nat) : Int)) ((rdMask P (insD ⟨fp, fr, fc⟩ q) : Nat) : Int) = ((mkL L q : Nat) : Int)) := fun i hi q h1 h2 => by
    have e : S.getD i 0 = S[i] := by simp [List.getD, hi]
    rw [e] at h1
    have hin : InBlk S T q i := ⟨hi, h1, h2⟩
    have hw := HBA.out.ok.reach OK.out hin
    have hq : q < (⟨fp, fr, fc⟩ : Fn).code.length := by have := (HMI.out i hi).2; rw [HN.out]; omega
    refine ⟨hw, (spec_mk HL.out hq hw).1, fun hne => ?_, spec_bits OK.out HL.out hq hw⟩
    rw [behind_on _ _ (HBA.out.ok.mid hin hne)]
    show 0 ||| mkL L (q + 1) = _
    rw [Nat.zero_or]
  have HNX : Hid (∀ i, i < S.length → ∃ (ao : Option Addr) (bn on nn cn : Nat), VV (2 * i) = .slice ao nn cn ∧ nn ≤ 2 ∧ nn ≤ cn ∧ (nxI ⟨fp, fr, fc⟩ S (T i)).length = nn ∧ (0 < nn → ao = some ⟨bn, on, none⟩) ∧ ∀ j, j < nn → ∃ z, z < S.length ∧ S.getD z 0 < n ∧ L.getD (S.getD z 0) 0 = ((mkL L (S.getD z 0) : Nat) : Int) ∧ (∀ W, Below w3.heap.size w3 W → W.cell? ⟨bn, on + j, none⟩ = some (.int .i64 (z : Int))) ∧ bits .or .i64 ((wnt L S ((nxI ⟨fp, fr, fc⟩ S (T i)).take j) : Nat) : Int) ((mkL L (S.getD z 0) : Nat) : Int) = ((wnt L S ((nxI ⟨fp, fr, fc⟩ S (T i)).take (j + 1)) : Nat) : Int)) := fun i hi => by
    obtain ⟨ao, bn, on, nn, cn, e1, e2, e3, e4, e5, -⟩ := ints_get (HBA.out.next i hi).1
    have h2 := nxI_len ⟨fp, fr, fc⟩ S (T i)
    refine ⟨ao, bn, on, nn, cn, e1, by omega, e5, e2, e3, fun j hj => ?_⟩
    have hjl : j < (nxI ⟨fp, fr, fc⟩ S (T i)).length := by omega
    obtain ⟨q, hq, ez⟩ := (nxI_mem ⟨fp, fr, fc⟩ S (T i) _).1 (List.getElem_mem hjl)
    have hm := (HBA.out.ends i hi).leads OK.out HBA.out.starts (HBA.out.starts.reach OK.out (List.getElem_mem hi)).1 hq
    obtain ⟨h3, h4⟩ := rank_lt HBA.out.starts.rises hm
    have h4 := h4 h3
    have hg : S.getD (rank S q) 0 = q := by simpa [List.getD, h3] using h4
    have hr := HBA.out.starts.reach OK.out hm
    have hd : (nxI ⟨fp, fr, fc⟩ S (T i)).getD j 0 = ((rank S q : Nat) : Int) := by rw [← ez]; simp [List.getD, hjl]
    have hml := spec_mk HL.out hr.2 hr.1
    have hwl := wnt_lt OK.out HL.out HBA.out.ok hi j
    refine ⟨rank S q, h3, by rw [hg, ← HN.out]; exact hr.2, by rw [hg]; exact hml.1, fun W hW => ?_, ?_⟩
    · rw [← hd]; exact keeps_below hW _ _ (e4 j hj)
    · have hlt2 := hml.2.1
      rw [List.take_add_one, List.getElem?_eq_getElem hjl, hg, bits_or_nat _ _ (by omega) (by omega), ez]
      show _ = ((wnt L S (_ ++ [((rank S q : Nat) : Int)]) : Nat) : Int)
      rw [wnt_next, Int.toNat_natCast, hg]
  have HWN : Hid (∀ i, i < S.length → wnt L S (nxI ⟨fp, fr, fc⟩ S (T i)) = wantL L (behind (insD ⟨fp, fr, fc⟩ (T i - 1)) (T i - 1))) := fun i hi => wnt_all OK.out HBA.out.ok hi
  have HW0 : Hid (∀ zs : List Int, wnt L S (zs.take 0) = 0) := fun _ => rfl
  have HRQ : Hid (∀ q, q < n → ∀ W, Below w3.heap.size w3 W → Calls Tryd.prog 19 #[.agg #[.slice (some ⟨b, off, none⟩) N cap], .int .i64 k, .int .i64 q] W fun e w' => e = .returned (.tuple #[.int .i64 (rdMask P (insD ⟨fp, fr, fc⟩ q)), .int .i64 (setMask (insD ⟨fp, fr, fc⟩ q)), .int .i64 0]) ∧ Below W.heap.size W w') := fun q hq W hW => HRD.out q (by rw [HN.out]; exact hq) W (HB3.out.trans (hW.mono HB3.out.size))
  clear hB hgw hb3 q0 q2 r0 r2 t2 d0' d1' d0 d1 d2 hk0I HBL HLI HRD HC3
  generalize S.length = K at *
  go_loopw [11] (fun i wr => ∃ q : Nat, q ≤ K ∧ i = .int .i64 q ∧ Below w3.heap.size w3 wr) (fun i _ => K - (intOf i).toNat)
  case atStart => exact ⟨0, Nat.zero_le _, rfl, Below.refl _ _⟩
  case round =>
    obtain ⟨i, hi, rfl, hbo⟩ := hrel
    rename World => wo
    have HBO : Hid (Below w3.heap.size w3 wo) := hbo
    clear hbo
    by_cases hlt : i < K
    · have hiI : (i : Int) < K := by omega
      obtain ⟨c0, -, -⟩ := HCL.out wo HBO.out i hlt
      obtain ⟨m1, m2⟩ := HMI.out i hlt
      obtain ⟨S0, hS0⟩ : ∃ S0, S0 = S.getD i 0 := ⟨_, rfl⟩
      have HS0 : Hid (S0 = S.getD i 0) := hS0
      rw [← hS0] at c0 m1
      obtain ⟨t, ht⟩ : ∃ t, t = T i := ⟨_, rfl⟩
      have HTI : Hid (t = T i) := ht
      rw [← ht] at m1 m2
      have HC1 : Hid (∀ W, Below w3.heap.size w3 W → W.cell? ⟨g, i * 4 + 1, none⟩ = some (.int .i64 (t : Int)) ∧ W.cell? ⟨g, i * 4 + 2, none⟩ = some (VV (2 * i))) := fun W hW => by
        have h := HCL.out W hW i hlt
        rw [HTI.out]
        exact h.2
      clear hS0 ht
      go_wp2
      clear c0
      go_loopw [12] (fun c wr => ∃ q : Nat, S0 ≤ q ∧ q ≤ t ∧ c = .int .i64 q ∧ Below w3.heap.size w3 wr) (fun c _ => t - (intOf c).toNat)
      case atStart => exact ⟨S0, Nat.le_refl _, by omega, rfl, HBO.out⟩
      case round =>
        obtain ⟨q, hq1, hq2, rfl, hbi⟩ := hrel
        rename World => wi
        have HBI : Hid (Below w3.heap.size w3 wi) := hbi
        have c0 := keeps_below hbi _ _ HR0.out
        clear hbi
        obtain ⟨c1, -⟩ := HC1.out wi HBI.out
        by_cases hqt : q < t
        · have hqI : (q : Int) < t := by omega
          have hqn : q < n := by omega
          have hqnI : (q : Int) < n := by omega
          obtain ⟨-, hlq, hwq, hfin⟩ := HIB.out i hlt q (by rw [← HS0.out]; exact hq1) (by rw [← HTI.out]; exact hqt)
          have HRR := HRQ.out q hqn wi HBI.out
          have HLQ : Hid (L.getD q 0 = ((mkL L q : Nat) : Int)) := hlq
          rw [← HTI.out] at hwq
          generalize ((rdMask P (insD ⟨fp, fr, fc⟩ q) : Nat) : Int) = RM at *
          generalize ((setMask (insD ⟨fp, fr, fc⟩ q) : Nat) : Int) = SM at *
          obtain ⟨q1, hq11⟩ : ∃ q1, q1 = q + 1 := ⟨_, rfl⟩
          have HQ1 : Hid (q1 = q + 1) := hq11
          have hw1 : IntKind.i64.wrap ((q : Int) + 1) = (q1 : Int) := by rw [show (q : Int) + 1 = q1 by omega]; exact wrap_signed _ (by omega) (by omega)
          by_cases hlast : q + 1 < t
          · rw [hwq (by omega), ← hq11] at hfin
            have hq1t : (q1 : Int) < t := by omega
            have hq1n : q1 < n := by omega
            have hq1nI : (q1 : Int) < n := by omega
            have hl1' := (HIB.out i hlt q1 (by rw [← HS0.out]; omega) (by rw [← HTI.out]; omega)).2.1
            clear hlq hwq hq11
            go_upto_region 21 with (go_at_call 19; refine HRR.mono ?_; rintro e w5 ⟨rfl, hb5⟩; have HB5 : Hid (Below w3.heap.size w3 w5) := HBI.out.trans (hb5.mono HBI.out.size); obtain ⟨c1b, -⟩ := HC1.out w5 HB5.out; have l1 := HC4.out w5 HB5.out q1 hq1n; have l0 := HC4.out w5 HB5.out q hqn; rw [hl1'] at l1; rw [HLQ.out] at l0)
            have hf2 : (((mkL L q : Nat) : Int) != bits .or .i64 (bits .andNot .i64 ((mkL L q1 : Nat) : Int) SM) RM) = false := by rw [hfin]; simp
            clear hfin HLQ
            generalize ((mkL L q : Nat) : Int) = x0 at *
            generalize ((mkL L q1 : Nat) : Int) = x1 at *
            go_wp2
            go_roundw
            case rel => have := HQ1.out; exact ⟨q1, by omega, by omega, rfl, HB5.out⟩
            case measure => have := HQ1.out; simp [intOf]; omega
          · have hqT : q = T i - 1 := by rw [← HTI.out]; omega
            have hq1t : decide ((q1 : Int) < t) = false := by simp only [decide_eq_false_iff_not]; omega
            have hq1t2 : ¬ q1 < t := by omega
            have hwn := HWN.out i hlt
            rw [← hqT] at hwn
            rw [← hwn] at hfin
            obtain ⟨ao, bn, on, nn, cn, ev, hn2, hnc, hnl, hao, hz⟩ := HNX.out i hlt
            have HZ : Hid (∀ j, j < nn → ∃ z, z < K ∧ S.getD z 0 < n ∧ L.getD (S.getD z 0) 0 = ((mkL L (S.getD z 0) : Nat) : Int) ∧ (∀ W, Below w3.heap.size w3 W → W.cell? ⟨bn, on + j, none⟩ = some (.int .i64 (z : Int))) ∧ bits .or .i64 ((wnt L S ((nxI ⟨fp, fr, fc⟩ S (T i)).take j) : Nat) : Int) ((mkL L (S.getD z 0) : Nat) : Int) = ((wnt L S ((nxI ⟨fp, fr, fc⟩ S (T i)).take (j + 1)) : Nat) : Int)) := hz
            have HAO : Hid (0 < nn → ao = some ⟨bn, on, none⟩) := hao
            have HFIN : Hid ((nxI ⟨fp, fr, fc⟩ S (T i)).length = nn ∧ bits .or .i64 (bits .andNot .i64 ((wnt L S (nxI ⟨fp, fr, fc⟩ S (T i)) : Nat) : Int) SM) RM = ((mkL L q : Nat) : Int)) := ⟨hnl, hfin⟩
            have HC2 : Hid (∀ W, Below w3.heap.size w3 W → W.cell? ⟨g, i * 4 + 2, none⟩ = some (.slice ao nn cn)) := fun W hW => by rw [← ev]; exact (HC1.out W hW).2
            have HWZ := HW0.out (nxI ⟨fp, fr, fc⟩ S (T i))
            have HWZH : Hid (wnt L S ((nxI ⟨fp, fr, fc⟩ S (T i)).take 0) = 0) := HWZ
            clear hlq hwq hq11 hqT hwn hfin hz hao hnl ev HWZ hlast
            go_upto_region 18 with (go_at_call 19; refine HRR.mono ?_; rintro e w5 ⟨rfl, hb5⟩; have HB5 : Hid (Below w3.heap.size w3 w5) := HBI.out.trans (hb5.mono HBI.out.size); obtain ⟨c1b, -⟩ := HC1.out w5 HB5.out)
            go_loopw [16, 17] (fun c i' wr => ∃ j : Nat, j ≤ nn ∧ i' = .int .i64 j ∧ c = .int .i64 ((wnt L S ((nxI ⟨fp, fr, fc⟩ S (T i)).take j) : Nat) : Int) ∧ Below w3.heap.size w3 wr) (fun _ i' _ => nn - (intOf i').toNat)
            case atStart => exact ⟨0, Nat.zero_le _, rfl, by rw [HWZH.out]; rfl, HB5.out⟩
            case round =>
              obtain ⟨j, hj, rfl, rfl, hbj⟩ := hrel
              have HBJ : Hid (Below w3.heap.size w3 wr) := hbj
              clear hbj
              have c2 := HC2.out wr HBJ.out
              by_cases hlj : j < nn
              · obtain ⟨z, z1, z2, z3, z4, z5⟩ := HZ.out j hlj
                obtain rfl := HAO.out (by omega)
                have hjI : (j : Int) < nn := by omega
                have cz := z4 wr HBJ.out
                obtain ⟨cf, -, -⟩ := HCL.out wr HBJ.out z z1
                have cl := HC4.out wr HBJ.out _ z2
                rw [z3] at cl
                have HZ5 : Hid (bits .or .i64 ((wnt L S ((nxI ⟨fp, fr, fc⟩ S (T i)).take j) : Nat) : Int) ((mkL L (S.getD z 0) : Nat) : Int) = ((wnt L S ((nxI ⟨fp, fr, fc⟩ S (T i)).take (j + 1)) : Nat) : Int)) := z5
                have z1I : (z : Int) < K := by omega
                clear z3 z4 z5
                generalize mkL L (S.getD z 0) = ml at *
                generalize S.getD z 0 = sz at *
                have z2I : (sz : Int) < n := by omega
                generalize hca : ((wnt L S ((nxI ⟨fp, fr, fc⟩ S (T i)).take j) : Nat) : Int) = ca at HZ5
                clear hca
                go_wp2
                go_roundw
                case rel => exact ⟨j + 1, by omega, by go_num, by rw [← HZ5.out], HBJ.out⟩
                case measure => simp [intOf]; omega
              · have e : (nxI ⟨fp, fr, fc⟩ S (T i)).take j = nxI ⟨fp, fr, fc⟩ S (T i) := List.take_of_length_le (by rw [HFIN.out.1]; omega)
                have l0 := HC4.out wr HBJ.out q hqn
                rw [HLQ.out] at l0
                have hf2 : (((mkL L q : Nat) : Int) != bits .or .i64 (bits .andNot .i64 ((wnt L S ((nxI ⟨fp, fr, fc⟩ S (T i)).take j) : Nat) : Int) SM) RM) = false := by rw [e, HFIN.out.2]; simp
                clear e
                generalize ((mkL L q : Nat) : Int) = x0 at l0 hf2
                generalize ((wnt L S ((nxI ⟨fp, fr, fc⟩ S (T i)).take j) : Nat) : Int) = x1 at *
                go_wp2
                go_roundw
                case rel => have := HQ1.out; exact ⟨q1, by omega, by omega, rfl, HBJ.out⟩
                case measure => have := HQ1.out; simp [intOf]; omega
        · go_wp2
          go_roundw
          case rel => exact ⟨i + 1, by omega, by go_num, HBI.out⟩
          case measure => simp [intOf]; omega
    · go_wp2
      go_ret
      exact ⟨rfl, HW3.out.trans (HBO.out.mono HW3.out.size)⟩
end Go.Proofs.YtjmafakhibekdaaDoor
