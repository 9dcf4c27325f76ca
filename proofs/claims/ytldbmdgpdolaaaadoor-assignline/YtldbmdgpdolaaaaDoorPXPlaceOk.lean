import Derived.Test.YtldbmdgpdolaaaaDoorPXPlaceClash
import Derived.Test.YtldbmdgpdolaaaaDoorPXSsaBuild
import Derived.Test.YtldbmdgpdolaaaaDoorPXBrief
import Derived.Test.YtldbmdgpdolaaaaDoorPGroupL
namespace Go.Proofs.YtldbmdgpdolaaaaDoor
open Go Go.RowKit

theorem newI_none (g : List (Int × Int)) (ids : List Int) : newI g ids (-1) = -1 := if_pos rfl
theorem newI_ne {g : List (Int × Int)} {ids : List Int} {v : Int} (h : v ≠ -1) : newI g ids v ≠ -1 := fun e => by
  have := (newI_there g ids v).2 h
  omega
section
variable {P : List Fn} {f : Fn} {S : List Nat} {T : Nat → Nat} {L : List Int} {pn : Nat} {g : List (Int × Int)} {D : PDat}
theorem SsaIs.insLen (h : SsaIs P f S T L pn g D) (ar : Nat → List Int) {b : Nat} (hb : b < S.length) : ((finD pn S.length g D ar).ins b).length = T b - S.getD b 0 := by
  rw [finD_ins _ _ _ _ _ hb, List.length_map, h.left.ins b hb, insL_len]
theorem SsaIs.insEq (h : SsaIs P f S T L pn g D) (ar : Nat → List Int) {b j : Nat} (hb : b < S.length) (hj : j < T b - S.getD b 0) : ((finD pn S.length g D ar).ins b).getD j noIns = insN (newI g (idsD pn S.length D)) (insM P f (S.getD b 0 + j) (onR f (S.getD b 0) j (fromR f S T L b))) := by
  rw [finD_ins _ _ _ _ _ hb, h.left.ins b hb]
  generalize S.getD b 0 = s at *
  simp [List.getD, insL, hj]
theorem SsaIs.regT (h : SsaIs P f S T L pn g D) (ar : Nat → List Int) {b : Nat} (hb : b < S.length) : ∀ j, j ≤ T b - S.getD b 0 → Go.Proofs.YtldbmdgpdolaaaaDoor.regT f ((finD pn S.length g D ar).ins b) ((finD pn S.length g D ar).rg b) j = (onR f (S.getD b 0) j (wantR (mkL L (S.getD b 0)) (fromR f S T L b))).map (newI g (idsD pn S.length D))
  | 0, _ => by rw [Go.Proofs.YtldbmdgpdolaaaaDoor.regT, finD_rg _ _ _ _ _ hb, (h.part b hb).2]; rfl
  | j + 1, hj => by
    have ih := SsaIs.regT h ar hb j (by omega)
    rw [Go.Proofs.YtldbmdgpdolaaaaDoor.regT, h.insEq ar hb (by omega), ih, onR_snoc]
    unfold on1
    show (if newI g (idsD pn S.length D) (insM P f _ _).id = -1 then _ else List.set _ (Go.Proofs.YtldbmdgpdolaaaaDoor.insD f ((S.getD b 0 + j : Nat) : Int).toNat).dst.toNat (newI g (idsD pn S.length D) (insM P f _ _).id)) = _
    rw [insM_id, Int.toNat_natCast]
    by_cases hs : setsB (Go.Proofs.YtldbmdgpdolaaaaDoor.insD f (S.getD b 0 + j)).op = true
    · rw [if_pos hs, if_neg (newI_ne (by unfold madeI; omega)), if_pos hs, List.map_set]
    · rw [if_neg hs, if_pos (newI_none _ _), if_neg hs]
theorem onR_want (ok : FlowOk P f) (hB : BlkOk f S T) (hL : LiveSpec P f L) {b : Nat} (hb : b < S.length) {l : List Int} (hl : l.length = 12) {r : Nat} (hr : r < 12) : ∀ j, j < T b - S[b] → LiveW P f r (S[b] + j) → (onR f S[b] j (wantR (mkL L S[b]) l)).getD r 0 = (onR f S[b] j l).getD r 0
  | 0, _, hw => by
    show (wantR (mkL L S[b]) l).getD r 0 = l.getD r 0
    have hrc := hB.starts.reach ok (List.getElem_mem hb)
    rw [wantR_get _ _ hr]
    rcases hL.2 S[b] hrc.2 with ⟨h1, -⟩ | ⟨-, m, hm, e, hb2⟩
    · exact absurd hrc.1 h1
    · have : mkL L S[b] = m := by unfold mkL; rw [e]; rfl
      rw [this, if_pos ((hb2 r hr).2 hw)]
  | j + 1, hj, hw => by
    have hE := hB.ends b hb
    have hle := hE.le
    have hop := (hE.goes (S[b] + j + 1) (by omega) (by omega)).1
    rw [show S[b] + j + 1 - 1 = S[b] + j from rfl] at hop
    have hpc : S[b] + j < f.code.length := by omega
    have hio := (ok.insD hpc).1
    have hsb := set_bit (insD f (S[b] + j)) hio.dst0 r
    have hl2 := wantR_len (mkL L S[b]) l
    rw [onR_snoc, onR_snoc]
    unfold on1
    have hlive : (setMask (insD f (S[b] + j))).testBit r = false → LiveW P f r (S[b] + j) := fun h => LiveW.on hpc h (tq := S[b] + (j + 1)) (by rw [behind_on _ _ hop]; simp; omega) hw
    by_cases hs : setsB (insD f (S[b] + j)).op = true
    · rw [if_pos hs, if_pos hs]
      by_cases hd : (insD f (S[b] + j)).dst.toNat = r
      · rw [hd]
        simp only [List.getD, List.getElem?_set_self (show r < (onR f S[b] j (wantR (mkL L S[b]) l)).length by rw [onR_len]; omega), List.getElem?_set_self (show r < (onR f S[b] j l).length by rw [onR_len]; omega)]
      · have hn : ¬ (insD f (S[b] + j)).dst = (r : Int) := fun e => hd (by rw [e]; simp)
        simp only [List.getD, List.getElem?_set_ne hd]
        exact onR_want ok hB hL hb hl hr j (by omega) (hlive (by rw [hsb, hs]; simpa using hn))
    · rw [if_neg hs, if_neg hs]
      exact onR_want ok hB hL hb hl hr j (by omega) (hlive (by rw [hsb]; simp [Bool.not_eq_true] at hs; simp [hs]))
theorem raw_want {m : Nat} {l : List Int} (h : RawL pn f S T L l) : RawL pn f S T L (wantR m l) := fun r hr => by
  rw [wantR_get _ _ hr]
  split
  · exact h r hr
  · exact Or.inl rfl
theorem SsaIs.idsLen (h : SsaIs P f S T L pn g D) (ok : FlowOk P f) : (idsD pn S.length D).length ≤ 3000 := by
  have hn40 : S.length ≤ 40 := blocks40 ok h.ok
  have h40 := ok.ok.len2
  have hpn : pn ≤ 12 := by have := ok.ok.p2; rw [h.par] at this; omega
  show (idsTo pn D.ph D.ins S.length).length ≤ 3000
  have := idsTo_len pn (PH := D.ph) (IN := D.ins) (n := S.length) (fun b hb => Nat.le_trans (h.left.ph b hb).length_le (phi_len f S T L b)) (fun b hb => by rw [h.left.ins b hb, insL_len]; have := (h.ok.ends b hb).le; omega)
  omega
theorem SsaIs.walkOk (h : SsaIs P f S T L pn g D) (ok : FlowOk P f) (hU : ∀ q, q < f.code.length → Way f 63 q → ∀ r, r < 12 → (rdMask P (Go.Proofs.YtldbmdgpdolaaaaDoor.insD f q)).testBit r = true → ¬ Way f r q) (ar : Nat → List Int) {b : Nat} (hb : b < S.length) :
    WalkOk f L (idsD pn S.length D).length ((finD pn S.length g D ar).ins b) ((finD pn S.length g D ar).rg b) := by
  have eS : S.getD b 0 = S[b] := by simp [List.getD, hb]
  have hE := h.ok.ends b hb
  have hle := hE.le
  have hlt := hE.lt
  have hfr := fromR_is ok h.ok L hb
  have hl12 := hfr.len
  have hrlen : ((finD pn S.length g D ar).rg b).length = 12 := by rw [finD_rg _ _ _ _ _ hb, (h.part b hb).2, List.length_map, wantR_len]
  have hraw : ∀ j, S[b] + j ≤ T b → RawL pn f S T L (onR f S[b] j (wantR (mkL L S[b]) (fromR f S T L b))) := fun j hj => raw_on hb j _ _ (by rw [eS]; omega) (by omega) (wantR_len _ _) (raw_want (raw_from ok h.ok h.par hfr hb))
  have hval : ∀ j, j ≤ T b - S[b] → ∀ r, r < 12 → (onR f S[b] j (wantR (mkL L S[b]) (fromR f S T L b))).getD r 0 ≠ -1 → 0 ≤ (Go.Proofs.YtldbmdgpdolaaaaDoor.regT f ((finD pn S.length g D ar).ins b) ((finD pn S.length g D ar).rg b) j).getD r 0 ∧ (Go.Proofs.YtldbmdgpdolaaaaDoor.regT f ((finD pn S.length g D ar).ins b) ((finD pn S.length g D ar).rg b) j).getD r 0 < ((idsD pn S.length D).length : Int) := fun j hj r hr hne => by
    rw [h.regT ar hb j (by rw [eS]; exact hj), eS, getD_map _ _ 0 0 (by rw [onR_len, wantR_len]; exact hr)]
    exact ⟨(newI_there _ _ _).2 hne, newI_lt ((hraw j (by omega) r hr).imp id fun e => h.counted ok hU e)⟩
  have hmask : ∀ q, q < f.code.length → Way f 63 q → ∃ m : Nat, m < 4096 ∧ L.getD q 0 = (m : Int) ∧ ∀ r, r < 12 → (m.testBit r = true ↔ LiveW P f r q) := fun q hq hw => by
    rcases h.live.2 q hq with ⟨h1, -⟩ | ⟨-, m, hm, e, hb2⟩
    · exact absurd hw h1
    · exact ⟨m, hm, e, hb2⟩
  have hlive : ∀ j, j < T b - S[b] → ∀ r, r < 12 → LiveW P f r (S[b] + j) → (onR f S[b] j (wantR (mkL L S[b]) (fromR f S T L b))).getD r 0 ≠ -1 := fun j hj r hr hw => by
    rw [onR_want ok h.ok h.live hb hl12 hr j hj hw]
    exact onR_live ok h.ok hb hr hl12 (from_live ok hU h.ok h.live hfr hb r hr) j hj hw
  refine ⟨hrlen, fun j hj => ?_⟩
  rw [h.insLen ar hb, eS] at hj
  have hpc : S[b] + j < f.code.length := by omega
  have hway : Way f 63 (S[b] + j) := h.ok.reach ok ⟨hb, by omega, by omega⟩
  obtain ⟨m, hm4, hm, hmb⟩ := hmask _ hpc hway
  have hx := h.insEq ar hb (j := j) (by rw [eS]; exact hj)
  rw [eS] at hx
  refine ⟨S[b] + j, m, by rw [hx]; rfl, hpc, by rw [h.live.1]; exact hpc, hm, hm4, fun r hr hbit => hval j (by omega) r hr (hlive j hj r hr ((hmb r hr).1 hbit)), fun hid => ?_⟩
  have hio := (ok.insD hpc).1
  have hs : setsB (Go.Proofs.YtldbmdgpdolaaaaDoor.insD f (S[b] + j)).op = true := by
    refine Classical.byContradiction fun hs => hid ?_
    rw [hx]
    show newI _ _ (insM P f _ _).id = -1
    rw [insM_id, if_neg hs, newI_none]
  have hbeh : S[b] + j + 1 ∈ behind (Go.Proofs.YtldbmdgpdolaaaaDoor.insD f (S[b] + j)) (S[b] + j) := by
    unfold behind
    have h15 : ¬ (Go.Proofs.YtldbmdgpdolaaaaDoor.insD f (S[b] + j)).op = 15 := fun e => by rw [e] at hs; exact absurd hs (by decide)
    have h16 : ¬ (Go.Proofs.YtldbmdgpdolaaaaDoor.insD f (S[b] + j)).op = 16 := fun e => by rw [e] at hs; exact absurd hs (by decide)
    have h19 : ¬ (Go.Proofs.YtldbmdgpdolaaaaDoor.insD f (S[b] + j)).op = 19 := fun e => by rw [e] at hs; exact absurd hs (by decide)
    rw [if_neg h15, if_neg h16, if_neg h19]; simp
  obtain ⟨hw2, hl2⟩ := ok.on hpc hway hbeh
  obtain ⟨m2, hm24, hm2, hmb2⟩ := hmask _ hl2 hw2
  have hd0 := hio.dst0
  have hd1 := hio.dst1
  refine ⟨(Go.Proofs.YtldbmdgpdolaaaaDoor.insD f (S[b] + j)).dst.toNat, m2, by omega, by omega, by rw [h.live.1]; exact hl2, hm2, hm24, fun r hr hbit => ?_⟩
  refine hval (j + 1) (by omega) r hr ?_
  rw [onR_snoc]
  unfold on1
  rw [if_pos hs]
  by_cases hd : (Go.Proofs.YtldbmdgpdolaaaaDoor.insD f (S[b] + j)).dst.toNat = r
  · rw [hd]
    simp only [List.getD, List.getElem?_set_self (show r < (onR f S[b] j (wantR (mkL L S[b]) (fromR f S T L b))).length by rw [onR_len, wantR_len]; exact hr), Option.getD_some]
    unfold madeI; omega
  · simp only [List.getD, List.getElem?_set_ne hd]
    have hb2 : m2.testBit r = true := by
      rw [Nat.testBit_or, Bool.or_eq_true, Nat.testBit_two_pow] at hbit
      rcases hbit with h' | h'
      · exact h'
      · exact absurd (of_decide_eq_true h') hd
    refine hlive j hj r hr (LiveW.on hpc ?_ hbeh ((hmb2 r hr).1 hb2))
    rw [set_bit _ hio.dst0 r, hs]
    have hn : ¬ (Go.Proofs.YtldbmdgpdolaaaaDoor.insD f (S[b] + j)).dst = (r : Int) := fun e => hd (by rw [e]; simp)
    simpa using hn
end
end Go.Proofs.YtldbmdgpdolaaaaDoor
namespace Go.Proofs.YtldbmdgpdolaaaaDoor
open Go Go.RowKit

def clashL (f : Fn) (S : List Nat) (L : List Int) (pn : Nat) (g : List (Int × Int)) (D : PDat) (ar : Nat → List Int) : Nat → List Int := fun v => if v < (idsD pn S.length D).length then sortC (clT f L (finD pn S.length g D ar) S.length v) else []
def ClashPost (w : World) (P : List Fn) (f : Fn) (e : Ending) (w' : World) : Prop :=
  ∃ S T L, ∃ pn : Nat, ∃ g D ar, ∃ gC0 VV base, e = .returned (.tuple #[.slice (some ⟨gC0, 0, none⟩) (idsD pn S.length D).length (idsD pn S.length D).length, .int .i64 0]) ∧ SsaIs P f S T L pn g D ∧ MtAt w' base gC0 (idsD pn S.length D).length VV (clashL f S L pn g D ar) ∧ w.heap.size ≤ base ∧ Below w.heap.size w w' ∧ (idsD pn S.length D).length ≤ 3000 ∧ S.length ≤ 40
set_option maxRecDepth 100000 in
set_option maxHeartbeats 8000000 in
theorem Clash_right (P : List Fn) (hR : ProofAns P 0) (k : Nat) (hk : k < P.length) (v : Value) (w : World) (ht : TabOk w) (hc : CallOk w) (hv : ProgVal w v P) :
    Calls Tryd.prog 7 #[.agg #[v], .int .i64 k] w (ClashPost w P P[k]) := by
  have HPOST : Hid (∀ e w', (∃ S T L, ∃ pn : Nat, ∃ g D ar, ∃ gC0 VV base, e = .returned (.tuple #[.slice (some ⟨gC0, 0, none⟩) (idsD pn S.length D).length (idsD pn S.length D).length, .int .i64 0]) ∧ SsaIs P P[k] S T L pn g D ∧ MtAt w' base gC0 (idsD pn S.length D).length VV (clashL P[k] S L pn g D ar) ∧ w.heap.size ≤ base ∧ Below w.heap.size w w' ∧ (idsD pn S.length D).length ≤ 3000 ∧ S.length ≤ 40) → ClashPost w P P[k] e w') := fun e w' h => h
  have HFO : Hid (FlowOk P P[k]) := flowOk_of hR (List.getElem_mem hk)
  have HU : Hid (∀ q, q < P[k].code.length → Way P[k] 63 q → ∀ r, r < 12 → (rdMask P (insD P[k] q)).testBit r = true → ¬ Way P[k] r q) := right_reads hR (List.getElem_mem hk)
  have hB0 : (w.alloc (.cells #[v] 25)).heap[w.heap.size]? = some (.cells #[v] 25 (0, 0)) := heap_alloc_last _ _
  have hbx : Below w.heap.size w (w.alloc (.cells #[v] 25)) := (Below.refl _ _).alloc (Nat.le_refl _) _
  have HB0 : Hid (Below w.heap.size w (w.alloc (.cells #[v] 25))) := hbx
  have hbd := Build_right P hR k hk v _ (ht.below hbx) (hc.below hbx) (hv.keeps (keeps_below hbx))
  have HLV : Hid (∀ W, Below w.heap.size w W → Calls Tryd.prog 13 #[.agg #[v], .int .i64 k] W fun e w' => ∃ v' L, e = .returned (.tuple #[v', .int .i64 0]) ∧ LiveSpec P P[k] L ∧ IntsVal w' v' L ∧ Below W.heap.size W w') := fun W hW => Live_right P hR k hk v W (ht.below hW) (hc.below hW) (hv.keeps (keeps_below hW))
  obtain ⟨b, off, cap, u, rfl, -, -, d2, hcv, hmx, hcap⟩ := prog_fn hv hk
  have HCV : Hid (∀ W, Below w.heap.size w W → CodeVal W u P[k].code) := fun W hW => hcv.keeps (keeps_below hW)
  obtain ⟨ao2, b2, off2, n2, cap2, rfl, -⟩ := hcv
  have HD2 : Hid (∀ W, Below w.heap.size w W → W.cell? ⟨b, off + k * 3 + 2, none⟩ = some (.slice ao2 n2 cap2)) := fun W hW => keeps_below hW _ _ d2
  have hkI : (k : Int) < P.length := by omega
  have hkN : ¬ (k : Int) < 0 := by omega
  have hl1 := HFO.out.ok.len1
  have hl2 := HFO.out.ok.len2
  have HLL : Hid (0 < P[k].code.length ∧ P[k].code.length ≤ 1000) := ⟨by omega, by omega⟩
  clear hR ht hc hv hbx d2 hl1 hl2
  go_enter Tryd.func7, Tryd.ntmps7
  go_upto_region 1 with fail
  generalize (w.alloc (.cells #[.slice (some ⟨b, off, none⟩) P.length cap] 25)) = V at *
  have b0 : V.cell? ⟨w.heap.size, 0, none⟩ = some (.slice (some ⟨b, off, none⟩) P.length cap) := by rw [cell_of_row _ _ _ _ _ _ hB0]; rfl
  go_upto_region 2 with (go_at_call 8; refine hbd.mono ?_; rintro e w1 hp; obtain ⟨S, T, L, pn, g, D, ar, gp, Ly, rfl, his, hpa, hb1⟩ := hp)
  have HIS : Hid (SsaIs P P[k] S T L pn g D) := his
  have r7 : (w1.alloc (.cells #[.int .i64 (pn : Int), .int .i64 ((idsD pn S.length D).length : Int), .slice (some ⟨gp, 0, none⟩) S.length S.length] 34)).heap[w1.heap.size]? = some (.cells #[.int .i64 (pn : Int), .int .i64 ((idsD pn S.length D).length : Int), .slice (some ⟨gp, 0, none⟩) S.length S.length] 34 (0, 0)) := heap_alloc_last _ _
  have hbb : Below w1.heap.size w1 (w1.alloc (.cells #[.int .i64 (pn : Int), .int .i64 ((idsD pn S.length D).length : Int), .slice (some ⟨gp, 0, none⟩) S.length S.length] 34)) := (Below.refl _ _).alloc (Nat.le_refl _) _
  have hpa1 := hpa.below hbb
  have b1 := keeps_below hbb _ _ (keeps_below hb1 _ _ b0)
  have HBW : Hid (Below w.heap.size w (w1.alloc (.cells #[.int .i64 (pn : Int), .int .i64 ((idsD pn S.length D).length : Int), .slice (some ⟨gp, 0, none⟩) S.length S.length] 34))) := HB0.out.trans ((hb1.trans (hbb.mono hb1.size)).mono HB0.out.size)
  clear his hpa hb1 hbb b0 hB0 hbd HB0
  go_upto_region 4 with fail
  generalize (w1.alloc (.cells #[.int .i64 (pn : Int), .int .i64 ((idsD pn S.length D).length : Int), .slice (some ⟨gp, 0, none⟩) S.length S.length] 34)) = V1 at *
  generalize w1.heap.size = P7 at *
  have HPA : Hid (PartsAt V1 V.heap.size gp S.length (finD pn S.length g D ar) Ly) := hpa1
  have hlv := HLV.out V1 HBW.out
  clear hpa1
  go_upto_region 5 with (go_at_call 13; refine hlv.mono ?_; rintro e V4 hp; obtain ⟨v4, L4, rfl, hls, hiv, hb4⟩ := hp; obtain rfl := spec_unique hls HIS.out.live; obtain ⟨a4, -, -, n4, c4, rfl, -⟩ := ints_get hiv)
  have HBW4 : Hid (Below w.heap.size w V4) := HBW.out.trans (hb4.mono HBW.out.size)
  have r74 := (hb4.block _ (lt_of_block r7)).trans r7
  have b4 := keeps_below hb4 _ _ b1
  have d4 := HD2.out V4 HBW4.out
  have HN40 : Hid (S.length ≤ 40) := blocks40 HFO.out HIS.out.ok
  have HIDS : Hid ((idsD pn S.length D).length ≤ 3000) := by
    have := HIS.out.idsLen HFO.out
    show _ ≤ _
    omega
  have HLLEN : Hid (L4.length = P[k].code.length) := hls.1
  have HCLA : Hid (∀ W, Below V4.heap.size V4 W → Calls Tryd.prog 14 #[.agg #[.int .i64 (pn : Int), .int .i64 ((idsD pn S.length D).length : Int), .slice (some ⟨gp, 0, none⟩) S.length S.length], .slice ao2 n2 cap2, .slice a4 n4 c4] W fun e w' => ∃ g5 VV, e = .returned (.slice (some ⟨g5, 0, none⟩) (idsD pn S.length D).length (idsD pn S.length D).length) ∧ MtAt w' W.heap.size g5 (idsD pn S.length D).length VV (clashL P[k] S L4 pn g D ar) ∧ Below W.heap.size W w') := fun W hW =>
    clashes_any P[k] L4 (idsD pn S.length D).length S.length pn gp V.heap.size (finD pn S.length g D ar) Ly _ _ W ((HPA.out.below hb4).below hW) (HCV.out W (HBW4.out.trans (hW.mono HBW4.out.size))) (hiv.keeps (keeps_below hW)) HLL.out.1 HLL.out.2 HLLEN.out
      (fun b hb => HIS.out.walkOk HFO.out HU.out ar hb)
      (fun b hb => by rw [HIS.out.insLen ar hb]; have h1 := (HIS.out.ok.ends b hb).le; have h2 := HFO.out.ok.len2; omega) HN40.out HIDS.out
  have infoSL : (Tryd.prog.info? 34).map (·.size) = some ([.int .i64 (pn : Int), .int .i64 ((idsD pn S.length D).length : Int), .slice (some ⟨gp, 0, none⟩) S.length S.length] : List Value).length := infoSsa
  clear hls hiv hb4 hlv r7 b1 HPA HLV
  obtain ⟨SL, hSL⟩ : ∃ SL, SL = ([.int .i64 (pn : Int), .int .i64 ((idsD pn S.length D).length : Int), .slice (some ⟨gp, 0, none⟩) S.length S.length] : List Value) := ⟨_, rfl⟩
  rw [show (#[.int .i64 (pn : Int), .int .i64 ((idsD pn S.length D).length : Int), .slice (some ⟨gp, 0, none⟩) S.length S.length] : Array Value) = SL.toArray by rw [hSL]] at *
  rw [← hSL] at infoSL
  clear hSL
  refine wp_region_held_drew (S := fun W => Below V4.heap.size V4 W) (by kernel_rfl) ((Below.refl _ _).drew) (fun hHeld => ?_)
  show wpAnyH _ _ _ _ _ 11 _ _ _
  refine wpAnyH_take (i := 0) (v := .agg SL.toArray) rfl (by kernel_rfl) (by kernel_rfl) (by kernel_rfl) (fun _ _ _ h => h) (yieldsIf_load_mid (by rfl) 34 _ rfl P7 0 rfl SL _ (fun W hSW j u hu => by rw [cell_of_row _ _ _ _ _ _ ((hSW.block _ (lt_of_block r74)).trans r74)]; simpa using hu) Tryd.underlying34 rfl infoSL) (by assumption) ?_
  (try simp only [zB])
  (try simp only [zA])
  refine wpAnyH_take (i := 1) (v := ?_) rfl (by kernel_rfl) (by kernel_rfl) (by kernel_rfl) (fun _ _ _ h => h) (Or.inl ⟨by rfl, ?_⟩) (by assumption) ?_
  rotate_left
  · (intro W hSW; go_simp; try (with_reducible rfl))
  (try simp only [zB])
  (try simp only [zA])
  refine wpAnyH_take (i := 2) (v := ?_) rfl (by kernel_rfl) (by kernel_rfl) (by kernel_rfl) (fun _ _ _ h => h) (Or.inl ⟨by rfl, ?_⟩) (by assumption) ?_
  rotate_left
  · (intro W hSW; have z0 := keeps_below hSW _ _ b4; go_simp; try (with_reducible rfl))
  (try simp only [zB])
  (try simp only [zA])
  refine wpAnyH_take (i := 3) (v := ?_) rfl (by kernel_rfl) (by kernel_rfl) (by kernel_rfl) (fun _ _ _ h => h) (Or.inl ⟨by rfl, ?_⟩) (by assumption) ?_
  rotate_left
  · (intro W hSW; go_simp; try (with_reducible rfl))
  (try simp only [zB])
  (try simp only [zA])
  refine wpAnyH_take (i := 4) (v := ?_) rfl (by kernel_rfl) (by kernel_rfl) (by kernel_rfl) (fun _ _ _ h => h) (Or.inl ⟨by rfl, ?_⟩) (by assumption) ?_
  rotate_left
  · (intro W hSW; go_simp; try (with_reducible rfl))
  (try simp only [zB])
  (try simp only [zA])
  refine wpAnyH_take (i := 5) (v := ?_) rfl (by kernel_rfl) (by kernel_rfl) (by kernel_rfl) (fun _ _ _ h => h) (Or.inl ⟨by rfl, ?_⟩) (by assumption) ?_
  rotate_left
  · (intro W hSW; go_simp; try (with_reducible rfl))
  (try simp only [zB])
  (try simp only [zA])
  refine wpAnyH_take (i := 6) (v := ?_) rfl (by kernel_rfl) (by kernel_rfl) (by kernel_rfl) (fun _ _ _ h => h) (Or.inl ⟨by rfl, ?_⟩) (by assumption) ?_
  rotate_left
  · (intro W hSW; have z0 := keeps_below hSW _ _ d4; go_simp; try (with_reducible rfl))
  (try simp only [zB])
  (try simp only [zA])
  refine wpAnyH_take (i := 7) (v := ?_) rfl (by kernel_rfl) (by kernel_rfl) (by kernel_rfl) (fun _ _ _ h => h) (Or.inl ⟨by rfl, ?_⟩) (by assumption) ?_
  rotate_left
  · (intro W hSW; go_simp; try (with_reducible rfl))
  (try simp only [zB])
  (try simp only [zA])
  refine wpAnyH_ready (rs := [8]) (by kernel_rfl) (by simp) ?_
  refine AllReadyH.cons rfl (fun K hK => ?_) AllReadyH.nil
  go_simp
  go_at_call 14
  refine (HCLA.out _ hHeld).mono ?_
  rintro e w5 ⟨g5, VV, rfl, hmt, hbc⟩
  have HB5 : Below V4.heap.size V4 w5 := Below.trans hHeld (Below.mono hbc (Below.size hHeld))
  dsimp only
  refine hK.out _ _ HB5 (fun _ => ?_)
  clear hK K
  (try simp only [zA])
  refine wpAnyH_take (i := 9) (v := ?_) rfl (by kernel_rfl) (by kernel_rfl) (by kernel_rfl) (fun _ _ _ h => h) (Or.inl ⟨by rfl, ?_⟩) (by assumption) ?_
  rotate_left
  · (intro W hSW; go_simp; try (with_reducible rfl))
  (try simp only [zB])
  (try simp only [zA])
  refine wpAnyH_take (i := 10) (v := ?_) rfl (by kernel_rfl) (by kernel_rfl) (by kernel_rfl) (fun _ _ _ h => h) (Or.inl ⟨by rfl, ?_⟩) (by assumption) ?_
  rotate_left
  · (intro W hSW; go_simp; try (with_reducible rfl))
  (try simp only [zB])
  (try simp only [zA])
  refine wpAnyH_done (by kernel_rfl) ?_ _
  go_wp2
  go_ret2
  exact HPOST.out _ _ ⟨S, T, L4, pn, g, D, ar, g5, VV, _, rfl, HIS.out, hmt, by have := HBW4.out.size; have := hHeld.size; omega, HBW4.out.trans (HB5.mono HBW4.out.size), HIDS.out, HN40.out⟩
end Go.Proofs.YtldbmdgpdolaaaaDoor
namespace Go.Proofs.YtldbmdgpdolaaaaDoor
open Go Go.RowKit

theorem newI_at {g : List (Int × Int)} {A rest : List Int} {z : Int} (hz : z ≠ -1) (hg : ∀ q ∈ g, q.1 ≠ z) (hn : (A ++ z :: rest).Nodup) : newI g (A ++ z :: rest) z = (A.length : Int) := by
  have hnm : z ∉ A := fun h => by
    rw [List.nodup_append] at hn
    exact hn.2.2 z h z (by simp) rfl
  unfold newI
  rw [if_neg hz, stG_free hg, if_pos (by simp), List.idxOf_append, if_neg hnm, List.idxOf_cons_self]
  simp
theorem SsaIs.insOrd {P : List Fn} {f : Fn} {S : List Nat} {T : Nat → Nat} {L : List Int} {pn : Nat} {g : List (Int × Int)} {D : PDat} (h : SsaIs P f S T L pn g D) (ok : FlowOk P f) (hU : ∀ q, q < f.code.length → Way f 63 q → ∀ r, r < 12 → (rdMask P (insD f q)).testBit r = true → ¬ Way f r q) {b : Nat} (hb : b < S.length) {j : Nat} (hj : j < (D.ins b).length) :
    (((D.ins b)[j].id = -1 ∧ insTo (D.ins b) (j + 1) = insTo (D.ins b) j) ∨ (newI g (idsD pn S.length D) (D.ins b)[j].id = (((idsTo pn D.ph D.ins b).length + (D.ph b).length + (insTo (D.ins b) j).length : Nat) : Int) ∧ (insTo (D.ins b) (j + 1)).length = (insTo (D.ins b) j).length + 1)) := by
  by_cases hne : (D.ins b)[j].id = -1
  · left
    refine ⟨hne, ?_⟩
    rw [insTo_step hj, if_neg (by simp [hne])]; simp
  · right
    have hpf := phiFit_all ok hU h.ok h.live
    have hsv := SInv.settle (fun p hp a ha => ((hpf p hp).2 a ha).2) h.settle (SInv.new (phi_ids ok h.ok h.live))
    have hpn : pn ≤ 12 := by have := ok.ok.p2; rw [h.par] at this; omega
    obtain ⟨hnd, -⟩ := ids_ok ok h.ok h.live h.left hpn S.length (Nat.le_refl _)
    obtain ⟨rest, hrest⟩ := idsTo_ins (params := pn) (PH := D.ph) hb hj hne
    have hle := (h.ok.ends b hb).le
    have hid : ∃ pc : Nat, pc < 40 ∧ (D.ins b)[j].id = madeI pc := by
      have e : (D.ins b)[j] = insM P f (S.getD b 0 + j) (onR f (S.getD b 0) j (fromR f S T L b)) := by
        simp only [h.left.ins b hb]; simp [insL]
      have hl : (D.ins b).length = T b - S.getD b 0 := by rw [h.left.ins b hb, insL_len]
      rw [e, insM_id] at hne ⊢
      split at hne
      · rename_i hs
        exact ⟨S.getD b 0 + j, by have := ok.ok.len2; omega, by rw [if_pos hs]⟩
      · exact absurd rfl hne
    obtain ⟨pc, hpc, hid⟩ := hid
    have hg : ∀ q ∈ g, q.1 ≠ (D.ins b)[j].id := fun q hq e => by
      obtain ⟨p, hp, e2, -⟩ := hsv.1.went q hq
      obtain ⟨l, hl, hpl⟩ := List.mem_flatten.1 hp
      obtain ⟨b', hb', rfl⟩ := List.mem_map.1 hl
      obtain ⟨r, hr, -, -, -, e3, -⟩ := phi_form ok h.ok h.live (List.mem_range.1 hb') hpl
      rw [← e2, e3, hid] at e
      unfold phiI madeI at e
      omega
    constructor
    · unfold idsD
      rw [hrest] at hnd ⊢
      rw [newI_at hne hg hnd]
      simp only [List.length_append, List.length_map]
    · rw [insTo_step hj, if_pos hne]; simp
theorem idsTo_succ_len (pn : Nat) (PH : Nat → List PhiD) (IN : Nat → List InsD) (b : Nat) : (idsTo pn PH IN (b + 1)).length = (idsTo pn PH IN b).length + (PH b).length + (insTo (IN b) (IN b).length).length := by
  rw [idsTo, List.length_append, idsP, List.length_append, List.length_map]
  unfold insTo
  rw [List.take_length]
  omega
end Go.Proofs.YtldbmdgpdolaaaaDoor
namespace Go.Proofs.YtldbmdgpdolaaaaDoor
open Go Go.RowKit

theorem onR_pres {Q : Int → Prop} {f : Fn} (hQ : ∀ pc : Nat, pc < 40 → Q (madeI pc)) : ∀ (n pc : Nat) (l : List Int), pc + n ≤ 40 → (∀ r, r < 12 → Q (l.getD r 0)) → ∀ r, r < 12 → Q ((onR f pc n l).getD r 0)
  | 0, _, _, _, h => h
  | n + 1, pc, l, hp, h => by
    rw [onR]
    refine onR_pres hQ n (pc + 1) _ (by omega) fun r hr => ?_
    unfold on1
    split
    · by_cases e : (insD f pc).dst.toNat = r
      · subst e
        by_cases hl : (insD f pc).dst.toNat < l.length
        · rw [List.getD, List.getElem?_set_self hl]; exact hQ pc (by omega)
        · rw [List.set_eq_of_length_le (by omega)]; exact h _ hr
      · rw [List.getD, List.getElem?_set_ne e]; exact h r hr
    · exact h r hr
theorem pair_same {all : List PhiD} (h : all.Pairwise (fun p q => p.id ≠ q.id)) {p q : PhiD} (hp : p ∈ all) (hq : q ∈ all) (e : p.id = q.id) : p = q := by
  induction all with
  | nil => cases hp
  | cons a t ih =>
    obtain ⟨h1, h2⟩ := List.pairwise_cons.1 h
    rcases List.mem_cons.1 hp with e1 | hp1
    · rcases List.mem_cons.1 hq with e2 | hq1
      · rw [e1, e2]
      · rw [e1] at e; exact absurd e (h1 q hq1)
    · rcases List.mem_cons.1 hq with e2 | hq1
      · rw [e2] at e; exact absurd e.symm (h1 p hp1)
      · exact ih h2 hp1 hq1
theorem SsaIs.notSelf {P : List Fn} {f : Fn} {S : List Nat} {T : Nat → Nat} {L : List Int} {pn : Nat} {g : List (Int × Int)} {D : PDat} (h : SsaIs P f S T L pn g D) (ok : FlowOk P f) (hU : ∀ q, q < f.code.length → Way f 63 q → ∀ r, r < 12 → (rdMask P (insD f q)).testBit r = true → ¬ Way f r q) {b : Nat} (hb : b < S.length) {p : PhiD} (hp : p ∈ D.ph b) : ¬ ∀ a ∈ p.args, stG g a = p.id := by
  intro hself
  have hB := h.ok
  have hpf := phiFit_all ok hU h.ok h.live
  have hnd := phi_ids ok h.ok h.live
  obtain ⟨hsv, -⟩ := SInv.settle (fun p hp a ha => ((hpf p hp).2 a ha).2) h.settle (SInv.new hnd)
  have hall : ∀ {q : PhiD} {i : Nat}, i < S.length → q ∈ phiM f S T L i → q ∈ (phsOf (phiM f S T L) S.length).flatten := fun hi hq => List.mem_flatten.2 ⟨_, List.mem_map.2 ⟨_, List.mem_range.2 hi, rfl⟩, hq⟩
  have hpall := hall hb ((h.left.ph b hb).subset hp)
  have hprem : p ∈ (phsOf D.ph S.length).flatten := List.mem_flatten.2 ⟨_, List.mem_map.2 ⟨b, List.mem_range.2 hb, rfl⟩, hp⟩
  have hpfree : stG g p.id = p.id := stG_free (hsv.sub p hprem).2
  have hform : ∀ {q : PhiD}, q ∈ (phsOf (phiM f S T L) S.length).flatten → 52 ≤ q.id := fun hq => by
    obtain ⟨l, hl, hql⟩ := List.mem_flatten.1 hq
    obtain ⟨i, hi, rfl⟩ := List.mem_map.1 hl
    obtain ⟨r, -, -, -, -, e, -⟩ := phi_form ok h.ok h.live (List.mem_range.1 hi) hql
    rw [e]; unfold phiI; omega
  have hsmall : ∀ z : Int, z < 52 → stG g z ≠ p.id := fun z hz => by
    rw [stG_free (fun x hx => by
      obtain ⟨q, hq, e, -⟩ := hsv.went x hx
      have := hform hq
      omega)]
    have := hform hpall
    omega
  have hmade : ∀ pc : Nat, pc < 40 → stG g (madeI pc) ≠ p.id := fun pc hpc => hsmall _ (by unfold madeI; omega)
  -- what comes to a phi that stands for it stands for it
  have hclose : ∀ i, i < S.length → 1 < (prevs f S T i).length → ∀ r, r < 12 → (fromR f S T L i).getD r 0 ≠ -1 → stG g ((fromR f S T L i).getD r 0) = p.id → ∀ z ∈ prevs f S T i, stG g ((behR f S T L z).getD r 0) = p.id := by
    intro i hi hj r hr hne hz z hzp
    have hq : phi1 f S T L i r ∈ phiM f S T L i := by
      unfold phiM; rw [if_pos hj]; exact phiTo_mem.2 ⟨r, hr, hne, rfl⟩
    have hqa := hall hi hq
    have ha : (behR f S T L z).getD r 0 ∈ (phi1 f S T L i r).args := List.mem_map.2 ⟨z, hzp, rfl⟩
    have hid : (phi1 f S T L i r).id = (fromR f S T L i).getD r 0 := rfl
    rcases hsv.cov _ hqa with hr2 | ⟨x, hx, ex⟩
    · have e1 : stG g (phi1 f S T L i r).id = (phi1 f S T L i r).id := stG_free (hsv.sub _ hr2).2
      rw [hid] at e1
      have e2 := pair_same hnd hqa hpall (by rw [hid, ← e1]; exact hz)
      rw [← e2] at hself ⊢
      exact hself _ ha
    · obtain ⟨q, hqq, e1, e2⟩ := hsv.went x hx
      have e3 := pair_same hnd hqa hqq (by rw [e1, ex])
      rw [← e3] at e2
      rw [e2 _ ha, hid]; exact hz
  have key : ∀ pc, Way f 63 pc → ∀ i, InBlk S T pc i → ∀ r, r < 12 → stG g ((fromR f S T L i).getD r 0) ≠ p.id := by
    intro pc hw
    induction hw with
    | start _ =>
      intro i hi r hr hz
      obtain ⟨hl, h0⟩ := hB.starts.first
      have : i = 0 := by
        have h1 := hB.start hB.starts.zero
        rw [rank_zero] at h1
        exact hB.one hi h1
      subst this
      have hm : (-1 : Int) ∈ prevs f S T 0 := (prevs_mem _).2 (Or.inl ⟨rfl, rfl⟩)
      have hpar : stG g ((behR f S T L (-1)).getD r 0) ≠ p.id := by
        unfold behR
        rw [if_pos rfl, parR_get _ hr]
        exact hsmall _ (by split <;> omega)
      by_cases hj : 1 < (prevs f S T 0).length
      · refine hpar (hclose 0 hl hj r hr (fun e => ?_) hz _ hm)
        rw [e] at hz; exact hsmall _ (by omega) hz
      · rcases hpp : prevs f S T 0 with _ | ⟨a, t⟩
        · rw [hpp] at hm; simp at hm
        · cases t with
          | nil =>
            rw [hpp] at hm
            have e : a = -1 := (by simpa using hm : (-1 : Int) = a).symm
            rw [fromR_eq (.first (by rw [hpp, e]))] at hz
            unfold behR at hpar
            rw [if_pos rfl] at hpar
            exact hpar hz
          | cons c t => rw [hpp] at hj; simp at hj
    | @step pc q hpc hw _ ht ih =>
      intro i hi r hr hz
      obtain ⟨j, hj⟩ := hB.cover ok hw
      have ihj := ih j hj
      by_cases hl : pc = T j - 1
      · obtain ⟨hj', a1, a2⟩ := hj
        rw [hl] at ht
        have hq := (hB.ends j hj').leads ok hB.starts (hB.starts.reach ok (List.getElem_mem hj')).1 ht
        have e : i = rank S q := hB.one hi (hB.start hq)
        have hm := prevs_leads hB hj' ht
        rw [← e] at hm
        have hi' : i < S.length := hi.1
        have hE := hB.ends j hj'
        have eS : S.getD j 0 = S[j] := by simp [List.getD, hj']
        have hbeh : stG g ((onR f (S.getD j 0) (T j - S.getD j 0) (fromR f S T L j)).getD r 0) ≠ p.id := by
          refine onR_pres (Q := fun z => stG g z ≠ p.id) hmade _ _ _ ?_ ihj r hr
          have h1 := hE.le; have h2 := hE.lt; have h3 := ok.ok.len2
          omega
        have hbeh2 : stG g ((behR f S T L (j : Int)).getD r 0) ≠ p.id := by
          unfold behR
          rw [if_neg (by omega)]
          exact hbeh
        by_cases hjj : 1 < (prevs f S T i).length
        · refine hbeh2 (hclose i hi' hjj r hr (fun e => ?_) hz _ hm)
          rw [e] at hz; exact hsmall _ (by omega) hz
        · rcases hpp : prevs f S T i with _ | ⟨a, t⟩
          · rw [hpp] at hm; simp at hm
          · cases t with
            | nil =>
              rw [hpp] at hm
              have e : a = (j : Int) := (by simpa using hm : (j : Int) = a).symm
              rw [fromR_eq (.one (by rw [hpp, e]) (fromR_is ok hB L hj'))] at hz
              exact hbeh hz
            | cons c t => rw [hpp] at hjj; simp at hjj
      · have hop := hB.mid hj hl
        rw [behind_on _ _ hop] at ht
        have : q = pc + 1 := by simpa using ht
        subst this
        obtain ⟨hj', a1, a2⟩ := hj
        have : i = j := hB.one hi ⟨hj', by omega, by omega⟩
        subst this
        exact ihj r hr hz
  have hr := hB.starts.reach ok (List.getElem_mem hb)
  obtain ⟨r, hr12, -, e, -, -, -⟩ := phi_form ok h.ok h.live hb ((h.left.ph b hb).subset hp)
  have := key S[b] hr.1 b ⟨hb, Nat.le_refl _, (hB.ends b hb).lt⟩ r hr12
  apply this
  have e2 : p.id = (fromR f S T L b).getD r 0 := by rw [e]; rfl
  rw [← e2]; exact hpfree
theorem SsaIs.two {P : List Fn} {f : Fn} {S : List Nat} {T : Nat → Nat} {L : List Int} {pn : Nat} {g : List (Int × Int)} {D : PDat} (h : SsaIs P f S T L pn g D) (ok : FlowOk P f) (hU : ∀ q, q < f.code.length → Way f 63 q → ∀ r, r < 12 → (rdMask P (insD f q)).testBit r = true → ¬ Way f r q) {b : Nat} (hb : b < S.length) {p : PhiD} (hp : p ∈ D.ph b) : ∃ a ∈ p.args, ∃ c ∈ p.args, stG g a ≠ p.id ∧ stG g c ≠ p.id ∧ stG g a ≠ stG g c ∧ stG g p.id = p.id := by
  have hpf := phiFit_all ok hU h.ok h.live
  obtain ⟨hsv, hl⟩ := SInv.settle (fun p hp a ha => ((hpf p hp).2 a ha).2) h.settle (SInv.new (phi_ids ok h.ok h.live))
  have hprem : p ∈ (phsOf D.ph S.length).flatten := List.mem_flatten.2 ⟨_, List.mem_map.2 ⟨b, List.mem_range.2 hb, rfl⟩, hp⟩
  have hpall : p ∈ (phsOf (phiM f S T L) S.length).flatten := List.mem_flatten.2 ⟨_, List.mem_map.2 ⟨b, List.mem_range.2 hb, rfl⟩, (h.left.ph b hb).subset hp⟩
  have hlone := hl _ (List.mem_map.2 ⟨b, List.mem_range.2 hb, rfl⟩) p hp
  rcases loneG_none (fun a ha => stG_val hsv.val ((hpf p hpall).2 a ha).2) hlone with ⟨-, hs⟩ | ⟨a, ha, y, h1, h2, h3, h4⟩
  · exact absurd hs (h.notSelf ok hU hb hp)
  · rcases h4 with h4 | ⟨h4, c, hc, h5⟩
    · exact absurd h4 h3
    · exact ⟨a, ha, c, hc, h1, by rw [h5]; exact h4, by rw [h5]; exact fun e => h2 e.symm, stG_free (hsv.sub p hprem).2⟩
end Go.Proofs.YtldbmdgpdolaaaaDoor
