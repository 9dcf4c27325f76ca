/- Contract of ssa.At at right programs (written by gen/mkssaat.py). -/
import Derived.Test.YtdpaohmaafngkaaDoorXSsaAtS
namespace Go.Proofs.YtdpaohmaafngkaaDoor
open Go Go.RowKit

set_option maxRecDepth 100000 in
set_option maxHeartbeats 1000000 in
/-- renumber, over a box that is younger than what the closure stands on. -/
theorem renumberB_any {base q cap t R2 Rs : Nat} (w : World) (l : List Int) (N : Int → Int) (hq : base ≤ q) (hl : l.length = 12) (hrow : w.heap[q]? = some (.cells (i64s l).toArray t (0, 0))) (hf : ∀ r, r < 12 → Fit2 (l.getD r 0)) (_hbs : base ≤ w.heap.size)
    (HN : ∀ W, Below base w W → ∀ v, Fit2 v → Calls Tryd.prog 36 #[.int .i64 v, .pointer (some ⟨R2, 0, none⟩), .pointer (some ⟨Rs, 0, none⟩)] W fun e w' => e = .returned (.int .i64 (N v)) ∧ ∃ d, w' = W.drewN d) :
    Calls Tryd.prog 28 #[.slice (some ⟨q, 0, none⟩) 12 cap, numberV R2 Rs] w fun e w' => e = .returned (.tuple #[]) ∧ w'.heap[q]? = some (.cells (i64s (l.map N)).toArray t (0, 0)) ∧ Below base w w' := by
  have HQ : Hid (base ≤ q) := hq
  have HL : Hid (l.length = 12) := hl
  have HF : Hid (∀ r, r < 12 → Fit2 (l.getD r 0)) := hf
  have HR : Hid (w.heap[q]? = some (.cells (i64s l).toArray t (0, 0))) := hrow
  have HNN : Hid (∀ W, Below base w W → ∀ v, Fit2 v → Calls Tryd.prog 36 #[.int .i64 v, .pointer (some ⟨R2, 0, none⟩), .pointer (some ⟨Rs, 0, none⟩)] W fun e w' => e = .returned (.int .i64 (N v)) ∧ ∃ d, w' = W.drewN d) := HN
  have HML : Hid ((l.map N).length = 12) := by show _ = _; rw [List.length_map]; exact hl
  clear hq hl hf hrow HN
  go_enter Tryd.func28, Tryd.ntmps28
  go_upto_region 1 with fail
  go_loopw [8] (fun i wr => ∃ k : Nat, k ≤ 12 ∧ i = .int .i64 k ∧ wr.heap[q]? = some (.cells (i64s (upto (l.map N) l k)).toArray t (0, 0)) ∧ Below base w wr) (fun i _ => 12 - (intOf i).toNat)
  case atStart => exact ⟨0, Nat.zero_le _, rfl, by rw [upto_zero]; exact HR.out, Below.refl _ _⟩
  case round =>
    obtain ⟨k, hk, rfl, hrk, ho⟩ := hrel
    have HO : Hid (Below base w wr) := ho
    clear ho
    by_cases hlt : k < 12
    · have hkI : (k : Int) < 12 := by omega
      have hlen := upto_len HML.out HL.out hk
      have eg : (i64s (upto (l.map N) l k)).toArray[k]? = some (.int .i64 (l.getD k 0)) := by
        have h1 : (upto (l.map N) l k)[k]? = l[k]? := by
          unfold upto
          rw [List.getElem?_append_right (by rw [List.length_take]; omega), List.length_take, List.getElem?_drop, HML.out, Nat.min_eq_left hk]
          simp
        simp only [i64s, List.getElem?_toArray, List.getElem?_map, h1]
        have hk2 : k < l.length := by rw [HL.out]; exact hlt
        rw [List.getElem?_eq_getElem hk2]
        simp [List.getD, hk2]
      have cq : wr.cell? ⟨q, k, none⟩ = some (.int .i64 (l.getD k 0)) := by rw [cell_of_row _ _ _ _ _ _ hrk]; exact eg
      have fq : wr.frozen? ⟨q, k, none⟩ = false := frozen_of_row _ _ _ _ _ hrk
      have hcall := HNN.out wr HO.out _ (HF.out k hlt)
      have HRK : Hid (wr.heap[q]? = some (.cells (i64s (upto (l.map N) l k)).toArray t (0, 0))) := hrk
      have HS : Hid ((i64s (upto (l.map N) l k)).toArray.setIfInBounds k (.int .i64 (N (l.getD k 0))) = (i64s (upto (l.map N) l (k + 1))).toArray) := by
        show _ = _
        have e1 : N (l.getD k 0) = (l.map N).getD k 0 := by
          have hk2 : k < l.length := by rw [HL.out]; exact hlt
          simp [List.getD, hk2]
        rw [List.setIfInBounds_toArray, i64s_set, e1, upto_set HML.out HL.out hlt]
      generalize l.getD k 0 = v at *
      clear hrk eg hlen
      go_wp2_with (go_at_call 36; refine hcall.mono ?_; rintro e w2 ⟨rfl, d2, hw2⟩; have cq2 : w2.cell? ⟨q, k, none⟩ = some (.int .i64 v) := (by rw [hw2]; exact cq); have fq2 : w2.frozen? ⟨q, k, none⟩ = false := (by rw [hw2]; exact fq); have HW2 : Hid (w2 = wr.drewN d2) := hw2; clear hw2)
      go_roundw
      case rel =>
        have hrow2 : w2.heap[q]? = some (.cells (i64s (upto (l.map N) l k)).toArray t (0, 0)) := by rw [HW2.out]; exact HRK.out
        have hsame := heap_setCell_same w2 q k _ _ (.int .i64 (N v)) hrow2
        rw [HS.out] at hsame
        have hb2 : Below base w w2 := by rw [HW2.out]; exact below_drewN HO.out d2
        refine ⟨k + 1, by omega, by go_num, hsame, ⟨hb2.os, hb2.tape, hb2.output, by simpa using hb2.size, fun i hi => (heap_setCell_other _ _ _ _ (by show i ≠ q; have := HQ.out; omega)).trans (hb2.block i hi)⟩⟩
      case measure => simp [intOf]; omega
    · obtain rfl : k = 12 := by omega
      rw [upto_all HML.out HL.out] at hrk
      have HRK : Hid (wr.heap[q]? = some (.cells (i64s (l.map N)).toArray t (0, 0))) := hrk
      clear hrk
      go_wp2
      go_end0
      exact ⟨rfl, HRK.out, HO.out⟩

/-- What ssa.At answers. -/
def AtPost (w : World) (P : List Fn) (f : Fn) (pc : Nat) (e : Ending) (w' : World) : Prop :=
  ∃ S T L, ∃ pn : Nat, ∃ g D, ∃ b q : Nat, e = .returned (.tuple #[.slice (some ⟨q, 0, none⟩) 12 12, .int .i64 0]) ∧ SsaIs P f S T L pn g D ∧ InBlk S T pc b ∧ w'.heap[q]? = some (.cells (i64s ((atR f S T L b pc).map (newI g (idsD pn S.length D)))).toArray 79 (0, 0)) ∧ w.heap.size ≤ q ∧ Below w.heap.size w w'

set_option maxRecDepth 100000 in
set_option maxHeartbeats 8000000 in
theorem At_right (P : List Fn) (hR : ProofAns P 0) (k : Nat) (hk : k < P.length) (pc : Nat) (hpc : pc < P[k].code.length) (hw : Way P[k] 63 pc) (v : Value) (w : World) (ht : TabOk w) (hc : CallOk w) (hv : ProgVal w v P) :
    Calls Tryd.prog 16 #[.agg #[v], .int .i64 k, .int .i64 pc] w (AtPost w P P[k] pc) := by
  have HPOST : Hid (∀ e w', (∃ S T L, ∃ pn : Nat, ∃ g D, ∃ b q : Nat, e = .returned (.tuple #[.slice (some ⟨q, 0, none⟩) 12 12, .int .i64 0]) ∧ SsaIs P P[k] S T L pn g D ∧ InBlk S T pc b ∧ w'.heap[q]? = some (.cells (i64s ((atR P[k] S T L b pc).map (newI g (idsD pn S.length D)))).toArray 79 (0, 0)) ∧ w.heap.size ≤ q ∧ Below w.heap.size w w') → AtPost w P P[k] pc e w') := fun e w' h => h
  have hok := flowOk_of hR (List.getElem_mem hk)
  obtain ⟨pn, hpn⟩ : ∃ pn : Nat, P[k].params = (pn : Int) := ⟨P[k].params.toNat, by have := hok.ok.p0; omega⟩
  have HPN : Hid (P[k].params = (pn : Int)) := hpn
  have HU : Hid (∀ q, q < P[k].code.length → Way P[k] 63 q → ∀ r, r < 12 → (rdMask P (insD P[k] q)).testBit r = true → ¬ Way P[k] r q) := right_reads hR (List.getElem_mem hk)
  have hB0 : (w.alloc (.cells #[v] 25)).heap[w.heap.size]? = some (.cells #[v] 25 (0, 0)) := heap_alloc_last _ _
  have hbx : Below w.heap.size w (w.alloc (.cells #[v] 25)) := (Below.refl _ _).alloc (Nat.le_refl _) _
  have HB0 : Hid (Below w.heap.size w (w.alloc (.cells #[v] 25))) := hbx
  have hlook := look_right P hR k hk v _ (ht.below hbx) (hc.below hbx) (hv.keeps (keeps_below hbx))
  have HTC : Hid (TabOk w ∧ CallOk w) := ⟨ht, hc⟩
  obtain ⟨ao, n, cap, rfl⟩ := hv.shape
  have HFO : Hid (FlowOk P P[k]) := hok
  have HPC : Hid (pc < P[k].code.length) := hpc
  have HW : Hid (Way P[k] 63 pc) := hw
  clear hR ht hc hv hok hbx hpn hw
  go_enter Tryd.func16, Tryd.ntmps16
  go_upto_region 1 with fail
  generalize (w.alloc (.cells #[.slice ao n cap] 25)) = V at *
  have b0 : V.cell? ⟨w.heap.size, 0, none⟩ = some (.slice ao n cap) := by rw [cell_of_row _ _ _ _ _ _ hB0]; rfl
  go_upto_region 2 with (go_at_call 21; refine hlook.mono ?_; rintro e w1 hp; obtain ⟨S, T, L, pv, cv, bv, lv, rfl, hsf, hnx, hb1⟩ := hp; obtain ⟨a1, n1, c1, a2, n2, c2, a3, n3, c3, a4, n4, c4, rfl, rfl, rfl, rfl⟩ := hsf.shapes; unfold fnV; rw [HPN.out])
  have r6 : (w1.alloc (.cells #[.slice a1 n1 c1, .int .i64 (pn : Int), .slice a2 n2 c2, .slice a3 n3 c3, .slice a4 n4 c4] 69)).heap[w1.heap.size]? = some (.cells #[.slice a1 n1 c1, .int .i64 (pn : Int), .slice a2 n2 c2, .slice a3 n3 c3, .slice a4 n4 c4] 69 (0, 0)) := heap_alloc_last _ _
  have hbb : Below w1.heap.size w1 (w1.alloc (.cells #[.slice a1 n1 c1, .int .i64 (pn : Int), .slice a2 n2 c2, .slice a3 n3 c3, .slice a4 n4 c4] 69)) := (Below.refl _ _).alloc (Nat.le_refl _) _
  have HBW : Hid (Below w.heap.size w (w1.alloc (.cells #[.slice a1 n1 c1, .int .i64 (pn : Int), .slice a2 n2 c2, .slice a3 n3 c3, .slice a4 n4 c4] 69))) := HB0.out.trans ((hb1.trans (hbb.mono hb1.size)).mono HB0.out.size)
  have hsf' := hsf.below hbb
  have hset := settledS_any _ hsf' (HTC.out.1.below HBW.out) (HTC.out.2.below HBW.out) (fun gB e i hi => by obtain ⟨a, n, c, e2⟩ := hnx gB e i hi; exact ⟨a, n, c, keeps_below hbb _ _ e2⟩) HU.out pn HPN.out
  obtain ⟨b, hin⟩ := hsf.ok.cover HFO.out HW.out
  have hat : ∀ W, Below (w1.alloc (.cells #[.slice a1 n1 c1, .int .i64 (pn : Int), .slice a2 n2 c2, .slice a3 n3 c3, .slice a4 n4 c4] 69)).heap.size (w1.alloc (.cells #[.slice a1 n1 c1, .int .i64 (pn : Int), .slice a2 n2 c2, .slice a3 n3 c3, .slice a4 n4 c4] 69)) W → Calls Tryd.prog 27 _ W _ := fun W hW => atS_any W (hsf'.below hW) ((HTC.out.1.below HBW.out).below hW) pc b hin HPC.out HW.out
  unfold fnV at hset hat
  rw [HPN.out] at hset
  have HAT : Hid (∀ W, Below (w1.alloc (.cells #[.slice a1 n1 c1, .int .i64 (pn : Int), .slice a2 n2 c2, .slice a3 n3 c3, .slice a4 n4 c4] 69)).heap.size (w1.alloc (.cells #[.slice a1 n1 c1, .int .i64 (pn : Int), .slice a2 n2 c2, .slice a3 n3 c3, .slice a4 n4 c4] 69)) W → Calls Tryd.prog 27 #[.agg #[.slice a1 n1 c1, .int .i64 (pn : Int), .slice a2 n2 c2, .slice a3 n3 c3, .slice a4 n4 c4], .int .i64 (pc : Int)] W fun e w' => e = .returned (.agg (i64s (atR P[k] S T L b pc)).toArray) ∧ Below W.heap.size W w') := fun W hW => by have := hat W hW; rw [HPN.out] at this; exact this
  have HSF : Hid (BlkOk P[k] S T ∧ LiveSpec P P[k] L ∧ InBlk S T pc b) := ⟨hsf.ok, hsf.lspec, hin⟩
  obtain ⟨bl, ol, hll, hla, hlc, hlcp⟩ : ∃ bl ol, L.length = n4 ∧ (0 < n4 → a4 = some ⟨bl, ol, none⟩) ∧ (∀ q, q < n4 → w1.cell? ⟨bl, ol + q, none⟩ = some (.int .i64 (L.getD q 0))) ∧ n4 ≤ c4 := by
    obtain ⟨ao, bl, ol, n', cp, e, h1, h2, h3, h4, -⟩ := ints_get hsf.live
    obtain ⟨rfl, rfl, rfl⟩ : a4 = ao ∧ n4 = n' ∧ c4 = cp := by simpa using e
    exact ⟨bl, ol, h1, h2, h3, h4⟩
  obtain ⟨cb, co, ccap, ecode, hcl1, hcl2, -⟩ := hsf.code
  obtain ⟨rfl, rfl, rfl⟩ : a2 = some ⟨cb, co, none⟩ ∧ n2 = P[k].code.length ∧ c2 = ccap := by simpa using ecode
  have hLl := hsf.lspec.1
  have hlv : (L.getD pc 0 == -1) = false := by
    rcases hsf.lspec.2 pc HPC.out with ⟨h2, -⟩ | ⟨-, m, -, e2, -⟩
    · exact absurd HW.out h2
    · rw [e2, beq_eq_false_iff_ne]; omega
  have hn4 : pc < n4 := by rw [← hll, hLl]; exact HPC.out
  obtain rfl := hla (by omega)
  have k4 := keeps_below hbb _ _ (hlc pc hn4)
  have hlx1 : decide ((pc : Int) < 0) = false := by simp only [decide_eq_false_iff_not]; omega
  have hlx2 : decide ((P[k].code.length : Int) ≤ (pc : Int)) = false := by simp only [decide_eq_false_iff_not]; omega
  have hlx3 : decide (P[k].code.length ≤ pc) = false := by simp only [decide_eq_false_iff_not]; omega
  have hpn4 : (pc : Int) < (n4 : Int) := by omega
  clear hsf hsf' hnx hb1 hB0 b0 HB0 hlook hat hin hll hla hlc hcl1 hcl2 hLl ecode hbb
  have q2 := fun W (hW : Below (w1.alloc (.cells #[.slice a1 n1 c1, .int .i64 (pn : Int), .slice (some ⟨cb, co, none⟩) P[k].code.length c2, .slice a3 n3 c3, .slice (some ⟨bl, ol, none⟩) n4 c4] 69)).heap.size (w1.alloc (.cells #[.slice a1 n1 c1, .int .i64 (pn : Int), .slice (some ⟨cb, co, none⟩) P[k].code.length c2, .slice a3 n3 c3, .slice (some ⟨bl, ol, none⟩) n4 c4] 69)) W) => (hW.block _ (lt_of_block r6)).trans r6
  have HP40 : Hid (pc < 40) := by have := HPC.out; have := HFO.out.ok.len2; show _ < _; omega
  generalize hNL : P[k].code.length = NL at *
  clear hNL
  generalize (w1.alloc (.cells #[.slice a1 n1 c1, .int .i64 (pn : Int), .slice (some ⟨cb, co, none⟩) NL c2, .slice a3 n3 c3, .slice (some ⟨bl, ol, none⟩) n4 c4] 69)) = V1 at *
  generalize w1.heap.size = G6 at *
  generalize L.getD pc 0 = lz at *
  have f2 : V1.cell? ⟨G6, 2, none⟩ = some (.slice (some ⟨cb, co, none⟩) NL c2) := by rw [cell_of_row _ _ _ _ _ _ r6]; rfl
  have f4 : V1.cell? ⟨G6, 4, none⟩ = some (.slice (some ⟨bl, ol, none⟩) n4 c4) := by rw [cell_of_row _ _ _ _ _ _ r6]; rfl
  go_upto_region 8 with fail
  clear f2 f4 k4 hlv hlx1 hlx2 hlx3 hpn4
  go_upto_region 9 with (first
    | (refine wpList_load_row rfl 69 _ rfl _ rfl _ _ _ _ r6 Tryd.underlying69 rfl infoFnB ?_)
    | (go_at_call 22; refine hset.mono ?_; rintro e w2 hp; obtain ⟨gp, D, Ly, g, R2, B2, Rs, R, B, rfl, h1, h2, h3, h4, h5, h6, h7⟩ := hp))
  have HIS : Hid (SsaIs P P[k] S T L pn g D) := ⟨HSF.out.1, HSF.out.2.1, HPN.out, h2, h3, h4⟩
  have r62 := q2 w2 h7
  have hat2 := HAT.out w2 h7
  have HNS : Hid (∀ W, Below w2.heap.size w2 W → NumSt W R2 B2 Rs R B g (idsD pn S.length D)) := fun W hW => ⟨⟨keeps_below hW _ _ h5.num.cell, by obtain ⟨D', hM, hD⟩ := h5.num.map; obtain ⟨es, cl, hh, r⟩ := hM; exact ⟨D', ⟨es, cl, (hW.block B2 (lt_of_block hh)).trans hh, r⟩, hD⟩⟩, keeps_below hW _ _ h5.st, h5.gone.below hW⟩
  have HB2 : Hid (Below w.heap.size w w2) := HBW.out.trans (h7.mono HBW.out.size)
  have hlx : (atR P[k] S T L b pc).length = 12 := wantR_len _ _
  have HFT : Hid (∀ r, r < 12 → Fit2 ((atR P[k] S T L b pc).getD r 0)) := by
    have hbS := HSF.out.2.2.1
    have hp1 := HSF.out.2.2.2.1
    have eS : S.getD b 0 = S[b] := by simp [List.getD, hbS]
    have hp2 := HP40.out
    have hv : ValL (atR P[k] S T L b pc) := valL_want (valL_on _ _ _ (by omega) (valL_from HFO.out HSF.out.1 (fromR_is HFO.out HSF.out.1 L hbS) hbS))
    exact fun r hr => (hv r hr).fit
  have i12 := infoRgL hlx
  have o12 := oneI64 (atR P[k] S T L b pc)
  have hlz : zero12.toArray.size = (i64s (atR P[k] S T L b pc)).toArray.size := by simp [zero12, i64s, hlx]
  have HLX : Hid ((atR P[k] S T L b pc).length = 12) := hlx
  clear h1 h2 h3 h4 h5 h6 h7 hset r6 q2 hlx
  generalize hAE : atR P[k] S T L b pc = AL at *
  have HAE : Hid (atR P[k] S T L b pc = AL) := hAE
  clear hAE
  go_upto_region 10 with (first
    | (refine wpList_load_row rfl 69 _ rfl _ rfl _ _ _ _ r62 Tryd.underlying69 rfl infoFnB ?_)
    | (go_at_call 27; refine hat2.mono ?_; rintro e w3 ⟨rfl, hb3⟩)
    | (refine wpList_store_row rfl _ _ _ rfl _ _ rfl rfl _ _ (heap_alloc_last w3 _) i12 hlz o12 ?_; rw [World.setRow_alloc_new]))
  have r7 : (w3.alloc (.cells (i64s AL).toArray 79)).heap[w3.heap.size]? = some (.cells (i64s AL).toArray 79 (0, 0)) := heap_alloc_last _ _
  have HB3 : Hid (Below w2.heap.size w2 (w3.alloc (.cells (i64s AL).toArray 79))) := hb3.alloc hb3.size _
  have hren := renumberB_any (base := w2.heap.size) (cap := 12) (R2 := R2) (Rs := Rs) _ AL (newI g (idsD pn S.length D)) hb3.size HLX.out r7 HFT.out HB3.out.size (fun W hW x hx => number_any W (HNS.out W (HB3.out.trans hW)) x hx)
  have hq3 := hb3.size
  clear hb3 r62 hat2
  generalize (w3.alloc (.cells (i64s AL).toArray 79)) = V3 at *
  generalize w3.heap.size = G7 at *
  unfold numberV at *
  go_wp2_with (go_at_call 28; refine hren.mono ?_; rintro e w4 ⟨rfl, hrow, hb4⟩)
  go_ret2
  refine HPOST.out _ _ ⟨S, T, L, pn, g, D, b, G7, rfl, HIS.out, HSF.out.2.2, by rw [HAE.out]; exact hrow, by have := HB2.out.size; omega, HB2.out.trans ((HB3.out.trans hb4).mono HB2.out.size)⟩
end Go.Proofs.YtdpaohmaafngkaaDoor
