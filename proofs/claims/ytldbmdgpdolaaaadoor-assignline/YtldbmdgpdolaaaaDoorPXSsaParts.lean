import Derived.Test.YtldbmdgpdolaaaaDoorPXBrief
import Derived.Test.YtldbmdgpdolaaaaDoorPXSsaCount
import Derived.Test.YtldbmdgpdolaaaaDoorPXSsaPartM
namespace Go.Proofs.YtldbmdgpdolaaaaDoor
open Go Go.RowKit

def PDone (P : List Fn) (f : Fn) (S : List Nat) (T : Nat → Nat) (L : List Int) (D : PDat) (i : Nat) : Prop :=
  D.bk i = (i : Int) ∧ D.ph i = phiM f S T L i ∧ D.ins i = insL P f (S.getD i 0) (T i - S.getD i 0) (fromR f S T L i) ∧ D.rg i = wantR (mkL L (S.getD i 0)) (fromR f S T L i)
def PartsPost (w : World) (P : List Fn) (f : Fn) (S : List Nat) (T : Nat → Nat) (L : List Int) (e : Ending) (w' : World) : Prop :=
  ∃ g D Ly, e = .returned (.slice (some ⟨g, 0, none⟩) S.length S.length) ∧ PartsAt w' w.heap.size g S.length D Ly ∧ (∀ i, i < S.length → PDone P f S T L D i) ∧ Below w.heap.size w w'
theorem gb_setRow (w : World) (g : Nat) (cs : Array Value) : w.grownBy (w.setRow g cs) (some g) :=
  ⟨rfl, rfl, rfl, by simp [World.setRow], fun i _ hne => setRow_other _ _ _ _ (fun e => hne (by rw [e]))⟩
theorem insL_len (P : List Fn) (f : Fn) (fr n : Nat) (l : List Int) : (insL P f fr n l).length = n := by simp [insL]
theorem infoInsB : (Tryd.prog.info? 90).map (fun i => (i.zero, i.size, i.bytes)) = some (some (.agg #[.int .i64 0, .int .i64 0, .int .i64 0, .int .i64 0, .int .i64 0, .int .i64 0]), 6, 48) := by kernel_rfl
set_option maxRecDepth 100000 in
set_option maxHeartbeats 8000000 in
theorem partsS_any {P : List Fn} {f : Fn} {S : List Nat} {T : Nat → Nat} {L : List Int} {pv cv bv lv : Value} (w : World) (h : SsaFn w P f S T L pv cv bv lv) (ht : TabOk w) (hc : CallOk w) (hpl : ∀ b, b < S.length → (prevs f S T b).length ≤ 1000)
    (hnx : ∀ gB, bv = .slice (some ⟨gB, 0, none⟩) S.length S.length → ∀ i, i < S.length → ∃ a n c, w.cell? ⟨gB, i * 4 + 2, none⟩ = some (.slice a n c)) :
    Calls Tryd.prog 28 #[.agg (fnV f pv cv bv lv)] w (PartsPost w P f S T L) := by
  obtain ⟨iPt, hiPt, hq0, hq1, hq2⟩ := info_parts infoPartB
  obtain ⟨iI, hiI, hi0, hi1, hi2⟩ := info_parts infoInsB
  have HPOST : Hid (∀ e w', (∃ g D Ly, e = .returned (.slice (some ⟨g, 0, none⟩) S.length S.length) ∧ PartsAt w' w.heap.size g S.length D Ly ∧ (∀ i, i < S.length → PDone P f S T L D i) ∧ Below w.heap.size w w') → PartsPost w P f S T L e w') := fun e w' h' => h'
  obtain ⟨gB, VV, rfl, hb1, hb2⟩ := h.blocks
  have hS : S.length ≤ 1000 := by have := starts_len h.flow h.ok.starts; have := h.flow.ok.len2; omega
  have HPS : Hid (∀ W, Below w.heap.size w W → ∀ b, b < S.length → Calls Tryd.prog 46 #[.agg (fnV f pv cv (.slice (some ⟨gB, 0, none⟩) S.length S.length) lv), .int .i64 b] W (PhisPost W f S T L b)) := fun W hW b hb => phisS_any W (h.below hW) (ht.below hW) b hb (hpl b hb)
  have HFR : Hid (∀ W, Below w.heap.size w W → ∀ b, b < S.length → Calls Tryd.prog 45 #[.agg (fnV f pv cv (.slice (some ⟨gB, 0, none⟩) S.length S.length) lv), .int .i64 b] W fun e w' => e = .returned (.agg (i64s (fromR f S T L b)).toArray) ∧ Below W.heap.size W w') := fun W hW b hb => fromS_all W (h.below hW) (ht.below hW) b hb
  have HWA : Hid (∀ W, Below w.heap.size w W → ∀ b, b < S.length → Calls Tryd.prog 47 #[.agg (fnV f pv cv (.slice (some ⟨gB, 0, none⟩) S.length S.length) lv), .agg (i64s (fromR f S T L b)).toArray, .int .i64 ((S.getD b 0 : Nat) : Int)] W fun e w' => e = .returned (.agg (i64s (wantR (mkL L (S.getD b 0)) (fromR f S T L b))).toArray) ∧ Below W.heap.size W w') := fun W hW b hb => by
    have eS : S.getD b 0 = S[b] := by simp [List.getD, hb]
    have hrc := h.ok.starts.reach h.flow (List.getElem_mem hb)
    exact wantedS_any W (h.below hW) _ (fromR_is h.flow h.ok L hb).len (S.getD b 0) (by rw [eS]; exact hrc.2) (by rw [eS]; exact hrc.1)
  have HIA : Hid (∀ W, Below w.heap.size w W → ∀ (l : List Int), l.length = 12 → ∀ pc, pc < f.code.length → Calls Tryd.prog 48 #[.agg (fnV f pv cv (.slice (some ⟨gB, 0, none⟩) S.length S.length) lv), .agg (i64s l).toArray, .int .i64 pc] W fun e w' => e = .returned (.agg (inC (insM P f pc l)).toArray) ∧ Below W.heap.size W w') := fun W hW l hl pc hpc => insS_any W (h.below hW) (ht.below hW) (hc.below hW) l hl pc hpc
  have HOA : Hid (∀ W, Below w.heap.size w W → ∀ (l : List Int), l.length = 12 → ∀ pc, pc < f.code.length → Calls Tryd.prog 49 #[.agg (fnV f pv cv (.slice (some ⟨gB, 0, none⟩) S.length S.length) lv), .agg (i64s l).toArray, .int .i64 pc, .int .i64 ((pc : Int) + 1)] W fun e w' => e = .returned (.agg (i64s (on1 f pc l)).toArray) ∧ Below W.heap.size W w') := fun W hW l hl pc hpc => by
    have := onS_any W (h.below hW) (ht.below hW) l hl pc (pc + 1) (by omega) (by omega)
    rw [show pc + 1 - pc = 1 by omega] at this
    exact this
  have HFL : Hid (∀ b, b < S.length → (fromR f S T L b).length = 12) := fun b hb => (fromR_is h.flow h.ok L hb).len
  have HEND : Hid (∀ b, b < S.length → S.getD b 0 < T b ∧ T b ≤ f.code.length ∧ f.code.length ≤ 1000) := fun b hb => by
    have hE := h.ok.ends b hb
    have e : S.getD b 0 = S[b] := by simp [List.getD, hb]
    exact ⟨by rw [e]; exact hE.lt, hE.le, by have := h.flow.ok.len2; omega⟩
  have HCB : Hid (∀ W, Below w.heap.size w W → ∀ b, b < S.length → ∃ a2 n2 c2 a3 n3 c3, W.cell? ⟨gB, b * 4, none⟩ = some (.int .i64 ((S.getD b 0 : Nat) : Int)) ∧ W.cell? ⟨gB, b * 4 + 1, none⟩ = some (.int .i64 ((T b : Nat) : Int)) ∧ W.cell? ⟨gB, b * 4 + 2, none⟩ = some (.slice a2 n2 c2) ∧ W.cell? ⟨gB, b * 4 + 3, none⟩ = some (.slice a3 n3 c3)) := fun W hW b hb => by
    obtain ⟨a2, n2, c2, e2⟩ := hnx gB rfl b hb
    obtain ⟨a3, -, -, n3, c3, e3, -⟩ := ints_get (hb2 b hb)
    exact ⟨a2, n2, c2, a3, n3, c3, keeps_below hW _ _ (blk_from hb1 b hb), keeps_below hW _ _ (blk_to hb1 b hb), keeps_below hW _ _ e2, keeps_below hW _ _ (by rw [blk_prev hb1 b hb, e3])⟩
  have r1 : (w.alloc (.cells (fnV f pv cv (.slice (some ⟨gB, 0, none⟩) S.length S.length) lv) 56)).heap[w.heap.size]? = some (.cells (fnV f pv cv (.slice (some ⟨gB, 0, none⟩) S.length S.length) lv) 56 (0, 0)) := heap_alloc_last _ _
  have HB0 : Hid (Below w.heap.size w (w.alloc (.cells (fnV f pv cv (.slice (some ⟨gB, 0, none⟩) S.length S.length) lv) 56))) := (Below.refl _ _).alloc (Nat.le_refl _) _
  have k3 : (w.alloc (.cells (fnV f pv cv (.slice (some ⟨gB, 0, none⟩) S.length S.length) lv) 56)).cell? ⟨w.heap.size, 3, none⟩ = some (.slice (some ⟨gB, 0, none⟩) S.length S.length) := by rw [cell_of_row _ _ _ _ _ _ r1]; rfl
  unfold fnV at *
  clear h ht hc hpl hnx hb1 hb2
  generalize hSL : S.length = SL at *
  have HSL : Hid (S.length = SL) := hSL
  clear hSL
  go_enter Tryd.func28, Tryd.ntmps28
  go_upto_region 1 with fail
  have infoFn : (Tryd.prog.info? 56).map (·.size) = some [pv, .int .i64 f.params, cv, .slice (some ⟨gB, 0, none⟩) SL SL, lv].length := infoFnS
  obtain ⟨FVL, hFV⟩ : ∃ FVL, FVL = [pv, .int .i64 f.params, cv, .slice (some ⟨gB, 0, none⟩) SL SL, lv] := ⟨_, rfl⟩
  rw [show #[pv, .int .i64 f.params, cv, .slice (some ⟨gB, 0, none⟩) SL SL, lv] = FVL.toArray by rw [hFV]] at *
  rw [← hFV] at infoFn
  clear hFV
  have infoFa : (Tryd.prog.info? 56).map (·.size) = some FVL.toArray.size := by rw [List.size_toArray]; exact infoFn
  generalize (w.alloc (.cells FVL.toArray 56)) = V at *
  go_upto_region 3 with (at_make; refine wpList_make_full _ rfl (.tmp 10) (.tmp 10) 32 rfl w.heap.size 74 iPt _ 15 Tryd.underlying32 hiPt hq0 hq1 .i64 .i64 _ _ SL rfl rfl rfl rfl (by rw [hq2]; omega) (by unfold maxLen; omega) HB0.out.size ?_; intro w1 hown1 hg1; rw [made_parts] at hown1; have k31 := hg1.cell k3 (by simp))
  have HP1 : Hid (PartsAt w1 w.heap.size V.heap.size SL zD zL) := partsAt_zero hown1
  have r11 : w1.heap[w.heap.size]? = some (.cells FVL.toArray 56 (0, 0)) := (hg1.block _ (lt_of_block r1) (by simp)).trans r1
  have HB1 : Hid (Below w.heap.size w w1) := HB0.out.grown hg1 HB0.out.size (fun k e => by cases e)
  have HGPN : Hid (V.heap.size ≠ w.heap.size) := by have := lt_of_block r1; show _ ≠ _; omega
  clear k3 k31 r1 HB0 hown1 hg1
  generalize V.heap.size = GP at *
  go_loopw [15] (fun i wr => ∃ (b : Nat) (D : PDat) (Ly : PLay), b ≤ SL ∧ i = .int .i64 b ∧ PartsAt wr w.heap.size GP SL D Ly ∧ (∀ i, i < b → PDone P f S T L D i) ∧ wr.heap[w.heap.size]? = some (.cells FVL.toArray 56 (0, 0)) ∧ Below w.heap.size w wr) (fun i _ => SL - (intOf i).toNat)
  case atStart => exact ⟨0, _, _, Nat.zero_le _, rfl, HP1.out, fun i hi => by omega, r11, HB1.out⟩
  case round =>
    clear HP1 r11 HB1
    obtain ⟨b, D, Ly, hb, rfl, hpa, hdn, r1, hbr⟩ := hrel
    have HPA : Hid (PartsAt wr w.heap.size GP SL D Ly) := hpa
    have HDN : Hid (∀ i, i < b → PDone P f S T L D i) := hdn
    have HBR : Hid (Below w.heap.size w wr) := hbr
    clear hpa hdn hbr
    by_cases hbn : b < SL
    · have hbI : (b : Int) < (SL : Int) := by omega
      obtain ⟨a2, n2, c2, a3, n3, c3, cb0, cb1, cb2, cb3⟩ := HCB.out wr HBR.out b hbn
      obtain ⟨hE1, hE2, hE3⟩ := HEND.out b hbn
      have hfr := HFR.out
      have HWN0 : Hid _ := HWA.out
      obtain ⟨zF, hzF⟩ : ∃ zF : Int, zF = ((S.getD b 0 : Nat) : Int) := ⟨_, rfl⟩
      obtain ⟨zT, hzT⟩ : ∃ zT : Int, zT = ((T b : Nat) : Int) := ⟨_, rfl⟩
      rw [← hzF] at cb0
      rw [← hzT] at cb1
      have HZF : Hid (zF = ((S.getD b 0 : Nat) : Int)) := hzF
      have HZT : Hid (zT = ((T b : Nat) : Int)) := hzT
      have r5 : (wr.alloc (.cells #[.int .i64 zF, .int .i64 zT, .slice a2 n2 c2, .slice a3 n3 c3] 107)).heap[wr.heap.size]? = some (.cells #[.int .i64 zF, .int .i64 zT, .slice a2 n2 c2, .slice a3 n3 c3] 107 (0, 0)) := heap_alloc_last _ _
      have r1a : (wr.alloc (.cells #[.int .i64 zF, .int .i64 zT, .slice a2 n2 c2, .slice a3 n3 c3] 107)).heap[w.heap.size]? = some (.cells FVL.toArray 56 (0, 0)) := (heap_alloc_old _ _ (lt_of_block r1)).trans r1
      have HB4 : Hid (Below w.heap.size w (wr.alloc (.cells #[.int .i64 zF, .int .i64 zT, .slice a2 n2 c2, .slice a3 n3 c3] 107))) := HBR.out.alloc HBR.out.size _
      have HP4 : Hid (PartsAt (wr.alloc (.cells #[.int .i64 zF, .int .i64 zT, .slice a2 n2 c2, .slice a3 n3 c3] 107)) w.heap.size GP SL D Ly) := HPA.out.below ((Below.refl _ _).alloc (Nat.le_refl _) _)
      have hfr := HFR.out _ HB4.out b hbn
      obtain ⟨RL, hRL⟩ : ∃ RL, RL = fromR f S T L b := ⟨_, rfl⟩
      have HRL : Hid (RL = fromR f S T L b) := hRL
      have hR12 : RL.length = 12 := by rw [hRL]; exact HFL.out b hbn
      rw [← hRL] at hfr
      have i12 := infoRgL hR12
      have o12 := oneI64 RL
      have ip12 : (Tryd.prog.info? 108).map (·.size) = some (i64s RL).length := by (have e12 : (i64s RL).length = 12 := (by simp [i64s, hR12])); rw [e12]; exact infoRg
      have hlz : (#[.int .i64 0, .int .i64 0, .int .i64 0, .int .i64 0, .int .i64 0, .int .i64 0, .int .i64 0, .int .i64 0, .int .i64 0, .int .i64 0, .int .i64 0, .int .i64 0] : Array Value).size = (i64s RL).toArray.size := by simp [i64s, hR12]
      clear hzF hzT hRL HWN0
      go_upto_region 5 with fail
      generalize (wr.alloc (.cells #[.int .i64 zF, .int .i64 zT, .slice a2 n2 c2, .slice a3 n3 c3] 107)) = V4 at *
      clear cb0 cb1 cb2 cb3
      go_upto_region 6 with (first
        | (refine wpList_load_row rfl 56 _ rfl _ rfl _ _ _ _ r1a Tryd.underlying56 rfl infoFa ?_)
        | (go_at_call 45; refine hfr.mono ?_; rintro e w2 ⟨rfl, hb2⟩)
        | (refine wpList_store_row rfl 108 (.tmp 6) _ rfl _ (i64s RL).toArray rfl rfl _ _ (heap_alloc_last w2 _) i12 hlz o12 ?_))
      have ra := heap_alloc_last w2 (.cells #[.int .i64 0, .int .i64 0, .int .i64 0, .int .i64 0, .int .i64 0, .int .i64 0, .int .i64 0, .int .i64 0, .int .i64 0, .int .i64 0, .int .i64 0, .int .i64 0] 108)
      have r6 : ((w2.alloc (.cells #[.int .i64 0, .int .i64 0, .int .i64 0, .int .i64 0, .int .i64 0, .int .i64 0, .int .i64 0, .int .i64 0, .int .i64 0, .int .i64 0, .int .i64 0, .int .i64 0] 108)).setRow w2.heap.size (i64s RL).toArray).heap[w2.heap.size]? = some (.cells (i64s RL).toArray 108 (0, 0)) := setRow_heap _ _ _ _ _ _ ra
      have hbA : Below V4.heap.size V4 (w2.alloc (.cells #[.int .i64 0, .int .i64 0, .int .i64 0, .int .i64 0, .int .i64 0, .int .i64 0, .int .i64 0, .int .i64 0, .int .i64 0, .int .i64 0, .int .i64 0, .int .i64 0] 108)) := hb2.alloc hb2.size _
      have hbS : Below V4.heap.size V4 ((w2.alloc (.cells #[.int .i64 0, .int .i64 0, .int .i64 0, .int .i64 0, .int .i64 0, .int .i64 0, .int .i64 0, .int .i64 0, .int .i64 0, .int .i64 0, .int .i64 0, .int .i64 0] 108)).setRow w2.heap.size (i64s RL).toArray) := belowSK hbA hb2.size _
      have r1 := (hbS.block _ (lt_of_block r1a)).trans r1a
      have r5b := (hbS.block _ (lt_of_block r5)).trans r5
      have HB6 : Hid (Below w.heap.size w ((w2.alloc (.cells #[.int .i64 0, .int .i64 0, .int .i64 0, .int .i64 0, .int .i64 0, .int .i64 0, .int .i64 0, .int .i64 0, .int .i64 0, .int .i64 0, .int .i64 0, .int .i64 0] 108)).setRow w2.heap.size (i64s RL).toArray)) := HB4.out.trans (hbS.mono HB4.out.size)
      have HP6 : Hid (PartsAt ((w2.alloc (.cells #[.int .i64 0, .int .i64 0, .int .i64 0, .int .i64 0, .int .i64 0, .int .i64 0, .int .i64 0, .int .i64 0, .int .i64 0, .int .i64 0, .int .i64 0, .int .i64 0] 108)).setRow w2.heap.size (i64s RL).toArray) w.heap.size GP SL D Ly) := HP4.out.below hbS
      have HG6W : Hid (w.heap.size ≤ w2.heap.size) := by have := HB4.out.size; have := hb2.size; show _ ≤ _; omega
      clear ra hbA hbS r1a r5 HB4 HP4 hb2 hfr HPA HBR
      generalize ((w2.alloc (.cells #[.int .i64 0, .int .i64 0, .int .i64 0, .int .i64 0, .int .i64 0, .int .i64 0, .int .i64 0, .int .i64 0, .int .i64 0, .int .i64 0, .int .i64 0, .int .i64 0] 108)).setRow w2.heap.size (i64s RL).toArray) = V6 at *
      generalize w2.heap.size = G6 at *
      generalize wr.heap.size = G5 at *
      have c50 : V6.cell? ⟨G5, 0, none⟩ = some (.int .i64 zF) := by rw [cell_of_row _ _ _ _ _ _ r5b]; rfl
      have HWN1 : ∀ W, Below w.heap.size w W → Calls Tryd.prog 47 #[.agg FVL.toArray, .agg (i64s RL).toArray, .int .i64 zF] W fun e w' => e = .returned (.agg (i64s (wantR (mkL L (S.getD b 0)) (fromR f S T L b))).toArray) ∧ Below W.heap.size W w' := fun W hW => by have := HWA.out W hW b hbn; rw [← HRL.out, ← HZF.out] at this; rw [← HRL.out]; exact this
      obtain ⟨z0, z1, z2, z3, z4, z5, z6, z7, z8, z9, z10, z11, hzz⟩ := list12s (wantR_len (mkL L (S.getD b 0)) (fromR f S T L b))
      have HZZ : Hid (wantR (mkL L (S.getD b 0)) (fromR f S T L b) = [z0, z1, z2, z3, z4, z5, z6, z7, z8, z9, z10, z11]) := hzz
      rw [hzz] at HWN1
      have eX : (i64s [z0, z1, z2, z3, z4, z5, z6, z7, z8, z9, z10, z11]).toArray = #[.int .i64 z0, .int .i64 z1, .int .i64 z2, .int .i64 z3, .int .i64 z4, .int .i64 z5, .int .i64 z6, .int .i64 z7, .int .i64 z8, .int .i64 z9, .int .i64 z10, .int .i64 z11] := rfl
      rw [eX] at HWN1
      have HWN : Hid (∀ W, Below w.heap.size w W → Calls Tryd.prog 47 #[.agg FVL.toArray, .agg (i64s RL).toArray, .int .i64 zF] W fun e w' => e = .returned (.agg #[.int .i64 z0, .int .i64 z1, .int .i64 z2, .int .i64 z3, .int .i64 z4, .int .i64 z5, .int .i64 z6, .int .i64 z7, .int .i64 z8, .int .i64 z9, .int .i64 z10, .int .i64 z11]) ∧ Below W.heap.size W w') := HWN1
      clear hzz eX HWN1
      refine wp_region_last (S := fun W => Below V6.heap.size V6 W) _ 13 (by kernel_rfl) (by kernel_rfl) rfl ((Below.refl _ _).drew) (fun hHeld => ?_)
      simp only [List.pop_toArray, List.dropLast]
      refine wpAnyH_take (i := 0) (v := ?_) rfl (by kernel_rfl) (by kernel_rfl) (by kernel_rfl) (fun _ _ _ h => h) (Or.inl ⟨by rfl, ?_⟩) (by assumption) ?_
      rotate_left
      · (intro W hSW; go_simp; try (with_reducible rfl))
      (try simp only [zB])
      (try simp only [zA])
      refine wpAnyH_take (i := 1) (v := ?_) rfl (by kernel_rfl) (by kernel_rfl) (by kernel_rfl) (fun _ _ _ h => h) (Or.inl ⟨by rfl, ?_⟩) (by assumption) ?_
      rotate_left
      · (intro W hSW; go_simp; try (with_reducible rfl))
      (try simp only [zB])
      (try simp only [zA])
      refine wpAnyH_take (i := 2) (v := ?_) rfl (by kernel_rfl) (by kernel_rfl) (by kernel_rfl) (fun _ _ _ h => h) (Or.inl ⟨by rfl, ?_⟩) (by assumption) ?_
      rotate_left
      · (intro W hSW; go_simp; try (with_reducible rfl))
      (try simp only [zB])
      (try simp only [zA])
      refine wpAnyH_take (i := 3) (v := .agg FVL.toArray) rfl (by kernel_rfl) (by kernel_rfl) (by kernel_rfl) (fun _ _ _ h => h) (yieldsIf_load_mid (by rfl) 56 _ rfl _ 0 rfl FVL _ (fun W hSW j u hu => by rw [cell_of_row _ _ _ _ _ _ ((hSW.block _ (lt_of_block r1)).trans r1)]; simpa using hu) Tryd.underlying56 rfl infoFn) (by assumption) ?_
      (try simp only [zB])
      (try simp only [zA])
      refine wpAnyH_take (i := 4) (v := ?_) rfl (by kernel_rfl) (by kernel_rfl) (by kernel_rfl) (fun _ _ _ h => h) (Or.inl ⟨by rfl, ?_⟩) (by assumption) ?_
      rotate_left
      · (intro W hSW; go_simp; try (with_reducible rfl))
      (try simp only [zB])
      (try simp only [zA])
      refine wpAnyH_take (i := 6) (v := .agg FVL.toArray) rfl (by kernel_rfl) (by kernel_rfl) (by kernel_rfl) (fun _ _ _ h => h) (yieldsIf_load_mid (by rfl) 56 _ rfl _ 0 rfl FVL _ (fun W hSW j u hu => by rw [cell_of_row _ _ _ _ _ _ ((hSW.block _ (lt_of_block r1)).trans r1)]; simpa using hu) Tryd.underlying56 rfl infoFn) (by assumption) ?_
      (try simp only [zB])
      (try simp only [zA])
      refine wpAnyH_take (i := 7) (v := .agg (i64s RL).toArray) rfl (by kernel_rfl) (by kernel_rfl) (by kernel_rfl) (fun _ _ _ h => h) (yieldsIf_load_mid (by rfl) 108 _ rfl _ 0 rfl (i64s RL) _ (fun W hSW j u hu => by rw [cell_of_row _ _ _ _ _ _ ((hSW.block _ (lt_of_block r6)).trans r6)]; simpa using hu) Tryd.underlying108 rfl ip12) (by assumption) ?_
      (try simp only [zB])
      (try simp only [zA])
      refine wpAnyH_take (i := 8) (v := ?_) rfl (by kernel_rfl) (by kernel_rfl) (by kernel_rfl) (fun _ _ _ h => h) (Or.inl ⟨by rfl, ?_⟩) (by assumption) ?_
      rotate_left
      · (intro W hSW; go_simp; try (with_reducible rfl))
      (try simp only [zB])
      (try simp only [zA])
      refine wpAnyH_take (i := 9) (v := ?_) rfl (by kernel_rfl) (by kernel_rfl) (by kernel_rfl) (fun _ _ _ h => h) (Or.inl ⟨by rfl, ?_⟩) (by assumption) ?_
      rotate_left
      · (intro W hSW; have zz := keeps_below hSW _ _ c50; go_simp; try (with_reducible rfl))
      (try simp only [zB])
      (try simp only [zA])
      refine wpAnyH_ready (rs := [5]) (by kernel_rfl) (by simp) ?_
      refine AllReadyH.cons rfl (fun K hK => ?_) AllReadyH.nil
      go_simp
      go_at_call 46
      refine (HPS.out _ (HB6.out.trans (Below.mono hHeld HB6.out.size)) b hbn).mono ?_
      rintro e w3 hp
      obtain ⟨v, VA, AR, rfl, hph, hbc⟩ := hp
      have HBw3 : Below V6.heap.size V6 w3 := Below.trans hHeld (Below.mono hbc (Below.size hHeld))
      have HPH : Hid (PhisAt w3 V6.drew.heap.size v VA AR (phiM f S T L b)) := hph
      clear hph
      dsimp only
      refine hK.out _ _ HBw3 (fun _ => ?_)
      clear hK K hbc hHeld
      have hHeld := HBw3
      (try simp only [zA])
      refine wpAnyH_ready (rs := [10]) (by kernel_rfl) (by simp) ?_
      refine AllReadyH.cons rfl (fun K hK => ?_) AllReadyH.nil
      go_simp
      go_at_call 47
      refine (HWN.out _ (HB6.out.trans (Below.mono hHeld HB6.out.size))).mono ?_
      rintro e w4 ⟨rfl, hbc⟩
      have HBw4 : Below V6.heap.size V6 w4 := Below.trans hHeld (Below.mono hbc (Below.size hHeld))
      have HPH4 : Hid (PhisAt w4 V6.heap.size v VA AR (phiM f S T L b)) := HPH.out.below hbc
      dsimp only
      refine hK.out _ _ HBw4 (fun _ => ?_)
      clear hK K hbc hHeld
      have hHeld := HBw4
      (try simp only [zA])
      obtain ⟨aoV, cV, rfl⟩ := own_shape HPH4.out.row
      refine wpAnyH_take (i := 11) (v := ?_) rfl (by kernel_rfl) (by kernel_rfl) (by kernel_rfl) (fun _ _ _ h => h) (Or.inl ⟨by rfl, ?_⟩) (by assumption) ?_
      rotate_left
      · (intro W hSW; go_simp; try (with_reducible rfl))
      (try simp only [zB])
      (try simp only [zA])
      refine wpAnyH_take (i := 12) (v := ?_) rfl (by kernel_rfl) (by kernel_rfl) (by kernel_rfl) (fun _ _ _ h => h) (Or.inl ⟨by rfl, ?_⟩) (by assumption) ?_
      rotate_left
      · (intro W hSW; go_simp; try (with_reducible rfl))
      (try simp only [zB])
      (try simp only [zA])
      refine wpAnyH_done (by kernel_rfl) ?_ _
      refine Or.inl ?_
      have hp4 : PartsAt w4 w.heap.size GP SL D Ly := HP6.out.below hHeld
      have hth : w4.there GP (b * 15) 15 := fun j hj => ⟨by rw [hp4.row.cellAt (b * 15 + j) (at_lt hbn hj), gC_get (pC_len hp4) b j hbn hj, List.getElem?_eq_getElem (by rw [pC_len hp4 b hbn]; exact hj)]; rfl, hp4.row.frozenAt _⟩
      refine wp_store_mid 74 _ _ rfl GP (b * 15) #[.int .i64 (b : Int), .slice aoV (phiM f S T L b).length cV, .slice none 0 0, .int .i64 z0, .int .i64 z1, .int .i64 z2, .int .i64 z3, .int .i64 z4, .int .i64 z5, .int .i64 z6, .int .i64 z7, .int .i64 z8, .int .i64 z9, .int .i64 z10, .int .i64 z11] rfl rfl hth infoPart (by simp [Value.oneCell']) ?_
      (try simp only [Act.put])
      have hbase : w.heap.size ≤ V6.heap.size := HB6.out.size
      obtain ⟨s1, s2⟩ := hp4.putPart hbn (HPH4.out.mono hbase) (fun q hq j hj e => by have h1 := (HPH4.out.row.lt q hq).1; have h2 := ((HP6.out.phis.own j hj).lt q e).2; omega) (fun r hr q hq s hs e => by have h1 := ((HPH4.out.args.own r hr).lt q hq).1; have h2 := ((HP6.out.args.own s hs).lt q e).2; omega) (b : Int) (rg := [z0, z1, z2, z3, z4, z5, z6, z7, z8, z9, z10, z11]) rfl
      have r1b := (hHeld.block _ (lt_of_block r1)).trans r1
      have r5c := (hHeld.block _ (lt_of_block r5b)).trans r5b
      have r6b := (hHeld.block _ (lt_of_block r6)).trans r6
      have q1 := (s2.block _ (lt_of_block r1b) (fun e => absurd (own_type hp4.row (v := .slice (some ⟨GP, 0, none⟩) SL SL) e.symm r1b) (by decide))).trans r1b
      have q5 := (s2.block _ (lt_of_block r5c) (fun e => absurd (own_type hp4.row (v := .slice (some ⟨GP, 0, none⟩) SL SL) e.symm r5c) (by decide))).trans r5c
      have q6 := (s2.block _ (lt_of_block r6b) (fun e => absurd (own_type hp4.row (v := .slice (some ⟨GP, 0, none⟩) SL SL) e.symm r6b) (by decide))).trans r6b
      have hgp := (hp4.row.lt GP rfl).1
      have HB7 : Hid (Below w.heap.size w (w4.setCells GP (b * 15) (partC (b : Int) (.slice aoV (phiM f S T L b).length cV) (.slice none 0 0) [z0, z1, z2, z3, z4, z5, z6, z7, z8, z9, z10, z11]))) := (HB6.out.trans (hHeld.mono HB6.out.size)).grown s2 (by have := HB6.out.size; have := hHeld.size; omega) (fun k hk => Option.some.inj hk ▸ hgp)
      have HS1 : Hid _ := s1
      clear hHeld hp4 hth s1 s2 r1b r5c r6b r1 r5b r6 c50 hbase
      rw [show ([.int .i64 (b : Int), .slice aoV (phiM f S T L b).length cV, .slice none 0 0, .int .i64 z0, .int .i64 z1, .int .i64 z2, .int .i64 z3, .int .i64 z4, .int .i64 z5, .int .i64 z6, .int .i64 z7, .int .i64 z8, .int .i64 z9, .int .i64 z10, .int .i64 z11] : List Value) = partC (b : Int) (.slice aoV (phiM f S T L b).length cV) (.slice none 0 0) [z0, z1, z2, z3, z4, z5, z6, z7, z8, z9, z10, z11] from rfl]
      generalize (w4.setCells GP (b * 15) (partC (b : Int) (.slice aoV (phiM f S T L b).length cV) (.slice none 0 0) [z0, z1, z2, z3, z4, z5, z6, z7, z8, z9, z10, z11])) = V7 at *
      have c70 : V7.cell? ⟨G5, 0, none⟩ = some (.int .i64 zF) := by rw [cell_of_row _ _ _ _ _ _ q5]; rfl
      go_upto_region 8 with fail
      clear c70
      have hK1 : (S.getD b 0 : Nat) ≤ 1000 := by omega
      have HL12 : Hid (RL.length = 12) := hR12
      clear hR12 i12 o12 ip12 hlz
      have HQ6 : Hid (V7.heap[G6]? = some (.cells (i64s (onR f (S.getD b 0) 0 RL)).toArray 108 (0, 0))) := q6
      clear q6
      go_loopw [7] (fun p wi => ∃ (k : Nat) (D2 : PDat) (L2 : PLay), k ≤ T b - S.getD b 0 ∧ p = .int .i64 (zF + (k : Int)) ∧ PartsAt wi w.heap.size GP SL D2 L2 ∧ (∀ i, i < b → PDone P f S T L D2 i) ∧ (D2.bk b = (b : Int) ∧ D2.ph b = phiM f S T L b ∧ D2.ins b = insL P f (S.getD b 0) k RL ∧ D2.rg b = [z0, z1, z2, z3, z4, z5, z6, z7, z8, z9, z10, z11]) ∧ wi.heap[w.heap.size]? = some (.cells FVL.toArray 56 (0, 0)) ∧ wi.heap[G5]? = some (.cells #[.int .i64 zF, .int .i64 zT, .slice a2 n2 c2, .slice a3 n3 c3] 107 (0, 0)) ∧ wi.heap[G6]? = some (.cells (i64s (onR f (S.getD b 0) k RL)).toArray 108 (0, 0)) ∧ Below w.heap.size w wi) (fun p _ => (zT - intOf p).toNat)
      case atStart => exact ⟨0, _, _, Nat.zero_le _, by simp, HS1.out, fun i hi => by have := HDN.out i hi; simpa [PDone, upd_other _ (show i ≠ b by omega)] using this, ⟨by simp [upd_same], by simp [upd_same], by simp [upd_same, insL], by simp [upd_same]⟩, q1, q5, HQ6.out, HB7.out⟩
      case round =>
        clear HS1 q1 q5 HQ6 HB7 HPH HPH4
        obtain ⟨k, D2, L2, hk, rfl, hpa, hdn, hbk, r1, r5, r6, hbr⟩ := hrel
        rename World => Vj
        have HPj : Hid (PartsAt Vj w.heap.size GP SL D2 L2) := hpa
        have HDj : Hid (∀ i, i < b → PDone P f S T L D2 i) := hdn
        have HKj : Hid (D2.bk b = (b : Int) ∧ D2.ph b = phiM f S T L b ∧ D2.ins b = insL P f (S.getD b 0) k RL ∧ D2.rg b = [z0, z1, z2, z3, z4, z5, z6, z7, z8, z9, z10, z11]) := hbk
        have HBj : Hid (Below w.heap.size w Vj) := hbr
        have c51 : Vj.cell? ⟨G5, 1, none⟩ = some (.int .i64 zT) := by rw [cell_of_row _ _ _ _ _ _ r5]; rfl
        clear hpa hdn hbk hbr
        by_cases hlt : k < T b - S.getD b 0
        · have hlt2 : zF + (k : Int) < zT := by rw [HZF.out, HZT.out]; omega
          have hpc : S.getD b 0 + k < f.code.length := by omega
          obtain ⟨RK, hRK⟩ : ∃ RK, RK = onR f (S.getD b 0) k RL := ⟨_, rfl⟩
          have HRK : Hid (RK = onR f (S.getD b 0) k RL) := hRK
          have hRK12 : RK.length = 12 := by rw [hRK, onR_len]; exact HL12.out
          rw [← hRK] at r6
          have ipK : (Tryd.prog.info? 108).map (·.size) = some (i64s RK).length := by (have e12 : (i64s RK).length = 12 := (by simp [i64s, hRK12])); rw [e12]; exact infoRg
          have ipK2 : (Tryd.prog.info? 108).map (·.size) = some (i64s RK).toArray.size := by rw [List.size_toArray]; exact ipK
          obtain ⟨X, hX⟩ : ∃ X, X = insM P f (S.getD b 0 + k) RK := ⟨_, rfl⟩
          have HXE : Hid (X = insM P f (S.getD b 0 + k) RK) := hX
          obtain ⟨RN, hRN⟩ : ∃ RN, RN = on1 f (S.getD b 0 + k) RK := ⟨_, rfl⟩
          have HRN : Hid (RN = onR f (S.getD b 0) (k + 1) RL) := by show _ = _; rw [onR_snoc, hRN, hRK]
          have hRN12 : RN.length = 12 := by rw [hRN, on1_len]; exact hRK12
          have iN := infoRgL hRN12
          have oN := oneI64 RN
          have hlN : (i64s RK).toArray.size = (i64s RN).toArray.size := by simp [i64s, hRK12, hRN12]
          have hpe : (((S.getD b 0 + k : Nat)) : Int) = zF + (k : Int) := by rw [HZF.out]; omega
          have eX : (inC X).toArray = #[.int .i64 X.op, .int .i64 X.id, .int .i64 X.a, .int .i64 X.b, .int .i64 X.imm, .int .i64 X.pc] := rfl
          have HIN1 : ∀ W, Below w.heap.size w W → Calls Tryd.prog 48 #[.agg FVL.toArray, .agg (i64s RK).toArray, .int .i64 (zF + (k : Int))] W fun e w' => e = .returned (.agg (inC X).toArray) ∧ Below W.heap.size W w' := fun W hW => by have := HIA.out W hW RK hRK12 _ hpc; rw [hpe, ← hX] at this; exact this
          rw [eX] at HIN1
          have HON1 : ∀ W, Below w.heap.size w W → Calls Tryd.prog 49 #[.agg FVL.toArray, .agg (i64s RK).toArray, .int .i64 (zF + (k : Int)), .int .i64 (zF + (k : Int) + 1)] W fun e w' => e = .returned (.agg (i64s RN).toArray) ∧ Below W.heap.size W w' := fun W hW => by have := HOA.out W hW RK hRK12 _ hpc; rw [hpe, ← hRN] at this; exact this
          obtain ⟨aoI, cI, eI⟩ := own_shape (HPj.out.ins.own b hbn)
          have hlk : (D2.ins b).length = k := by rw [HKj.out.2.2.1, insL_len]
          rw [hlk] at eI
          have HEI : Hid (L2.vi b = .slice aoI k cI) := eI
          have HOI : Hid (Vj.ownsRow w.heap.size 90 6 (.slice aoI k cI) k ((D2.ins b).flatMap inC)) := by have := HPj.out.ins.own b hbn; rw [eI] at this; simp only [hlk] at this; exact this
          have cI1 := HPj.out.cellI hbn
          rw [eI] at cI1
          have HNE1 : Hid (some GP ≠ (Value.slice aoI k cI).ownBlock) := by
            rcases own_apart HPj.out.row HOI.out (by decide) with e | e
            · cases e
            · exact e
          have hne1 := HNE1.out
          have hne2 : some w.heap.size ≠ (Value.slice aoI k cI).ownBlock := fun e => absurd (own_type HOI.out e.symm r1) (by decide)
          have hne3 : some G6 ≠ (Value.slice aoI k cI).ownBlock := fun e => absurd (own_type HOI.out e.symm r6) (by decide)
          have hne5 : some G5 ≠ (Value.slice aoI k cI).ownBlock := fun e => absurd (own_type HOI.out e.symm r5) (by decide)
          have HLK : Hid ((D2.ins b).length = k) := hlk
          have HIN : Hid (∀ W, Below w.heap.size w W → Calls Tryd.prog 48 #[.agg FVL.toArray, .agg (i64s RK).toArray, .int .i64 (zF + (k : Int))] W fun e w' => e = .returned (.agg #[.int .i64 X.op, .int .i64 X.id, .int .i64 X.a, .int .i64 X.b, .int .i64 X.imm, .int .i64 X.pc]) ∧ Below W.heap.size W w') := HIN1
          have HON : Hid (∀ W, Below w.heap.size w W → Calls Tryd.prog 49 #[.agg FVL.toArray, .agg (i64s RK).toArray, .int .i64 (zF + (k : Int)), .int .i64 (zF + (k : Int) + 1)] W fun e w' => e = .returned (.agg (i64s RN).toArray) ∧ Below W.heap.size W w') := HON1
          have hp0 : 0 ≤ zF + (k : Int) := by rw [← hpe]; omega
          have hp1 : zF + (k : Int) ≤ 2000 := by rw [← hpe]; omega
          have HPN : Hid (zF + (k : Int) + 1 = zF + ((k + 1 : Nat) : Int)) := by show _ = _; omega
          have HLT : Hid (k < T b - S.getD b 0) := hlt
          have hk1000 : k ≤ 1000 := by omega
          obtain ⟨AJ, hAJ⟩ : ∃ AJ, AJ = (D2.ins b).flatMap inC := ⟨_, rfl⟩
          have HAJ : Hid (AJ = (D2.ins b).flatMap inC) := hAJ
          rw [← hAJ] at HOI
          clear hRK hX hRN hpe eX HIN1 HON1 hlk eI hAJ hlt hpc hRK12 hRN12
          generalize zF + (k : Int) = p at *
          go_upto_region 10 with fail
          clear c51
          refine wp_region_last (S := fun W => Vj.grownBy W (Value.slice aoI k cI).ownBlock) _ 15 (by kernel_rfl) (by kernel_rfl) rfl (gb_below _ ((Below.refl _ _).drew)) (fun hHeld => ?_)
          simp only [List.pop_toArray, List.dropLast]
          refine wpAnyH_take (i := 0) (v := ?_) rfl (by kernel_rfl) (by kernel_rfl) (by kernel_rfl) (fun _ _ _ h => h) (Or.inl ⟨by rfl, ?_⟩) (by assumption) ?_
          rotate_left
          · (intro W hSW; go_simp; try (with_reducible rfl))
          (try simp only [zB])
          (try simp only [zA])
          refine wpAnyH_take (i := 1) (v := ?_) rfl (by kernel_rfl) (by kernel_rfl) (by kernel_rfl) (fun _ _ _ h => h) (Or.inl ⟨by rfl, ?_⟩) (by assumption) ?_
          rotate_left
          · (intro W hSW; go_simp; try (with_reducible rfl))
          (try simp only [zB])
          (try simp only [zA])
          refine wpAnyH_take (i := 2) (v := ?_) rfl (by kernel_rfl) (by kernel_rfl) (by kernel_rfl) (fun _ _ _ h => h) (Or.inl ⟨by rfl, ?_⟩) (by assumption) ?_
          rotate_left
          · (intro W hSW; go_simp; try (with_reducible rfl))
          (try simp only [zB])
          (try simp only [zA])
          refine wpAnyH_take (i := 3) (v := ?_) rfl (by kernel_rfl) (by kernel_rfl) (by kernel_rfl) (fun _ _ _ h => h) (Or.inl ⟨by rfl, ?_⟩) (by assumption) ?_
          rotate_left
          · (intro W hSW; go_simp; try (with_reducible rfl))
          (try simp only [zB])
          (try simp only [zA])
          refine wpAnyH_take (i := 4) (v := ?_) rfl (by kernel_rfl) (by kernel_rfl) (by kernel_rfl) (fun _ _ _ h => h) (Or.inl ⟨by rfl, ?_⟩) (by assumption) ?_
          rotate_left
          · (intro W hSW; go_simp; try (with_reducible rfl))
          (try simp only [zB])
          (try simp only [zA])
          refine wpAnyH_take (i := 5) (v := ?_) rfl (by kernel_rfl) (by kernel_rfl) (by kernel_rfl) (fun _ _ _ h => h) (Or.inl ⟨by rfl, ?_⟩) (by assumption) ?_
          rotate_left
          · (intro W hSW; go_simp; try (with_reducible rfl))
          (try simp only [zB])
          (try simp only [zA])
          refine wpAnyH_take (i := 6) (v := ?_) rfl (by kernel_rfl) (by kernel_rfl) (by kernel_rfl) (fun _ _ _ h => h) (Or.inl ⟨by rfl, ?_⟩) (by assumption) ?_
          rotate_left
          · (intro W hSW; have zz := hSW.cell cI1 hne1; go_simp; try (with_reducible rfl))
          (try simp only [zB])
          (try simp only [zA])
          refine wpAnyH_take (i := 7) (v := .agg FVL.toArray) rfl (by kernel_rfl) (by kernel_rfl) (by kernel_rfl) (fun _ _ _ h => h) (yieldsIf_load_mid (by rfl) 56 _ rfl _ 0 rfl FVL _ (fun W hSW j u hu => by rw [cell_of_row _ _ _ _ _ _ ((hSW.block _ (lt_of_block r1) hne2).trans r1)]; simpa using hu) Tryd.underlying56 rfl infoFn) (by assumption) ?_
          (try simp only [zB])
          (try simp only [zA])
          refine wpAnyH_take (i := 8) (v := .agg (i64s RK).toArray) rfl (by kernel_rfl) (by kernel_rfl) (by kernel_rfl) (fun _ _ _ h => h) (yieldsIf_load_mid (by rfl) 108 _ rfl _ 0 rfl (i64s RK) _ (fun W hSW j u hu => by rw [cell_of_row _ _ _ _ _ _ ((hSW.block _ (lt_of_block r6) hne3).trans r6)]; simpa using hu) Tryd.underlying108 rfl ipK) (by assumption) ?_
          (try simp only [zB])
          (try simp only [zA])
          refine wpAnyH_take (i := 9) (v := ?_) rfl (by kernel_rfl) (by kernel_rfl) (by kernel_rfl) (fun _ _ _ h => h) (Or.inl ⟨by rfl, ?_⟩) (by assumption) ?_
          rotate_left
          · (intro W hSW; go_simp; try (with_reducible rfl))
          (try simp only [zB])
          (try simp only [zA])
          refine wpAnyH_ready (rs := [10]) (by kernel_rfl) (by simp) ?_
          refine AllReadyH.cons rfl (fun K hK => ?_) AllReadyH.nil
          go_simp
          go_at_call 48
          refine (HIN.out Vj.drew (HBj.out.trans ((Below.refl _ _).drew))).mono ?_
          rintro e w3 ⟨rfl, hb3⟩
          have HS3 : Vj.grownBy w3 (Value.slice aoI k cI).ownBlock := gb_trans (gb_below _ ((Below.refl _ _).drew)) (gb_below _ hb3)
          dsimp only
          refine hK.out _ _ HS3 (fun _ => ?_)
          clear hK K hHeld
          have hHeld := HS3
          (try simp only [zA])
          refine wpAnyH_ready (rs := [11]) (by kernel_rfl) (by simp) ?_
          refine AllReadyH.cons rfl (fun K hK => ?_) AllReadyH.nil
          go_simp
          refine hK.out _ _ (gb_trans HS3 (gb_below _ ((Below.refl _ _).alloc (Nat.le_refl _) _))) (fun hHeld2 => ?_)
          clear hK K hHeld
          have hHeld := hHeld2
          (try simp only [zB])
          (try simp only [zA])
          refine wpAnyH_ready (rs := [12]) (by kernel_rfl) (by simp) ?_
          refine AllReadyH.cons rfl (fun K hK => ?_) AllReadyH.nil
          have own3 := ownsRow_below HOI.out (((Below.refl Vj.heap.size Vj).drew).trans hb3)
          refine step_append_lies _ (by rfl) (.tmp 50) (.tmp 55) 71 (by rfl) w.heap.size 90 iI _ 6 48 Tryd.underlying71 hiI hi0 hi1 hi2 rfl (by decide) (.slice aoI k cI) k AJ (by rfl) (own3.alloc _) ⟨w3.heap.size, 0, none⟩ 1 1 [.int .i64 X.op, .int .i64 X.id, .int .i64 X.a, .int .i64 X.b, .int .i64 X.imm, .int .i64 X.pc] (by rfl) rfl (news_list _ _ _ _ rfl) (by simp [Value.oneCell']) Nat.one_pos (by unfold maxLen; omega) (by omega) (by have := HBj.out.size; have := hb3.size; simp at this ⊢; omega) _ rfl ?_
          intro g4 c4 w5 hown5 hg5 hat5 hlt5
          have HS5 : Vj.grownBy w5 (Value.slice aoI k cI).ownBlock := gb_trans hHeld hg5
          refine hK.out _ _ HS5 (fun _ => ?_)
          clear hK K hHeld
          have hHeld := HS5
          (try simp only [zB])
          (try simp only [zA])
          refine wpAnyH_take (i := 13) (v := ?_) rfl (by kernel_rfl) (by kernel_rfl) (by kernel_rfl) (fun _ _ _ h => h) (Or.inl ⟨by rfl, ?_⟩) (by assumption) ?_
          rotate_left
          · (intro W hSW; go_simp; try (with_reducible rfl))
          (try simp only [zB])
          (try simp only [zA])
          refine wpAnyH_take (i := 14) (v := ?_) rfl (by kernel_rfl) (by kernel_rfl) (by kernel_rfl) (fun _ _ _ h => h) (Or.inl ⟨by rfl, ?_⟩) (by assumption) ?_
          rotate_left
          · (intro W hSW; go_simp; try (with_reducible rfl))
          (try simp only [zB])
          (try simp only [zA])
          refine wpAnyH_done (by kernel_rfl) ?_ _
          refine Or.inl ?_
          (try simp only [zB])
          (try simp only [zA])
          have zc : w5.cell? ⟨GP, b * 15 + 2, none⟩ = some (.slice aoI k cI) := HS5.cell cI1 hne1
          have hrw5 := HPj.out.row.kept HS5 (Or.inr hne1)
          have zf := hrw5.frozenAt (b * 15 + 2)
          have s5 := (HS5.block _ (lt_of_block r1) hne2).trans r1
          have s6 := (HS5.block _ (lt_of_block r6) hne3).trans r6
          have s5b := (HS5.block _ (lt_of_block r5) hne5).trans r5
          have hgb9 := gb_setCell w5 GP (b * 15 + 2) (.slice (some ⟨g4, 0, none⟩) (k + 1) c4)
          have n1 := (hgb9.block _ (lt_of_block s5) (fun e => absurd (own_type hrw5 (v := .slice (some ⟨GP, 0, none⟩) SL SL) e.symm s5) (by decide))).trans s5
          have n6 := (hgb9.block _ (lt_of_block s6) (fun e => absurd (own_type hrw5 (v := .slice (some ⟨GP, 0, none⟩) SL SL) e.symm s6) (by decide))).trans s6
          have n5 := (hgb9.block _ (lt_of_block s5b) (fun e => absurd (own_type hrw5 (v := .slice (some ⟨GP, 0, none⟩) SL SL) e.symm s5b) (by decide))).trans s5b
          have HP9 : Hid (PartsAt (w5.setCell ⟨GP, b * 15 + 2, none⟩ (.slice (some ⟨g4, 0, none⟩) (k + 1) c4)) w.heap.size GP SL { D2 with ins := upd D2.ins b (D2.ins b ++ [X]) } { L2 with vi := upd L2.vi b (.slice (some ⟨g4, 0, none⟩) (k + 1) c4) }) := by
            refine (HPj.out.addIns hbn (by rw [HEI.out]; exact HS5) (by rw [HLK.out, ← HAJ.out]; exact hown5) (fun x hx => ?_)).1
            have hx : g4 = x := Option.some.inj hx
            rw [HEI.out, ← hx]
            rcases hat5 with h | h
            · exact Or.inl h
            · right
              rw [h]
              have h1 := hb3.size
              simp at h1 ⊢
              omega
          have HB9 : Hid (Below w.heap.size w (w5.setCell ⟨GP, b * 15 + 2, none⟩ (.slice (some ⟨g4, 0, none⟩) (k + 1) c4))) := (HBj.out.grown HS5 HBj.out.size (fun x hx => (HOI.out.lt x hx).1)).setCell (HPj.out.row.lt GP rfl).1 _
          clear hHeld HS5 hown5 hg5 hat5 hlt5 own3 hrw5 s5 s6 s5b hgb9 r1 r5 r6 hne1 hne2 hne3 hne5 cI1 hb3 HS3
          go_simp
          go_upto_region 11 with fail
          generalize (w5.setCell ⟨GP, b * 15 + 2, none⟩ (.slice (some ⟨g4, 0, none⟩) (k + 1) c4)) = V9 at *
          clear zc zf
          have hon := HON.out V9 HB9.out
          go_upto_region 9 with (first
            | (refine wpList_load_row rfl 56 _ rfl _ rfl _ _ _ _ n1 Tryd.underlying56 rfl infoFa ?_)
            | (refine wpList_load_row rfl 108 _ rfl _ rfl _ _ _ _ n6 Tryd.underlying108 rfl ipK2 ?_)
            | (go_at_call 49; refine hon.mono ?_; rintro e w7 ⟨rfl, hb7⟩; have m6 := (hb7.block _ (lt_of_block n6)).trans n6)
            | (refine wpList_store_row rfl 108 (.tmp 6) _ rfl _ (i64s RN).toArray rfl rfl _ _ m6 iN hlN oN ?_))
          have gsr := gb_setRow w7 G6 (i64s RN).toArray
          have m1 := (hb7.block _ (lt_of_block n1)).trans n1
          have m5 := (hb7.block _ (lt_of_block n5)).trans n5
          have t1 := (gsr.block _ (lt_of_block m1) (fun e => by have e := Option.some.inj e; rw [e] at m1; rw [m1] at m6; simp at m6)).trans m1
          have t5 := (gsr.block _ (lt_of_block m5) (fun e => by have e := Option.some.inj e; rw [e] at m5; rw [m5] at m6; simp at m6)).trans m5
          have t6 : (w7.setRow G6 (i64s RN).toArray).heap[G6]? = some (.cells (i64s RN).toArray 108 (0, 0)) := setRow_heap _ _ _ _ _ _ m6
          have HG6 : Hid (w.heap.size ≤ G6) := HG6W.out
          have HPX : Hid (PartsAt (w7.setRow G6 (i64s RN).toArray) w.heap.size GP SL { D2 with ins := upd D2.ins b (D2.ins b ++ [X]) } { L2 with vi := upd L2.vi b (.slice (some ⟨g4, 0, none⟩) (k + 1) c4) }) := (HP9.out.below hb7).kept gsr (fun q cs t e hh => by
            have e := Option.some.inj e
            rw [← e, m6] at hh
            simp at hh
            right
            rw [← hh.2]; decide)
          have HBX : Hid (Below w.heap.size w (w7.setRow G6 (i64s RN).toArray)) := belowSK (HB9.out.trans (hb7.mono HB9.out.size)) HG6.out _
          clear gsr m1 m5 n1 n5 n6 m6 hb7 HP9 HB9 hon
          generalize (w7.setRow G6 (i64s RN).toArray) = VX at *
          go_wp2
          go_roundw
          case rel =>
            refine ⟨k + 1, _, _, by have := HLT.out; omega, by rw [← HPN.out], HPX.out, fun i hi => by have := HDj.out i hi; simpa [PDone, upd_other _ (show i ≠ b by omega)] using this, ⟨HKj.out.1, HKj.out.2.1, ?_, HKj.out.2.2.2⟩, t1, t5, by rw [← HRN.out]; exact t6, HBX.out⟩
            simp only [upd_same]
            rw [insL_succ, HKj.out.2.2.1, HXE.out, HRK.out]
          case measure => simp [intOf]; omega
        · have hlt2 : ¬ zF + (k : Int) < zT := by rw [HZF.out, HZT.out]; omega
          have hke : k = T b - S.getD b 0 := by omega
          have HDD : Hid (∀ i, i < b + 1 → PDone P f S T L D2 i) := fun i hi => by
            by_cases e : i = b
            · obtain ⟨e1, e2, e3, e4⟩ := HKj.out
              rw [e]
              exact ⟨e1, e2, by rw [e3, hke, HRL.out], by rw [e4, HZZ.out]⟩
            · exact HDj.out i (by omega)
          clear hke
          go_wp2
          go_roundw
          case rel => exact ⟨b + 1, D2, L2, by omega, by go_num, HPj.out, HDD.out, r1, HBj.out⟩
          case measure => simp [intOf]; omega
    · obtain rfl : b = SL := by omega
      go_wp2
      go_ret
      exact HPOST.out _ _ ⟨GP, D, Ly, rfl, HPA.out, HDN.out, HBR.out⟩
end Go.Proofs.YtldbmdgpdolaaaaDoor
