import Derived.Test.YtldbmdgpdolaaaaGreatDoorPXFoldFcOk
import Derived.Test.YtldbmdgpdolaaaaGreatDoorPXSsaBuild
import Derived.BigRegion
import Derived.Deep.DeepCutAuto
import Derived.Deep.LoopGhost
import Derived.Deep.RegionHeld3
import Derived.Deep.RegionWith
import Derived.Test.YtldbmdgpdolaaaaGreatDoorProg
import Derived.WalkLawsBesides
import Derived.Test.YtldbmdgpdolaaaaGreatDoorPGroupA
import Derived.Test.YtldbmdgpdolaaaaGreatDoorPXOpen
import Derived.Test.YtldbmdgpdolaaaaGreatDoorPGroupB
import Derived.Test.YtldbmdgpdolaaaaGreatDoorPXSsaFact
import Derived.Deep.AppendLies
import Derived.Test.YtldbmdgpdolaaaaGreatDoorPGroupP
import Derived.Test.YtldbmdgpdolaaaaGreatDoorPXOwnInts
import Derived.Lib.SlicesCompact
import Derived.Shelf.LaysC
import Derived.Shelf.LaysM
import Derived.Shelf.Slices.CompactI
import Derived.Shelf.Slices.In.SortNone
import Derived.Shelf.SlicesG.CompactI
import Derived.Shelf.Sort.Plain
import Derived.Shelf.SortM.Plain
import Derived.Shelf.SortM.SortNone
import Derived.Test.YtldbmdgpdolaaaaGreatDoorPXFoldMath
import Derived.Test.YtldbmdgpdolaaaaGreatDoorPXSsaCount
import Derived.Test.YtldbmdgpdolaaaaGreatDoorPXSsaMath
namespace Go.Proofs.YtldbmdgpdolaaaaGreatDoor
open Go Go.RowKit

theorem BlocksAt.congrT {w : World} {base g : Nat} {f : Fn} {S : List Nat} {T T' : Nat → Nat} {VV : Nat → Value} {LL : Nat → List Int} (h : BlocksAt w base g f S T' VV LL) (e : ∀ i, i < S.length → T i = T' i) : BlocksAt w base g f S T VV LL := by
  refine ⟨h.starts, fun i hi => by rw [e i hi]; exact h.ends i hi, ?_, h.slots, fun i hi => ?_⟩
  · have e1 : bCells (fun i => ((S.getD i 0 : Nat) : Int)) (fun i => ((T i : Nat) : Int)) VV S.length = bCells (fun i => ((S.getD i 0 : Nat) : Int)) (fun i => ((T' i : Nat) : Int)) VV S.length := bCells_same _ fun i hi => ⟨rfl, by rw [e i hi], rfl, rfl⟩
    have h1 := h.row
    unfold BlkRow at h1 ⊢
    rw [e1]; exact h1
  · obtain ⟨l1, l2⟩ := h.led i hi
    refine ⟨by rw [l1, e i hi], by rw [l2]; exact prevs_congr e i⟩
def metL (F : Ways) (PV : Nat → List Int) (n q : Nat) : List Value := (List.range n).map fun i => .bool (if i < q then metB F (PV i) i else false)
theorem metL_get (F : Ways) (PV : Nat → List Int) (n q i : Nat) (hi : i < n) : (metL F PV n q)[i]? = some (.bool (if i < q then metB F (PV i) i else false)) := by
  unfold metL
  rw [List.getElem?_map, List.getElem?_range hi]; rfl
theorem metL_len (F : Ways) (PV : Nat → List Int) (n q : Nat) : (metL F PV n q).length = n := by unfold metL; rw [List.length_map, List.length_range]
theorem metL_set (F : Ways) (PV : Nat → List Int) (n q : Nat) (hq : q < n) : (metL F PV n q).set q (.bool (metB F (PV q) q)) = metL F PV n (q + 1) := by
  apply List.ext_getElem?
  intro i
  by_cases hi : i < n
  · rw [metL_get _ _ _ _ _ hi]
    by_cases e : i = q
    · subst e
      rw [List.getElem?_set_self (by rw [metL_len]; exact hq), if_pos (by omega)]
    · rw [List.getElem?_set_ne (by omega), metL_get _ _ _ _ _ hi]
      by_cases h1 : i < q
      · rw [if_pos h1, if_pos (by omega)]
      · rw [if_neg h1, if_neg (by omega)]
  · rw [List.getElem?_eq_none (by rw [List.length_set, metL_len]; omega), List.getElem?_eq_none (by rw [metL_len]; omega)]
theorem infoBoolF : (Tryz.prog.info? 4).map (fun i => (i.zero, i.size, i.bytes)) = some (some (.bool false), 1, 1) := by kernel_rfl
theorem made_metL (F : Ways) (PV : Nat → List Int) (n : Nat) : (madeCells (Value.bool false).cells (n * 1)).toList = metL F PV n 0 := by
  apply List.ext_getElem?
  intro i
  by_cases hi : i < n
  · rw [metL_get _ _ _ _ _ hi, if_neg (Nat.not_lt_zero _)]
    simp [madeCells, Value.cells, hi, Nat.mod_one]
  · rw [List.getElem?_eq_none (by simp [madeCells]; omega), List.getElem?_eq_none (by rw [metL_len]; omega)]
def FactsPost (w : World) (P : List Fn) (f : Fn) (e : Ending) (w' : World) : Prop :=
  ∃ S T L, ∃ pn : Nat, ∃ g D ar, ∃ FB MR : Nat, ∃ (F : Facts) (G : Ways), e = .returned (.tuple #[.slice (some ⟨FB, 0, none⟩) (idsD pn S.length D).length (idsD pn S.length D).length, .slice (some ⟨MR, 0, none⟩) S.length S.length, .int .i64 0]) ∧ SsaIs P f S T L pn g D ∧ (fcOf f S T pn g D ar).know.Inv F G ∧ (fcOf f S T pn g D ar).know.Closed F G ∧
    w'.heap[FB]? = some (.cells (gC (fun v => factC (F v)) (idsD pn S.length D).length).toArray 65 (0, 0)) ∧ w'.heap[MR]? = some (.cells (metL G (prevs f S T) S.length S.length).toArray 4 (0, 0)) ∧ w.heap.size ≤ FB ∧ w.heap.size ≤ MR ∧ FB ≠ MR ∧ Below w.heap.size w w'
theorem KnAt.keptR {w w' : World} {K gp n gB VN FB MB r : Nat} {F : Facts} {G : Ways} (h : KnAt w K gp n gB VN FB MB F G) (hg : w.grownBy w' (some r)) (h1 : K ≠ r) (h2 : FB ≠ r) (h3 : MB ≠ r) : KnAt w' K gp n gB VN FB MB F G := by
  obtain ⟨D, ⟨es, cl, hh, r⟩, hD⟩ := h.ways
  exact ⟨gblock hg h.box h1, gblock hg h.facts h2, D, ⟨es, cl, gblock hg hh h3, r⟩, hD⟩
set_option maxRecDepth 100000 in
set_option maxHeartbeats 8000000 in
theorem Facts_right (P : List Fn) (hR : ProofAns P 0) (k : Nat) (hk : k < P.length) (v : Value) (w : World) (ht : TabOk w) (hc : CallOk w) (hG : KnowG w) (hv : ProgVal w v P) :
    Calls Tryz.prog 14 #[.agg #[v], .int .i64 k] w (FactsPost w P P[k]) := by
  have HPOST : Hid (∀ e w', (∃ S T L, ∃ pn : Nat, ∃ g D ar, ∃ FB MR : Nat, ∃ (F : Facts) (G : Ways), e = .returned (.tuple #[.slice (some ⟨FB, 0, none⟩) (idsD pn S.length D).length (idsD pn S.length D).length, .slice (some ⟨MR, 0, none⟩) S.length S.length, .int .i64 0]) ∧ SsaIs P P[k] S T L pn g D ∧ (fcOf P[k] S T pn g D ar).know.Inv F G ∧ (fcOf P[k] S T pn g D ar).know.Closed F G ∧
    w'.heap[FB]? = some (.cells (gC (fun v => factC (F v)) (idsD pn S.length D).length).toArray 65 (0, 0)) ∧ w'.heap[MR]? = some (.cells (metL G (prevs P[k] S T) S.length S.length).toArray 4 (0, 0)) ∧ w.heap.size ≤ FB ∧ w.heap.size ≤ MR ∧ FB ≠ MR ∧ Below w.heap.size w w') → FactsPost w P P[k] e w') := fun _ _ h => h
  have HFO : Hid (FlowOk P P[k]) := flowOk_of hR (List.getElem_mem hk)
  have HU : Hid (∀ q, q < P[k].code.length → Way P[k] 63 q → ∀ r, r < 12 → (rdMask P (insD P[k] q)).testBit r = true → ¬ Way P[k] r q) := right_reads hR (List.getElem_mem hk)
  have hB0 : (w.alloc (.cells #[v] 29)).heap[w.heap.size]? = some (.cells #[v] 29 (0, 0)) := heap_alloc_last _ _
  have hbx : Below w.heap.size w (w.alloc (.cells #[v] 29)) := (Below.refl _ _).alloc (Nat.le_refl _) _
  have HB0 : Hid (Below w.heap.size w (w.alloc (.cells #[v] 29))) := hbx
  have hbd := Build_right P hR k hk v _ (ht.below hbx) (hc.below hbx) (hv.keeps (keeps_below hbx))
  have HBL : Hid (∀ W, Below w.heap.size w W → Calls Tryz.prog 20 #[.agg #[v], .int .i64 k] W fun e w' => ∃ g S T VV LL, e = .returned (.tuple #[.slice (some ⟨g, 0, none⟩) S.length S.length, .int .i64 0]) ∧ BlocksAt w' W.heap.size g P[k] S T VV LL ∧ W.heap.size ≤ g ∧ Below W.heap.size W w') := fun W hW => Blocks_right P hR k hk v W (ht.below hW) (hc.below hW) (hv.keeps (keeps_below hW))
  have HKG : Hid (∀ W, Below w.heap.size w W → KnowG W) := fun W hW => hG.below hW
  obtain ⟨iB, hiB, hzB0, hzB1, hzB2⟩ := info_parts infoBoolF
  obtain ⟨ao, n, cap, rfl⟩ := hv.shape
  clear hR ht hc hv hbx hG
  go_enter Tryz.func14, Tryz.ntmps14
  go_upto_region 1 with fail
  generalize (w.alloc (.cells #[.slice ao n cap] 29)) = V at *
  have b0 : V.cell? ⟨w.heap.size, 0, none⟩ = some (.slice ao n cap) := by rw [cell_of_row _ _ _ _ _ _ hB0]; rfl
  go_upto_region 2 with (go_at_call 15; refine hbd.mono ?_; rintro e w1 hp; obtain ⟨S, T, L, pn, g, D, ar, gp, Ly, rfl, his, hpa, hb1⟩ := hp)
  have HIS : Hid (SsaIs P P[k] S T L pn g D) := his
  have r7 : (w1.alloc (.cells #[.int .i64 (pn : Int), .int .i64 ((idsD pn S.length D).length : Int), .slice (some ⟨gp, 0, none⟩) S.length S.length] 55)).heap[w1.heap.size]? = some (.cells #[.int .i64 (pn : Int), .int .i64 ((idsD pn S.length D).length : Int), .slice (some ⟨gp, 0, none⟩) S.length S.length] 55 (0, 0)) := heap_alloc_last _ _
  have hbb : Below w1.heap.size w1 (w1.alloc (.cells #[.int .i64 (pn : Int), .int .i64 ((idsD pn S.length D).length : Int), .slice (some ⟨gp, 0, none⟩) S.length S.length] 55)) := (Below.refl _ _).alloc (Nat.le_refl _) _
  have hpa1 := hpa.below hbb
  have b1 := keeps_below hbb _ _ (keeps_below hb1 _ _ b0)
  have HBW : Hid (Below w.heap.size w (w1.alloc (.cells #[.int .i64 (pn : Int), .int .i64 ((idsD pn S.length D).length : Int), .slice (some ⟨gp, 0, none⟩) S.length S.length] 55))) := HB0.out.trans ((hb1.trans (hbb.mono hb1.size)).mono HB0.out.size)
  clear his hpa hb1 hbb b0 hB0 hbd HB0
  go_upto_region 4 with fail
  generalize (w1.alloc (.cells #[.int .i64 (pn : Int), .int .i64 ((idsD pn S.length D).length : Int), .slice (some ⟨gp, 0, none⟩) S.length S.length] 55)) = V1 at *
  generalize w1.heap.size = P7 at *
  have HPA : Hid (PartsAt V1 V.heap.size gp S.length (finD pn S.length g D ar) Ly) := hpa1
  have hbl := HBL.out V1 HBW.out
  clear hpa1
  go_upto_region 5 with (go_at_call 20; refine hbl.mono ?_; rintro e w2 hp; obtain ⟨gB, S', T', VV, LL, rfl, hblk, hgB, hb2⟩ := hp; obtain ⟨rfl, hT⟩ := HIS.out.ok.same hblk.ok)
  have HBW2 : Hid (Below w.heap.size w w2) := HBW.out.trans (hb2.mono HBW.out.size)
  have r72 := (hb2.block _ (lt_of_block r7)).trans r7
  have HOK : Hid (fcOf P[k] S T pn g D ar).Ok := HIS.out.fcOk HFO.out HU.out
  have HMEM : Hid (FcMem (fcOf P[k] S T pn g D ar) gp gB (fun i => ((S.getD i 0 : Nat) : Int)) (fun i => ((T i : Nat) : Int)) VV w2) := HIS.out.fcMem HFO.out HU.out (HPA.out.below hb2) (hblk.congrT hT) (HKG.out w2 HBW2.out)
  have hl : Calls Tryz.prog 30 #[.agg #[.int .i64 (pn : Int), .int .i64 ((idsD pn S.length D).length : Int), .slice (some ⟨gp, 0, none⟩) S.length S.length], .slice (some ⟨gB, 0, none⟩) S.length S.length] w2 (LearnPost w2 (fcOf P[k] S T pn g D ar) gp gB) := learn_any w2 HOK.out HMEM.out (HKG.out w2 HBW2.out) (by
    have := idsTo_mono pn D.ph D.ins (Nat.zero_le S.length)
    rw [idsTo_zero] at this
    exact this)
  have HNB : Hid (S.length ≤ 40) := HOK.out.n40
  clear hbl r7 b1 hblk hgB hT hb2 HPA HBL HBW
  have hn40 := HNB.out
  go_upto_region 6 with (first
    | (refine wpList_load_row rfl 55 _ rfl _ rfl _ _ _ _ r72 Tryz.underlying55 rfl infoSsa ?_)
    | (go_at_call 30; refine hl.mono ?_; rintro e w3 hp; obtain ⟨K, FB, MB, F, G, rfl, hkn, hb3, hgo, hinv, hclo, hfb⟩ := hp))
  have HKN : Hid (KnAt w3 K gp S.length gB (idsD pn S.length D).length FB MB F G) := hkn
  have HB3 : Hid (Below w2.heap.size w2 w3) := hb3
  have HIC : Hid ((fcOf P[k] S T pn g D ar).know.Inv F G ∧ (fcOf P[k] S T pn g D ar).know.Closed F G) := ⟨hinv, hclo⟩
  have HFB : Hid (w2.heap.size ≤ FB) := hfb
  have HLT : Hid (K ≠ w3.heap.size ∧ FB ≠ w3.heap.size ∧ MB ≠ w3.heap.size) := ⟨Nat.ne_of_lt (lt_of_block hkn.box), Nat.ne_of_lt (lt_of_block hkn.facts), by obtain ⟨D', ⟨es, cl, hh, r⟩, hD'⟩ := hkn.ways; exact Nat.ne_of_lt (lt_of_block hh)⟩
  clear hl r72 hkn hb3 hgo hinv hclo hfb
  go_upto_region 7 with (at_make; refine wpList_make_full _ rfl (.tmp 33) (.tmp 33) 32 rfl 0 4 iB _ 1 Tryz.underlying32 hiB hzB0 hzB1 .i64 .i64 _ _ S.length rfl rfl (by simp) (by simp) (by rw [hzB2]; omega) (by unfold maxLen; omega) (Nat.zero_le _) ?_; intro w4 hown4 hg4)
  rw [made_metL G (prevs P[k] S T) S.length] at hown4
  have hr4 := own_heapG hown4
  have hbg := below_grown hg4
  have HK4 : Hid (KnAt w4 K gp S.length gB (idsD pn S.length D).length FB MB F G) := HKN.out.below hbg
  have HB4 : Hid (Below w2.heap.size w2 w4) := HB3.out.trans (hbg.mono HB3.out.size)
  have HR4 : Hid (w4.heap[w3.heap.size]? = some (.cells (metL G (prevs P[k] S T) S.length 0).toArray 4 (0, 0))) := hr4
  clear hown4 hg4 hr4 hbg HKN hiB hzB0 hzB1 hzB2
  have HMR : Hid (w2.heap.size ≤ w3.heap.size) := HB3.out.size
  generalize w3.heap.size = MR at *
  clear HB3
  go_upto_region 8 with fail
  go_loopw [37] (fun i wr => ∃ q : Nat, q ≤ S.length ∧ i = .int .i64 q ∧ KnAt wr K gp S.length gB (idsD pn S.length D).length FB MB F G ∧ Below w2.heap.size w2 wr ∧ wr.heap[MR]? = some (.cells (metL G (prevs P[k] S T) S.length q).toArray 4 (0, 0))) (fun i _ => S.length - (intOf i).toNat)
  case atStart => exact ⟨0, Nat.zero_le _, rfl, HK4.out, HB4.out, HR4.out⟩
  case round =>
    clear HK4 HB4 HR4
    obtain ⟨q, hq, rfl, hk5, hb5, hr5⟩ := hrel
    rename World => w5
    have HK5 : Hid (KnAt w5 K gp S.length gB (idsD pn S.length D).length FB MB F G) := hk5
    have HB5 : Hid (Below w2.heap.size w2 w5) := hb5
    clear hk5 hb5
    by_cases hlq : q < S.length
    · have hqI : (q : Int) < S.length := by omega
      have HQ : Hid (q < S.length) := hlq
      have hpv := HOK.out.pv q hlq
      obtain ⟨hblr, -, hbl⟩ := HMEM.out.blk w5 HB5.out
      have hmet : Calls Tryz.prog 31 #[.pointer (some ⟨K, 0, none⟩), .int .i64 q] w5 fun e w' => e = .returned (.bool (metB G (prevs P[k] S T q) q)) ∧ Below w5.heap.size w5 w' := met_any w5 HK5.out q hlq (by omega) _ _ (blk_prev hblr q hlq) (hbl q hlq).2 hpv.2 hpv.1
      obtain ⟨mb, hmb⟩ : ∃ mb, mb = metB G (prevs P[k] S T q) q := ⟨_, rfl⟩
      rw [← hmb] at hmet
      have HMB : Hid (metB G (prevs P[k] S T q) q = mb) := hmb.symm
      have HR5 : Hid (w5.heap[MR]? = some (.cells (metL G (prevs P[k] S T) S.length q).toArray 4 (0, 0))) := hr5
      clear hpv hblr hbl hmb hr5
      go_wp2_with (go_at_call 31; refine hmet.mono ?_; rintro e w6 ⟨rfl, hb6⟩; have r6 := (hb6.block _ (lt_of_block HR5.out)).trans HR5.out; have c0 : w6.cell? ⟨MR, q, none⟩ = some (.bool false) := (by rw [cell_of_row _ _ _ _ _ _ r6, List.getElem?_toArray, metL_get _ _ _ _ _ HQ.out, if_neg (Nat.lt_irrefl _)]); have f0 : w6.frozen? ⟨MR, q, none⟩ = false := frozen_of_row _ _ _ _ _ r6; have HB6 : Hid (Below w5.heap.size w5 w6) := hb6; clear hb6)
      have hs := heap_setCell_same w6 MR q _ _ (.bool mb) r6
      have hg : w6.grownBy (w6.setCell ⟨MR, q, none⟩ (.bool mb)) (some MR) := gb_setCells MR [.bool mb] q w6
      have HFIN : Hid (KnAt (w6.setCell ⟨MR, q, none⟩ (.bool mb)) K gp S.length gB (idsD pn S.length D).length FB MB F G ∧ Below w2.heap.size w2 (w6.setCell ⟨MR, q, none⟩ (.bool mb)) ∧ (w6.setCell ⟨MR, q, none⟩ (.bool mb)).heap[MR]? = some (.cells (metL G (prevs P[k] S T) S.length (q + 1)).toArray 4 (0, 0))) := ⟨(HK5.out.below HB6.out).keptR hg HLT.out.1 HLT.out.2.1 HLT.out.2.2, below_grownK (HB5.out.trans (HB6.out.mono HB5.out.size)) hg HMR.out (HB5.out.trans (HB6.out.mono HB5.out.size)).size, by rw [hs, List.setIfInBounds_toArray, ← HMB.out, metL_set _ _ _ _ HQ.out]⟩
      clear hs hg r6 c0 f0
      go_roundw
      case rel => exact ⟨q + 1, by omega, by go_num, HFIN.out.1, HFIN.out.2.1, HFIN.out.2.2⟩
      case measure => simp [intOf]; omega
    · obtain rfl : q = S.length := by omega
      have HR5 : Hid (w5.heap[MR]? = some (.cells (metL G (prevs P[k] S T) S.length S.length).toArray 4 (0, 0))) := hr5
      have k2 : w5.cell? ⟨K, 2, none⟩ = some (.slice (some ⟨FB, 0, none⟩) (idsD pn S.length D).length (idsD pn S.length D).length) := by rw [cell_of_row _ _ _ _ _ _ HK5.out.box]; rfl
      clear hr5
      go_wp2
      (try simp only [Exit.inBlock, Exit.then])
      exact bodyPost_ret (results_tmp3 rfl _ _ _) rfl (HPOST.out _ _ ⟨S, T, L, pn, g, D, ar, FB, MR, F, G, rfl, HIS.out, HIC.out.1, HIC.out.2, HK5.out.facts, HR5.out, Nat.le_trans HBW2.out.size HFB.out, Nat.le_trans HBW2.out.size HMR.out, HLT.out.2.1, HBW2.out.trans (HB5.out.mono HBW2.out.size)⟩)
end Go.Proofs.YtldbmdgpdolaaaaGreatDoor
namespace Go.Proofs.YtldbmdgpdolaaaaGreatDoor
open Go Go.RowKit

theorem met_first {f : Fn} {S : List Nat} {T : Nat → Nat} {pn : Nat} {g : List (Int × Int)} {D : PDat} {ar : Nat → List Int} {F : Facts} {G : Ways} (hi : (fcOf f S T pn g D ar).know.Inv F G) : metB G (prevs f S T 0) 0 = true :=
  (FC.met_iff (c := fcOf f S T pn g D ar)).2 ⟨-1, (prevs_mem _).2 (Or.inl ⟨rfl, rfl⟩), hi.start⟩
theorem ins_fact {c : FC} {F : Facts} {G : Ways} (hi : c.know.Inv F G) (hk : c.know.Closed F G) {b : Nat} (hb : b < c.n) {x : InsD} (hx : x ∈ c.IN b) (hne : x.id ≠ -1) : F x.id.toNat = if metB G (c.PV b) b = true then madeF x (rdF F x.a) (rdF F x.b) else .never := by
  have hs : c.know.site (insS b x) := ⟨b, hb, Or.inr ⟨x, hx, hne, rfl⟩⟩
  by_cases hm : metB G (c.PV b) b = true
  · rw [if_pos hm]
    have h1 : (madeF x (rdF F x.a) (rdF F x.b)).le (F x.id.toNat) := hk.site _ hs (FC.met_iff.1 hm)
    by_cases hn : F x.id.toNat = .never
    · rw [hn] at h1 ⊢
      exact (FV.le_never h1).symm
    · exact FV.le_antisymm (hi.asc _ hs hn).2 h1
  · rw [if_neg hm]
    by_cases hn : F x.id.toNat = .never
    · exact hn
    · exact absurd (FC.met_iff.2 (hi.asc _ hs hn).1) hm
theorem phi_fact {c : FC} {F : Facts} {G : Ways} (hi : c.know.Inv F G) (hk : c.know.Closed F G) {b : Nat} (hb : b < c.n) {p : PhiD} (hp : p ∈ c.PH b) : F p.id.toNat = if metB G (c.PV b) b = true then comesT F G b (c.PV b) p.args (c.PV b).length else .never := by
  have hs : c.know.site (phiS c b p) := ⟨b, hb, Or.inl ⟨p, hp, rfl⟩⟩
  by_cases hm : metB G (c.PV b) b = true
  · rw [if_pos hm]
    have h1 : (comesT F G b (c.PV b) p.args (c.PV b).length).le (F p.id.toNat) := hk.site _ hs (FC.met_iff.1 hm)
    by_cases hn : F p.id.toNat = .never
    · rw [hn] at h1 ⊢
      exact (FV.le_never h1).symm
    · exact FV.le_antisymm (hi.asc _ hs hn).2 h1
  · rw [if_neg hm]
    by_cases hn : F p.id.toNat = .never
    · exact hn
    · exact absurd (FC.met_iff.2 (hi.asc _ hs hn).1) hm
theorem set_fact {c : FC} {F : Facts} {G : Ways} (hi : c.know.Inv F G) (hk : c.know.Closed F G) {b : Nat} (hb : b < c.n) {x : InsD} (hx : x ∈ c.IN b) (hne : x.id ≠ -1) (ho : x.op = 1) (ha : x.a = -1) (hbb : x.b = -1) : F x.id.toNat = if metB G (c.PV b) b = true then .known x.imm else .never := by
  rw [ins_fact hi hk hb hx hne, ha, hbb]
  have e : rdF F (-1) = .known 0 := if_pos rfl
  rw [e]
  have e2 : madeF x (.known 0) (.known 0) = .known x.imm := by
    unfold madeF
    rw [if_neg (by rw [ho]; simp), if_neg (by rw [ho]; simp), ho]
    rfl
  rw [e2]
end Go.Proofs.YtldbmdgpdolaaaaGreatDoor
namespace Go.Proofs.YtldbmdgpdolaaaaGreatDoor
open Go Go.RowKit

theorem reads_regs {P : List Fn} (h : codeProg P = 0) {f : Fn} (hf : f ∈ P) {x : Ins} (hx : x ∈ f.code) : ∀ r ∈ readsL P x, 0 ≤ r ∧ r < f.regs := by
  obtain ⟨h1, h4, hall⟩ := codeProg_zero h
  obtain ⟨_, _, _, _, _, _, _, hi⟩ := codeFunc_zero (hall f hf)
  have hz := hi x hx
  rw [instr_same] at hz
  unfold refInstr at hz
  by_cases k1 : inB x.op 1 19 = false
  · rw [if_pos k1] at hz; cases hz
  rw [if_neg k1] at hz
  by_cases k2 : refOk1 x f.regs = false
  · rw [if_pos k2] at hz; cases hz
  have k2 : refOk1 x f.regs = true := by simpa using k2
  simp only [refOk1, Bool.and_eq_true] at k2
  obtain ⟨⟨_, m2⟩, m3⟩ := k2
  have isA : rdA P x = true → readsAB x.op = true := fun h => by
    unfold rdA at h
    split at h
    · rename_i e; rw [e]; decide
    · exact h
  have isB : rdB P x = true → readsBB x.op = true := fun h => by
    unfold rdB at h
    split at h
    · rename_i e; rw [e]; decide
    · exact h
  intro r hr
  unfold readsL at hr
  rcases List.mem_append.1 hr with hr | hr
  · split at hr
    · rename_i ha
      simp at hr
      subst hr
      rw [isA ha] at m2
      have : 0 ≤ x.a ∧ x.a ≤ f.regs - 1 := by simpa [regMayB, inB] using m2
      omega
    · simp at hr
  · split at hr
    · rename_i ha
      simp at hr
      subst hr
      rw [isB ha] at m3
      have : 0 ≤ x.b ∧ x.b ≤ f.regs - 1 := by simpa [regMayB, inB] using m3
      omega
    · simp at hr
theorem prove_zero {P : List Fn} (h : codeProg P = 0) {f : Fn} (hf : f ∈ P) {L : List Int} (hL : SureSpec f L) (hr : ∀ pc, pc < f.code.length → ∀ r ∈ readsL P (insD f pc), ¬ Way f r.toNat pc) (he : ¬ Way f 63 f.code.length) : proveE P f L = 0 := by
  have hfo := (fnOk_of h hf).1
  rw [prove_good, if_pos]
  · rcases hL.2 f.code.length (by omega) with ⟨_, e⟩ | ⟨hw, _⟩
    · exact e
    · exact absurd hw he
  · intro k hk
    rcases hL.2 k (by omega) with ⟨_, e⟩ | ⟨_, m, hm, e, hb⟩
    · rw [e]; rfl
    · rw [e]
      unfold badB
      have hd : decide (0 ≤ (m : Int)) = true := by simp
      rw [hd, Bool.true_and, List.any_eq_false]
      intro r hr2
      have hrr := reads_regs h hf (by rw [insD_eq hk] at hr2; exact List.getElem_mem hk) r (by rw [insD_eq hk] at hr2; exact hr2)
      have hregs : f.regs ≤ 12 := (codeFunc_zero ((codeProg_zero h).2.2 f hf)).2.1
      rw [hasB_bit]
      have := (hb r.toNat (by omega)).2 (hr k hk r hr2)
      simp [this]
theorem checks_all {P : List Fn} : ∀ {fs : List Fn}, (∀ f ∈ fs, ProvesTo P f 0) → ChecksTo P fs 0
  | [], _ => rfl
  | f :: fs, h => ⟨0, h f (by simp), Or.inr ⟨rfl, checks_all fun g hg => h g (by simp [hg])⟩⟩
end Go.Proofs.YtldbmdgpdolaaaaGreatDoor
namespace Go.Proofs.YtldbmdgpdolaaaaGreatDoor
open Go Go.RowKit

theorem FromR.congr {f : Fn} {S : List Nat} {T T' : Nat → Nat} {L : List Int} (hT : ∀ i, i < S.length → T i = T' i) {b : Nat} {l : List Int} (h : FromR f S T L b l) : FromR f S T' L b l := by
  have hp : ∀ b, prevs f S T' b = prevs f S T b := fun b => prevs_congr hT b
  induction h with
  | joins h => exact .joins (by rw [hp]; exact h)
  | first h => exact .first (by rw [hp]; exact h)
  | @one b j l h hf ih =>
    have hj : j < S.length := by
      have hm : ((j : Nat) : Int) ∈ prevs f S T b := by rw [h]; simp
      rcases (prevs_mem _).1 hm with ⟨-, e⟩ | ⟨j', hj', e, -⟩
      · omega
      · have : j = j' := by omega
        rw [this]; exact hj'
    rw [hT j hj]
    exact .one (by rw [hp]; exact h) ih
theorem fromR_congr {P : List Fn} {f : Fn} (ok : FlowOk P f) {S : List Nat} {T T' : Nat → Nat} (hB : BlkOk f S T) (L : List Int) (hT : ∀ i, i < S.length → T i = T' i) {b : Nat} (hb : b < S.length) : fromR f S T' L b = fromR f S T L b :=
  fromR_eq ((fromR_is ok hB L hb).congr hT)
theorem behR_congr {P : List Fn} {f : Fn} (ok : FlowOk P f) {S : List Nat} {T T' : Nat → Nat} (hB : BlkOk f S T) (L : List Int) (hT : ∀ i, i < S.length → T i = T' i) {b : Nat} {z : Int} (hz : z ∈ prevs f S T b) : behR f S T' L z = behR f S T L z := by
  unfold behR
  split
  · rfl
  · rename_i h
    rcases (prevs_mem z).1 hz with ⟨-, e⟩ | ⟨j, hj, rfl, -⟩
    · exact absurd e h
    · rw [Int.toNat_natCast, fromR_congr ok hB L hT hj, hT j hj]
theorem phiM_congr {P : List Fn} {f : Fn} (ok : FlowOk P f) {S : List Nat} {T T' : Nat → Nat} (hB : BlkOk f S T) (L : List Int) (hT : ∀ i, i < S.length → T i = T' i) {b : Nat} (hb : b < S.length) : phiM f S T' L b = phiM f S T L b := by
  have hp : prevs f S T' b = prevs f S T b := prevs_congr hT b
  have h1 : ∀ r, phi1 f S T' L b r = phi1 f S T L b r := fun r => by
    unfold phi1
    rw [fromR_congr ok hB L hT hb, hp]
    congr 1
    exact List.map_congr_left fun z hz => by rw [behR_congr ok hB L hT hz]
  have h2 : ∀ r, phiTo f S T' L b r = phiTo f S T L b r := fun r => by
    induction r with
    | zero => rfl
    | succ r ih => rw [phiTo, phiTo, ih, h1, fromR_congr ok hB L hT hb]
  unfold phiM
  rw [hp, h2]
theorem idsTo_congr (pn : Nat) {PH PH' : Nat → List PhiD} {IN IN' : Nat → List InsD} : ∀ {n : Nat}, (∀ b, b < n → PH b = PH' b) → (∀ b, b < n → IN b = IN' b) → idsTo pn PH IN n = idsTo pn PH' IN' n
  | 0, _, _ => rfl
  | n + 1, h1, h2 => by
    rw [idsTo, idsTo, idsTo_congr pn (fun b hb => h1 b (by omega)) (fun b hb => h2 b (by omega)), h1 n (by omega), h2 n (by omega)]
theorem SsaIs.same {P : List Fn} {f : Fn} (ok : FlowOk P f) {S S' : List Nat} {T T' : Nat → Nat} {L L' : List Int} {pn pn' : Nat} {g g' : List (Int × Int)} {D D' : PDat} (h : SsaIs P f S T L pn g D) (h' : SsaIs P f S' T' L' pn' g' D') :
    S = S' ∧ (∀ i, i < S.length → T i = T' i) ∧ L = L' ∧ pn = pn' ∧ g = g' ∧ (∀ b, b < S.length → D.ph b = D'.ph b) ∧ (∀ b, b < S.length → D.ins b = D'.ins b) ∧ idsD pn S.length D = idsD pn' S'.length D' := by
  obtain ⟨rfl, hT⟩ := h.ok.same h'.ok
  obtain rfl := spec_unique h.live h'.live
  have e1 : pn = pn' := by have := h.par; have := h'.par; omega
  subst e1
  have hph : phsOf (phiM f S T' L) S.length = phsOf (phiM f S T L) S.length := by
    unfold phsOf
    exact List.map_congr_left fun b hb => phiM_congr ok h.ok L hT (List.mem_range.1 hb)
  have hs' := h'.settle
  rw [hph] at hs'
  obtain ⟨e2, e3⟩ := h.settle.unique hs'
  have e4 : ∀ b, b < S.length → D.ph b = D'.ph b := fun b hb => phsOf_at e3 hb
  have e5 : ∀ b, b < S.length → D.ins b = D'.ins b := fun b hb => by
    rw [h.left.ins b hb, h'.left.ins b hb, fromR_congr ok h.ok L hT hb, hT b hb]
  exact ⟨rfl, hT, rfl, rfl, e2, e4, e5, idsTo_congr pn e4 e5⟩
end Go.Proofs.YtldbmdgpdolaaaaGreatDoor
namespace Go.Proofs.YtldbmdgpdolaaaaGreatDoor
open Go Go.RowKit

structure MetOk (n : Nat) (M : Nat → List Int) : Prop where
  rng : ∀ u, u < n → ∀ z ∈ M u, 0 ≤ z ∧ z < (n : Int)
  out : ∀ u, n ≤ u → M u = []
  even : ∀ u v : Nat, (v : Int) ∈ M u → (u : Int) ∈ M v
  self : ∀ u : Nat, ¬ (u : Int) ∈ M u
def IsLow (T : List Nat) (p : Nat) : Prop := p ∉ T ∧ ∀ q, q < p → q ∈ T
theorem IsLow.unique {T : List Nat} {p q : Nat} (hp : IsLow T p) (hq : IsLow T q) : p = q := by
  rcases Nat.lt_trichotomy p q with h | h | h
  · exact absurd (hq.2 p h) hp.1
  · exact h
  · exact absurd (hp.2 q h) hq.1
theorem all_below_len : ∀ (p : Nat) (T : List Nat), (∀ q, q < p → q ∈ T) → p ≤ T.length
  | 0, _, _ => Nat.zero_le _
  | p + 1, T, h => by
    have hp : p ∈ T := h p (by omega)
    have h1 : p ≤ (T.erase p).length := all_below_len p _ fun q hq => (List.mem_erase_of_ne (by omega)).2 (h q (by omega))
    rw [List.length_erase_of_mem hp] at h1
    have := List.length_pos_of_mem hp
    omega
theorem IsLow.le {T : List Nat} {p : Nat} (h : IsLow T p) : p ≤ T.length := all_below_len p T h.2
def takenL (A : Nat → Nat) (v : Nat) (l : List Int) : List Nat := (l.filter fun z => decide (z < (v : Int))).map fun z => A z.toNat
theorem takenL_mem {A : Nat → Nat} {v : Nat} {l : List Int} {p : Nat} : p ∈ takenL A v l ↔ ∃ z ∈ l, z < (v : Int) ∧ A z.toNat = p := by
  simp only [takenL, List.mem_map, List.mem_filter, decide_eq_true_eq, and_assoc]
def PlOk (n : Nat) (C : Nat → List Int) (A : Nat → Nat) : Prop := ∀ v, v < n → IsLow (takenL A v (C v)) (A v)
theorem PlOk.le {n : Nat} {C : Nat → List Int} {A : Nat → Nat} (h : PlOk n C A) (hC : ∀ v, v < n → ∀ z ∈ C v, 0 ≤ z) : ∀ v, v < n → A v ≤ v := by
  intro v
  induction v using Nat.strongRecOn with
  | ind v ih =>
    intro hv
    refine Nat.le_of_not_lt fun hlt => ?_
    obtain ⟨z, hz, h1, h2⟩ := takenL_mem.1 ((h v hv).2 v hlt)
    have h0 := hC v hv z hz
    have := ih z.toNat (by omega) (by omega)
    omega
theorem PlOk.ne {n : Nat} {C : Nat → List Int} {A : Nat → Nat} (h : PlOk n C A) (hM : MetOk n C) {u v : Nat} (hu : u < n) (hv : v < n) (hc : (v : Int) ∈ C u) : A u ≠ A v := by
  intro e
  have key : ∀ a b : Nat, a < n → b < a → (b : Int) ∈ C a → A a ≠ A b := fun a b ha hb hm e => (h a ha).1 (takenL_mem.2 ⟨(b : Int), hm, by omega, by rw [Int.toNat_natCast]; exact e.symm⟩)
  rcases Nat.lt_trichotomy u v with hlt | hlt | hlt
  · exact key v u hv hlt (hM.even u v hc) e.symm
  · subst hlt; exact hM.self u hc
  · exact key u v hu hlt hc e
end Go.Proofs.YtldbmdgpdolaaaaGreatDoor
namespace Go.Proofs.YtldbmdgpdolaaaaGreatDoor
open Go Go.RowKit

structure MtAt (w : World) (base g n : Nat) (VV : Nat → Value) (LL : Nat → List Int) : Prop where
  row : w.ownsRow base 24 1 (.slice (some ⟨g, 0, none⟩) n n) n (gC (fun i => [VV i]) n)
  sl : Slots w base n VV LL
structure MtTo (base : Nat) (w w' : World) (g n : Nat) (VV VV' : Nat → Value) : Prop where
  bel : Below base w w'
  rest : ∀ q, q < w.heap.size → q ≠ g → (∀ s, s < n → (VV s).ownBlock ≠ some q) → w'.heap[q]? = w.heap[q]?
  own : ∀ s, s < n → ∀ q, (VV' s).ownBlock = some q → (∃ t, t < n ∧ (VV t).ownBlock = some q) ∨ w.heap.size ≤ q
theorem MtTo.refl (base : Nat) (w : World) (g n : Nat) (VV : Nat → Value) : MtTo base w w g n VV VV := ⟨Below.refl _ _, fun _ _ _ _ => rfl, fun s hs _ e => Or.inl ⟨s, hs, e⟩⟩
theorem MtTo.trans {base : Nat} {a b c : World} {g n : Nat} {VA VB VC : Nat → Value} (h : MtTo base a b g n VA VB) (k : MtTo base b c g n VB VC) : MtTo base a c g n VA VC := by
  have hz := h.bel.size
  refine ⟨h.bel.trans k.bel, fun q hq hg hv => ?_, fun s hs q e => ?_⟩
  · rw [k.rest q (by omega) hg fun s hs e => ?_, h.rest q hq hg hv]
    rcases h.own s hs q e with ⟨t, ht, e'⟩ | h'
    · exact hv t ht e'
    · omega
  · rcases k.own s hs q e with ⟨t, ht, e'⟩ | h'
    · exact h.own t ht q e'
    · exact Or.inr (by omega)
theorem MtTo.below {base : Nat} {w w' : World} (g n : Nat) (VV : Nat → Value) (h : Below w.heap.size w w') (hb : base ≤ w.heap.size) : MtTo base w w' g n VV VV :=
  ⟨h.mono hb, fun q hq _ _ => h.block q hq, fun s hs _ e => Or.inl ⟨s, hs, e⟩⟩
theorem MtAt.at {w : World} {base g n : Nat} {VV : Nat → Value} {LL : Nat → List Int} (h : MtAt w base g n VV LL) : base ≤ g ∧ g < w.heap.size := World.ownsRow.lt h.row g rfl
theorem MtAt.below {w w' : World} {base g n : Nat} {VV : Nat → Value} {LL : Nat → List Int} (h : MtAt w base g n VV LL) (hb : Below w.heap.size w w') : MtAt w' base g n VV LL := ⟨ownsRow_below h.row hb, h.sl.below hb⟩
theorem oneC_len (VV : Nat → Value) {n : Nat} : ∀ i, i < n → ((fun i => [VV i]) i : List Value).length = 1 := fun _ _ => rfl
theorem MtAt.cell {w : World} {base g n : Nat} {VV : Nat → Value} {LL : Nat → List Int} (h : MtAt w base g n VV LL) {s : Nat} (hs : s < n) : w.cell? ⟨g, s, none⟩ = some (VV s) := by
  rw [World.ownsRow.cellAt h.row s (by omega)]
  have := gC_get (s := 1) (C := fun i => [VV i]) (k := n) (oneC_len VV) s 0 hs (by omega)
  rw [Nat.mul_one, Nat.add_zero] at this
  rw [this]; rfl
theorem MtAt.ne {w : World} {base g n : Nat} {VV : Nat → Value} {LL : Nat → List Int} (h : MtAt w base g n VV LL) {s : Nat} (hs : s < n) : (VV s).ownBlock ≠ some g := fun e => by
  rcases h.row.2 with ⟨h1, -⟩ | ⟨q, cap, cur, h1, -, h2, -⟩
  · cases h1
  · simp at h1
    obtain ⟨rfl, rfl⟩ := h1
    have := own_type (h.sl.own s hs) e h2
    exact absurd this (by decide)
theorem Slots.keptN {w w' : World} {base m : Nat} {VV : Nat → Value} {LL : Nat → List Int} (h : Slots w base m VV LL) {row : Option Nat} (hg : w.grownBy w' row) (hr : ∀ s, s < m → ∀ q, (VV s).ownBlock = some q → row ≠ some q) : Slots w' base m VV LL :=
  ⟨fun s hs => (h.own s hs).kept hg (by
    cases hv : (VV s).ownBlock with
    | none => exact Or.inl rfl
    | some q => exact Or.inr fun e => hr s hs q hv e.symm), h.apart⟩
theorem gb_setCellM (w : World) (g j : Nat) (v : Value) : w.grownBy (w.setCell ⟨g, j, none⟩ v) (some g) :=
  ⟨rfl, rfl, rfl, by simp, fun k hk hne => Below.heap_setCell _ _ _ _ (fun e => hne (by rw [e]))⟩
theorem MtAt.put {w w1 w' : World} {base g n : Nat} {VV : Nat → Value} {LL : Nat → List Int} (h : MtAt w base g n VV LL) (h1 : Below w.heap.size w w1) {s : Nat} (hs : s < n) (hg : w1.grownBy w' (VV s).ownBlock) {v : Value} {l : List Int} (hown : OwnI w' base v l)
    (hloc : v.ownBlock = (VV s).ownBlock ∨ ∃ q, v.ownBlock = some q ∧ w1.heap.size ≤ q) :
    w'.cell? ⟨g, s, none⟩ = some (VV s) ∧ w'.frozen? ⟨g, s, none⟩ = false ∧ MtAt (w'.setCell ⟨g, s, none⟩ v) base g n (upd VV s v) (upd LL s l) ∧ MtTo base w (w'.setCell ⟨g, s, none⟩ v) g n VV (upd VV s v) := by
  obtain ⟨hbg, hgw⟩ := h.at
  have hA := h.below h1
  have hz1 := h1.size
  have hz2 := hg.size
  have hr : w'.ownsRow base 24 1 (.slice (some ⟨g, 0, none⟩) n n) n (gC (fun i => [VV i]) n) := World.ownsRow.kept hA.row hg (Or.inr (by show some g ≠ _; exact fun e => h.ne hs e.symm))
  have hs2 : Slots w' base n (upd VV s v) (upd LL s l) := hA.sl.upd hs hg hown hloc
  have hc : w'.cell? ⟨g, s, none⟩ = some (VV s) := by
    rw [World.ownsRow.cellAt hr s (by omega)]
    have := gC_get (s := 1) (C := fun i => [VV i]) (k := n) (oneC_len VV) s 0 hs (by omega)
    rw [Nat.mul_one, Nat.add_zero] at this
    rw [this]; rfl
  have hf : w'.frozen? ⟨g, s, none⟩ = false := World.ownsRow.frozenAt hr s
  have hne : ∀ t, t < n → ∀ q, (upd VV s v t).ownBlock = some q → (VV t).ownBlock = some q ∨ ((VV s).ownBlock = some q ∧ t = s) ∨ w1.heap.size ≤ q := fun t ht q e => by
    by_cases hts : t = s
    · subst hts
      rw [upd_same] at e
      rcases hloc with h' | ⟨q', h', h''⟩
      · rw [h'] at e; exact Or.inl e
      · rw [h'] at e; cases e; exact Or.inr (Or.inr h'')
    · rw [upd_other VV hts] at e; exact Or.inl e
  have hst := World.ownsRow.stored hr s v
  have e1 : (gC (fun i => [VV i]) n).set s v = gC (fun i => [upd VV s v i]) n := by
    have := gC_set (s := 1) (C := fun i => [VV i]) (k := n) (oneC_len VV) (i := s) (c := 0) hs (by omega) v
    rw [Nat.mul_one, Nat.add_zero] at this
    rw [this]
    refine gC_same fun i hi => ?_
    by_cases e : i = s
    · subst e; rw [upd_same, upd_same]; rfl
    · rw [upd_other _ e, upd_other _ e]
  rw [e1] at hst
  have hgc := gb_setCellM w' g s v
  refine ⟨hc, hf, ⟨hst.1, hs2.keptN hgc fun t ht q e e' => ?_⟩, ⟨?_, fun q hq hqg hqv => ?_, fun t ht q e => ?_⟩⟩
  · have e'' := Option.some.inj e'
    subst e''
    rcases hne t ht g e with h' | ⟨h', -⟩ | h'
    · exact h.ne ht h'
    · exact h.ne hs h'
    · omega
  · have a1 : Below base w w1 := h1.mono (by omega)
    have a2 : Below base w1 w' := grown_base (hA.sl.own s hs) (by omega) hg
    exact (a1.trans a2).setCell hbg v
  · rw [Below.heap_setCell _ _ _ _ hqg, hg.block q (by omega) (fun e => hqv s hs e.symm), h1.block q hq]
  · rcases hne t ht q e with h' | ⟨h', -⟩ | h'
    · exact Or.inl ⟨t, ht, h'⟩
    · exact Or.inl ⟨s, hs, h'⟩
    · exact Or.inr (by omega)
end Go.Proofs.YtldbmdgpdolaaaaGreatDoor
namespace Go.Proofs.YtldbmdgpdolaaaaGreatDoor
open Go Go.RowKit

theorem newI_none (g : List (Int × Int)) (ids : List Int) : newI g ids (-1) = -1 := if_pos rfl
theorem newI_ne {g : List (Int × Int)} {ids : List Int} {v : Int} (h : v ≠ -1) : newI g ids v ≠ -1 := fun e => by
  have := (newI_there g ids v).2 h
  omega
section
variable {P : List Fn} {f : Fn} {S : List Nat} {T : Nat → Nat} {L : List Int} {pn : Nat} {g : List (Int × Int)} {D : PDat}
theorem SsaIs.insLen (h : SsaIs P f S T L pn g D) (ar : Nat → List Int) {b : Nat} (hb : b < S.length) : ((finD pn S.length g D ar).ins b).length = T b - S.getD b 0 := by
  rw [finD_ins _ _ _ _ _ hb, List.length_map, h.left.ins b hb, insL_len]
theorem SsaIs.insEq (h : SsaIs P f S T L pn g D) (ar : Nat → List Int) {b j : Nat} (hb : b < S.length) (hj : j < T b - S.getD b 0) : ((finD pn S.length g D ar).ins b).getD j noIns = insN (newI g (idsD pn S.length D)) (insM P f (S.getD b 0 + j) (onR f (S.getD b 0) j (fromR f S T L b))) := by
  rw [finD_ins _ _ _ _ _ hb, h.left.ins b hb]
  generalize S.getD b 0 = s at *
  simp [List.getD, insL, hj]
end
end Go.Proofs.YtldbmdgpdolaaaaGreatDoor
namespace Go.Proofs.YtldbmdgpdolaaaaGreatDoor
open Go Go.RowKit

section
variable {P : List Fn} {f : Fn} {S : List Nat} {T : Nat → Nat} {L : List Int} {pn : Nat} {g : List (Int × Int)} {D : PDat}
theorem SsaIs.sinv (h : SsaIs P f S T L pn g D) (ok : FlowOk P f) (hU : ∀ q, q < f.code.length → Way f 63 q → ∀ r, r < 12 → (rdMask P (Go.Proofs.YtldbmdgpdolaaaaGreatDoor.insD f q)).testBit r = true → ¬ Way f r q) : SInv (phsOf (phiM f S T L) S.length).flatten g (phsOf D.ph S.length).flatten := by
  have hpf := phiFit_all ok hU h.ok h.live
  exact (SInv.settle (fun p hp a ha => ((hpf p hp).2 a ha).2) h.settle (SInv.new (phi_ids ok h.ok h.live))).1
theorem SsaIs.phFilter (h : SsaIs P f S T L pn g D) (ok : FlowOk P f) {b : Nat} (hb : b < S.length) : D.ph b = (phiM f S T L b).filter (isLeft g) := by
  have e := h.settle.filter (phi_ids ok h.ok h.live) (by simp)
  unfold phsOf at e
  rw [List.map_map] at e
  have := congrArg (fun l => l.getD b []) e
  simpa [List.getD, hb] using this
theorem SsaIs.key (h : SsaIs P f S T L pn g D) (ok : FlowOk P f) (hU : ∀ q, q < f.code.length → Way f 63 q → ∀ r, r < 12 → (rdMask P (Go.Proofs.YtldbmdgpdolaaaaGreatDoor.insD f q)).testBit r = true → ¬ Way f r q) {q : Int × Int} (hq : q ∈ g) : 52 ≤ q.1 := by
  obtain ⟨p, hp, e, -⟩ := (h.sinv ok hU).went q hq
  obtain ⟨l, hl, hpl⟩ := List.mem_flatten.1 hp
  obtain ⟨b, hb, rfl⟩ := List.mem_map.1 hl
  obtain ⟨r, hr, -, -, -, e3, -⟩ := phi_form ok h.ok h.live (List.mem_range.1 hb) hpl
  rw [← e, e3]; unfold phiI; omega
theorem SsaIs.own_self (h : SsaIs P f S T L pn g D) (ok : FlowOk P f) (hU : ∀ q, q < f.code.length → Way f 63 q → ∀ r, r < 12 → (rdMask P (Go.Proofs.YtldbmdgpdolaaaaGreatDoor.insD f q)).testBit r = true → ¬ Way f r q) {z : Int} (hz : z < 52) : stG g z = z :=
  stG_free fun q hq e => by have := h.key ok hU hq; omega
theorem SsaIs.went (h : SsaIs P f S T L pn g D) (ok : FlowOk P f) (hU : ∀ q, q < f.code.length → Way f 63 q → ∀ r, r < 12 → (rdMask P (Go.Proofs.YtldbmdgpdolaaaaGreatDoor.insD f q)).testBit r = true → ¬ Way f r q) {b : Nat} (hb : b < S.length) {p : PhiD} (hp : p ∈ phiM f S T L b) (hl : isLeft g p = false) : ∀ a ∈ p.args, stG g a = stG g p.id := by
  have hpall : p ∈ (phsOf (phiM f S T L) S.length).flatten := List.mem_flatten.2 ⟨_, List.mem_map.2 ⟨b, List.mem_range.2 hb, rfl⟩, hp⟩
  have hn : ¬ isLeft g p = true := by rw [hl]; decide
  rw [isLeft_iff] at hn
  have hn2 : ∃ q ∈ g, q.1 = p.id := Classical.byContradiction fun hc => hn fun q hq e => hc ⟨q, hq, e⟩
  obtain ⟨q, hq, e⟩ := hn2
  obtain ⟨p', hp', e', ha⟩ := (h.sinv ok hU).went q hq
  have key : ∀ (l : List PhiD), l.Pairwise (fun p q => p.id ≠ q.id) → p ∈ l → p' ∈ l → p' = p := by
    intro l
    induction l with
    | nil => intro _ h1; cases h1
    | cons x l ih =>
      intro hpw h1 h2
      obtain ⟨g1, g2⟩ := List.pairwise_cons.1 hpw
      rcases List.mem_cons.1 h1 with e1 | m1 <;> rcases List.mem_cons.1 h2 with e2 | m2
      · rw [e1, e2]
      · exact absurd (by rw [← e1, e', e]) (g1 _ m2)
      · exact absurd (by rw [← e2, e', e]) (g1 _ m1)
      · exact ih g2 m1 m2
  obtain rfl := key _ (phi_ids ok h.ok h.live) hpall hp'
  exact ha
end
end Go.Proofs.YtldbmdgpdolaaaaGreatDoor
