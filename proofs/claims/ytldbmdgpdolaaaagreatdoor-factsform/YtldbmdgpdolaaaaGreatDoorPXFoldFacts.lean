import Derived.Test.YtldbmdgpdolaaaaGreatDoorPXFoldFcOk
import Derived.Test.YtldbmdgpdolaaaaGreatDoorPXSsaBuild
namespace Go.Proofs.YtldbmdgpdolaaaaGreatDoor
open Go Go.RowKit

theorem BlocksAt.congrT {w : World} {base g : Nat} {f : Fn} {S : List Nat} {T T' : Nat → Nat} {VV : Nat → Value} {LL : Nat → List Int} (h : BlocksAt w base g f S T' VV LL) (e : ∀ i, i < S.length → T i = T' i) : BlocksAt w base g f S T VV LL := by
  refine ⟨h.starts, fun i hi => by rw [e i hi]; exact h.ends i hi, ?_, h.slots, fun i hi => ?_⟩
  · have e1 : bCells (fun i => ((S.getD i 0 : Nat) : Int)) (fun i => ((T i : Nat) : Int)) VV S.length = bCells (fun i => ((S.getD i 0 : Nat) : Int)) (fun i => ((T' i : Nat) : Int)) VV S.length := bCells_same _ fun i hi => ⟨rfl, by rw [e i hi], rfl, rfl⟩
    have h1 := h.row
    unfold BlkRow at h1 ⊢
    rw [e1]; exact h1
  · obtain ⟨l1, l2⟩ := h.led i hi
    refine ⟨by rw [l1, e i hi], by rw [l2]; exact prevs_congr e i⟩
def metL (F : Ways) (PV : Nat → List Int) (n q : Nat) : List Value := (List.range n).map fun i => .bool (if i < q then metB F (PV i) i else false)
theorem metL_get (F : Ways) (PV : Nat → List Int) (n q i : Nat) (hi : i < n) : (metL F PV n q)[i]? = some (.bool (if i < q then metB F (PV i) i else false)) := by
  unfold metL
  rw [List.getElem?_map, List.getElem?_range hi]; rfl
theorem metL_len (F : Ways) (PV : Nat → List Int) (n q : Nat) : (metL F PV n q).length = n := by unfold metL; rw [List.length_map, List.length_range]
theorem metL_set (F : Ways) (PV : Nat → List Int) (n q : Nat) (hq : q < n) : (metL F PV n q).set q (.bool (metB F (PV q) q)) = metL F PV n (q + 1) := by
  apply List.ext_getElem?
  intro i
  by_cases hi : i < n
  · rw [metL_get _ _ _ _ _ hi]
    by_cases e : i = q
    · subst e
      rw [List.getElem?_set_self (by rw [metL_len]; exact hq), if_pos (by omega)]
    · rw [List.getElem?_set_ne (by omega), metL_get _ _ _ _ _ hi]
      by_cases h1 : i < q
      · rw [if_pos h1, if_pos (by omega)]
      · rw [if_neg h1, if_neg (by omega)]
  · rw [List.getElem?_eq_none (by rw [List.length_set, metL_len]; omega), List.getElem?_eq_none (by rw [metL_len]; omega)]
theorem infoBoolF : (Tryz.prog.info? 4).map (fun i => (i.zero, i.size, i.bytes)) = some (some (.bool false), 1, 1) := by kernel_rfl
theorem made_metL (F : Ways) (PV : Nat → List Int) (n : Nat) : (madeCells (Value.bool false).cells (n * 1)).toList = metL F PV n 0 := by
  apply List.ext_getElem?
  intro i
  by_cases hi : i < n
  · rw [metL_get _ _ _ _ _ hi, if_neg (Nat.not_lt_zero _)]
    simp [madeCells, Value.cells, hi, Nat.mod_one]
  · rw [List.getElem?_eq_none (by simp [madeCells]; omega), List.getElem?_eq_none (by rw [metL_len]; omega)]
def FactsPost (w : World) (P : List Fn) (f : Fn) (e : Ending) (w' : World) : Prop :=
  ∃ S T L, ∃ pn : Nat, ∃ g D ar, ∃ FB MR : Nat, ∃ (F : Facts) (G : Ways), e = .returned (.tuple #[.slice (some ⟨FB, 0, none⟩) (idsD pn S.length D).length (idsD pn S.length D).length, .slice (some ⟨MR, 0, none⟩) S.length S.length, .int .i64 0]) ∧ SsaIs P f S T L pn g D ∧ (fcOf f S T pn g D ar).know.Inv F G ∧ (fcOf f S T pn g D ar).know.Closed F G ∧
    w'.heap[FB]? = some (.cells (gC (fun v => factC (F v)) (idsD pn S.length D).length).toArray 65 (0, 0)) ∧ w'.heap[MR]? = some (.cells (metL G (prevs f S T) S.length S.length).toArray 4 (0, 0)) ∧ w.heap.size ≤ FB ∧ w.heap.size ≤ MR ∧ FB ≠ MR ∧ Below w.heap.size w w'
theorem KnAt.keptR {w w' : World} {K gp n gB VN FB MB r : Nat} {F : Facts} {G : Ways} (h : KnAt w K gp n gB VN FB MB F G) (hg : w.grownBy w' (some r)) (h1 : K ≠ r) (h2 : FB ≠ r) (h3 : MB ≠ r) : KnAt w' K gp n gB VN FB MB F G := by
  obtain ⟨D, ⟨es, cl, hh, r⟩, hD⟩ := h.ways
  exact ⟨gblock hg h.box h1, gblock hg h.facts h2, D, ⟨es, cl, gblock hg hh h3, r⟩, hD⟩
set_option maxRecDepth 100000 in
set_option maxHeartbeats 8000000 in
theorem Facts_right (P : List Fn) (hR : ProofAns P 0) (k : Nat) (hk : k < P.length) (v : Value) (w : World) (ht : TabOk w) (hc : CallOk w) (hG : KnowG w) (hv : ProgVal w v P) :
    Calls Tryz.prog 14 #[.agg #[v], .int .i64 k] w (FactsPost w P P[k]) := by
  have HPOST : Hid (∀ e w', (∃ S T L, ∃ pn : Nat, ∃ g D ar, ∃ FB MR : Nat, ∃ (F : Facts) (G : Ways), e = .returned (.tuple #[.slice (some ⟨FB, 0, none⟩) (idsD pn S.length D).length (idsD pn S.length D).length, .slice (some ⟨MR, 0, none⟩) S.length S.length, .int .i64 0]) ∧ SsaIs P P[k] S T L pn g D ∧ (fcOf P[k] S T pn g D ar).know.Inv F G ∧ (fcOf P[k] S T pn g D ar).know.Closed F G ∧
    w'.heap[FB]? = some (.cells (gC (fun v => factC (F v)) (idsD pn S.length D).length).toArray 65 (0, 0)) ∧ w'.heap[MR]? = some (.cells (metL G (prevs P[k] S T) S.length S.length).toArray 4 (0, 0)) ∧ w.heap.size ≤ FB ∧ w.heap.size ≤ MR ∧ FB ≠ MR ∧ Below w.heap.size w w') → FactsPost w P P[k] e w') := fun _ _ h => h
  have HFO : Hid (FlowOk P P[k]) := flowOk_of hR (List.getElem_mem hk)
  have HU : Hid (∀ q, q < P[k].code.length → Way P[k] 63 q → ∀ r, r < 12 → (rdMask P (insD P[k] q)).testBit r = true → ¬ Way P[k] r q) := right_reads hR (List.getElem_mem hk)
  have hB0 : (w.alloc (.cells #[v] 29)).heap[w.heap.size]? = some (.cells #[v] 29 (0, 0)) := heap_alloc_last _ _
  have hbx : Below w.heap.size w (w.alloc (.cells #[v] 29)) := (Below.refl _ _).alloc (Nat.le_refl _) _
  have HB0 : Hid (Below w.heap.size w (w.alloc (.cells #[v] 29))) := hbx
  have hbd := Build_right P hR k hk v _ (ht.below hbx) (hc.below hbx) (hv.keeps (keeps_below hbx))
  have HBL : Hid (∀ W, Below w.heap.size w W → Calls Tryz.prog 20 #[.agg #[v], .int .i64 k] W fun e w' => ∃ g S T VV LL, e = .returned (.tuple #[.slice (some ⟨g, 0, none⟩) S.length S.length, .int .i64 0]) ∧ BlocksAt w' W.heap.size g P[k] S T VV LL ∧ W.heap.size ≤ g ∧ Below W.heap.size W w') := fun W hW => Blocks_right P hR k hk v W (ht.below hW) (hc.below hW) (hv.keeps (keeps_below hW))
  have HKG : Hid (∀ W, Below w.heap.size w W → KnowG W) := fun W hW => hG.below hW
  obtain ⟨iB, hiB, hzB0, hzB1, hzB2⟩ := info_parts infoBoolF
  obtain ⟨ao, n, cap, rfl⟩ := hv.shape
  clear hR ht hc hv hbx hG
  go_enter Tryz.func14, Tryz.ntmps14
  go_upto_region 1 with fail
  generalize (w.alloc (.cells #[.slice ao n cap] 29)) = V at *
  have b0 : V.cell? ⟨w.heap.size, 0, none⟩ = some (.slice ao n cap) := by rw [cell_of_row _ _ _ _ _ _ hB0]; rfl
  go_upto_region 2 with (go_at_call 15; refine hbd.mono ?_; rintro e w1 hp; obtain ⟨S, T, L, pn, g, D, ar, gp, Ly, rfl, his, hpa, hb1⟩ := hp)
  have HIS : Hid (SsaIs P P[k] S T L pn g D) := his
  have r7 : (w1.alloc (.cells #[.int .i64 (pn : Int), .int .i64 ((idsD pn S.length D).length : Int), .slice (some ⟨gp, 0, none⟩) S.length S.length] 55)).heap[w1.heap.size]? = some (.cells #[.int .i64 (pn : Int), .int .i64 ((idsD pn S.length D).length : Int), .slice (some ⟨gp, 0, none⟩) S.length S.length] 55 (0, 0)) := heap_alloc_last _ _
  have hbb : Below w1.heap.size w1 (w1.alloc (.cells #[.int .i64 (pn : Int), .int .i64 ((idsD pn S.length D).length : Int), .slice (some ⟨gp, 0, none⟩) S.length S.length] 55)) := (Below.refl _ _).alloc (Nat.le_refl _) _
  have hpa1 := hpa.below hbb
  have b1 := keeps_below hbb _ _ (keeps_below hb1 _ _ b0)
  have HBW : Hid (Below w.heap.size w (w1.alloc (.cells #[.int .i64 (pn : Int), .int .i64 ((idsD pn S.length D).length : Int), .slice (some ⟨gp, 0, none⟩) S.length S.length] 55))) := HB0.out.trans ((hb1.trans (hbb.mono hb1.size)).mono HB0.out.size)
  clear his hpa hb1 hbb b0 hB0 hbd HB0
  go_upto_region 4 with fail
  generalize (w1.alloc (.cells #[.int .i64 (pn : Int), .int .i64 ((idsD pn S.length D).length : Int), .slice (some ⟨gp, 0, none⟩) S.length S.length] 55)) = V1 at *
  generalize w1.heap.size = P7 at *
  have HPA : Hid (PartsAt V1 V.heap.size gp S.length (finD pn S.length g D ar) Ly) := hpa1
  have hbl := HBL.out V1 HBW.out
  clear hpa1
  go_upto_region 5 with (go_at_call 20; refine hbl.mono ?_; rintro e w2 hp; obtain ⟨gB, S', T', VV, LL, rfl, hblk, hgB, hb2⟩ := hp; obtain ⟨rfl, hT⟩ := HIS.out.ok.same hblk.ok)
  have HBW2 : Hid (Below w.heap.size w w2) := HBW.out.trans (hb2.mono HBW.out.size)
  have r72 := (hb2.block _ (lt_of_block r7)).trans r7
  have HOK : Hid (fcOf P[k] S T pn g D ar).Ok := HIS.out.fcOk HFO.out HU.out
  have HMEM : Hid (FcMem (fcOf P[k] S T pn g D ar) gp gB (fun i => ((S.getD i 0 : Nat) : Int)) (fun i => ((T i : Nat) : Int)) VV w2) := HIS.out.fcMem HFO.out HU.out (HPA.out.below hb2) (hblk.congrT hT) (HKG.out w2 HBW2.out)
  have hl : Calls Tryz.prog 30 #[.agg #[.int .i64 (pn : Int), .int .i64 ((idsD pn S.length D).length : Int), .slice (some ⟨gp, 0, none⟩) S.length S.length], .slice (some ⟨gB, 0, none⟩) S.length S.length] w2 (LearnPost w2 (fcOf P[k] S T pn g D ar) gp gB) := learn_any w2 HOK.out HMEM.out (HKG.out w2 HBW2.out) (by
    have := idsTo_mono pn D.ph D.ins (Nat.zero_le S.length)
    rw [idsTo_zero] at this
    exact this)
  have HNB : Hid (S.length ≤ 40) := HOK.out.n40
  clear hbl r7 b1 hblk hgB hT hb2 HPA HBL HBW
  have hn40 := HNB.out
  go_upto_region 6 with (first
    | (refine wpList_load_row rfl 55 _ rfl _ rfl _ _ _ _ r72 Tryz.underlying55 rfl infoSsa ?_)
    | (go_at_call 30; refine hl.mono ?_; rintro e w3 hp; obtain ⟨K, FB, MB, F, G, rfl, hkn, hb3, hgo, hinv, hclo, hfb⟩ := hp))
  have HKN : Hid (KnAt w3 K gp S.length gB (idsD pn S.length D).length FB MB F G) := hkn
  have HB3 : Hid (Below w2.heap.size w2 w3) := hb3
  have HIC : Hid ((fcOf P[k] S T pn g D ar).know.Inv F G ∧ (fcOf P[k] S T pn g D ar).know.Closed F G) := ⟨hinv, hclo⟩
  have HFB : Hid (w2.heap.size ≤ FB) := hfb
  have HLT : Hid (K ≠ w3.heap.size ∧ FB ≠ w3.heap.size ∧ MB ≠ w3.heap.size) := ⟨Nat.ne_of_lt (lt_of_block hkn.box), Nat.ne_of_lt (lt_of_block hkn.facts), by obtain ⟨D', ⟨es, cl, hh, r⟩, hD'⟩ := hkn.ways; exact Nat.ne_of_lt (lt_of_block hh)⟩
  clear hl r72 hkn hb3 hgo hinv hclo hfb
  go_upto_region 7 with (at_make; refine wpList_make_full _ rfl (.tmp 33) (.tmp 33) 32 rfl 0 4 iB _ 1 Tryz.underlying32 hiB hzB0 hzB1 .i64 .i64 _ _ S.length rfl rfl (by simp) (by simp) (by rw [hzB2]; omega) (by unfold maxLen; omega) (Nat.zero_le _) ?_; intro w4 hown4 hg4)
  rw [made_metL G (prevs P[k] S T) S.length] at hown4
  have hr4 := own_heapG hown4
  have hbg := below_grown hg4
  have HK4 : Hid (KnAt w4 K gp S.length gB (idsD pn S.length D).length FB MB F G) := HKN.out.below hbg
  have HB4 : Hid (Below w2.heap.size w2 w4) := HB3.out.trans (hbg.mono HB3.out.size)
  have HR4 : Hid (w4.heap[w3.heap.size]? = some (.cells (metL G (prevs P[k] S T) S.length 0).toArray 4 (0, 0))) := hr4
  clear hown4 hg4 hr4 hbg HKN hiB hzB0 hzB1 hzB2
  have HMR : Hid (w2.heap.size ≤ w3.heap.size) := HB3.out.size
  generalize w3.heap.size = MR at *
  clear HB3
  go_upto_region 8 with fail
  go_loopw [37] (fun i wr => ∃ q : Nat, q ≤ S.length ∧ i = .int .i64 q ∧ KnAt wr K gp S.length gB (idsD pn S.length D).length FB MB F G ∧ Below w2.heap.size w2 wr ∧ wr.heap[MR]? = some (.cells (metL G (prevs P[k] S T) S.length q).toArray 4 (0, 0))) (fun i _ => S.length - (intOf i).toNat)
  case atStart => exact ⟨0, Nat.zero_le _, rfl, HK4.out, HB4.out, HR4.out⟩
  case round =>
    clear HK4 HB4 HR4
    obtain ⟨q, hq, rfl, hk5, hb5, hr5⟩ := hrel
    rename World => w5
    have HK5 : Hid (KnAt w5 K gp S.length gB (idsD pn S.length D).length FB MB F G) := hk5
    have HB5 : Hid (Below w2.heap.size w2 w5) := hb5
    clear hk5 hb5
    by_cases hlq : q < S.length
    · have hqI : (q : Int) < S.length := by omega
      have HQ : Hid (q < S.length) := hlq
      have hpv := HOK.out.pv q hlq
      obtain ⟨hblr, -, hbl⟩ := HMEM.out.blk w5 HB5.out
      have hmet : Calls Tryz.prog 31 #[.pointer (some ⟨K, 0, none⟩), .int .i64 q] w5 fun e w' => e = .returned (.bool (metB G (prevs P[k] S T q) q)) ∧ Below w5.heap.size w5 w' := met_any w5 HK5.out q hlq (by omega) _ _ (blk_prev hblr q hlq) (hbl q hlq).2 hpv.2 hpv.1
      obtain ⟨mb, hmb⟩ : ∃ mb, mb = metB G (prevs P[k] S T q) q := ⟨_, rfl⟩
      rw [← hmb] at hmet
      have HMB : Hid (metB G (prevs P[k] S T q) q = mb) := hmb.symm
      have HR5 : Hid (w5.heap[MR]? = some (.cells (metL G (prevs P[k] S T) S.length q).toArray 4 (0, 0))) := hr5
      clear hpv hblr hbl hmb hr5
      go_wp2_with (go_at_call 31; refine hmet.mono ?_; rintro e w6 ⟨rfl, hb6⟩; have r6 := (hb6.block _ (lt_of_block HR5.out)).trans HR5.out; have c0 : w6.cell? ⟨MR, q, none⟩ = some (.bool false) := (by rw [cell_of_row _ _ _ _ _ _ r6, List.getElem?_toArray, metL_get _ _ _ _ _ HQ.out, if_neg (Nat.lt_irrefl _)]); have f0 : w6.frozen? ⟨MR, q, none⟩ = false := frozen_of_row _ _ _ _ _ r6; have HB6 : Hid (Below w5.heap.size w5 w6) := hb6; clear hb6)
      have hs := heap_setCell_same w6 MR q _ _ (.bool mb) r6
      have hg : w6.grownBy (w6.setCell ⟨MR, q, none⟩ (.bool mb)) (some MR) := gb_setCells MR [.bool mb] q w6
      have HFIN : Hid (KnAt (w6.setCell ⟨MR, q, none⟩ (.bool mb)) K gp S.length gB (idsD pn S.length D).length FB MB F G ∧ Below w2.heap.size w2 (w6.setCell ⟨MR, q, none⟩ (.bool mb)) ∧ (w6.setCell ⟨MR, q, none⟩ (.bool mb)).heap[MR]? = some (.cells (metL G (prevs P[k] S T) S.length (q + 1)).toArray 4 (0, 0))) := ⟨(HK5.out.below HB6.out).keptR hg HLT.out.1 HLT.out.2.1 HLT.out.2.2, below_grownK (HB5.out.trans (HB6.out.mono HB5.out.size)) hg HMR.out (HB5.out.trans (HB6.out.mono HB5.out.size)).size, by rw [hs, List.setIfInBounds_toArray, ← HMB.out, metL_set _ _ _ _ HQ.out]⟩
      clear hs hg r6 c0 f0
      go_roundw
      case rel => exact ⟨q + 1, by omega, by go_num, HFIN.out.1, HFIN.out.2.1, HFIN.out.2.2⟩
      case measure => simp [intOf]; omega
    · obtain rfl : q = S.length := by omega
      have HR5 : Hid (w5.heap[MR]? = some (.cells (metL G (prevs P[k] S T) S.length S.length).toArray 4 (0, 0))) := hr5
      have k2 : w5.cell? ⟨K, 2, none⟩ = some (.slice (some ⟨FB, 0, none⟩) (idsD pn S.length D).length (idsD pn S.length D).length) := by rw [cell_of_row _ _ _ _ _ _ HK5.out.box]; rfl
      clear hr5
      go_wp2
      (try simp only [Exit.inBlock, Exit.then])
      exact bodyPost_ret (results_tmp3 rfl _ _ _) rfl (HPOST.out _ _ ⟨S, T, L, pn, g, D, ar, FB, MR, F, G, rfl, HIS.out, HIC.out.1, HIC.out.2, HK5.out.facts, HR5.out, Nat.le_trans HBW2.out.size HFB.out, Nat.le_trans HBW2.out.size HMR.out, HLT.out.2.1, HBW2.out.trans (HB5.out.mono HBW2.out.size)⟩)
end Go.Proofs.YtldbmdgpdolaaaaGreatDoor
namespace Go.Proofs.YtldbmdgpdolaaaaGreatDoor
open Go Go.RowKit

theorem met_first {f : Fn} {S : List Nat} {T : Nat → Nat} {pn : Nat} {g : List (Int × Int)} {D : PDat} {ar : Nat → List Int} {F : Facts} {G : Ways} (hi : (fcOf f S T pn g D ar).know.Inv F G) : metB G (prevs f S T 0) 0 = true :=
  (FC.met_iff (c := fcOf f S T pn g D ar)).2 ⟨-1, (prevs_mem _).2 (Or.inl ⟨rfl, rfl⟩), hi.start⟩
theorem num_known {a : FV} (h : a.kind ≠ 1) : a.num = 0 := by
  cases a with
  | never => rfl
  | known z => exact absurd rfl h
  | many => rfl
theorem ins_fact {c : FC} {F : Facts} {G : Ways} (hi : c.know.Inv F G) (hk : c.know.Closed F G) {b : Nat} (hb : b < c.n) {x : InsD} (hx : x ∈ c.IN b) (hne : x.id ≠ -1) : F x.id.toNat = if metB G (c.PV b) b = true then madeF x (rdF F x.a) (rdF F x.b) else .never := by
  have hs : c.know.site (insS b x) := ⟨b, hb, Or.inr ⟨x, hx, hne, rfl⟩⟩
  by_cases hm : metB G (c.PV b) b = true
  · rw [if_pos hm]
    have h1 : (madeF x (rdF F x.a) (rdF F x.b)).le (F x.id.toNat) := hk.site _ hs (FC.met_iff.1 hm)
    by_cases hn : F x.id.toNat = .never
    · rw [hn] at h1 ⊢
      exact (FV.le_never h1).symm
    · exact FV.le_antisymm (hi.asc _ hs hn).2 h1
  · rw [if_neg hm]
    by_cases hn : F x.id.toNat = .never
    · exact hn
    · exact absurd (FC.met_iff.2 (hi.asc _ hs hn).1) hm
theorem set_fact {c : FC} {F : Facts} {G : Ways} (hi : c.know.Inv F G) (hk : c.know.Closed F G) {b : Nat} (hb : b < c.n) {x : InsD} (hx : x ∈ c.IN b) (hne : x.id ≠ -1) (ho : x.op = 1) (ha : x.a = -1) (hbb : x.b = -1) : F x.id.toNat = if metB G (c.PV b) b = true then .known x.imm else .never := by
  rw [ins_fact hi hk hb hx hne, ha, hbb]
  have e : rdF F (-1) = .known 0 := if_pos rfl
  rw [e]
  have e2 : madeF x (.known 0) (.known 0) = .known x.imm := by
    unfold madeF
    rw [if_neg (by rw [ho]; simp), if_neg (by rw [ho]; simp), ho]
    rfl
  rw [e2]
end Go.Proofs.YtldbmdgpdolaaaaGreatDoor
