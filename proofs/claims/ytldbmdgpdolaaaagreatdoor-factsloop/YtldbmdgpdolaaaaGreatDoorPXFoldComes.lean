import Derived.Test.YtldbmdgpdolaaaaGreatDoorPXBrief
import Derived.Test.YtldbmdgpdolaaaaGreatDoorPXSsaBuild
namespace Go.Proofs.YtldbmdgpdolaaaaGreatDoor
open Go Go.RowKit

def comesT (F : Facts) (G : Ways) (b : Int) (pl args : List Int) : Nat → FV
  | 0 => .never
  | i + 1 => if (pl.getD i 0, b) ∈ G then eitherF (comesT F G b pl args i) (F (args.getD i 0).toNat) else comesT F G b pl args i
theorem infoPhi3f : (Tryz.prog.info? 72).map (·.size) = some 3 := by kernel_rfl
set_option maxRecDepth 100000 in
set_option maxHeartbeats 4000000 in
theorem comes_any {K gp n gB VN FB MB : Nat} {F : Facts} {G : Ways} (w : World) (h : KnAt w K gp n gB VN FB MB F G) (hG : KnowG w) (b : Nat) (hbn : b < n) (hn : n ≤ 1000) (v : Value) (pl : List Int) (hc : w.cell? ⟨gB, b * 4 + 3, none⟩ = some v) (hl : IntsVal w v pl) (hf : ∀ z ∈ pl, FitW z) (hll : pl.length ≤ 1000)
    (rg id : Int) (va : Value) (args : List Int) (hva : IntsVal w va args) (hal : args.length = pl.length) (hab : ∀ a ∈ args, 0 ≤ a ∧ a < (VN : Int)) (_hVN : VN ≤ 100000) :
    Calls Tryz.prog 85 #[.pointer (some ⟨K, 0, none⟩), .int .i64 b, .agg #[.int .i64 rg, .int .i64 id, va]] w fun e w' => e = .returned (.agg #[.int .i64 (comesT F G b pl args pl.length).kind, .int .i64 (comesT F G b pl args pl.length).num]) ∧ Below w.heap.size w w' := by
  have HB0 : Hid (Below w.heap.size w ((w.alloc (.cells #[.int .i64 rg, .int .i64 id, va] 72)).alloc (.cells #[.int .i64 0, .int .i64 0] 65))) := ((Below.refl _ _).alloc (Nat.le_refl _) _).alloc (by simp) _
  have r5 : ((w.alloc (.cells #[.int .i64 rg, .int .i64 id, va] 72)).alloc (.cells #[.int .i64 0, .int .i64 0] 65)).heap[w.heap.size]? = some (.cells #[.int .i64 rg, .int .i64 id, va] 72 (0, 0)) := heap_alloc2_old _ _ _
  have r6 : ((w.alloc (.cells #[.int .i64 rg, .int .i64 id, va] 72)).alloc (.cells #[.int .i64 0, .int .i64 0] 65)).heap[w.heap.size + 1]? = some (.cells #[.int .i64 0, .int .i64 0] 65 (0, 0)) := heap_alloc2_new _ _ _
  have HK : Hid (KnAt ((w.alloc (.cells #[.int .i64 rg, .int .i64 id, va] 72)).alloc (.cells #[.int .i64 0, .int .i64 0] 65)) K gp n gB VN FB MB F G) := h.below HB0.out
  have HGG : Hid (KnowG ((w.alloc (.cells #[.int .i64 rg, .int .i64 id, va] 72)).alloc (.cells #[.int .i64 0, .int .i64 0] 65))) := hG.below HB0.out
  have HLP : Hid (IntsVal ((w.alloc (.cells #[.int .i64 rg, .int .i64 id, va] 72)).alloc (.cells #[.int .i64 0, .int .i64 0] 65)) v pl) := hl.keeps (keeps_below HB0.out)
  have HLA : Hid (IntsVal ((w.alloc (.cells #[.int .i64 rg, .int .i64 id, va] 72)).alloc (.cells #[.int .i64 0, .int .i64 0] 65)) va args) := hva.keeps (keeps_below HB0.out)
  have cb := keeps_below HB0.out _ _ hc
  obtain ⟨ao, bb, off, m, cap, rfl, hlm, -, -, -, -⟩ := ints_get hl
  obtain ⟨aA, bA, oA, nA, cA, rfl, hlA, -, -, -, -⟩ := ints_get hva
  have HF : Hid (∀ q, q < m → FitW (pl.getD q 0)) := fun q hq => hf _ (by rw [List.getD, List.getElem?_eq_getElem (by omega)]; exact List.getElem_mem _)
  have HAB : Hid (∀ q, q < m → ∃ an : Nat, args.getD q 0 = (an : Int) ∧ an < VN) := fun q hq => by
    have := hab (args.getD q 0) (by rw [List.getD, List.getElem?_eq_getElem (by omega)]; exact List.getElem_mem _)
    exact ⟨(args.getD q 0).toNat, by omega, by omega⟩
  have HE : Hid (pl.length = m ∧ nA = m) := ⟨hlm, by omega⟩
  have hm1 : m ≤ 1000 := by omega
  obtain rfl : nA = m := by omega
  have hfb : FitW (b : Int) := ⟨by omega, by omega⟩
  have hbI : (b : Int) < (n : Int) := by omega
  clear h hG hl hva hf hll hab hal hc hlm hlA
  go_enter Tryz.func85, Tryz.ntmps85
  go_upto_region 1 with fail
  generalize ((w.alloc (.cells #[.int .i64 rg, .int .i64 id, .slice aA nA cA] 72)).alloc (.cells #[.int .i64 0, .int .i64 0] 65)) = V at *
  have hz6 := lt_of_block r6
  obtain ⟨hgn, -⟩ := HGG.out
  go_upto_region 2 with (first
    | (refine wpList_load_mid rfl 65 (.global 1) rfl 1 0 rfl _ _ hgn Tryz.underlying65 rfl infoFact ?_)
    | (refine wpList_store_row rfl _ _ _ rfl _ #[.int .i64 0, .int .i64 0] rfl rfl _ _ (heap_alloc_last V _) infoFact rfl (by simp [Value.oneCell']) ?_; rw [World.setRow_alloc_new]))
  have HB1 : Hid (Below V.heap.size V (V.alloc (.cells #[.int .i64 0, .int .i64 0] 65))) := (Below.refl _ _).alloc (Nat.le_refl _) _
  have r7 : (V.alloc (.cells #[.int .i64 0, .int .i64 0] 65)).heap[V.heap.size]? = some (.cells #[.int .i64 0, .int .i64 0] 65 (0, 0)) := heap_alloc_last _ _
  have cb1 := keeps_below HB1.out _ _ cb
  have k1 : (V.alloc (.cells #[.int .i64 0, .int .i64 0] 65)).cell? ⟨K, 1, none⟩ = some (.slice (some ⟨gB, 0, none⟩) n n) := by rw [cell_of_row _ _ _ _ _ _ (HK.out.below HB1.out).box]; rfl
  have HV1 : Hid (∀ W, Below (V.heap.size) (V.alloc (.cells #[.int .i64 0, .int .i64 0] 65)) W → Below V.heap.size V W) := fun W hW => HB1.out.trans hW
  have HS : Hid (w.heap.size + 1 < (V.heap.size) ∧ Below w.heap.size w V) := ⟨hz6, HB0.out⟩
  have HKB : Hid (∀ W, Below V.heap.size V W → KnAt W K gp n gB VN FB MB F G ∧ KnowG W ∧ IntsVal W (.slice ao nA cap) pl ∧ IntsVal W (.slice aA nA cA) args ∧ W.cell? ⟨w.heap.size, 2, none⟩ = some (.slice aA nA cA) ∧ W.heap[w.heap.size + 1]? = some (.cells #[.int .i64 0, .int .i64 0] 65 (0, 0))) := fun W hW => ⟨HK.out.below hW, HGG.out.below hW, HLP.out.keeps (keeps_below hW), HLA.out.keeps (keeps_below hW), keeps_below hW _ _ (by rw [cell_of_row _ _ _ _ _ _ r5]; rfl), (hW.block _ hz6).trans r6⟩
  clear hgn cb r5 r6 hz6
  generalize (V.alloc (.cells #[.int .i64 0, .int .i64 0] 65)) = V1 at *
  go_upto_region 3 with fail
  clear cb1 k1
  have HB1S : Hid ((V.heap.size) < V1.heap.size) := lt_of_block r7
  go_loopw [20] (fun i wr => ∃ q : Nat, q ≤ nA ∧ i = .int .i64 q ∧ wr.heap[(V.heap.size)]? = some (.cells #[.int .i64 (comesT F G b pl args q).kind, .int .i64 (comesT F G b pl args q).num] 65 (0, 0)) ∧ Below (V.heap.size) V1 wr) (fun i _ => nA - (intOf i).toNat)
  case atStart => exact ⟨0, Nat.zero_le _, rfl, r7, Below.refl _ _⟩
  case round =>
    clear r7
    obtain ⟨q, hq, rfl, hrow, hwr⟩ := hrel
    have HW : Hid (Below (V.heap.size) V1 wr) := hwr
    have HWV : Hid (Below V.heap.size V wr) := HV1.out wr hwr
    clear hwr
    by_cases hlt : q < nA
    · have hqI : (q : Int) < nA := by omega
      have HCT : Hid (comesT F G b pl args (q + 1) = if (pl.getD q 0, (b : Int)) ∈ G then eitherF (comesT F G b pl args q) (F (args.getD q 0).toNat) else comesT F G b pl args q) := rfl
      obtain ⟨hk, hgg, hlp, hla, p2, -⟩ := HKB.out wr HWV.out
      obtain ⟨ao', bb, off, m', cap', e1, -, ha, hcc, -⟩ := ints_get hlp
      obtain ⟨rfl, rfl, rfl⟩ : ao = ao' ∧ nA = m' ∧ cap = cap' := by simpa using e1
      obtain rfl := ha (by omega)
      have cz := hcc q hlt
      have hgone := isGone_any wr hk (pl.getD q 0) b (HF.out q hlt) hfb
      clear hk hgg hlp hla p2 ha hcc e1
      by_cases hg : (pl.getD q 0, (b : Int)) ∈ G
      · rw [decide_eq_true hg] at hgone
        obtain ⟨an, ean, han⟩ := HAB.out q hlt
        have HC2 : Hid (comesT F G b pl args (q + 1) = eitherF (comesT F G b pl args q) (F an)) := by show _ = _; rw [HCT.out, if_pos hg, ean]; rfl
        clear hg HCT
        generalize pl.getD q 0 = z at cz hgone
        go_upto_region 6 with (go_at_call 55; refine hgone.mono ?_; rintro e w2 ⟨rfl, hb2⟩)
        have HW2 : Hid (Below V.heap.size V w2) := HWV.out.trans (hb2.mono HWV.out.size)
        have HW2B : Hid (Below (V.heap.size) V1 w2) := HW.out.trans (hb2.mono (by have := HW.out.size; have := HB1S.out; omega))
        have r72 := (hb2.block _ (lt_of_block hrow)).trans hrow
        obtain ⟨hk, hgg, hlp, hla, p2, -⟩ := HKB.out w2 HW2.out
        obtain ⟨aA', bA, oA, m', cA', e2, -, haA, hcA, -⟩ := ints_get hla
        obtain ⟨rfl, rfl, rfl⟩ : aA = aA' ∧ nA = m' ∧ cA = cA' := by simpa using e2
        obtain rfl := haA (by omega)
        have ca := hcA q hlt
        rw [ean] at ca
        have hfa := hk.fact han
        have k2 : w2.cell? ⟨K, 2, none⟩ = some (.slice (some ⟨FB, 0, none⟩) VN VN) := by rw [cell_of_row _ _ _ _ _ _ hk.box]; rfl
        have hanI : (an : Int) < (VN : Int) := by omega
        have HEI : Hid (∀ W, Below V.heap.size V W → Calls Tryz.prog 110 #[.agg #[.int .i64 (comesT F G b pl args q).kind, .int .i64 (comesT F G b pl args q).num], .agg #[.int .i64 (F an).kind, .int .i64 (F an).num]] W fun e w' => e = .returned (.agg #[.int .i64 (comesT F G b pl args (q + 1)).kind, .int .i64 (comesT F G b pl args (q + 1)).num]) ∧ Below W.heap.size W w') := fun W hW => by
          rw [HC2.out]; exact either_any _ _ W (HKB.out W hW).2.1
        obtain ⟨ek, hek⟩ : ∃ x, x = (comesT F G b pl args (q + 1)).kind := ⟨_, rfl⟩
        obtain ⟨en, hen⟩ : ∃ x, x = (comesT F G b pl args (q + 1)).num := ⟨_, rfl⟩
        have HEK : Hid (ek = (comesT F G b pl args (q + 1)).kind ∧ en = (comesT F G b pl args (q + 1)).num) := ⟨hek, hen⟩
        rw [← hek, ← hen] at HEI
        clear hb2 hk hgg hlp hla haA hcA e2 hek hen hrow cz ean hgone
        generalize (comesT F G b pl args q).kind = ck at *
        generalize (comesT F G b pl args q).num = cn at *
        generalize (F an).kind = fk at *
        generalize (F an).num = fn at *
        refine wp_region_last (S := fun W => Below w2.heap.size w2 W) _ 13 (by kernel_rfl) (by kernel_rfl) rfl ((Below.refl _ _).drew) (fun hHeld => ?_)
        simp only [List.pop_toArray, List.dropLast]
        refine wpAnyH_take (i := 0) (v := .agg [.int .i64 ck, .int .i64 cn].toArray) rfl (by kernel_rfl) (by kernel_rfl) (by kernel_rfl) (fun _ _ _ h => h) (yieldsIf_load_mid (by rfl) 65 _ rfl ((V.heap.size)) 0 rfl [.int .i64 ck, .int .i64 cn] _ (fun W hSW j u hu => by rw [cell_of_row _ _ _ _ _ _ ((hSW.block _ (lt_of_block r72)).trans r72)]; simpa using hu) Tryz.underlying65 rfl infoFact) (by assumption) ?_
        (try simp only [zB])
        (try simp only [zA])
        refine wpAnyH_take (i := 1) (v := ?_) rfl (by kernel_rfl) (by kernel_rfl) (by kernel_rfl) (fun _ _ _ h => h) (Or.inl ⟨by rfl, ?_⟩) (by assumption) ?_
        rotate_left
        · (intro W hSW; go_simp; try (with_reducible rfl))
        (try simp only [zB])
        (try simp only [zA])
        refine wpAnyH_take (i := 2) (v := ?_) rfl (by kernel_rfl) (by kernel_rfl) (by kernel_rfl) (fun _ _ _ h => h) (Or.inl ⟨by rfl, ?_⟩) (by assumption) ?_
        rotate_left
        · (intro W hSW; go_simp; try (with_reducible rfl))
        (try simp only [zB])
        (try simp only [zA])
        refine wpAnyH_take (i := 3) (v := ?_) rfl (by kernel_rfl) (by kernel_rfl) (by kernel_rfl) (fun _ _ _ h => h) (Or.inl ⟨by rfl, ?_⟩) (by assumption) ?_
        rotate_left
        · (intro W hSW; go_simp; try (with_reducible rfl))
        (try simp only [zB])
        (try simp only [zA])
        refine wpAnyH_take (i := 4) (v := ?_) rfl (by kernel_rfl) (by kernel_rfl) (by kernel_rfl) (fun _ _ _ h => h) (Or.inl ⟨by rfl, ?_⟩) (by assumption) ?_
        rotate_left
        · (intro W hSW; have z0 := keeps_below hSW _ _ k2; go_simp; try (with_reducible rfl))
        (try simp only [zB])
        (try simp only [zA])
        refine wpAnyH_take (i := 5) (v := ?_) rfl (by kernel_rfl) (by kernel_rfl) (by kernel_rfl) (fun _ _ _ h => h) (Or.inl ⟨by rfl, ?_⟩) (by assumption) ?_
        rotate_left
        · (intro W hSW; go_simp; try (with_reducible rfl))
        (try simp only [zB])
        (try simp only [zA])
        refine wpAnyH_take (i := 6) (v := ?_) rfl (by kernel_rfl) (by kernel_rfl) (by kernel_rfl) (fun _ _ _ h => h) (Or.inl ⟨by rfl, ?_⟩) (by assumption) ?_
        rotate_left
        · (intro W hSW; have z0 := keeps_below hSW _ _ p2; go_simp; try (with_reducible rfl))
        (try simp only [zB])
        (try simp only [zA])
        refine wpAnyH_take (i := 7) (v := ?_) rfl (by kernel_rfl) (by kernel_rfl) (by kernel_rfl) (fun _ _ _ h => h) (Or.inl ⟨by rfl, ?_⟩) (by assumption) ?_
        rotate_left
        · (intro W hSW; go_simp; try (with_reducible rfl))
        (try simp only [zB])
        (try simp only [zA])
        refine wpAnyH_take (i := 8) (v := ?_) rfl (by kernel_rfl) (by kernel_rfl) (by kernel_rfl) (fun _ _ _ h => h) (Or.inl ⟨by rfl, ?_⟩) (by assumption) ?_
        rotate_left
        · (intro W hSW; go_simp; try (with_reducible rfl))
        (try simp only [zB])
        (try simp only [zA])
        refine wpAnyH_take (i := 9) (v := ?_) rfl (by kernel_rfl) (by kernel_rfl) (by kernel_rfl) (fun _ _ _ h => h) (Or.inl ⟨by rfl, ?_⟩) (by assumption) ?_
        rotate_left
        · (intro W hSW; have z0 := keeps_below hSW _ _ ca; go_simp; try (with_reducible rfl))
        (try simp only [zB])
        (try simp only [zA])
        refine wpAnyH_take (i := 10) (v := ?_) rfl (by kernel_rfl) (by kernel_rfl) (by kernel_rfl) (fun _ _ _ h => h) (Or.inl ⟨by rfl, ?_⟩) (by assumption) ?_
        rotate_left
        · (intro W hSW; go_simp; try (with_reducible rfl))
        (try simp only [zB])
        (try simp only [zA])
        refine wpAnyH_take (i := 11) (v := .agg [.int .i64 fk, .int .i64 fn].toArray) rfl (by kernel_rfl) (by kernel_rfl) (by kernel_rfl) (fun _ _ _ h => h) (yieldsIf_load_mid (by rfl) 65 _ rfl (FB) (an * 2) rfl [.int .i64 fk, .int .i64 fn] _ (fun W hSW j u hu => keeps_below hSW _ _ (hfa j u hu)) Tryz.underlying65 rfl infoFact) (by assumption) ?_
        (try simp only [zB])
        (try simp only [zA])
        refine wpAnyH_ready (rs := [12]) (by kernel_rfl) (by simp) ?_
        refine AllReadyH.cons rfl (fun K hK => ?_) AllReadyH.nil
        go_simp
        go_at_call 110
        refine (HEI.out _ (Below.trans HW2.out (Below.mono hHeld HW2.out.size))).mono ?_
        rintro e w3 ⟨rfl, hbc⟩
        have HBw3 : Below w2.heap.size w2 w3 := Below.trans hHeld (Below.mono hbc (Below.size hHeld))
        dsimp only
        refine hK.out _ _ HBw3 (fun _ => ?_)
        clear hK K hbc hHeld
        have hHeld := HBw3
        (try simp only [zA])
        refine wpAnyH_done (by kernel_rfl) ?_ _
        refine Or.inl ?_
        have r73 := (Below.block hHeld _ (lt_of_block r72)).trans r72
        refine wp_store_row 65 _ _ rfl (V.heap.size) #[.int .i64 ek, .int .i64 en] rfl rfl 65 #[.int .i64 ck, .int .i64 cn] r73 infoFact rfl (by simp [Value.oneCell']) ?_
        (try simp only [Act.put])
        go_wp2
        go_roundw
        case rel => exact ⟨q + 1, by omega, by go_num, by rw [← HEK.out.1, ← HEK.out.2]; exact setRow_heap _ _ _ _ _ _ r73, belowSK (HW2B.out.trans (Below.mono hHeld (by have := HW2B.out.size; have := HB1S.out; omega))) (Nat.le_refl _) _⟩
        case measure => simp [intOf]; omega
      · rw [decide_eq_false hg] at hgone
        have HC2 : Hid (comesT F G b pl args (q + 1) = comesT F G b pl args q) := by show _ = _; rw [HCT.out, if_neg hg]
        clear hg HCT
        generalize pl.getD q 0 = z at cz hgone
        go_wp2_with (go_at_call 55; refine hgone.mono ?_; rintro e w2 ⟨rfl, hb2⟩)
        go_roundw
        case rel => exact ⟨q + 1, by omega, by go_num, by rw [HC2.out]; exact (hb2.block _ (lt_of_block hrow)).trans hrow, HW.out.trans (hb2.mono (by have := HW.out.size; have := HB1S.out; omega))⟩
        case measure => simp [intOf]; omega
    · obtain rfl : q = nA := by omega
      obtain ⟨-, -, -, -, -, r6⟩ := HKB.out wr HWV.out
      rw [← HE.out.1] at hrow
      obtain ⟨ck, hck⟩ : ∃ x, x = (comesT F G b pl args pl.length).kind := ⟨_, rfl⟩
      obtain ⟨cn, hcn⟩ : ∃ x, x = (comesT F G b pl args pl.length).num := ⟨_, rfl⟩
      have HCK : Hid (ck = (comesT F G b pl args pl.length).kind ∧ cn = (comesT F G b pl args pl.length).num) := ⟨hck, hcn⟩
      rw [← hck, ← hcn] at hrow
      clear hck hcn
      go_wp2_with (first
        | (refine wpList_load_row rfl 65 (.tmp 7) rfl _ rfl _ _ _ _ hrow Tryz.underlying65 rfl infoFact ?_)
        | (refine wpList_store_row rfl _ _ _ rfl _ #[.int .i64 ck, .int .i64 cn] rfl rfl _ _ r6 infoFact rfl (by simp [Value.oneCell']) ?_))
      (try simp only [Exit.inBlock, Exit.then])
      exact bodyPost_ret (results_cell_row rfl _ _ (w.heap.size + 1) 65 #[.int .i64 ck, .int .i64 cn] (0, 0) _ rfl (setRow_heap _ _ _ _ _ _ r6) Tryz.underlying65 rfl infoFact) rfl ⟨by rw [HCK.out.1, HCK.out.2], belowSK (HS.out.2.trans (HWV.out.mono HS.out.2.size)) (by omega) _⟩
end Go.Proofs.YtldbmdgpdolaaaaGreatDoor
