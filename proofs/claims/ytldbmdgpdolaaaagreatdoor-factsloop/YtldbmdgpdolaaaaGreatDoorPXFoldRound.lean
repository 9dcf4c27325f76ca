import Derived.Test.YtldbmdgpdolaaaaGreatDoorPXBrief
import Derived.Test.YtldbmdgpdolaaaaGreatDoorPXFoldMath
namespace Go.Proofs.YtldbmdgpdolaaaaGreatDoor
open Go Go.RowKit

theorem IntsVal.ofMap {w w' : World} {v : Value} {l : List Int} {B : Nat} (h : IntsVal w v l) (hg : w.grownBy w' (some B)) (hB : ∃ es cl, w.heap[B]? = some (.map es cl)) : IntsVal w' v l := by
  obtain ⟨ao, b, off, n, cap, rfl, hl, ha, hc, hcp, hm⟩ := h
  obtain ⟨es, cl, hB⟩ := hB
  refine ⟨ao, b, off, n, cap, rfl, hl, ha, fun k hk => gcell hg (hc k hk) (fun e => ?_), hcp, hm⟩
  have h1 := hc k hk
  have e : b = B := e
  rw [e] at h1
  simp [World.cell?, hB] at h1
theorem mem_addW {G : Ways} {x y : Int × Int} : y ∈ addW G x ↔ y ∈ G ∨ y = x := by
  unfold addW
  split
  · rename_i h; exact ⟨Or.inl, fun h2 => h2.elim id (fun e => e ▸ h)⟩
  · rw [List.mem_append, List.mem_singleton]
theorem KnAt.addWay {w w' : World} {K gp n gB VN FB MB : Nat} {F : Facts} {G : Ways} (h : KnAt w K gp n gB VN FB MB F G) {D : Dat} (hM : WMapAt w MB G.length D) (hD : WaysMap G D) {a b : Int} {d : Dat} {m : Nat} (hM' : WMapAt w' MB m (D.put (wayL a b) d)) (hg : w.grownBy w' (some MB)) (ha : FitW a) (hb : FitW b) : KnAt w' K gp n gB VN FB MB F (addW G (a, b)) := by
  have hD' := hD.add (World.ownsMap.tidy hM lawWay) ha hb d
  obtain ⟨es, cl, hB, -⟩ := hM
  have hk : K ≠ MB := fun e => by have := h.box; rw [e, hB] at this; cases this
  have hf : FB ≠ MB := fun e => by have := h.facts; rw [e, hB] at this; cases this
  obtain ⟨es', cl', hB', f', hs', e'⟩ := hM'
  refine ⟨gblock hg h.box hk, gblock hg h.facts hf, D.put (wayL a b) d, ⟨es', cl', hB', f', ?_, e'⟩, hD'⟩
  have e1 : Maps.size (D.put (wayL a b) d) = es'.size := by rw [e']; simp [Maps.size, length_sorted]
  rw [← hD'.size, e1]
  exact Nat.le_refl _
set_option maxRecDepth 100000 in
set_option maxHeartbeats 16000000 in
theorem round_any {K gB FB MB gp : Nat} {F : Facts} {G : Ways} {c : FC} {FF TT : Nat → Int} {VV : Nat → Value} {W0 : World} (w : World) (hc : c.Ok) (HMEM : FcMem c gp gB FF TT VV W0) (hw : Below W0.heap.size W0 w) (h : KnAt w K gp c.n gB c.VN FB MB F G) (hg : GOk G) (hi : c.know.Inv F G) (hne : K ≠ FB) (hfb : W0.heap.size ≤ FB) (hmb : W0.heap.size ≤ MB) :
    Calls Tryz.prog 52 #[.pointer (some ⟨K, 0, none⟩)] w (RoundPost W0 c K gp gB FB MB F G) := by
  have HP : Hid (∀ e w', (∃ (r : Bool) (F' : Facts) (G' : Ways), e = .returned (.bool r) ∧ KnAt w' K gp c.n gB c.VN FB MB F' G' ∧ Below W0.heap.size W0 w' ∧ GOk G' ∧ c.know.Inv F' G' ∧ (r = true → sumF F c.VN + G.length < sumF F' c.VN + G'.length) ∧ (r = false → F' = F ∧ G' = G ∧ c.know.Closed F G)) → RoundPost W0 c K gp gB FB MB F G e w') := fun _ _ h => h
  have HC : Hid c.Ok := hc
  have HM0 : Hid (FcMem c gp gB FF TT VV W0) := HMEM
  have HNE : Hid (K ≠ FB ∧ W0.heap.size ≤ FB ∧ W0.heap.size ≤ MB) := ⟨hne, hfb, hmb⟩
  have HI : Hid (GOk G ∧ c.know.Inv F G ∧ Below W0.heap.size W0 w) := ⟨hg, hi, hw⟩
  have HKW : Hid (KnAt w K gp c.n gB c.VN FB MB F G) := h
  obtain ⟨D, hMw, hDw⟩ := h.ways
  have hsz := hDw.size
  have hb3 := h.box
  have k3 : w.cell? ⟨K, 3, none⟩ = some (.map (some MB)) := by rw [cell_of_row _ _ _ _ _ _ h.box]; rfl
  have k0 : w.cell? ⟨K, 0, none⟩ = some (.slice (some ⟨gp, 0, none⟩) c.n c.n) := by rw [cell_of_row _ _ _ _ _ _ h.box]; rfl
  have hn40 := hc.n40
  have hvn := hc.vn
  clear hc HMEM hw h hg hi hne hfb hmb hDw hb3
  go_enter Tryz.func52, Tryz.ntmps52
  go_upto_region 2 with (at_len; refine wpList_len_own _ rfl _ 101 rfl 124 125 Tryz.underlying101 _ MB _ D rfl hMw ?_)
  go_upto_region 3 with fail
  clear hMw k3 k0
  go_loopw [4, 23] (fun u4 i wr => ∃ (r1 : Bool) (F1 : Facts) (G1 : Ways) (q : Nat), q ≤ c.n ∧ u4 = .bool r1 ∧ i = .int .i64 q ∧ KnAt wr K gp c.n gB c.VN FB MB F1 G1 ∧ c.know.Mid c.VN F G F1 G1 r1 (fun s => s.blk < q) (fun b => b < q) ∧ GOk G1 ∧ Below W0.heap.size W0 wr) (fun _ i _ => c.n - (intOf i).toNat)
  case atStart => exact ⟨false, F, G, 0, Nat.zero_le _, rfl, rfl, HKW.out, (Know.Mid.new HI.out.2.1).weak (fun s _ h _ => absurd h (Nat.not_lt_zero _)) (fun b h _ => absurd h (Nat.not_lt_zero _)), HI.out.1, HI.out.2.2⟩
  case round =>
    obtain ⟨r1, F1, G1, q, hq, rfl, rfl, hk1, hm1, hg1, hw1⟩ := hrel
    rename World => wo
    have HK1 : Hid (KnAt wo K gp c.n gB c.VN FB MB F1 G1) := hk1
    have HM1 : Hid (c.know.Mid c.VN F G F1 G1 r1 (fun s => s.blk < q) (fun b => b < q)) := hm1
    have HG1 : Hid (GOk G1) := hg1
    have HW1 : Hid (Below W0.heap.size W0 wo) := hw1
    clear hk1 hm1 hg1 hw1
    by_cases hlt : q < c.n
    · have hqI : (q : Int) < c.n := by omega
      obtain ⟨PC, aP, qP, cP, aI, qI, cI, VA, hP15, hPone, hP1, hP2, haP, haI, hcP, hcI, hall⟩ := HM0.out.part q hlt
      obtain ⟨np, hnp⟩ : ∃ np, np = (c.PH q).length := ⟨_, rfl⟩
      obtain ⟨ni, hni⟩ : ∃ ni, ni = (c.IN q).length := ⟨_, rfl⟩
      rw [← hnp] at hP1 haP hcP
      rw [← hni] at hP2 hcI
      have HALL : Hid (∀ W, Below W0.heap.size W0 W → W.rangeAt gp (q * 15) PC ∧ W.cell? ⟨gp, q * 15 + 2, none⟩ = some (.slice aI ni cI) ∧ (∀ j, j < np → W.rangeAt qP (j * 3) [.int .i64 (((c.PH q).getD j noPhi).reg : Nat), .int .i64 ((c.PH q).getD j noPhi).id, VA j] ∧ IntsVal W (VA j) ((c.PH q).getD j noPhi).args) ∧ ∀ j, j < ni → W.rangeAt qI (j * 6) (inC ((c.IN q).getD j noIns))) := by rw [hnp, hni]; exact hall
      have HAP : Hid ((0 < np → aP = some ⟨qP, 0, none⟩) ∧ aI = some ⟨qI, 0, none⟩ ∧ np = (c.PH q).length ∧ ni = (c.IN q).length) := ⟨haP, haI, hnp, hni⟩
      have hnp12 : np ≤ 12 := by rw [hnp]; exact (HC.out.ph q hlt).1
      have hni40 : ni ≤ 40 := by rw [hni]; exact (HC.out.ins q hlt).2.1
      have hrP := (HALL.out wo HW1.out).1
      have k0 : wo.cell? ⟨K, 0, none⟩ = some (.slice (some ⟨gp, 0, none⟩) c.n c.n) := by rw [cell_of_row _ _ _ _ _ _ HK1.out.box]; rfl
      have HB4 : Hid (Below wo.heap.size wo (wo.alloc (.cells PC.toArray 63))) := (Below.refl _ _).alloc (Nat.le_refl _) _
      have r6 : (wo.alloc (.cells PC.toArray 63)).heap[wo.heap.size]? = some (.cells PC.toArray 63 (0, 0)) := heap_alloc_last _ _
      have infoPC : (Tryz.prog.info? 63).map (·.size) = some PC.length := by rw [hP15]; exact infoPartR
      have infoPC2 : (Tryz.prog.info? 63).map (·.size) = some PC.toArray.size := by simpa using infoPC
      have hold : ∀ old : Array Value, old.size = 15 → old.size = PC.toArray.size := fun old h => by simpa [hP15] using h
      clear hall haP haI hnp hni hP15
      go_upto_region 5 with (first
        | (refine wpList_load_mid rfl 63 _ rfl gp (q * 15) rfl PC _ hrP Tryz.underlying63 rfl infoPC ?_)
        | (refine wpList_store_row rfl _ _ _ rfl _ PC.toArray rfl rfl _ _ (heap_alloc_last wo _) infoPC2 (hold _ rfl) hPone ?_; rw [World.setRow_alloc_new]))
      have HBO4 : Hid (Below W0.heap.size W0 (wo.alloc (.cells PC.toArray 63))) := HW1.out.trans (HB4.out.mono HW1.out.size)
      have HK4 : Hid (KnAt (wo.alloc (.cells PC.toArray 63)) K gp c.n gB c.VN FB MB F1 G1) := HK1.out.below HB4.out
      have hP6 := lt_of_block r6
      have hne6 : wo.heap.size ≠ FB := by have := lt_of_block HK1.out.facts; omega
      have HK1B : Hid (FB < wo.heap.size ∧ MB < wo.heap.size) := ⟨lt_of_block HK1.out.facts, by obtain ⟨D', ⟨es, cl, hh, r⟩, hD'⟩ := HK1.out.ways; exact lt_of_block hh⟩
      clear hrP k0 infoPC infoPC2 hold HK1
      generalize (wo.alloc (.cells PC.toArray 63)) = V4 at *
      generalize wo.heap.size = P6 at *
      have hpv := HC.out.pv q hlt
      obtain ⟨-, -, hbl⟩ := HM0.out.blk V4 HBO4.out
      obtain ⟨hblr, -, -⟩ := HM0.out.blk V4 HBO4.out
      have hmet := met_any V4 HK4.out q hlt (by omega) _ _ (blk_prev hblr q hlt) (hbl q hlt).2 hpv.2 hpv.1
      clear hpv hbl hblr
      by_cases hmt : metB G1 (c.PV q) q = true
      · rw [hmt] at hmet
        have HMT : Hid (c.know.met G1 q) := FC.met_iff.1 hmt
        clear hmt
        go_upto_region 6 with (go_at_call 31; refine hmet.mono ?_; rintro e V5 ⟨rfl, hb5⟩)
        have HB5 : Hid (Below W0.heap.size W0 V5) := HBO4.out.trans (hb5.mono HBO4.out.size)
        have HK5 : Hid (KnAt V5 K gp c.n gB c.VN FB MB F1 G1) := HK4.out.below hb5
        have r65 := (hb5.block _ hP6).trans r6
        have p1 : V5.cell? ⟨P6, 1, none⟩ = some (.slice aP np cP) := by rw [cell_of_row _ _ _ _ _ _ r65, List.getElem?_toArray]; exact hP1
        clear hmet hb5 r6 HK4 HBO4 HB4 hP6
        go_upto_region 7 with fail
        clear p1
        go_loopw [4, 35] (fun u4 i wr => ∃ (r2 : Bool) (F2 : Facts) (j : Nat), j ≤ np ∧ u4 = .bool r2 ∧ i = .int .i64 j ∧ KnAt wr K gp c.n gB c.VN FB MB F2 G1 ∧ c.know.Mid c.VN F G F2 G1 r2 (fun s => s.blk < q ∨ ∃ k, k < j ∧ s = phiS c q ((c.PH q).getD k noPhi)) (fun b => b < q) ∧ Below W0.heap.size W0 wr ∧ wr.heap[P6]? = some (.cells PC.toArray 63 (0, 0))) (fun _ i _ => np - (intOf i).toNat)
        case atStart => exact ⟨r1, F1, 0, Nat.zero_le _, rfl, rfl, HK5.out, HM1.out.weak (fun s _ h _ => h.elim id (fun ⟨k, hk, _⟩ => absurd hk (Nat.not_lt_zero _))) (fun b h _ => h), HB5.out, r65⟩
        case round =>
          clear r65 HK5 HB5
          obtain ⟨r2, F2, j, hj, rfl, rfl, hk2, hm2, hw2, r62⟩ := hrel
          rename World => wi
          have HK2 : Hid (KnAt wi K gp c.n gB c.VN FB MB F2 G1) := hk2
          have HM2 : Hid (c.know.Mid c.VN F G F2 G1 r2 (fun s => s.blk < q ∨ ∃ k, k < j ∧ s = phiS c q ((c.PH q).getD k noPhi)) (fun b => b < q)) := hm2
          have HW2 : Hid (Below W0.heap.size W0 wi) := hw2
          clear hk2 hm2 hw2
          by_cases hlj : j < np
          · have hjI : (j : Int) < np := by omega
            obtain ⟨-, -, hpj, -⟩ := HALL.out wi HW2.out
            obtain ⟨hrj, hIj⟩ := hpj j hlj
            obtain rfl := HAP.out.1 (by omega)
            obtain ⟨p, hp⟩ : ∃ p, p = (c.PH q).getD j noPhi := ⟨_, rfl⟩
            have hpm : p ∈ c.PH q := by rw [hp, List.getD, List.getElem?_eq_getElem (by rw [← HAP.out.2.2.1]; exact hlj)]; exact List.getElem_mem _
            rw [← hp] at hrj hIj
            obtain ⟨hpa, hpi1, hpi2, hpab⟩ := (HC.out.ph q hlt).2 p hpm
            obtain ⟨idn, hidn0⟩ : ∃ idn : Nat, p.id = (idn : Int) := ⟨p.id.toNat, by omega⟩
            have hidn : idn < c.VN := by omega
            have hst : c.know.site (phiS c q p) := ⟨q, hlt, Or.inl ⟨p, hpm, rfl⟩⟩
            have hsid : (phiS c q p).id = idn := by show p.id.toNat = idn; omega
            obtain ⟨AV, hAV⟩ : ∃ AV, AV = comesT F2 G1 q (c.PV q) p.args (c.PV q).length := ⟨_, rfl⟩
            have hstr : (phiS c q p).tr F2 G1 = AV := hAV.symm
            have hmd := HM2.out.rise HC.out.know hst (by rw [hsid]; exact hidn) HMT.out
            rw [hsid, hstr] at hmd
            have HMD : Hid (c.know.Mid c.VN F G (updF F2 idn AV) G1 (r2 || decide (F2 idn ≠ AV)) (fun s => s.blk < q ∨ ∃ k, k < j + 1 ∧ s = phiS c q ((c.PH q).getD k noPhi)) (fun b => b < q)) := hmd.weak (fun s _ hs _ => by
              rcases hs with hs | ⟨k, hk, hs⟩
              · exact Or.inl (Or.inl hs)
              · by_cases e : k = j
                · right; rw [hs, e, ← hp]
                · exact Or.inl (Or.inr ⟨k, by omega, hs⟩)) (fun b hb _ => hb)
            have HEQ : Hid ((r2 || decide (F2 idn ≠ AV)) = (decide (F2 idn ≠ AV) || r2)) := Bool.or_comm _ _
            rw [hidn0] at hrj
            obtain ⟨rg, hrg⟩ : ∃ rg : Int, rg = ((p.reg : Nat) : Int) := ⟨_, rfl⟩
            rw [← hrg] at hrj
            obtain ⟨aA, nA, cA, hva⟩ : ∃ aA nA cA, VA j = .slice aA nA cA := by obtain ⟨a, c, e⟩ := hIj.shape; exact ⟨a, _, c, e⟩
            rw [hva] at hrj hIj
            have HIJ : Hid (IntsVal wi (.slice aA nA cA) p.args) := hIj
            have HPA : Hid (p.args.length = (c.PV q).length ∧ ∀ a ∈ p.args, 0 ≤ a ∧ a < (c.VN : Int)) := ⟨hpa, hpab⟩
            have HAV : Hid (AV = comesT F2 G1 q (c.PV q) p.args (c.PV q).length) := hAV
            clear hpj hp hst hsid hstr hmd hAV hIj hpa hpab hpi1 hpi2 hrg hva
            go_upto_region 9 with (refine wpList_load_mid rfl 72 _ rfl qP (j * 3) rfl _ _ hrj Tryz.underlying72 rfl infoPhi3f ?_)
            have HB8w : Hid (Below wi.heap.size wi (wi.alloc (.cells #[.int .i64 rg, .int .i64 (idn : Int), .slice aA nA cA] 72))) := (Below.refl _ _).alloc (Nat.le_refl _) _
            have r8 : (wi.alloc (.cells #[.int .i64 rg, .int .i64 (idn : Int), .slice aA nA cA] 72)).heap[wi.heap.size]? = some (.cells #[.int .i64 rg, .int .i64 (idn : Int), .slice aA nA cA] 72 (0, 0)) := heap_alloc_last _ _
            have r68 := (HB8w.out.block _ (lt_of_block r62)).trans r62
            have HB8 : Hid (Below W0.heap.size W0 (wi.alloc (.cells #[.int .i64 rg, .int .i64 (idn : Int), .slice aA nA cA] 72))) := HW2.out.trans (HB8w.out.mono HW2.out.size)
            have HK8 : Hid (KnAt (wi.alloc (.cells #[.int .i64 rg, .int .i64 (idn : Int), .slice aA nA cA] 72)) K gp c.n gB c.VN FB MB F2 G1) := HK2.out.below HB8w.out
            have hne8 : wi.heap.size ≠ FB := by have := lt_of_block HK2.out.facts; omega
            have HIJ8 : Hid (IntsVal (wi.alloc (.cells #[.int .i64 rg, .int .i64 (idn : Int), .slice aA nA cA] 72)) (.slice aA nA cA) p.args) := HIJ.out.keeps (keeps_below HB8w.out)
            clear hrj r62 HB8w HK2 HIJ
            generalize (wi.alloc (.cells #[.int .i64 rg, .int .i64 (idn : Int), .slice aA nA cA] 72)) = V8 at *
            generalize wi.heap.size = P8 at *
            have y1 : V8.cell? ⟨P8, 1, none⟩ = some (.int .i64 (idn : Int)) := by rw [cell_of_row _ _ _ _ _ _ r8]; rfl
            have hpv := HC.out.pv q hlt
            obtain ⟨hblr, hgg, hbl⟩ := HM0.out.blk V8 HB8.out
            have HCM := comes_any V8.drew (HK8.out.below ((Below.refl _ _).drew)) (hgg.below ((Below.refl _ _).drew)) q hlt (by omega) _ _ (blk_prev hblr q hlt) ((hbl q hlt).2.keeps (fun _ _ h => h)) hpv.2 hpv.1 rg (idn : Int) (.slice aA nA cA) p.args (HIJ8.out.keeps (fun _ _ h => h)) HPA.out.1 HPA.out.2 (by omega)
            rw [← HAV.out] at HCM
            have HCM : Hid (Calls Tryz.prog 85 #[.pointer (some ⟨K, 0, none⟩), .int .i64 q, .agg #[.int .i64 rg, .int .i64 (idn : Int), .slice aA nA cA]] V8.drew fun e w' => e = .returned (.agg #[.int .i64 AV.kind, .int .i64 AV.num]) ∧ Below V8.drew.heap.size V8.drew w') := HCM
            clear hpv hblr hgg hbl
            refine wp_region_held_drew (S := fun W => V8.grownBy W (some FB)) (by kernel_rfl) (gb_below _ ((Below.refl _ _).drew)) (fun hHeld => ?_)
            show wpAnyH _ _ _ _ _ 12 _ _ _
            refine wpAnyH_take (i := 0) (v := ?_) rfl (by kernel_rfl) (by kernel_rfl) (by kernel_rfl) (fun _ _ _ h => h) (Or.inl ⟨by rfl, ?_⟩) (by assumption) ?_
            rotate_left
            · (intro W hSW; go_simp; try (with_reducible rfl))
            (try simp only [zB])
            (try simp only [zA])
            refine wpAnyH_take (i := 1) (v := ?_) rfl (by kernel_rfl) (by kernel_rfl) (by kernel_rfl) (fun _ _ _ h => h) (Or.inl ⟨by rfl, ?_⟩) (by assumption) ?_
            rotate_left
            · (intro W hSW; go_simp; try (with_reducible rfl))
            (try simp only [zB])
            (try simp only [zA])
            refine wpAnyH_take (i := 2) (v := ?_) rfl (by kernel_rfl) (by kernel_rfl) (by kernel_rfl) (fun _ _ _ h => h) (Or.inl ⟨by rfl, ?_⟩) (by assumption) ?_
            rotate_left
            · (intro W hSW; have z0 := gcell hSW y1 (hne8); go_simp; try (with_reducible rfl))
            (try simp only [zB])
            (try simp only [zA])
            refine wpAnyH_take (i := 3) (v := ?_) rfl (by kernel_rfl) (by kernel_rfl) (by kernel_rfl) (fun _ _ _ h => h) (Or.inl ⟨by rfl, ?_⟩) (by assumption) ?_
            rotate_left
            · (intro W hSW; go_simp; try (with_reducible rfl))
            (try simp only [zB])
            (try simp only [zA])
            refine wpAnyH_take (i := 4) (v := ?_) rfl (by kernel_rfl) (by kernel_rfl) (by kernel_rfl) (fun _ _ _ h => h) (Or.inl ⟨by rfl, ?_⟩) (by assumption) ?_
            rotate_left
            · (intro W hSW; go_simp; try (with_reducible rfl))
            (try simp only [zB])
            (try simp only [zA])
            refine wpAnyH_take (i := 5) (v := .agg [.int .i64 rg, .int .i64 (idn : Int), .slice aA nA cA].toArray) rfl (by kernel_rfl) (by kernel_rfl) (by kernel_rfl) (fun _ _ _ h => h) (yieldsIf_load_mid (by rfl) 72 _ rfl (P8) 0 rfl [.int .i64 rg, .int .i64 (idn : Int), .slice aA nA cA] _ (fun W hSW j u hu => by rw [cell_of_row _ _ _ _ _ _ (gblock hSW r8 (hne8))]; simpa using hu) Tryz.underlying72 rfl infoPhi3f) (by assumption) ?_
            (try simp only [zB])
            (try simp only [zA])
            refine wpAnyH_ready (rs := [6]) (by kernel_rfl) (by simp) ?_
            refine AllReadyH.cons rfl (fun Kk hK => ?_) AllReadyH.nil
            go_simp
            go_at_call 85
            refine (HCM.out).mono ?_
            rintro e w9 ⟨rfl, hb9⟩
            have hk9 := HK8.out.below ((Below.refl _ _).drew.trans hb9)
            have hrs := rise_any w9 hk9 idn hidn HNE.out.1 AV
            have HRS : Hid (Calls Tryz.prog 84 #[.pointer (some ⟨K, 0, none⟩), .int .i64 (idn : Int), .agg #[.int .i64 AV.kind, .int .i64 AV.num]] w9 (RisePost w9 K gp c.n gB c.VN FB MB F2 G1 idn AV)) := hrs
            clear hrs
            have HSw9 : V8.grownBy w9 (some FB) := gb_below _ ((Below.refl _ _).drew.trans hb9)
            dsimp only
            refine hK.out _ _ HSw9 (fun _ => ?_)
            clear hK Kk hHeld
            have hHeld := HSw9
            (try simp only [zA])
            refine wpAnyH_ready (rs := [7]) (by kernel_rfl) (by simp) ?_
            refine AllReadyH.cons rfl (fun Kk hK => ?_) AllReadyH.nil
            go_simp
            go_at_call 84
            refine (HRS.out).mono ?_
            rintro e w10 hP10
            obtain ⟨rfl, hk10, hg10⟩ := hP10
            have HK10 : Hid (KnAt w10 K gp c.n gB c.VN FB MB (updF F2 idn AV) G1) := hk10
            obtain ⟨rB, hrB⟩ : ∃ rB, rB = decide (F2 idn ≠ AV) := ⟨_, rfl⟩
            have HRB : Hid (rB = decide (F2 idn ≠ AV)) := hrB
            rw [← hrB]
            clear hrB hk10
            have HSw10 : V8.grownBy w10 (some FB) := gb_trans HSw9 hg10
            dsimp only
            refine hK.out _ _ HSw10 (fun _ => ?_)
            clear hK Kk hHeld
            have hHeld := HSw10
            (try simp only [zA])
            refine wpAnyH_take (i := 8) (v := ?_) rfl (by kernel_rfl) (by kernel_rfl) (by kernel_rfl) (fun _ _ _ h => h) (Or.inl ⟨by rfl, ?_⟩) (by assumption) ?_
            rotate_left
            · (intro W hSW; go_simp; try (with_reducible rfl))
            (try simp only [zB])
            (try simp only [zA])
            cases rB with
            | true =>
              refine wpAnyH_take (i := 9) (v := undef) rfl (by kernel_rfl) (by kernel_rfl) (by kernel_rfl) (fun _ _ _ h => h) (Or.inr ⟨by kernel_rfl, rfl⟩) (by assumption) ?_
              (try simp only [zA, zB])
              refine wpAnyH_take (i := 10) (v := ?_) rfl (by kernel_rfl) (by kernel_rfl) (by kernel_rfl) (fun _ _ _ h => h) (Or.inl ⟨by rfl, ?_⟩) (by assumption) ?_
              rotate_left
              · (intro W hSW; go_simp; try (with_reducible rfl))
              (try simp only [zB])
              (try simp only [zA])
              refine wpAnyH_take (i := 11) (v := ?_) rfl (by kernel_rfl) (by kernel_rfl) (by kernel_rfl) (fun _ _ _ h => h) (Or.inl ⟨by rfl, ?_⟩) (by assumption) ?_
              rotate_left
              · (intro W hSW; go_simp; try (with_reducible rfl))
              (try simp only [zB])
              (try simp only [zA])
              refine wpAnyH_done (by kernel_rfl) ?_ _
              have HG10 : Hid (V8.grownBy w10 (some FB)) := hHeld
              clear hHeld hk9 HSw9 HSw10 hb9 hg10 HRS
              go_wp2
              go_roundw
              case rel => exact ⟨_, updF F2 idn AV, j + 1, by omega, (by first | (rw [HEQ.out, ← HRB.out]; simp) | (rw [HEQ.out, ← HRB.out]; rfl)), by go_num, HK10.out, HMD.out, below_grownK HB8.out HG10.out HNE.out.2.1 HB8.out.size, gblock HG10.out r68 hne6⟩
              case measure => simp [intOf]; omega
            | false =>
              refine wpAnyH_take (i := 9) (v := ?_) rfl (by kernel_rfl) (by kernel_rfl) (by kernel_rfl) (fun _ _ _ h => h) (Or.inl ⟨by kernel_rfl, ?_⟩) (by assumption) ?_
              rotate_left
              · (intro W hSW; go_simp; try (with_reducible rfl))
              (try simp only [zB])
              (try simp only [zA])
              refine wpAnyH_take (i := 10) (v := ?_) rfl (by kernel_rfl) (by kernel_rfl) (by kernel_rfl) (fun _ _ _ h => h) (Or.inl ⟨by rfl, ?_⟩) (by assumption) ?_
              rotate_left
              · (intro W hSW; go_simp; try (with_reducible rfl))
              (try simp only [zB])
              (try simp only [zA])
              refine wpAnyH_take (i := 11) (v := ?_) rfl (by kernel_rfl) (by kernel_rfl) (by kernel_rfl) (fun _ _ _ h => h) (Or.inl ⟨by rfl, ?_⟩) (by assumption) ?_
              rotate_left
              · (intro W hSW; go_simp; try (with_reducible rfl))
              (try simp only [zB])
              (try simp only [zA])
              refine wpAnyH_done (by kernel_rfl) ?_ _
              have HG10 : Hid (V8.grownBy w10 (some FB)) := hHeld
              clear hHeld hk9 HSw9 HSw10 hb9 hg10 HRS
              go_wp2
              go_roundw
              case rel => exact ⟨_, updF F2 idn AV, j + 1, by omega, (by first | (rw [HEQ.out, ← HRB.out]; simp) | (rw [HEQ.out, ← HRB.out]; rfl)), by go_num, HK10.out, HMD.out, below_grownK HB8.out HG10.out HNE.out.2.1 HB8.out.size, gblock HG10.out r68 hne6⟩
              case measure => simp [intOf]; omega
          · obtain rfl : np = j := by omega
            obtain rfl := HAP.out.2.1
            have p2 : wi.cell? ⟨P6, 2, none⟩ = some (.slice (some ⟨qI, 0, none⟩) ni cI) := by rw [cell_of_row _ _ _ _ _ _ r62, List.getElem?_toArray]; exact hP2
            clear r62
            go_upto_region 12 with fail
            clear p2
            go_loopw [4, 54] (fun u4 i wr => ∃ (r3 : Bool) (F3 : Facts) (j : Nat), j ≤ ni ∧ u4 = .bool r3 ∧ i = .int .i64 j ∧ KnAt wr K gp c.n gB c.VN FB MB F3 G1 ∧ c.know.Mid c.VN F G F3 G1 r3 (fun s => s.blk < q ∨ (∃ k, k < np ∧ s = phiS c q ((c.PH q).getD k noPhi)) ∨ ∃ k, k < j ∧ ((c.IN q).getD k noIns).id ≠ -1 ∧ s = insS q ((c.IN q).getD k noIns)) (fun b => b < q) ∧ Below W0.heap.size W0 wr) (fun _ i _ => ni - (intOf i).toNat)
            case atStart => exact ⟨r2, F2, 0, Nat.zero_le _, rfl, rfl, HK2.out, HM2.out.weak (fun s _ h _ => by
                rcases h with h | h | ⟨k, hk, _⟩
                · exact Or.inl h
                · exact Or.inr h
                · exact absurd hk (Nat.not_lt_zero _)) (fun b h _ => h), HW2.out⟩
            case round =>
              clear HK2 HM2 HW2
              obtain ⟨r3, F3, j3, hj3, rfl, rfl, hk3, hm3, hw3⟩ := hrel
              rename World => wj
              have HK3 : Hid (KnAt wj K gp c.n gB c.VN FB MB F3 G1) := hk3
              have HM3 : Hid (c.know.Mid c.VN F G F3 G1 r3 (fun s => s.blk < q ∨ (∃ k, k < np ∧ s = phiS c q ((c.PH q).getD k noPhi)) ∨ ∃ k, k < j3 ∧ ((c.IN q).getD k noIns).id ≠ -1 ∧ s = insS q ((c.IN q).getD k noIns)) (fun b => b < q)) := hm3
              have HW3 : Hid (Below W0.heap.size W0 wj) := hw3
              clear hk3 hm3 hw3
              by_cases hlj : j3 < ni
              · have hjI : (j3 : Int) < ni := by omega
                obtain ⟨-, -, -, hij⟩ := HALL.out wj HW3.out
                have hrj := hij j3 hlj
                obtain ⟨x, hx⟩ : ∃ x, x = (c.IN q).getD j3 noIns := ⟨_, rfl⟩
                have hxm : x ∈ c.IN q := by rw [hx, List.getD, List.getElem?_eq_getElem (by rw [← HAP.out.2.2.2]; exact hlj)]; exact List.getElem_mem _
                rw [← hx] at hrj
                obtain ⟨hid0, hidv, ha0, ha1, hb0, hb1⟩ := (HC.out.ins q hlt).2.2 x hxm
                obtain ⟨xo, xid, xa, xb, xi, xp⟩ := x
                dsimp only at hid0 hidv ha0 ha1 hb0 hb1
                unfold inC at hrj
                dsimp only at hrj
                clear hij
                by_cases hxi : xid = -1
                · subst hxi
                  have HMD : Hid (c.know.Mid c.VN F G F3 G1 r3 (fun s => s.blk < q ∨ (∃ k, k < np ∧ s = phiS c q ((c.PH q).getD k noPhi)) ∨ ∃ k, k < j3 + 1 ∧ ((c.IN q).getD k noIns).id ≠ -1 ∧ s = insS q ((c.IN q).getD k noIns)) (fun b => b < q)) := HM3.out.weak (fun s _ hs _ => by
                    rcases hs with hs | hs | ⟨k, hk, hn, hs⟩
                    · exact Or.inl hs
                    · exact Or.inr (Or.inl hs)
                    · by_cases e : k = j3
                      · rw [e, ← hx] at hn; exact absurd rfl hn
                      · exact Or.inr (Or.inr ⟨k, by omega, hn, hs⟩)) (fun b hb _ => hb)
                  clear hx hxm hid0 hidv ha0 ha1 hb0 hb1 HM3
                  go_upto_region 14 with (refine wpList_load_mid rfl 67 _ rfl qI (j3 * 6) rfl _ _ hrj Tryz.underlying67 rfl infoInsG ?_)
                  have HB10w : Hid (Below wj.heap.size wj (wj.alloc (.cells #[.int .i64 xo, .int .i64 (-1), .int .i64 xa, .int .i64 xb, .int .i64 xi, .int .i64 xp] 67))) := (Below.refl _ _).alloc (Nat.le_refl _) _
                  have r10 : (wj.alloc (.cells #[.int .i64 xo, .int .i64 (-1), .int .i64 xa, .int .i64 xb, .int .i64 xi, .int .i64 xp] 67)).heap[wj.heap.size]? = some (.cells #[.int .i64 xo, .int .i64 (-1), .int .i64 xa, .int .i64 xb, .int .i64 xi, .int .i64 xp] 67 (0, 0)) := heap_alloc_last _ _
                  have HBO10 : Hid (Below W0.heap.size W0 (wj.alloc (.cells #[.int .i64 xo, .int .i64 (-1), .int .i64 xa, .int .i64 xb, .int .i64 xi, .int .i64 xp] 67))) := HW3.out.trans (HB10w.out.mono HW3.out.size)
                  have HK10 : Hid (KnAt (wj.alloc (.cells #[.int .i64 xo, .int .i64 (-1), .int .i64 xa, .int .i64 xb, .int .i64 xi, .int .i64 xp] 67)) K gp c.n gB c.VN FB MB F3 G1) := HK3.out.below HB10w.out
                  have hne10 : wj.heap.size ≠ FB := by have := lt_of_block HK3.out.facts; omega
                  clear hrj HB10w HK3
                  generalize (wj.alloc (.cells #[.int .i64 xo, .int .i64 (-1), .int .i64 xa, .int .i64 xb, .int .i64 xi, .int .i64 xp] 67)) = V10 at *
                  generalize wj.heap.size = P10 at *
                  have y1 : V10.cell? ⟨P10, 1, none⟩ = some (.int .i64 (-1)) := by rw [cell_of_row _ _ _ _ _ _ r10]; rfl
                  go_wp2
                  go_roundw
                  case rel => exact ⟨r3, F3, j3 + 1, by omega, rfl, by go_num, HK10.out, HMD.out, HBO10.out⟩
                  case measure => simp [intOf]; omega
                · obtain ⟨idn, rfl⟩ : ∃ idn : Nat, xid = (idn : Int) := ⟨xid.toNat, by omega⟩
                  have hidn : idn < c.VN := by omega
                  have HID : Hid (idn < c.VN) := hidn
                  have hst : c.know.site (insS q ⟨xo, (idn : Int), xa, xb, xi, xp⟩) := ⟨q, hlt, Or.inr ⟨_, hxm, hxi, rfl⟩⟩
                  have hsid : (insS q ⟨xo, (idn : Int), xa, xb, xi, xp⟩).id = idn := by show ((idn : Int)).toNat = idn; omega
                  obtain ⟨RA, hRA⟩ : ∃ RA, RA = rdF F3 xa := ⟨_, rfl⟩
                  obtain ⟨RB, hRB⟩ : ∃ RB, RB = rdF F3 xb := ⟨_, rfl⟩
                  obtain ⟨AV, hAV⟩ : ∃ AV, AV = madeF ⟨xo, (idn : Int), xa, xb, xi, xp⟩ RA RB := ⟨_, rfl⟩
                  have hstr : (insS q ⟨xo, (idn : Int), xa, xb, xi, xp⟩).tr F3 G1 = AV := by rw [hAV, hRA, hRB]; rfl
                  have hmd := HM3.out.rise HC.out.know hst (by rw [hsid]; exact hidn) HMT.out
                  rw [hsid, hstr] at hmd
                  have HMD : Hid (c.know.Mid c.VN F G (updF F3 idn AV) G1 (r3 || decide (F3 idn ≠ AV)) (fun s => s.blk < q ∨ (∃ k, k < np ∧ s = phiS c q ((c.PH q).getD k noPhi)) ∨ ∃ k, k < j3 + 1 ∧ ((c.IN q).getD k noIns).id ≠ -1 ∧ s = insS q ((c.IN q).getD k noIns)) (fun b => b < q)) := hmd.weak (fun s _ hs _ => by
                    rcases hs with hs | hs | ⟨k, hk, hn, hs⟩
                    · exact Or.inl (Or.inl hs)
                    · exact Or.inl (Or.inr (Or.inl hs))
                    · by_cases e : k = j3
                      · right; rw [hs, e, ← hx]
                      · exact Or.inl (Or.inr (Or.inr ⟨k, by omega, hn, hs⟩))) (fun b hb _ => hb)
                  have HEQ : Hid ((r3 || decide (F3 idn ≠ AV)) = (decide (F3 idn ≠ AV) || r3)) := Bool.or_comm _ _
                  have HMA : Hid (∀ W, KnowG W → Calls Tryz.prog 86 #[.agg #[.int .i64 xo, .int .i64 (idn : Int), .int .i64 xa, .int .i64 xb, .int .i64 xi, .int .i64 xp], .agg #[.int .i64 RA.kind, .int .i64 RA.num], .agg #[.int .i64 RB.kind, .int .i64 RB.num]] W fun e w' => e = .returned (.agg #[.int .i64 AV.kind, .int .i64 AV.num]) ∧ Below W.heap.size W w') := fun W hW => by rw [hAV]; exact madeF_any ⟨xo, (idn : Int), xa, xb, xi, xp⟩ RA RB W hW
                  have HRA : Hid (∀ W, KnAt W K gp c.n gB c.VN FB MB F3 G1 → Calls Tryz.prog 87 #[.pointer (some ⟨K, 0, none⟩), .int .i64 xa] W fun e w' => e = .returned (.agg #[.int .i64 RA.kind, .int .i64 RA.num]) ∧ Below W.heap.size W w') := fun W hW => by rw [hRA]; exact readK_any W hW xa ha0 ha1
                  have HRB : Hid (∀ W, KnAt W K gp c.n gB c.VN FB MB F3 G1 → Calls Tryz.prog 87 #[.pointer (some ⟨K, 0, none⟩), .int .i64 xb] W fun e w' => e = .returned (.agg #[.int .i64 RB.kind, .int .i64 RB.num]) ∧ Below W.heap.size W w') := fun W hW => by rw [hRB]; exact readK_any W hW xb hb0 hb1
                  have hkm : ((idn : Int) == -1) = false := by rw [beq_eq_false_iff_ne]; omega
                  clear hx hxm hid0 hidv ha0 ha1 hb0 hb1 HM3 hst hsid hstr hmd hAV hRA hRB hxi hidn
                  go_upto_region 14 with (refine wpList_load_mid rfl 67 _ rfl qI (j3 * 6) rfl _ _ hrj Tryz.underlying67 rfl infoInsG ?_)
                  have HB10w : Hid (Below wj.heap.size wj (wj.alloc (.cells #[.int .i64 xo, .int .i64 (idn : Int), .int .i64 xa, .int .i64 xb, .int .i64 xi, .int .i64 xp] 67))) := (Below.refl _ _).alloc (Nat.le_refl _) _
                  have r10 : (wj.alloc (.cells #[.int .i64 xo, .int .i64 (idn : Int), .int .i64 xa, .int .i64 xb, .int .i64 xi, .int .i64 xp] 67)).heap[wj.heap.size]? = some (.cells #[.int .i64 xo, .int .i64 (idn : Int), .int .i64 xa, .int .i64 xb, .int .i64 xi, .int .i64 xp] 67 (0, 0)) := heap_alloc_last _ _
                  have HBO10 : Hid (Below W0.heap.size W0 (wj.alloc (.cells #[.int .i64 xo, .int .i64 (idn : Int), .int .i64 xa, .int .i64 xb, .int .i64 xi, .int .i64 xp] 67))) := HW3.out.trans (HB10w.out.mono HW3.out.size)
                  have HK10 : Hid (KnAt (wj.alloc (.cells #[.int .i64 xo, .int .i64 (idn : Int), .int .i64 xa, .int .i64 xb, .int .i64 xi, .int .i64 xp] 67)) K gp c.n gB c.VN FB MB F3 G1) := HK3.out.below HB10w.out
                  have hne10 : wj.heap.size ≠ FB := by have := lt_of_block HK3.out.facts; omega
                  clear hrj HB10w HK3
                  generalize (wj.alloc (.cells #[.int .i64 xo, .int .i64 (idn : Int), .int .i64 xa, .int .i64 xb, .int .i64 xi, .int .i64 xp] 67)) = V10 at *
                  generalize wj.heap.size = P10 at *
                  have y1 : V10.cell? ⟨P10, 1, none⟩ = some (.int .i64 (idn : Int)) := by rw [cell_of_row _ _ _ _ _ _ r10]; rfl
                  have y2 : V10.cell? ⟨P10, 2, none⟩ = some (.int .i64 xa) := by rw [cell_of_row _ _ _ _ _ _ r10]; rfl
                  have y3 : V10.cell? ⟨P10, 3, none⟩ = some (.int .i64 xb) := by rw [cell_of_row _ _ _ _ _ _ r10]; rfl
                  obtain ⟨-, hgg, -⟩ := HM0.out.blk V10 HBO10.out
                  have HGG : Hid (KnowG V10) := hgg
                  clear hgg
                  go_upto_region 15 with fail
                  refine wp_region_held_drew (S := fun W => V10.grownBy W (some FB)) (by kernel_rfl) (gb_below _ ((Below.refl _ _).drew)) (fun hHeld => ?_)
                  show wpAnyH _ _ _ _ _ 18 _ _ _
                  refine wpAnyH_take (i := 0) (v := ?_) rfl (by kernel_rfl) (by kernel_rfl) (by kernel_rfl) (fun _ _ _ h => h) (Or.inl ⟨by rfl, ?_⟩) (by assumption) ?_
                  rotate_left
                  · (intro W hSW; go_simp; try (with_reducible rfl))
                  (try simp only [zB])
                  (try simp only [zA])
                  refine wpAnyH_take (i := 1) (v := ?_) rfl (by kernel_rfl) (by kernel_rfl) (by kernel_rfl) (fun _ _ _ h => h) (Or.inl ⟨by rfl, ?_⟩) (by assumption) ?_
                  rotate_left
                  · (intro W hSW; go_simp; try (with_reducible rfl))
                  (try simp only [zB])
                  (try simp only [zA])
                  refine wpAnyH_take (i := 2) (v := ?_) rfl (by kernel_rfl) (by kernel_rfl) (by kernel_rfl) (fun _ _ _ h => h) (Or.inl ⟨by rfl, ?_⟩) (by assumption) ?_
                  rotate_left
                  · (intro W hSW; have z0 := gcell hSW y1 (hne10); go_simp; try (with_reducible rfl))
                  (try simp only [zB])
                  (try simp only [zA])
                  refine wpAnyH_take (i := 3) (v := .agg [.int .i64 xo, .int .i64 (idn : Int), .int .i64 xa, .int .i64 xb, .int .i64 xi, .int .i64 xp].toArray) rfl (by kernel_rfl) (by kernel_rfl) (by kernel_rfl) (fun _ _ _ h => h) (yieldsIf_load_mid (by rfl) 67 _ rfl (P10) 0 rfl [.int .i64 xo, .int .i64 (idn : Int), .int .i64 xa, .int .i64 xb, .int .i64 xi, .int .i64 xp] _ (fun W hSW j u hu => by rw [cell_of_row _ _ _ _ _ _ (gblock hSW r10 (hne10))]; simpa using hu) Tryz.underlying67 rfl infoInsG) (by assumption) ?_
                  (try simp only [zB])
                  (try simp only [zA])
                  refine wpAnyH_take (i := 4) (v := ?_) rfl (by kernel_rfl) (by kernel_rfl) (by kernel_rfl) (fun _ _ _ h => h) (Or.inl ⟨by rfl, ?_⟩) (by assumption) ?_
                  rotate_left
                  · (intro W hSW; go_simp; try (with_reducible rfl))
                  (try simp only [zB])
                  (try simp only [zA])
                  refine wpAnyH_take (i := 5) (v := ?_) rfl (by kernel_rfl) (by kernel_rfl) (by kernel_rfl) (fun _ _ _ h => h) (Or.inl ⟨by rfl, ?_⟩) (by assumption) ?_
                  rotate_left
                  · (intro W hSW; go_simp; try (with_reducible rfl))
                  (try simp only [zB])
                  (try simp only [zA])
                  refine wpAnyH_take (i := 6) (v := ?_) rfl (by kernel_rfl) (by kernel_rfl) (by kernel_rfl) (fun _ _ _ h => h) (Or.inl ⟨by rfl, ?_⟩) (by assumption) ?_
                  rotate_left
                  · (intro W hSW; have z0 := gcell hSW y2 (hne10); go_simp; try (with_reducible rfl))
                  (try simp only [zB])
                  (try simp only [zA])
                  refine wpAnyH_take (i := 8) (v := ?_) rfl (by kernel_rfl) (by kernel_rfl) (by kernel_rfl) (fun _ _ _ h => h) (Or.inl ⟨by rfl, ?_⟩) (by assumption) ?_
                  rotate_left
                  · (intro W hSW; go_simp; try (with_reducible rfl))
                  (try simp only [zB])
                  (try simp only [zA])
                  refine wpAnyH_take (i := 9) (v := ?_) rfl (by kernel_rfl) (by kernel_rfl) (by kernel_rfl) (fun _ _ _ h => h) (Or.inl ⟨by rfl, ?_⟩) (by assumption) ?_
                  rotate_left
                  · (intro W hSW; go_simp; try (with_reducible rfl))
                  (try simp only [zB])
                  (try simp only [zA])
                  refine wpAnyH_take (i := 10) (v := ?_) rfl (by kernel_rfl) (by kernel_rfl) (by kernel_rfl) (fun _ _ _ h => h) (Or.inl ⟨by rfl, ?_⟩) (by assumption) ?_
                  rotate_left
                  · (intro W hSW; have z0 := gcell hSW y3 (hne10); go_simp; try (with_reducible rfl))
                  (try simp only [zB])
                  (try simp only [zA])
                  refine wpAnyH_ready (rs := [7]) (by kernel_rfl) (by simp) ?_
                  refine AllReadyH.cons rfl (fun Kk hK => ?_) AllReadyH.nil
                  go_simp
                  go_at_call 87
                  refine (HRA.out _ (HK10.out.below ((Below.refl _ _).drew))).mono ?_
                  rintro e w11 ⟨rfl, hb11⟩
                  have hB11 : Below V10.heap.size V10 w11 := (Below.refl _ _).drew.trans hb11
                  have HSw11 : V10.grownBy w11 (some FB) := gb_below _ hB11
                  dsimp only
                  refine hK.out _ _ HSw11 (fun _ => ?_)
                  clear hK Kk hHeld
                  have hHeld := HSw11
                  (try simp only [zA])
                  refine wpAnyH_ready (rs := [11]) (by kernel_rfl) (by simp) ?_
                  refine AllReadyH.cons rfl (fun Kk hK => ?_) AllReadyH.nil
                  go_simp
                  go_at_call 87
                  refine (HRB.out _ (HK10.out.below hB11)).mono ?_
                  rintro e w12 ⟨rfl, hb12⟩
                  have hB12 : Below V10.heap.size V10 w12 := hB11.trans (hb12.mono hB11.size)
                  have HSw12 : V10.grownBy w12 (some FB) := gb_below _ hB12
                  dsimp only
                  refine hK.out _ _ HSw12 (fun _ => ?_)
                  clear hK Kk hHeld
                  have hHeld := HSw12
                  (try simp only [zA])
                  refine wpAnyH_ready (rs := [12]) (by kernel_rfl) (by simp) ?_
                  refine AllReadyH.cons rfl (fun Kk hK => ?_) AllReadyH.nil
                  go_simp
                  go_at_call 86
                  refine (HMA.out _ (HGG.out.below hB12)).mono ?_
                  rintro e w13 ⟨rfl, hb13⟩
                  have hB13 : Below V10.heap.size V10 w13 := hB12.trans (hb13.mono hB12.size)
                  have hk13 := HK10.out.below hB13
                  have hrs := rise_any w13 hk13 idn HID.out HNE.out.1 AV
                  have HRS : Hid (Calls Tryz.prog 84 #[.pointer (some ⟨K, 0, none⟩), .int .i64 (idn : Int), .agg #[.int .i64 AV.kind, .int .i64 AV.num]] w13 (RisePost w13 K gp c.n gB c.VN FB MB F3 G1 idn AV)) := hrs
                  clear hrs
                  have HSw13 : V10.grownBy w13 (some FB) := gb_below _ hB13
                  dsimp only
                  refine hK.out _ _ HSw13 (fun _ => ?_)
                  clear hK Kk hHeld
                  have hHeld := HSw13
                  (try simp only [zA])
                  refine wpAnyH_ready (rs := [13]) (by kernel_rfl) (by simp) ?_
                  refine AllReadyH.cons rfl (fun Kk hK => ?_) AllReadyH.nil
                  go_simp
                  go_at_call 84
                  refine (HRS.out).mono ?_
                  rintro e w14 hP14
                  obtain ⟨rfl, hk14, hg14⟩ := hP14
                  have HK14 : Hid (KnAt w14 K gp c.n gB c.VN FB MB (updF F3 idn AV) G1) := hk14
                  obtain ⟨rB, hrB⟩ : ∃ rB, rB = decide (F3 idn ≠ AV) := ⟨_, rfl⟩
                  have HRB2 : Hid (rB = decide (F3 idn ≠ AV)) := hrB
                  rw [← hrB]
                  clear hrB hk14
                  have HSw14 : V10.grownBy w14 (some FB) := gb_trans HSw13 hg14
                  dsimp only
                  refine hK.out _ _ HSw14 (fun _ => ?_)
                  clear hK Kk hHeld
                  have hHeld := HSw14
                  (try simp only [zA])
                  refine wpAnyH_take (i := 14) (v := ?_) rfl (by kernel_rfl) (by kernel_rfl) (by kernel_rfl) (fun _ _ _ h => h) (Or.inl ⟨by rfl, ?_⟩) (by assumption) ?_
                  rotate_left
                  · (intro W hSW; go_simp; try (with_reducible rfl))
                  (try simp only [zB])
                  (try simp only [zA])
                  cases rB with
                  | true =>
                    refine wpAnyH_take (i := 15) (v := undef) rfl (by kernel_rfl) (by kernel_rfl) (by kernel_rfl) (fun _ _ _ h => h) (Or.inr ⟨by kernel_rfl, rfl⟩) (by assumption) ?_
                    (try simp only [zA, zB])
                    refine wpAnyH_take (i := 16) (v := ?_) rfl (by kernel_rfl) (by kernel_rfl) (by kernel_rfl) (fun _ _ _ h => h) (Or.inl ⟨by rfl, ?_⟩) (by assumption) ?_
                    rotate_left
                    · (intro W hSW; go_simp; try (with_reducible rfl))
                    (try simp only [zB])
                    (try simp only [zA])
                    refine wpAnyH_take (i := 17) (v := ?_) rfl (by kernel_rfl) (by kernel_rfl) (by kernel_rfl) (fun _ _ _ h => h) (Or.inl ⟨by rfl, ?_⟩) (by assumption) ?_
                    rotate_left
                    · (intro W hSW; go_simp; try (with_reducible rfl))
                    (try simp only [zB])
                    (try simp only [zA])
                    refine wpAnyH_done (by kernel_rfl) ?_ _
                    have HG14 : Hid (V10.grownBy w14 (some FB)) := hHeld
                    clear hHeld hk13 HSw13 HSw14 HSw11 HSw12 hb11 hb12 hb13 hB11 hB12 hB13 hg14 HRS
                    go_wp2
                    go_roundw
                    case rel => exact ⟨_, updF F3 idn AV, j3 + 1, by omega, (by first | (rw [HEQ.out, ← HRB2.out]; simp) | (rw [HEQ.out, ← HRB2.out]; rfl)), by go_num, HK14.out, HMD.out, below_grownK HBO10.out HG14.out HNE.out.2.1 HBO10.out.size⟩
                    case measure => simp [intOf]; omega
                  | false =>
                    refine wpAnyH_take (i := 15) (v := ?_) rfl (by kernel_rfl) (by kernel_rfl) (by kernel_rfl) (fun _ _ _ h => h) (Or.inl ⟨by kernel_rfl, ?_⟩) (by assumption) ?_
                    rotate_left
                    · (intro W hSW; go_simp; try (with_reducible rfl))
                    (try simp only [zB])
                    (try simp only [zA])
                    refine wpAnyH_take (i := 16) (v := ?_) rfl (by kernel_rfl) (by kernel_rfl) (by kernel_rfl) (fun _ _ _ h => h) (Or.inl ⟨by rfl, ?_⟩) (by assumption) ?_
                    rotate_left
                    · (intro W hSW; go_simp; try (with_reducible rfl))
                    (try simp only [zB])
                    (try simp only [zA])
                    refine wpAnyH_take (i := 17) (v := ?_) rfl (by kernel_rfl) (by kernel_rfl) (by kernel_rfl) (fun _ _ _ h => h) (Or.inl ⟨by rfl, ?_⟩) (by assumption) ?_
                    rotate_left
                    · (intro W hSW; go_simp; try (with_reducible rfl))
                    (try simp only [zB])
                    (try simp only [zA])
                    refine wpAnyH_done (by kernel_rfl) ?_ _
                    have HG14 : Hid (V10.grownBy w14 (some FB)) := hHeld
                    clear hHeld hk13 HSw13 HSw14 HSw11 HSw12 hb11 hb12 hb13 hB11 hB12 hB13 hg14 HRS
                    go_wp2
                    go_roundw
                    case rel => exact ⟨_, updF F3 idn AV, j3 + 1, by omega, (by first | (rw [HEQ.out, ← HRB2.out]; simp) | (rw [HEQ.out, ← HRB2.out]; rfl)), by go_num, HK14.out, HMD.out, below_grownK HBO10.out HG14.out HNE.out.2.1 HBO10.out.size⟩
                    case measure => simp [intOf]; omega
              · obtain rfl : ni = j3 := by omega
                obtain ⟨hblr, hgg, hbl⟩ := HM0.out.blk wj HW3.out
                obtain ⟨-, hI2, -, hij⟩ := HALL.out wj HW3.out
                obtain ⟨hln0, hln1, hins⟩ := HC.out.ins q hlt
                have hni := HAP.out.2.2.2
                obtain ⟨nI, hnI⟩ : ∃ nI, ni = nI + 1 := ⟨ni - 1, by omega⟩
                have hlast : c.last q = (c.IN q).getD nI noIns := by
                  show (c.IN q).getD ((c.IN q).length - 1) noIns = _
                  rw [← hni, hnI]; rfl
                have hlm : c.last q ∈ c.IN q := by rw [hlast, List.getD, List.getElem?_eq_getElem (by rw [← hni]; omega)]; exact List.getElem_mem _
                have hgo := goes_any wj HK3.out hgg q hlt (by omega) FF TT VV hblr (some ⟨qI, 0, none⟩) qI nI cI (c.last q) (by rw [← hnI]; exact hI2) rfl (by omega) (by rw [hlast]; exact hij nI (by omega)) (c.NX q) (hbl q hlt).1 (fun ho => ⟨(HC.out.last q hlt ho).1, (hins _ hlm).2.2.2.1⟩) (c.I1 q) (c.I2 q) (fun ho => ⟨(HC.out.last q hlt ho).2.1, HM0.out.i1 q hlt ho⟩) (fun ho => ⟨(HC.out.last q hlt ho).2.2.1, HM0.out.i2 q hlt ho⟩)
                obtain ⟨lz, hlz⟩ : ∃ lz, lz = goesF F3 (c.last q).op (c.last q).a (c.NX q) (c.I1 q) (c.I2 q) := ⟨_, rfl⟩
                rw [← hlz] at hgo
                have HGF : Hid (c.know.goes q F3 = lz) := hlz.symm
                have HFZ : Hid (∀ z ∈ lz, FitW z) := fun z hz => by
                  rw [hlz] at hz
                  unfold goesF at hz
                  split at hz
                  · exact (HC.out.nx q hlt).2 z hz
                  · rename_i ho
                    obtain ⟨-, l1, l2, -⟩ := HC.out.last q hlt (Classical.not_not.1 ho)
                    split at hz
                    · cases hz
                    · exact (HC.out.nx q hlt).2 z hz
                    · split at hz
                      · rw [List.mem_singleton.1 hz]; exact ⟨by omega, by omega⟩
                      · rw [List.mem_singleton.1 hz]; exact ⟨by omega, by omega⟩
                clear hblr hgg hbl hI2 hij hln0 hln1 hins hni hnI hlast hlm hlz
                go_upto_region 18 with (go_at_call 88; refine hgo.mono ?_; rintro e w5 hP5; obtain ⟨v5, rfl, hv5, hb5⟩ := hP5; obtain ⟨aZ, bZ, oZ, nZ, cZ, rfl, hlZ, -, -, hz1, hz2⟩ := ints_get hv5; have hnZ : nZ ≤ 9223372036854775807 := Nat.le_trans hz1 hz2; clear hz1 hz2)
                have HV5 : Hid (IntsVal w5 (.slice aZ nZ cZ) lz ∧ lz.length = nZ) := ⟨hv5, hlZ⟩
                have HW5 : Hid (Below W0.heap.size W0 w5) := HW3.out.trans (hb5.mono HW3.out.size)
                have HK5 : Hid (KnAt w5 K gp c.n gB c.VN FB MB F3 G1) := HK3.out.below hb5
                clear hgo hv5 hlZ hb5 HK3 HW3
                go_loopw [83] (fun i wr => ∃ (G4 : Ways) (k : Nat), k ≤ nZ ∧ i = .int .i64 k ∧ KnAt wr K gp c.n gB c.VN FB MB F3 G4 ∧ c.know.Mid c.VN F G F3 G4 r3 (fun s => s.blk < q ∨ (∃ k, k < np ∧ s = phiS c q ((c.PH q).getD k noPhi)) ∨ ∃ k, k < ni ∧ ((c.IN q).getD k noIns).id ≠ -1 ∧ s = insS q ((c.IN q).getD k noIns)) (fun b => b < q) ∧ GOk G4 ∧ Below W0.heap.size W0 wr ∧ IntsVal wr (.slice aZ nZ cZ) lz ∧ c.know.met G4 q ∧ ∀ u, u < k → ((q : Int), lz.getD u 0) ∈ G4) (fun i _ => nZ - (intOf i).toNat)
                case atStart => exact ⟨G1, 0, Nat.zero_le _, rfl, HK5.out, HM3.out, HG1.out, HW5.out, HV5.out.1, HMT.out, fun u hu => absurd hu (Nat.not_lt_zero _)⟩
                case round =>
                  clear HK5 HM3 HW5
                  obtain ⟨G4, k, hk, rfl, hk4, hm4, hg4, hw4, hv4, ht4, ha4⟩ := hrel
                  rename World => wk
                  have HK4 : Hid (KnAt wk K gp c.n gB c.VN FB MB F3 G4) := hk4
                  have HM4 : Hid (c.know.Mid c.VN F G F3 G4 r3 (fun s => s.blk < q ∨ (∃ k, k < np ∧ s = phiS c q ((c.PH q).getD k noPhi)) ∨ ∃ k, k < ni ∧ ((c.IN q).getD k noIns).id ≠ -1 ∧ s = insS q ((c.IN q).getD k noIns)) (fun b => b < q)) := hm4
                  have HG4 : Hid (GOk G4 ∧ c.know.met G4 q ∧ ∀ u, u < k → ((q : Int), lz.getD u 0) ∈ G4) := ⟨hg4, ht4, ha4⟩
                  have HW4 : Hid (Below W0.heap.size W0 wk) := hw4
                  have HV4 : Hid (IntsVal wk (.slice aZ nZ cZ) lz) := hv4
                  have hgl := hg4.len
                  clear hk4 hm4 hg4 hw4 ht4 ha4
                  by_cases hlk : k < nZ
                  · have hkI : (k : Int) < nZ := by omega
                    obtain ⟨a', bZ, oZ, n', c', e, -, haZ, hcZ, -, -⟩ := ints_get hv4
                    cases e
                    obtain rfl := haZ (by omega)
                    have hck := hcZ k hlk
                    obtain ⟨z, hz⟩ : ∃ z, z = lz.getD k 0 := ⟨_, rfl⟩
                    rw [← hz] at hck
                    have hzm : z ∈ lz := by rw [hz, List.getD, List.getElem?_eq_getElem (by rw [HV5.out.2]; exact hlk)]; exact List.getElem_mem _
                    have fz := HFZ.out z hzm
                    have fq : FitW (q : Int) := ⟨by omega, by omega⟩
                    have HZ : Hid (z = lz.getD k 0 ∧ z ∈ c.know.goes q F3 ∧ FitW z ∧ FitW (q : Int)) := ⟨hz, by rw [HGF.out]; exact hzm, fz, fq⟩
                    have hkey := keyOf_way fq fz
                    obtain ⟨D, hM, hD⟩ := HK4.out.ways
                    have k3 : wk.cell? ⟨K, 3, none⟩ = some (.map (some MB)) := by rw [cell_of_row _ _ _ _ _ _ HK4.out.box]; rfl
                    have HMD : Hid (WMapAt wk MB G4.length D ∧ WaysMap G4 D) := ⟨hM, hD⟩
                    clear hv4 haZ hcZ hz hzm fz fq hD
                    go_wp2_with (at_mapUpdate; refine wpList_mapUpdate_own _ rfl _ _ _ 101 rfl 124 125 lawWay Tryz.underlying101 emptyR MB G4.length D rfl hM (by unfold maxLen; omega) _ _ _ rfl rfl hkey _ [] emptyR_ok ?_; intro w6 hown6 hg6)
                    go_roundw
                    case rel =>
                      obtain ⟨es, cl, hMB, -⟩ := HMD.out.1
                      refine ⟨addW G4 ((q : Int), z), k + 1, by omega, by go_num, HK4.out.addWay HMD.out.1 HMD.out.2 hown6 hg6 HZ.out.2.2.2 HZ.out.2.2.1, HM4.out.go1 HC.out.know hlt HG4.out.2.1 HZ.out.2.1 rfl, HG4.out.1.add HZ.out.2.2.2 HZ.out.2.2.1, below_grownK HW4.out hg6 HNE.out.2.2 HW4.out.size, HV4.out.ofMap hg6 ⟨es, cl, hMB⟩, Know.met_mono (fun x hx => mem_addW.2 (Or.inl hx)) HG4.out.2.1, fun u hu => ?_⟩
                      by_cases e : u = k
                      · rw [e, ← HZ.out.1]; exact mem_addW.2 (Or.inr rfl)
                      · exact mem_addW.2 (Or.inl (HG4.out.2.2 u (by omega)))
                    case measure => simp [intOf]; omega
                  · obtain rfl : nZ = k := by omega
                    have hend := HM4.out.goAll (b := q) (fun z hz => by
                      rw [HGF.out] at hz
                      obtain ⟨u, hu, rfl⟩ := List.getElem_of_mem hz
                      have h1 := HG4.out.2.2 u (by rw [← HV5.out.2]; exact hu)
                      rw [List.getD, List.getElem?_eq_getElem hu] at h1
                      exact h1)
                    have HEND : Hid (c.know.Mid c.VN F G F3 G4 r3 (fun s => s.blk < q + 1) (fun b => b < q + 1)) := hend.weak (fun s hs hb _ => by
                      by_cases e : s.blk < q
                      · exact Or.inl e
                      · have e : s.blk = q := by omega
                        obtain ⟨b', hb', ⟨p, hp, rfl⟩ | ⟨x, hx, hne, rfl⟩⟩ := hs
                        · have e : b' = q := e
                          subst e
                          obtain ⟨u, hu, rfl⟩ := List.getElem_of_mem hp
                          refine Or.inr (Or.inl ⟨u, by rw [HAP.out.2.2.1]; exact hu, ?_⟩)
                          rw [List.getD, List.getElem?_eq_getElem hu]; rfl
                        · have e : b' = q := e
                          subst e
                          obtain ⟨u, hu, rfl⟩ := List.getElem_of_mem hx
                          refine Or.inr (Or.inr ⟨u, by rw [HAP.out.2.2.2]; exact hu, ?_, ?_⟩)
                          · rw [List.getD, List.getElem?_eq_getElem hu]; exact hne
                          · rw [List.getD, List.getElem?_eq_getElem hu]; rfl) (fun b hb _ => by
                      by_cases e : b < q
                      · exact Or.inl e
                      · exact Or.inr (by omega))
                    clear hend hv4
                    go_wp2
                    go_roundw
                    case rel => exact ⟨r3, F3, G4, q + 1, by omega, rfl, by go_num, HK4.out, HEND.out, HG4.out.1, HW4.out⟩
                    case measure => simp [intOf]; omega
      · have hmtf : metB G1 (c.PV q) q = false := by cases h : metB G1 (c.PV q) q with | true => exact absurd h hmt | false => rfl
        rw [hmtf] at hmet
        have HEND : Hid (c.know.Mid c.VN F G F1 G1 r1 (fun s => s.blk < q + 1) (fun b => b < q + 1)) := by
          have hno : ¬ c.know.met G q := fun h => hmt (FC.met_iff.2 (Know.met_mono HM1.out.sub h))
          refine HM1.out.weak (fun s _ hb hm => ?_) (fun b hb hm => ?_)
          · by_cases e : s.blk < q
            · exact e
            · have e : s.blk = q := by omega
              rw [e] at hm; exact absurd hm hno
          · by_cases e : b < q
            · exact e
            · have e : b = q := by omega
              rw [e] at hm; exact absurd hm hno
        clear hmt hmtf
        go_wp2_with (go_at_call 31; refine hmet.mono ?_; rintro e V5 ⟨rfl, hb5⟩; have HB5 : Hid (Below W0.heap.size W0 V5) := HBO4.out.trans (hb5.mono HBO4.out.size); have HK5 : Hid (KnAt V5 K gp c.n gB c.VN FB MB F1 G1) := HK4.out.below hb5)
        go_roundw
        case rel => exact ⟨r1, F1, G1, q + 1, by omega, rfl, by go_num, HK5.out, HEND.out, HG1.out, HB5.out⟩
        case measure => simp [intOf]; omega
    · obtain rfl : q = c.n := by omega
      have HALLS : Hid ((∀ s, c.know.site s → c.know.met G s.blk → s.blk < c.n) ∧ ∀ b, b < c.n → c.know.met G b → b < c.n) := ⟨fun s hs _ => by obtain ⟨b, hb, h⟩ := hs; rcases h with ⟨p, _, rfl⟩ | ⟨x, _, _, rfl⟩ <;> exact hb, fun b hb _ => hb⟩
      cases r1 with
      | true =>
        go_wp2
        go_ret
        exact HP.out _ _ ⟨true, F1, G1, rfl, HK1.out, HW1.out, HG1.out, HM1.out.inv, fun _ => HM1.out.less (Or.inl rfl), fun e => by cases e⟩
      | false =>
        obtain ⟨D, hM, hD⟩ := HK1.out.ways
        have HDS : Hid (Maps.size D = G1.length) := hD.size
        have k3 : wo.cell? ⟨K, 3, none⟩ = some (.map (some MB)) := by rw [cell_of_row _ _ _ _ _ _ HK1.out.box]; rfl
        clear hD
        go_wp2_with (at_len; refine wpList_len_wantedF _ rfl _ 101 rfl 124 125 Tryz.underlying101 _ MB _ D rfl hM ?_)
        go_ret
        refine HP.out _ _ ⟨decide (G.length < G1.length), F1, G1, ?_, HK1.out, HW1.out, HG1.out, HM1.out.inv, fun e => HM1.out.less (Or.inr (of_decide_eq_true e)), fun e => HM1.out.closed HALLS.out.1 HALLS.out.2 rfl (of_decide_eq_false e)⟩
        rw [HDS.out]; simp
end Go.Proofs.YtldbmdgpdolaaaaGreatDoor
