import Derived.Test.YtldbmdgpdolaaaaDoorPXBrief
import Derived.Test.YtldbmdgpdolaaaaDoorPGroupP
import Derived.Test.YtldbmdgpdolaaaaDoorPGroupL
import Derived.Test.YtldbmdgpdolaaaaDoorPXPlaceMeet
import Derived.Test.YtldbmdgpdolaaaaDoorPGroupB
namespace Go.Proofs.YtldbmdgpdolaaaaDoor
open Go Go.RowKit

def LookPost (w : World) (P : List Fn) (f : Fn) (e : Ending) (w' : World) : Prop :=
  ∃ S T L pv cv bv lv, e = .returned (.tuple #[.agg (fnV f pv cv bv lv), .int .i64 0]) ∧ SsaFn w' P f S T L pv cv bv lv ∧ (∀ gB, bv = .slice (some ⟨gB, 0, none⟩) S.length S.length → ∀ i, i < S.length → ∃ a n c, w'.cell? ⟨gB, i * 4 + 2, none⟩ = some (.slice a n c)) ∧ Below w.heap.size w w'
theorem gb_setRowL (w : World) (g : Nat) (cs : Array Value) : w.grownBy (w.setRow g cs) (some g) :=
  ⟨rfl, rfl, rfl, by simp [World.setRow], fun i _ hne => setRow_other _ _ _ _ (fun e => hne (by rw [e]))⟩
theorem ints_keptL {w w' : World} {v : Value} {l : List Int} {q : Nat} (h : IntsVal w v l) (hg : w.grownBy w' (some q)) (hb : ∀ a n c, v = .slice (some a) n c → q < a.block) : IntsVal w' v l := by
  obtain ⟨ao, b, off, n, cap, rfl, hl, ha, hc, hcp, hm⟩ := h
  refine ⟨ao, b, off, n, cap, rfl, hl, ha, fun k hk => hg.cell (hc k hk) (fun e => ?_), hcp, hm⟩
  have := hb _ _ _ (by rw [ha (by omega)])
  have e : b = q := Option.some.inj e
  have this : q < b := this
  omega
theorem infoFnB : (Tryd.prog.info? 56).map (·.size) = some 5 := by kernel_rfl
set_option maxRecDepth 100000 in
set_option maxHeartbeats 4000000 in
theorem look_right (P : List Fn) (hR : ProofAns P 0) (k : Nat) (hk : k < P.length) (v : Value) (w : World) (ht : TabOk w) (hc : CallOk w) (hv : ProgVal w v P) :
    Calls Tryd.prog 15 #[.agg #[v], .int .i64 k] w (LookPost w P P[k]) := by
  have hP : Hid (∀ e w', (∃ S T L pv cv bv lv, e = .returned (.tuple #[.agg (fnV P[k] pv cv bv lv), .int .i64 0]) ∧ SsaFn w' P P[k] S T L pv cv bv lv ∧ (∀ gB, bv = .slice (some ⟨gB, 0, none⟩) S.length S.length → ∀ i, i < S.length → ∃ a n c, w'.cell? ⟨gB, i * 4 + 2, none⟩ = some (.slice a n c)) ∧ Below w.heap.size w w') → LookPost w P P[k] e w') := fun e w' h => h
  have hok := flowOk_of hR (List.getElem_mem hk)
  have hl1 := hok.ok.len1
  have HOK : Hid (FlowOk P P[k]) := hok
  have HV : Hid (ProgVal w v P) := hv
  obtain ⟨pb, po, pcap, u, rfl, d0, d1, d2, hcv, hm, hcc⟩ := prog_fn hv hk
  obtain ⟨ao2, cb, co, CL, ccap, rfl, ⟨hlen2, haddr2, hat2⟩, hcap2, hmx2⟩ := hcv
  obtain rfl := haddr2 (by omega)
  have hZ : ((w.alloc (.cells #[.slice (some ⟨pb, po, none⟩) P.length pcap] 25)).alloc (.cells #[.slice none 0 0, .int .i64 0, .slice none 0 0, .slice none 0 0, .slice none 0 0] 56)).heap[w.heap.size + 1]? = some (.cells #[.slice none 0 0, .int .i64 0, .slice none 0 0, .slice none 0 0, .slice none 0 0] 56 (0, 0)) := heap_alloc2_new _ _ _
  have hB0 : ((w.alloc (.cells #[.slice (some ⟨pb, po, none⟩) P.length pcap] 25)).alloc (.cells #[.slice none 0 0, .int .i64 0, .slice none 0 0, .slice none 0 0, .slice none 0 0] 56)).heap[w.heap.size]? = some (.cells #[.slice (some ⟨pb, po, none⟩) P.length pcap] 25 (0, 0)) := heap_alloc2_old _ _ _
  have HB0 : Hid (Below w.heap.size w ((w.alloc (.cells #[.slice (some ⟨pb, po, none⟩) P.length pcap] 25)).alloc (.cells #[.slice none 0 0, .int .i64 0, .slice none 0 0, .slice none 0 0, .slice none 0 0] 56))) := ((Below.refl _ _).alloc (Nat.le_refl _) _).alloc (by simp) _
  have HBL : Hid (∀ W, Below w.heap.size w W → Calls Tryd.prog 27 #[.agg #[.slice (some ⟨pb, po, none⟩) P.length pcap], .int .i64 k] W fun e w' => ∃ g S T VV LL, e = .returned (.tuple #[.slice (some ⟨g, 0, none⟩) S.length S.length, .int .i64 0]) ∧ BlocksAt w' W.heap.size g P[k] S T VV LL ∧ W.heap.size ≤ g ∧ Below W.heap.size W w') := fun W hW => Blocks_right P hR k hk _ W (ht.below hW) (hc.below hW) (hv.keeps (keeps_below hW))
  have HLV : Hid (∀ W, Below w.heap.size w W → Calls Tryd.prog 13 #[.agg #[.slice (some ⟨pb, po, none⟩) P.length pcap], .int .i64 k] W fun e w' => ∃ v' L, e = .returned (.tuple #[v', .int .i64 0]) ∧ LiveSpec P P[k] L ∧ IntsVal w' v' L ∧ (∀ a n c, v' = .slice (some a) n c → W.heap.size ≤ a.block) ∧ Below W.heap.size W w') := fun W hW => Live_low P hR k hk _ W (ht.below hW) (hc.below hW) (hv.keeps (keeps_below hW))
  have HAT : Hid (∀ q (h : q < P[k].code.length), insAt w cb (co + q * 5) P[k].code[q]) := hat2
  have HLEN : Hid (P[k].code.length = CL) := hlen2
  have HCAP : Hid (CL ≤ ccap) := hcap2.1
  have HMX : Hid (ccap ≤ 9223372036854775807) := by unfold maxLen at hmx2; exact hmx2
  have HMEM : Hid (P[k] ∈ P) := List.getElem_mem hk
  have hkI : (k : Int) < (P.length : Int) := by omega
  have hzp : P.length ≤ 9223372036854775807 := by omega
  generalize hpr : P[k].params = pr at *
  have HPR : Hid (P[k].params = pr) := hpr
  have HPM : Hid (∀ pv cv bv lv, fnV P[k] pv cv bv lv = #[pv, .int .i64 pr, cv, bv, lv]) := fun pv cv bv lv => by unfold fnV; rw [hpr]
  clear hR ht hc hv hat2 haddr2 hlen2 hcap2 hmx2 hok hpr
  go_enter Tryd.func15, Tryd.ntmps15
  go_upto_region 1 with fail
  generalize ((w.alloc (.cells #[.slice (some ⟨pb, po, none⟩) P.length pcap] 25)).alloc (.cells #[.slice none 0 0, .int .i64 0, .slice none 0 0, .slice none 0 0, .slice none 0 0] 56)) = V at *
  have b0 : V.cell? ⟨w.heap.size, 0, none⟩ = some (.slice (some ⟨pb, po, none⟩) P.length pcap) := by rw [cell_of_row _ _ _ _ _ _ hB0]; rfl
  have hbl := HBL.out V HB0.out
  go_upto_region 4 with (go_at_call 27; refine hbl.mono ?_; rintro e w1 ⟨g, S, T, VV, LL, rfl, hB, hg, hb1⟩)
  have HB1 : Hid (Below w.heap.size w w1) := HB0.out.trans (hb1.mono HB0.out.size)
  have HBK : Hid (BlocksAt w1 V.heap.size g P[k] S T VV LL) := hB
  have HSZ : Hid (w.heap.size + 1 < V.heap.size ∧ V.heap.size ≤ w1.heap.size) := ⟨lt_of_block hZ, hb1.size⟩
  have HGV : Hid (V.heap.size ≤ g) := hg
  have hZ1 := (hb1.block _ (lt_of_block hZ)).trans hZ
  have b1 := keeps_below hb1 _ _ b0
  have hlv := HLV.out w1 HB1.out
  clear hbl hB hg hb1 hZ hB0 b0 HB0 HBL HLV
  have hSm : Hid (S.length = S.length) := rfl
  obtain ⟨SL, hSL⟩ : ∃ SL, SL = S.length := ⟨_, rfl⟩
  have HSL : Hid (SL = S.length) := hSL
  rw [← hSL]
  clear hSL hSm
  go_upto_region 5 with (go_at_call 13; refine hlv.mono ?_; rintro e w2 ⟨lv, L, rfl, hls, hiv, hlo, hb2⟩)
  have HB2 : Hid (Below w.heap.size w w2) := HB1.out.trans (hb2.mono HB1.out.size)
  have HBK2 : Hid (BlocksAt w2 V.heap.size g P[k] S T VV LL) := HBK.out.below hb2
  have hZ2 := (hb2.block _ (lt_of_block hZ1)).trans hZ1
  have b2 := keeps_below hb2 _ _ b1
  have b0 := b2
  have HLS : Hid (LiveSpec P P[k] L) := hls
  have HIV : Hid (IntsVal w2 lv L) := hiv
  replace d0 := keeps_below HB2.out _ _ d0
  replace d2 := keeps_below HB2.out _ _ d2
  obtain ⟨la, -, -, ln, lc, el, -⟩ := ints_get hiv
  subst el
  have hsz1 : w.heap.size + 1 < V.heap.size ∧ V.heap.size ≤ w1.heap.size := HSZ.out
  clear hlv b1 b2 hZ1 hb2 hls hiv d1 HBK HB1
  have HLO : Hid (∀ a n c, Value.slice la ln lc = .slice (some a) n c → w1.heap.size ≤ a.block) := hlo
  have HS1 : Hid (w.heap.size + 1 < V.heap.size ∧ V.heap.size ≤ w1.heap.size) := hsz1
  have HE : Hid (∀ X, Below w2.heap.size w2 X → ∃ S T L, SL = S.length ∧ SsaFn (X.setRow (w.heap.size + 1) #[.slice (some ⟨pb, po, none⟩) P.length pcap, .int .i64 pr, .slice (some ⟨cb, co, none⟩) CL ccap, .slice (some ⟨g, 0, none⟩) SL SL, .slice la ln lc]) P P[k] S T L (.slice (some ⟨pb, po, none⟩) P.length pcap) (.slice (some ⟨cb, co, none⟩) CL ccap) (.slice (some ⟨g, 0, none⟩) SL SL) (.slice la ln lc) ∧ (∀ gB, Value.slice (some ⟨g, 0, none⟩) SL SL = .slice (some ⟨gB, 0, none⟩) S.length S.length → ∀ i, i < S.length → ∃ a n c, (X.setRow (w.heap.size + 1) #[.slice (some ⟨pb, po, none⟩) P.length pcap, .int .i64 pr, .slice (some ⟨cb, co, none⟩) CL ccap, .slice (some ⟨g, 0, none⟩) SL SL, .slice la ln lc]).cell? ⟨gB, i * 4 + 2, none⟩ = some (.slice a n c)) ∧ Below w.heap.size w (X.setRow (w.heap.size + 1) #[.slice (some ⟨pb, po, none⟩) P.length pcap, .int .i64 pr, .slice (some ⟨cb, co, none⟩) CL ccap, .slice (some ⟨g, 0, none⟩) SL SL, .slice la ln lc])) := fun X hX => by
    have hbw : Below w.heap.size w (X.setRow (w.heap.size + 1) #[.slice (some ⟨pb, po, none⟩) P.length pcap, .int .i64 pr, .slice (some ⟨cb, co, none⟩) CL ccap, .slice (some ⟨g, 0, none⟩) SL SL, .slice la ln lc]) := belowSK (HB2.out.trans (hX.mono HB2.out.size)) (by omega) _
    have hgr : w2.grownBy (X.setRow (w.heap.size + 1) #[.slice (some ⟨pb, po, none⟩) P.length pcap, .int .i64 pr, .slice (some ⟨cb, co, none⟩) CL ccap, .slice (some ⟨g, 0, none⟩) SL SL, .slice la ln lc]) (some (w.heap.size + 1)) := gb_trans (gb_below _ hX) (gb_setRowL X (w.heap.size + 1) _)
    have hrow : BlkRow (X.setRow (w.heap.size + 1) #[.slice (some ⟨pb, po, none⟩) P.length pcap, .int .i64 pr, .slice (some ⟨cb, co, none⟩) CL ccap, .slice (some ⟨g, 0, none⟩) SL SL, .slice la ln lc]) g S.length (fun i => ((S.getD i 0 : Nat) : Int)) (fun i => ((T i : Nat) : Int)) VV := by
      refine HBK2.out.row.kept hgr (Or.inr fun e => ?_)
      have e : g = w.heap.size + 1 := Option.some.inj e
      have := HGV.out
      have := HS1.out
      omega
    have hBf : BlocksAt (X.setRow (w.heap.size + 1) #[.slice (some ⟨pb, po, none⟩) P.length pcap, .int .i64 pr, .slice (some ⟨cb, co, none⟩) CL ccap, .slice (some ⟨g, 0, none⟩) SL SL, .slice la ln lc]) V.heap.size g P[k] S T VV LL := ⟨HBK2.out.starts, HBK2.out.ends, hrow, HBK2.out.slots.kept hgr (fun q e => by have e := Option.some.inj e; have := HS1.out; omega), HBK2.out.led⟩
    refine ⟨S, T, L, HSL.out, ⟨HV.out.keeps (keeps_below hbw), HMEM.out, ⟨cb, co, ccap, by rw [HLEN.out], by rw [HLEN.out]; exact HCAP.out, HMX.out, fun q hq => by rw [insD_eq hq]; exact (HAT.out q hq).keeps (keeps_below hbw)⟩, ⟨g, VV, by rw [HSL.out], hrow, fun i hi => (hBf.next i hi).2⟩, hBf.ok, ints_keptL HIV.out hgr (fun a n c e => by have := HLO.out a n c e; have := HS1.out; omega), HLS.out, HOK.out⟩, fun gB e i hi => ?_, hbw⟩
    have e1 : g = gB := by simp at e; exact e.1
    rw [← e1]
    obtain ⟨a, -, -, n, c, e3, -⟩ := ints_get (hBf.next i hi).1
    exact ⟨a, n, c, by rw [blk_next hrow i hi, e3]⟩
  refine wp_region_last2 (S := fun W => Below w2.heap.size w2 W) _ 16 (by kernel_rfl) (by kernel_rfl) rfl (by kernel_rfl) rfl ((Below.refl _ _).drew) (fun hHeld => ?_)
  simp only [List.pop_toArray, List.dropLast]
  refine wpAnyH_take (i := 0) (v := ?_) rfl (by kernel_rfl) (by kernel_rfl) (by kernel_rfl) (fun _ _ _ h => h) (Or.inl ⟨by rfl, ?_⟩) (by assumption) ?_
  rotate_left
  · (intro W hSW; have y0 := keeps_below hSW _ _ b0; go_simp; try (with_reducible rfl))
  (try simp only [zB])
  (try simp only [zA])
  refine wpAnyH_take (i := 1) (v := ?_) rfl (by kernel_rfl) (by kernel_rfl) (by kernel_rfl) (fun _ _ _ h => h) (Or.inl ⟨by rfl, ?_⟩) (by assumption) ?_
  rotate_left
  · (intro W hSW; go_simp; try (with_reducible rfl))
  (try simp only [zB])
  (try simp only [zA])
  refine wpAnyH_take (i := 2) (v := ?_) rfl (by kernel_rfl) (by kernel_rfl) (by kernel_rfl) (fun _ _ _ h => h) (Or.inl ⟨by rfl, ?_⟩) (by assumption) ?_
  rotate_left
  · (intro W hSW; have y0 := keeps_below hSW _ _ b0; go_simp; try (with_reducible rfl))
  (try simp only [zB])
  (try simp only [zA])
  refine wpAnyH_take (i := 3) (v := ?_) rfl (by kernel_rfl) (by kernel_rfl) (by kernel_rfl) (fun _ _ _ h => h) (Or.inl ⟨by rfl, ?_⟩) (by assumption) ?_
  rotate_left
  · (intro W hSW; go_simp; try (with_reducible rfl))
  (try simp only [zB])
  (try simp only [zA])
  refine wpAnyH_take (i := 4) (v := ?_) rfl (by kernel_rfl) (by kernel_rfl) (by kernel_rfl) (fun _ _ _ h => h) (Or.inl ⟨by rfl, ?_⟩) (by assumption) ?_
  rotate_left
  · (intro W hSW; go_simp; try (with_reducible rfl))
  (try simp only [zB])
  (try simp only [zA])
  refine wpAnyH_take (i := 5) (v := ?_) rfl (by kernel_rfl) (by kernel_rfl) (by kernel_rfl) (fun _ _ _ h => h) (Or.inl ⟨by rfl, ?_⟩) (by assumption) ?_
  rotate_left
  · (intro W hSW; go_simp; try (with_reducible rfl))
  (try simp only [zB])
  (try simp only [zA])
  refine wpAnyH_take (i := 6) (v := ?_) rfl (by kernel_rfl) (by kernel_rfl) (by kernel_rfl) (fun _ _ _ h => h) (Or.inl ⟨by rfl, ?_⟩) (by assumption) ?_
  rotate_left
  · (intro W hSW; have y0 := keeps_below hSW _ _ d0; go_simp; try (with_reducible rfl))
  (try simp only [zB])
  (try simp only [zA])
  refine wpAnyH_take (i := 7) (v := ?_) rfl (by kernel_rfl) (by kernel_rfl) (by kernel_rfl) (fun _ _ _ h => h) (Or.inl ⟨by rfl, ?_⟩) (by assumption) ?_
  rotate_left
  · (intro W hSW; go_simp; try (with_reducible rfl))
  (try simp only [zB])
  (try simp only [zA])
  refine wpAnyH_take (i := 8) (v := ?_) rfl (by kernel_rfl) (by kernel_rfl) (by kernel_rfl) (fun _ _ _ h => h) (Or.inl ⟨by rfl, ?_⟩) (by assumption) ?_
  rotate_left
  · (intro W hSW; have y0 := keeps_below hSW _ _ b0; go_simp; try (with_reducible rfl))
  (try simp only [zB])
  (try simp only [zA])
  refine wpAnyH_take (i := 9) (v := ?_) rfl (by kernel_rfl) (by kernel_rfl) (by kernel_rfl) (fun _ _ _ h => h) (Or.inl ⟨by rfl, ?_⟩) (by assumption) ?_
  rotate_left
  · (intro W hSW; go_simp; try (with_reducible rfl))
  (try simp only [zB])
  (try simp only [zA])
  refine wpAnyH_take (i := 10) (v := ?_) rfl (by kernel_rfl) (by kernel_rfl) (by kernel_rfl) (fun _ _ _ h => h) (Or.inl ⟨by rfl, ?_⟩) (by assumption) ?_
  rotate_left
  · (intro W hSW; go_simp; try (with_reducible rfl))
  (try simp only [zB])
  (try simp only [zA])
  refine wpAnyH_take (i := 11) (v := ?_) rfl (by kernel_rfl) (by kernel_rfl) (by kernel_rfl) (fun _ _ _ h => h) (Or.inl ⟨by rfl, ?_⟩) (by assumption) ?_
  rotate_left
  · (intro W hSW; go_simp; try (with_reducible rfl))
  (try simp only [zB])
  (try simp only [zA])
  refine wpAnyH_take (i := 12) (v := ?_) rfl (by kernel_rfl) (by kernel_rfl) (by kernel_rfl) (fun _ _ _ h => h) (Or.inl ⟨by rfl, ?_⟩) (by assumption) ?_
  rotate_left
  · (intro W hSW; have y0 := keeps_below hSW _ _ d2; go_simp; try (with_reducible rfl))
  (try simp only [zB])
  (try simp only [zA])
  refine wpAnyH_take (i := 13) (v := ?_) rfl (by kernel_rfl) (by kernel_rfl) (by kernel_rfl) (fun _ _ _ h => h) (Or.inl ⟨by rfl, ?_⟩) (by assumption) ?_
  rotate_left
  · (intro W hSW; go_simp; try (with_reducible rfl))
  (try simp only [zB])
  (try simp only [zA])
  refine wpAnyH_take (i := 14) (v := ?_) rfl (by kernel_rfl) (by kernel_rfl) (by kernel_rfl) (fun _ _ _ h => h) (Or.inl ⟨by rfl, ?_⟩) (by assumption) ?_
  rotate_left
  · (intro W hSW; go_simp; try (with_reducible rfl))
  (try simp only [zB])
  (try simp only [zA])
  refine wpAnyH_take (i := 15) (v := ?_) rfl (by kernel_rfl) (by kernel_rfl) (by kernel_rfl) (fun _ _ _ h => h) (Or.inl ⟨by rfl, ?_⟩) (by assumption) ?_
  rotate_left
  · (intro W hSW; go_simp; try (with_reducible rfl))
  (try simp only [zB])
  (try simp only [zA])
  refine wpAnyH_done (by kernel_rfl) ?_ _
  have hZ3 := (hHeld.block _ (lt_of_block hZ2)).trans hZ2
  have hone : (#[.slice (some ⟨pb, po, none⟩) P.length pcap, .int .i64 pr, .slice (some ⟨cb, co, none⟩) CL ccap, .slice (some ⟨g, 0, none⟩) SL SL, .slice la ln lc] : Array Value).all (·.oneCell') = true := by simp [Value.oneCell']
  refine Or.inl (wp_store_row _ _ _ rfl _ #[.slice (some ⟨pb, po, none⟩) P.length pcap, .int .i64 pr, .slice (some ⟨cb, co, none⟩) CL ccap, .slice (some ⟨g, 0, none⟩) SL SL, .slice la ln lc] rfl rfl _ _ hZ3 infoFnB rfl hone ?_)
  refine Or.inl ?_
  go_simp
  go_wp2
  (try simp only [Exit.inBlock, Exit.then])
  refine bodyPost_ret (results_row_tmp rfl _ _ (w.heap.size + 1) 56 #[.slice (some ⟨pb, po, none⟩) P.length pcap, .int .i64 pr, .slice (some ⟨cb, co, none⟩) CL ccap, .slice (some ⟨g, 0, none⟩) SL SL, .slice la ln lc] (0, 0) _ rfl (setRow_heap _ _ _ _ _ _ hZ3) Tryd.underlying56 rfl infoFnB) rfl (hP.out _ _ ?_)
  obtain ⟨S', T', L', e1, h1, h2, h3⟩ := HE.out _ hHeld
  exact ⟨S', T', L', _, _, _, _, by rw [HPM.out]; rfl, h1, h2, h3⟩
end Go.Proofs.YtldbmdgpdolaaaaDoor
