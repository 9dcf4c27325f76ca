import Derived.Test.YtldbmdgpdolaaaaGreatDoorPXSsaLook
import Derived.Test.YtldbmdgpdolaaaaGreatDoorPXSsaRen
import Derived.Test.YtldbmdgpdolaaaaGreatDoorPXSsaIds
import Derived.Test.YtldbmdgpdolaaaaGreatDoorPXSsaMath
import Derived.Test.YtldbmdgpdolaaaaGreatDoorPXBrief
namespace Go.Proofs.YtldbmdgpdolaaaaGreatDoor
open Go Go.RowKit

structure SsaIs (P : List Fn) (f : Fn) (S : List Nat) (T : Nat → Nat) (L : List Int) (pn : Nat) (g : List (Int × Int)) (D : PDat) : Prop where
  ok : BlkOk f S T
  live : LiveSpec P f L
  par : f.params = (pn : Int)
  left : LeftOf P f S T L D.ph D.ins
  part : ∀ b, b < S.length → D.bk b = (b : Int) ∧ D.rg b = wantR (mkL L (S.getD b 0)) (fromR f S T L b)
  settle : SettleTo [] (phsOf (phiM f S T L) S.length) g (phsOf D.ph S.length)
abbrev idsD (pn n : Nat) (D : PDat) : List Int := idsTo pn D.ph D.ins n
abbrev finD (pn n : Nat) (g : List (Int × Int)) (D : PDat) (ar : Nat → List Int) : PDat := renD (newI g (idsD pn n D)) n D ar
def BuildPost (w : World) (P : List Fn) (f : Fn) (e : Ending) (w' : World) : Prop :=
  ∃ S T L, ∃ pn : Nat, ∃ g D ar gp Ly, e = .returned (.tuple #[.agg #[.int .i64 (pn : Int), .int .i64 ((idsD pn S.length D).length : Int), .slice (some ⟨gp, 0, none⟩) S.length S.length], .int .i64 0]) ∧ SsaIs P f S T L pn g D ∧ PartsAt w' w.heap.size gp S.length (finD pn S.length g D ar) Ly ∧ Below w.heap.size w w'
theorem SsaFn.shapes {w : World} {P : List Fn} {f : Fn} {S : List Nat} {T : Nat → Nat} {L : List Int} {pv cv bv lv : Value} (h : SsaFn w P f S T L pv cv bv lv) : ∃ a1 n1 c1 a2 n2 c2 a3 n3 c3 a4 n4 c4, pv = .slice a1 n1 c1 ∧ cv = .slice a2 n2 c2 ∧ bv = .slice a3 n3 c3 ∧ lv = .slice a4 n4 c4 := by
  obtain ⟨a1, n1, c1, e1⟩ := h.prog.shape
  obtain ⟨cb, co, cc, e2, -⟩ := h.code
  obtain ⟨gB, VV, e3, -⟩ := h.blocks
  obtain ⟨a4, -, -, n4, c4, e4, -⟩ := ints_get h.live
  exact ⟨a1, _, c1, _, _, _, _, _, _, a4, n4, c4, e1, e2, e3, e4⟩
theorem infoSsa : (Tryz.prog.info? 55).map (·.size) = some 3 := by kernel_rfl
set_option maxRecDepth 100000 in
set_option maxHeartbeats 8000000 in
theorem Build_right (P : List Fn) (hR : ProofAns P 0) (k : Nat) (hk : k < P.length) (v : Value) (w : World) (ht : TabOk w) (hc : CallOk w) (hv : ProgVal w v P) :
    Calls Tryz.prog 15 #[.agg #[v], .int .i64 k] w (BuildPost w P P[k]) := by
  have HPOST : Hid (∀ e w', (∃ S T L, ∃ pn : Nat, ∃ g D ar gp Ly, e = .returned (.tuple #[.agg #[.int .i64 (pn : Int), .int .i64 ((idsD pn S.length D).length : Int), .slice (some ⟨gp, 0, none⟩) S.length S.length], .int .i64 0]) ∧ SsaIs P P[k] S T L pn g D ∧ PartsAt w' w.heap.size gp S.length (finD pn S.length g D ar) Ly ∧ Below w.heap.size w w') → BuildPost w P P[k] e w') := fun e w' h => h
  have hok := flowOk_of hR (List.getElem_mem hk)
  obtain ⟨pn, hpn⟩ : ∃ pn : Nat, P[k].params = (pn : Int) := ⟨P[k].params.toNat, by have := hok.ok.p0; omega⟩
  have HPN : Hid (P[k].params = (pn : Int)) := hpn
  have HU : Hid (∀ q, q < P[k].code.length → Way P[k] 63 q → ∀ r, r < 12 → (rdMask P (insD P[k] q)).testBit r = true → ¬ Way P[k] r q) := right_reads hR (List.getElem_mem hk)
  have hZ : ((w.alloc (.cells #[v] 29)).alloc (.cells #[.int .i64 0, .int .i64 0, .slice none 0 0] 55)).heap[w.heap.size + 1]? = some (.cells #[.int .i64 0, .int .i64 0, .slice none 0 0] 55 (0, 0)) := heap_alloc2_new _ _ _
  have hB0 : ((w.alloc (.cells #[v] 29)).alloc (.cells #[.int .i64 0, .int .i64 0, .slice none 0 0] 55)).heap[w.heap.size]? = some (.cells #[v] 29 (0, 0)) := heap_alloc2_old _ _ _
  have hbx : Below w.heap.size w ((w.alloc (.cells #[v] 29)).alloc (.cells #[.int .i64 0, .int .i64 0, .slice none 0 0] 55)) := ((Below.refl _ _).alloc (Nat.le_refl _) _).alloc (by simp) _
  have HB0 : Hid (Below w.heap.size w ((w.alloc (.cells #[v] 29)).alloc (.cells #[.int .i64 0, .int .i64 0, .slice none 0 0] 55))) := hbx
  have hlook := look_right P hR k hk v _ (ht.below hbx) (hc.below hbx) (hv.keeps (keeps_below hbx))
  have HTC : Hid (TabOk w ∧ CallOk w) := ⟨ht, hc⟩
  obtain ⟨ao, n, cap, rfl⟩ := hv.shape
  have HFO : Hid (FlowOk P P[k]) := hok
  clear hR ht hc hv hok hbx hpn
  go_enter Tryz.func15, Tryz.ntmps15
  go_upto_region 1 with fail
  generalize ((w.alloc (.cells #[.slice ao n cap] 29)).alloc (.cells #[.int .i64 0, .int .i64 0, .slice none 0 0] 55)) = V at *
  have b0 : V.cell? ⟨w.heap.size, 0, none⟩ = some (.slice ao n cap) := by rw [cell_of_row _ _ _ _ _ _ hB0]; rfl
  go_upto_region 2 with (go_at_call 26; refine hlook.mono ?_; rintro e w1 hp; obtain ⟨S, T, L, pv, cv, bv, lv, rfl, hsf, hnx, hb1⟩ := hp; obtain ⟨a1, n1, c1, a2, n2, c2, a3, n3, c3, a4, n4, c4, rfl, rfl, rfl, rfl⟩ := hsf.shapes; unfold fnV; rw [HPN.out])
  have r6 : (w1.alloc (.cells #[.slice a1 n1 c1, .int .i64 (pn : Int), .slice a2 n2 c2, .slice a3 n3 c3, .slice a4 n4 c4] 89)).heap[w1.heap.size]? = some (.cells #[.slice a1 n1 c1, .int .i64 (pn : Int), .slice a2 n2 c2, .slice a3 n3 c3, .slice a4 n4 c4] 89 (0, 0)) := heap_alloc_last _ _
  have hbb : Below w1.heap.size w1 (w1.alloc (.cells #[.slice a1 n1 c1, .int .i64 (pn : Int), .slice a2 n2 c2, .slice a3 n3 c3, .slice a4 n4 c4] 89)) := (Below.refl _ _).alloc (Nat.le_refl _) _
  have HBW : Hid (Below w.heap.size w (w1.alloc (.cells #[.slice a1 n1 c1, .int .i64 (pn : Int), .slice a2 n2 c2, .slice a3 n3 c3, .slice a4 n4 c4] 89))) := HB0.out.trans ((hb1.trans (hbb.mono hb1.size)).mono HB0.out.size)
  have hZ1 : (w1.alloc (.cells #[.slice a1 n1 c1, .int .i64 (pn : Int), .slice a2 n2 c2, .slice a3 n3 c3, .slice a4 n4 c4] 89)).heap[w.heap.size + 1]? = some (.cells #[.int .i64 0, .int .i64 0, .slice none 0 0] 55 (0, 0)) := (hbb.block _ (lt_of_block ((hb1.block _ (lt_of_block hZ)).trans hZ))).trans ((hb1.block _ (lt_of_block hZ)).trans hZ)
  have hset := settledS_any _ (hsf.below hbb) (HTC.out.1.below HBW.out) (HTC.out.2.below HBW.out) (fun gB e i hi => by obtain ⟨a, n, c, e2⟩ := hnx gB e i hi; exact ⟨a, n, c, keeps_below hbb _ _ e2⟩) HU.out pn HPN.out
  unfold fnV at hset
  rw [HPN.out] at hset
  have HSF : Hid (BlkOk P[k] S T ∧ LiveSpec P P[k] L) := ⟨hsf.ok, hsf.lspec⟩
  have hG6 : w1.heap.size < (w1.alloc (.cells #[.slice a1 n1 c1, .int .i64 (pn : Int), .slice a2 n2 c2, .slice a3 n3 c3, .slice a4 n4 c4] 89)).heap.size := lt_of_block r6
  have hH1 : w.heap.size + 1 < (w1.alloc (.cells #[.slice a1 n1 c1, .int .i64 (pn : Int), .slice a2 n2 c2, .slice a3 n3 c3, .slice a4 n4 c4] 89)).heap.size := lt_of_block hZ1
  have h40 := blocks40 HFO.out hsf.ok
  clear hsf hnx hb1 hbb hB0 hZ b0 HB0 hlook
  generalize (w1.alloc (.cells #[.slice a1 n1 c1, .int .i64 (pn : Int), .slice a2 n2 c2, .slice a3 n3 c3, .slice a4 n4 c4] 89)) = V1 at *
  generalize w1.heap.size = G6 at *
  go_upto_region 5 with (first
    | (refine wpList_load_row rfl 89 _ rfl _ rfl _ _ _ _ r6 Tryz.underlying89 rfl infoFnB ?_)
    | (go_at_call 27; refine hset.mono ?_; rintro e w2 hp; obtain ⟨gp, D, Ly, g, R2, B2, Rs, R, B, rfl, h1, h2, h3, h4, h5, h6, h7⟩ := hp))
  have HIS : Hid (SsaIs P P[k] S T L pn g D) := ⟨HSF.out.1, HSF.out.2, HPN.out, h2, h3, h4⟩
  have hreg : RegsD S.length D.ph := fun b hb => (phi_regs P[k] S T L S.length b hb).sublist (h2.ph b hb)
  have hfd := fitD_all HFO.out HU.out HSF.out.1 HSF.out.2 h2 (fun b hb => (h3 b hb).2)
  have hren := renParts_any (R2 := R2) (Rs := Rs) w2 V1.heap.size gp S.length D Ly (newI g (idsD pn S.length D)) h1 (by omega) hreg hfd (fun b hb => ⟨by have := Nat.le_trans (h2.ph b hb).length_le (phi_len P[k] S T L b); omega, by
      rw [h2.ins b hb, insL_len]
      have := (HSF.out.1.ends b hb).le; have := HFO.out.ok.len2
      omega, fun p hp => by
      obtain ⟨r, hr, hj, e, -⟩ := phi_form HFO.out HSF.out.1 HSF.out.2 hb ((h2.ph b hb).subset hp)
      have hpl := prevs_len (f := P[k]) (T := T) (b := b) h40
      rw [e]
      show (List.map _ _).length ≤ _ ∧ 0 < (List.map _ _).length
      rw [List.length_map]
      omega⟩) (fun W hW x hx => number_any W (h5.own4 h6 hW) x hx)
  have r62 := (h7.block _ (lt_of_block r6)).trans r6
  have hZ2 := (h7.block _ (lt_of_block hZ1)).trans hZ1
  have HB2 : Hid (Below w.heap.size w w2) := HBW.out.trans (h7.mono HBW.out.size)
  clear h1 h2 h3 h4 h5 h6 h7 hreg hfd hset r6 hZ1
  go_upto_region 6 with (go_at_call 32; refine hren.mono ?_; rintro e w3 hp; obtain ⟨rfl, ⟨ar, hpa⟩, ho⟩ := hp)
  have HPA : Hid (PartsAt w3 V1.heap.size gp S.length (finD pn S.length g D ar) Ly) := hpa
  have r63 := (ho.block G6 (Or.inl hG6)).trans r62
  have hZ3 := (ho.block (w.heap.size + 1) (Or.inl hH1)).trans hZ2
  have c61 : w3.cell? ⟨G6, 1, none⟩ = some (.int .i64 (pn : Int)) := by rw [cell_of_row _ _ _ _ _ _ r63]; rfl
  have HB3 : Hid (Below w.heap.size w w3) := HB2.out.trans (ho.below.mono (HBW.out.size))
  have HVS : Hid (w.heap.size ≤ V1.heap.size) := HBW.out.size
  clear hpa ho hren r62 hZ2 r63 HB2
  have one3 : (#[.int .i64 (pn : Int), .int .i64 ((idsD pn S.length D).length : Int), .slice (some ⟨gp, 0, none⟩) S.length S.length] : Array Value).all (·.oneCell') = true := by simp [Value.oneCell']
  go_wp2_with (refine wpList_store_row rfl 55 (.tmp 4) _ rfl _ #[.int .i64 (pn : Int), .int .i64 ((idsD pn S.length D).length : Int), .slice (some ⟨gp, 0, none⟩) S.length S.length] rfl rfl _ _ hZ3 infoSsa rfl one3 ?_)
  (try simp only [Exit.inBlock, Exit.then])
  refine bodyPost_ret (results_row_tmp rfl _ _ (w.heap.size + 1) 55 #[.int .i64 (pn : Int), .int .i64 ((idsD pn S.length D).length : Int), .slice (some ⟨gp, 0, none⟩) S.length S.length] (0, 0) _ rfl (setRow_heap _ _ _ _ _ _ hZ3) Tryz.underlying55 rfl infoSsa) rfl (HPOST.out _ _ ⟨S, T, L, pn, g, D, ar, gp, Ly, rfl, HIS.out, ?_, belowSK HB3.out (by omega) _⟩)
  refine (HPA.out.kept (gb_setRow _ _ _) (fun q cs t e hh => ?_)).mono HVS.out
  have e := Option.some.inj e
  rw [← e, hZ3] at hh
  simp at hh
  right
  rw [← hh.2]; decide
end Go.Proofs.YtldbmdgpdolaaaaGreatDoor
namespace Go.Proofs.YtldbmdgpdolaaaaGreatDoor
open Go Go.RowKit

theorem BlkRow.rangeA {w : World} {g n : Nat} {F T : Nat → Int} {VV : Nat → Value} (h : BlkRow w g n F T VV) {i : Nat} (hi : i < n) : w.rangeAt g (i * 4) [.int .i64 (F i), .int .i64 (T i), VV (2 * i), VV (2 * i + 1)] := by
  intro j u hu
  have hj : j < 4 := (List.getElem?_eq_some_iff.1 hu).1
  match j, hj, hu with
  | 0, _, hu => cases hu; exact blk_from h i hi
  | 1, _, hu => cases hu; exact blk_to h i hi
  | 2, _, hu => cases hu; exact blk_next h i hi
  | 3, _, hu => cases hu; exact blk_prev h i hi
theorem infoBlkA : (Tryz.prog.info? 79).map (·.size) = some 4 := by kernel_rfl
end Go.Proofs.YtldbmdgpdolaaaaGreatDoor
namespace Go.Proofs.YtldbmdgpdolaaaaGreatDoor
open Go Go.RowKit

theorem zero_empty (w : World) : (zeroValue 125).run Tryz.prog w = .ok (.agg #[]) w := by kernel_rfl
theorem infoEmpty : (Tryz.prog.info? 125).map (·.size) = some 0 := by kernel_rfl
abbrev knowC (gp n gB VN FB MB : Nat) : Array Value := #[.slice (some ⟨gp, 0, none⟩) n n, .slice (some ⟨gB, 0, none⟩) n n, .slice (some ⟨FB, 0, none⟩) VN VN, .map (some MB)]
structure KnAt (w : World) (K gp n gB VN FB MB : Nat) (F : Facts) (G : Ways) : Prop where
  box : w.heap[K]? = some (.cells (knowC gp n gB VN FB MB) 103 (0, 0))
  facts : w.heap[FB]? = some (.cells (gC (fun v => factC (F v)) VN).toArray 65 (0, 0))
  ways : ∃ D, WMapAt w MB G.length D ∧ WaysMap G D
theorem KnAt.below {w w' : World} {K gp n gB VN FB MB : Nat} {F : Facts} {G : Ways} (h : KnAt w K gp n gB VN FB MB F G) (hb : Below w.heap.size w w') : KnAt w' K gp n gB VN FB MB F G := by
  obtain ⟨D, ⟨es, cl, hh, r⟩, hD⟩ := h.ways
  exact ⟨(hb.block _ (lt_of_block h.box)).trans h.box, (hb.block _ (lt_of_block h.facts)).trans h.facts, D, ⟨es, cl, (hb.block _ (lt_of_block hh)).trans hh, r⟩, hD⟩
theorem KnAt.fact {w : World} {K gp n gB VN FB MB : Nat} {F : Facts} {G : Ways} (h : KnAt w K gp n gB VN FB MB F G) {v : Nat} (hv : v < VN) : w.rangeAt FB (v * 2) [.int .i64 (F v).kind, .int .i64 (F v).num] := by
  intro j u hu
  have hj : j < 2 := (List.getElem?_eq_some_iff.1 hu).1
  rw [cell_of_row _ _ _ _ _ _ h.facts, List.getElem?_toArray, gC_get (s := 2) (C := fun v => factC (F v)) (fun i _ => factC_len _) v j hv hj]
  exact hu
set_option maxRecDepth 100000 in
theorem isGone_any {K gp n gB VN FB MB : Nat} {F : Facts} {G : Ways} (w : World) (h : KnAt w K gp n gB VN FB MB F G) (a b : Int) (ha : FitW a) (hb : FitW b) :
    Calls Tryz.prog 55 #[.pointer (some ⟨K, 0, none⟩), .int .i64 a, .int .i64 b] w fun e w' => e = .returned (.bool (decide ((a, b) ∈ G))) ∧ Below w.heap.size w w' := by
  obtain ⟨D, hM, hD⟩ := h.ways
  have k3 : w.cell? ⟨K, 3, none⟩ = some (.map (some MB)) := by rw [cell_of_row _ _ _ _ _ _ h.box]; rfl
  have HB : Hid (Below w.heap.size w (w.alloc (.cells #[] 125))) := (Below.refl _ _).alloc (Nat.le_refl _) _
  have HH : Hid (Maps.has D (wayL a b) = decide ((a, b) ∈ G)) := hD.has a b ha hb
  have hkey := keyOf_way ha hb
  clear h hD ha hb
  go_enter Tryz.func55, Tryz.ntmps55
  go_wp2_with (first
    | (at_lookup; refine wpList_lookup_own_ok _ rfl _ _ 101 rfl 124 125 lawWay Tryz.underlying101 emptyR (zero_empty _) _ [] emptyR_ok MB G.length D rfl hM _ _ rfl hkey ?_; intro v ps hv; obtain rfl := emptyR_inv hv)
    | (refine wpList_store_row rfl _ _ _ rfl _ #[] rfl rfl _ _ (heap_alloc_last w _) infoEmpty rfl rfl ?_))
  go_ret
  exact ⟨by rw [HH.out]; rfl, HB.out⟩
end Go.Proofs.YtldbmdgpdolaaaaGreatDoor
namespace Go.Proofs.YtldbmdgpdolaaaaGreatDoor
open Go Go.RowKit

set_option maxRecDepth 100000 in
theorem metC_any {K gp n gB VN FB MB : Nat} {F : Facts} {G : Ways} {B1 B2 : Nat} (w : World) (h : KnAt w K gp n gB VN FB MB F G) (h1 : w.cell? ⟨B1, 0, none⟩ = some (.pointer (some ⟨K, 0, none⟩))) (b z : Int) (h2 : w.cell? ⟨B2, 0, none⟩ = some (.int .i64 b)) (hb : FitW b) (hz : FitW z) :
    Calls Tryz.prog 54 #[.int .i64 z, .pointer (some ⟨B1, 0, none⟩), .pointer (some ⟨B2, 0, none⟩)] w fun e w' => e = .returned (.bool (decide ((z, b) ∈ G))) ∧ Below w.heap.size w w' := by
  have hg := isGone_any w h z b hz hb
  clear h hb hz
  go_enter Tryz.func54, Tryz.ntmps54
  go_wp2_with (go_at_call 55; refine hg.mono ?_; rintro e w2 ⟨rfl, hb2⟩)
  go_ret
  exact ⟨rfl, hb2⟩
set_option maxRecDepth 100000 in
theorem indexM_any {K gp n gB VN FB MB : Nat} {F : Facts} {G : Ways} {B1 B2 : Nat} (w : World) (h : KnAt w K gp n gB VN FB MB F G) (h1 : w.cell? ⟨B1, 0, none⟩ = some (.pointer (some ⟨K, 0, none⟩))) (b : Int) (h2 : w.cell? ⟨B2, 0, none⟩ = some (.int .i64 b)) (hb : FitW b) (v : Value) (l : List Int) (hl : IntsVal w v l) (hf : ∀ z ∈ l, FitW z) (hn : l.length ≤ 1000) :
    Calls Tryz.prog 89 #[v, .func (.func 54) #[] #[.pointer (some ⟨B1, 0, none⟩), .pointer (some ⟨B2, 0, none⟩)]] w fun e w' => ∃ z, e = .returned (.int .i64 z) ∧ (0 ≤ z ↔ ∃ x ∈ l, (x, b) ∈ G) ∧ Below w.heap.size w w' := by
  obtain ⟨ao, bb, off, m, cap, rfl, hlm, ha, hc, hcp, hmx⟩ := ints_get hl
  have HA : Hid (0 < m → ao = some ⟨bb, off, none⟩) := ha
  have HC : Hid (∀ W, Below w.heap.size w W → ∀ k, k < m → W.cell? ⟨bb, off + k, none⟩ = some (.int .i64 (l.getD k 0))) := fun W hW k hk => keeps_below hW _ _ (hc k hk)
  have HLM : Hid (l.length = m) := hlm
  have HF : Hid (∀ k, k < m → FitW (l.getD k 0)) := fun k hk => hf _ (by rw [List.getD, List.getElem?_eq_getElem (by omega)]; exact List.getElem_mem _)
  have HMC : Hid (∀ W, Below w.heap.size w W → ∀ z, FitW z → Calls Tryz.prog 54 #[.int .i64 z, .pointer (some ⟨B1, 0, none⟩), .pointer (some ⟨B2, 0, none⟩)] W fun e w' => e = .returned (.bool (decide ((z, b) ∈ G))) ∧ Below W.heap.size W w') := fun W hW z hz => metC_any W (h.below hW) (keeps_below hW _ _ h1) b z (keeps_below hW _ _ h2) hb hz
  have hm1 : m ≤ 1000 := by omega
  clear h h1 h2 hb hl hf hn hlm ha hc
  go_enter Tryz.func89, Tryz.ntmps89
  go_wp2
  go_loopw [5, 8] (fun _ i wr => ∃ q : Nat, q ≤ m ∧ i = .int .i64 q ∧ (∀ k, k < q → (l.getD k 0, b) ∉ G) ∧ Below w.heap.size w wr) (fun _ i _ => m - (intOf i).toNat)
  case atStart => exact ⟨0, Nat.zero_le _, rfl, fun k hk => by omega, Below.refl _ _⟩
  case round =>
    obtain ⟨q, hq, rfl, hno, hwr⟩ := hrel
    have HW : Hid (Below w.heap.size w wr) := hwr
    have HNO : Hid (∀ k, k < q → (l.getD k 0, b) ∉ G) := hno
    clear hwr hno
    by_cases hlt : q < m
    · have hqI : (q : Int) < m := by omega
      obtain rfl := HA.out (by omega)
      have hcl := HC.out wr HW.out q hlt
      have hB := HMC.out wr HW.out _ (HF.out q hlt)
      by_cases he : (l.getD q 0, b) ∈ G
      · have HE : Hid ((l.getD q 0, b) ∈ G) := he
        rw [decide_eq_true he] at hB
        have HQ : Hid (q < m) := hlt
        clear he
        generalize l.getD q 0 = z at hB hcl
        go_wp2_with (go_at_call 54; refine hB.mono ?_; rintro e w2 ⟨rfl, hb2⟩)
        go_ret
        refine ⟨_, rfl, ⟨fun _ => ?_, fun _ => by omega⟩, HW.out.trans (hb2.mono HW.out.size)⟩
        exact ⟨l.getD q 0, by rw [List.getD, List.getElem?_eq_getElem (by have := HLM.out; have := HQ.out; omega)]; exact List.getElem_mem _, HE.out⟩
      · have HNN : Hid (∀ k, k < q + 1 → (l.getD k 0, b) ∉ G) := fun k hk => by
          by_cases e : k = q
          · rw [e]; exact he
          · exact HNO.out k (by omega)
        rw [decide_eq_false he] at hB
        clear he
        generalize l.getD q 0 = z at hB hcl
        go_wp2_with (go_at_call 54; refine hB.mono ?_; rintro e w2 ⟨rfl, hb2⟩)
        go_roundw
        case rel => exact ⟨q + 1, by omega, by go_num, HNN.out, HW.out.trans (hb2.mono HW.out.size)⟩
        case measure => simp [intOf]; omega
    · obtain rfl : q = m := by omega
      go_wp2
      go_ret
      refine ⟨_, rfl, ⟨fun h => by omega, fun ⟨x, hx, hg⟩ => ?_⟩, HW.out⟩
      obtain ⟨k, hk, rfl⟩ := List.getElem_of_mem hx
      have := HNO.out k (by have := HLM.out; omega)
      rw [List.getD, List.getElem?_eq_getElem hk] at this
      exact absurd hg this
set_option maxRecDepth 100000 in
theorem containsM_any {K gp n gB VN FB MB : Nat} {F : Facts} {G : Ways} {B1 B2 : Nat} (w : World) (h : KnAt w K gp n gB VN FB MB F G) (h1 : w.cell? ⟨B1, 0, none⟩ = some (.pointer (some ⟨K, 0, none⟩))) (b : Int) (h2 : w.cell? ⟨B2, 0, none⟩ = some (.int .i64 b)) (hb : FitW b) (v : Value) (l : List Int) (hl : IntsVal w v l) (hf : ∀ z ∈ l, FitW z) (hn : l.length ≤ 1000) (B : Bool) (hB : B = true ↔ ∃ x ∈ l, (x, b) ∈ G) :
    Calls Tryz.prog 53 #[v, .func (.func 54) #[] #[.pointer (some ⟨B1, 0, none⟩), .pointer (some ⟨B2, 0, none⟩)]] w fun e w' => e = .returned (.bool B) ∧ Below w.heap.size w w' := by
  have HI : Hid (Calls Tryz.prog 89 #[v, .func (.func 54) #[] #[.pointer (some ⟨B1, 0, none⟩), .pointer (some ⟨B2, 0, none⟩)]] w _) := indexM_any w h h1 b h2 hb v l hl hf hn
  have HBB : Hid (B = true ↔ ∃ x ∈ l, (x, b) ∈ G) := hB
  obtain ⟨ao, c, rfl⟩ := hl.shape
  clear h h1 h2 hb hl hf hn hB
  go_enter Tryz.func53, Tryz.ntmps53
  go_wp2_with (go_at_call 89; refine HI.out.mono ?_; rintro e w2 ⟨z, rfl, hz, hb2⟩; have hz0 : decide (0 ≤ z) = B := (by rw [Bool.eq_iff_iff, decide_eq_true_eq, hz, HBB.out]); clear hz)
  go_ret
  exact ⟨rfl, hb2⟩
def metB (G : Ways) (l : List Int) (b : Int) : Bool := l.any fun z => decide ((z, b) ∈ G)
theorem metB_iff {G : Ways} {l : List Int} {b : Int} : metB G l b = true ↔ ∃ x ∈ l, (x, b) ∈ G := by simp [metB]
set_option maxRecDepth 100000 in
theorem met_any {K gp n gB VN FB MB : Nat} {F : Facts} {G : Ways} (w : World) (h : KnAt w K gp n gB VN FB MB F G) (b : Nat) (hbn : b < n) (hn : n ≤ 1000) (v : Value) (l : List Int) (hc : w.cell? ⟨gB, b * 4 + 3, none⟩ = some v) (hl : IntsVal w v l) (hf : ∀ z ∈ l, FitW z) (hll : l.length ≤ 1000) :
    Calls Tryz.prog 31 #[.pointer (some ⟨K, 0, none⟩), .int .i64 b] w fun e w' => e = .returned (.bool (metB G l b)) ∧ Below w.heap.size w w' := by
  have HB0 : Hid (Below w.heap.size w ((w.alloc (.cells #[.pointer (some ⟨K, 0, none⟩)] 98)).alloc (.cells #[.int .i64 b] 3))) := ((Below.refl _ _).alloc (Nat.le_refl _) _).alloc (by simp) _
  have r2 : ((w.alloc (.cells #[.pointer (some ⟨K, 0, none⟩)] 98)).alloc (.cells #[.int .i64 b] 3)).heap[w.heap.size]? = some (.cells #[.pointer (some ⟨K, 0, none⟩)] 98 (0, 0)) := heap_alloc2_old _ _ _
  have r3 : ((w.alloc (.cells #[.pointer (some ⟨K, 0, none⟩)] 98)).alloc (.cells #[.int .i64 b] 3)).heap[w.heap.size + 1]? = some (.cells #[.int .i64 b] 3 (0, 0)) := heap_alloc2_new _ _ _
  obtain ⟨ao, cap, rfl⟩ := hl.shape
  have hfb : FitW (b : Int) := ⟨by omega, by omega⟩
  have hbI : (b : Int) < (n : Int) := by omega
  have hmf : ∀ (fn : Go.Fn) (first cap : Array Value) (w : World), (Instr.makeFunc fn first cap).run Tryz.prog w = .ok (.func fn first cap) w := fun _ _ _ _ => rfl
  have HK : Hid (KnAt ((w.alloc (.cells #[.pointer (some ⟨K, 0, none⟩)] 98)).alloc (.cells #[.int .i64 b] 3)) K gp n gB VN FB MB F G) := h.below HB0.out
  have HLI : Hid (IntsVal ((w.alloc (.cells #[.pointer (some ⟨K, 0, none⟩)] 98)).alloc (.cells #[.int .i64 b] 3)) (.slice ao l.length cap) l) := hl.keeps (keeps_below HB0.out)
  have cb := keeps_below HB0.out _ _ hc
  have HF : Hid ((∀ z ∈ l, FitW z) ∧ l.length ≤ 1000) := ⟨hf, hll⟩
  clear h hl hf hll hc
  go_enter Tryz.func31, Tryz.ntmps31
  go_upto_region 1 with fail
  generalize ((w.alloc (.cells #[.pointer (some ⟨K, 0, none⟩)] 98)).alloc (.cells #[.int .i64 b] 3)) = V at *
  have k1 : V.cell? ⟨K, 1, none⟩ = some (.slice (some ⟨gB, 0, none⟩) n n) := by rw [cell_of_row _ _ _ _ _ _ HK.out.box]; rfl
  have b1 : V.cell? ⟨w.heap.size, 0, none⟩ = some (.pointer (some ⟨K, 0, none⟩)) := by rw [cell_of_row _ _ _ _ _ _ r2]; rfl
  have b2 : V.cell? ⟨w.heap.size + 1, 0, none⟩ = some (.int .i64 b) := by rw [cell_of_row _ _ _ _ _ _ r3]; rfl
  have HCN : Hid (∀ W, Below V.heap.size V W → Calls Tryz.prog 53 #[.slice ao l.length cap, .func (.func 54) #[] #[.pointer (some ⟨w.heap.size, 0, none⟩), .pointer (some ⟨w.heap.size + 1, 0, none⟩)]] W fun e w' => e = .returned (.bool (metB G l b)) ∧ Below W.heap.size W w') := fun W hW => containsM_any W (HK.out.below hW) (keeps_below hW _ _ b1) b (keeps_below hW _ _ b2) hfb _ l (HLI.out.keeps (keeps_below hW)) HF.out.1 HF.out.2 _ metB_iff
  generalize l.length = ll at HCN cb
  obtain ⟨BB, hBB⟩ : ∃ BB, BB = metB G l b := ⟨_, rfl⟩
  have HBB : Hid (BB = metB G l b) := hBB
  rw [← hBB] at HCN
  clear hBB
  refine wp_region_held_drew (S := fun W => Below V.heap.size V W) (by kernel_rfl) ((Below.refl _ _).drew) (fun hHeld => ?_)
  show wpAnyH _ _ _ _ _ 11 _ _ _
  refine wpAnyH_take (i := 0) (v := ?_) rfl (by kernel_rfl) (by kernel_rfl) (by kernel_rfl) (fun _ _ _ h => h) (Or.inl ⟨by rfl, ?_⟩) (by assumption) ?_
  rotate_left
  · (intro W hSW; have z0 := keeps_below hSW _ _ b1; go_simp; try (with_reducible rfl))
  (try simp only [zB])
  (try simp only [zA])
  refine wpAnyH_take (i := 1) (v := ?_) rfl (by kernel_rfl) (by kernel_rfl) (by kernel_rfl) (fun _ _ _ h => h) (Or.inl ⟨by rfl, ?_⟩) (by assumption) ?_
  rotate_left
  · (intro W hSW; go_simp; try (with_reducible rfl))
  (try simp only [zB])
  (try simp only [zA])
  refine wpAnyH_take (i := 2) (v := ?_) rfl (by kernel_rfl) (by kernel_rfl) (by kernel_rfl) (fun _ _ _ h => h) (Or.inl ⟨by rfl, ?_⟩) (by assumption) ?_
  rotate_left
  · (intro W hSW; go_simp; try (with_reducible rfl))
  (try simp only [zB])
  (try simp only [zA])
  refine wpAnyH_take (i := 3) (v := ?_) rfl (by kernel_rfl) (by kernel_rfl) (by kernel_rfl) (fun _ _ _ h => h) (Or.inl ⟨by rfl, ?_⟩) (by assumption) ?_
  rotate_left
  · (intro W hSW; have z0 := keeps_below hSW _ _ k1; go_simp; try (with_reducible rfl))
  (try simp only [zB])
  (try simp only [zA])
  refine wpAnyH_take (i := 4) (v := ?_) rfl (by kernel_rfl) (by kernel_rfl) (by kernel_rfl) (fun _ _ _ h => h) (Or.inl ⟨by rfl, ?_⟩) (by assumption) ?_
  rotate_left
  · (intro W hSW; have z0 := keeps_below hSW _ _ b2; go_simp; try (with_reducible rfl))
  (try simp only [zB])
  (try simp only [zA])
  refine wpAnyH_take (i := 5) (v := ?_) rfl (by kernel_rfl) (by kernel_rfl) (by kernel_rfl) (fun _ _ _ h => h) (Or.inl ⟨by rfl, ?_⟩) (by assumption) ?_
  rotate_left
  · (intro W hSW; go_simp; try (with_reducible rfl))
  (try simp only [zB])
  (try simp only [zA])
  refine wpAnyH_take (i := 6) (v := ?_) rfl (by kernel_rfl) (by kernel_rfl) (by kernel_rfl) (fun _ _ _ h => h) (Or.inl ⟨by rfl, ?_⟩) (by assumption) ?_
  rotate_left
  · (intro W hSW; go_simp; try (with_reducible rfl))
  (try simp only [zB])
  (try simp only [zA])
  refine wpAnyH_take (i := 7) (v := ?_) rfl (by kernel_rfl) (by kernel_rfl) (by kernel_rfl) (fun _ _ _ h => h) (Or.inl ⟨by rfl, ?_⟩) (by assumption) ?_
  rotate_left
  · (intro W hSW; have z0 := keeps_below hSW _ _ cb; go_simp; try (with_reducible rfl))
  (try simp only [zB])
  (try simp only [zA])
  refine wpAnyH_take (i := 8) (v := ?_) rfl (by kernel_rfl) (by kernel_rfl) (by kernel_rfl) (fun _ _ _ h => h) (Or.inl ⟨by rfl, ?_⟩) (by assumption) ?_
  rotate_left
  · (intro W hSW; go_simp; try (with_reducible rfl))
  (try simp only [zB])
  (try simp only [zA])
  refine wpAnyH_ready (rs := [9]) (by kernel_rfl) (by simp) ?_
  refine AllReadyH.cons rfl (fun K hK => ?_) AllReadyH.nil
  go_simp
  go_at_call 53
  refine (HCN.out _ hHeld).mono ?_
  rintro e w5 ⟨rfl, hbc⟩
  have HBw5 : Below V.heap.size V w5 := Below.trans hHeld (Below.mono hbc (Below.size hHeld))
  dsimp only
  refine hK.out _ _ HBw5 (fun _ => ?_)
  clear hK K hbc hHeld
  have hHeld := HBw5
  (try simp only [zA])
  refine wpAnyH_take (i := 10) (v := ?_) rfl (by kernel_rfl) (by kernel_rfl) (by kernel_rfl) (fun _ _ _ h => h) (Or.inl ⟨by rfl, ?_⟩) (by assumption) ?_
  rotate_left
  · (intro W hSW; go_simp; try (with_reducible rfl))
  (try simp only [zB])
  (try simp only [zA])
  refine wpAnyH_done (by kernel_rfl) ?_ _
  go_wp2
  go_ret
  exact ⟨by rw [← HBB.out]; rfl, HB0.out.trans (hHeld.mono HB0.out.size)⟩
end Go.Proofs.YtldbmdgpdolaaaaGreatDoor
namespace Go.Proofs.YtldbmdgpdolaaaaGreatDoor
open Go Go.RowKit

set_option maxRecDepth 100000 in
theorem either_any (a b : FV) (w : World) (hG : KnowG w) :
    Calls Tryz.prog 110 #[.agg #[.int .i64 a.kind, .int .i64 a.num], .agg #[.int .i64 b.kind, .int .i64 b.num]] w fun e w' => e = .returned (.agg #[.int .i64 (eitherF a b).kind, .int .i64 (eitherF a b).num]) ∧ Below w.heap.size w w' := by
  have HB : Hid (Below w.heap.size w (((w.alloc (.cells #[.int .i64 a.kind, .int .i64 a.num] 65)).alloc (.cells #[.int .i64 b.kind, .int .i64 b.num] 65)).alloc (.cells #[.int .i64 0, .int .i64 0] 65))) := (((Below.refl _ _).alloc (Nat.le_refl _) _).alloc (by simp) _).alloc (by simp <;> omega) _
  obtain ⟨hn, hm⟩ := hG.below HB.out
  have r2 : (((w.alloc (.cells #[.int .i64 a.kind, .int .i64 a.num] 65)).alloc (.cells #[.int .i64 b.kind, .int .i64 b.num] 65)).alloc (.cells #[.int .i64 0, .int .i64 0] 65)).heap[w.heap.size]? = some (.cells #[.int .i64 a.kind, .int .i64 a.num] 65 (0, 0)) := heap_alloc_old _ _ (by simp <;> omega) |>.trans (heap_alloc2_old _ _ _)
  have r3 : (((w.alloc (.cells #[.int .i64 a.kind, .int .i64 a.num] 65)).alloc (.cells #[.int .i64 b.kind, .int .i64 b.num] 65)).alloc (.cells #[.int .i64 0, .int .i64 0] 65)).heap[w.heap.size + 1]? = some (.cells #[.int .i64 b.kind, .int .i64 b.num] 65 (0, 0)) := heap_alloc_old _ _ (by simp <;> omega) |>.trans (heap_alloc2_new _ _ _)
  have r4 : (((w.alloc (.cells #[.int .i64 a.kind, .int .i64 a.num] 65)).alloc (.cells #[.int .i64 b.kind, .int .i64 b.num] 65)).alloc (.cells #[.int .i64 0, .int .i64 0] 65)).heap[w.heap.size + 1 + 1]? = some (.cells #[.int .i64 0, .int .i64 0] 65 (0, 0)) := heap_alloc3_newS _ _ _ _
  have hea := fun W => equal_fact a.kind a.num 0 0 W
  have heab := fun W => equal_fact a.kind a.num b.kind b.num W
  have heb := fun W => equal_fact b.kind b.num 0 0 W
  have e1 : ((a.kind == 0) && (a.num == 0)) = decide (a = .never) := fv_eq a .never
  have e2 : ((a.kind == b.kind) && (a.num == b.num)) = decide (a = b) := fv_eq a b
  have e3 : ((b.kind == 0) && (b.num == 0)) = decide (b = .never) := fv_eq b .never
  have HE : Hid (eitherF a b = if a = .never ∨ a = b then b else if b = .never then a else .many) := rfl
  have hl0 : (#[.int .i64 0, .int .i64 0] : Array Value).size = 2 := rfl
  rw [e1] at hea
  rw [e2] at heab
  rw [e3] at heb
  clear e1 e2 e3 hG
  go_enter Tryz.func110, Tryz.ntmps110
  go_upto_region 1 with fail
  generalize (((w.alloc (.cells #[.int .i64 a.kind, .int .i64 a.num] 65)).alloc (.cells #[.int .i64 b.kind, .int .i64 b.num] 65)).alloc (.cells #[.int .i64 0, .int .i64 0] 65)) = V at *
  obtain ⟨ak, hak⟩ : ∃ x, x = a.kind := ⟨_, rfl⟩
  obtain ⟨an, han⟩ : ∃ x, x = a.num := ⟨_, rfl⟩
  obtain ⟨bk, hbk⟩ : ∃ x, x = b.kind := ⟨_, rfl⟩
  obtain ⟨bn, hbn⟩ : ∃ x, x = b.num := ⟨_, rfl⟩
  have HL : Hid (ak = a.kind ∧ an = a.num ∧ bk = b.kind ∧ bn = b.num) := ⟨hak, han, hbk, hbn⟩
  rw [← hak, ← han] at r2 hea heab
  rw [← hbk, ← hbn] at r3 heab heb
  clear hak han hbk hbn
  have hz2 := lt_of_block r2
  by_cases hA : a = .never
  · have hd : decide (a = FV.never) = true := by simpa using hA
    rw [hd] at hea
    have HR : Hid (eitherF a b = b) := by show _ = _; rw [HE.out, if_pos (Or.inl hA)]
    clear hA hd heab heb
    go_wp2_with (first | (refine wpList_load_row rfl 65 (.tmp 2) rfl _ rfl _ _ _ _ r2 Tryz.underlying65 rfl infoFact ?_) | (refine wpList_load_row rfl 65 (.tmp 3) rfl _ rfl _ _ _ _ r3 Tryz.underlying65 rfl infoFact ?_) | (refine wpList_load_mid rfl 65 (.global 1) rfl 1 0 rfl _ _ hn Tryz.underlying65 rfl infoFact ?_) | (refine wpList_load_mid rfl 65 (.global 0) rfl 0 0 rfl _ _ hm Tryz.underlying65 rfl infoFact ?_) | (refine wpList_store_row rfl _ _ _ rfl _ #[.int .i64 bk, .int .i64 bn] rfl rfl _ _ r4 infoFact rfl (by simp [Value.oneCell']) ?_))
    (try simp only [Exit.inBlock, Exit.then])
    exact bodyPost_ret (results_cell_row rfl _ _ (w.heap.size + 1 + 1) 65 #[.int .i64 bk, .int .i64 bn] (0, 0) _ rfl (setRow_heap _ _ _ _ _ _ r4) Tryz.underlying65 rfl infoFact) rfl ⟨by rw [HR.out, HL.out.2.2.1, HL.out.2.2.2], belowSK HB.out (by omega) _⟩
  have hd : decide (a = FV.never) = false := by simpa using hA
  rw [hd] at hea
  by_cases hAB : a = b
  · have hd2 : decide (a = b) = true := by simpa using hAB
    rw [hd2] at heab
    have HR : Hid (eitherF a b = b) := by show _ = _; rw [HE.out, if_pos (Or.inr hAB)]
    clear hA hd hd2 hAB heb
    go_wp2_with (first | (refine wpList_load_row rfl 65 (.tmp 2) rfl _ rfl _ _ _ _ r2 Tryz.underlying65 rfl infoFact ?_) | (refine wpList_load_row rfl 65 (.tmp 3) rfl _ rfl _ _ _ _ r3 Tryz.underlying65 rfl infoFact ?_) | (refine wpList_load_mid rfl 65 (.global 1) rfl 1 0 rfl _ _ hn Tryz.underlying65 rfl infoFact ?_) | (refine wpList_load_mid rfl 65 (.global 0) rfl 0 0 rfl _ _ hm Tryz.underlying65 rfl infoFact ?_) | (refine wpList_store_row rfl _ _ _ rfl _ #[.int .i64 bk, .int .i64 bn] rfl rfl _ _ r4 infoFact rfl (by simp [Value.oneCell']) ?_))
    (try simp only [Exit.inBlock, Exit.then])
    exact bodyPost_ret (results_cell_row rfl _ _ (w.heap.size + 1 + 1) 65 #[.int .i64 bk, .int .i64 bn] (0, 0) _ rfl (setRow_heap _ _ _ _ _ _ r4) Tryz.underlying65 rfl infoFact) rfl ⟨by rw [HR.out, HL.out.2.2.1, HL.out.2.2.2], belowSK HB.out (by omega) _⟩
  have hd2 : decide (a = b) = false := by simpa using hAB
  rw [hd2] at heab
  by_cases hB : b = .never
  · have hd3 : decide (b = FV.never) = true := by simpa using hB
    rw [hd3] at heb
    have HR : Hid (eitherF a b = a) := by show _ = _; rw [HE.out, if_neg (fun h => h.elim hA hAB), if_pos hB]
    clear hA hd hd2 hAB hB hd3
    go_wp2_with (first | (refine wpList_load_row rfl 65 (.tmp 2) rfl _ rfl _ _ _ _ r2 Tryz.underlying65 rfl infoFact ?_) | (refine wpList_load_row rfl 65 (.tmp 3) rfl _ rfl _ _ _ _ r3 Tryz.underlying65 rfl infoFact ?_) | (refine wpList_load_mid rfl 65 (.global 1) rfl 1 0 rfl _ _ hn Tryz.underlying65 rfl infoFact ?_) | (refine wpList_load_mid rfl 65 (.global 0) rfl 0 0 rfl _ _ hm Tryz.underlying65 rfl infoFact ?_) | (refine wpList_store_row rfl _ _ _ rfl _ #[.int .i64 ak, .int .i64 an] rfl rfl _ _ r4 infoFact rfl (by simp [Value.oneCell']) ?_))
    (try simp only [Exit.inBlock, Exit.then])
    exact bodyPost_ret (results_cell_row rfl _ _ (w.heap.size + 1 + 1) 65 #[.int .i64 ak, .int .i64 an] (0, 0) _ rfl (setRow_heap _ _ _ _ _ _ r4) Tryz.underlying65 rfl infoFact) rfl ⟨by rw [HR.out, HL.out.1, HL.out.2.1], belowSK HB.out (by omega) _⟩
  · have hd3 : decide (b = FV.never) = false := by simpa using hB
    rw [hd3] at heb
    have HR : Hid (eitherF a b = .many) := by show _ = _; rw [HE.out, if_neg (fun h => h.elim hA hAB), if_neg hB]
    clear hA hd hd2 hAB hB hd3
    go_wp2_with (first | (refine wpList_load_row rfl 65 (.tmp 2) rfl _ rfl _ _ _ _ r2 Tryz.underlying65 rfl infoFact ?_) | (refine wpList_load_row rfl 65 (.tmp 3) rfl _ rfl _ _ _ _ r3 Tryz.underlying65 rfl infoFact ?_) | (refine wpList_load_mid rfl 65 (.global 1) rfl 1 0 rfl _ _ hn Tryz.underlying65 rfl infoFact ?_) | (refine wpList_load_mid rfl 65 (.global 0) rfl 0 0 rfl _ _ hm Tryz.underlying65 rfl infoFact ?_) | (refine wpList_store_row rfl _ _ _ rfl _ #[.int .i64 2, .int .i64 0] rfl rfl _ _ r4 infoFact rfl (by simp [Value.oneCell']) ?_))
    (try simp only [Exit.inBlock, Exit.then])
    exact bodyPost_ret (results_cell_row rfl _ _ (w.heap.size + 1 + 1) 65 #[.int .i64 2, .int .i64 0] (0, 0) _ rfl (setRow_heap _ _ _ _ _ _ r4) Tryz.underlying65 rfl infoFact) rfl ⟨by rw [HR.out]; rfl, belowSK HB.out (by omega) _⟩
end Go.Proofs.YtldbmdgpdolaaaaGreatDoor
