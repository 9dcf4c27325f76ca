import Derived.Test.YtldbmdgpdolaaaaGreatDoorPXSsaLook
import Derived.Test.YtldbmdgpdolaaaaGreatDoorPXSsaRen
import Derived.Test.YtldbmdgpdolaaaaGreatDoorPXSsaSettled
namespace Go.Proofs.YtldbmdgpdolaaaaGreatDoor
open Go Go.RowKit

structure SsaIs (P : List Fn) (f : Fn) (S : List Nat) (T : Nat → Nat) (L : List Int) (pn : Nat) (g : List (Int × Int)) (D : PDat) : Prop where
  ok : BlkOk f S T
  live : LiveSpec P f L
  par : f.params = (pn : Int)
  left : LeftOf P f S T L D.ph D.ins
  part : ∀ b, b < S.length → D.bk b = (b : Int) ∧ D.rg b = wantR (mkL L (S.getD b 0)) (fromR f S T L b)
  settle : SettleTo [] (phsOf (phiM f S T L) S.length) g (phsOf D.ph S.length)
abbrev idsD (pn n : Nat) (D : PDat) : List Int := idsTo pn D.ph D.ins n
abbrev finD (pn n : Nat) (g : List (Int × Int)) (D : PDat) (ar : Nat → List Int) : PDat := renD (newI g (idsD pn n D)) n D ar
def BuildPost (w : World) (P : List Fn) (f : Fn) (e : Ending) (w' : World) : Prop :=
  ∃ S T L, ∃ pn : Nat, ∃ g D ar gp Ly, e = .returned (.tuple #[.agg #[.int .i64 (pn : Int), .int .i64 ((idsD pn S.length D).length : Int), .slice (some ⟨gp, 0, none⟩) S.length S.length], .int .i64 0]) ∧ SsaIs P f S T L pn g D ∧ PartsAt w' w.heap.size gp S.length (finD pn S.length g D ar) Ly ∧ Below w.heap.size w w'
theorem SsaFn.shapes {w : World} {P : List Fn} {f : Fn} {S : List Nat} {T : Nat → Nat} {L : List Int} {pv cv bv lv : Value} (h : SsaFn w P f S T L pv cv bv lv) : ∃ a1 n1 c1 a2 n2 c2 a3 n3 c3 a4 n4 c4, pv = .slice a1 n1 c1 ∧ cv = .slice a2 n2 c2 ∧ bv = .slice a3 n3 c3 ∧ lv = .slice a4 n4 c4 := by
  obtain ⟨a1, n1, c1, e1⟩ := h.prog.shape
  obtain ⟨cb, co, cc, e2, -⟩ := h.code
  obtain ⟨gB, VV, e3, -⟩ := h.blocks
  obtain ⟨a4, -, -, n4, c4, e4, -⟩ := ints_get h.live
  exact ⟨a1, _, c1, _, _, _, _, _, _, a4, n4, c4, e1, e2, e3, e4⟩
theorem infoSsa : (Tryz.prog.info? 55).map (·.size) = some 3 := by kernel_rfl
set_option maxRecDepth 100000 in
set_option maxHeartbeats 8000000 in
theorem Build_right (P : List Fn) (hR : ProofAns P 0) (k : Nat) (hk : k < P.length) (v : Value) (w : World) (ht : TabOk w) (hc : CallOk w) (hv : ProgVal w v P) :
    Calls Tryz.prog 15 #[.agg #[v], .int .i64 k] w (BuildPost w P P[k]) := by
  have HPOST : Hid (∀ e w', (∃ S T L, ∃ pn : Nat, ∃ g D ar gp Ly, e = .returned (.tuple #[.agg #[.int .i64 (pn : Int), .int .i64 ((idsD pn S.length D).length : Int), .slice (some ⟨gp, 0, none⟩) S.length S.length], .int .i64 0]) ∧ SsaIs P P[k] S T L pn g D ∧ PartsAt w' w.heap.size gp S.length (finD pn S.length g D ar) Ly ∧ Below w.heap.size w w') → BuildPost w P P[k] e w') := fun e w' h => h
  have hok := flowOk_of hR (List.getElem_mem hk)
  obtain ⟨pn, hpn⟩ : ∃ pn : Nat, P[k].params = (pn : Int) := ⟨P[k].params.toNat, by have := hok.ok.p0; omega⟩
  have HPN : Hid (P[k].params = (pn : Int)) := hpn
  have HU : Hid (∀ q, q < P[k].code.length → Way P[k] 63 q → ∀ r, r < 12 → (rdMask P (insD P[k] q)).testBit r = true → ¬ Way P[k] r q) := right_reads hR (List.getElem_mem hk)
  have hZ : ((w.alloc (.cells #[v] 29)).alloc (.cells #[.int .i64 0, .int .i64 0, .slice none 0 0] 55)).heap[w.heap.size + 1]? = some (.cells #[.int .i64 0, .int .i64 0, .slice none 0 0] 55 (0, 0)) := heap_alloc2_new _ _ _
  have hB0 : ((w.alloc (.cells #[v] 29)).alloc (.cells #[.int .i64 0, .int .i64 0, .slice none 0 0] 55)).heap[w.heap.size]? = some (.cells #[v] 29 (0, 0)) := heap_alloc2_old _ _ _
  have hbx : Below w.heap.size w ((w.alloc (.cells #[v] 29)).alloc (.cells #[.int .i64 0, .int .i64 0, .slice none 0 0] 55)) := ((Below.refl _ _).alloc (Nat.le_refl _) _).alloc (by simp) _
  have HB0 : Hid (Below w.heap.size w ((w.alloc (.cells #[v] 29)).alloc (.cells #[.int .i64 0, .int .i64 0, .slice none 0 0] 55))) := hbx
  have hlook := look_right P hR k hk v _ (ht.below hbx) (hc.below hbx) (hv.keeps (keeps_below hbx))
  have HTC : Hid (TabOk w ∧ CallOk w) := ⟨ht, hc⟩
  obtain ⟨ao, n, cap, rfl⟩ := hv.shape
  have HFO : Hid (FlowOk P P[k]) := hok
  clear hR ht hc hv hok hbx hpn
  go_enter Tryz.func15, Tryz.ntmps15
  go_upto_region 1 with fail
  generalize ((w.alloc (.cells #[.slice ao n cap] 29)).alloc (.cells #[.int .i64 0, .int .i64 0, .slice none 0 0] 55)) = V at *
  have b0 : V.cell? ⟨w.heap.size, 0, none⟩ = some (.slice ao n cap) := by rw [cell_of_row _ _ _ _ _ _ hB0]; rfl
  go_upto_region 2 with (go_at_call 26; refine hlook.mono ?_; rintro e w1 hp; obtain ⟨S, T, L, pv, cv, bv, lv, rfl, hsf, hnx, hb1⟩ := hp; obtain ⟨a1, n1, c1, a2, n2, c2, a3, n3, c3, a4, n4, c4, rfl, rfl, rfl, rfl⟩ := hsf.shapes; unfold fnV; rw [HPN.out])
  have r6 : (w1.alloc (.cells #[.slice a1 n1 c1, .int .i64 (pn : Int), .slice a2 n2 c2, .slice a3 n3 c3, .slice a4 n4 c4] 89)).heap[w1.heap.size]? = some (.cells #[.slice a1 n1 c1, .int .i64 (pn : Int), .slice a2 n2 c2, .slice a3 n3 c3, .slice a4 n4 c4] 89 (0, 0)) := heap_alloc_last _ _
  have hbb : Below w1.heap.size w1 (w1.alloc (.cells #[.slice a1 n1 c1, .int .i64 (pn : Int), .slice a2 n2 c2, .slice a3 n3 c3, .slice a4 n4 c4] 89)) := (Below.refl _ _).alloc (Nat.le_refl _) _
  have HBW : Hid (Below w.heap.size w (w1.alloc (.cells #[.slice a1 n1 c1, .int .i64 (pn : Int), .slice a2 n2 c2, .slice a3 n3 c3, .slice a4 n4 c4] 89))) := HB0.out.trans ((hb1.trans (hbb.mono hb1.size)).mono HB0.out.size)
  have hZ1 : (w1.alloc (.cells #[.slice a1 n1 c1, .int .i64 (pn : Int), .slice a2 n2 c2, .slice a3 n3 c3, .slice a4 n4 c4] 89)).heap[w.heap.size + 1]? = some (.cells #[.int .i64 0, .int .i64 0, .slice none 0 0] 55 (0, 0)) := (hbb.block _ (lt_of_block ((hb1.block _ (lt_of_block hZ)).trans hZ))).trans ((hb1.block _ (lt_of_block hZ)).trans hZ)
  have hset := settledS_any _ (hsf.below hbb) (HTC.out.1.below HBW.out) (HTC.out.2.below HBW.out) (fun gB e i hi => by obtain ⟨a, n, c, e2⟩ := hnx gB e i hi; exact ⟨a, n, c, keeps_below hbb _ _ e2⟩) HU.out pn HPN.out
  unfold fnV at hset
  rw [HPN.out] at hset
  have HSF : Hid (BlkOk P[k] S T ∧ LiveSpec P P[k] L) := ⟨hsf.ok, hsf.lspec⟩
  have hG6 : w1.heap.size < (w1.alloc (.cells #[.slice a1 n1 c1, .int .i64 (pn : Int), .slice a2 n2 c2, .slice a3 n3 c3, .slice a4 n4 c4] 89)).heap.size := lt_of_block r6
  have hH1 : w.heap.size + 1 < (w1.alloc (.cells #[.slice a1 n1 c1, .int .i64 (pn : Int), .slice a2 n2 c2, .slice a3 n3 c3, .slice a4 n4 c4] 89)).heap.size := lt_of_block hZ1
  have h40 := blocks40 HFO.out hsf.ok
  clear hsf hnx hb1 hbb hB0 hZ b0 HB0 hlook
  generalize (w1.alloc (.cells #[.slice a1 n1 c1, .int .i64 (pn : Int), .slice a2 n2 c2, .slice a3 n3 c3, .slice a4 n4 c4] 89)) = V1 at *
  generalize w1.heap.size = G6 at *
  go_upto_region 5 with (first
    | (refine wpList_load_row rfl 89 _ rfl _ rfl _ _ _ _ r6 Tryz.underlying89 rfl infoFnB ?_)
    | (go_at_call 27; refine hset.mono ?_; rintro e w2 hp; obtain ⟨gp, D, Ly, g, R2, B2, Rs, R, B, rfl, h1, h2, h3, h4, h5, h6, h7⟩ := hp))
  have HIS : Hid (SsaIs P P[k] S T L pn g D) := ⟨HSF.out.1, HSF.out.2, HPN.out, h2, h3, h4⟩
  have hreg : RegsD S.length D.ph := fun b hb => (phi_regs P[k] S T L S.length b hb).sublist (h2.ph b hb)
  have hfd := fitD_all HFO.out HU.out HSF.out.1 HSF.out.2 h2 (fun b hb => (h3 b hb).2)
  have hren := renParts_any (R2 := R2) (Rs := Rs) w2 V1.heap.size gp S.length D Ly (newI g (idsD pn S.length D)) h1 (by omega) hreg hfd (fun b hb => ⟨by have := Nat.le_trans (h2.ph b hb).length_le (phi_len P[k] S T L b); omega, by
      rw [h2.ins b hb, insL_len]
      have := (HSF.out.1.ends b hb).le; have := HFO.out.ok.len2
      omega, fun p hp => by
      obtain ⟨r, hr, hj, e, -⟩ := phi_form HFO.out HSF.out.1 HSF.out.2 hb ((h2.ph b hb).subset hp)
      have hpl := prevs_len (f := P[k]) (T := T) (b := b) h40
      rw [e]
      show (List.map _ _).length ≤ _ ∧ 0 < (List.map _ _).length
      rw [List.length_map]
      omega⟩) (fun W hW x hx => number_any W (h5.own4 h6 hW) x hx)
  have r62 := (h7.block _ (lt_of_block r6)).trans r6
  have hZ2 := (h7.block _ (lt_of_block hZ1)).trans hZ1
  have HB2 : Hid (Below w.heap.size w w2) := HBW.out.trans (h7.mono HBW.out.size)
  clear h1 h2 h3 h4 h5 h6 h7 hreg hfd hset r6 hZ1
  go_upto_region 6 with (go_at_call 32; refine hren.mono ?_; rintro e w3 hp; obtain ⟨rfl, ⟨ar, hpa⟩, ho⟩ := hp)
  have HPA : Hid (PartsAt w3 V1.heap.size gp S.length (finD pn S.length g D ar) Ly) := hpa
  have r63 := (ho.block G6 (Or.inl hG6)).trans r62
  have hZ3 := (ho.block (w.heap.size + 1) (Or.inl hH1)).trans hZ2
  have c61 : w3.cell? ⟨G6, 1, none⟩ = some (.int .i64 (pn : Int)) := by rw [cell_of_row _ _ _ _ _ _ r63]; rfl
  have HB3 : Hid (Below w.heap.size w w3) := HB2.out.trans (ho.below.mono (HBW.out.size))
  have HVS : Hid (w.heap.size ≤ V1.heap.size) := HBW.out.size
  clear hpa ho hren r62 hZ2 r63 HB2
  have one3 : (#[.int .i64 (pn : Int), .int .i64 ((idsD pn S.length D).length : Int), .slice (some ⟨gp, 0, none⟩) S.length S.length] : Array Value).all (·.oneCell') = true := by simp [Value.oneCell']
  go_wp2_with (refine wpList_store_row rfl 55 (.tmp 4) _ rfl _ #[.int .i64 (pn : Int), .int .i64 ((idsD pn S.length D).length : Int), .slice (some ⟨gp, 0, none⟩) S.length S.length] rfl rfl _ _ hZ3 infoSsa rfl one3 ?_)
  (try simp only [Exit.inBlock, Exit.then])
  refine bodyPost_ret (results_row_tmp rfl _ _ (w.heap.size + 1) 55 #[.int .i64 (pn : Int), .int .i64 ((idsD pn S.length D).length : Int), .slice (some ⟨gp, 0, none⟩) S.length S.length] (0, 0) _ rfl (setRow_heap _ _ _ _ _ _ hZ3) Tryz.underlying55 rfl infoSsa) rfl (HPOST.out _ _ ⟨S, T, L, pn, g, D, ar, gp, Ly, rfl, HIS.out, ?_, belowSK HB3.out (by omega) _⟩)
  refine (HPA.out.kept (gb_setRow _ _ _) (fun q cs t e hh => ?_)).mono HVS.out
  have e := Option.some.inj e
  rw [← e, hZ3] at hh
  simp at hh
  right
  rw [← hh.2]; decide
end Go.Proofs.YtldbmdgpdolaaaaGreatDoor
