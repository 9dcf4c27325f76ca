import Derived.Test.YtldbmdgpdolaaaaGreatDoorPXSsaIds
import Derived.Test.YtldbmdgpdolaaaaGreatDoorPXSsaNum
import Derived.Test.YtldbmdgpdolaaaaGreatDoorPXSsaParts
namespace Go.Proofs.YtldbmdgpdolaaaaGreatDoor
open Go Go.RowKit

def SettledPost (w : World) (P : List Fn) (f : Fn) (S : List Nat) (T : Nat → Nat) (L : List Int) (pn : Nat) (e : Ending) (w' : World) : Prop :=
  ∃ gp D Ly g R2 B2 Rs R B, e = .returned (.tuple #[.slice (some ⟨gp, 0, none⟩) S.length S.length, numberV R2 Rs, .int .i64 ((idsTo pn D.ph D.ins S.length).length : Int)]) ∧ PartsAt w' w.heap.size gp S.length D Ly ∧ LeftOf P f S T L D.ph D.ins ∧
    (∀ b, b < S.length → D.bk b = (b : Int) ∧ D.rg b = wantR (mkL L (S.getD b 0)) (fromR f S T L b)) ∧ SettleTo [] (phsOf (phiM f S T L) S.length) g (phsOf D.ph S.length) ∧ NumSt w' R2 B2 Rs R B g (idsTo pn D.ph D.ins S.length) ∧ NumBox w' R2 Rs R ∧ Below w.heap.size w w'
theorem phsOf_at {PH PH' : Nat → List PhiD} {n b : Nat} (h : phsOf PH n = phsOf PH' n) (hb : b < n) : PH b = PH' b := by
  have h1 : (phsOf PH n)[b]? = (phsOf PH' n)[b]? := by rw [h]
  simpa [phsOf, hb] using h1
theorem settle_sub {PH PH' : Nat → List PhiD} {n : Nat} {g : List (Int × Int)} (hs : SettleTo [] (phsOf PH n) g (phsOf PH' n)) (hnd : (phsOf PH n).flatten.Pairwise (fun p q => p.id ≠ q.id)) {b : Nat} (hb : b < n) : PH' b = (PH b).filter (isLeft g) := by
  have h1 := hs.filter hnd (fun p _ q hq => by cases hq)
  have h2 : phsOf PH' n = phsOf (fun b => (PH b).filter (isLeft g)) n := by rw [h1]; simp [phsOf]
  exact phsOf_at h2 hb
set_option maxRecDepth 100000 in
set_option maxHeartbeats 8000000 in
theorem settledS_any {P : List Fn} {f : Fn} {S : List Nat} {T : Nat → Nat} {L : List Int} {pv cv bv lv : Value} (w : World) (h : SsaFn w P f S T L pv cv bv lv) (ht : TabOk w) (hc : CallOk w)
    (hnx : ∀ gB, bv = .slice (some ⟨gB, 0, none⟩) S.length S.length → ∀ i, i < S.length → ∃ a n c, w.cell? ⟨gB, i * 4 + 2, none⟩ = some (.slice a n c))
    (hU : ∀ q, q < f.code.length → Way f 63 q → ∀ r, r < 12 → (rdMask P (insD f q)).testBit r = true → ¬ Way f r q) (pn : Nat) (hpn : f.params = (pn : Int)) :
    Calls Tryz.prog 27 #[.agg (fnV f pv cv bv lv)] w (SettledPost w P f S T L pn) := by
  have hmf : ∀ (fn : Go.Fn) (first cap : Array Value) (w : World), (Instr.makeFunc fn first cap).run Tryz.prog w = .ok (.func fn first cap) w := fun _ _ _ _ => rfl
  have HPOST : Hid (∀ e w', (∃ gp D Ly g R2 B2 Rs R B, e = .returned (.tuple #[.slice (some ⟨gp, 0, none⟩) S.length S.length, numberV R2 Rs, .int .i64 ((idsTo pn D.ph D.ins S.length).length : Int)]) ∧ PartsAt w' w.heap.size gp S.length D Ly ∧ LeftOf P f S T L D.ph D.ins ∧
    (∀ b, b < S.length → D.bk b = (b : Int) ∧ D.rg b = wantR (mkL L (S.getD b 0)) (fromR f S T L b)) ∧ SettleTo [] (phsOf (phiM f S T L) S.length) g (phsOf D.ph S.length) ∧ NumSt w' R2 B2 Rs R B g (idsTo pn D.ph D.ins S.length) ∧ NumBox w' R2 Rs R ∧ Below w.heap.size w w') → SettledPost w P f S T L pn e w') := fun e w' h' => h'
  have h40 := blocks40 h.flow h.ok
  have hp12 : pn ≤ 12 := by have := h.flow.ok.p2; omega
  have HFL : Hid (FlowOk P f) := h.flow
  have HBO : Hid (BlkOk f S T) := h.ok
  have HLS : Hid (LiveSpec P f L) := h.lspec
  have HUU : Hid (∀ q, q < f.code.length → Way f 63 q → ∀ r, r < 12 → (rdMask P (insD f q)).testBit r = true → ¬ Way f r q) := hU
  have hbx : Below w.heap.size w (w.alloc (.cells (fnV f pv cv bv lv) 89)) := (Below.refl _ _).alloc (Nat.le_refl _) _
  have hparts := partsS_any _ (h.below hbx) (ht.below hbx) (hc.below hbx) (fun b _ => prevs_len h40) (fun gB e i hi => by obtain ⟨a, n, c, e2⟩ := hnx gB e i hi; exact ⟨a, n, c, keeps_below hbx _ _ e2⟩)
  have r1 : (w.alloc (.cells (fnV f pv cv bv lv) 89)).heap[w.heap.size]? = some (.cells (fnV f pv cv bv lv) 89 (0, 0)) := heap_alloc_last _ _
  have HB0 : Hid (Below w.heap.size w (w.alloc (.cells (fnV f pv cv bv lv) 89))) := hbx
  unfold fnV at *
  rw [hpn] at hparts r1 HB0 ⊢
  clear h ht hc hnx hU hbx hpn
  go_enter Tryz.func27, Tryz.ntmps27
  go_upto_region 1 with fail
  generalize (w.alloc (.cells #[pv, .int .i64 (pn : Int), cv, bv, lv] 89)) = V at *
  go_upto_region 2 with (first
    | (refine wpList_load_row rfl 89 _ rfl _ rfl _ _ _ _ r1 Tryz.underlying89 rfl infoFnS ?_)
    | (go_at_call 43; refine hparts.mono ?_; rintro e w1 hp; obtain ⟨gp, D, Ly, rfl, hpa, hdn, hb1⟩ := hp))
  have HPA : Hid (PartsAt w1 V.heap.size gp S.length D Ly) := hpa
  have HDN : Hid (∀ i, i < S.length → PDone P f S T L D i) := hdn
  have r11 := (hb1.block _ (lt_of_block r1)).trans r1
  have HB1 : Hid (Below V.heap.size V w1) := hb1
  have HPH : Hid (phsOf D.ph S.length = phsOf (phiM f S T L) S.length) := by
    show _ = _
    unfold phsOf
    exact List.map_congr_left fun b hb => (hdn b (List.mem_range.1 hb)).2.1
  have hset : Calls Tryz.prog 44 #[.slice (some ⟨gp, 0, none⟩) S.length S.length] w1 (SettlePost w1 V.heap.size gp S.length D Ly) := by
    refine settle_any w1 V.heap.size gp S.length D Ly hpa hb1.size (by omega) ?_ ?_ ?_
    · rw [HPH.out]; have := phisLen_le (phi_len f S T L) S.length; omega
    · rw [HPH.out]; exact phi_ids HFL.out HBO.out HLS.out
    · rw [HPH.out]; exact phiFit_all HFL.out HUU.out HBO.out HLS.out
  have HVW : Hid (w.heap.size < V.heap.size) := lt_of_block r1
  clear hpa hdn hb1 hparts r1
  go_upto_region 3 with (go_at_call 44; refine hset.mono ?_; rintro e w2 hp; obtain ⟨R, B, g, PH, VP, rfl, hs1, hs2, hs3, hs4, hs5, hs6, hs7, hs8⟩ := hp)
  rw [HPH.out] at hs1 hs2
  have hgpw := (HPA.out.row.lt gp rfl)
  have HST : Hid (SettleTo [] (phsOf (phiM f S T L) S.length) g (phsOf PH S.length)) := hs1
  have HLO : Hid (LeftOf P f S T L PH D.ins) := ⟨fun b hb => by rw [settle_sub hs1 (phi_ids HFL.out HBO.out HLS.out) hb]; exact List.filter_sublist, fun b hb => (HDN.out b hb).2.2.1⟩
  have hbA : Below w2.heap.size w2 (w2.alloc (.cells #[standsV R] 92)) := (Below.refl _ _).alloc (Nat.le_refl _) _
  have HP3 : Hid (PartsAt (w2.alloc (.cells #[standsV R] 92)) V.heap.size gp S.length { D with ph := PH } { Ly with vp := VP }) := hs3.below hbA
  have HG3 : Hid (GoneAt (w2.alloc (.cells #[standsV R] 92)) R B g.length g) := hs4.below hbA
  have HR3 : Hid ((w2.alloc (.cells #[standsV R] 92)).heap[R]? = some (.cells #[.map (some B)] 117 (0, 0))) := (hbA.block _ (lt_of_block hs5)).trans hs5
  have HS3 : Hid ((w2.alloc (.cells #[standsV R] 92)).heap[w2.heap.size]? = some (.cells #[standsV R] 92 (0, 0))) := heap_alloc_last _ _
  have r12 : w2.heap[w.heap.size]? = some (.cells #[pv, .int .i64 (pn : Int), cv, bv, lv] 89 (0, 0)) := (hs8.block _ (lt_of_block r11) (fun e => by have e := Option.some.inj e; have := HVW.out; have := hgpw.1; omega)).trans r11
  have r13 : (w2.alloc (.cells #[standsV R] 92)).heap[w.heap.size]? = some (.cells #[pv, .int .i64 (pn : Int), cv, bv, lv] 89 (0, 0)) := (hbA.block _ (lt_of_block r12)).trans r12
  have c13 : (w2.alloc (.cells #[standsV R] 92)).cell? ⟨w.heap.size, 1, none⟩ = some (.int .i64 (pn : Int)) := by rw [cell_of_row _ _ _ _ _ _ r13]; rfl
  have HB3 : Hid (Below V.heap.size V (w2.alloc (.cells #[standsV R] 92))) := (HB1.out.grown hs8 HB1.out.size (fun k e => by have e := Option.some.inj e; rw [← e]; exact hgpw.1)).trans (hbA.mono (by have := HB1.out.size; have := hs8.size; omega))
  have hplen : ∀ b, b < S.length → (PH b).length ≤ 12 := fun b hb => Nat.le_trans (HLO.out.ph b hb).length_le (phi_len f S T L b)
  have hilen : ∀ b, b < S.length → (D.ins b).length ≤ 40 := fun b hb => by
    rw [HLO.out.ins b hb, insL_len]
    have := (HBO.out.ends b hb).le; have := HFL.out.ok.len2
    omega
  have hids := ids_ok HFL.out HBO.out HLS.out HLO.out hp12 S.length (Nat.le_refl _)
  have hilen2 := idsTo_len pn hplen hilen
  have hcnt := count_any (w2.alloc (.cells #[standsV R] 92)) V.heap.size gp S.length pn { D with ph := PH } { Ly with vp := VP } HP3.out (by omega) (by omega) hids.1 (fun z hz => by have := kind_fit HFL.out HBO.out hp12 (hids.2 z hz); exact ⟨by omega, by omega⟩) (by show (idsTo pn PH D.ins S.length).length ≤ _; omega) (fun b hb => ⟨by have := hplen b hb; show (PH b).length ≤ _; omega, by have := hilen b hb; show (D.ins b).length ≤ _; omega⟩)
  have HLEN : Hid ((idsTo pn PH D.ins S.length).length ≤ 3000) := by show _ ≤ _; omega
  generalize w2.heap.size = Rs at *
  generalize (w2.alloc (.cells #[standsV R] 92)) = W3 at *
  clear hs1 hs2 hs3 hs4 hs5 hs6 hs7 hs8 r11 r12 hbA hset hgpw hids hilen2 hplen hilen HB1 HPA
  go_upto_region 4 with (go_at_call 45; refine hcnt.mono ?_; rintro e w4 hp; obtain ⟨B2, D2, rfl, hm4, hn4, hb4, hbw4⟩ := hp)
  have hbB : Below W3.heap.size W3 (w4.alloc (.cells #[.map (some B2)] 117)) := hbw4.alloc hbw4.size _
  have HM5 : Hid (MapAt (w4.alloc (.cells #[.map (some B2)] 117)) B2 (idsTo pn PH D.ins S.length).length D2 ∧ NumMap (idsTo pn PH D.ins S.length) D2) := ⟨hm4.alloc _, hn4⟩
  have r5 : (w4.alloc (.cells #[.map (some B2)] 117)).heap[w4.heap.size]? = some (.cells #[.map (some B2)] 117 (0, 0)) := heap_alloc_last _ _
  have HP5 : Hid (PartsAt (w4.alloc (.cells #[.map (some B2)] 117)) w.heap.size gp S.length { D with ph := PH } { Ly with vp := VP }) := (HP3.out.below hbB).mono (Nat.le_of_lt HVW.out)
  have HG5 : Hid (GoneAt (w4.alloc (.cells #[.map (some B2)] 117)) R B g.length g) := HG3.out.below hbB
  have HR5 : Hid ((w4.alloc (.cells #[.map (some B2)] 117)).heap[R]? = some (.cells #[.map (some B)] 117 (0, 0))) := (hbB.block _ (lt_of_block HR3.out)).trans HR3.out
  have HS5 : Hid ((w4.alloc (.cells #[.map (some B2)] 117)).heap[Rs]? = some (.cells #[standsV R] 92 (0, 0))) := (hbB.block _ (lt_of_block HS3.out)).trans HS3.out
  have HB5 : Hid (Below w.heap.size w (w4.alloc (.cells #[.map (some B2)] 117))) := HB0.out.trans ((HB3.out.trans (hbB.mono HB3.out.size)).mono HB0.out.size)
  have HR25 : Hid ((w4.alloc (.cells #[.map (some B2)] 117)).heap[w4.heap.size]? = some (.cells #[.map (some B2)] 117 (0, 0))) := r5
  have c5 : (w4.alloc (.cells #[.map (some B2)] 117)).cell? ⟨w4.heap.size, 0, none⟩ = some (.map (some B2)) := by rw [cell_of_row _ _ _ _ _ _ r5]; rfl
  have hsz := hn4.size
  have hm5 := HM5.out.1
  clear r5 hm4 hn4 hb4 hbw4 hbB hcnt HP3 HG3 HR3 HS3 HB3 HB0 c13 r13
  generalize w4.heap.size = R2 at *
  generalize (w4.alloc (.cells #[.map (some B2)] 117)) = W5 at *
  go_wp2_with (at_len; refine wpList_len_own _ rfl _ 117 rfl 3 3 Tryz.underlying117 _ B2 _ D2 rfl hm5 ?_)
  go_ret3
  refine HPOST.out _ _ ⟨gp, { D with ph := PH }, { Ly with vp := VP }, g, R2, B2, Rs, R, B, rfl, HP5.out, HLO.out, fun b hb => ⟨(HDN.out b hb).1, (HDN.out b hb).2.2.2⟩, HST.out, ⟨⟨c5, D2, HM5.out.1, HM5.out.2⟩, by rw [cell_of_row _ _ _ _ _ _ HS5.out]; rfl, HG5.out⟩, ⟨⟨_, _, HR25.out⟩, ⟨_, _, HS5.out⟩, ⟨_, _, HR5.out⟩⟩, HB5.out⟩
end Go.Proofs.YtldbmdgpdolaaaaGreatDoor
