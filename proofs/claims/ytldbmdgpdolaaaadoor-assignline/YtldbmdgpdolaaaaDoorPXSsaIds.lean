import Derived.Test.YtldbmdgpdolaaaaDoorPXSsaLive
import Derived.Test.YtldbmdgpdolaaaaDoorPXSsaParts
import Derived.Deep.RegionHeld
import Derived.OrdersHeld
namespace Go.Proofs.YtldbmdgpdolaaaaDoor
open Go Go.RowKit

structure LeftOf (P : List Fn) (f : Fn) (S : List Nat) (T : Nat → Nat) (L : List Int) (PH : Nat → List PhiD) (IN : Nat → List InsD) : Prop where
  ph : ∀ b, b < S.length → (PH b).Sublist (phiM f S T L b)
  ins : ∀ b, b < S.length → IN b = insL P f (S.getD b 0) (T b - S.getD b 0) (fromR f S T L b)
theorem insM_id (P : List Fn) (f : Fn) (pc : Nat) (l : List Int) : (insM P f pc l).id = if setsB (insD f pc).op = true then madeI pc else -1 := rfl
theorem insL_ids (P : List Fn) (f : Fn) (fr n : Nat) (l : List Int) : ((insL P f fr n l).map (·.id)).filter (fun z => decide (z ≠ -1)) = ((List.range n).filter (fun k => setsB (insD f (fr + k)).op)).map (fun k => madeI (fr + k)) := by
  induction n with
  | zero => rfl
  | succ n ih =>
    rw [insL_succ, List.map_append, List.filter_append, ih, List.range_succ, List.filter_append, List.map_append]
    congr 1
    simp only [List.map_cons, List.map_nil, insM_id]
    cases hs : setsB (insD f (fr + n)).op
    · simp [hs]
    · have : madeI (fr + n) ≠ -1 := by unfold madeI; omega
      simp [hs, this]
def KindI (pn : Nat) (S : List Nat) (T : Nat → Nat) (b : Nat) (z : Int) : Prop := (0 ≤ z ∧ z < (pn : Int)) ∨ (∃ b', b' < b ∧ ∃ pc : Nat, S.getD b' 0 ≤ pc ∧ pc < T b' ∧ z = madeI pc) ∨ (∃ b' r, b' < b ∧ r < 12 ∧ z = phiI b' r)
theorem ids_ok {P : List Fn} {f : Fn} (ok : FlowOk P f) {S : List Nat} {T : Nat → Nat} (hB : BlkOk f S T) {L : List Int} (hL : LiveSpec P f L) {PH : Nat → List PhiD} {IN : Nat → List InsD} (h : LeftOf P f S T L PH IN) {pn : Nat} (hpn : pn ≤ 12) : ∀ b, b ≤ S.length → (idsTo pn PH IN b).Nodup ∧ ∀ z ∈ idsTo pn PH IN b, KindI pn S T b z
  | 0, _ => by
    refine ⟨?_, fun z hz => ?_⟩
    · show ((List.range pn).map (fun r => ((r : Nat) : Int))).Nodup
      rw [List.Nodup, List.pairwise_map]
      exact (List.nodup_range (n := pn)).imp (fun {a b} h e => h (by omega))
    · obtain ⟨r, hr, rfl⟩ := List.mem_map.1 (show z ∈ (List.range pn).map (fun r => ((r : Nat) : Int)) from hz)
      have := List.mem_range.1 hr
      exact Or.inl ⟨by omega, by omega⟩
  | b + 1, hb => by
    obtain ⟨h1, h2⟩ := ids_ok ok hB hL h hpn b (by omega)
    have hbl : b < S.length := by omega
    have h40 := blocks40 ok hB
    have hE := hB.ends b hbl
    have eS : S.getD b 0 = S[b] := by simp [List.getD, hbl]
    have hle := hE.le
    have hlt := hE.lt
    have hl40 := ok.ok.len2
    have hphi : ∀ z ∈ (PH b).map (·.id), ∃ r, r < 12 ∧ z = phiI b r := fun z hz => by
      obtain ⟨p, hp, rfl⟩ := List.mem_map.1 hz
      obtain ⟨r, hr, -, -, -, e, -⟩ := phi_form ok hB hL hbl ((h.ph b hbl).subset hp)
      exact ⟨r, hr, e⟩
    have hinsE : ((IN b).map (·.id)).filter (fun z => decide (z ≠ -1)) = ((List.range (T b - S.getD b 0)).filter (fun k => setsB (insD f (S.getD b 0 + k)).op)).map (fun k => madeI (S.getD b 0 + k)) := by rw [h.ins b hbl, insL_ids]
    have hins : ∀ z ∈ ((IN b).map (·.id)).filter (fun z => decide (z ≠ -1)), ∃ pc : Nat, S.getD b 0 ≤ pc ∧ pc < T b ∧ z = madeI pc := fun z hz => by
      rw [hinsE] at hz
      obtain ⟨k, hk, rfl⟩ := List.mem_map.1 hz
      have := List.mem_range.1 (List.mem_filter.1 hk).1
      exact ⟨S.getD b 0 + k, by omega, by omega, rfl⟩
    have hT : ∀ b', b' < S.length → T b' ≤ 40 := fun b' hb' => by have := (hB.ends b' hb').le; omega
    refine ⟨?_, fun z hz => ?_⟩
    · rw [idsTo, List.nodup_append]
      refine ⟨h1, ?_, fun x hx y hy e => ?_⟩
      · rw [idsP, List.nodup_append]
        refine ⟨?_, ?_, fun x hx y hy e => ?_⟩
        · have hp : (phiM f S T L b).Pairwise (fun p q => p.id ≠ q.id) := by
            have := phi_ids ok hB hL
            rw [List.pairwise_flatten] at this
            exact this.1 _ (List.mem_map.2 ⟨b, List.mem_range.2 hbl, rfl⟩)
          rw [List.Nodup, List.pairwise_map]
          exact hp.sublist (h.ph b hbl)
        · rw [hinsE, List.Nodup, List.pairwise_map]
          refine (List.Pairwise.filter _ (List.nodup_range (n := T b - S.getD b 0))).imp (fun {a c} hne e => hne ?_)
          unfold madeI at e; omega
        · obtain ⟨r, hr, e1⟩ := hphi x hx
          obtain ⟨pc, p1, p2, e2⟩ := hins y hy
          rw [e1, e2] at e
          unfold phiI madeI at e
          have := hT b hbl
          omega
      · rcases List.mem_append.1 hy with hy | hy
        · obtain ⟨r, hr, e1⟩ := hphi y hy
          rw [e1] at e
          rcases h2 x hx with ⟨a1, a2⟩ | ⟨b', hb', pc, a1, a2, a3⟩ | ⟨b', r', hb', hr', a3⟩
          · unfold phiI at e; omega
          · rw [a3] at e
            have := hT b' (by omega)
            unfold phiI madeI at e; omega
          · rw [a3] at e; unfold phiI at e; omega
        · obtain ⟨pc', p1, p2, e1⟩ := hins y hy
          rw [e1] at e
          have hTb := hT b hbl
          rcases h2 x hx with ⟨a1, a2⟩ | ⟨b', hb', pc, a1, a2, a3⟩ | ⟨b', r', hb', hr', a3⟩
          · unfold madeI at e; omega
          · rw [a3] at e
            have := hB.apart hbl hb'
            unfold madeI at e
            omega
          · rw [a3] at e; unfold phiI madeI at e; omega
    · rw [idsTo] at hz
      rcases List.mem_append.1 hz with hz | hz
      · rcases h2 z hz with a | ⟨b', hb', a⟩ | ⟨b', r', hb', a⟩
        · exact Or.inl a
        · exact Or.inr (Or.inl ⟨b', by omega, a⟩)
        · exact Or.inr (Or.inr ⟨b', r', by omega, a⟩)
      · rcases List.mem_append.1 hz with hz | hz
        · obtain ⟨r, hr, e1⟩ := hphi z hz
          exact Or.inr (Or.inr ⟨b, r, by omega, hr, e1⟩)
        · obtain ⟨pc, p1, p2, e1⟩ := hins z hz
          exact Or.inr (Or.inl ⟨b, by omega, pc, p1, p2, e1⟩)
theorem kind_fit {P : List Fn} {f : Fn} (ok : FlowOk P f) {S : List Nat} {T : Nat → Nat} (hB : BlkOk f S T) {pn : Nat} (hpn : pn ≤ 12) {z : Int} (h : KindI pn S T S.length z) : 0 ≤ z ∧ z ≤ 600 := by
  have h40 := blocks40 ok hB
  rcases h with ⟨a, b⟩ | ⟨b', hb', pc, a1, a2, rfl⟩ | ⟨b', r, hb', hr, rfl⟩
  · omega
  · have := (hB.ends b' hb').le; have := ok.ok.len2
    unfold madeI; omega
  · unfold phiI; omega
theorem idsTo_len (pn : Nat) {PH : Nat → List PhiD} {IN : Nat → List InsD} {n : Nat} (h1 : ∀ b, b < n → (PH b).length ≤ 12) (h2 : ∀ b, b < n → (IN b).length ≤ 40) : (idsTo pn PH IN n).length ≤ pn + 52 * n := by
  induction n with
  | zero => simp [idsTo]
  | succ n ih =>
    have := ih (fun b hb => h1 b (by omega)) (fun b hb => h2 b (by omega))
    have a := h1 n (by omega)
    have c := h2 n (by omega)
    have d := List.length_filter_le (fun z => decide (z ≠ (-1 : Int))) ((IN n).map (·.id))
    rw [List.length_map] at d
    rw [idsTo, List.length_append, idsP, List.length_append, List.length_map]
    omega
theorem fitD_all {P : List Fn} {f : Fn} (ok : FlowOk P f) (hU : ∀ q, q < f.code.length → Way f 63 q → ∀ r, r < 12 → (rdMask P (insD f q)).testBit r = true → ¬ Way f r q) {S : List Nat} {T : Nat → Nat} (hB : BlkOk f S T) {L : List Int} (hL : LiveSpec P f L) {D : PDat} (h : LeftOf P f S T L D.ph D.ins) (hr : ∀ b, b < S.length → D.rg b = wantR (mkL L (S.getD b 0)) (fromR f S T L b)) : FitD S.length D := by
  have hpf := phiFit_all ok hU hB hL
  refine ⟨fun b hb p hp => ?_, fun b hb x hx => ?_, fun b hb z hz => ?_⟩
  · obtain ⟨h1, h2⟩ := hpf p (List.mem_flatten.2 ⟨phiM f S T L b, List.mem_map.2 ⟨b, List.mem_range.2 hb, rfl⟩, (h.ph b hb).subset hp⟩)
    exact ⟨h1, fun a ha => (h2 a ha).1⟩
  · rw [h.ins b hb] at hx
    obtain ⟨k, hk, rfl⟩ := List.mem_map.1 hx
    have hk := List.mem_range.1 hk
    have hE := hB.ends b hb
    have eS : S.getD b 0 = S[b] := by simp [List.getD, hb]
    have hle := hE.le; have hlt := hE.lt; have hl40 := ok.ok.len2
    have hv : ValL (onR f (S.getD b 0) k (fromR f S T L b)) := valL_on _ _ _ (by omega) (valL_from ok hB (fromR_is ok hB L hb) hb)
    have hio := (ok.insD (show S.getD b 0 + k < f.code.length by omega)).1
    have hneg : Fit2 (-1) := ⟨by omega, by omega⟩
    refine ⟨?_, ?_, ?_⟩
    · show Fit2 (if setsB _ = true then madeI _ else -1)
      split
      · unfold madeI; exact ⟨by omega, by omega⟩
      · exact hneg
    · show Fit2 (if rdA _ _ = true then _ else -1)
      split
      · exact (hv _ (by have := hio.a0; have := hio.a1; omega)).fit
      · exact hneg
    · show Fit2 (if rdB _ _ = true then _ else -1)
      split
      · exact (hv _ (by have := hio.b0; have := hio.b1; omega)).fit
      · exact hneg
  · rw [hr b hb] at hz
    obtain ⟨i, hi, rfl⟩ := List.mem_iff_getElem.1 hz
    have hi12 : i < 12 := by rw [wantR_len] at hi; exact hi
    have := valL_want (m := mkL L (S.getD b 0)) (valL_from ok hB (fromR_is ok hB L hb) hb) i hi12
    rw [List.getD, List.getElem?_eq_getElem hi] at this
    exact this.fit
end Go.Proofs.YtldbmdgpdolaaaaDoor
namespace Go.Proofs.YtldbmdgpdolaaaaDoor
open Go Go.RowKit

def SettledPost (w : World) (P : List Fn) (f : Fn) (S : List Nat) (T : Nat → Nat) (L : List Int) (pn : Nat) (e : Ending) (w' : World) : Prop :=
  ∃ gp D Ly g R2 B2 Rs R B, e = .returned (.tuple #[.slice (some ⟨gp, 0, none⟩) S.length S.length, numberV R2 Rs, .int .i64 ((idsTo pn D.ph D.ins S.length).length : Int)]) ∧ PartsAt w' w.heap.size gp S.length D Ly ∧ LeftOf P f S T L D.ph D.ins ∧
    (∀ b, b < S.length → D.bk b = (b : Int) ∧ D.rg b = wantR (mkL L (S.getD b 0)) (fromR f S T L b)) ∧ SettleTo [] (phsOf (phiM f S T L) S.length) g (phsOf D.ph S.length) ∧ NumSt w' R2 B2 Rs R B g (idsTo pn D.ph D.ins S.length) ∧ NumBox w' R2 Rs R ∧ Below w.heap.size w w'
theorem phsOf_at {PH PH' : Nat → List PhiD} {n b : Nat} (h : phsOf PH n = phsOf PH' n) (hb : b < n) : PH b = PH' b := by
  have h1 : (phsOf PH n)[b]? = (phsOf PH' n)[b]? := by rw [h]
  simpa [phsOf, hb] using h1
theorem settle_sub {PH PH' : Nat → List PhiD} {n : Nat} {g : List (Int × Int)} (hs : SettleTo [] (phsOf PH n) g (phsOf PH' n)) (hnd : (phsOf PH n).flatten.Pairwise (fun p q => p.id ≠ q.id)) {b : Nat} (hb : b < n) : PH' b = (PH b).filter (isLeft g) := by
  have h1 := hs.filter hnd (fun p _ q hq => by cases hq)
  have h2 : phsOf PH' n = phsOf (fun b => (PH b).filter (isLeft g)) n := by rw [h1]; simp [phsOf]
  exact phsOf_at h2 hb
set_option maxRecDepth 100000 in
set_option maxHeartbeats 8000000 in
theorem settledS_any {P : List Fn} {f : Fn} {S : List Nat} {T : Nat → Nat} {L : List Int} {pv cv bv lv : Value} (w : World) (h : SsaFn w P f S T L pv cv bv lv) (ht : TabOk w) (hc : CallOk w)
    (hnx : ∀ gB, bv = .slice (some ⟨gB, 0, none⟩) S.length S.length → ∀ i, i < S.length → ∃ a n c, w.cell? ⟨gB, i * 4 + 2, none⟩ = some (.slice a n c))
    (hU : ∀ q, q < f.code.length → Way f 63 q → ∀ r, r < 12 → (rdMask P (insD f q)).testBit r = true → ¬ Way f r q) (pn : Nat) (hpn : f.params = (pn : Int)) :
    Calls Tryd.prog 16 #[.agg (fnV f pv cv bv lv)] w (SettledPost w P f S T L pn) := by
  have hmf : ∀ (fn : Go.Fn) (first cap : Array Value) (w : World), (Instr.makeFunc fn first cap).run Tryd.prog w = .ok (.func fn first cap) w := fun _ _ _ _ => rfl
  have HPOST : Hid (∀ e w', (∃ gp D Ly g R2 B2 Rs R B, e = .returned (.tuple #[.slice (some ⟨gp, 0, none⟩) S.length S.length, numberV R2 Rs, .int .i64 ((idsTo pn D.ph D.ins S.length).length : Int)]) ∧ PartsAt w' w.heap.size gp S.length D Ly ∧ LeftOf P f S T L D.ph D.ins ∧
    (∀ b, b < S.length → D.bk b = (b : Int) ∧ D.rg b = wantR (mkL L (S.getD b 0)) (fromR f S T L b)) ∧ SettleTo [] (phsOf (phiM f S T L) S.length) g (phsOf D.ph S.length) ∧ NumSt w' R2 B2 Rs R B g (idsTo pn D.ph D.ins S.length) ∧ NumBox w' R2 Rs R ∧ Below w.heap.size w w') → SettledPost w P f S T L pn e w') := fun e w' h' => h'
  have h40 := blocks40 h.flow h.ok
  have hp12 : pn ≤ 12 := by have := h.flow.ok.p2; omega
  have HFL : Hid (FlowOk P f) := h.flow
  have HBO : Hid (BlkOk f S T) := h.ok
  have HLS : Hid (LiveSpec P f L) := h.lspec
  have HUU : Hid (∀ q, q < f.code.length → Way f 63 q → ∀ r, r < 12 → (rdMask P (insD f q)).testBit r = true → ¬ Way f r q) := hU
  have hbx : Below w.heap.size w (w.alloc (.cells (fnV f pv cv bv lv) 56)) := (Below.refl _ _).alloc (Nat.le_refl _) _
  have hparts := partsS_any _ (h.below hbx) (ht.below hbx) (hc.below hbx) (fun b _ => prevs_len h40) (fun gB e i hi => by obtain ⟨a, n, c, e2⟩ := hnx gB e i hi; exact ⟨a, n, c, keeps_below hbx _ _ e2⟩)
  have r1 : (w.alloc (.cells (fnV f pv cv bv lv) 56)).heap[w.heap.size]? = some (.cells (fnV f pv cv bv lv) 56 (0, 0)) := heap_alloc_last _ _
  have HB0 : Hid (Below w.heap.size w (w.alloc (.cells (fnV f pv cv bv lv) 56))) := hbx
  unfold fnV at *
  rw [hpn] at hparts r1 HB0 ⊢
  clear h ht hc hnx hU hbx hpn
  go_enter Tryd.func16, Tryd.ntmps16
  go_upto_region 1 with fail
  generalize (w.alloc (.cells #[pv, .int .i64 (pn : Int), cv, bv, lv] 56)) = V at *
  go_upto_region 2 with (first
    | (refine wpList_load_row rfl 56 _ rfl _ rfl _ _ _ _ r1 Tryd.underlying56 rfl infoFnS ?_)
    | (go_at_call 28; refine hparts.mono ?_; rintro e w1 hp; obtain ⟨gp, D, Ly, rfl, hpa, hdn, hb1⟩ := hp))
  have HPA : Hid (PartsAt w1 V.heap.size gp S.length D Ly) := hpa
  have HDN : Hid (∀ i, i < S.length → PDone P f S T L D i) := hdn
  have r11 := (hb1.block _ (lt_of_block r1)).trans r1
  have HB1 : Hid (Below V.heap.size V w1) := hb1
  have HPH : Hid (phsOf D.ph S.length = phsOf (phiM f S T L) S.length) := by
    show _ = _
    unfold phsOf
    exact List.map_congr_left fun b hb => (hdn b (List.mem_range.1 hb)).2.1
  have hset : Calls Tryd.prog 29 #[.slice (some ⟨gp, 0, none⟩) S.length S.length] w1 (SettlePost w1 V.heap.size gp S.length D Ly) := by
    refine settle_any w1 V.heap.size gp S.length D Ly hpa hb1.size (by omega) ?_ ?_ ?_
    · rw [HPH.out]; have := phisLen_le (phi_len f S T L) S.length; omega
    · rw [HPH.out]; exact phi_ids HFL.out HBO.out HLS.out
    · rw [HPH.out]; exact phiFit_all HFL.out HUU.out HBO.out HLS.out
  have HVW : Hid (w.heap.size < V.heap.size) := lt_of_block r1
  clear hpa hdn hb1 hparts r1
  go_upto_region 3 with (go_at_call 29; refine hset.mono ?_; rintro e w2 hp; obtain ⟨R, B, g, PH, VP, rfl, hs1, hs2, hs3, hs4, hs5, hs6, hs7, hs8⟩ := hp)
  rw [HPH.out] at hs1 hs2
  have hgpw := (HPA.out.row.lt gp rfl)
  have HST : Hid (SettleTo [] (phsOf (phiM f S T L) S.length) g (phsOf PH S.length)) := hs1
  have HLO : Hid (LeftOf P f S T L PH D.ins) := ⟨fun b hb => by rw [settle_sub hs1 (phi_ids HFL.out HBO.out HLS.out) hb]; exact List.filter_sublist, fun b hb => (HDN.out b hb).2.2.1⟩
  have hbA : Below w2.heap.size w2 (w2.alloc (.cells #[standsV R] 59)) := (Below.refl _ _).alloc (Nat.le_refl _) _
  have HP3 : Hid (PartsAt (w2.alloc (.cells #[standsV R] 59)) V.heap.size gp S.length { D with ph := PH } { Ly with vp := VP }) := hs3.below hbA
  have HG3 : Hid (GoneAt (w2.alloc (.cells #[standsV R] 59)) R B g.length g) := hs4.below hbA
  have HR3 : Hid ((w2.alloc (.cells #[standsV R] 59)).heap[R]? = some (.cells #[.map (some B)] 82 (0, 0))) := (hbA.block _ (lt_of_block hs5)).trans hs5
  have HS3 : Hid ((w2.alloc (.cells #[standsV R] 59)).heap[w2.heap.size]? = some (.cells #[standsV R] 59 (0, 0))) := heap_alloc_last _ _
  have r12 : w2.heap[w.heap.size]? = some (.cells #[pv, .int .i64 (pn : Int), cv, bv, lv] 56 (0, 0)) := (hs8.block _ (lt_of_block r11) (fun e => by have e := Option.some.inj e; have := HVW.out; have := hgpw.1; omega)).trans r11
  have r13 : (w2.alloc (.cells #[standsV R] 59)).heap[w.heap.size]? = some (.cells #[pv, .int .i64 (pn : Int), cv, bv, lv] 56 (0, 0)) := (hbA.block _ (lt_of_block r12)).trans r12
  have c13 : (w2.alloc (.cells #[standsV R] 59)).cell? ⟨w.heap.size, 1, none⟩ = some (.int .i64 (pn : Int)) := by rw [cell_of_row _ _ _ _ _ _ r13]; rfl
  have HB3 : Hid (Below V.heap.size V (w2.alloc (.cells #[standsV R] 59))) := (HB1.out.grown hs8 HB1.out.size (fun k e => by have e := Option.some.inj e; rw [← e]; exact hgpw.1)).trans (hbA.mono (by have := HB1.out.size; have := hs8.size; omega))
  have hplen : ∀ b, b < S.length → (PH b).length ≤ 12 := fun b hb => Nat.le_trans (HLO.out.ph b hb).length_le (phi_len f S T L b)
  have hilen : ∀ b, b < S.length → (D.ins b).length ≤ 40 := fun b hb => by
    rw [HLO.out.ins b hb, insL_len]
    have := (HBO.out.ends b hb).le; have := HFL.out.ok.len2
    omega
  have hids := ids_ok HFL.out HBO.out HLS.out HLO.out hp12 S.length (Nat.le_refl _)
  have hilen2 := idsTo_len pn hplen hilen
  have hcnt := count_any (w2.alloc (.cells #[standsV R] 59)) V.heap.size gp S.length pn { D with ph := PH } { Ly with vp := VP } HP3.out (by omega) (by omega) hids.1 (fun z hz => by have := kind_fit HFL.out HBO.out hp12 (hids.2 z hz); exact ⟨by omega, by omega⟩) (by show (idsTo pn PH D.ins S.length).length ≤ _; omega) (fun b hb => ⟨by have := hplen b hb; show (PH b).length ≤ _; omega, by have := hilen b hb; show (D.ins b).length ≤ _; omega⟩)
  have HLEN : Hid ((idsTo pn PH D.ins S.length).length ≤ 3000) := by show _ ≤ _; omega
  generalize w2.heap.size = Rs at *
  generalize (w2.alloc (.cells #[standsV R] 59)) = W3 at *
  clear hs1 hs2 hs3 hs4 hs5 hs6 hs7 hs8 r11 r12 hbA hset hgpw hids hilen2 hplen hilen HB1 HPA
  go_upto_region 4 with (go_at_call 30; refine hcnt.mono ?_; rintro e w4 hp; obtain ⟨B2, D2, rfl, hm4, hn4, hb4, hbw4⟩ := hp)
  have hbB : Below W3.heap.size W3 (w4.alloc (.cells #[.map (some B2)] 82)) := hbw4.alloc hbw4.size _
  have HM5 : Hid (MapAt (w4.alloc (.cells #[.map (some B2)] 82)) B2 (idsTo pn PH D.ins S.length).length D2 ∧ NumMap (idsTo pn PH D.ins S.length) D2) := ⟨hm4.alloc _, hn4⟩
  have r5 : (w4.alloc (.cells #[.map (some B2)] 82)).heap[w4.heap.size]? = some (.cells #[.map (some B2)] 82 (0, 0)) := heap_alloc_last _ _
  have HP5 : Hid (PartsAt (w4.alloc (.cells #[.map (some B2)] 82)) w.heap.size gp S.length { D with ph := PH } { Ly with vp := VP }) := (HP3.out.below hbB).mono (Nat.le_of_lt HVW.out)
  have HG5 : Hid (GoneAt (w4.alloc (.cells #[.map (some B2)] 82)) R B g.length g) := HG3.out.below hbB
  have HR5 : Hid ((w4.alloc (.cells #[.map (some B2)] 82)).heap[R]? = some (.cells #[.map (some B)] 82 (0, 0))) := (hbB.block _ (lt_of_block HR3.out)).trans HR3.out
  have HS5 : Hid ((w4.alloc (.cells #[.map (some B2)] 82)).heap[Rs]? = some (.cells #[standsV R] 59 (0, 0))) := (hbB.block _ (lt_of_block HS3.out)).trans HS3.out
  have HB5 : Hid (Below w.heap.size w (w4.alloc (.cells #[.map (some B2)] 82))) := HB0.out.trans ((HB3.out.trans (hbB.mono HB3.out.size)).mono HB0.out.size)
  have HR25 : Hid ((w4.alloc (.cells #[.map (some B2)] 82)).heap[w4.heap.size]? = some (.cells #[.map (some B2)] 82 (0, 0))) := r5
  have c5 : (w4.alloc (.cells #[.map (some B2)] 82)).cell? ⟨w4.heap.size, 0, none⟩ = some (.map (some B2)) := by rw [cell_of_row _ _ _ _ _ _ r5]; rfl
  have hsz := hn4.size
  have hm5 := HM5.out.1
  clear r5 hm4 hn4 hb4 hbw4 hbB hcnt HP3 HG3 HR3 HS3 HB3 HB0 c13 r13
  generalize w4.heap.size = R2 at *
  generalize (w4.alloc (.cells #[.map (some B2)] 82)) = W5 at *
  go_wp2_with (at_len; refine wpList_len_own _ rfl _ 82 rfl 3 3 Tryd.underlying82 _ B2 _ D2 rfl hm5 ?_)
  go_ret3
  refine HPOST.out _ _ ⟨gp, { D with ph := PH }, { Ly with vp := VP }, g, R2, B2, Rs, R, B, rfl, HP5.out, HLO.out, fun b hb => ⟨(HDN.out b hb).1, (HDN.out b hb).2.2.2⟩, HST.out, ⟨⟨c5, D2, HM5.out.1, HM5.out.2⟩, by rw [cell_of_row _ _ _ _ _ _ HS5.out]; rfl, HG5.out⟩, ⟨⟨_, _, HR25.out⟩, ⟨_, _, HS5.out⟩, ⟨_, _, HR5.out⟩⟩, HB5.out⟩
end Go.Proofs.YtldbmdgpdolaaaaDoor
namespace Go.Proofs.YtldbmdgpdolaaaaDoor
open Go

section
variable {P : Program} {ops : Array Oper} {Q : Exit → Act → World → Prop} {md : Region.Mode} {k : Nat} {S0 S1 : World → Prop}

def SL (k : Nat) (S0 S1 : World → Prop) (l : Array Bool) (w : World) : Prop := S1 w ∧ (l.getD k false = true ∨ S0 w)
theorem SL_set {i : Nat} {l : Array Bool} {w : World} (h : i ≠ k) : SL k S0 S1 (l.setIfInBounds i true) w ↔ SL k S0 S1 l w := by unfold SL; rw [getD_set_ne false h]
def wpAnyL (P : Program) (md : Region.Mode) (ops : Array Oper) (Q : Exit → Act → World → Prop) (k : Nat) (S0 S1 : World → Prop) : Nat → Array Bool → Act → World → Prop
  | 0, listed, a, w => Region.ready md ops listed = [] ∧ Q .normal a w
  | fuel + 1, listed, a, w =>
    (Region.ready md ops listed = [] → Q .normal a w) ∧
    ∀ i ∈ Region.ready md ops listed, wpOp P ops Q i (fun a' w' => SL k S0 S1 (listed.setIfInBounds i true) w' ∧ wpAnyL P md ops Q k S0 S1 fuel (listed.setIfInBounds i true) a' w') a w
theorem wpAny_of_late : ∀ (fuel : Nat) (listed : Array Bool) (a : Act) (w : World), wpAnyL P md ops Q k S0 S1 fuel listed a w → wpAny P md ops Q fuel listed a w
  | 0, _, _, _, h => h
  | fuel + 1, _, _, _, h => ⟨h.1, fun i hi => wpOp_mono (fun a' w' h' => wpAny_of_late fuel _ a' w' h'.2) (h.2 i hi)⟩
theorem wpAnyL_first {i : Nat} {oi : Oper} {v : Value} {SY : World → Prop} {G : Array Bool → Prop} (hi : ops[i]? = some oi) (hsel : ∀ (j : Nat) (o : Oper) cs b, ops[j]? = some o → o.op ≠ .select cs b)
    (hQ : ∀ c a w, Q (.panic c) (a.put oi.dst v) w → Q (.panic c) a w) (hki : i ≠ k)
    (hG : ∀ l j, G l → i ∈ Region.ready md ops l → j ∈ Region.ready md ops l → j ≠ i → G (l.setIfInBounds j true)) (hSY : ∀ l w, G l → SL k S0 S1 l w → SY w) :
    ∀ (fuel : Nat) (listed : Array Bool) (a : Act) (w : World),
      (∀ j oj, ops[j]? = some oj → j ≠ i → listed.getD j true = false → (∀ e ∈ oj.after, Region.binds md e = true → e.on ≠ i) → oi.apart ops oj = true) →
      i ∈ Region.ready md ops listed → YieldsIf P ops SY oi v a → G listed → SL k S0 S1 listed w →
      wpAnyL P md ops Q k S0 S1 fuel (listed.setIfInBounds i true) (a.put oi.dst v) w → wpAnyL P md ops Q k S0 S1 (fuel + 1) listed a w := by
  intro fuel
  induction fuel with
  | zero =>
    intro listed a w _ hr hy hg hS H
    refine ⟨fun h => (by rw [h] at hr; cases hr), fun j hj => ?_⟩
    by_cases hji : j = i
    · subst hji; exact hy.wpOp hi (hSY _ _ hg hS) ⟨(SL_set hki).2 hS, H⟩
    · have := ready_mono hj hji
      rw [H.1] at this
      cases this
  | succ fuel ih =>
    intro listed a w hfree hr hy hg hS H
    refine ⟨fun h => (by rw [h] at hr; cases hr), fun j hj => ?_⟩
    by_cases hji : j = i
    · subst hji; exact hy.wpOp hi (hSY _ _ hg hS) ⟨(SL_set hki).2 hS, H⟩
    · have h1 := H.2 j (ready_mono hj hji)
      obtain ⟨hjun, oj, hoj, hall⟩ := mem_ready.1 hj
      have hnot : ∀ e ∈ oj.after, Region.binds md e = true → e.on ≠ i := fun e he hb heq => by
        have h1 := hall e he hb
        have h0 := (mem_ready.1 hr).1
        rw [heq] at h1
        rcases Nat.lt_or_ge i listed.size with h' | h'
        · simp [h'] at h0 h1; rw [h0] at h1; cases h1
        · simp [Array.getElem?_eq_none h'] at h1
      have h2 := wpOp_putIf hoj (hfree j oj hoj hji hjun hnot) (fun cs b => hsel i oi cs b hi) (fun cs b => hsel j oj cs b hoj) hQ hy h1
      have hfree' : ∀ k ok, ops[k]? = some ok → k ≠ i → (listed.setIfInBounds j true).getD k true = false →
          (∀ e ∈ ok.after, Region.binds md e = true → e.on ≠ i) → oi.apart ops ok = true := fun k ok hk hki hun hno => by
        refine hfree k ok hk hki ?_ hno
        by_cases hjk : j = k
        · subst hjk; exact hjun
        · rw [getD_set_ne true hjk] at hun; exact hun
      refine wpOp_mono (fun a' w' h3 => ?_) h2
      have hS' : SL k S0 S1 (listed.setIfInBounds j true) w' := by
        have := h3.2.1
        rw [Array.setIfInBounds_comm _ _ (Ne.symm hji)] at this
        exact (SL_set hki).1 this
      refine ⟨hS', ih (listed.setIfInBounds j true) a' w' hfree' (ready_mono hr (Ne.symm hji)) h3.1 (hG _ _ hg hr hj hji) hS' ?_⟩
      rw [Array.setIfInBounds_comm _ _ hji]
      exact h3.2.2
def waitsB (md : Region.Mode) (ops : Array Oper) (k i : Nat) : Bool := match ops[k]? with
  | some ok => ok.after.any fun e => Region.binds md e && e.on == i
  | none => false
theorem wpAnyL_take {i : Nat} {oi : Oper} {v : Value} {fuel : Nat} {listed : Array Bool} {a : Act} {w : World} (hi : ops[i]? = some oi)
    (hs : Region.noSelect ops = true) (hf : Region.free md ops listed i = true) (hr : (Region.ready md ops listed).contains i = true)
    (hQ : ∀ c a w, Q (.panic c) (a.put oi.dst v) w → Q (.panic c) a w) (hy : YieldsIf P ops S0 oi v a) (hS : S0 w) (hS1 : S1 w)
    (hw : (waitsB md ops k i && !(listed.getD k true) && !(i == k)) = true)
    (h : wpAnyL P md ops Q k S0 S1 fuel (listed.setIfInBounds i true) (a.put oi.dst v) w) : wpAnyL P md ops Q k S0 S1 (fuel + 1) listed a w := by
  simp only [Bool.and_eq_true, Bool.not_eq_true', beq_eq_false_iff_ne] at hw
  obtain ⟨⟨hw1, hw2⟩, hw3⟩ := hw
  refine wpAnyL_first (SY := S0) (G := fun l => l.getD k true = false) hi (Region.noSelect_spec hs) hQ hw3 ?_ ?_ fuel listed a w (Region.free_spec hi hf) (by simpa using hr) hy hw2 ⟨hS1, Or.inr hS⟩ h
  · intro l j hg hri hrj hne
    have hjk : j ≠ k := fun e => by
      subst e
      obtain ⟨hun, oj, hoj, hall⟩ := mem_ready.1 hrj
      unfold waitsB at hw1
      rw [hoj] at hw1
      obtain ⟨x, hx, hb⟩ := Array.any_eq_true.1 hw1
      simp only [Bool.and_eq_true, beq_iff_eq] at hb
      have h1 := hall _ (Array.getElem_mem hx) hb.1
      have h0 := (mem_ready.1 hri).1
      rw [hb.2] at h1
      rcases Nat.lt_or_ge i l.size with h' | h'
      · simp [h'] at h0 h1; rw [h0] at h1; cases h1
      · simp [Array.getElem?_eq_none h'] at h1
    rw [getD_set_ne true hjk]; exact hg
  · intro l w hg hS
    rcases hS.2 with hS | hS
    · rcases Nat.lt_or_ge k l.size with h' | h'
      · simp [h'] at hg hS; rw [hg] at hS; cases hS
      · simp [Array.getElem?_eq_none h'] at hS
    · exact hS
theorem wpAnyL_pure {i : Nat} {oi : Oper} {v : Value} {fuel : Nat} {listed : Array Bool} {a : Act} {w : World} (hi : ops[i]? = some oi)
    (hs : Region.noSelect ops = true) (hf : Region.free md ops listed i = true) (hr : (Region.ready md ops listed).contains i = true)
    (hQ : ∀ c a w, Q (.panic c) (a.put oi.dst v) w → Q (.panic c) a w) (hy : YieldsIf P ops S1 oi v a) (hS : SL k S0 S1 listed w) (hik : i ≠ k)
    (h : wpAnyL P md ops Q k S0 S1 fuel (listed.setIfInBounds i true) (a.put oi.dst v) w) : wpAnyL P md ops Q k S0 S1 (fuel + 1) listed a w :=
  wpAnyL_first (SY := S1) (G := fun _ => True) hi (Region.noSelect_spec hs) hQ hik (fun _ _ _ _ _ _ => trivial) (fun _ _ _ h => h.1) fuel listed a w (Region.free_spec hi hf) (by simpa using hr) hy trivial hS h
theorem wpAnyL_one {i : Nat} {o : Oper} {fuel : Nat} {listed : Array Bool} {a : Act} {w : World} (hr : Region.ready md ops listed = [i]) (ho : ops[i]? = some o)
    (h : ∀ K' : Act → World → Prop, Shut (∀ a w, SL k S0 S1 (listed.setIfInBounds i true) w → wpAnyL P md ops Q k S0 S1 fuel (listed.setIfInBounds i true) a w → K' a w) → if Region.wanted o (yielded ops a.tmps) = true then Oper.wp P o a w K' Q else K' (a.put o.dst undef) w) : wpAnyL P md ops Q k S0 S1 (fuel + 1) listed a w := by
  refine ⟨fun h0 => (by rw [hr] at h0; cases h0), fun j hj => ?_⟩
  rw [hr] at hj
  obtain rfl := List.mem_singleton.1 hj
  exact wpOp_step ho (fun K' hK => h K' (fun a w hS hW => hK a w ⟨hS, hW⟩))
theorem wpAnyL_done {listed : Array Bool} {a : Act} {w : World} (hr : Region.ready md ops listed = []) (h : Q .normal a w) : ∀ fuel, wpAnyL P md ops Q k S0 S1 fuel listed a w
  | 0 => ⟨hr, h⟩
  | _ + 1 => ⟨fun _ => h, by rw [hr]; simp⟩
theorem wp_region_late {id : Nat} {a : Act} {w : World} (k : Nat) (hm : P.follows .mixedOrders = true) (hS : S0 w.drew)
    (h : S0 w.drew → wpAnyL P .any ops Q k S0 S1 ops.size (Array.replicate ops.size false) a w.drew) : (Code.region id ops true).wp P Q a w :=
  wp_region_any hm (wpAny_of_late _ _ _ _ (h hS))
end
end Go.Proofs.YtldbmdgpdolaaaaDoor
