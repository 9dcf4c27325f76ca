import Derived.Test.YtldbmdgpdolaaaaDoorPXBrief
import Derived.Test.YtldbmdgpdolaaaaDoorPXSsaBuild
import Derived.Test.YtldbmdgpdolaaaaDoorPXPlaceMeet
namespace Go.Proofs.YtldbmdgpdolaaaaDoor
open Go Go.RowKit

def regT (f : Fn) (xs : List InsD) (rg : List Int) : Nat → List Int
  | 0 => rg
  | j + 1 => if (xs.getD j noIns).id = -1 then regT f xs rg j else (regT f xs rg j).set (insD f (xs.getD j noIns).pc.toNat).dst.toNat (xs.getD j noIns).id
def metT (f : Fn) (L : List Int) (xs : List InsD) (rg : List Int) (M : Nat → List Int) : Nat → (Nat → List Int)
  | 0 => M
  | j + 1 =>
    let M1 := metL2 (metT f L xs rg M j) (ofT (mkL L (xs.getD j noIns).pc.toNat) (regT f xs rg j) 12)
    if (xs.getD j noIns).id = -1 then M1 else metL2 M1 (ofT (mkL L ((xs.getD j noIns).pc.toNat + 1) ||| 2 ^ (insD f (xs.getD j noIns).pc.toNat).dst.toNat) (regT f xs rg (j + 1)) 12)
structure WalkOk (f : Fn) (L : List Int) (n : Nat) (xs : List InsD) (rg : List Int) : Prop where
  rlen : rg.length = 12
  step : ∀ j, j < xs.length → ∃ pc m : Nat, (xs.getD j noIns).pc = (pc : Int) ∧ pc < f.code.length ∧ pc < L.length ∧ L.getD pc 0 = (m : Int) ∧ m < 4096 ∧ (∀ r, r < 12 → m.testBit r = true → 0 ≤ (regT f xs rg j).getD r 0 ∧ (regT f xs rg j).getD r 0 < (n : Int)) ∧
    ((xs.getD j noIns).id ≠ -1 → ∃ d m' : Nat, (insD f pc).dst = (d : Int) ∧ d < 12 ∧ pc + 1 < L.length ∧ L.getD (pc + 1) 0 = (m' : Int) ∧ m' < 4096 ∧ ∀ r, r < 12 → (m' ||| 2 ^ d).testBit r = true → 0 ≤ (regT f xs rg (j + 1)).getD r 0 ∧ (regT f xs rg (j + 1)).getD r 0 < (n : Int))
theorem regT_len (f : Fn) (xs : List InsD) (rg : List Int) : ∀ j, (regT f xs rg j).length = rg.length
  | 0 => rfl
  | j + 1 => by rw [regT]; split <;> simp [regT_len f xs rg j]
set_option maxRecDepth 4000 in
theorem metT_len (f : Fn) (L : List Int) (xs : List InsD) (rg : List Int) (M : Nat → List Int) (s : Nat) : ∀ j, (metT f L xs rg M j s).length ≤ (M s).length + 576 * j
  | 0 => by simp [metT]
  | j + 1 => by
    have h1 := metT_len f L xs rg M s j
    have h2 := metL2_len (metT f L xs rg M j) (ofT_len (mkL L (xs.getD j noIns).pc.toNat) (regT f xs rg j) 12) s
    have h3 := metL2_len (metL2 (metT f L xs rg M j) (ofT (mkL L (xs.getD j noIns).pc.toNat) (regT f xs rg j) 12)) (ofT_len (mkL L ((xs.getD j noIns).pc.toNat + 1) ||| 2 ^ (insD f (xs.getD j noIns).pc.toNat).dst.toNat) (regT f xs rg (j + 1)) 12) s
    rw [show metT f L xs rg M (j + 1) = if (xs.getD j noIns).id = -1 then _ else _ from rfl]
    split <;> omega
theorem MtTo.other {w w' : World} {base g n : Nat} {VV VV' : Nat → Value} {LL : Nat → List Int} (h : MtAt w base g n VV LL) (k : MtTo base w w' g n VV VV') {q t : Nat} {cs : Array Value} (hq : w.heap[q]? = some (.cells cs t (0, 0))) (h1 : t ≠ 3) (h2 : t ≠ 37) : w'.heap[q]? = some (.cells cs t (0, 0)) := by
  rw [k.rest q (lt_of_block hq) (fun e => ?_) (fun s hs e => h1 (own_type (h.sl.own s hs) e hq)), hq]
  subst e
  rcases h.row.2 with ⟨e, -⟩ | ⟨q', cap, cur, e, -, hh, -⟩
  · cases e
  · simp at e
    obtain ⟨rfl, rfl⟩ := e
    rw [hq] at hh
    cases hh
    exact h2 rfl
theorem MtTo.setNew {w w' : World} {base g n : Nat} {VV VV' : Nat → Value} (h : MtTo base w w' g n VV VV') {q : Nat} (hq : w.heap.size ≤ q) (hb : base ≤ q) (i : Nat) (u : Value) : MtTo base w (w'.setCell ⟨q, i, none⟩ u) g n VV VV' :=
  ⟨h.bel.setCell hb u, fun k hk hg hv => by rw [Below.heap_setCell _ _ _ _ (by show k ≠ q; omega)]; exact h.rest k hk hg hv, h.own⟩
theorem MtAt.setOther {w : World} {base g n : Nat} {VV : Nat → Value} {LL : Nat → List Int} (h : MtAt w base g n VV LL) {q t : Nat} {cs : Array Value} (hq : w.heap[q]? = some (.cells cs t (0, 0))) (h1 : t ≠ 3) (h2 : t ≠ 37) (i : Nat) (u : Value) : MtAt (w.setCell ⟨q, i, none⟩ u) base g n VV LL := by
  have hgq : q ≠ g := fun e => by
    subst e
    rcases h.row.2 with ⟨e, -⟩ | ⟨q', cap, cur, e, -, hh, -⟩
    · cases e
    · simp at e
      obtain ⟨rfl, rfl⟩ := e
      rw [hq] at hh
      cases hh
      exact h2 rfl
  have hgc := gb_setCellM w q i u
  refine ⟨World.ownsRow.kept h.row hgc (Or.inr (by show some g ≠ some q; exact fun e => hgq (Option.some.inj e).symm)), h.sl.keptN hgc fun s hs k e e' => ?_⟩
  cases e'
  exact h1 (own_type (h.sl.own s hs) e hq)
theorem or_shlP (m p : Nat) (hm : m < 4096) (hp : p < 12) : bits .or .i64 (m : Int) (IntKind.i64.wrap ((2 : Int) ^ p)) = ((m ||| 2 ^ p : Nat) : Int) := by
  have h2 := two_lt p hp
  have e : (2 : Int) ^ p = ((2 ^ p : Nat) : Int) := by simp
  rw [e]
  generalize 2 ^ p = q at h2 ⊢
  rw [wrap_fits _ (by omega) (by omega)]
  exact bits_or_nat m q (by omega) (by omega)
set_option maxRecDepth 100000 in
set_option maxHeartbeats 4000000 in
theorem walkP_any (base g n : Nat) (VV : Nat → Value) (LL : Nat → List Int) (f : Fn) (L : List Int) (xs : List InsD) (rg : List Int) (bk : Int) (vp vi cv lv : Value) (w : World) (hm : MtAt w base g n VV LL)
    (hxs : ∃ (ao : Option Addr) (q c : Nat), vi = .slice ao xs.length c ∧ xs.length ≤ c ∧ (0 < xs.length → ao = some ⟨q, 0, none⟩) ∧ ∀ W, Below base w W → ∀ j (hj : j < xs.length), W.rangeAt q (j * 6) (inC xs[j]))
    (hcv : ∃ cb co cc, cv = .slice (some ⟨cb, co, none⟩) f.code.length cc ∧ ∀ W, Below base w W → ∀ q, q < f.code.length → W.cell? ⟨cb, co + q * 5 + 1, none⟩ = some (.int .i64 (insD f q).dst))
    (hlv : ∃ lb lo lc, lv = .slice (some ⟨lb, lo, none⟩) L.length lc ∧ ∀ W, Below base w W → ∀ q, q < L.length → W.cell? ⟨lb, lo + q, none⟩ = some (.int .i64 (L.getD q 0)))
    (hok : WalkOk f L n xs rg) (hn : n ≤ 3000) (hx1 : xs.length ≤ 100) (hl1 : f.code.length ≤ 1000) (_hl2 : L.length ≤ 1000) (hLL : ∀ s, s < n → (LL s).length ≤ 1900000) :
    Calls Tryd.prog 24 #[.slice (some ⟨g, 0, none⟩) n n, .agg (partC bk vp vi rg).toArray, cv, lv] w fun e w' => e = .returned (.tuple #[]) ∧ ∃ VV', MtAt w' base g n VV' (metT f L xs rg LL xs.length) ∧ MtTo base w w' g n VV VV' := by
  obtain ⟨aox, qx, cx, rfl, hcx, hax, hxc⟩ := hxs
  obtain ⟨cb, co, cc, rfl, hcc⟩ := hcv
  obtain ⟨lb, lo, lc, rfl, hlc⟩ := hlv
  have HM : Hid (MtAt w base g n VV LL) := hm
  have HXC : Hid (∀ W, Below base w W → ∀ j (hj : j < xs.length), W.rangeAt qx (j * 6) (inC xs[j])) := hxc
  have HCC : Hid (∀ W, Below base w W → ∀ q, q < f.code.length → W.cell? ⟨cb, co + q * 5 + 1, none⟩ = some (.int .i64 (insD f q).dst)) := hcc
  have HLC : Hid (∀ W, Below base w W → ∀ q, q < L.length → W.cell? ⟨lb, lo + q, none⟩ = some (.int .i64 (L.getD q 0))) := hlc
  have HOK : Hid (WalkOk f L n xs rg) := hok
  have HRL : Hid (∀ j, (regT f xs rg j).length = 12) := fun j => by rw [regT_len]; exact hok.rlen
  have HLN : Hid (∀ j, j ≤ xs.length → ∀ s, s < n → (metT f L xs rg LL j s).length ≤ 1960000) := fun j hj s hs => by
    have h1 := metT_len f L xs rg LL s j
    have h2 := hLL s hs
    show _ ≤ _
    omega
  have HAX : Hid (0 < xs.length → aox = some ⟨qx, 0, none⟩) := hax
  have hbw := hm.at
  have i12 : (Tryd.prog.info? 72).map (·.size) = some (i64s rg).toArray.size := by rw [List.size_toArray]; simp only [i64s, List.length_map, hok.rlen]; exact infoR12P
  have i12l : (Tryd.prog.info? 72).map (·.size) = some (i64s rg).length := by simp only [i64s, List.length_map, hok.rlen]; exact infoR12P
  have o12 := oneI64 rg
  have hlz : zero12.toArray.size = (i64s rg).toArray.size := by simp [zero12, i64s, hok.rlen]
  have HP0 : Hid (∀ j u, (i64s rg)[j]? = some u → (w.alloc (.cells (partC bk vp (.slice aox xs.length cx) rg).toArray 74)).cell? ⟨w.heap.size, 3 + j, none⟩ = some u) := fun j u hu => by
    rw [cell_of_row _ _ _ _ _ _ (heap_alloc_last w _)]
    simp only [List.getElem?_toArray, partC]
    rw [List.getElem?_append_right (by simp)]
    simpa using hu
  have hP2 : (w.alloc (.cells (partC bk vp (.slice aox xs.length cx) rg).toArray 74)).cell? ⟨w.heap.size, 2, none⟩ = some (.slice aox xs.length cx) := by
    rw [cell_of_row _ _ _ _ _ _ (heap_alloc_last w _)]; rfl
  have HB0 : Hid (Below w.heap.size w (w.alloc (.cells (partC bk vp (.slice aox xs.length cx) rg).toArray 74))) := (Below.refl _ _).alloc (Nat.le_refl _) _
  have hsz0 : w.heap.size < (w.alloc (.cells (partC bk vp (.slice aox xs.length cx) rg).toArray 74)).heap.size := by simp
  clear hm hxc hcc hlc hok hLL hax
  generalize (partC bk vp (.slice aox xs.length cx) rg).toArray = PC at *
  go_enter Tryd.func24, Tryd.ntmps24
  go_upto_region 1 with fail
  generalize hW0 : (w.alloc (.cells PC 74)) = W0 at *
  clear hW0
  have HP1 := fun j u h => HP0.out j u h
  have hz1 : (W0.alloc (.cells zero12.toArray 72)).heap[W0.heap.size]? = some (.cells zero12.toArray 72 (0, 0)) := heap_alloc_last W0 _
  go_upto_region 2 with (first
    | (refine wpList_load_mid rfl 72 (.tmp 12) rfl w.heap.size 3 rfl (i64s rg) _ HP1 Tryd.underlying72 rfl i12l ?_)
    | (refine wpList_store_row rfl 72 _ _ rfl _ (i64s rg).toArray rfl rfl _ _ hz1 i12 hlz o12 ?_; rw [World.setRow_alloc_new]))
  have HR0 : Hid ((W0.alloc (.cells (i64s rg).toArray 72)).heap[W0.heap.size]? = some (.cells (i64s rg).toArray 72 (0, 0))) := heap_alloc_last W0 _
  have HB1 : Hid (Below w.heap.size w (W0.alloc (.cells (i64s rg).toArray 72))) := Below.alloc HB0.out (by omega) _
  have k2 : (W0.alloc (.cells (i64s rg).toArray 72)).cell? ⟨w.heap.size, 2, none⟩ = some (.slice aox xs.length cx) := cell_alloc hP2 _
  clear hz1 i12 i12l o12 hlz HP1 HP0 hP2
  generalize (W0.alloc (.cells (i64s rg).toArray 72)) = W1 at *
  have HRBW : Hid (w.heap.size ≤ W0.heap.size) := by show _ ≤ _; omega
  clear hsz0
  generalize W0.heap.size = RB at *
  have HM1 : Hid (MtAt W1 base g n VV LL) := HM.out.below HB1.out
  have HT1 : Hid (MtTo base w W1 g n VV VV) := MtTo.below g n VV HB1.out (by omega)
  go_upto_region 3 with fail
  clear k2
  go_loopw [17] (fun i wr => ∃ (j : Nat) (V' : Nat → Value), j ≤ xs.length ∧ i = .int .i64 j ∧ MtAt wr base g n V' (metT f L xs rg LL j) ∧ MtTo base w wr g n VV V' ∧ wr.heap[RB]? = some (.cells (i64s (regT f xs rg j)).toArray 72 (0, 0))) (fun i _ => xs.length - (intOf i).toNat)
  case atStart => exact ⟨0, VV, Nat.zero_le _, rfl, HM1.out, HT1.out, HR0.out⟩
  case round =>
    clear HM1 HT1 HR0 HB1 HB0
    obtain ⟨j, V', hj, rfl, hmt, hto, hrr⟩ := hrel
    by_cases hlt : j < xs.length
    · obtain ⟨rfl⟩ : aox = some ⟨qx, 0, none⟩ := HAX.out (by omega)
      have hjx : j < xs.length := hlt
      have HRG := HXC.out wr hto.bel j hjx
      obtain ⟨pc, m, hpc, hpl, hpL, hm, hm4, hrm, hset⟩ := HOK.out.step j hjx
      have exj : xs.getD j noIns = xs[j] := by simp [List.getD, hjx]
      have HRS : Hid (regT f xs rg (j + 1) = if (xs.getD j noIns).id = -1 then regT f xs rg j else (regT f xs rg j).set (insD f (xs.getD j noIns).pc.toNat).dst.toNat (xs.getD j noIns).id) := rfl
      have HMS : Hid (metT f L xs rg LL (j + 1) = if (xs.getD j noIns).id = -1 then metL2 (metT f L xs rg LL j) (ofT (mkL L (xs.getD j noIns).pc.toNat) (regT f xs rg j) 12) else metL2 (metL2 (metT f L xs rg LL j) (ofT (mkL L (xs.getD j noIns).pc.toNat) (regT f xs rg j) 12)) (ofT (mkL L ((xs.getD j noIns).pc.toNat + 1) ||| 2 ^ (insD f (xs.getD j noIns).pc.toNat).dst.toNat) (regT f xs rg (j + 1)) 12)) := rfl
      have hmk : mkL L pc = m := by unfold mkL; rw [hm]; rfl
      have cL0 := HLC.out wr hto.bel pc hpL
      have cD0 := HCC.out wr hto.bel pc hpl
      rw [hm] at cL0
      rw [exj] at hpc hset HRS HMS
      have HX : Hid (xs[j] = xs[j]) := rfl
      generalize xs[j] = x at *
      obtain ⟨xo, xid, xa, xb, xi, xp⟩ := x
      unfold inC at HRG
      dsimp only at HRG hpc hset HRS HMS
      subst hpc
      rw [Int.toNat_natCast] at HRS HMS
      have HMO : Hid (MtAt wr base g n V' (metT f L xs rg LL j)) := hmt
      have HTO : Hid (MtTo base w wr g n VV V') := hto
      have HLJ : Hid (∀ s, s < n → (metT f L xs rg LL j s).length ≤ 1960000) := HLN.out j hj
      have hq12 := HRL.out j
      have HRR : Hid (wr.heap[RB]? = some (.cells (i64s (regT f xs rg j)).toArray 72 (0, 0))) := hrr
      have hjI : (j : Int) < (xs.length : Int) := by omega
      have hjN : ¬ (j : Int) < 0 := by omega
      have hpcI : (pc : Int) < (L.length : Int) := by omega
      have hpcN : ¬ (pc : Int) < 0 := by omega
      have hpcC : (pc : Int) < (f.code.length : Int) := by omega
      have HSET : Hid (xid ≠ -1 → ∃ d m' : Nat, (insD f pc).dst = (d : Int) ∧ d < 12 ∧ pc + 1 < L.length ∧ L.getD (pc + 1) 0 = (m' : Int) ∧ m' < 4096 ∧ ∀ r, r < 12 → (m' ||| 2 ^ d).testBit r = true → 0 ≤ (regT f xs rg (j + 1)).getD r 0 ∧ (regT f xs rg (j + 1)).getD r 0 < (n : Int)) := hset
      have HRM : Hid (∀ r, r < 12 → m.testBit r = true → 0 ≤ (regT f xs rg j).getD r 0 ∧ (regT f xs rg j).getD r 0 < (n : Int)) := hrm
      rw [hmk] at HMS
      clear hmt hto hrr hset hrm exj hmk hm HX
      generalize hLQ : regT f xs rg j = lq at *
      generalize hMQ : metT f L xs rg LL j = mq at *
      clear hLQ hMQ
      go_upto_region 5 with (refine wpList_load_mid rfl 90 _ rfl qx (j * 6) rfl _ _ HRG Tryd.underlying90 rfl infoInsG ?_)
      have rX : (wr.alloc (.cells #[.int .i64 xo, .int .i64 xid, .int .i64 xa, .int .i64 xb, .int .i64 xi, .int .i64 (pc : Int)] 90)).heap[wr.heap.size]? = some (.cells #[.int .i64 xo, .int .i64 xid, .int .i64 xa, .int .i64 xb, .int .i64 xi, .int .i64 (pc : Int)] 90 (0, 0)) := heap_alloc_last wr _
      have rR : (wr.alloc (.cells #[.int .i64 xo, .int .i64 xid, .int .i64 xa, .int .i64 xb, .int .i64 xi, .int .i64 (pc : Int)] 90)).heap[RB]? = some (.cells (i64s lq).toArray 72 (0, 0)) := (heap_alloc_old _ _ (lt_of_block HRR.out)).trans HRR.out
      have cL : (wr.alloc (.cells #[.int .i64 xo, .int .i64 xid, .int .i64 xa, .int .i64 xb, .int .i64 xi, .int .i64 (pc : Int)] 90)).cell? ⟨lb, lo + pc, none⟩ = some (.int .i64 (m : Int)) := cell_alloc cL0 _
      have HB5 : Hid (Below wr.heap.size wr (wr.alloc (.cells #[.int .i64 xo, .int .i64 xid, .int .i64 xa, .int .i64 xb, .int .i64 xi, .int .i64 (pc : Int)] 90))) := (Below.refl _ _).alloc (Nat.le_refl _) _
      clear HRG cL0 cD0
      generalize (wr.alloc (.cells #[.int .i64 xo, .int .i64 xid, .int .i64 xa, .int .i64 xb, .int .i64 xi, .int .i64 (pc : Int)] 90)) = V5 at *
      have HM5 : Hid (MtAt V5 base g n V' mq) := HMO.out.below HB5.out
      have HT5 : Hid (MtTo base w V5 g n VV V') := HTO.out.trans (MtTo.below g n V' HB5.out (by have h1 := HMO.out.at; omega))
      have HXR : Hid (RB < wr.heap.size) := lt_of_block HRR.out
      clear HMO HTO HRR HB5
      generalize wr.heap.size = XB at *
      have x5 : V5.cell? ⟨XB, 5, none⟩ = some (.int .i64 (pc : Int)) := by rw [cell_of_row _ _ _ _ _ _ rX]; rfl
      have HRX : Hid (V5.heap[XB]? = some (.cells #[.int .i64 xo, .int .i64 xid, .int .i64 xa, .int .i64 xb, .int .i64 xi, .int .i64 (pc : Int)] 90 (0, 0))) := rX
      have HOF : Hid (∀ W, Calls Tryd.prog 41 #[.agg (i64s lq).toArray, .int .i64 m] W fun e w' => ∃ v, e = .returned v ∧ OwnI w' W.heap.size v (ofT m lq 12) ∧ Below W.heap.size W w') := fun W => of_any lq hq12 m hm4 W
      have HRNG : Hid (∀ z ∈ ofT m lq 12, 0 ≤ z ∧ z < (n : Int)) := fun z hz => by
        obtain ⟨r, hr, hb, rfl⟩ := ofT_mem.1 hz
        exact HRM.out r hr hb
      have i12 : (Tryd.prog.info? 72).map (·.size) = some (i64s lq).length := by simp only [i64s, List.length_map, hq12]; exact infoR12P
      have HMEET : Hid (∀ W vo, Below V5.heap.size V5 W → OwnI W V5.heap.size vo (ofT m lq 12) → Calls Tryd.prog 40 #[.slice (some ⟨g, 0, none⟩) n n, vo] W fun e w' => e = .returned (.tuple #[]) ∧ ∃ VV', MtAt w' base g n VV' (metL2 mq (ofT m lq 12)) ∧ MtTo base W w' g n V' VV') := fun W vo hb ho =>
        meet_any base g n V5.heap.size V' mq (ofT m lq 12) vo W (HM5.out.below hb) (ofT_len m lq 12) HRNG.out ho HM5.out.at.2 (fun s hs q e => ((HM5.out.sl.own s hs).lt q e).2) hn (fun s hs => by have := HLJ.out s hs; omega)
      have HT5B : Hid (∀ W, Below V5.heap.size V5 W → MtTo base w W g n VV V') := fun W hb => HT5.out.trans (MtTo.below g n V' hb (by have h1 := HM5.out.at; omega))
      have HKX : Hid (∀ W w7 V7, Below V5.heap.size V5 W → MtTo base W w7 g n V' V7 → w7.heap[XB]? = some (.cells #[.int .i64 xo, .int .i64 xid, .int .i64 xa, .int .i64 xb, .int .i64 xi, .int .i64 (pc : Int)] 90 (0, 0)) ∧ w7.heap[RB]? = some (.cells (i64s lq).toArray 72 (0, 0))) := fun W w7 V7 hb ht =>
        ⟨MtTo.other (HM5.out.below hb) ht ((hb.block _ (lt_of_block HRX.out)).trans HRX.out) (by decide) (by decide), MtTo.other (HM5.out.below hb) ht ((hb.block _ (lt_of_block rR)).trans rR) (by decide) (by decide)⟩
      obtain ⟨RL, hRL⟩ : ∃ RL, RL = i64s lq := ⟨_, rfl⟩
      have HRQ : Hid (RL = i64s lq) := hRL
      rw [← hRL] at rR i12 HOF HKX
      clear hRL rX hq12 HM5
      refine wp_region_last (S := fun W => Below V5.heap.size V5 W) _ 8 (by kernel_rfl) (by kernel_rfl) rfl ((Below.refl _ _).drew) (fun hHeld => ?_)
      simp only [List.pop_toArray, List.dropLast]
      refine wpAnyH_take (i := 0) (v := ?_) rfl (by kernel_rfl) (by kernel_rfl) (by kernel_rfl) (fun _ _ _ h => h) (Or.inl ⟨by rfl, ?_⟩) (by assumption) ?_
      rotate_left
      · (intro W hSW; go_simp; try (with_reducible rfl))
      (try simp only [zB])
      (try simp only [zA])
      refine wpAnyH_take (i := 1) (v := .agg RL.toArray) rfl (by kernel_rfl) (by kernel_rfl) (by kernel_rfl) (fun _ _ _ h => h) (yieldsIf_load_mid (by rfl) 72 _ rfl _ 0 rfl RL _ (fun W hSW j u hu => by rw [cell_of_row _ _ _ _ _ _ ((hSW.block _ (lt_of_block rR)).trans rR)]; simpa using hu) Tryd.underlying72 rfl i12) (by assumption) ?_
      (try simp only [zB])
      (try simp only [zA])
      refine wpAnyH_take (i := 2) (v := ?_) rfl (by kernel_rfl) (by kernel_rfl) (by kernel_rfl) (fun _ _ _ h => h) (Or.inl ⟨by rfl, ?_⟩) (by assumption) ?_
      rotate_left
      · (intro W hSW; go_simp; try (with_reducible rfl))
      (try simp only [zB])
      (try simp only [zA])
      refine wpAnyH_take (i := 3) (v := ?_) rfl (by kernel_rfl) (by kernel_rfl) (by kernel_rfl) (fun _ _ _ h => h) (Or.inl ⟨by rfl, ?_⟩) (by assumption) ?_
      rotate_left
      · (intro W hSW; go_simp; try (with_reducible rfl))
      (try simp only [zB])
      (try simp only [zA])
      refine wpAnyH_take (i := 4) (v := ?_) rfl (by kernel_rfl) (by kernel_rfl) (by kernel_rfl) (fun _ _ _ h => h) (Or.inl ⟨by rfl, ?_⟩) (by assumption) ?_
      rotate_left
      · (intro W hSW; have z0 := keeps_below hSW _ _ x5; go_simp; try (with_reducible rfl))
      (try simp only [zB])
      (try simp only [zA])
      refine wpAnyH_take (i := 5) (v := ?_) rfl (by kernel_rfl) (by kernel_rfl) (by kernel_rfl) (fun _ _ _ h => h) (Or.inl ⟨by rfl, ?_⟩) (by assumption) ?_
      rotate_left
      · (intro W hSW; go_simp; try (with_reducible rfl))
      (try simp only [zB])
      (try simp only [zA])
      refine wpAnyH_take (i := 6) (v := ?_) rfl (by kernel_rfl) (by kernel_rfl) (by kernel_rfl) (fun _ _ _ h => h) (Or.inl ⟨by rfl, ?_⟩) (by assumption) ?_
      rotate_left
      · (intro W hSW; have z0 := keeps_below hSW _ _ cL; go_simp; try (with_reducible rfl))
      (try simp only [zB])
      (try simp only [zA])
      refine wpAnyH_ready (rs := [7]) (by kernel_rfl) (by simp) ?_
      refine AllReadyH.cons rfl (fun K hK => ?_) AllReadyH.nil
      go_simp
      go_at_call 41
      refine (HOF.out _).mono ?_
      rintro e w6 ⟨vo, rfl, hoo, hbc⟩
      have HBw6 : Below V5.heap.size V5 w6 := Below.trans hHeld (Below.mono hbc (Below.size hHeld))
      dsimp only
      refine hK.out _ _ HBw6 (fun _ => ?_)
      clear hK K hbc
      (try simp only [zA])
      refine wpAnyH_done (by kernel_rfl) ?_ _
      refine Or.inl ?_
      go_simp
      go_at_call 40
      refine (HMEET.out _ _ HBw6 hoo).mono ?_
      rintro e w7 ⟨rfl, V7, hm7, ht7⟩
      obtain ⟨rX7, rR7⟩ := HKX.out _ _ _ HBw6 ht7
      dsimp only
      go_upto_region 6 with fail
      have x1 : w7.cell? ⟨XB, 1, none⟩ = some (.int .i64 xid) := by rw [cell_of_row _ _ _ _ _ _ rX7]; rfl
      have HT7 : Hid (MtTo base w w7 g n VV V7) := (HT5B.out _ HBw6).trans ht7
      have HM7 : Hid (MtAt w7 base g n V7 (metL2 mq (ofT m lq 12))) := hm7
      clear hm7 ht7 hoo HKX HMEET HT5B HOF HRNG HBw6 HRX HT5 x5 cL rR i12
      by_cases hid : xid = -1
      · subst hid
        have HRS1 : Hid (i64s (regT f xs rg (j + 1)) = RL) := by show _ = _; rw [HRS.out, if_pos rfl, HRQ.out]
        clear rX7
        go_wp2
        go_roundw
        case rel => exact ⟨j + 1, V7, by omega, by go_num, by rw [HMS.out, if_pos rfl]; exact HM7.out, HT7.out, by rw [HRS1.out]; exact rR7⟩
        case measure => simp [intOf]; omega
      · obtain ⟨d, m2, hd, hd12, hpL2, hm2, hm24, hr2⟩ := HSET.out hid
        have hid1 : (xid == -1) = false := beq_eq_false_iff_ne.2 hid
        have hid2 : decide (xid = -1) = false := decide_eq_false hid
        have cD := HCC.out w7 HT7.out.bel pc hpl
        rw [hd] at cD
        have HRS1 : Hid (regT f xs rg (j + 1) = lq.set d xid) := by show _ = _; rw [HRS.out, if_neg hid, hd, Int.toNat_natCast]
        rw [HRS1.out] at hr2
        obtain ⟨p1, hp1⟩ : ∃ p1, p1 = pc + 1 := ⟨_, rfl⟩
        obtain ⟨mo, hmo⟩ : ∃ mo, mo = m2 ||| 2 ^ d := ⟨_, rfl⟩
        have hmo4 : mo < 4096 := by rw [hmo]; exact Nat.or_lt_two_pow (n := 12) hm24 (Nat.pow_lt_pow_right (by decide) hd12)
        have HMS1 : Hid (metT f L xs rg LL (j + 1) = metL2 (metL2 mq (ofT m lq 12)) (ofT mo (lq.set d xid) 12)) := by
          show _ = _
          rw [HMS.out, if_neg hid, HRS1.out, hd, Int.toNat_natCast]
          have : mkL L (pc + 1) = m2 := by unfold mkL; rw [hm2]; rfl
          rw [this, hmo]
        have HOR : bits .or .i64 (m2 : Int) (IntKind.i64.wrap ((2 : Int) ^ d)) = (mo : Int) := by rw [hmo]; exact or_shlP m2 d hm24 hd12
        have hwp : IntKind.i64.wrap ((pc : Int) + 1) = (p1 : Int) := by rw [show (pc : Int) + 1 = (p1 : Int) by omega]; exact wrap_fits _ (by omega) (by omega)
        have cP := HLC.out w7 HT7.out.bel (pc + 1) hpL2
        rw [hm2, ← hp1] at cP
        rw [← hmo] at hr2
        have HR2 : Hid (∀ r, r < 12 → mo.testBit r = true → 0 ≤ (lq.set d xid).getD r 0 ∧ (lq.set d xid).getD r 0 < (n : Int)) := hr2
        have hq12 : (lq.set d xid).length = 12 := by rw [← HRS1.out]; exact HRL.out (j + 1)
        have hdI : (d : Int) < 12 := by omega
        have hdN : ¬ (d : Int) < 0 := by omega
        have hd64 : (d : Int) < 64 := by omega
        have hp1I : (p1 : Int) < (L.length : Int) := by omega
        have hp1N : ¬ (p1 : Int) < 0 := by omega
        have hdl : d < RL.length := by rw [HRQ.out]; simp [i64s]; have : lq.length = 12 := by rw [List.length_set] at hq12; exact hq12
                                       omega
        obtain ⟨yd, cR⟩ : ∃ y, w7.cell? ⟨RB, d, none⟩ = some y := ⟨RL[d], by rw [cell_of_row _ _ _ _ _ _ rR7]; simp [hdl]⟩
        have fR : w7.frozen? ⟨RB, d, none⟩ = false := frozen_of_row _ _ _ _ _ rR7
        have HRB2 : Hid (w.heap.size ≤ RB ∧ base ≤ RB) := ⟨HRBW.out, by have := HRBW.out; omega⟩
        have HM8 : Hid (MtAt (w7.setCell ⟨RB, d, none⟩ (.int .i64 xid)) base g n V7 (metL2 mq (ofT m lq 12))) := MtAt.setOther HM7.out rR7 (by decide) (by decide) d _
        have HT8 : Hid (MtTo base w (w7.setCell ⟨RB, d, none⟩ (.int .i64 xid)) g n VV V7) := MtTo.setNew HT7.out HRB2.out.1 HRB2.out.2 d _
        have rX8 : (w7.setCell ⟨RB, d, none⟩ (.int .i64 xid)).heap[XB]? = some (.cells #[.int .i64 xo, .int .i64 xid, .int .i64 xa, .int .i64 xb, .int .i64 xi, .int .i64 (pc : Int)] 90 (0, 0)) := (heap_setCell_other _ _ _ _ (by simpa using (Nat.ne_of_gt HXR.out))).trans rX7
        have rR8 : (w7.setCell ⟨RB, d, none⟩ (.int .i64 xid)).heap[RB]? = some (.cells (i64s (lq.set d xid)).toArray 72 (0, 0)) := by
          rw [heap_setCell_same _ _ _ _ _ _ rR7, List.setIfInBounds_toArray, HRQ.out, i64s_set]
        have cP8 : (w7.setCell ⟨RB, d, none⟩ (.int .i64 xid)).cell? ⟨lb, lo + p1, none⟩ = some (.int .i64 (m2 : Int)) := by
          have := HLC.out _ HT8.out.bel (pc + 1) hpL2
          rw [hm2, ← hp1] at this; exact this
        have x57 : w7.cell? ⟨XB, 5, none⟩ = some (.int .i64 (pc : Int)) := by rw [cell_of_row _ _ _ _ _ _ rX7]; rfl
        have x18 : (w7.setCell ⟨RB, d, none⟩ (.int .i64 xid)).cell? ⟨XB, 1, none⟩ = some (.int .i64 xid) := by rw [cell_of_row _ _ _ _ _ _ rX8]; rfl
        have HRS2 : Hid (regT f xs rg (j + 1) = lq.set d xid) := HRS1.out
        clear hr2 hm2 hd hmo hp1 cP HRS HMS HSET HRS1 HT7 HM7
        go_upto_region 9 with fail
        clear cD cR fR rX7 rR7 x1 x18 x57
        generalize (w7.setCell ⟨RB, d, none⟩ (.int .i64 xid)) = V9 at *
        have x59 : V9.cell? ⟨XB, 5, none⟩ = some (.int .i64 (pc : Int)) := by rw [cell_of_row _ _ _ _ _ _ rX8]; rfl
        clear rX8
        have HOF : Hid (∀ W, Calls Tryd.prog 41 #[.agg (i64s (lq.set d xid)).toArray, .int .i64 mo] W fun e w' => ∃ v, e = .returned v ∧ OwnI w' W.heap.size v (ofT mo (lq.set d xid) 12) ∧ Below W.heap.size W w') := fun W => of_any (lq.set d xid) hq12 mo hmo4 W
        have HRNG : Hid (∀ z ∈ ofT mo (lq.set d xid) 12, 0 ≤ z ∧ z < (n : Int)) := fun z hz => by
          obtain ⟨r, hr, hb, rfl⟩ := ofT_mem.1 hz
          exact HR2.out r hr hb
        have i12 : (Tryd.prog.info? 72).map (·.size) = some (i64s (lq.set d xid)).length := by simp only [i64s, List.length_map, hq12]; exact infoR12P
        have HMEET : Hid (∀ W vo, Below V9.heap.size V9 W → OwnI W V9.heap.size vo (ofT mo (lq.set d xid) 12) → Calls Tryd.prog 40 #[.slice (some ⟨g, 0, none⟩) n n, vo] W fun e w' => e = .returned (.tuple #[]) ∧ ∃ VV', MtAt w' base g n VV' (metL2 (metL2 mq (ofT m lq 12)) (ofT mo (lq.set d xid) 12)) ∧ MtTo base W w' g n V7 VV') := fun W vo hb ho =>
          meet_any base g n V9.heap.size V7 (metL2 mq (ofT m lq 12)) (ofT mo (lq.set d xid) 12) vo W (HM8.out.below hb) (ofT_len mo _ 12) HRNG.out ho HM8.out.at.2 (fun s hs q e => ((HM8.out.sl.own s hs).lt q e).2) hn (fun s hs => by have h1 := HLJ.out s hs; have h2 := metL2_len mq (ofT_len m lq 12) s; omega)
        have HT8B : Hid (∀ W, Below V9.heap.size V9 W → MtTo base w W g n VV V7) := fun W hb => HT8.out.trans (MtTo.below g n V7 hb (by have h1 := HM8.out.at; omega))
        have HKX : Hid (∀ W w7 V7', Below V9.heap.size V9 W → MtTo base W w7 g n V7 V7' → w7.heap[RB]? = some (.cells (i64s (lq.set d xid)).toArray 72 (0, 0))) := fun W w7 V7' hb ht =>
          MtTo.other (HM8.out.below hb) ht ((hb.block _ (lt_of_block rR8)).trans rR8) (by decide) (by decide)
        obtain ⟨RL2, hRL2⟩ : ∃ RL2, RL2 = i64s (lq.set d xid) := ⟨_, rfl⟩
        have HRQ2 : Hid (RL2 = i64s (lq.set d xid)) := hRL2
        have HRS3 : Hid (i64s (regT f xs rg (j + 1)) = RL2) := by show _ = _; rw [HRS2.out, hRL2]
        rw [← hRL2] at rR8 i12 HOF HKX
        clear hRL2 hq12 HM8 HRS2
        refine wp_region_last (S := fun W => Below V9.heap.size V9 W) _ 12 (by kernel_rfl) (by kernel_rfl) rfl ((Below.refl _ _).drew) (fun hHeld => ?_)
        simp only [List.pop_toArray, List.dropLast]
        refine wpAnyH_take (i := 0) (v := ?_) rfl (by kernel_rfl) (by kernel_rfl) (by kernel_rfl) (fun _ _ _ h => h) (Or.inl ⟨by rfl, ?_⟩) (by assumption) ?_
        rotate_left
        · (intro W hSW; go_simp; try (with_reducible rfl))
        (try simp only [zB])
        (try simp only [zA])
        refine wpAnyH_take (i := 1) (v := .agg RL2.toArray) rfl (by kernel_rfl) (by kernel_rfl) (by kernel_rfl) (fun _ _ _ h => h) (yieldsIf_load_mid (by rfl) 72 _ rfl _ 0 rfl RL2 _ (fun W hSW j u hu => by rw [cell_of_row _ _ _ _ _ _ ((hSW.block _ (lt_of_block rR8)).trans rR8)]; simpa using hu) Tryd.underlying72 rfl i12) (by assumption) ?_
        (try simp only [zB])
        (try simp only [zA])
        refine wpAnyH_take (i := 2) (v := ?_) rfl (by kernel_rfl) (by kernel_rfl) (by kernel_rfl) (fun _ _ _ h => h) (Or.inl ⟨by rfl, ?_⟩) (by assumption) ?_
        rotate_left
        · (intro W hSW; go_simp; try (with_reducible rfl))
        (try simp only [zB])
        (try simp only [zA])
        refine wpAnyH_take (i := 3) (v := ?_) rfl (by kernel_rfl) (by kernel_rfl) (by kernel_rfl) (fun _ _ _ h => h) (Or.inl ⟨by rfl, ?_⟩) (by assumption) ?_
        rotate_left
        · (intro W hSW; go_simp; try (with_reducible rfl))
        (try simp only [zB])
        (try simp only [zA])
        refine wpAnyH_take (i := 4) (v := ?_) rfl (by kernel_rfl) (by kernel_rfl) (by kernel_rfl) (fun _ _ _ h => h) (Or.inl ⟨by rfl, ?_⟩) (by assumption) ?_
        rotate_left
        · (intro W hSW; have z0 := keeps_below hSW _ _ x59; go_simp; try (with_reducible rfl))
        (try simp only [zB])
        (try simp only [zA])
        refine wpAnyH_take (i := 5) (v := ?_) rfl (by kernel_rfl) (by kernel_rfl) (by kernel_rfl) (fun _ _ _ h => h) (Or.inl ⟨by rfl, ?_⟩) (by assumption) ?_
        rotate_left
        · (intro W hSW; go_simp; try (with_reducible rfl))
        (try simp only [zB])
        (try simp only [zA])
        refine wpAnyH_take (i := 6) (v := ?_) rfl (by kernel_rfl) (by kernel_rfl) (by kernel_rfl) (fun _ _ _ h => h) (Or.inl ⟨by rfl, ?_⟩) (by assumption) ?_
        rotate_left
        · (intro W hSW; go_simp; try (with_reducible rfl))
        (try simp only [zB])
        (try simp only [zA])
        refine wpAnyH_take (i := 7) (v := ?_) rfl (by kernel_rfl) (by kernel_rfl) (by kernel_rfl) (fun _ _ _ h => h) (Or.inl ⟨by rfl, ?_⟩) (by assumption) ?_
        rotate_left
        · (intro W hSW; have z0 := keeps_below hSW _ _ cP8; go_simp; try (with_reducible rfl))
        (try simp only [zB])
        (try simp only [zA])
        refine wpAnyH_take (i := 8) (v := ?_) rfl (by kernel_rfl) (by kernel_rfl) (by kernel_rfl) (fun _ _ _ h => h) (Or.inl ⟨by rfl, ?_⟩) (by assumption) ?_
        rotate_left
        · (intro W hSW; go_simp; try (with_reducible rfl))
        (try simp only [zB])
        (try simp only [zA])
        refine wpAnyH_take (i := 9) (v := ?_) rfl (by kernel_rfl) (by kernel_rfl) (by kernel_rfl) (fun _ _ _ h => h) (Or.inl ⟨by rfl, ?_⟩) (by assumption) ?_
        rotate_left
        · (intro W hSW; go_simp; try (with_reducible rfl))
        (try simp only [zB])
        (try simp only [zA])
        refine wpAnyH_take (i := 10) (v := ?_) rfl (by kernel_rfl) (by kernel_rfl) (by kernel_rfl) (fun _ _ _ h => h) (Or.inl ⟨by rfl, ?_⟩) (by assumption) ?_
        rotate_left
        · (intro W hSW; go_simp; try (with_reducible rfl))
        (try simp only [zB])
        (try simp only [zA])
        refine wpAnyH_ready (rs := [11]) (by kernel_rfl) (by simp) ?_
        refine AllReadyH.cons rfl (fun K hK => ?_) AllReadyH.nil
        go_simp
        go_at_call 41
        refine (HOF.out _).mono ?_
        rintro e w10 ⟨vo, rfl, hoo, hbc⟩
        have HBw10 : Below V9.heap.size V9 w10 := Below.trans hHeld (Below.mono hbc (Below.size hHeld))
        dsimp only
        refine hK.out _ _ HBw10 (fun _ => ?_)
        clear hK K hbc
        (try simp only [zA])
        refine wpAnyH_done (by kernel_rfl) ?_ _
        refine Or.inl ?_
        go_simp
        go_at_call 40
        refine (HMEET.out _ _ HBw10 hoo).mono ?_
        rintro e w11 ⟨rfl, V11, hm11, ht11⟩
        have rR11 := HKX.out _ _ _ HBw10 ht11
        have HT11 : Hid (MtTo base w w11 g n VV V11) := (HT8B.out _ HBw10).trans ht11
        have HM11 : Hid (MtAt w11 base g n V11 (metT f L xs rg LL (j + 1))) := by rw [HMS1.out]; exact hm11
        clear hm11 ht11
        dsimp only
        go_wp2
        go_roundw
        case rel => exact ⟨j + 1, V11, by omega, by go_num, HM11.out, HT11.out, by rw [HRS3.out]; exact rR11⟩
        case measure => simp [intOf]; omega
    · obtain rfl : xs.length = j := by omega
      have HMO : Hid (MtAt wr base g n V' (metT f L xs rg LL xs.length)) := hmt
      have HTO : Hid (MtTo base w wr g n VV V') := hto
      clear hmt hto hlt hrr
      go_wp2
      go_end0
      exact ⟨rfl, V', HMO.out, HTO.out⟩
end Go.Proofs.YtldbmdgpdolaaaaDoor
