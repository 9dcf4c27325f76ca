/- Contract of proof.sure: what is surely set ahead of each place, and at the end. -/
import Derived.Test.YtepnhemlhogmgaaDoorCutDown
import Derived.Deep.QuietTactic
import Derived.BigQuiet
namespace Go.Proofs.YtepnhemlhogmgaaDoor
open Go Go.RowKit

def initL (p n : Nat) : List (BitVec 64) := (List.replicate (n + 1) (BitVec.allOnes 64)).set 0 (bvn (2 ^ p - 1))
theorem initL_length (p n : Nat) : (initL p n).length = n + 1 := by simp [initL]
theorem initL_bit (p n q r : Nat) (_hp : p ≤ 2) (hq : q < n + 1) (hr : r < 64) : bitOf (initL p n) q r = if q = 0 then decide (r < p) else true := by
  unfold bitOf initL
  rw [getD_set _ 0 q _ (by simp)]
  by_cases h : q = 0
  · rw [if_pos h, if_pos h, bvn_bit _ _ hr, Nat.testBit_two_pow_sub_one]
  · have e : (List.replicate (n + 1) (BitVec.allOnes 64)).getD q 0#64 = BitVec.allOnes 64 := by
      rw [List.getD_eq_getElem?_getD, List.getElem?_replicate, if_pos hq]; rfl
    rw [if_neg h, if_neg h, e, BitVec.getLsbD_allOnes]; simp [hr]
theorem init_sound (f : Fn) (p : Nat) (hp : f.params = p) (hp2 : p ≤ 2) (n : Nat) : Sound f (initL p n) := by
  intro q r hq hr hb
  rw [initL_bit p n q r hp2 (by rw [initL_length] at hq; exact hq) hr] at hb
  by_cases h : q = 0
  · subst h
    rw [if_pos rfl] at hb
    have : ¬ r < p := by simpa using hb
    exact Way.start (by rw [hp]; omega)
  · rw [if_neg h] at hb; cases hb
theorem init_zero (f : Fn) (p : Nat) (hp : f.params = p) (hp2 : p ≤ 2) (n : Nat) (r : Nat) (hr : r < 64) (h : f.params ≤ (r : Int)) : bitOf (initL p n) 0 r = false := by
  rw [initL_bit p n 0 r hp2 (by omega) hr, if_pos rfl]
  simp; omega
theorem rowL_bvs (n : Nat) : rowL (-1) n n = bvs (List.replicate n (BitVec.allOnes 64)) := by
  unfold rowL bvs i64s
  simp
theorem place_of_heap {w : World} {g n : Nat} {l : List (BitVec 64)} (h : w.heap[g]? = some (.cells (bvs l).toArray 3 (0, 0))) (hl : l.length = n) (hn : n ≤ 1000) : PlaceRow w g n l :=
  ⟨by simp [bvs, hl], Or.inr ⟨g, n, (bvs l).toArray, rfl, Nat.zero_le _, h, Nat.le_refl _, by unfold maxLen; omega, by simp [bvs, hl], by rw [List.take_of_length_le (by simp [bvs, hl])]⟩⟩

/-- What holds ahead of each round. -/
structure Loops (f : Fn) (again : Bool) (l : List (BitVec 64)) : Prop where
  len : l.length = f.code.length + 1
  sound : Sound f l
  zero : ∀ r : Nat, r < 64 → f.params ≤ (r : Int) → bitOf l 0 r = false
  closed : again = false → ∀ pc, pc < f.code.length → ∀ to ∈ behind (insD f pc) pc, EdgeOk l pc (insD f pc) to
theorem Loops.next {f : Fn} {l l' : List (BitVec 64)} {again again' : Bool} (h : Loops f again l) (m : Mid f l f.code.length 0 again' l') :
    Loops f again' l' ∧ total l' + (if again' = true then 1 else 0) < total l + 1 := by
  refine ⟨⟨m.len.trans h.len, m.sound h.sound, fun r hr hp => m.zeros 0 r (h.zero r hr hp), fun ha => ?_⟩, ?_⟩
  · obtain ⟨rfl, h2, _⟩ := m.same ha
    exact fun pc hpc to hto => h2 pc hpc to hto
  · cases again' with
    | false => obtain ⟨rfl, _⟩ := m.same rfl; simp
    | true => have := m.less rfl; simp; omega
theorem Loops.spec {f : Fn} (hf : FnOk f) {l : List (BitVec 64)} (h : Loops f false l) : SureSpec f (l.map BitVec.toInt) :=
  spec_of_bits hf h.len fun q r hq hr => way_iff h.len h.sound h.zero (h.closed rfl) q r hq hr

theorem init_row {w : World} {g n p : Nat} {z : Int} (h : PlaceRow w g (n + 1) (List.replicate (n + 1) (BitVec.allOnes 64))) (hz : (bvn (2 ^ p - 1)).toInt = z) :
    PlaceRow (w.setCell ⟨g, 0, none⟩ (.int .i64 z)) g (n + 1) (initL p n) ∧ w.grownBy (w.setCell ⟨g, 0, none⟩ (.int .i64 z)) (some g) := by
  have := h.stored 0 (.int .i64 z)
  rw [← hz, bvs_set] at this
  rw [← hz]
  exact this
theorem ints_place {w : World} {g n : Nat} {l : List (BitVec 64)} (h : PlaceRow w g (n + 1) l) (hl : l.length = n + 1) : IntsVal w (.slice (some ⟨g, 0, none⟩) n n) ((l.map BitVec.toInt).take n) := by
  have hm : n ≤ maxLen := by
    rcases h.2 with ⟨h2, _⟩ | ⟨g', cap, cur, _, _, _, hn, hm, _⟩
    · cases h2
    · omega
  refine ⟨_, g, 0, n, n, rfl, by simp; omega, fun _ => rfl, fun k hk => ?_, ⟨Nat.le_refl _, fun e => by cases e⟩, hm⟩
  have hkn : k < n := by simp at hk; omega
  have := place_cell h hl k (by omega)
  rw [Nat.zero_add, this]
  simp [List.getD, show k < l.length by omega]
theorem ints_drewN {w : World} {v : Value} {l : List Int} {m : Nat} (h : IntsVal w v l) : IntsVal (w.drewN m) v l := h.keeps fun _ _ e => e
theorem sure_box0 (w : World) (a b c : Value) (o : Obj) : ((w.alloc (.cells #[a, b, c] 44)).alloc o).cell? ⟨w.heap.size, 0, none⟩ = some a := cell_alloc (by simp) _
theorem sure_box1 (w : World) (a b c : Value) (o : Obj) : ((w.alloc (.cells #[a, b, c] 44)).alloc o).cell? ⟨w.heap.size, 1, none⟩ = some b := cell_alloc (by simp) _
theorem sure_box2 (w : World) (a b c : Value) (o : Obj) : ((w.alloc (.cells #[a, b, c] 44)).alloc o).cell? ⟨w.heap.size, 2, none⟩ = some c := cell_alloc (by simp) _

set_option maxRecDepth 100000 in
set_option maxHeartbeats 2000000 in
theorem sure_lit (P : List Fn) (f : Fn) (hf : FnOk f) (hins : ∀ x ∈ f.code, InsOk P x ∧ (x.op = 15 ∨ x.op = 16 → 0 ≤ x.imm)) (cv : Value) (w : World) (ht : TabOk w) (hcv : CodeVal w cv f.code) (p : Nat) (hp : f.params = p) (hp2 : p ≤ 2) :
    Calls Tryd.prog 38 #[.agg #[.int .i64 f.params, .int .i64 f.regs, cv]] w
      fun e w' => ∃ v' L, e = .returned (.tuple #[v', .int .i64 (L.getD f.code.length 0)]) ∧ SureSpec f L ∧ IntsVal w' v' (L.take f.code.length) ∧ Below w.heap.size w w' := by
  have hl1 := hf.len1
  have hl2 := hf.len2
  have hCut := fun l0 g W a b c d e => cutDown_any P f hf hins cv l0 g w W a b c ht hcv d e
  obtain ⟨ao, b, off, n, cap, rfl, ⟨hlen, haddr, hat⟩, hcap, hmax⟩ := hcv
  obtain rfl := haddr (by omega)
  subst hlen
  have HL0 : Hid (Loops f true (initL p f.code.length)) := ⟨initL_length _ _, init_sound f p hp hp2 _, init_zero f p hp hp2 _, fun h => by cases h⟩
  have HSP : Hid (∀ l, Loops f false l → SureSpec f (l.map BitVec.toInt)) := fun l h => h.spec hf
  have HNX : Hid (∀ again again' l l', Loops f again l → Mid f l f.code.length 0 again' l' → Loops f again' l' ∧ total l' + (if again' = true then 1 else 0) < total l + 1) := fun _ _ _ _ h m => h.next m
  have HLE : Hid (∀ again l, Loops f again l → l.length = f.code.length + 1) := fun _ _ h => h.len
  clear hat hins haddr ht hf
  generalize f.code.length = n at *
  unfold maxLen at hmax
  have hpp : (f.params = 0 ∧ p = 0) ∨ (f.params = 1 ∧ p = 1) ∨ (f.params = 2 ∧ p = 2) := by omega
  clear hp hp2
  generalize f.params = fp at hpp hCut
  have hRep := fun W (hd : W.cell? ⟨w.heap.size + 1, 0, none⟩ = some (.int .i64 (-1))) => repeat_any (n + 1) (w.heap.size + 1) 0 1 (-1) W (by omega) (by omega) hd
  rw [show (((n + 1 : Nat)) : Int) = (n : Int) + 1 by omega] at hRep
  rcases hpp with ⟨rfl, rfl⟩ | ⟨rfl, rfl⟩ | ⟨rfl, rfl⟩
  · go_enter Tryd.func38, Tryd.ntmps38
    go_wp2_with (go_at_call 57; refine (hRep _ (by simp)).mono ?_; rintro e w1 ⟨rfl, hr1, hb1⟩; rw [rowL_bvs] at hr1; simp only [World.size_alloc] at hr1; have hz1 : w.heap.size + 1 + 1 < w1.heap.size := lt_of_block hr1; have k0 := keeps_below hb1 ⟨w.heap.size, 0, none⟩ _ (sure_box0 _ _ _ _ _); have k2 := keeps_below hb1 ⟨w.heap.size, 2, none⟩ _ (sure_box2 _ _ _ _ _); have k1 := keeps_below hb1 ⟨w.heap.size, 1, none⟩ _ (sure_box1 _ _ _ _ _); have hrow := place_of_heap (n := n + 1) hr1 (by simp) (by omega); have c0 := place_cell hrow (by simp) 0 (by omega); have f0 := hrow.frozenAt 0)
    have HB1 : Hid (Below w.heap.size w w1) := (((Below.refl _ _).alloc (Nat.le_refl _) _).alloc (by simp) _).trans (hb1.mono (by simp; omega))
    have HIR := init_row (p := 0) (z := 0) hrow (by decide)
    have HS1 : Hid (PlaceRow (w1.setCell ⟨w.heap.size + 1 + 1, 0, none⟩ (.int .i64 0)) (w.heap.size + 1 + 1) (n + 1) (initL 0 n)) := HIR.1
    have HS2 : Hid (w1.grownBy (w1.setCell ⟨w.heap.size + 1 + 1, 0, none⟩ (.int .i64 0)) (some (w.heap.size + 1 + 1))) := HIR.2
    clear HIR hrow c0 f0 hr1 hb1 hRep
    go_loopg [5] (total (initL 0 n) + 1) (fun m ag wr => ∃ (again : Bool) (l : List (BitVec 64)), m = total l + (if again = true then 1 else 0) ∧ ag = .bool again ∧ Loops f again l ∧ PlaceRow wr (w.heap.size + 1 + 1) (n + 1) l ∧ w1.grownBy wr (some (w.heap.size + 1 + 1)))
    case atStart => exact ⟨true, initL 0 n, rfl, rfl, HL0.out, HS1.out, HS2.out⟩
    case round =>
      obtain ⟨again, l, hm, rfl, hlp, hrow, hgr⟩ := hrel
      have j0 := gb_cell hgr k0 (by show w.heap.size ≠ _; omega)
      have j1 := gb_cell hgr k1 (by show w.heap.size ≠ _; omega)
      have j2 := gb_cell hgr k2 (by show w.heap.size ≠ _; omega)
      have hbr : Below w.heap.size w wr := below_gb HB1.out hgr (by omega) (by omega)
      have hzr : w.heap.size + 1 + 1 < wr.heap.size := by have := hgr.size; omega
      have hll := HLE.out _ _ hlp
      have HM : Hid (gk = total l + (if again = true then 1 else 0)) := hm
      have HLP : Hid (Loops f again l) := hlp
      have HRW : Hid (PlaceRow wr (w.heap.size + 1 + 1) (n + 1) l) := hrow
      have HGR : Hid (w1.grownBy wr (some (w.heap.size + 1 + 1))) := hgr
      have HBR : Hid (Below w.heap.size w wr) := hbr
      clear hm hlp hgr hbr
      cases again
      · have cn := place_cell hrow hll n (by omega)
        have hnI : (n : Int) < n + 1 := by omega
        have HV : Hid ((l.getD n 0#64).toInt = (l.map BitVec.toInt).getD n 0) := by
          show _ = _
          simp [List.getD, show n < l.length by omega]
        generalize (l.getD n 0#64).toInt = EV at cn HV
        clear hrow
        go_wp2
        go_quiet (fail)
        go_wp2
        go_ret2
        refine ⟨_, l.map BitVec.toInt, by rw [← HV.out]; rfl, HSP.out l HLP.out, ints_drewN (ints_place HRW.out hll), below_drewN HBR.out _⟩
      · have hC := hCut l (w.heap.size + 1 + 1) wr HBR.out (by omega) hzr hll hrow
        clear hrow
        go_wp2_with (go_at_call 58; refine hC.mono ?_; rintro e w2 ⟨again', l2, rfl, hmid, hrow2, hgr2⟩)
        have HX := HNX.out _ _ _ _ HLP.out hmid
        go_roundg (total l2 + (if again' = true then 1 else 0))
        case measure => rw [HM.out]; exact HX.2
        case rel => exact ⟨again', l2, rfl, rfl, HX.1, hrow2, gb_trans HGR.out hgr2⟩
  · go_enter Tryd.func38, Tryd.ntmps38
    go_wp2_with (go_at_call 57; refine (hRep _ (by simp)).mono ?_; rintro e w1 ⟨rfl, hr1, hb1⟩; rw [rowL_bvs] at hr1; simp only [World.size_alloc] at hr1; have hz1 : w.heap.size + 1 + 1 < w1.heap.size := lt_of_block hr1; have k0 := keeps_below hb1 ⟨w.heap.size, 0, none⟩ _ (sure_box0 _ _ _ _ _); have k2 := keeps_below hb1 ⟨w.heap.size, 2, none⟩ _ (sure_box2 _ _ _ _ _); have k1 := keeps_below hb1 ⟨w.heap.size, 1, none⟩ _ (sure_box1 _ _ _ _ _); have hrow := place_of_heap (n := n + 1) hr1 (by simp) (by omega); have c0 := place_cell hrow (by simp) 0 (by omega); have f0 := hrow.frozenAt 0)
    have HB1 : Hid (Below w.heap.size w w1) := (((Below.refl _ _).alloc (Nat.le_refl _) _).alloc (by simp) _).trans (hb1.mono (by simp; omega))
    have HIR := init_row (p := 1) (z := 1) hrow (by decide)
    have HS1 : Hid (PlaceRow (w1.setCell ⟨w.heap.size + 1 + 1, 0, none⟩ (.int .i64 1)) (w.heap.size + 1 + 1) (n + 1) (initL 1 n)) := HIR.1
    have HS2 : Hid (w1.grownBy (w1.setCell ⟨w.heap.size + 1 + 1, 0, none⟩ (.int .i64 1)) (some (w.heap.size + 1 + 1))) := HIR.2
    clear HIR hrow c0 f0 hr1 hb1 hRep
    go_loopg [5] (total (initL 1 n) + 1) (fun m ag wr => ∃ (again : Bool) (l : List (BitVec 64)), m = total l + (if again = true then 1 else 0) ∧ ag = .bool again ∧ Loops f again l ∧ PlaceRow wr (w.heap.size + 1 + 1) (n + 1) l ∧ w1.grownBy wr (some (w.heap.size + 1 + 1)))
    case atStart => exact ⟨true, initL 1 n, rfl, rfl, HL0.out, HS1.out, HS2.out⟩
    case round =>
      obtain ⟨again, l, hm, rfl, hlp, hrow, hgr⟩ := hrel
      have j0 := gb_cell hgr k0 (by show w.heap.size ≠ _; omega)
      have j1 := gb_cell hgr k1 (by show w.heap.size ≠ _; omega)
      have j2 := gb_cell hgr k2 (by show w.heap.size ≠ _; omega)
      have hbr : Below w.heap.size w wr := below_gb HB1.out hgr (by omega) (by omega)
      have hzr : w.heap.size + 1 + 1 < wr.heap.size := by have := hgr.size; omega
      have hll := HLE.out _ _ hlp
      have HM : Hid (gk = total l + (if again = true then 1 else 0)) := hm
      have HLP : Hid (Loops f again l) := hlp
      have HRW : Hid (PlaceRow wr (w.heap.size + 1 + 1) (n + 1) l) := hrow
      have HGR : Hid (w1.grownBy wr (some (w.heap.size + 1 + 1))) := hgr
      have HBR : Hid (Below w.heap.size w wr) := hbr
      clear hm hlp hgr hbr
      cases again
      · have cn := place_cell hrow hll n (by omega)
        have hnI : (n : Int) < n + 1 := by omega
        have HV : Hid ((l.getD n 0#64).toInt = (l.map BitVec.toInt).getD n 0) := by
          show _ = _
          simp [List.getD, show n < l.length by omega]
        generalize (l.getD n 0#64).toInt = EV at cn HV
        clear hrow
        go_wp2
        go_quiet (fail)
        go_wp2
        go_ret2
        refine ⟨_, l.map BitVec.toInt, by rw [← HV.out]; rfl, HSP.out l HLP.out, ints_drewN (ints_place HRW.out hll), below_drewN HBR.out _⟩
      · have hC := hCut l (w.heap.size + 1 + 1) wr HBR.out (by omega) hzr hll hrow
        clear hrow
        go_wp2_with (go_at_call 58; refine hC.mono ?_; rintro e w2 ⟨again', l2, rfl, hmid, hrow2, hgr2⟩)
        have HX := HNX.out _ _ _ _ HLP.out hmid
        go_roundg (total l2 + (if again' = true then 1 else 0))
        case measure => rw [HM.out]; exact HX.2
        case rel => exact ⟨again', l2, rfl, rfl, HX.1, hrow2, gb_trans HGR.out hgr2⟩
  · go_enter Tryd.func38, Tryd.ntmps38
    go_wp2_with (go_at_call 57; refine (hRep _ (by simp)).mono ?_; rintro e w1 ⟨rfl, hr1, hb1⟩; rw [rowL_bvs] at hr1; simp only [World.size_alloc] at hr1; have hz1 : w.heap.size + 1 + 1 < w1.heap.size := lt_of_block hr1; have k0 := keeps_below hb1 ⟨w.heap.size, 0, none⟩ _ (sure_box0 _ _ _ _ _); have k2 := keeps_below hb1 ⟨w.heap.size, 2, none⟩ _ (sure_box2 _ _ _ _ _); have k1 := keeps_below hb1 ⟨w.heap.size, 1, none⟩ _ (sure_box1 _ _ _ _ _); have hrow := place_of_heap (n := n + 1) hr1 (by simp) (by omega); have c0 := place_cell hrow (by simp) 0 (by omega); have f0 := hrow.frozenAt 0)
    have HB1 : Hid (Below w.heap.size w w1) := (((Below.refl _ _).alloc (Nat.le_refl _) _).alloc (by simp) _).trans (hb1.mono (by simp; omega))
    have HIR := init_row (p := 2) (z := 3) hrow (by decide)
    have HS1 : Hid (PlaceRow (w1.setCell ⟨w.heap.size + 1 + 1, 0, none⟩ (.int .i64 3)) (w.heap.size + 1 + 1) (n + 1) (initL 2 n)) := HIR.1
    have HS2 : Hid (w1.grownBy (w1.setCell ⟨w.heap.size + 1 + 1, 0, none⟩ (.int .i64 3)) (some (w.heap.size + 1 + 1))) := HIR.2
    clear HIR hrow c0 f0 hr1 hb1 hRep
    go_loopg [5] (total (initL 2 n) + 1) (fun m ag wr => ∃ (again : Bool) (l : List (BitVec 64)), m = total l + (if again = true then 1 else 0) ∧ ag = .bool again ∧ Loops f again l ∧ PlaceRow wr (w.heap.size + 1 + 1) (n + 1) l ∧ w1.grownBy wr (some (w.heap.size + 1 + 1)))
    case atStart => exact ⟨true, initL 2 n, rfl, rfl, HL0.out, HS1.out, HS2.out⟩
    case round =>
      obtain ⟨again, l, hm, rfl, hlp, hrow, hgr⟩ := hrel
      have j0 := gb_cell hgr k0 (by show w.heap.size ≠ _; omega)
      have j1 := gb_cell hgr k1 (by show w.heap.size ≠ _; omega)
      have j2 := gb_cell hgr k2 (by show w.heap.size ≠ _; omega)
      have hbr : Below w.heap.size w wr := below_gb HB1.out hgr (by omega) (by omega)
      have hzr : w.heap.size + 1 + 1 < wr.heap.size := by have := hgr.size; omega
      have hll := HLE.out _ _ hlp
      have HM : Hid (gk = total l + (if again = true then 1 else 0)) := hm
      have HLP : Hid (Loops f again l) := hlp
      have HRW : Hid (PlaceRow wr (w.heap.size + 1 + 1) (n + 1) l) := hrow
      have HGR : Hid (w1.grownBy wr (some (w.heap.size + 1 + 1))) := hgr
      have HBR : Hid (Below w.heap.size w wr) := hbr
      clear hm hlp hgr hbr
      cases again
      · have cn := place_cell hrow hll n (by omega)
        have hnI : (n : Int) < n + 1 := by omega
        have HV : Hid ((l.getD n 0#64).toInt = (l.map BitVec.toInt).getD n 0) := by
          show _ = _
          simp [List.getD, show n < l.length by omega]
        generalize (l.getD n 0#64).toInt = EV at cn HV
        clear hrow
        go_wp2
        go_quiet (fail)
        go_wp2
        go_ret2
        refine ⟨_, l.map BitVec.toInt, by rw [← HV.out]; rfl, HSP.out l HLP.out, ints_drewN (ints_place HRW.out hll), below_drewN HBR.out _⟩
      · have hC := hCut l (w.heap.size + 1 + 1) wr HBR.out (by omega) hzr hll hrow
        clear hrow
        go_wp2_with (go_at_call 58; refine hC.mono ?_; rintro e w2 ⟨again', l2, rfl, hmid, hrow2, hgr2⟩)
        have HX := HNX.out _ _ _ _ HLP.out hmid
        go_roundg (total l2 + (if again' = true then 1 else 0))
        case measure => rw [HM.out]; exact HX.2
        case rel => exact ⟨again', l2, rfl, rfl, HX.1, hrow2, gb_trans HGR.out hgr2⟩

end Go.Proofs.YtepnhemlhogmgaaDoor
