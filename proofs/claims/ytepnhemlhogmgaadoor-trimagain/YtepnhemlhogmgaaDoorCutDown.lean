/- Contract of proof.cutDown: one round over all places. -/
import Derived.Test.YtepnhemlhogmgaaDoorOnward
import Derived.Test.YtepnhemlhogmgaaDoorLater
import Derived.Laws.OwnMore
import Derived.Deep.LoopGhost
namespace Go.Proofs.YtepnhemlhogmgaaDoor
open Go Go.RowKit

theorem gb_refl (w : World) (r : Option Nat) : w.grownBy w r := ⟨rfl, rfl, rfl, Nat.le_refl _, fun _ _ _ => rfl⟩
theorem gb_trans {a b c : World} {r : Option Nat} (h : a.grownBy b r) (k : b.grownBy c r) : a.grownBy c r :=
  ⟨k.os.trans h.os, k.tape.trans h.tape, k.output.trans h.output, Nat.le_trans h.size k.size, fun i hi hr => (k.block i (Nat.lt_of_lt_of_le hi h.size) hr).trans (h.block i hi hr)⟩
theorem gb_below {a b : World} (r : Option Nat) (h : Below a.heap.size a b) : a.grownBy b r := ⟨h.os, h.tape, h.output, h.size, fun i hi _ => h.block i hi⟩
theorem gb_alloc (w : World) (r : Option Nat) (o : Obj) : w.grownBy (w.alloc o) r := gb_below r ((Below.refl _ _).alloc (Nat.le_refl _) _)
theorem gb_cell {a b : World} {g : Nat} (h : a.grownBy b (some g)) {p : Addr} {v : Value} (hc : a.cell? p = some v) (hne : p.block ≠ g) : b.cell? p = some v := by
  rw [World.cell?_of_block (h.block p.block (World.block_lt_of_cell? _ _ hc) (by simpa using hne))]; exact hc
theorem below_gb {B g : Nat} {w0 a b : World} (h : Below B w0 a) (hg : a.grownBy b (some g)) (hB : B ≤ g) (hs : B ≤ a.heap.size) : Below B w0 b :=
  h.grown hg hs (fun k hk => by simp at hk; omega)

def bvs (l : List (BitVec 64)) : List Value := l.map fun b => Value.int .i64 b.toInt
theorem bvs_get (l : List (BitVec 64)) (i : Nat) (h : i < l.length) : (bvs l)[i]? = some (.int .i64 (l.getD i 0#64).toInt) := by simp [bvs, List.getD, h]
theorem bvs_set (l : List (BitVec 64)) (i : Nat) (v : BitVec 64) : (bvs l).set i (.int .i64 v.toInt) = bvs (l.set i v) := by simp [bvs, List.map_set]

/-- The rows of places. -/
abbrev PlaceRow (w : World) (g n : Nat) (l : List (BitVec 64)) : Prop := w.ownsRow 0 3 1 (.slice (some ⟨g, 0, none⟩) n n) n (bvs l)
theorem place_cell {w : World} {g n : Nat} {l : List (BitVec 64)} (h : PlaceRow w g n l) (hl : l.length = n) (i : Nat) (hi : i < n) : w.cell? ⟨g, i, none⟩ = some (.int .i64 (l.getD i 0#64).toInt) := by
  rw [h.cellAt i (by omega)]; exact bvs_get l i (by omega)

theorem cut_int (l : List (BitVec 64)) (k to : Nat) (x : Ins) (h : setMask x < 65536) : bits .and .i64 (l.getD to 0#64).toInt (bits .or .i64 (l.getD k 0#64).toInt (setMask x : Int)) = (cutV l k x to).toInt := by
  rw [← bvn_toInt _ h, bits_or_bv, bits_and_bv]; rfl
theorem toInt_ne (a b : BitVec 64) : (a.toInt != b.toInt) = (a != b) := by
  rw [Bool.eq_iff_iff]; simp [BitVec.toInt_inj]

set_option maxRecDepth 100000 in
set_option maxHeartbeats 2000000 in
theorem cutDown_any (P : List Fn) (f : Fn) (hf : FnOk f) (hins : ∀ x ∈ f.code, InsOk P x ∧ (x.op = 15 ∨ x.op = 16 → 0 ≤ x.imm)) (cv : Value) (l0 : List (BitVec 64)) (g : Nat) (w0 w : World)
    (hb0 : Below w0.heap.size w0 w) (hg0 : w0.heap.size ≤ g) (hgw : g < w.heap.size) (ht : TabOk w0) (hcv : CodeVal w0 cv f.code) (hl0 : l0.length = f.code.length + 1) (hrow : PlaceRow w g (f.code.length + 1) l0) :
    Calls Tryd.prog 58 #[.slice (some ⟨g, 0, none⟩) (f.code.length + 1) (f.code.length + 1), .agg #[.int .i64 f.params, .int .i64 f.regs, cv]] w
      fun e w' => ∃ again l, e = .returned (.bool again) ∧ Mid f l0 f.code.length 0 again l ∧ PlaceRow w' g (f.code.length + 1) l ∧ w.grownBy w' (some g) := by
  obtain ⟨ao, b, off, n, cap, rfl, ⟨hlen, haddr, hat⟩, hcap, hmax⟩ := hcv
  have hl1 := hf.len1
  have hl2 := hf.len2
  obtain rfl := haddr (by omega)
  subst hlen
  obtain ⟨fp, fr, fc⟩ := f
  dsimp only at hl1 hl2 hat hins hl0 hrow hcap hmax ⊢
  have hbg : b < w0.heap.size := World.block_lt_of_cell? _ _ (hat 0 (by omega)).1
  have HW : Hid (Below w0.heap.size w0 (w.alloc (.cells #[.int .i64 fp, .int .i64 fr, .slice (some ⟨b, off, none⟩) fc.length cap] 44))) := hb0.alloc hb0.size _
  have HZ0 : Hid (w0.heap.size ≤ w.heap.size) := hb0.size
  have HR0 : Hid (PlaceRow (w.alloc (.cells #[.int .i64 fp, .int .i64 fr, .slice (some ⟨b, off, none⟩) fc.length cap] 44)) g (fc.length + 1) l0) := hrow.alloc _
  have HI : Hid (∀ x ∈ fc, InsOk P x ∧ (x.op = 15 ∨ x.op = 16 → 0 ≤ x.imm)) := hins
  have HA : Hid (∀ k (h : k < fc.length), insAt w0 b (off + k * 5) fc[k]) := hat
  clear hins hat hb0 hrow haddr
  generalize hN : fc.length = n at hl0 hl1 hl2 hcap HW HR0 ⊢
  have HN : Hid (fc.length = n) := hN
  clear hN
  unfold maxLen at hmax
  go_enter Tryd.func58, Tryd.ntmps58
  go_wp2
  go_loopw [5, 14] (fun ag i wr => ∃ (k : Nat) (again : Bool) (l : List (BitVec 64)), k ≤ n ∧ i = .int .i64 k ∧ ag = .bool again ∧ Mid ⟨fp, fr, fc⟩ l0 k 0 again l ∧ PlaceRow wr g (n + 1) l ∧
      (w.alloc (.cells #[.int .i64 fp, .int .i64 fr, .slice (some ⟨b, off, none⟩) n cap] 44)).grownBy wr (some g)) (fun _ i _ => n - (intOf i).toNat)
  case atStart => exact ⟨0, false, l0, Nat.zero_le _, rfl, rfl, Mid.start _ _, HR0.out, gb_refl _ _⟩
  case round =>
    obtain ⟨k, again, l, hk, rfl, rfl, hmid, hrow, hgr⟩ := hrel
    rename World => wo
    have hbr : Below w0.heap.size w0 wo := below_gb HW.out hgr hg0 (by have := HZ0.out; simp; omega)
    have hzr : w.heap.size < wo.heap.size := by have := hgr.size; simp at this; omega
    by_cases hlt : k < n
    · have hkx : k < fc.length := by rw [HN.out]; exact hlt
      obtain ⟨d0, d1, d2, d3, d4⟩ := (HA.out k hkx).keeps (keeps_below hbr)
      obtain ⟨hio, himm⟩ := HI.out fc[k] (List.getElem_mem hkx)
      have HX : Hid (insD ⟨fp, fr, fc⟩ k = fc[k]) := insD_eq (f := ⟨fp, fr, fc⟩) hkx
      generalize fc[k] = x at d0 d1 d2 d3 d4 hio himm HX
      have HMID : Hid (Mid ⟨fp, fr, fc⟩ l0 k 0 again l) := hmid
      have HROW : Hid (PlaceRow wo g (n + 1) l) := hrow
      have HGR : Hid ((w.alloc (.cells #[.int .i64 fp, .int .i64 fr, .slice (some ⟨b, off, none⟩) n cap] 44)).grownBy wo (some g)) := hgr
      have HBR : Hid (Below w0.heap.size w0 wo) := hbr
      have hkI : (k : Int) < n := by omega
      have hon := fun W => onward_any x k W himm (by omega)
      have hsb := fun W a => setBit_any P x W a hio
      have hsl := setMask_lt hio
      clear hmid hrow hgr hbr hio himm
      obtain ⟨op, dst, xa, xb, imm⟩ := x
      unfold Ins.val at hon hsb
      dsimp only at d0 d1 d2 d3 d4 hon hsb
      go_wp2_with (go_at_call 73; refine (hon _).mono ?_; rintro e w1 ⟨v1, rfl, hI1, hfr1, hb1⟩; obtain ⟨ao1, b1, off1, n1, cap1, rfl, hl1', ha1, hc1, hcp1, hmx1⟩ := hI1)
      have xc0 := keeps_below hb1 ⟨wo.heap.size, 0, none⟩ (.int .i64 op) (by simp)
      have xc1 := keeps_below hb1 ⟨wo.heap.size, 1, none⟩ (.int .i64 dst) (by simp)
      have xc2 := keeps_below hb1 ⟨wo.heap.size, 2, none⟩ (.int .i64 xa) (by simp)
      have xc3 := keeps_below hb1 ⟨wo.heap.size, 3, none⟩ (.int .i64 xb) (by simp)
      have xc4 := keeps_below hb1 ⟨wo.heap.size, 4, none⟩ (.int .i64 imm) (by simp)
      have hz1 : wo.heap.size < w1.heap.size := by have := hb1.size; simp at this; omega
      have HROW1 : Hid (PlaceRow w1 g (n + 1) l) := ownsRow_below (HROW.out.alloc _) hb1
      have HG1 : Hid (wo.grownBy w1 (some g)) := gb_trans (gb_alloc wo _ _) (gb_below _ hb1)
      have HB1 : Hid (Below w0.heap.size w0 w1) := below_gb HBR.out HG1.out hg0 (by have := HZ0.out; omega)
      have HFR : Hid (∀ b off n c, Value.slice ao1 n1 cap1 = .slice (some ⟨b, off, none⟩) n c → (wo.alloc (.cells #[.int .i64 op, .int .i64 dst, .int .i64 xa, .int .i64 xb, .int .i64 imm] 70)).heap.size ≤ b) := hfr1
      have HL1 : Hid ((behindI ⟨op, dst, xa, xb, imm⟩ k).length = n1) := hl1'
      have HA1 : Hid (0 < n1 → ao1 = some ⟨b1, off1, none⟩) := ha1
      have HC1 : Hid (∀ q (h : q < (behindI ⟨op, dst, xa, xb, imm⟩ k).length), w1.cell? ⟨b1, off1 + q, none⟩ = some (.int .i64 (behindI ⟨op, dst, xa, xb, imm⟩ k)[q])) := hc1
      have hcp := hcp1.1
      unfold maxLen at hmx1
      clear hl1' ha1 hc1 hcp1 hfr1 hb1 hon d0 d1 d2 d3 d4
      go_loopw [5, 23] (fun ag i wi => ∃ (e : Nat) (again' : Bool) (l' : List (BitVec 64)), e ≤ n1 ∧ i = .int .i64 e ∧ ag = .bool again' ∧ Mid ⟨fp, fr, fc⟩ l0 k e again' l' ∧ PlaceRow wi g (n + 1) l' ∧ w1.grownBy wi (some g)) (fun _ i _ => n1 - (intOf i).toNat)
      case atStart => exact ⟨0, again, l, Nat.zero_le _, rfl, rfl, HMID.out, HROW1.out, gb_refl _ _⟩
      case round =>
        obtain ⟨e, again', l', he, rfl, rfl, hmid, hrow, hgr⟩ := hrel
        by_cases hle : e < n1
        · obtain rfl := HA1.out (by omega)
          have heb : e < (behindI ⟨op, dst, xa, xb, imm⟩ k).length := by rw [HL1.out]; exact hle
          have heb2 : e < (behind ⟨op, dst, xa, xb, imm⟩ k).length := by simpa [behindI] using heb
          have hbg1 : b1 ≠ g := by have := HFR.out b1 off1 n1 cap1 rfl; simp at this; omega
          have cq := gb_cell hgr (HC1.out e heb) hbg1
          have hto : (behindI ⟨op, dst, xa, xb, imm⟩ k)[e] = (((behind ⟨op, dst, xa, xb, imm⟩ k)[e] : Nat) : Int) := by simp [behindI]
          rw [hto] at cq
          have HTO : Hid ((behind (insD ⟨fp, fr, fc⟩ k) k)[e]? = some (behind ⟨op, dst, xa, xb, imm⟩ k)[e]) := by
            show _ = _
            rw [HX.out]; exact List.getElem?_eq_getElem heb2
          have hgo : (behind ⟨op, dst, xa, xb, imm⟩ k)[e] < n + 1 := by
            have := hf.goes k (by show k < fc.length; rw [HN.out]; exact hlt) (behind ⟨op, dst, xa, xb, imm⟩ k)[e] (by rw [HX.out]; exact List.getElem_mem heb2)
            have h2 : (⟨fp, fr, fc⟩ : Fn).code.length = n := HN.out
            omega
          generalize (behind ⟨op, dst, xa, xb, imm⟩ k)[e] = to at cq HTO hgo
          clear hto heb heb2
          have hll : l'.length = n + 1 := hmid.len.trans hl0
          have ct := place_cell hrow hll to hgo
          have ck := place_cell hrow hll k (by omega)
          have y0 := gb_cell hgr xc0 (by show wo.heap.size ≠ g; omega)
          have y1 := gb_cell hgr xc1 (by show wo.heap.size ≠ g; omega)
          have y2 := gb_cell hgr xc2 (by show wo.heap.size ≠ g; omega)
          have y3 := gb_cell hgr xc3 (by show wo.heap.size ≠ g; omega)
          have y4 := gb_cell hgr xc4 (by show wo.heap.size ≠ g; omega)
          have HBI : Hid (Below w0.heap.size w0 wr) := below_gb HB1.out hgr hg0 (by have := HZ0.out; omega)
          have hTd : ∀ d : Later wr, TabOk d.to := fun d => (ht.below HBI.out).below d.below
          have hcut := cut_int l' k to ⟨op, dst, xa, xb, imm⟩ hsl
          have HNE : Hid (((cutV l' k ⟨op, dst, xa, xb, imm⟩ to).toInt != (l'.getD to 0#64).toInt) = (cutV l' k ⟨op, dst, xa, xb, imm⟩ to != l'.getD to 0#64)) := toInt_ne _ _
          have HSET : Hid (∀ W, PlaceRow W g (n + 1) l' → PlaceRow (W.setCell ⟨g, to, none⟩ (.int .i64 (cutV l' k ⟨op, dst, xa, xb, imm⟩ to).toInt)) g (n + 1) (l'.set to (cutV l' k ⟨op, dst, xa, xb, imm⟩ to)) ∧ W.grownBy (W.setCell ⟨g, to, none⟩ (.int .i64 (cutV l' k ⟨op, dst, xa, xb, imm⟩ to).toInt)) (some g)) := by
            intro W h
            have := h.stored to (.int .i64 (cutV l' k ⟨op, dst, xa, xb, imm⟩ to).toInt)
            rw [bvs_set] at this
            exact this
          have HSTEP : Hid (Mid ⟨fp, fr, fc⟩ l0 k (e + 1) (again' || (cutV l' k ⟨op, dst, xa, xb, imm⟩ to != l'.getD to 0#64)) (l'.set to (cutV l' k ⟨op, dst, xa, xb, imm⟩ to))) := by
            have := hmid.step (by show k < fc.length; rw [HN.out]; exact hlt) (by omega) HTO.out (by omega)
            rw [HX.out] at this
            exact this
          have HRI : Hid (PlaceRow wr g (n + 1) l') := hrow
          have HGI : Hid (w1.grownBy wr (some g)) := hgr
          have e0 := Later.cell ct
          have e1 := Later.cell ck
          have m0 := Later.cell y0
          have m1 := Later.cell y1
          have m2 := Later.cell y2
          have m3 := Later.cell y3
          have m4 := Later.cell y4
          have htoI : (to : Int) < n + 1 := by omega
          have hkI2 : (k : Int) < n + 1 := by omega
          have heI : (e : Int) < n1 := by omega
          clear ct ck y0 y1 y2 y3 y4 hmid hrow hgr xc0 xc1 xc2 xc3 xc4
          generalize (l'.set to (cutV l' k ⟨op, dst, xa, xb, imm⟩ to)) = l2 at HSET HSTEP
          generalize hcw : (cutV l' k ⟨op, dst, xa, xb, imm⟩ to != l'.getD to 0#64) = ne at HNE HSTEP
          clear hcw
          generalize (cutV l' k ⟨op, dst, xa, xb, imm⟩ to).toInt = CV at hcut HNE HSET
          generalize (l'.getD to 0#64).toInt = LT at e0 hcut HNE
          generalize (l'.getD k 0#64).toInt = LK at e1 hcut
          generalize setMask ⟨op, dst, xa, xb, imm⟩ = SM at hcut hsb hsl
          go_wp2
          refine wp_region_later (by kernel_rfl) (by kernel_rfl) ?_
          repeat (go_big_quiet_step ((go_at_call 74; exact calls_later (hsb _ (hTd _)))))
          refine wpQuiet_nil ?_
          intro _ hw'
          obtain ⟨d, hw''⟩ := hw'
          subst hw''
          have e0d := e0 d
          have hRd : Hid (PlaceRow d.to g (n + 1) l') := ownsRow_below HRI.out d.below
          have hfz := hRd.out.frozenAt to
          have HSd := HSET.out d.to hRd.out
          have HS1 : Hid (PlaceRow (d.to.setCell ⟨g, to, none⟩ (.int .i64 CV)) g (n + 1) l2) := HSd.1
          have HS2 : Hid (w1.grownBy (d.to.setCell ⟨g, to, none⟩ (.int .i64 CV)) (some g)) := gb_trans (gb_trans HGI.out (gb_below _ d.below)) HSd.2
          clear HSd e0 e1 m0 m1 m2 m3 m4 hTd
          cases again'
          · cases ne
            · have hne : (CV != LT) = false := HNE.out
              go_wp2
              go_roundw
              case rel => exact ⟨e + 1, false, l2, by omega, by go_num, rfl, HSTEP.out, HS1.out, HS2.out⟩
              case measure => simp [intOf]; omega
            · have hne : (CV != LT) = true := HNE.out
              go_wp2
              go_roundw
              case rel => exact ⟨e + 1, true, l2, by omega, by go_num, rfl, HSTEP.out, HS1.out, HS2.out⟩
              case measure => simp [intOf]; omega
          · go_wp2
            go_roundw
            case rel => exact ⟨e + 1, true, l2, by omega, by go_num, rfl, HSTEP.out, HS1.out, HS2.out⟩
            case measure => simp [intOf]; omega
        · obtain rfl : e = n1 := by omega
          have HNX : Hid (Mid ⟨fp, fr, fc⟩ l0 (k + 1) 0 again' l') := hmid.next (by rw [HX.out]; have := HL1.out; simp [behindI] at this; omega)
          have HRI : Hid (PlaceRow wr g (n + 1) l') := hrow
          have HGI : Hid ((w.alloc (.cells #[.int .i64 fp, .int .i64 fr, .slice (some ⟨b, off, none⟩) n cap] 44)).grownBy wr (some g)) := gb_trans (gb_trans HGR.out HG1.out) hgr
          clear hmid hrow hgr
          go_wp2
          go_roundw
          case rel => exact ⟨k + 1, again', l', by omega, by go_num, rfl, HNX.out, HRI.out, HGI.out⟩
          case measure => simp [intOf]; omega
    · obtain rfl : k = n := by omega
      go_wp2
      go_ret
      exact ⟨again, l, rfl, hmid, hrow, gb_trans (gb_alloc w _ _) hgr⟩

end Go.Proofs.YtepnhemlhogmgaaDoor
