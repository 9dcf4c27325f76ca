/- Contract of the document's wayTo: to which places is there a way on which a register is not set. -/
import Derived.Test.YtepnhemlhogmgaaDoorRefSure
namespace Go.Proofs.YtepnhemlhogmgaaDoor
open Go Go.RowKit

theorem way_box (w : World) (cs : Array Value) (t i : Nat) (v : Value) (h : cs[i]? = some v) : (w.alloc (.cells cs t)).cell? ⟨w.heap.size, i, none⟩ = some v := by
  rw [cell_of_row (w.alloc (.cells cs t)) w.heap.size i cs t (0, 0) (heap_alloc_new w _)]; exact h

set_option maxRecDepth 100000 in
set_option maxHeartbeats 4000000 in
theorem wayTo_main (P : List Fn) (f : Fn) (hf : FnOk f) (hins : ∀ x ∈ f.code, InsOk P x ∧ (x.op = 15 ∨ x.op = 16 → 0 ≤ x.imm)) (cv : Value) (r : Int) (rn : Nat) (w : World) (hcv : CodeVal w cv f.code)
    (hr : (r = -1 ∧ rn = 63) ∨ (r = (rn : Int) ∧ rn < 12)) (hpr : f.params ≤ (rn : Int)) :
    Calls Tryd.prog 30 #[.agg #[.int .i64 f.params, .int .i64 f.regs, cv], .int .i64 r] w
      fun e w' => ∃ s, e = .returned (.slice (some ⟨w.heap.size + 1, 0, none⟩) (f.code.length + 1) (f.code.length + 1)) ∧ SeenSpec f rn s ∧ BoolRow w' (w.heap.size + 1) (f.code.length + 1) s ∧ Below w.heap.size w w' := by
  obtain ⟨iB, hiB, hzB0, hzB1, hzB2⟩ := info_parts infoBool
  have hl1 := hf.len1
  have hl2 := hf.len2
  have hp0 := hf.p0
  have hp2 := hf.p2
  obtain ⟨ao, b, off, n, cap, rfl, ⟨hlen, haddr, hat⟩, hcap, hmax⟩ := hcv
  obtain rfl := haddr (by omega)
  subst hlen
  have HF1 : Hid (SLoops f rn true ((List.replicate (f.code.length + 1) false).set 0 true)) := seen_first f rn hpr
  have HSP : Hid (∀ s, SLoops f rn false s → SeenSpec f rn s) := fun s h => h.spec
  have HNX : Hid (∀ again again' s s', SLoops f rn again s → SMid f rn s f.code.length 0 again' s' → SLoops f rn again' s' ∧ unseen s' + (if again' = true then 1 else 0) < unseen s + 1) := fun _ _ _ _ h m => h.next m
  have HLE : Hid (∀ again s, SLoops f rn again s → s.length = f.code.length + 1) := fun _ _ h => h.len
  have HGO : Hid (∀ pc, pc < f.code.length → ∀ t ∈ behind (insD f pc) pc, t < f.code.length + 1) := hf.goes
  have HAT : Hid (∀ k (h : k < f.code.length), ∃ x : Ins, insD f k = x ∧ insAt w b (off + k * 5) x ∧ InsOk P x ∧ (x.op = 15 ∨ x.op = 16 → 0 ≤ x.imm)) := fun k h =>
    ⟨f.code[k], insD_eq h, hat k h, hins _ (List.getElem_mem h)⟩
  have HNEW : Hid (∀ s0 s k e t again, SMid f rn s0 k e again s → k < f.code.length → s.getD k false = true → (setMask (insD f k)).testBit rn = false → (behind (insD f k) k)[e]? = some t → t < s0.length → s.getD t false = false → SMid f rn s0 k (e + 1) true (s.set t true)) :=
    fun _ _ _ _ _ _ h a b c d e => h.new a b c d e
  have hm0 := made_false (f.code.length + 1)
  have hbw : b < w.heap.size := World.block_lt_of_cell? _ _ (hat 0 (by omega)).1
  clear hat hins haddr
  generalize hN : f.code.length = n at *
  clear hN
  unfold maxLen at hmax
  obtain ⟨fp, hfp⟩ : ∃ z, z = f.params := ⟨_, rfl⟩
  obtain ⟨fr, hfr⟩ : ∃ z, z = f.regs := ⟨_, rfl⟩
  rw [← hfp] at hp0 hp2 hpr ⊢
  rw [← hfr]
  clear hfp hfr
  rcases hr with ⟨rfl, rfl⟩ | ⟨rfl, hr12⟩
  · go_enter Tryd.func30, Tryd.ntmps30
    go_wp2_with (at_make; refine wpList_make_full _ rfl (.tmp 14) (.tmp 14) 32 rfl 0 4 iB _ 1 Tryd.underlying32 hiB hzB0 hzB1 .i64 .i64 _ _ (n + 1) rfl rfl (by simp) (by simp) (by rw [hzB2]; omega) (by unfold maxLen; omega) (Nat.zero_le _) ?_; intro w1 hown1 hg1; rw [hm0] at hown1; simp only [World.size_alloc] at hown1; have hb1 := below_grown hg1; have hz1 : w.heap.size + 1 < w1.heap.size := (hown1.lt (w.heap.size + 1) rfl).2; have k0 := keeps_below hb1 _ _ (way_box w _ _ 0 (.int .i64 fp) rfl); have k1 := keeps_below hb1 _ _ (way_box w _ _ 1 (.int .i64 fr) rfl); have k2 := keeps_below hb1 _ _ (way_box w _ _ 2 (.slice (some ⟨b, off, none⟩) n cap) rfl); have c0 := bool_cell hown1 (by simp) 0 (by omega); have f0 := hown1.frozenAt 0)
    have HB1 : Hid (Below w.heap.size w w1) := ((Below.refl _ _).alloc (Nat.le_refl _) _).trans (hb1.mono (by simp))
    have HS := bool_store hown1 0 true
    have HS1 : Hid (BoolRow (w1.setCell ⟨w.heap.size + 1, 0, none⟩ (.bool true)) (w.heap.size + 1) (n + 1) ((List.replicate (n + 1) false).set 0 true)) := HS.1
    have HS2 : Hid (w1.grownBy (w1.setCell ⟨w.heap.size + 1, 0, none⟩ (.bool true)) (some (w.heap.size + 1))) := HS.2
    clear HS hown1 hg1 hb1 c0 f0 hm0
    go_loopg [6] (unseen ((List.replicate (n + 1) false).set 0 true) + 1) (fun m ag wr => ∃ (again : Bool) (s : List Bool), m = unseen s + (if again = true then 1 else 0) ∧ ag = .bool again ∧ SLoops f 63 again s ∧ BoolRow wr (w.heap.size + 1) (n + 1) s ∧ w1.grownBy wr (some (w.heap.size + 1)))
    case atStart => exact ⟨true, _, rfl, rfl, HF1.out, HS1.out, HS2.out⟩
    case round =>
      rename World => wa
      obtain ⟨again, s, hm, rfl, hlp, hrow, hgr⟩ := hrel
      have hll := HLE.out _ _ hlp
      have HM : Hid (gk = unseen s + (if again = true then 1 else 0)) := hm
      have HLP : Hid (SLoops f 63 again s) := hlp
      have HRW : Hid (BoolRow wa (w.heap.size + 1) (n + 1) s) := hrow
      have HGR : Hid (w1.grownBy wa (some (w.heap.size + 1))) := hgr
      have HBR : Hid (Below w.heap.size w wa) := below_gb HB1.out hgr (by omega) (by omega)
      clear hm hlp hgr hrow
      cases again
      · go_wp2
        go_ret
        exact ⟨s, rfl, HSP.out s HLP.out, HRW.out, HBR.out⟩
      · go_wp2
        go_loopw [6, 7] (fun ag i wr => ∃ (k : Nat) (again' : Bool) (s' : List Bool), k ≤ n ∧ i = .int .i64 k ∧ ag = .bool again' ∧ SMid f 63 s k 0 again' s' ∧ BoolRow wr (w.heap.size + 1) (n + 1) s' ∧ w1.grownBy wr (some (w.heap.size + 1))) (fun _ i _ => n - (intOf i).toNat)
        case atStart => exact ⟨0, false, s, Nat.zero_le _, rfl, rfl, SMid.start _ _ _, HRW.out, HGR.out⟩
        case round =>
          rename World => wb
          obtain ⟨k, again', s', hk, rfl, rfl, hmid, hrow, hgr⟩ := hrel
          have j0 := gb_cell hgr k0 (by show w.heap.size ≠ _; omega)
          have j1 := gb_cell hgr k1 (by show w.heap.size ≠ _; omega)
          have j2 := gb_cell hgr k2 (by show w.heap.size ≠ _; omega)
          have HBB : Hid (Below w.heap.size w wb) := below_gb HB1.out hgr (by omega) (by omega)
          have hzb : w.heap.size + 1 < wb.heap.size := by have := hgr.size; omega
          have hll' : s'.length = n + 1 := hmid.len.trans hll
          have HMID : Hid (SMid f 63 s k 0 again' s') := hmid
          have HROW : Hid (BoolRow wb (w.heap.size + 1) (n + 1) s') := hrow
          have HGB : Hid (w1.grownBy wb (some (w.heap.size + 1))) := hgr
          clear hmid hgr
          by_cases hlt : k < n
          · obtain ⟨x, hxe, hxi, hio, himm⟩ := HAT.out k hlt
            have hxi2 := hxi.keeps (keeps_below HBB.out)
            have hbeh := fun W (hW : insAt W b (off + k * 5) x) => behind_any fp fr b off n cap k x W hW himm hlt (by omega)
            have HXE : Hid (insD f k = x) := hxe
            have HXI : Hid (insAt wb b (off + k * 5) x) := hxi2
            have cs := bool_cell hrow hll' k (by omega)
            have cs2 := fun o => cell_alloc cs o
            have HTB : Hid ((setMask x).testBit 63 = (setMask x).testBit 63) := rfl
            have HSB : Hid (s'.getD k false = s'.getD k false) := rfl
            generalize htb : (setMask x).testBit 63 = tb at HTB
            generalize hsb : s'.getD k false = sb at cs2 HSB
            have HTB' : Hid ((setMask x).testBit 63 = tb) := htb
            have HSB' : Hid (s'.getD k false = sb) := hsb
            clear htb hsb HTB HSB cs hrow hxe hxi
            have HTB := HTB'
            have HSB := HSB'
            clear HTB' HSB'
            obtain ⟨op, dst, xa, xb, imm⟩ := x
            obtain ⟨d0, d1, d2, d3, d4⟩ := hxi2
            dsimp only at d0 d1 d2 d3 d4
            have hkI : (k : Int) < n := by omega
            have hkI2 : (k : Int) < n + 1 := by omega
            go_upto_region 12 with fail
            go_cut [59] (fun s59 wx => s59 = .bool (!sb || tb) ∧ wx = wb.alloc (.cells #[.int .i64 op, .int .i64 dst, .int .i64 xa, .int .i64 xb, .int .i64 imm] 70))
            case first =>
              have htb : tb = false := by rw [← HTB.out]; exact set_high _ hio.dst0 hio.dst1
              subst htb
              cases sb
              · go_wp2_with (go_at_call 46; refine (Sets_any _ _).mono ?_; rintro e w' ⟨rfl, hw'⟩; replace hw' := hw'.symm; subst hw')
                go_meet
                exact ⟨rfl, rfl⟩
              · go_wp2_with (go_at_call 46; refine (Sets_any _ _).mono ?_; rintro e w' ⟨rfl, hw'⟩; replace hw' := hw'.symm; subst hw')
                go_meet
                exact ⟨rfl, rfl⟩
            case rest =>
              obtain ⟨rfl, rfl⟩ := hcut
              have HROWX : Hid (BoolRow (wb.alloc (.cells #[.int .i64 op, .int .i64 dst, .int .i64 xa, .int .i64 xb, .int .i64 imm] 70)) (w.heap.size + 1) (n + 1) s') := HROW.out.alloc _
              have HGX : Hid (w1.grownBy (wb.alloc (.cells #[.int .i64 op, .int .i64 dst, .int .i64 xa, .int .i64 xb, .int .i64 imm] 70)) (some (w.heap.size + 1))) := gb_trans HGB.out (gb_alloc wb _ _)
              cases hsk : (!sb || tb)
              · have hsb : sb = true := by revert hsk; cases sb <;> simp
                have htb : tb = false := by revert hsk; cases tb <;> simp
                subst hsb
                subst htb
                have i0 := cell_alloc j0
                have i1 := cell_alloc j1
                have i2 := cell_alloc j2
                clear hsk
                go_wp2_with (go_at_call 47; refine (hbeh _ (HXI.out.keeps (keeps_below ((Below.refl _ _).alloc (Nat.le_refl _) _)))).mono ?_; rintro e w2 ⟨v2, rfl, hI2, hfr2, hb2⟩; obtain ⟨ao2, b2, off2, n2, cap2, rfl, hl2', ha2, hc2, hcp2, hmx2⟩ := hI2)
                have hz2 : wb.heap.size < w2.heap.size := by have := hb2.size; simp at this; omega
                have HROW2 : Hid (BoolRow w2 (w.heap.size + 1) (n + 1) s') := ownsRow_below HROWX.out hb2
                have HG2 : Hid (w1.grownBy w2 (some (w.heap.size + 1))) := gb_trans HGX.out (gb_below _ hb2)
                have HFR : Hid (∀ b off n c, Value.slice ao2 n2 cap2 = .slice (some ⟨b, off, none⟩) n c → (wb.alloc (.cells #[.int .i64 op, .int .i64 dst, .int .i64 xa, .int .i64 xb, .int .i64 imm] 70)).heap.size ≤ b) := hfr2
                have HL2 : Hid ((behindI ⟨op, dst, xa, xb, imm⟩ k).length = n2) := hl2'
                have HA2 : Hid (0 < n2 → ao2 = some ⟨b2, off2, none⟩) := ha2
                have HC2 : Hid (∀ q (h : q < (behindI ⟨op, dst, xa, xb, imm⟩ k).length), w2.cell? ⟨b2, off2 + q, none⟩ = some (.int .i64 (behindI ⟨op, dst, xa, xb, imm⟩ k)[q])) := hc2
                have hcp := hcp2.1
                unfold maxLen at hmx2
                clear hl2' ha2 hc2 hcp2 hfr2 hb2 hbeh d0 d1 d2 d3 d4 i0 i1 i2 cs2
                go_loopw [6, 10] (fun ag i wr => ∃ (e : Nat) (ag' : Bool) (s2 : List Bool), e ≤ n2 ∧ i = .int .i64 e ∧ ag = .bool ag' ∧ SMid f 63 s k e ag' s2 ∧ s2.getD k false = true ∧ BoolRow wr (w.heap.size + 1) (n + 1) s2 ∧ w2.grownBy wr (some (w.heap.size + 1))) (fun _ i _ => n2 - (intOf i).toNat)
                case atStart => exact ⟨0, again', s', Nat.zero_le _, rfl, rfl, HMID.out, HSB.out, HROW2.out, gb_refl _ _⟩
                case round =>
                  obtain ⟨e, ag', s2, he, rfl, rfl, hmid, hsk2, hrow, hgr⟩ := hrel
                  by_cases hle : e < n2
                  · obtain rfl := HA2.out (by omega)
                    have heb : e < (behindI ⟨op, dst, xa, xb, imm⟩ k).length := by rw [HL2.out]; exact hle
                    have heb2 : e < (behind ⟨op, dst, xa, xb, imm⟩ k).length := by simpa [behindI] using heb
                    have hbg1 : b2 ≠ w.heap.size + 1 := by have := HFR.out b2 off2 n2 cap2 rfl; simp at this; omega
                    have cq := gb_cell hgr (HC2.out e heb) hbg1
                    have hto : (behindI ⟨op, dst, xa, xb, imm⟩ k)[e] = (((behind ⟨op, dst, xa, xb, imm⟩ k)[e] : Nat) : Int) := by simp [behindI]
                    rw [hto] at cq
                    have HTO : Hid ((behind (insD f k) k)[e]? = some (behind ⟨op, dst, xa, xb, imm⟩ k)[e]) := by
                      show _ = _
                      rw [HXE.out]; exact List.getElem?_eq_getElem heb2
                    have hgo : (behind ⟨op, dst, xa, xb, imm⟩ k)[e] < n + 1 := HGO.out k hlt _ (by rw [HXE.out]; exact List.getElem_mem heb2)
                    generalize (behind ⟨op, dst, xa, xb, imm⟩ k)[e] = tt at cq HTO hgo
                    clear hto heb heb2
                    have hls : s2.length = n + 1 := hmid.len.trans hll
                    have ct := bool_cell hrow hls tt hgo
                    have cf := hrow.frozenAt tt
                    have heI : (e : Int) < n2 := by omega
                    have htI : (tt : Int) < n + 1 := by omega
                    have HST := bool_store hrow tt true
                    have HR2 : Hid (BoolRow wr (w.heap.size + 1) (n + 1) s2) := hrow
                    have HGI : Hid (w2.grownBy wr (some (w.heap.size + 1))) := hgr
                    have HS3 : Hid (BoolRow (wr.setCell ⟨w.heap.size + 1, tt, none⟩ (.bool true)) (w.heap.size + 1) (n + 1) (s2.set tt true)) := HST.1
                    have HS4 : Hid (w2.grownBy (wr.setCell ⟨w.heap.size + 1, tt, none⟩ (.bool true)) (some (w.heap.size + 1))) := gb_trans hgr HST.2
                    cases hst : s2.getD tt false
                    · have HMN : Hid (SMid f 63 s k (e + 1) true (s2.set tt true)) := HNEW.out s s2 k e tt ag' hmid hlt hsk2 (by rw [HXE.out]; exact HTB.out) HTO.out (by omega) hst
                      have HKK : Hid ((s2.set tt true).getD k false = true) := by
                        show _ = _
                        rw [bget_set s2 tt k true (by omega)]; split
                        · rfl
                        · exact hsk2
                      rw [hst] at ct
                      clear HST hrow hgr hmid hsk2 hst
                      go_wp2
                      go_roundw
                      case rel => exact ⟨e + 1, true, s2.set tt true, by omega, by go_num, rfl, HMN.out, HKK.out, HS3.out, HS4.out⟩
                      case measure => simp [intOf]; omega
                    · have HMN : Hid (SMid f 63 s k (e + 1) ag' s2) := hmid.old HTO.out hst
                      have HKK : Hid (s2.getD k false = true) := hsk2
                      rw [hst] at ct
                      clear HST hrow hgr hmid hsk2 hst
                      go_wp2
                      go_roundw
                      case rel => exact ⟨e + 1, ag', s2, by omega, by go_num, rfl, HMN.out, HKK.out, HR2.out, HGI.out⟩
                      case measure => simp [intOf]; omega
                  · obtain rfl : e = n2 := by omega
                    have HNX2 : Hid (SMid f 63 s (k + 1) 0 ag' s2) := hmid.next (by rw [HXE.out]; have := HL2.out; simp [behindI] at this; omega)
                    have HR2 : Hid (BoolRow wr (w.heap.size + 1) (n + 1) s2) := hrow
                    have HGI : Hid (w1.grownBy wr (some (w.heap.size + 1))) := gb_trans HG2.out hgr
                    clear hmid hrow hgr hsk2
                    go_wp2
                    go_roundw
                    case rel => exact ⟨k + 1, ag', s2, by omega, by go_num, rfl, HNX2.out, HR2.out, HGI.out⟩
                    case measure => simp [intOf]; omega
              · have HSKP : Hid (SMid f 63 s (k + 1) 0 again' s') := HMID.out.skip (by
                  rw [HXE.out, HTB.out, HSB.out]
                  revert hsk; cases sb <;> cases tb <;> simp)
                clear hsk
                go_wp2
                go_roundw
                case rel => exact ⟨k + 1, again', s', by omega, by go_num, rfl, HSKP.out, HROWX.out, HGX.out⟩
                case measure => simp [intOf]; omega
          · obtain rfl : k = n := by omega
            have HX := HNX.out _ _ _ _ HLP.out HMID.out
            go_wp2
            go_roundg (unseen s' + (if again' = true then 1 else 0))
            case measure => rw [HM.out]; exact HX.2
            case rel => exact ⟨again', s', rfl, rfl, HX.1, HROW.out, HGB.out⟩
  · go_enter Tryd.func30, Tryd.ntmps30
    go_wp2_with (at_make; refine wpList_make_full _ rfl (.tmp 14) (.tmp 14) 32 rfl 0 4 iB _ 1 Tryd.underlying32 hiB hzB0 hzB1 .i64 .i64 _ _ (n + 1) rfl rfl (by simp) (by simp) (by rw [hzB2]; omega) (by unfold maxLen; omega) (Nat.zero_le _) ?_; intro w1 hown1 hg1; rw [hm0] at hown1; simp only [World.size_alloc] at hown1; have hb1 := below_grown hg1; have hz1 : w.heap.size + 1 < w1.heap.size := (hown1.lt (w.heap.size + 1) rfl).2; have k0 := keeps_below hb1 _ _ (way_box w _ _ 0 (.int .i64 fp) rfl); have k1 := keeps_below hb1 _ _ (way_box w _ _ 1 (.int .i64 fr) rfl); have k2 := keeps_below hb1 _ _ (way_box w _ _ 2 (.slice (some ⟨b, off, none⟩) n cap) rfl); have c0 := bool_cell hown1 (by simp) 0 (by omega); have f0 := hown1.frozenAt 0)
    have HB1 : Hid (Below w.heap.size w w1) := ((Below.refl _ _).alloc (Nat.le_refl _) _).trans (hb1.mono (by simp))
    have HS := bool_store hown1 0 true
    have HS1 : Hid (BoolRow (w1.setCell ⟨w.heap.size + 1, 0, none⟩ (.bool true)) (w.heap.size + 1) (n + 1) ((List.replicate (n + 1) false).set 0 true)) := HS.1
    have HS2 : Hid (w1.grownBy (w1.setCell ⟨w.heap.size + 1, 0, none⟩ (.bool true)) (some (w.heap.size + 1))) := HS.2
    clear HS hown1 hg1 hb1 c0 f0 hm0
    go_loopg [6] (unseen ((List.replicate (n + 1) false).set 0 true) + 1) (fun m ag wr => ∃ (again : Bool) (s : List Bool), m = unseen s + (if again = true then 1 else 0) ∧ ag = .bool again ∧ SLoops f rn again s ∧ BoolRow wr (w.heap.size + 1) (n + 1) s ∧ w1.grownBy wr (some (w.heap.size + 1)))
    case atStart => exact ⟨true, _, rfl, rfl, HF1.out, HS1.out, HS2.out⟩
    case round =>
      rename World => wa
      obtain ⟨again, s, hm, rfl, hlp, hrow, hgr⟩ := hrel
      have hll := HLE.out _ _ hlp
      have HM : Hid (gk = unseen s + (if again = true then 1 else 0)) := hm
      have HLP : Hid (SLoops f rn again s) := hlp
      have HRW : Hid (BoolRow wa (w.heap.size + 1) (n + 1) s) := hrow
      have HGR : Hid (w1.grownBy wa (some (w.heap.size + 1))) := hgr
      have HBR : Hid (Below w.heap.size w wa) := below_gb HB1.out hgr (by omega) (by omega)
      clear hm hlp hgr hrow
      cases again
      · go_wp2
        go_ret
        exact ⟨s, rfl, HSP.out s HLP.out, HRW.out, HBR.out⟩
      · go_wp2
        go_loopw [6, 7] (fun ag i wr => ∃ (k : Nat) (again' : Bool) (s' : List Bool), k ≤ n ∧ i = .int .i64 k ∧ ag = .bool again' ∧ SMid f rn s k 0 again' s' ∧ BoolRow wr (w.heap.size + 1) (n + 1) s' ∧ w1.grownBy wr (some (w.heap.size + 1))) (fun _ i _ => n - (intOf i).toNat)
        case atStart => exact ⟨0, false, s, Nat.zero_le _, rfl, rfl, SMid.start _ _ _, HRW.out, HGR.out⟩
        case round =>
          rename World => wb
          obtain ⟨k, again', s', hk, rfl, rfl, hmid, hrow, hgr⟩ := hrel
          have j0 := gb_cell hgr k0 (by show w.heap.size ≠ _; omega)
          have j1 := gb_cell hgr k1 (by show w.heap.size ≠ _; omega)
          have j2 := gb_cell hgr k2 (by show w.heap.size ≠ _; omega)
          have HBB : Hid (Below w.heap.size w wb) := below_gb HB1.out hgr (by omega) (by omega)
          have hzb : w.heap.size + 1 < wb.heap.size := by have := hgr.size; omega
          have hll' : s'.length = n + 1 := hmid.len.trans hll
          have HMID : Hid (SMid f rn s k 0 again' s') := hmid
          have HROW : Hid (BoolRow wb (w.heap.size + 1) (n + 1) s') := hrow
          have HGB : Hid (w1.grownBy wb (some (w.heap.size + 1))) := hgr
          clear hmid hgr
          by_cases hlt : k < n
          · obtain ⟨x, hxe, hxi, hio, himm⟩ := HAT.out k hlt
            have hxi2 := hxi.keeps (keeps_below HBB.out)
            have hbeh := fun W (hW : insAt W b (off + k * 5) x) => behind_any fp fr b off n cap k x W hW himm hlt (by omega)
            have HXE : Hid (insD f k = x) := hxe
            have HXI : Hid (insAt wb b (off + k * 5) x) := hxi2
            have cs := bool_cell hrow hll' k (by omega)
            have cs2 := fun o => cell_alloc cs o
            have HTB : Hid ((setMask x).testBit rn = (setMask x).testBit rn) := rfl
            have HSB : Hid (s'.getD k false = s'.getD k false) := rfl
            generalize htb : (setMask x).testBit rn = tb at HTB
            generalize hsb : s'.getD k false = sb at cs2 HSB
            have HTB' : Hid ((setMask x).testBit rn = tb) := htb
            have HSB' : Hid (s'.getD k false = sb) := hsb
            clear htb hsb HTB HSB cs hrow hxe hxi
            have HTB := HTB'
            have HSB := HSB'
            clear HTB' HSB'
            obtain ⟨op, dst, xa, xb, imm⟩ := x
            obtain ⟨d0, d1, d2, d3, d4⟩ := hxi2
            dsimp only at d0 d1 d2 d3 d4
            have hkI : (k : Int) < n := by omega
            have hkI2 : (k : Int) < n + 1 := by omega
            go_upto_region 12 with fail
            go_cut [59] (fun s59 wx => s59 = .bool (!sb || tb) ∧ wx = wb.alloc (.cells #[.int .i64 op, .int .i64 dst, .int .i64 xa, .int .i64 xb, .int .i64 imm] 70))
            case first =>
              have htb : tb = (setsB op && (dst == (rn : Int))) := by rw [← HTB.out]; exact set_bit _ hio.dst0 rn
              subst htb
              cases sb
              · go_wp2_with (go_at_call 46; refine (Sets_any _ _).mono ?_; rintro e w' ⟨rfl, hw'⟩; replace hw' := hw'.symm; subst hw')
                go_meet
                exact ⟨rfl, rfl⟩
              · cases hs : setsB op
                · go_wp2_with (go_at_call 46; refine (Sets_any _ _).mono ?_; rintro e w' ⟨rfl, hw'⟩; replace hw' := hw'.symm; subst hw')
                  go_meet
                  exact ⟨by simp [hs], rfl⟩
                · cases hd : (dst == (rn : Int))
                  · go_wp2_with (go_at_call 46; refine (Sets_any _ _).mono ?_; rintro e w' ⟨rfl, hw'⟩; replace hw' := hw'.symm; subst hw')
                    go_meet
                    exact ⟨by simp [hs, hd], rfl⟩
                  · go_wp2_with (go_at_call 46; refine (Sets_any _ _).mono ?_; rintro e w' ⟨rfl, hw'⟩; replace hw' := hw'.symm; subst hw')
                    go_meet
                    exact ⟨by simp [hs, hd], rfl⟩
            case rest =>
              obtain ⟨rfl, rfl⟩ := hcut
              have HROWX : Hid (BoolRow (wb.alloc (.cells #[.int .i64 op, .int .i64 dst, .int .i64 xa, .int .i64 xb, .int .i64 imm] 70)) (w.heap.size + 1) (n + 1) s') := HROW.out.alloc _
              have HGX : Hid (w1.grownBy (wb.alloc (.cells #[.int .i64 op, .int .i64 dst, .int .i64 xa, .int .i64 xb, .int .i64 imm] 70)) (some (w.heap.size + 1))) := gb_trans HGB.out (gb_alloc wb _ _)
              cases hsk : (!sb || tb)
              · have hsb : sb = true := by revert hsk; cases sb <;> simp
                have htb : tb = false := by revert hsk; cases tb <;> simp
                subst hsb
                subst htb
                have i0 := cell_alloc j0
                have i1 := cell_alloc j1
                have i2 := cell_alloc j2
                clear hsk
                go_wp2_with (go_at_call 47; refine (hbeh _ (HXI.out.keeps (keeps_below ((Below.refl _ _).alloc (Nat.le_refl _) _)))).mono ?_; rintro e w2 ⟨v2, rfl, hI2, hfr2, hb2⟩; obtain ⟨ao2, b2, off2, n2, cap2, rfl, hl2', ha2, hc2, hcp2, hmx2⟩ := hI2)
                have hz2 : wb.heap.size < w2.heap.size := by have := hb2.size; simp at this; omega
                have HROW2 : Hid (BoolRow w2 (w.heap.size + 1) (n + 1) s') := ownsRow_below HROWX.out hb2
                have HG2 : Hid (w1.grownBy w2 (some (w.heap.size + 1))) := gb_trans HGX.out (gb_below _ hb2)
                have HFR : Hid (∀ b off n c, Value.slice ao2 n2 cap2 = .slice (some ⟨b, off, none⟩) n c → (wb.alloc (.cells #[.int .i64 op, .int .i64 dst, .int .i64 xa, .int .i64 xb, .int .i64 imm] 70)).heap.size ≤ b) := hfr2
                have HL2 : Hid ((behindI ⟨op, dst, xa, xb, imm⟩ k).length = n2) := hl2'
                have HA2 : Hid (0 < n2 → ao2 = some ⟨b2, off2, none⟩) := ha2
                have HC2 : Hid (∀ q (h : q < (behindI ⟨op, dst, xa, xb, imm⟩ k).length), w2.cell? ⟨b2, off2 + q, none⟩ = some (.int .i64 (behindI ⟨op, dst, xa, xb, imm⟩ k)[q])) := hc2
                have hcp := hcp2.1
                unfold maxLen at hmx2
                clear hl2' ha2 hc2 hcp2 hfr2 hb2 hbeh d0 d1 d2 d3 d4 i0 i1 i2 cs2
                go_loopw [6, 10] (fun ag i wr => ∃ (e : Nat) (ag' : Bool) (s2 : List Bool), e ≤ n2 ∧ i = .int .i64 e ∧ ag = .bool ag' ∧ SMid f rn s k e ag' s2 ∧ s2.getD k false = true ∧ BoolRow wr (w.heap.size + 1) (n + 1) s2 ∧ w2.grownBy wr (some (w.heap.size + 1))) (fun _ i _ => n2 - (intOf i).toNat)
                case atStart => exact ⟨0, again', s', Nat.zero_le _, rfl, rfl, HMID.out, HSB.out, HROW2.out, gb_refl _ _⟩
                case round =>
                  obtain ⟨e, ag', s2, he, rfl, rfl, hmid, hsk2, hrow, hgr⟩ := hrel
                  by_cases hle : e < n2
                  · obtain rfl := HA2.out (by omega)
                    have heb : e < (behindI ⟨op, dst, xa, xb, imm⟩ k).length := by rw [HL2.out]; exact hle
                    have heb2 : e < (behind ⟨op, dst, xa, xb, imm⟩ k).length := by simpa [behindI] using heb
                    have hbg1 : b2 ≠ w.heap.size + 1 := by have := HFR.out b2 off2 n2 cap2 rfl; simp at this; omega
                    have cq := gb_cell hgr (HC2.out e heb) hbg1
                    have hto : (behindI ⟨op, dst, xa, xb, imm⟩ k)[e] = (((behind ⟨op, dst, xa, xb, imm⟩ k)[e] : Nat) : Int) := by simp [behindI]
                    rw [hto] at cq
                    have HTO : Hid ((behind (insD f k) k)[e]? = some (behind ⟨op, dst, xa, xb, imm⟩ k)[e]) := by
                      show _ = _
                      rw [HXE.out]; exact List.getElem?_eq_getElem heb2
                    have hgo : (behind ⟨op, dst, xa, xb, imm⟩ k)[e] < n + 1 := HGO.out k hlt _ (by rw [HXE.out]; exact List.getElem_mem heb2)
                    generalize (behind ⟨op, dst, xa, xb, imm⟩ k)[e] = tt at cq HTO hgo
                    clear hto heb heb2
                    have hls : s2.length = n + 1 := hmid.len.trans hll
                    have ct := bool_cell hrow hls tt hgo
                    have cf := hrow.frozenAt tt
                    have heI : (e : Int) < n2 := by omega
                    have htI : (tt : Int) < n + 1 := by omega
                    have HST := bool_store hrow tt true
                    have HR2 : Hid (BoolRow wr (w.heap.size + 1) (n + 1) s2) := hrow
                    have HGI : Hid (w2.grownBy wr (some (w.heap.size + 1))) := hgr
                    have HS3 : Hid (BoolRow (wr.setCell ⟨w.heap.size + 1, tt, none⟩ (.bool true)) (w.heap.size + 1) (n + 1) (s2.set tt true)) := HST.1
                    have HS4 : Hid (w2.grownBy (wr.setCell ⟨w.heap.size + 1, tt, none⟩ (.bool true)) (some (w.heap.size + 1))) := gb_trans hgr HST.2
                    cases hst : s2.getD tt false
                    · have HMN : Hid (SMid f rn s k (e + 1) true (s2.set tt true)) := HNEW.out s s2 k e tt ag' hmid hlt hsk2 (by rw [HXE.out]; exact HTB.out) HTO.out (by omega) hst
                      have HKK : Hid ((s2.set tt true).getD k false = true) := by
                        show _ = _
                        rw [bget_set s2 tt k true (by omega)]; split
                        · rfl
                        · exact hsk2
                      rw [hst] at ct
                      clear HST hrow hgr hmid hsk2 hst
                      go_wp2
                      go_roundw
                      case rel => exact ⟨e + 1, true, s2.set tt true, by omega, by go_num, rfl, HMN.out, HKK.out, HS3.out, HS4.out⟩
                      case measure => simp [intOf]; omega
                    · have HMN : Hid (SMid f rn s k (e + 1) ag' s2) := hmid.old HTO.out hst
                      have HKK : Hid (s2.getD k false = true) := hsk2
                      rw [hst] at ct
                      clear HST hrow hgr hmid hsk2 hst
                      go_wp2
                      go_roundw
                      case rel => exact ⟨e + 1, ag', s2, by omega, by go_num, rfl, HMN.out, HKK.out, HR2.out, HGI.out⟩
                      case measure => simp [intOf]; omega
                  · obtain rfl : e = n2 := by omega
                    have HNX2 : Hid (SMid f rn s (k + 1) 0 ag' s2) := hmid.next (by rw [HXE.out]; have := HL2.out; simp [behindI] at this; omega)
                    have HR2 : Hid (BoolRow wr (w.heap.size + 1) (n + 1) s2) := hrow
                    have HGI : Hid (w1.grownBy wr (some (w.heap.size + 1))) := gb_trans HG2.out hgr
                    clear hmid hrow hgr hsk2
                    go_wp2
                    go_roundw
                    case rel => exact ⟨k + 1, ag', s2, by omega, by go_num, rfl, HNX2.out, HR2.out, HGI.out⟩
                    case measure => simp [intOf]; omega
              · have HSKP : Hid (SMid f rn s (k + 1) 0 again' s') := HMID.out.skip (by
                  rw [HXE.out, HTB.out, HSB.out]
                  revert hsk; cases sb <;> cases tb <;> simp)
                clear hsk
                go_wp2
                go_roundw
                case rel => exact ⟨k + 1, again', s', by omega, by go_num, rfl, HSKP.out, HROWX.out, HGX.out⟩
                case measure => simp [intOf]; omega
          · obtain rfl : k = n := by omega
            have HX := HNX.out _ _ _ _ HLP.out HMID.out
            go_wp2
            go_roundg (unseen s' + (if again' = true then 1 else 0))
            case measure => rw [HM.out]; exact HX.2
            case rel => exact ⟨again', s', rfl, rfl, HX.1, HROW.out, HGB.out⟩

end Go.Proofs.YtepnhemlhogmgaaDoor
