/- Texts put together: RefSure, WayTo, WayAny, SureOf, SureAll, Prove, PCheck, States, Begin. -/
import Derived.Test.YteabbanjjdmjkaaDoorGroupB
import Derived.Deep.DeepCutAuto
import Derived.Deep.LoopGhost
import Derived.Test.YteabbanjjdmjkaaDoorGroupA
import Derived.Laws.ResultCell
import Derived.Deep.Cut
/- Contracts of the document's answer to P3.1 and P3.2 (package tierlineref): Behind, wayTo. -/
namespace Go.Proofs.YteabbanjjdmjkaaDoor
open Go Go.RowKit

theorem ints_third3 (w : World) (o1 o2 : Obj) (l : List Int) (t : Nat) (hm : l.length ≤ 10) : IntsVal (((w.alloc o1).alloc o2).alloc (.cells (i64s l).toArray t)) (.slice (some ⟨w.heap.size + 1 + 1, 0, none⟩) l.length l.length) l := by
  have hg : (((w.alloc o1).alloc o2).alloc (.cells (i64s l).toArray t)).heap[w.heap.size + 1 + 1]? = some (.cells (i64s l).toArray t) := by
    have := heap_alloc_new ((w.alloc o1).alloc o2) (.cells (i64s l).toArray t)
    simpa using this
  refine ⟨_, w.heap.size + 1 + 1, 0, _, l.length, rfl, rfl, fun _ => rfl, fun k hk => ?_, ⟨Nat.le_refl _, fun e => by cases e⟩, by unfold maxLen; omega⟩
  rw [Nat.zero_add, cell_of_row _ _ k (i64s l).toArray t (0, 0) hg]
  simp [i64s, hk]

set_option maxRecDepth 100000 in
theorem behind_any (fp fr : Int) (b off n cap pc : Nat) (x : Ins) (w : World) (hx : insAt w b (off + pc * 5) x) (h0 : x.op = 15 ∨ x.op = 16 → 0 ≤ x.imm) (hp : pc < n) (hn : n ≤ 1000) :
    Calls Tryd.prog 69 #[.agg #[.int .i64 fp, .int .i64 fr, .slice (some ⟨b, off, none⟩) n cap], .int .i64 pc] w fun e w' => ∃ v', e = .returned v' ∧ IntsVal w' v' (behindI x pc) ∧ (∀ b off n c, v' = .slice (some ⟨b, off, none⟩) n c → w.heap.size ≤ b) ∧ Below w.heap.size w w' := by
  obtain ⟨d0, d1, d2, d3, d4⟩ := hx
  obtain ⟨op, dst, a, b', imm⟩ := x
  dsimp only at h0 d0 d1 d2 d3 d4
  have t0 := fun o => cell_alloc d0 o
  have t1 := fun o => cell_alloc d1 o
  have t2 := fun o => cell_alloc d2 o
  have t3 := fun o => cell_alloc d3 o
  have t4 := fun o => cell_alloc d4 o
  have hpI : (pc : Int) < n := by omega
  clear d0 d1 d2 d3 d4
  by_cases h15 : op = 15
  · subst h15
    have e : behindI ⟨15, dst, a, b', imm⟩ pc = [imm] := by have := h0 (Or.inl rfl); simp [behindI, behind]; omega
    rw [e]
    clear e h0
    go_enter Tryd.func69, Tryd.ntmps69
    go_wp2
    go_ret
    exact ⟨_, rfl, ints_third3 w _ _ [imm] _ (by simp), fun b off n c h => by simp at h; omega, (((Below.refl _ _).alloc (Nat.le_refl _) _).alloc (by simp) _).alloc (by simp; omega) _⟩
  by_cases h16 : op = 16
  · subst h16
    have e : behindI ⟨16, dst, a, b', imm⟩ pc = [(pc : Int) + 1, imm] := by have := h0 (Or.inr rfl); simp [behindI, behind]; omega
    rw [e]
    clear e h0
    go_enter Tryd.func69, Tryd.ntmps69
    go_wp2
    go_ret
    exact ⟨_, rfl, ints_third3 w _ _ [(pc : Int) + 1, imm] _ (by simp), fun b off n c h => by simp at h; omega, (((Below.refl _ _).alloc (Nat.le_refl _) _).alloc (by simp) _).alloc (by simp; omega) _⟩
  by_cases h19 : op = 19
  · subst h19
    have e : behindI ⟨19, dst, a, b', imm⟩ pc = [] := by simp [behindI, behind]
    rw [e]
    clear e h0
    go_enter Tryd.func69, Tryd.ntmps69
    go_wp2
    go_ret
    exact ⟨_, rfl, ints_nil _, fun b off n c h => by simp at h, ((Below.refl _ _).alloc (Nat.le_refl _) _).alloc (by simp) _⟩
  · have e : behindI ⟨op, dst, a, b', imm⟩ pc = [(pc : Int) + 1] := by simp [behindI, behind, h15, h16, h19]
    have e1 : (op == 15) = false := by simpa using h15
    have e2 : (op == 16) = false := by simpa using h16
    have e3 : (op == 19) = false := by simpa using h19
    rw [e]
    clear e h0 h15 h16 h19
    go_enter Tryd.func69, Tryd.ntmps69
    go_wp2
    go_ret
    exact ⟨_, rfl, ints_third3 w _ _ [(pc : Int) + 1] _ (by simp), fun b off n c h => by simp at h; omega, (((Below.refl _ _).alloc (Nat.le_refl _) _).alloc (by simp) _).alloc (by simp; omega) _⟩

def bls (s : List Bool) : List Value := s.map Value.bool
abbrev BoolRow (w : World) (g n : Nat) (s : List Bool) : Prop := w.ownsRow 0 4 1 (.slice (some ⟨g, 0, none⟩) n n) n (bls s)
theorem bool_cell {w : World} {g n : Nat} {s : List Bool} (h : BoolRow w g n s) (hl : s.length = n) (i : Nat) (hi : i < n) : w.cell? ⟨g, i, none⟩ = some (.bool (s.getD i false)) := by
  rw [h.cellAt i (by omega)]; simp [bls, List.getD, show i < s.length by omega]
theorem bls_set (s : List Bool) (i : Nat) (v : Bool) : (bls s).set i (.bool v) = bls (s.set i v) := by simp [bls, List.map_set]
theorem infoBool : (Tryd.prog.info? 4).map (fun i => (i.zero, i.size, i.bytes)) = some (some (.bool false), 1, 1) := by kernel_rfl
theorem made_false (c : Nat) : (madeCells (Value.bool false).cells (c * 1)).toList = bls (List.replicate c false) := by
  simp [madeCells, bls, Value.cells]
  apply List.ext_getElem
  · simp
  · intro i h1 h2
    have : i % 1 = 0 := Nat.mod_one i
    simp [this]
theorem bool_store {w : World} {g n : Nat} {s : List Bool} (h : BoolRow w g n s) (i : Nat) (v : Bool) : BoolRow (w.setCell ⟨g, i, none⟩ (.bool v)) g n (s.set i v) ∧ w.grownBy (w.setCell ⟨g, i, none⟩ (.bool v)) (some g) := by
  have := h.stored i (.bool v)
  rw [bls_set] at this
  exact this

end Go.Proofs.YteabbanjjdmjkaaDoor

/- Contract of the document's wayTo: to which places is there a way on which a register is not set. -/
namespace Go.Proofs.YteabbanjjdmjkaaDoor
open Go Go.RowKit

theorem way_box (w : World) (cs : Array Value) (t i : Nat) (v : Value) (h : cs[i]? = some v) : (w.alloc (.cells cs t)).cell? ⟨w.heap.size, i, none⟩ = some v := by
  rw [cell_of_row (w.alloc (.cells cs t)) w.heap.size i cs t (0, 0) (heap_alloc_new w _)]; exact h

set_option maxRecDepth 100000 in
set_option maxHeartbeats 4000000 in
theorem wayTo_main (P : List Fn) (f : Fn) (hf : FnOk f) (hins : ∀ x ∈ f.code, InsOk P x ∧ (x.op = 15 ∨ x.op = 16 → 0 ≤ x.imm)) (cv : Value) (r : Int) (rn : Nat) (w : World) (hcv : CodeVal w cv f.code)
    (hr : (r = -1 ∧ rn = 63) ∨ (r = (rn : Int) ∧ rn < 12)) (hpr : f.params ≤ (rn : Int)) :
    Calls Tryd.prog 92 #[.agg #[.int .i64 f.params, .int .i64 f.regs, cv], .int .i64 r] w
      fun e w' => ∃ s, e = .returned (.slice (some ⟨w.heap.size + 1, 0, none⟩) (f.code.length + 1) (f.code.length + 1)) ∧ SeenSpec f rn s ∧ BoolRow w' (w.heap.size + 1) (f.code.length + 1) s ∧ Below w.heap.size w w' := by
  obtain ⟨iB, hiB, hzB0, hzB1, hzB2⟩ := info_parts infoBool
  have hl1 := hf.len1
  have hl2 := hf.len2
  have hp0 := hf.p0
  have hp2 := hf.p2
  obtain ⟨ao, b, off, n, cap, rfl, ⟨hlen, haddr, hat⟩, hcap, hmax⟩ := hcv
  obtain rfl := haddr (by omega)
  subst hlen
  have HF1 : Hid (SLoops f rn true ((List.replicate (f.code.length + 1) false).set 0 true)) := seen_first f rn hpr
  have HSP : Hid (∀ s, SLoops f rn false s → SeenSpec f rn s) := fun s h => h.spec
  have HNX : Hid (∀ again again' s s', SLoops f rn again s → SMid f rn s f.code.length 0 again' s' → SLoops f rn again' s' ∧ unseen s' + (if again' = true then 1 else 0) < unseen s + 1) := fun _ _ _ _ h m => h.next m
  have HLE : Hid (∀ again s, SLoops f rn again s → s.length = f.code.length + 1) := fun _ _ h => h.len
  have HGO : Hid (∀ pc, pc < f.code.length → ∀ t ∈ behind (insD f pc) pc, t < f.code.length + 1) := hf.goes
  have HAT : Hid (∀ k (h : k < f.code.length), ∃ x : Ins, insD f k = x ∧ insAt w b (off + k * 5) x ∧ InsOk P x ∧ (x.op = 15 ∨ x.op = 16 → 0 ≤ x.imm)) := fun k h =>
    ⟨f.code[k], insD_eq h, hat k h, hins _ (List.getElem_mem h)⟩
  have HNEW : Hid (∀ s0 s k e t again, SMid f rn s0 k e again s → k < f.code.length → s.getD k false = true → (setMask (insD f k)).testBit rn = false → (behind (insD f k) k)[e]? = some t → t < s0.length → s.getD t false = false → SMid f rn s0 k (e + 1) true (s.set t true)) :=
    fun _ _ _ _ _ _ h a b c d e => h.new a b c d e
  have hm0 := made_false (f.code.length + 1)
  have hbw : b < w.heap.size := World.block_lt_of_cell? _ _ (hat 0 (by omega)).1
  clear hat hins haddr
  generalize hN : f.code.length = n at *
  clear hN
  unfold maxLen at hmax
  obtain ⟨fp, hfp⟩ : ∃ z, z = f.params := ⟨_, rfl⟩
  obtain ⟨fr, hfr⟩ : ∃ z, z = f.regs := ⟨_, rfl⟩
  rw [← hfp] at hp0 hp2 hpr ⊢
  rw [← hfr]
  clear hfp hfr
  rcases hr with ⟨rfl, rfl⟩ | ⟨rfl, hr12⟩
  · go_enter Tryd.func92, Tryd.ntmps92
    go_wp2_with (at_make; refine wpList_make_full _ rfl (.tmp 14) (.tmp 14) 106 rfl 0 4 iB _ 1 Tryd.underlying106 hiB hzB0 hzB1 .i64 .i64 _ _ (n + 1) rfl rfl (by simp) (by simp) (by rw [hzB2]; omega) (by unfold maxLen; omega) (Nat.zero_le _) ?_; intro w1 hown1 hg1; rw [hm0] at hown1; simp only [World.size_alloc] at hown1; have hb1 := below_grown hg1; have hz1 : w.heap.size + 1 < w1.heap.size := (hown1.lt (w.heap.size + 1) rfl).2; have k0 := keeps_below hb1 _ _ (way_box w _ _ 0 (.int .i64 fp) rfl); have k1 := keeps_below hb1 _ _ (way_box w _ _ 1 (.int .i64 fr) rfl); have k2 := keeps_below hb1 _ _ (way_box w _ _ 2 (.slice (some ⟨b, off, none⟩) n cap) rfl); have c0 := bool_cell hown1 (by simp) 0 (by omega); have f0 := hown1.frozenAt 0)
    have HB1 : Hid (Below w.heap.size w w1) := ((Below.refl _ _).alloc (Nat.le_refl _) _).trans (hb1.mono (by simp))
    have HS := bool_store hown1 0 true
    have HS1 : Hid (BoolRow (w1.setCell ⟨w.heap.size + 1, 0, none⟩ (.bool true)) (w.heap.size + 1) (n + 1) ((List.replicate (n + 1) false).set 0 true)) := HS.1
    have HS2 : Hid (w1.grownBy (w1.setCell ⟨w.heap.size + 1, 0, none⟩ (.bool true)) (some (w.heap.size + 1))) := HS.2
    clear HS hown1 hg1 hb1 c0 f0 hm0
    go_loopg [6] (unseen ((List.replicate (n + 1) false).set 0 true) + 1) (fun m ag wr => ∃ (again : Bool) (s : List Bool), m = unseen s + (if again = true then 1 else 0) ∧ ag = .bool again ∧ SLoops f 63 again s ∧ BoolRow wr (w.heap.size + 1) (n + 1) s ∧ w1.grownBy wr (some (w.heap.size + 1)))
    case atStart => exact ⟨true, _, rfl, rfl, HF1.out, HS1.out, HS2.out⟩
    case round =>
      rename World => wa
      obtain ⟨again, s, hm, rfl, hlp, hrow, hgr⟩ := hrel
      have hll := HLE.out _ _ hlp
      have HM : Hid (gk = unseen s + (if again = true then 1 else 0)) := hm
      have HLP : Hid (SLoops f 63 again s) := hlp
      have HRW : Hid (BoolRow wa (w.heap.size + 1) (n + 1) s) := hrow
      have HGR : Hid (w1.grownBy wa (some (w.heap.size + 1))) := hgr
      have HBR : Hid (Below w.heap.size w wa) := below_gb HB1.out hgr (by omega) (by omega)
      clear hm hlp hgr hrow
      cases again
      · go_wp2
        go_ret
        exact ⟨s, rfl, HSP.out s HLP.out, HRW.out, HBR.out⟩
      · go_wp2
        go_loopw [6, 7] (fun ag i wr => ∃ (k : Nat) (again' : Bool) (s' : List Bool), k ≤ n ∧ i = .int .i64 k ∧ ag = .bool again' ∧ SMid f 63 s k 0 again' s' ∧ BoolRow wr (w.heap.size + 1) (n + 1) s' ∧ w1.grownBy wr (some (w.heap.size + 1))) (fun _ i _ => n - (intOf i).toNat)
        case atStart => exact ⟨0, false, s, Nat.zero_le _, rfl, rfl, SMid.start _ _ _, HRW.out, HGR.out⟩
        case round =>
          rename World => wb
          obtain ⟨k, again', s', hk, rfl, rfl, hmid, hrow, hgr⟩ := hrel
          have j0 := gb_cell hgr k0 (by show w.heap.size ≠ _; omega)
          have j1 := gb_cell hgr k1 (by show w.heap.size ≠ _; omega)
          have j2 := gb_cell hgr k2 (by show w.heap.size ≠ _; omega)
          have HBB : Hid (Below w.heap.size w wb) := below_gb HB1.out hgr (by omega) (by omega)
          have hzb : w.heap.size + 1 < wb.heap.size := by have := hgr.size; omega
          have hll' : s'.length = n + 1 := hmid.len.trans hll
          have HMID : Hid (SMid f 63 s k 0 again' s') := hmid
          have HROW : Hid (BoolRow wb (w.heap.size + 1) (n + 1) s') := hrow
          have HGB : Hid (w1.grownBy wb (some (w.heap.size + 1))) := hgr
          clear hmid hgr
          by_cases hlt : k < n
          · obtain ⟨x, hxe, hxi, hio, himm⟩ := HAT.out k hlt
            have hxi2 := hxi.keeps (keeps_below HBB.out)
            have hbeh := fun W (hW : insAt W b (off + k * 5) x) => behind_any fp fr b off n cap k x W hW himm hlt (by omega)
            have HXE : Hid (insD f k = x) := hxe
            have HXI : Hid (insAt wb b (off + k * 5) x) := hxi2
            have cs := bool_cell hrow hll' k (by omega)
            have cs2 := fun o => cell_alloc cs o
            have HTB : Hid ((setMask x).testBit 63 = (setMask x).testBit 63) := rfl
            have HSB : Hid (s'.getD k false = s'.getD k false) := rfl
            generalize htb : (setMask x).testBit 63 = tb at HTB
            generalize hsb : s'.getD k false = sb at cs2 HSB
            have HTB' : Hid ((setMask x).testBit 63 = tb) := htb
            have HSB' : Hid (s'.getD k false = sb) := hsb
            clear htb hsb HTB HSB cs hrow hxe hxi
            have HTB := HTB'
            have HSB := HSB'
            clear HTB' HSB'
            obtain ⟨op, dst, xa, xb, imm⟩ := x
            obtain ⟨d0, d1, d2, d3, d4⟩ := hxi2
            dsimp only at d0 d1 d2 d3 d4
            have hkI : (k : Int) < n := by omega
            have hkI2 : (k : Int) < n + 1 := by omega
            go_upto_region 12 with fail
            go_cut [59] (fun s59 wx => s59 = .bool (!sb || tb) ∧ wx = wb.alloc (.cells #[.int .i64 op, .int .i64 dst, .int .i64 xa, .int .i64 xb, .int .i64 imm] 60))
            case first =>
              have htb : tb = false := by rw [← HTB.out]; exact set_high _ hio.dst0 hio.dst1
              subst htb
              cases sb
              · go_wp2_with (go_at_call 68; refine (Sets_any _ _).mono ?_; rintro e w' ⟨rfl, hw'⟩; replace hw' := hw'.symm; subst hw')
                go_meet
                exact ⟨rfl, rfl⟩
              · go_wp2_with (go_at_call 68; refine (Sets_any _ _).mono ?_; rintro e w' ⟨rfl, hw'⟩; replace hw' := hw'.symm; subst hw')
                go_meet
                exact ⟨rfl, rfl⟩
            case rest =>
              obtain ⟨rfl, rfl⟩ := hcut
              have HROWX : Hid (BoolRow (wb.alloc (.cells #[.int .i64 op, .int .i64 dst, .int .i64 xa, .int .i64 xb, .int .i64 imm] 60)) (w.heap.size + 1) (n + 1) s') := HROW.out.alloc _
              have HGX : Hid (w1.grownBy (wb.alloc (.cells #[.int .i64 op, .int .i64 dst, .int .i64 xa, .int .i64 xb, .int .i64 imm] 60)) (some (w.heap.size + 1))) := gb_trans HGB.out (gb_alloc wb _ _)
              cases hsk : (!sb || tb)
              · have hsb : sb = true := by revert hsk; cases sb <;> simp
                have htb : tb = false := by revert hsk; cases tb <;> simp
                subst hsb
                subst htb
                have i0 := cell_alloc j0
                have i1 := cell_alloc j1
                have i2 := cell_alloc j2
                clear hsk
                go_wp2_with (go_at_call 69; refine (hbeh _ (HXI.out.keeps (keeps_below ((Below.refl _ _).alloc (Nat.le_refl _) _)))).mono ?_; rintro e w2 ⟨v2, rfl, hI2, hfr2, hb2⟩; obtain ⟨ao2, b2, off2, n2, cap2, rfl, hl2', ha2, hc2, hcp2, hmx2⟩ := hI2)
                have hz2 : wb.heap.size < w2.heap.size := by have := hb2.size; simp at this; omega
                have HROW2 : Hid (BoolRow w2 (w.heap.size + 1) (n + 1) s') := ownsRow_below HROWX.out hb2
                have HG2 : Hid (w1.grownBy w2 (some (w.heap.size + 1))) := gb_trans HGX.out (gb_below _ hb2)
                have HFR : Hid (∀ b off n c, Value.slice ao2 n2 cap2 = .slice (some ⟨b, off, none⟩) n c → (wb.alloc (.cells #[.int .i64 op, .int .i64 dst, .int .i64 xa, .int .i64 xb, .int .i64 imm] 60)).heap.size ≤ b) := hfr2
                have HL2 : Hid ((behindI ⟨op, dst, xa, xb, imm⟩ k).length = n2) := hl2'
                have HA2 : Hid (0 < n2 → ao2 = some ⟨b2, off2, none⟩) := ha2
                have HC2 : Hid (∀ q (h : q < (behindI ⟨op, dst, xa, xb, imm⟩ k).length), w2.cell? ⟨b2, off2 + q, none⟩ = some (.int .i64 (behindI ⟨op, dst, xa, xb, imm⟩ k)[q])) := hc2
                have hcp := hcp2.1
                unfold maxLen at hmx2
                clear hl2' ha2 hc2 hcp2 hfr2 hb2 hbeh d0 d1 d2 d3 d4 i0 i1 i2 cs2
                go_loopw [6, 10] (fun ag i wr => ∃ (e : Nat) (ag' : Bool) (s2 : List Bool), e ≤ n2 ∧ i = .int .i64 e ∧ ag = .bool ag' ∧ SMid f 63 s k e ag' s2 ∧ s2.getD k false = true ∧ BoolRow wr (w.heap.size + 1) (n + 1) s2 ∧ w2.grownBy wr (some (w.heap.size + 1))) (fun _ i _ => n2 - (intOf i).toNat)
                case atStart => exact ⟨0, again', s', Nat.zero_le _, rfl, rfl, HMID.out, HSB.out, HROW2.out, gb_refl _ _⟩
                case round =>
                  obtain ⟨e, ag', s2, he, rfl, rfl, hmid, hsk2, hrow, hgr⟩ := hrel
                  by_cases hle : e < n2
                  · obtain rfl := HA2.out (by omega)
                    have heb : e < (behindI ⟨op, dst, xa, xb, imm⟩ k).length := by rw [HL2.out]; exact hle
                    have heb2 : e < (behind ⟨op, dst, xa, xb, imm⟩ k).length := by simpa [behindI] using heb
                    have hbg1 : b2 ≠ w.heap.size + 1 := by have := HFR.out b2 off2 n2 cap2 rfl; simp at this; omega
                    have cq := gb_cell hgr (HC2.out e heb) hbg1
                    have hto : (behindI ⟨op, dst, xa, xb, imm⟩ k)[e] = (((behind ⟨op, dst, xa, xb, imm⟩ k)[e] : Nat) : Int) := by simp [behindI]
                    rw [hto] at cq
                    have HTO : Hid ((behind (insD f k) k)[e]? = some (behind ⟨op, dst, xa, xb, imm⟩ k)[e]) := by
                      show _ = _
                      rw [HXE.out]; exact List.getElem?_eq_getElem heb2
                    have hgo : (behind ⟨op, dst, xa, xb, imm⟩ k)[e] < n + 1 := HGO.out k hlt _ (by rw [HXE.out]; exact List.getElem_mem heb2)
                    generalize (behind ⟨op, dst, xa, xb, imm⟩ k)[e] = tt at cq HTO hgo
                    clear hto heb heb2
                    have hls : s2.length = n + 1 := hmid.len.trans hll
                    have ct := bool_cell hrow hls tt hgo
                    have cf := hrow.frozenAt tt
                    have heI : (e : Int) < n2 := by omega
                    have htI : (tt : Int) < n + 1 := by omega
                    have HST := bool_store hrow tt true
                    have HR2 : Hid (BoolRow wr (w.heap.size + 1) (n + 1) s2) := hrow
                    have HGI : Hid (w2.grownBy wr (some (w.heap.size + 1))) := hgr
                    have HS3 : Hid (BoolRow (wr.setCell ⟨w.heap.size + 1, tt, none⟩ (.bool true)) (w.heap.size + 1) (n + 1) (s2.set tt true)) := HST.1
                    have HS4 : Hid (w2.grownBy (wr.setCell ⟨w.heap.size + 1, tt, none⟩ (.bool true)) (some (w.heap.size + 1))) := gb_trans hgr HST.2
                    cases hst : s2.getD tt false
                    · have HMN : Hid (SMid f 63 s k (e + 1) true (s2.set tt true)) := HNEW.out s s2 k e tt ag' hmid hlt hsk2 (by rw [HXE.out]; exact HTB.out) HTO.out (by omega) hst
                      have HKK : Hid ((s2.set tt true).getD k false = true) := by
                        show _ = _
                        rw [bget_set s2 tt k true (by omega)]; split
                        · rfl
                        · exact hsk2
                      rw [hst] at ct
                      clear HST hrow hgr hmid hsk2 hst
                      go_wp2
                      go_roundw
                      case rel => exact ⟨e + 1, true, s2.set tt true, by omega, by go_num, rfl, HMN.out, HKK.out, HS3.out, HS4.out⟩
                      case measure => simp [intOf]; omega
                    · have HMN : Hid (SMid f 63 s k (e + 1) ag' s2) := hmid.old HTO.out hst
                      have HKK : Hid (s2.getD k false = true) := hsk2
                      rw [hst] at ct
                      clear HST hrow hgr hmid hsk2 hst
                      go_wp2
                      go_roundw
                      case rel => exact ⟨e + 1, ag', s2, by omega, by go_num, rfl, HMN.out, HKK.out, HR2.out, HGI.out⟩
                      case measure => simp [intOf]; omega
                  · obtain rfl : e = n2 := by omega
                    have HNX2 : Hid (SMid f 63 s (k + 1) 0 ag' s2) := hmid.next (by rw [HXE.out]; have := HL2.out; simp [behindI] at this; omega)
                    have HR2 : Hid (BoolRow wr (w.heap.size + 1) (n + 1) s2) := hrow
                    have HGI : Hid (w1.grownBy wr (some (w.heap.size + 1))) := gb_trans HG2.out hgr
                    clear hmid hrow hgr hsk2
                    go_wp2
                    go_roundw
                    case rel => exact ⟨k + 1, ag', s2, by omega, by go_num, rfl, HNX2.out, HR2.out, HGI.out⟩
                    case measure => simp [intOf]; omega
              · have HSKP : Hid (SMid f 63 s (k + 1) 0 again' s') := HMID.out.skip (by
                  rw [HXE.out, HTB.out, HSB.out]
                  revert hsk; cases sb <;> cases tb <;> simp)
                clear hsk
                go_wp2
                go_roundw
                case rel => exact ⟨k + 1, again', s', by omega, by go_num, rfl, HSKP.out, HROWX.out, HGX.out⟩
                case measure => simp [intOf]; omega
          · obtain rfl : k = n := by omega
            have HX := HNX.out _ _ _ _ HLP.out HMID.out
            go_wp2
            go_roundg (unseen s' + (if again' = true then 1 else 0))
            case measure => rw [HM.out]; exact HX.2
            case rel => exact ⟨again', s', rfl, rfl, HX.1, HROW.out, HGB.out⟩
  · go_enter Tryd.func92, Tryd.ntmps92
    go_wp2_with (at_make; refine wpList_make_full _ rfl (.tmp 14) (.tmp 14) 106 rfl 0 4 iB _ 1 Tryd.underlying106 hiB hzB0 hzB1 .i64 .i64 _ _ (n + 1) rfl rfl (by simp) (by simp) (by rw [hzB2]; omega) (by unfold maxLen; omega) (Nat.zero_le _) ?_; intro w1 hown1 hg1; rw [hm0] at hown1; simp only [World.size_alloc] at hown1; have hb1 := below_grown hg1; have hz1 : w.heap.size + 1 < w1.heap.size := (hown1.lt (w.heap.size + 1) rfl).2; have k0 := keeps_below hb1 _ _ (way_box w _ _ 0 (.int .i64 fp) rfl); have k1 := keeps_below hb1 _ _ (way_box w _ _ 1 (.int .i64 fr) rfl); have k2 := keeps_below hb1 _ _ (way_box w _ _ 2 (.slice (some ⟨b, off, none⟩) n cap) rfl); have c0 := bool_cell hown1 (by simp) 0 (by omega); have f0 := hown1.frozenAt 0)
    have HB1 : Hid (Below w.heap.size w w1) := ((Below.refl _ _).alloc (Nat.le_refl _) _).trans (hb1.mono (by simp))
    have HS := bool_store hown1 0 true
    have HS1 : Hid (BoolRow (w1.setCell ⟨w.heap.size + 1, 0, none⟩ (.bool true)) (w.heap.size + 1) (n + 1) ((List.replicate (n + 1) false).set 0 true)) := HS.1
    have HS2 : Hid (w1.grownBy (w1.setCell ⟨w.heap.size + 1, 0, none⟩ (.bool true)) (some (w.heap.size + 1))) := HS.2
    clear HS hown1 hg1 hb1 c0 f0 hm0
    go_loopg [6] (unseen ((List.replicate (n + 1) false).set 0 true) + 1) (fun m ag wr => ∃ (again : Bool) (s : List Bool), m = unseen s + (if again = true then 1 else 0) ∧ ag = .bool again ∧ SLoops f rn again s ∧ BoolRow wr (w.heap.size + 1) (n + 1) s ∧ w1.grownBy wr (some (w.heap.size + 1)))
    case atStart => exact ⟨true, _, rfl, rfl, HF1.out, HS1.out, HS2.out⟩
    case round =>
      rename World => wa
      obtain ⟨again, s, hm, rfl, hlp, hrow, hgr⟩ := hrel
      have hll := HLE.out _ _ hlp
      have HM : Hid (gk = unseen s + (if again = true then 1 else 0)) := hm
      have HLP : Hid (SLoops f rn again s) := hlp
      have HRW : Hid (BoolRow wa (w.heap.size + 1) (n + 1) s) := hrow
      have HGR : Hid (w1.grownBy wa (some (w.heap.size + 1))) := hgr
      have HBR : Hid (Below w.heap.size w wa) := below_gb HB1.out hgr (by omega) (by omega)
      clear hm hlp hgr hrow
      cases again
      · go_wp2
        go_ret
        exact ⟨s, rfl, HSP.out s HLP.out, HRW.out, HBR.out⟩
      · go_wp2
        go_loopw [6, 7] (fun ag i wr => ∃ (k : Nat) (again' : Bool) (s' : List Bool), k ≤ n ∧ i = .int .i64 k ∧ ag = .bool again' ∧ SMid f rn s k 0 again' s' ∧ BoolRow wr (w.heap.size + 1) (n + 1) s' ∧ w1.grownBy wr (some (w.heap.size + 1))) (fun _ i _ => n - (intOf i).toNat)
        case atStart => exact ⟨0, false, s, Nat.zero_le _, rfl, rfl, SMid.start _ _ _, HRW.out, HGR.out⟩
        case round =>
          rename World => wb
          obtain ⟨k, again', s', hk, rfl, rfl, hmid, hrow, hgr⟩ := hrel
          have j0 := gb_cell hgr k0 (by show w.heap.size ≠ _; omega)
          have j1 := gb_cell hgr k1 (by show w.heap.size ≠ _; omega)
          have j2 := gb_cell hgr k2 (by show w.heap.size ≠ _; omega)
          have HBB : Hid (Below w.heap.size w wb) := below_gb HB1.out hgr (by omega) (by omega)
          have hzb : w.heap.size + 1 < wb.heap.size := by have := hgr.size; omega
          have hll' : s'.length = n + 1 := hmid.len.trans hll
          have HMID : Hid (SMid f rn s k 0 again' s') := hmid
          have HROW : Hid (BoolRow wb (w.heap.size + 1) (n + 1) s') := hrow
          have HGB : Hid (w1.grownBy wb (some (w.heap.size + 1))) := hgr
          clear hmid hgr
          by_cases hlt : k < n
          · obtain ⟨x, hxe, hxi, hio, himm⟩ := HAT.out k hlt
            have hxi2 := hxi.keeps (keeps_below HBB.out)
            have hbeh := fun W (hW : insAt W b (off + k * 5) x) => behind_any fp fr b off n cap k x W hW himm hlt (by omega)
            have HXE : Hid (insD f k = x) := hxe
            have HXI : Hid (insAt wb b (off + k * 5) x) := hxi2
            have cs := bool_cell hrow hll' k (by omega)
            have cs2 := fun o => cell_alloc cs o
            have HTB : Hid ((setMask x).testBit rn = (setMask x).testBit rn) := rfl
            have HSB : Hid (s'.getD k false = s'.getD k false) := rfl
            generalize htb : (setMask x).testBit rn = tb at HTB
            generalize hsb : s'.getD k false = sb at cs2 HSB
            have HTB' : Hid ((setMask x).testBit rn = tb) := htb
            have HSB' : Hid (s'.getD k false = sb) := hsb
            clear htb hsb HTB HSB cs hrow hxe hxi
            have HTB := HTB'
            have HSB := HSB'
            clear HTB' HSB'
            obtain ⟨op, dst, xa, xb, imm⟩ := x
            obtain ⟨d0, d1, d2, d3, d4⟩ := hxi2
            dsimp only at d0 d1 d2 d3 d4
            have hkI : (k : Int) < n := by omega
            have hkI2 : (k : Int) < n + 1 := by omega
            go_upto_region 12 with fail
            go_cut [59] (fun s59 wx => s59 = .bool (!sb || tb) ∧ wx = wb.alloc (.cells #[.int .i64 op, .int .i64 dst, .int .i64 xa, .int .i64 xb, .int .i64 imm] 60))
            case first =>
              have htb : tb = (setsB op && (dst == (rn : Int))) := by rw [← HTB.out]; exact set_bit _ hio.dst0 rn
              subst htb
              cases sb
              · go_wp2_with (go_at_call 68; refine (Sets_any _ _).mono ?_; rintro e w' ⟨rfl, hw'⟩; replace hw' := hw'.symm; subst hw')
                go_meet
                exact ⟨rfl, rfl⟩
              · cases hs : setsB op
                · go_wp2_with (go_at_call 68; refine (Sets_any _ _).mono ?_; rintro e w' ⟨rfl, hw'⟩; replace hw' := hw'.symm; subst hw')
                  go_meet
                  exact ⟨by simp [hs], rfl⟩
                · cases hd : (dst == (rn : Int))
                  · go_wp2_with (go_at_call 68; refine (Sets_any _ _).mono ?_; rintro e w' ⟨rfl, hw'⟩; replace hw' := hw'.symm; subst hw')
                    go_meet
                    exact ⟨by simp [hs, hd], rfl⟩
                  · go_wp2_with (go_at_call 68; refine (Sets_any _ _).mono ?_; rintro e w' ⟨rfl, hw'⟩; replace hw' := hw'.symm; subst hw')
                    go_meet
                    exact ⟨by simp [hs, hd], rfl⟩
            case rest =>
              obtain ⟨rfl, rfl⟩ := hcut
              have HROWX : Hid (BoolRow (wb.alloc (.cells #[.int .i64 op, .int .i64 dst, .int .i64 xa, .int .i64 xb, .int .i64 imm] 60)) (w.heap.size + 1) (n + 1) s') := HROW.out.alloc _
              have HGX : Hid (w1.grownBy (wb.alloc (.cells #[.int .i64 op, .int .i64 dst, .int .i64 xa, .int .i64 xb, .int .i64 imm] 60)) (some (w.heap.size + 1))) := gb_trans HGB.out (gb_alloc wb _ _)
              cases hsk : (!sb || tb)
              · have hsb : sb = true := by revert hsk; cases sb <;> simp
                have htb : tb = false := by revert hsk; cases tb <;> simp
                subst hsb
                subst htb
                have i0 := cell_alloc j0
                have i1 := cell_alloc j1
                have i2 := cell_alloc j2
                clear hsk
                go_wp2_with (go_at_call 69; refine (hbeh _ (HXI.out.keeps (keeps_below ((Below.refl _ _).alloc (Nat.le_refl _) _)))).mono ?_; rintro e w2 ⟨v2, rfl, hI2, hfr2, hb2⟩; obtain ⟨ao2, b2, off2, n2, cap2, rfl, hl2', ha2, hc2, hcp2, hmx2⟩ := hI2)
                have hz2 : wb.heap.size < w2.heap.size := by have := hb2.size; simp at this; omega
                have HROW2 : Hid (BoolRow w2 (w.heap.size + 1) (n + 1) s') := ownsRow_below HROWX.out hb2
                have HG2 : Hid (w1.grownBy w2 (some (w.heap.size + 1))) := gb_trans HGX.out (gb_below _ hb2)
                have HFR : Hid (∀ b off n c, Value.slice ao2 n2 cap2 = .slice (some ⟨b, off, none⟩) n c → (wb.alloc (.cells #[.int .i64 op, .int .i64 dst, .int .i64 xa, .int .i64 xb, .int .i64 imm] 60)).heap.size ≤ b) := hfr2
                have HL2 : Hid ((behindI ⟨op, dst, xa, xb, imm⟩ k).length = n2) := hl2'
                have HA2 : Hid (0 < n2 → ao2 = some ⟨b2, off2, none⟩) := ha2
                have HC2 : Hid (∀ q (h : q < (behindI ⟨op, dst, xa, xb, imm⟩ k).length), w2.cell? ⟨b2, off2 + q, none⟩ = some (.int .i64 (behindI ⟨op, dst, xa, xb, imm⟩ k)[q])) := hc2
                have hcp := hcp2.1
                unfold maxLen at hmx2
                clear hl2' ha2 hc2 hcp2 hfr2 hb2 hbeh d0 d1 d2 d3 d4 i0 i1 i2 cs2
                go_loopw [6, 10] (fun ag i wr => ∃ (e : Nat) (ag' : Bool) (s2 : List Bool), e ≤ n2 ∧ i = .int .i64 e ∧ ag = .bool ag' ∧ SMid f rn s k e ag' s2 ∧ s2.getD k false = true ∧ BoolRow wr (w.heap.size + 1) (n + 1) s2 ∧ w2.grownBy wr (some (w.heap.size + 1))) (fun _ i _ => n2 - (intOf i).toNat)
                case atStart => exact ⟨0, again', s', Nat.zero_le _, rfl, rfl, HMID.out, HSB.out, HROW2.out, gb_refl _ _⟩
                case round =>
                  obtain ⟨e, ag', s2, he, rfl, rfl, hmid, hsk2, hrow, hgr⟩ := hrel
                  by_cases hle : e < n2
                  · obtain rfl := HA2.out (by omega)
                    have heb : e < (behindI ⟨op, dst, xa, xb, imm⟩ k).length := by rw [HL2.out]; exact hle
                    have heb2 : e < (behind ⟨op, dst, xa, xb, imm⟩ k).length := by simpa [behindI] using heb
                    have hbg1 : b2 ≠ w.heap.size + 1 := by have := HFR.out b2 off2 n2 cap2 rfl; simp at this; omega
                    have cq := gb_cell hgr (HC2.out e heb) hbg1
                    have hto : (behindI ⟨op, dst, xa, xb, imm⟩ k)[e] = (((behind ⟨op, dst, xa, xb, imm⟩ k)[e] : Nat) : Int) := by simp [behindI]
                    rw [hto] at cq
                    have HTO : Hid ((behind (insD f k) k)[e]? = some (behind ⟨op, dst, xa, xb, imm⟩ k)[e]) := by
                      show _ = _
                      rw [HXE.out]; exact List.getElem?_eq_getElem heb2
                    have hgo : (behind ⟨op, dst, xa, xb, imm⟩ k)[e] < n + 1 := HGO.out k hlt _ (by rw [HXE.out]; exact List.getElem_mem heb2)
                    generalize (behind ⟨op, dst, xa, xb, imm⟩ k)[e] = tt at cq HTO hgo
                    clear hto heb heb2
                    have hls : s2.length = n + 1 := hmid.len.trans hll
                    have ct := bool_cell hrow hls tt hgo
                    have cf := hrow.frozenAt tt
                    have heI : (e : Int) < n2 := by omega
                    have htI : (tt : Int) < n + 1 := by omega
                    have HST := bool_store hrow tt true
                    have HR2 : Hid (BoolRow wr (w.heap.size + 1) (n + 1) s2) := hrow
                    have HGI : Hid (w2.grownBy wr (some (w.heap.size + 1))) := hgr
                    have HS3 : Hid (BoolRow (wr.setCell ⟨w.heap.size + 1, tt, none⟩ (.bool true)) (w.heap.size + 1) (n + 1) (s2.set tt true)) := HST.1
                    have HS4 : Hid (w2.grownBy (wr.setCell ⟨w.heap.size + 1, tt, none⟩ (.bool true)) (some (w.heap.size + 1))) := gb_trans hgr HST.2
                    cases hst : s2.getD tt false
                    · have HMN : Hid (SMid f rn s k (e + 1) true (s2.set tt true)) := HNEW.out s s2 k e tt ag' hmid hlt hsk2 (by rw [HXE.out]; exact HTB.out) HTO.out (by omega) hst
                      have HKK : Hid ((s2.set tt true).getD k false = true) := by
                        show _ = _
                        rw [bget_set s2 tt k true (by omega)]; split
                        · rfl
                        · exact hsk2
                      rw [hst] at ct
                      clear HST hrow hgr hmid hsk2 hst
                      go_wp2
                      go_roundw
                      case rel => exact ⟨e + 1, true, s2.set tt true, by omega, by go_num, rfl, HMN.out, HKK.out, HS3.out, HS4.out⟩
                      case measure => simp [intOf]; omega
                    · have HMN : Hid (SMid f rn s k (e + 1) ag' s2) := hmid.old HTO.out hst
                      have HKK : Hid (s2.getD k false = true) := hsk2
                      rw [hst] at ct
                      clear HST hrow hgr hmid hsk2 hst
                      go_wp2
                      go_roundw
                      case rel => exact ⟨e + 1, ag', s2, by omega, by go_num, rfl, HMN.out, HKK.out, HR2.out, HGI.out⟩
                      case measure => simp [intOf]; omega
                  · obtain rfl : e = n2 := by omega
                    have HNX2 : Hid (SMid f rn s (k + 1) 0 ag' s2) := hmid.next (by rw [HXE.out]; have := HL2.out; simp [behindI] at this; omega)
                    have HR2 : Hid (BoolRow wr (w.heap.size + 1) (n + 1) s2) := hrow
                    have HGI : Hid (w1.grownBy wr (some (w.heap.size + 1))) := gb_trans HG2.out hgr
                    clear hmid hrow hgr hsk2
                    go_wp2
                    go_roundw
                    case rel => exact ⟨k + 1, ag', s2, by omega, by go_num, rfl, HNX2.out, HR2.out, HGI.out⟩
                    case measure => simp [intOf]; omega
              · have HSKP : Hid (SMid f rn s (k + 1) 0 again' s') := HMID.out.skip (by
                  rw [HXE.out, HTB.out, HSB.out]
                  revert hsk; cases sb <;> cases tb <;> simp)
                clear hsk
                go_wp2
                go_roundw
                case rel => exact ⟨k + 1, again', s', by omega, by go_num, rfl, HSKP.out, HROWX.out, HGX.out⟩
                case measure => simp [intOf]; omega
          · obtain rfl : k = n := by omega
            have HX := HNX.out _ _ _ _ HLP.out HMID.out
            go_wp2
            go_roundg (unseen s' + (if again' = true then 1 else 0))
            case measure => rw [HM.out]; exact HX.2
            case rel => exact ⟨again', s', rfl, rfl, HX.1, HROW.out, HGB.out⟩

end Go.Proofs.YteabbanjjdmjkaaDoor

/- The document's wayTo, whatever the register. -/
namespace Go.Proofs.YteabbanjjdmjkaaDoor
open Go Go.RowKit

set_option maxRecDepth 100000 in
theorem wayTo_early (f : Fn) (hf : FnOk f) (cv : Value) (rn : Nat) (w : World) (hcv : CodeVal w cv f.code) (hpr : (rn : Int) < f.params) :
    Calls Tryd.prog 92 #[.agg #[.int .i64 f.params, .int .i64 f.regs, cv], .int .i64 (rn : Int)] w
      fun e w' => ∃ s, e = .returned (.slice (some ⟨w.heap.size + 1, 0, none⟩) (f.code.length + 1) (f.code.length + 1)) ∧ SeenSpec f rn s ∧ BoolRow w' (w.heap.size + 1) (f.code.length + 1) s ∧ Below w.heap.size w w' := by
  obtain ⟨iB, hiB, hzB0, hzB1, hzB2⟩ := info_parts infoBool
  have hl2 := hf.len2
  obtain ⟨ao, b, off, n, cap, rfl, ⟨hlen, haddr, hat⟩, hcap, hmax⟩ := hcv
  clear hat haddr
  subst hlen
  have HS : Hid (SeenSpec f rn (List.replicate (f.code.length + 1) false)) := seen_none hpr
  have hm0 := made_false (f.code.length + 1)
  generalize hN : f.code.length = n at *
  clear hN
  obtain ⟨fp, hfp⟩ : ∃ z, z = f.params := ⟨_, rfl⟩
  obtain ⟨fr, hfr⟩ : ∃ z, z = f.regs := ⟨_, rfl⟩
  rw [← hfp] at hpr ⊢
  rw [← hfr]
  clear hfp hfr
  unfold maxLen at hmax
  go_enter Tryd.func92, Tryd.ntmps92
  go_wp2_with (at_make; refine wpList_make_full _ rfl (.tmp 14) (.tmp 14) 106 rfl 0 4 iB _ 1 Tryd.underlying106 hiB hzB0 hzB1 .i64 .i64 _ _ (n + 1) rfl rfl (by simp) (by simp) (by rw [hzB2]; omega) (by unfold maxLen; omega) (Nat.zero_le _) ?_; intro w1 hown1 hg1; rw [hm0] at hown1; simp only [World.size_alloc] at hown1; have hb1 := below_grown hg1; have k0 := keeps_below hb1 _ _ (way_box w _ _ 0 (.int .i64 fp) rfl))
  go_ret
  exact ⟨_, rfl, HS.out, hown1, ((Below.refl _ _).alloc (Nat.le_refl _) _).trans (hb1.mono (by simp))⟩

theorem wayTo_any (P : List Fn) (f : Fn) (hf : FnOk f) (hins : ∀ x ∈ f.code, InsOk P x ∧ (x.op = 15 ∨ x.op = 16 → 0 ≤ x.imm)) (cv : Value) (r : Int) (rn : Nat) (w : World) (hcv : CodeVal w cv f.code)
    (hr : (r = -1 ∧ rn = 63) ∨ (r = (rn : Int) ∧ rn < 12)) :
    Calls Tryd.prog 92 #[.agg #[.int .i64 f.params, .int .i64 f.regs, cv], .int .i64 r] w
      fun e w' => ∃ s, e = .returned (.slice (some ⟨w.heap.size + 1, 0, none⟩) (f.code.length + 1) (f.code.length + 1)) ∧ SeenSpec f rn s ∧ BoolRow w' (w.heap.size + 1) (f.code.length + 1) s ∧ Below w.heap.size w w' := by
  by_cases hp : f.params ≤ (rn : Int)
  · exact wayTo_main P f hf hins cv r rn w hcv hr hp
  · have hp2 := hf.p2
    rcases hr with ⟨rfl, rfl⟩ | ⟨rfl, _⟩
    · omega
    · exact wayTo_early f hf cv rn w hcv (by omega)

end Go.Proofs.YteabbanjjdmjkaaDoor

/- Contract of the document's sureOf: the document's answer to P3.2, for one function. -/
namespace Go.Proofs.YteabbanjjdmjkaaDoor
open Go Go.RowKit

/-- Numbers of which so many bits are reckoned, up to a place one more. -/
def Outs (f : Fn) (n r k : Nat) (O : List Int) : Prop := O.length = n ∧ ∀ q, q < n → OutOk f (if q < k then r + 1 else r) q (O.getD q 0)
theorem outs_snoc {f : Fn} {k : Nat} {O : List Int} {v : Int} (h : O.length = k ∧ ∀ q, q < k → OutOk f 0 q (O.getD q 0)) (hv : OutOk f 0 k v) : (O ++ [v]).length = k + 1 ∧ ∀ q, q < k + 1 → OutOk f 0 q ((O ++ [v]).getD q 0) := by
  refine ⟨by simp [h.1], fun q hq => ?_⟩
  rcases Nat.lt_or_ge q k with hlt | hge
  · have e : (O ++ [v]).getD q 0 = O.getD q 0 := by simp [List.getD, List.getElem?_append_left (show q < O.length by omega)]
    rw [e]; exact h.2 q hlt
  · obtain rfl : q = k := by omega
    have e : (O ++ [v]).getD q 0 = v := by simp [List.getD, ← h.1]
    rw [e]; exact hv
theorem outs_set {f : Fn} {n r k : Nat} {O : List Int} {v : Int} (h : Outs f n r k O) (hk : k < n) (hv : OutOk f (r + 1) k v) : Outs f n r (k + 1) (O.set k v) := by
  refine ⟨by simp [h.1], fun q hq => ?_⟩
  have e : (O.set k v).getD q 0 = if q = k then v else O.getD q 0 := by
    rw [List.getD_eq_getElem?_getD, List.getElem?_set, List.getD_eq_getElem?_getD]
    by_cases h' : k = q
    · subst h'; simp [h.1, hk]
    · simp [h', Ne.symm h']
  rw [e]
  by_cases hqk : q = k
  · subst hqk; rw [if_pos rfl, if_pos (by omega)]; exact hv
  · rw [if_neg hqk]
    have := h.2 q hq
    by_cases hlt : q < k
    · rw [if_pos (by omega)]; rw [if_pos hlt] at this; exact this
    · rw [if_neg (by omega)]; rw [if_neg hlt] at this; exact this
theorem outs_same {f : Fn} {n r k : Nat} {O : List Int} (h : Outs f n r k O) (hk : k < n) (hn : Way f 63 k → Way f r k) : Outs f n r (k + 1) O := by
  refine ⟨h.1, fun q hq => ?_⟩
  have := h.2 q hq
  by_cases hqk : q = k
  · subst hqk; rw [if_pos (by omega)]; rw [if_neg (by omega)] at this; exact out_same this hn
  · by_cases hlt : q < k
    · rw [if_pos (by omega)]; rw [if_pos hlt] at this; exact this
    · rw [if_neg (by omega)]; rw [if_neg hlt] at this; exact this
theorem outs_next {f : Fn} {n r : Nat} {O : List Int} (h : Outs f n r n O) : Outs f n (r + 1) 0 O :=
  ⟨h.1, fun q hq => by have := h.2 q hq; rw [if_pos hq] at this; rw [if_neg (by omega)]; exact this⟩

theorem i64s_set (O : List Int) (i : Nat) (v : Int) : (i64s O).set i (.int .i64 v) = i64s (O.set i v) := by simp [i64s, List.map_set]
theorem row_store {w : World} {base g n cap : Nat} {O : List Int} (h : w.ownsRow base 3 1 (.slice (some ⟨g, 0, none⟩) n cap) n (i64s O)) (i : Nat) (v : Int) :
    (w.setCell ⟨g, i, none⟩ (.int .i64 v)).ownsRow base 3 1 (.slice (some ⟨g, 0, none⟩) n cap) n (i64s (O.set i v)) ∧ w.grownBy (w.setCell ⟨g, i, none⟩ (.int .i64 v)) (some g) := by
  have := h.stored i (.int .i64 v)
  rw [i64s_set] at this
  exact this
theorem row_cell {w : World} {base g n cap : Nat} {O : List Int} (h : w.ownsRow base 3 1 (.slice (some ⟨g, 0, none⟩) n cap) n (i64s O)) (i : Nat) (hi : i < n) : w.cell? ⟨g, i, none⟩ = some (.int .i64 (O.getD i 0)) := by
  rw [h.cellAt i (by omega)]
  have hl : O.length = n := by have := h.1; simp [i64s] at this; omega
  simp [i64s, List.getD, show i < O.length by omega]
theorem own_at {w : World} {base t size n : Nat} {v : Value} {xs : List Value} (h : w.ownsRow base t size v n xs) (hn : 0 < n) : ∃ g cap, v = .slice (some ⟨g, 0, none⟩) n cap ∧ base ≤ g ∧ g < w.heap.size ∧ cap ≤ maxLen ∧ n ≤ cap := by
  rcases h.2 with ⟨_, h0⟩ | ⟨g, cap, cur, rfl, hb, hg, hn, hm, _⟩
  · omega
  · exact ⟨g, cap, rfl, hb, lt_of_block hg, hm, hn⟩

set_option maxRecDepth 100000 in
set_option maxHeartbeats 4000000 in
theorem sureOf_any (P : List Fn) (f : Fn) (hf : FnOk f) (hins : ∀ x ∈ f.code, InsOk P x ∧ (x.op = 15 ∨ x.op = 16 → 0 ≤ x.imm)) (cv : Value) (w : World) (hcv : CodeVal w cv f.code) :
    Calls Tryd.prog 65 #[.agg #[.int .i64 f.params, .int .i64 f.regs, cv]] w
      fun e w' => ∃ v' L, e = .returned v' ∧ SureSpec f L ∧ IntsVal w' v' L ∧ Below w.heap.size w w' := by
  obtain ⟨i64i, hi64, hz0, hz1', hz2⟩ := info_parts info64
  have hl1 := hf.len1
  have hl2 := hf.len2
  have hW := fun r rn W a b => wayTo_any P f hf hins cv r rn W a b
  have HCV : Hid (CodeVal w cv f.code) := hcv
  obtain ⟨ao, b, off, n, cap, rfl, ⟨hlen, haddr, hat⟩, hcap, hmax⟩ := hcv
  obtain rfl := haddr (by omega)
  subst hlen
  have HSP : Hid (∀ O, Outs f (f.code.length + 1) 12 0 O → SureSpec f O) := fun O h => spec_of_out h.1 fun q hq => by have := h.2 q hq; rw [if_neg (by omega)] at this; exact this
  have HSE : Hid (∀ rn s, SeenSpec f rn s → s.length = f.code.length + 1 ∧ ∀ q, s.getD q false = true ↔ Way f rn q) := fun _ _ h => h
  clear hat hins haddr hf
  generalize f.code = fc at *
  generalize hN : fc.length = n at *
  clear hN
  unfold maxLen at hmax
  generalize f.params = fp at *
  generalize f.regs = fr at *
  have hcb : ∀ o, CodeVal (w.alloc o) (.slice (some ⟨b, off, none⟩) n cap) fc := fun o => HCV.out.keeps (keeps_below ((Below.refl _ _).alloc (Nat.le_refl _) _))
  go_enter Tryd.func65, Tryd.ntmps65
  go_wp2_with (go_at_call 92; refine (hW (-1) 63 _ (hcb _) (Or.inl ⟨rfl, rfl⟩)).mono ?_; rintro e w1 ⟨s, rfl, hseen, hrow1, hb1⟩; simp only [World.size_alloc] at hrow1; have k0 := keeps_below hb1 _ _ (way_box w _ _ 0 (.int .i64 fp) rfl); have k1 := keeps_below hb1 _ _ (way_box w _ _ 1 (.int .i64 fr) rfl); have k2 := keeps_below hb1 _ _ (way_box w _ _ 2 (.slice (some ⟨b, off, none⟩) n cap) rfl))
  have hz1 : w.heap.size + 1 + 1 < w1.heap.size := (hrow1.lt (w.heap.size + 1 + 1) rfl).2
  have HB1 : Hid (Below w.heap.size w w1) := ((Below.refl _ _).alloc (Nat.le_refl _) _).trans (hb1.mono (by simp))
  have HS63 := HSE.out _ _ hseen
  have hsl := HS63.1
  have HW63 : Hid (∀ q, s.getD q false = true ↔ Way f 63 q) := HS63.2
  have HROW1 : Hid (BoolRow w1 (w.heap.size + 1 + 1) (n + 1) s) := hrow1
  clear HS63 hseen hb1 hrow1
  go_loopw [4, 5] (fun v i wr => ∃ (k : Nat) (O : List Int), k ≤ n + 1 ∧ i = .int .i64 k ∧ (O.length = k ∧ ∀ q, q < k → OutOk f 0 q (O.getD q 0)) ∧ wr.ownsRow w1.heap.size 3 1 v k (i64s O) ∧ Below w1.heap.size w1 wr) (fun _ i _ => n + 1 - (intOf i).toNat)
  case atStart => exact ⟨0, [], Nat.zero_le _, rfl, ⟨rfl, fun q h => by omega⟩, World.ownsRow_nil _ _ _ _, Below.refl _ _⟩
  case round =>
    rename World => wa
    obtain ⟨k, O, hk, rfl, hO, hown, hba⟩ := hrel
    have j0 := keeps_below hba _ _ k0
    have j1 := keeps_below hba _ _ k1
    have j2 := keeps_below hba _ _ k2
    have hza : w1.heap.size ≤ wa.heap.size := hba.size
    have HOUT : Hid (O.length = k ∧ ∀ q, q < k → OutOk f 0 q (O.getD q 0)) := hO
    have HBA : Hid (Below w1.heap.size w1 wa) := hba
    by_cases hlt : k ≤ n
    · have cr := fun o => cell_alloc (keeps_below hba _ _ (bool_cell HROW1.out hsl k (by omega))) o
      have crr := bool_cell HROW1.out hsl k (by omega)
      obtain ⟨aov, capv, rfl⟩ := own_shape hown
      have hkI : (k : Int) ≤ n := by omega
      have hkI2 : (k : Int) < n + 1 := by omega
      have HSB : Hid (s.getD k false = true ↔ Way f 63 k) := HW63.out k
      generalize s.getD k false = sb at crr cr HSB
      clear hba hO
      cases sb
      · have HV : Hid (OutOk f 0 k (-1)) := out_zero_no (fun h => by have := HSB.out.2 h; cases this)
        go_wp2_with (at_builtin; refine wpList_append_own _ rfl (.tmp 19) (.tmp 20) 27 rfl w1.heap.size 3 i64i _ 1 8 Tryd.underlying27 hi64 hz0 hz1' hz2 rfl (by decide) _ _ _ rfl (hown.alloc _) ⟨_, 0, none⟩ 1 1 (i64s [-1]) rfl rfl (news_list _ _ _ _ rfl) (i64s_one _) (by unfold maxLen; omega) (by omega) (by simp; omega) ?_; intro v2 w2 hown2 hg2 _; rw [← i64s_append] at hown2; obtain ⟨g2, cap2, rfl, hgb, hgl, hm2, hn2⟩ := own_at hown2 (by omega); have hb2 : Below w1.heap.size w1 w2 := (HBA.out.alloc (by omega) _).trans (grown_base (hown.alloc _) (by simp; omega) hg2); have q0 := keeps_below hb2 _ _ k0; have q1 := keeps_below hb2 _ _ k1; have q2 := keeps_below hb2 _ _ k2; have qr := keeps_below hb2 _ _ crr; have c2 := row_cell hown2 k (by omega); have f2 := hown2.frozenAt k)
        go_roundw
        case rel => exact ⟨k + 1, O ++ [-1], by omega, by go_num, outs_snoc HOUT.out HV.out, hown2, hb2⟩
        case measure => simp [intOf]; omega
      · have HV : Hid (OutOk f 0 k 0) := out_zero_yes (HSB.out.1 rfl)
        go_wp2_with (at_builtin; refine wpList_append_own _ rfl (.tmp 19) (.tmp 20) 27 rfl w1.heap.size 3 i64i _ 1 8 Tryd.underlying27 hi64 hz0 hz1' hz2 rfl (by decide) _ _ _ rfl (hown.alloc _) ⟨_, 0, none⟩ 1 1 (i64s [-1]) rfl rfl (news_list _ _ _ _ rfl) (i64s_one _) (by unfold maxLen; omega) (by omega) (by simp; omega) ?_; intro v2 w2 hown2 hg2 _; rw [← i64s_append] at hown2; obtain ⟨g2, cap2, rfl, hgb, hgl, hm2, hn2⟩ := own_at hown2 (by omega); have hb2 : Below w1.heap.size w1 w2 := (HBA.out.alloc (by omega) _).trans (grown_base (hown.alloc _) (by simp; omega) hg2); have q0 := keeps_below hb2 _ _ k0; have q1 := keeps_below hb2 _ _ k1; have q2 := keeps_below hb2 _ _ k2; have qr := keeps_below hb2 _ _ crr; have c2 := row_cell hown2 k (by omega); have f2 := hown2.frozenAt k)
        have HST := row_store hown2 k 0
        have HOL := HOUT.out.1
        have HSE2 : (O ++ [-1]).set k 0 = O ++ [0] := by rw [List.set_append_right _ _ (by omega)]; simp [HOL]
        rw [HSE2] at HST
        have HB3 := below_gb hb2 HST.2 hgb (by omega)
        go_roundw
        case rel => exact ⟨k + 1, O ++ [0], by omega, by go_num, outs_snoc HOUT.out HV.out, HST.1, HB3⟩
        case measure => simp [intOf]; omega
    · obtain rfl : k = n + 1 := by omega
      rw [show (((n + 1 : Nat)) : Int) = (n : Int) + 1 by omega]
      obtain ⟨g, capg, rfl, hgb, hgl, hmg, hng⟩ := own_at hown (by omega)
      have HO0 : Hid (Outs f (n + 1) 0 0 O) := ⟨hO.1, fun q hq => by rw [if_neg (by omega)]; exact hO.2 q hq⟩
      have HOWN : Hid (wa.ownsRow w1.heap.size 3 1 (.slice (some ⟨g, 0, none⟩) (n + 1) capg) (n + 1) (i64s O)) := hown
      unfold maxLen at hmg
      clear hO hba hown HOUT
      go_wp2
      go_loopw [6, 7] (fun pw i wr => ∃ (r : Nat) (O' : List Int), r ≤ 12 ∧ i = .int .i64 r ∧ pw = .int .i64 ((2 ^ r : Nat) : Int) ∧ Outs f (n + 1) r 0 O' ∧ wr.ownsRow w1.heap.size 3 1 (.slice (some ⟨g, 0, none⟩) (n + 1) capg) (n + 1) (i64s O') ∧ Below w1.heap.size w1 wr) (fun _ i _ => 12 - (intOf i).toNat)
      case atStart => exact ⟨0, O, by omega, rfl, rfl, HO0.out, HOWN.out, HBA.out⟩
      case round =>
        rename World => wb
        obtain ⟨r, O', hr, rfl, rfl, hO', hown', hbb⟩ := hrel
        have l0 := keeps_below hbb _ _ k0
        have l1 := keeps_below hbb _ _ k1
        have l2 := keeps_below hbb _ _ k2
        have hzb : w1.heap.size ≤ wb.heap.size := hbb.size
        have HBW : Hid (Below w.heap.size w wb) := HB1.out.trans (hbb.mono (by omega))
        by_cases hr12 : r < 12
        · have hgo := hW r r wb (HCV.out.keeps (keeps_below HBW.out)) (Or.inr ⟨rfl, hr12⟩)
          have HP2 : Hid (((2 ^ r : Nat) : Int) * 2 = ((2 ^ (r + 1) : Nat) : Int)) := by show _ = _; rw [Nat.pow_succ]; omega
          have hpl := two_lt r hr12
          have HPP : Hid ((2 ^ r : Nat) = 2 ^ r) := rfl
          generalize hpw : (2 ^ r : Nat) = pw at HP2 hpl HPP
          have HPW : Hid ((2 ^ r : Nat) = pw) := hpw
          have HOO : Hid (Outs f (n + 1) r 0 O') := hO'
          have HOW : Hid (wb.ownsRow w1.heap.size 3 1 (.slice (some ⟨g, 0, none⟩) (n + 1) capg) (n + 1) (i64s O')) := hown'
          have HBB : Hid (Below w1.heap.size w1 wb) := hbb
          clear hpw HPP hO' hown' hbb
          go_wp2_with (go_at_call 92; refine hgo.mono ?_; rintro e w2 ⟨s2, rfl, hseen2, hrow2, hb2⟩)
          have hz2 : wb.heap.size + 1 < w2.heap.size := (hrow2.lt (wb.heap.size + 1) rfl).2
          have HS2 := HSE.out _ _ hseen2
          have hsl2 := HS2.1
          have HWR : Hid (∀ q, s2.getD q false = true ↔ Way f r q) := HS2.2
          have HROW2 : Hid (BoolRow w2 (wb.heap.size + 1) (n + 1) s2) := hrow2
          have HOW2 : Hid (w2.ownsRow w1.heap.size 3 1 (.slice (some ⟨g, 0, none⟩) (n + 1) capg) (n + 1) (i64s O')) := ownsRow_below HOW.out hb2
          have hgwb : g < wb.heap.size := (HOW.out.lt g rfl).2
          have HB2 : Hid (Below w1.heap.size w1 w2) := below_call HBB.out hzb hb2
          have m2 := keeps_below hb2 _ _ l2
          clear HS2 hseen2 hrow2 hb2 hgo
          go_loopw [9] (fun i wr => ∃ (q : Nat) (O2 : List Int), q ≤ n + 1 ∧ i = .int .i64 q ∧ Outs f (n + 1) r q O2 ∧ wr.ownsRow w1.heap.size 3 1 (.slice (some ⟨g, 0, none⟩) (n + 1) capg) (n + 1) (i64s O2) ∧ w2.grownBy wr (some g)) (fun i _ => n + 1 - (intOf i).toNat)
          case atStart => exact ⟨0, O', Nat.zero_le _, rfl, HOO.out, HOW2.out, gb_refl _ _⟩
          case round =>
            obtain ⟨q, O2, hq, rfl, hO2, hown2, hgr⟩ := hrel
            have n2 := gb_cell hgr m2 (by show w.heap.size ≠ _; omega)
            have HBC : Hid (Below w1.heap.size w1 wr) := below_gb HB2.out hgr hgb (by omega)
            by_cases hqn : q ≤ n
            · have hqI : (q : Int) ≤ n := by omega
              have hqI2 : (q : Int) < n + 1 := by omega
              have cr := keeps_below HBC.out _ _ (bool_cell HROW1.out hsl q (by omega))
              have cu := gb_cell hgr (bool_cell HROW2.out hsl2 q (by omega)) (by show wb.heap.size + 1 ≠ _; omega)
              have co := row_cell hown2 q (by omega)
              have cf := hown2.frozenAt q
              have HA : Hid (s.getD q false = true ↔ Way f 63 q) := HW63.out q
              have HU : Hid (s2.getD q false = true ↔ Way f r q) := HWR.out q
              have hOq := hO2.2 q (by omega)
              rw [if_neg (by omega)] at hOq
              have HOQ : Hid (OutOk f r q (O2.getD q 0)) := hOq
              have HO2 : Hid (Outs f (n + 1) r q O2) := hO2
              have HOW3 : Hid (wr.ownsRow w1.heap.size 3 1 (.slice (some ⟨g, 0, none⟩) (n + 1) capg) (n + 1) (i64s O2)) := hown2
              have HGR : Hid (w2.grownBy wr (some g)) := hgr
              have HSTO : Hid (∀ v, (wr.setCell ⟨g, q, none⟩ (.int .i64 v)).ownsRow w1.heap.size 3 1 (.slice (some ⟨g, 0, none⟩) (n + 1) capg) (n + 1) (i64s (O2.set q v)) ∧ wr.grownBy (wr.setCell ⟨g, q, none⟩ (.int .i64 v)) (some g)) := fun v => row_store hown2 q v
              generalize s.getD q false = sa at cr HA
              generalize s2.getD q false = su at cu HU
              generalize O2.getD q 0 = ov at co HOQ
              clear hOq hO2 hown2 hgr
              cases sa
              · have HN : Hid (Outs f (n + 1) r (q + 1) O2) := outs_same HO2.out (by omega) (fun h => by have := HA.out.2 h; cases this)
                go_wp2
                go_roundw
                case rel => exact ⟨q + 1, O2, by omega, by go_num, HN.out, HOW3.out, HGR.out⟩
                case measure => simp [intOf]; omega
              · cases su
                · have HAD := out_add HOQ.out hr12 (HA.out.1 rfl) (fun h => by have := HU.out.2 h; cases this)
                  rw [HPW.out] at HAD
                  obtain ⟨hadd, v0, v1⟩ := HAD
                  have HN : Hid (Outs f (n + 1) r (q + 1) (O2.set q (ov + pw))) := outs_set HO2.out (by omega) hadd
                  have HSV := HSTO.out (ov + pw)
                  have HX1 : Hid _ := HSV.1
                  have HX2 : Hid _ := gb_trans HGR.out HSV.2
                  clear hadd HSV
                  go_wp2
                  go_roundw
                  case rel => exact ⟨q + 1, O2.set q (ov + pw), by omega, by go_num, HN.out, HX1.out, HX2.out⟩
                  case measure => simp [intOf]; omega
                · have HN : Hid (Outs f (n + 1) r (q + 1) O2) := outs_same HO2.out (by omega) (fun _ => HU.out.1 rfl)
                  go_wp2
                  go_roundw
                  case rel => exact ⟨q + 1, O2, by omega, by go_num, HN.out, HOW3.out, HGR.out⟩
                  case measure => simp [intOf]; omega
            · obtain rfl : q = n + 1 := by omega
              have HN : Hid (Outs f (n + 1) (r + 1) 0 O2) := outs_next hO2
              have HOW3 : Hid (wr.ownsRow w1.heap.size 3 1 (.slice (some ⟨g, 0, none⟩) (n + 1) capg) (n + 1) (i64s O2)) := hown2
              clear hO2 hown2 hgr
              go_wp2
              go_roundw
              case rel => exact ⟨r + 1, O2, by omega, by go_num, by rw [← HP2.out], HN.out, HOW3.out, HBC.out⟩
              case measure => simp [intOf]; omega
        · obtain rfl : r = 12 := by omega
          have HFIN : Hid (SureSpec f O') := HSP.out O' hO'
          have HIV : Hid (IntsVal wb (.slice (some ⟨g, 0, none⟩) (n + 1) capg) O') := by
            have hl : O'.length = n + 1 := hO'.1
            have := hown'
            rw [← hl] at this ⊢
            exact ints_of_own this
          clear hO' hown' hbb
          go_wp2
          go_ret
          exact ⟨_, O', rfl, HFIN.out, HIV.out, HBW.out⟩

end Go.Proofs.YteabbanjjdmjkaaDoor

/- Contracts of proof.Sure and of the document's SureOf. -/
namespace Go.Proofs.YteabbanjjdmjkaaDoor
open Go Go.RowKit

def fnAt (P : List Fn) (fn : Int) : Fn := P.getD fn.toNat ⟨0, 0, []⟩
/-- What P3.2 answers. -/
def SureAns (P : List Fn) (fn : Int) (A : List Int) : Prop :=
  (fnErr P fn ≠ 0 ∧ A = []) ∨ (fnErr P fn = 0 ∧ ∃ L, SureSpec (fnAt P fn) L ∧ A = L.take (fnAt P fn).code.length)
theorem sureAns_unique {P : List Fn} {fn : Int} {A A' : List Int} (h : SureAns P fn A) (h' : SureAns P fn A') : A = A' := by
  rcases h with ⟨h1, rfl⟩ | ⟨h1, L, hL, rfl⟩ <;> rcases h' with ⟨h2, rfl⟩ | ⟨h2, L', hL', rfl⟩
  · rfl
  · exact absurd h2 h1
  · exact absurd h1 h2
  · rw [sure_unique hL hL']

/-- A function of a program that lies in memory. -/
theorem prog_fn {w : World} {v : Value} {P : List Fn} (hv : ProgVal w v P) {k : Nat} (hk : k < P.length) :
    ∃ b off cap u, v = .slice (some ⟨b, off, none⟩) P.length cap ∧ w.cell? ⟨b, off + k * 3, none⟩ = some (.int .i64 P[k].params) ∧ w.cell? ⟨b, off + k * 3 + 1, none⟩ = some (.int .i64 P[k].regs) ∧
      w.cell? ⟨b, off + k * 3 + 2, none⟩ = some u ∧ CodeVal w u P[k].code ∧ cap ≤ 9223372036854775807 ∧ P.length ≤ cap := by
  obtain ⟨ao, b, off, n, cap, rfl, ⟨hlen, haddr, hat⟩, hcap, hmax⟩ := hv
  subst hlen
  obtain rfl := haddr (by omega)
  obtain ⟨u, d0, d1, d2, hcv⟩ := hat k hk
  exact ⟨b, off, cap, u, rfl, d0, d1, d2, hcv, by simpa [maxLen] using hmax, hcap.1⟩

theorem sure_any (P : List Fn) (hP : codeProg P = 0) (f : Fn) (hf : f ∈ P) (cv : Value) (w : World) (ht : TabOk w) (hcv : CodeVal w cv f.code) :
    Calls Tryd.prog 90 #[.agg #[.int .i64 f.params, .int .i64 f.regs, cv]] w
      fun e w' => ∃ v' L, e = .returned (.tuple #[v', .int .i64 (L.getD f.code.length 0)]) ∧ SureSpec f L ∧ IntsVal w' v' (L.take f.code.length) ∧ Below w.heap.size w w' := by
  obtain ⟨hok, hins⟩ := fnOk_of hP hf
  obtain ⟨p, hp⟩ := Int.eq_ofNat_of_zero_le hok.p0
  exact sure_lit P f hok hins cv w ht hcv p hp (by have := hok.p2; omega)

set_option maxRecDepth 100000 in
set_option maxHeartbeats 1000000 in
theorem sure_all (P : List Fn) (v : Value) (fn : Int) (w : World) (ht : TabOk w) (hv : ProgVal w v P) :
    Calls Tryd.prog 71 #[.agg #[v], .int .i64 fn] w fun e w' => ∃ v' A, e = .returned (.tuple #[v', .int .i64 (fnErr P fn)]) ∧ SureAns P fn A ∧ IntsVal w' v' A ∧ Below w.heap.size w w' := by
  have hbx : ∀ o, Below w.heap.size w (w.alloc o) := fun o => (Below.refl _ _).alloc (Nat.le_refl _) _
  have hC := fun o => checkFunction_any P v fn (w.alloc o) (ht.below (hbx o)) (hv.keeps (keeps_below (hbx o)))
  by_cases h : fnErr P fn = 0
  · have HANS : Hid (∀ L, SureSpec (fnAt P fn) L → SureAns P fn (L.take (fnAt P fn).code.length)) := fun L hL => Or.inr ⟨h, L, hL, rfl⟩
    obtain ⟨h0, f0, f1⟩ := fnErr_zero h
    obtain ⟨k, rfl⟩ := Int.eq_ofNat_of_zero_le f0
    have hk : k < P.length := by omega
    have e : fnAt P (k : Int) = P[k] := by simp [fnAt, List.getD, hk]
    rw [e] at HANS
    have hS := fun W (hT : TabOk W) cv (hcv : CodeVal W cv P[k].code) => sure_any P h0 P[k] (List.getElem_mem hk) cv W hT hcv
    obtain ⟨b, off, cap, u, rfl, d0, d1, d2, hcv, hm, hc⟩ := prog_fn hv hk
    rw [h] at hC ⊢
    generalize hg : P[k] = g at HANS hS d0 d1 hcv
    have hcu := fun o => hcv.keeps (keeps_below (hbx o))
    obtain ⟨ao1, b1, off1, n1, cap1, rfl, _⟩ := hcv
    have hT := fun o => ht.below (hbx o)
    have t0 := fun o => cell_alloc d0 o
    have t1 := fun o => cell_alloc d1 o
    have t2 := fun o => cell_alloc d2 o
    have hkI : (k : Int) < P.length := by omega
    clear hg e f0 f1 h0 h hk d0 d1 d2 hbx ht hv
    go_enter Tryd.func71, Tryd.ntmps71
    go_wp2_with (first
      | (go_at_call 95; refine (hC _).mono ?_; rintro e w1 ⟨rfl, hb1⟩; have k0 := keeps_below hb1 ⟨w.heap.size, 0, none⟩ (.slice (some ⟨b, off, none⟩) P.length cap) (by simp); have k1 := keeps_below hb1 _ _ (t0 _); have k2 := keeps_below hb1 _ _ (t1 _); have k3 := keeps_below hb1 _ _ (t2 _); have hT1 := (hT _).below hb1; have hcu1 := (hcu _).keeps (keeps_below hb1))
      | (go_at_call 90; refine (hS _ hT1 _ hcu1).mono ?_; rintro e w2 ⟨v2, L, rfl, hsp, hI, hb2⟩; have hI' := hI; obtain ⟨ao2, b2, off2, n2, cap2, rfl, -⟩ := hI'))
    go_ret2
    exact ⟨_, _, rfl, HANS.out L hsp, hI, below_call (((Below.refl _ _).alloc (Nat.le_refl _) _).trans (hb1.mono (by simp))) (by have := hb1.size; simp at this; omega) hb2⟩
  · have HANS : Hid (SureAns P fn []) := Or.inl ⟨h, rfl⟩
    have h' : (fnErr P fn != 0) = true := by simpa using h
    obtain ⟨ao, b, off, n, cap, rfl, _⟩ := hv
    clear h ht hbx
    go_enter Tryd.func71, Tryd.ntmps71
    go_wp2_with (go_at_call 95; refine (hC _).mono ?_; rintro e w1 ⟨rfl, hb1⟩)
    go_ret2
    exact ⟨_, _, rfl, HANS.out, ints_nil _, ((Below.refl _ _).alloc (Nat.le_refl _) _).trans (hb1.mono (by simp))⟩

end Go.Proofs.YteabbanjjdmjkaaDoor

/- Contracts of proof.prove and proof.Check. -/
namespace Go.Proofs.YteabbanjjdmjkaaDoor
open Go Go.RowKit

theorem ints_get {w : World} {v : Value} {l : List Int} (h : IntsVal w v l) : ∃ ao b off n cap, v = .slice ao n cap ∧ l.length = n ∧ (0 < n → ao = some ⟨b, off, none⟩) ∧ (∀ k, k < n → w.cell? ⟨b, off + k, none⟩ = some (.int .i64 (l.getD k 0))) ∧ n ≤ cap ∧ cap ≤ 9223372036854775807 := by
  obtain ⟨ao, b, off, n, cap, rfl, hl, ha, hc, hcp, hm⟩ := h
  refine ⟨ao, b, off, n, cap, rfl, hl, ha, fun k hk => ?_, hcp.1, by simpa [maxLen] using hm⟩
  rw [hc k (by omega)]; simp [List.getD, show k < l.length by omega]

theorem ints_take {w : World} {v : Value} {L : List Int} {n : Nat} (h : IntsVal w v (L.take n)) (hl : L.length = n + 1) (hn : 1 ≤ n) :
    ∃ b off cap, v = .slice (some ⟨b, off, none⟩) n cap ∧ (∀ k, k < n → w.cell? ⟨b, off + k, none⟩ = some (.int .i64 (L.getD k 0))) ∧ n ≤ cap ∧ cap ≤ 9223372036854775807 := by
  obtain ⟨ao, b, off, n2, cap, rfl, hl2, ha, hc, hcp, hm⟩ := ints_get h
  have e : n2 = n := by rw [← hl2, List.length_take, hl]; omega
  subst e
  obtain rfl := ha (by omega)
  refine ⟨b, off, cap, rfl, fun k hk => ?_, hcp, hm⟩
  rw [hc k hk]; simp [List.getD, hk]

set_option maxRecDepth 100000 in
set_option maxHeartbeats 2000000 in
theorem prove_any (P : List Fn) (hP : codeProg P = 0) (f : Fn) (hf : f ∈ P) (v cv : Value) (w : World) (ht : TabOk w) (hc : CallOk w) (hv : ProgVal w v P) (hcv : CodeVal w cv f.code) :
    Calls Tryd.prog 61 #[.agg #[v], .agg #[.int .i64 f.params, .int .i64 f.regs, cv]] w fun e w' => ∃ E, e = .returned (.int .i64 E) ∧ ProvesTo P f E ∧ Below w.heap.size w w' := by
  have hbx : ∀ o o', Below w.heap.size w ((w.alloc o).alloc o') := fun o o' => ((Below.refl _ _).alloc (Nat.le_refl _) _).alloc (by simp) _
  have hS := fun o o' => sure_any P hP f hf cv ((w.alloc o).alloc o') (ht.below (hbx o o')) (hcv.keeps (keeps_below (hbx o o')))
  have HF := fnOk_of hP hf
  have hl1 := HF.1.len1
  have hl2 := HF.1.len2
  have HINS : Hid (∀ k (h : k < f.code.length), InsOk P f.code[k]) := fun k h => (HF.2 _ (List.getElem_mem h)).1
  have HBAD : Hid (∀ L k, k < f.code.length → badB P (L.getD k 0) (insD f k) = true → proveE P f L = 6) := fun L k hk h => prove_bad hk h
  have HGOOD : Hid (∀ L, (∀ k, k < f.code.length → badB P (L.getD k 0) (insD f k) = false) → proveE P f L = if L.getD f.code.length 0 = -1 then 0 else 7) := fun L h => prove_good h
  have HNUM : Hid (∀ L q, SureSpec f L → q < f.code.length + 1 → SureNum (L.getD q 0)) := fun L q h hq => h.num q hq
  have HLEN : Hid (∀ L, SureSpec f L → L.length = f.code.length + 1) := fun L h => h.1
  have HEQ : Hid (∀ k (h : k < f.code.length), insD f k = f.code[k]) := fun k h => insD_eq h
  have HPV : Hid (∀ W, Below w.heap.size w W → TabOk W ∧ CallOk W ∧ ProgVal W v P) := fun W hb => ⟨ht.below hb, hc.below hb, hv.keeps (keeps_below hb)⟩
  obtain ⟨ao, N, capp, rfl⟩ := hv.shape
  obtain ⟨ao1, b, off, n, cap, rfl, ⟨hlen, haddr, hat⟩, hcap, hmax⟩ := hcv
  obtain rfl := haddr (by omega)
  subst hlen
  have HAT : Hid (∀ k (h : k < f.code.length), insAt w b (off + k * 5) f.code[k]) := hat
  clear hat haddr ht hc hv HF
  unfold maxLen at hmax
  generalize hN : f.code.length = n at hS hl1 hl2 HBAD HGOOD HNUM HLEN hcap ⊢
  have HN : Hid (f.code.length = n) := hN
  clear hN
  go_enter Tryd.func61, Tryd.ntmps61
  go_wp2_with (go_at_call 90; refine (hS _ _).mono ?_; rintro e w1 ⟨v1, L, he, hsp, hI, hb1⟩; generalize hEV : L.getD n 0 = EV at he; subst he; obtain ⟨b2, off2, cap2, rfl, hc2, hcp2, hm2⟩ := ints_take hI (HLEN.out L hsp) hl1; have k0 := keeps_below hb1 ⟨w.heap.size, 0, none⟩ (.slice ao N capp) (cell_alloc (by simp) _); have k1 := keeps_below hb1 ⟨w.heap.size + 1, 2, none⟩ (.slice (some ⟨b, off, none⟩) n cap) (by simp); have HSP : Hid (SureSpec f L) := hsp; have HC2 : Hid (∀ k, k < n → w1.cell? ⟨b2, off2 + k, none⟩ = some (.int .i64 (L.getD k 0))) := hc2; have HBW : Hid (Below w.heap.size w w1) := (hbx _ _).trans (hb1.mono (by simp; omega)); have hz1 : w.heap.size + 1 < w1.heap.size := (by have := hb1.size; simp at this; omega); have HEV : Hid (EV = L.getD n 0) := hEV.symm; clear hsp hI hc2 hb1 hEV)
  go_loopw [17] (fun i wr => ∃ k : Nat, k ≤ n ∧ i = .int .i64 k ∧ (∀ j, j < k → badB P (L.getD j 0) (insD f j) = false) ∧ Below w1.heap.size w1 wr) (fun i _ => n - (intOf i).toNat)
  case atStart => exact ⟨0, Nat.zero_le _, rfl, fun j h => by omega, Below.refl _ _⟩
  case round =>
    obtain ⟨k, hk, rfl, hgood, hbr⟩ := hrel
    have j0 := keeps_below hbr _ _ k0
    have j1 := keeps_below hbr _ _ k1
    have hzr : w1.heap.size ≤ wr.heap.size := hbr.size
    have HGD : Hid (∀ j, j < k → badB P (L.getD j 0) (insD f j) = false) := hgood
    have HBR : Hid (Below w1.heap.size w1 wr) := hbr
    have HBW2 : Hid (Below w.heap.size w wr) := HBW.out.trans (hbr.mono (by omega))
    clear hgood
    by_cases hlt : k < n
    · have hkx : k < f.code.length := by rw [HN.out]; exact hlt
      obtain ⟨d0, d1, d2, d3, d4⟩ := (HAT.out k hkx).keeps (keeps_below HBW2.out)
      have hio := HINS.out k hkx
      have HX : Hid (insD f k = f.code[k]) := HEQ.out k hkx
      have cl := keeps_below hbr _ _ (HC2.out k hlt)
      have HBB := bad_bits P f.code[k] hio _ (HNUM.out L k HSP.out (by omega))
      generalize f.code[k] = x at d0 d1 d2 d3 d4 hio HX HBB
      have HZ : Hid (L.getD k 0 = L.getD k 0) := rfl
      obtain ⟨z, hz⟩ : ∃ z, z = L.getD k 0 := ⟨_, rfl⟩
      rw [← hz] at cl HBB
      have HZZ : Hid (z = L.getD k 0) := hz
      have hrb := fun W a b c => readBits_any P (.slice ao N capp) x W a b c hio
      generalize hRM : rdMask P x = RM at HBB hrb
      clear hz hio hRM HZ
      obtain ⟨op, dst, xa, xb, imm⟩ := x
      unfold Ins.val at hrb
      dsimp only at d0 d1 d2 d3 d4
      have hkI : (k : Int) < n := by omega
      generalize hbb : badB P z ⟨op, dst, xa, xb, imm⟩ = bb at HBB
      have HBBV : Hid (badB P (L.getD k 0) (insD f k) = bb) := by
        show _ = _
        rw [← HZZ.out, HX.out]; exact hbb
      have HBB2 : Hid ((bits .andNot .i64 (RM : Int) z != 0) = bb) := HBB
      have HPD : Hid (∀ d : Later (wr.alloc (.cells #[.int .i64 op, .int .i64 dst, .int .i64 xa, .int .i64 xb, .int .i64 imm] 60)), TabOk d.to ∧ CallOk d.to ∧ ProgVal d.to (.slice ao N capp) P) := fun d => HPV.out d.to ((HBW2.out.alloc (by have := HBW2.out.size; omega) _).trans (d.below.mono (by have := HBW2.out.size; simp; omega)))
      clear hbb HBB hbr
      go_wp2
      have e0 := Later.cell (cell_alloc j0 (.cells #[.int .i64 op, .int .i64 dst, .int .i64 xa, .int .i64 xb, .int .i64 imm] 60))
      have e1 := Later.cell (cell_alloc cl (.cells #[.int .i64 op, .int .i64 dst, .int .i64 xa, .int .i64 xb, .int .i64 imm] 60))
      have m0 := Later.cell (way_box wr #[.int .i64 op, .int .i64 dst, .int .i64 xa, .int .i64 xb, .int .i64 imm] 60 0 (.int .i64 op) rfl)
      have m1 := Later.cell (way_box wr #[.int .i64 op, .int .i64 dst, .int .i64 xa, .int .i64 xb, .int .i64 imm] 60 1 (.int .i64 dst) rfl)
      have m2 := Later.cell (way_box wr #[.int .i64 op, .int .i64 dst, .int .i64 xa, .int .i64 xb, .int .i64 imm] 60 2 (.int .i64 xa) rfl)
      have m3 := Later.cell (way_box wr #[.int .i64 op, .int .i64 dst, .int .i64 xa, .int .i64 xb, .int .i64 imm] 60 3 (.int .i64 xb) rfl)
      have m4 := Later.cell (way_box wr #[.int .i64 op, .int .i64 dst, .int .i64 xa, .int .i64 xb, .int .i64 imm] 60 4 (.int .i64 imm) rfl)
      clear d0 d1 d2 d3 d4 j0 j1 cl
      refine wp_region_later (by kernel_rfl) (by kernel_rfl) ?_
      repeat (go_big_quiet_step ((go_at_call 91; exact calls_later (hrb _ (HPD.out _).1 (HPD.out _).2.1 (HPD.out _).2.2))))
      refine wpQuiet_nil ?_
      intro _ hw'
      obtain ⟨d, hw''⟩ := hw'
      subst hw''
      have HBD : Hid (Below w1.heap.size w1 d.to) := (HBR.out.alloc hzr _).trans (d.below.mono (by simp; omega))
      have hbb2 := HBB2.out
      clear e0 e1 m0 m1 m2 m3 m4
      cases bb
      · go_wp2
        go_roundw
        case rel => exact ⟨k + 1, by omega, by go_num, fun j hj => by
            rcases Nat.lt_or_ge j k with h | h
            · exact HGD.out j h
            · obtain rfl : j = k := by omega
              exact HBBV.out, HBD.out⟩
        case measure => simp [intOf]; omega
      · go_wp2
        go_ret
        exact ⟨6, rfl, ⟨L, HSP.out, (HBAD.out L k hlt HBBV.out).symm⟩, HBW.out.trans (HBD.out.mono (by omega))⟩
    · obtain rfl : k = n := by omega
      have HPE : Hid (proveE P f L = if EV = -1 then 0 else 7) := by
        show _ = _
        rw [HEV.out]; exact HGOOD.out L HGD.out
      by_cases hev : EV = -1
      · have hb : (EV != -1) = false := by simpa using hev
        rw [if_pos hev] at HPE
        clear hev
        go_wp2
        go_ret
        exact ⟨0, rfl, ⟨L, HSP.out, HPE.out.symm⟩, HBW2.out⟩
      · have hb : (EV != -1) = true := by simpa using hev
        rw [if_neg hev] at HPE
        clear hev
        go_wp2
        go_ret
        exact ⟨7, rfl, ⟨L, HSP.out, HPE.out.symm⟩, HBW2.out⟩

end Go.Proofs.YteabbanjjdmjkaaDoor

/- Contract of proof.Check. -/
namespace Go.Proofs.YteabbanjjdmjkaaDoor
open Go Go.RowKit

set_option maxRecDepth 100000 in
set_option maxHeartbeats 1000000 in
theorem pcheck_any (P : List Fn) (v : Value) (w : World) (ht : TabOk w) (hc : CallOk w) (hv : ProgVal w v P) :
    Calls Tryd.prog 31 #[.agg #[v]] w fun e w' => ∃ E, e = .returned (.int .i64 E) ∧ ProofAns P E ∧ Below w.heap.size w w' := by
  have hbx : ∀ o, Below w.heap.size w (w.alloc o) := fun o => (Below.refl _ _).alloc (Nat.le_refl _) _
  have hC := fun o => check_any P v (w.alloc o) (ht.below (hbx o)) (hv.keeps (keeps_below (hbx o)))
  by_cases h0 : codeProg P = 0
  · have HANS : Hid (∀ E, ChecksTo P P E → ProofAns P E) := fun E h => Or.inr ⟨h0, h⟩
    have hPr := fun f hf cv W a b c d => prove_any P h0 f hf v cv W a b c d
    have HPV : Hid (∀ W, Below w.heap.size w W → TabOk W ∧ CallOk W ∧ ProgVal W v P) := fun W hb => ⟨ht.below hb, hc.below hb, hv.keeps (keeps_below hb)⟩
    rw [h0] at hC
    have hp1 := (codeProg_zero h0).1
    have hp4 := (codeProg_zero h0).2.1
    obtain ⟨ao, b, off, N, cap, rfl, ⟨hlen, haddr, hat⟩, hcap, hmax⟩ := hv
    obtain rfl := haddr (by omega)
    have HN : Hid (P.length = N) := hlen
    rw [hlen] at hp1 hp4
    unfold maxLen at hmax
    have HAT : Hid (∀ k (h : k < P.length), ∃ u, FnAt w b (off + k * 3) P[k] u) := hat
    have HPR : Hid (∀ k (h : k < P.length) cv W, TabOk W → CallOk W → ProgVal W (.slice (some ⟨b, off, none⟩) N cap) P → CodeVal W cv P[k].code → Calls Tryd.prog 61 #[.agg #[.slice (some ⟨b, off, none⟩) N cap], .agg #[.int .i64 P[k].params, .int .i64 P[k].regs, cv]] W fun e w' => ∃ E, e = .returned (.int .i64 E) ∧ ProvesTo P P[k] E ∧ Below W.heap.size W w') := fun k h cv W a b c d => hPr P[k] (List.getElem_mem h) cv W a b c d
    have HSN : Hid (∀ k (h : k < P.length), SoFar P k → ProvesTo P P[k] 0 → SoFar P (k + 1)) := fun k h a b => soFar_next a h b
    have HSB : Hid (∀ k (h : k < P.length) e, SoFar P k → ProvesTo P P[k] e → e ≠ 0 → ChecksTo P P e) := fun k h e a b c => soFar_bad a h b c
    have HSE : Hid (∀ k, SoFar P k → N ≤ k → ChecksTo P P 0) := fun k a b => soFar_end a (by omega)
    clear hat haddr hPr ht hc h0 hlen
    go_enter Tryd.func31, Tryd.ntmps31
    go_wp2_with (go_at_call 60; refine (hC _).mono ?_; rintro e w1 ⟨rfl, hb1⟩; have k0 := keeps_below hb1 ⟨w.heap.size, 0, none⟩ (.slice (some ⟨b, off, none⟩) N cap) (by simp); have HB1 : Hid (Below w.heap.size w w1) := ((Below.refl _ _).alloc (Nat.le_refl _) _).trans (hb1.mono (by simp)); have hz1 : w.heap.size < w1.heap.size := (by have := hb1.size; simp at this; omega); clear hb1)
    go_loopw [15] (fun i wr => ∃ k : Nat, k ≤ N ∧ i = .int .i64 k ∧ SoFar P k ∧ Below w1.heap.size w1 wr) (fun i _ => N - (intOf i).toNat)
    case atStart => exact ⟨0, Nat.zero_le _, rfl, soFar_zero P, Below.refl _ _⟩
    case round =>
      obtain ⟨k, hk, rfl, hsf, hbr⟩ := hrel
      have j0 := keeps_below hbr _ _ k0
      have hzr : w1.heap.size ≤ wr.heap.size := hbr.size
      have hzz : w.heap.size < wr.heap.size := by omega
      have HSF : Hid (SoFar P k) := hsf
      have HBR : Hid (Below w1.heap.size w1 wr) := hbr
      have HBW : Hid (Below w.heap.size w wr) := HB1.out.trans (hbr.mono (by omega))
      clear hsf hbr
      by_cases hlt : k < N
      · have hkx : k < P.length := by rw [HN.out]; exact hlt
        obtain ⟨u, hfn⟩ := HAT.out k hkx
        obtain ⟨d0, d1, d2, hu⟩ := hfn.keeps (keeps_below HBW.out)
        have hpk := fun cv W => HPR.out k hkx cv W
        have hsn := HSN.out k hkx
        have hsb := HSB.out k hkx
        have hua := fun o => hu.keeps (keeps_below ((Below.refl _ wr).alloc (Nat.le_refl _) o))
        obtain ⟨ao1, b1, off1, n1, cap1, rfl, _⟩ := hu
        generalize P[k] = g at d0 d1 hpk hsn hsb hua hfn
        have hPW := fun o => HPV.out (wr.alloc o) (HBW.out.alloc (by omega) o)
        have hkI : (k : Int) < N := by omega
        have HSNN : Hid (SoFar P k → ProvesTo P g 0 → SoFar P (k + 1)) := hsn
        have HSBB : Hid (∀ e, SoFar P k → ProvesTo P g e → e ≠ 0 → ChecksTo P P e) := hsb
        clear hsn hsb hfn
        go_wp2_with (go_at_call 61; refine (hpk _ _ (hPW _).1 (hPW _).2.1 (hPW _).2.2 (hua _)).mono ?_; rintro e w2 ⟨E, rfl, hpe, hb2⟩; have HPE : Hid (ProvesTo P g E) := hpe; have HB2 : Hid (Below w1.heap.size w1 w2) := below_step HBR.out hzr hb2; clear hpe hb2)
        · have hne : (E != 0) = true := by assumption
          go_ret
          exact ⟨E, rfl, HANS.out E (HSBB.out E HSF.out HPE.out (by simpa using hne)), HB1.out.trans (HB2.out.mono (by omega))⟩
        · have hne : (E != 0) = false := by assumption
          have hE : E = 0 := by simpa using hne
          subst hE
          go_roundw
          case rel => exact ⟨k + 1, by omega, by go_num, HSNN.out HSF.out HPE.out, HB2.out⟩
          case measure => simp [intOf]; omega
      · go_wp2
        go_ret
        exact ⟨0, rfl, HANS.out 0 (HSE.out k HSF.out (by omega)), HBW.out⟩
  · have HANS : Hid (ProofAns P (codeProg P)) := Or.inl ⟨h0, rfl⟩
    have h' : (codeProg P != 0) = true := by simpa using h0
    obtain ⟨ao, b, off, n, cap, rfl, _⟩ := hv
    clear h0 ht hc hbx
    go_enter Tryd.func31, Tryd.ntmps31
    go_wp2_with (go_at_call 60; refine (hC _).mono ?_; rintro e w1 ⟨rfl, hb1⟩)
    go_ret
    exact ⟨_, rfl, HANS.out, ((Below.refl _ _).alloc (Nat.le_refl _) _).trans (hb1.mono (by simp))⟩

end Go.Proofs.YteabbanjjdmjkaaDoor

/- States as plain data, how they lie in memory; contract of step.Begin. -/
namespace Go.Proofs.YteabbanjjdmjkaaDoor
open Go Go.RowKit

structure St where
  status : Int
  value : Int
  frames : List Fr
  mem : List Int
  fuel : Int
  events : List Int
  answers : List Int
def stCells (s : St) (fv ev av : Value) : List Value := [.int .i64 s.status, .int .i64 s.value, fv] ++ i64s s.mem ++ [.int .i64 s.fuel, ev, av]
/-- A state as a value. -/
def StVal (w : World) (v : Value) (s : St) : Prop := ∃ fv ev av, v = .agg (stCells s fv ev av).toArray ∧ s.mem.length = 16 ∧ FramesVal w fv s.frames ∧ IntsVal w ev s.events ∧ IntsVal w av s.answers
theorem StVal.keeps {w w' : World} {v : Value} {s : St} (h : StVal w v s) (k : Keeps w w') : StVal w' v s := by
  obtain ⟨fv, ev, av, rfl, hm, h1, h2, h3⟩ := h
  exact ⟨fv, ev, av, rfl, hm, h1.keeps k, h2.keeps k, h3.keeps k⟩
theorem stCells_length (s : St) (fv ev av : Value) (h : s.mem.length = 16) : (stCells s fv ev av).length = 22 := by simp [stCells, i64s, h]
theorem infoSt : (Tryd.prog.info? 29).map (·.size) = some 22 := by kernel_rfl
def noMem : List Int := List.replicate 16 0
def zeroSt : St := ⟨0, 0, [], noMem, 0, [], []⟩
def beginSt (args answers : List Int) (fuel : Int) : St := ⟨0, 0, [begunFr 0 args], noMem, fuel, [], answers⟩
def zeroStCells : Array Value := (stCells zeroSt (.slice none 0 0) (.slice none 0 0) (.slice none 0 0)).toArray
theorem frames_nil (w : World) : FramesVal w (.slice none 0 0) [] := ⟨fun f hf => by simp at hf, none, 0, 0, 0, 0, rfl, rfl, fun h => by omega, fun k h => by simp at h, ⟨Nat.le_refl _, fun _ => rfl⟩, by simp [maxLen]⟩
theorem zero_stVal (w : World) : StVal w (.agg zeroStCells) zeroSt := ⟨_, _, _, rfl, rfl, frames_nil w, ints_nil w, ints_nil w⟩

theorem results_row_tmp {P : Program} {fn : Func} {p u : Tmp} {ty : TypeId} (h : fn.results = #[.cell p ty, .tmp u]) (tmps : Array Value) (w : World) (g : Nat) (t : TypeId) (cs : Array Value) (fr : Nat × Nat) (d : TypeDesc)
    (hp : tmps.getD p undef = .pointer (some ⟨g, 0, none⟩)) (hg : w.heap[g]? = some (.cells cs t fr))
    (hu : P.underlying ty = some d) (hd : (match d with | .struct _ | .array _ _ => true | _ => false) = true) (hi : (P.info? ty).map (·.size) = some cs.size) :
    (results fn tmps).run P w = .ok (.tuple #[.agg cs, tmps.getD u undef]) w := by
  rw [results_cell_tmp h, hp]
  simp only [asAddr, Sem.run_pure, Result.andThen_ok, run_loadVar_row w g t ty cs fr d hg hu hd hi]
end Go.Proofs.YteabbanjjdmjkaaDoor

/- Contract of step.Begin. -/
namespace Go.Proofs.YteabbanjjdmjkaaDoor
open Go Go.RowKit

def par0 (P : List Fn) : Int := (P.getD 0 ⟨0, 0, []⟩).params
/-- How Begin refuses, behind what the proof says. -/
def beginE (E : Int) (P : List Fn) (args answers : List Int) (fuel : Int) : Int :=
  if ¬ E = 0 then E else if ¬ (args.length : Int) = par0 P ∨ 100 < answers.length then 1 else if fuel < 0 ∨ 10000 < fuel then 2 else 0
def beginS (e : Int) (args answers : List Int) (fuel : Int) : St := if e = 0 then beginSt args answers fuel else zeroSt
/-- A right program has a function 0 with at most two parameters. -/
theorem right_zero {P : List Fn} (h : ProofAns P 0) : codeProg P = 0 := by
  rcases h with ⟨h1, h2⟩ | ⟨h, _⟩
  · exact h2.symm
  · exact h
theorem right_head {w : World} {v : Value} {P : List Fn} (h : ProofAns P 0) (hv : ProgVal w v P) : ∃ b off cap, v = .slice (some ⟨b, off, none⟩) P.length cap ∧ w.cell? ⟨b, off, none⟩ = some (.int .i64 (par0 P)) ∧ 1 ≤ P.length ∧ P.length ≤ cap ∧ cap ≤ maxLen ∧ 0 ≤ par0 P ∧ par0 P ≤ 2 := by
  have h0 := right_zero h
  obtain ⟨h1, h4, hall⟩ := codeProg_zero h0
  obtain ⟨ao, b, off, n, cap, rfl, ⟨hlen, haddr, hat⟩, hcap, hmax⟩ := hv
  subst hlen
  obtain rfl := haddr (by omega)
  obtain ⟨u, d0, d1, d2, hcv⟩ := hat 0 (by omega)
  have e : par0 P = P[0].params := by unfold par0; simp [List.getD, List.getElem?_eq_getElem (show 0 < P.length by omega)]
  obtain ⟨_, _, p0, p2, _⟩ := codeFunc_zero (hall _ (List.getElem_mem (show 0 < P.length by omega)))
  refine ⟨b, off, cap, rfl, ?_, h1, hcap.1, hmax, ?_, ?_⟩
  · rw [e]; simpa using d0
  · rw [e]; exact p0
  · rw [e]; exact p2

/-- A struct is built, and laid into a block. -/
theorem wpList_build_store {P : Program} {ops : Array Oper} {rest : List Oper} {o1 o2 : Oper} {a : Act} {w : World} {Q : Exit → Act → World → Prop} (hg1 : o1.guard = none) (t : TypeId) (parts : Array (Nat × Operand)) (ho1 : o1.op = .build t parts)
    (cs : Array Value) (hf : P.built t (parts.map fun (i, x) => (i, a.eval x)).toList = some cs) (hg2 : o2.guard = none) (x y : Operand) (ho2 : o2.op = .store t x y) (g : Nat)
    (hx : (a.put o1.dst (.agg cs)).eval x = .pointer (some ⟨g, 0, none⟩)) (hy : (a.put o1.dst (.agg cs)).eval y = .agg cs) (ty : TypeId) (old : Array Value) (hg : w.heap[g]? = some (.cells old ty (0, 0))) (hi : (P.info? t).map (·.size) = some cs.size)
    (hold : old.size = cs.size) (h1 : cs.all (·.oneCell') = true) (h : wpList P ops Q rest ((a.put o1.dst (.agg cs)).put o2.dst undef) (w.setRow g cs)) : wpList P ops Q (o1 :: o2 :: rest) a w := by
  refine wpList_build hg1 t parts ho1 (by rw [hf]; rfl) ?_
  rw [hf]
  exact wpList_store_row hg2 t x y ho2 g cs hx hy ty old hg hi hold h1 h
theorem stCells_one (s : St) (fv ev av : Value) (h1 : fv.oneCell' = true) (h2 : ev.oneCell' = true) (h3 : av.oneCell' = true) : (stCells s fv ev av).toArray.all (·.oneCell') = true := by
  rw [Array.all_eq_true_iff_forall_mem]
  intro u hu
  simp [stCells] at hu
  rcases hu with rfl | rfl | rfl | hu | rfl | rfl | rfl
  · rfl
  · rfl
  · exact h1
  · exact i64s_one _ u hu
  · rfl
  · exact h2
  · exact h3
theorem zeroSt_one : zeroStCells.all (·.oneCell') = true := stCells_one _ _ _ _ rfl rfl rfl
theorem built_zero : Tryd.prog.built 29 [] = some zeroStCells := by kernel_rfl
theorem built_begin (a1 a2 : Option Addr) (n1 c1 n2 c2 : Nat) (fuel : Int) : Tryd.prog.built 29 [(2, .slice a1 n1 c1), (4, .int .i64 fuel), (6, .slice a2 n2 c2)] = some (stCells ⟨0, 0, [], noMem, fuel, [], []⟩ (.slice a1 n1 c1) (.slice none 0 0) (.slice a2 n2 c2)).toArray := by kernel_rfl

theorem list12 {l : List Int} (h : l.length = 12) : ∃ r0 r1 r2 r3 r4 r5 r6 r7 r8 r9 r10 r11, l = [r0, r1, r2, r3, r4, r5, r6, r7, r8, r9, r10, r11] := by
  match l, h with
  | [r0, r1, r2, r3, r4, r5, r6, r7, r8, r9, r10, r11], _ => exact ⟨r0, r1, r2, r3, r4, r5, r6, r7, r8, r9, r10, r11, rfl⟩
/-- A row of one frame. -/
theorem one_frame {w : World} {g : Nat} {f : Fr} (hf : f.regs.length = 12) (h : w.heap[g]? = some (.cells (frCells f).toArray 54 (0, 0))) : w.ownsRow g 54 14 (.slice (some ⟨g, 0, none⟩) 1 1) 1 (framesCells [f]) := by
  have hl := frCells_length f hf
  have e : framesCells [f] = frCells f := by simp [framesCells]
  rw [e]
  exact ⟨by omega, .inr ⟨g, 1, _, rfl, Nat.le_refl _, h, Nat.le_refl _, by simp [maxLen], by simp [hl], by simp; rw [List.take_of_length_le (by omega)]⟩⟩

theorem beginS_zero (args answers : List Int) (fuel : Int) : beginS 0 args answers fuel = beginSt args answers fuel := by unfold beginS; rw [if_pos rfl]
theorem setRow_other (w : World) (g : Nat) (cs : Array Value) (k : Nat) (h : k ≠ g) : (w.setRow g cs).heap[k]? = w.heap[k]? := by
  simp only [World.setRow, Array.getElem?_modify]; rw [if_neg (fun e => h e.symm)]
theorem ownsRow_setRow {w : World} {base t size n : Nat} {v : Value} {xs : List Value} (h : w.ownsRow base t size v n xs) {g : Nat} (hg : g < base) (cs : Array Value) : (w.setRow g cs).ownsRow base t size v n xs := by
  refine ⟨h.1, ?_⟩
  rcases h.2 with h2 | ⟨g', cap, cur, hv, hb, hh, r⟩
  · exact Or.inl h2
  · exact Or.inr ⟨g', cap, cur, hv, hb, (setRow_other w g cs g' (by omega)).trans hh, r⟩
/-- What Begin answers. -/
def BeginPost (P : List Fn) (args answers : List Int) (fuel : Int) (w : World) (e : Ending) (w' : World) : Prop :=
  ∃ E v', ProofAns P E ∧ e = .returned (.tuple #[v', .int .i64 (beginE E P args answers fuel)]) ∧ StVal w' v' (beginS (beginE E P args answers fuel) args answers fuel) ∧ Below w.heap.size w w'
set_option maxRecDepth 100000 in
set_option maxHeartbeats 1000000 in
theorem begin_any (P : List Fn) (v va vn : Value) (args answers : List Int) (fuel : Int) (w : World) (ht : TabOk w) (hc : CallOk w) (hv : ProgVal w v P) (hva : IntsVal w va args) (hvn : IntsVal w vn answers) :
    Calls Tryd.prog 56 #[.agg #[v], va, vn, .int .i64 fuel] w (BeginPost P args answers fuel w) := by
  have hbx : ∀ o o', Below w.heap.size w ((w.alloc o).alloc o') := fun o o' => ((Below.refl _ _).alloc (Nat.le_refl _) _).alloc (by simp) _
  have hC := fun o o' => pcheck_any P v ((w.alloc o).alloc o') (ht.below (hbx o o')) (hc.below (hbx o o')) (hv.keeps (keeps_below (hbx o o')))
  obtain ⟨aa, ca, rfl⟩ := hva.shape
  obtain ⟨an, cn, rfl⟩ := hvn.shape
  have HV : Hid (ProgVal w v P) := hv
  have HA : Hid (IntsVal w (.slice aa args.length ca) args) := hva
  have HN : Hid (IntsVal w (.slice an answers.length cn) answers) := hvn
  obtain ⟨ao, n0, cap0, rfl⟩ := hv.shape
  clear hv hva hvn ht hc
  go_enter Tryd.func56, Tryd.ntmps56
  go_upto_region 2 with (go_at_call 31; refine (hC _ _).mono ?_; rintro e w1 ⟨E, rfl, hE, hb1⟩)
  have k0 := keeps_below hb1 ⟨w.heap.size, 0, none⟩ (.slice ao n0 cap0) (by rw [cell_of_row _ _ _ _ _ _ (heap_alloc2_old _ _ _)]; rfl)
  have hz8 : w1.heap[w.heap.size + 1]? = some (.cells zeroStCells 29 (0, 0)) := (hb1.block _ (by simp)).trans (heap_alloc2_new _ _ _)
  have hsz : w.heap.size + 2 ≤ w1.heap.size := by have := hb1.size; simpa using this
  have HB1 : Hid (Below w.heap.size w w1) := (hbx _ _).trans (hb1.mono (by simp; omega))
  clear hb1 hC
  by_cases hE0 : E = 0
  · subst hE0
    obtain ⟨b, off, cap, hvs, d0, hp1, hpc, hcm, q0, q2⟩ := right_head hE (HV.out.keeps (keeps_below HB1.out))
    obtain ⟨rfl, rfl, rfl⟩ : ao = some ⟨b, off, none⟩ ∧ n0 = P.length ∧ cap0 = cap := by simpa using hvs
    clear hvs
    unfold maxLen at hcm
    have HE : Hid (ProofAns P 0) := hE
    have hA1 := HA.out.keeps (keeps_below HB1.out)
    have hN1 := HN.out.keeps (keeps_below HB1.out)
    by_cases c1 : (args.length : Int) = par0 P
    · by_cases c2 : 100 < answers.length
      · have HR : Hid (beginE 0 P args answers fuel = 1) := by show _ = _; unfold beginE; rw [if_neg (by simp), if_pos (Or.inr c2)]
        have c2I : decide ((100 : Int) < answers.length) = true := by simp; omega
        clear hE hA1 hN1
        go_wp2_with (first | (refine wpList_build_store rfl _ _ rfl zeroStCells (by simpa using built_zero) rfl _ _ rfl _ rfl rfl _ _ hz8 infoSt rfl zeroSt_one ?_) | (refine wpList_store_row rfl _ _ _ rfl _ zeroStCells rfl rfl _ _ hz8 infoSt rfl zeroSt_one ?_))
        try simp only [Exit.inBlock, Exit.then]
        refine bodyPost_ret (results_row_tmp rfl _ _ (w.heap.size + 1) 29 zeroStCells (0, 0) _ rfl (setRow_heap _ _ _ _ _ _ hz8) Tryd.underlying29 rfl infoSt) rfl ⟨_, _, HE.out, by rw [HR.out]; rfl, by rw [HR.out]; exact zero_stVal _, below_setRow HB1.out (by omega) _⟩
      · have c2I : decide ((100 : Int) < answers.length) = false := by simp; omega
        by_cases c3 : fuel < 0
        · have HR : Hid (beginE 0 P args answers fuel = 2) := by show _ = _; unfold beginE; rw [if_neg (by simp), if_neg (by omega), if_pos (Or.inl c3)]
          clear hE hA1 hN1
          go_wp2_with (first | (refine wpList_build_store rfl _ _ rfl zeroStCells (by simpa using built_zero) rfl _ _ rfl _ rfl rfl _ _ hz8 infoSt rfl zeroSt_one ?_) | (refine wpList_store_row rfl _ _ _ rfl _ zeroStCells rfl rfl _ _ hz8 infoSt rfl zeroSt_one ?_))
          try simp only [Exit.inBlock, Exit.then]
          refine bodyPost_ret (results_row_tmp rfl _ _ (w.heap.size + 1) 29 zeroStCells (0, 0) _ rfl (setRow_heap _ _ _ _ _ _ hz8) Tryd.underlying29 rfl infoSt) rfl ⟨_, _, HE.out, by rw [HR.out]; rfl, by rw [HR.out]; exact zero_stVal _, below_setRow HB1.out (by omega) _⟩
        · by_cases c4 : 10000 < fuel
          · have HR : Hid (beginE 0 P args answers fuel = 2) := by show _ = _; unfold beginE; rw [if_neg (by simp), if_neg (by omega), if_pos (Or.inr c4)]
            clear hE hA1 hN1
            go_wp2_with (first | (refine wpList_build_store rfl _ _ rfl zeroStCells (by simpa using built_zero) rfl _ _ rfl _ rfl rfl _ _ hz8 infoSt rfl zeroSt_one ?_) | (refine wpList_store_row rfl _ _ _ rfl _ zeroStCells rfl rfl _ _ hz8 infoSt rfl zeroSt_one ?_))
            try simp only [Exit.inBlock, Exit.then]
            refine bodyPost_ret (results_row_tmp rfl _ _ (w.heap.size + 1) 29 zeroStCells (0, 0) _ rfl (setRow_heap _ _ _ _ _ _ hz8) Tryd.underlying29 rfl infoSt) rfl ⟨_, _, HE.out, by rw [HR.out]; rfl, by rw [HR.out]; exact zero_stVal _, below_setRow HB1.out (by omega) _⟩
          · have HR : Hid (beginE 0 P args answers fuel = 0) := by show _ = _; unfold beginE; rw [if_neg (by simp), if_neg (by omega), if_neg (by omega)]
            have hal : args.length ≤ 12 := by omega
            have hBG := begun_any 0 _ args w1 hA1 hal
            have h12 := regsOf_length args hal
            obtain ⟨r0, r1, r2, r3, r4, r5, r6, r7, r8, r9, r10, r11, hrr⟩ := list12 h12
            have efc : frCells (begunFr 0 args) = [.int .i64 0, .int .i64 0, .int .i64 r0, .int .i64 r1, .int .i64 r2, .int .i64 r3, .int .i64 r4, .int .i64 r5, .int .i64 r6, .int .i64 r7, .int .i64 r8, .int .i64 r9, .int .i64 r10, .int .i64 r11] := by
              unfold frCells begunFr
              dsimp only
              rw [hrr]; rfl
            rw [efc] at hBG
            have HFC : Hid (frCells (begunFr 0 args) = [.int .i64 0, .int .i64 0, .int .i64 r0, .int .i64 r1, .int .i64 r2, .int .i64 r3, .int .i64 r4, .int .i64 r5, .int .i64 r6, .int .i64 r7, .int .i64 r8, .int .i64 r9, .int .i64 r10, .int .i64 r11]) := efc
            have H12 : Hid ((regsOf args).length = 12) := h12
            have HN1 : Hid (IntsVal w1 (.slice an answers.length cn) answers) := hN1
            have HC1 : Hid ((args.length : Int) = par0 P) := c1
            clear hE hA1 hN1 efc hrr h12
            go_wp2_with (first
              | (go_at_call 88; refine hBG.mono ?_; rintro e w2 ⟨rfl, hb2⟩; have hz8b := (hb2.block _ (show w.heap.size + 1 < w1.heap.size by omega)).trans hz8; clear hBG)
              | (go_at_call 79; refine (clone_ints _ answers _ (HN1.out.keeps (keeps_below (hb2.alloc hb2.size _))) (by omega)).mono ?_; rintro e w3 ⟨v3, rfl, ho3, hb3⟩; obtain ⟨a3, c3', rfl⟩ := own_shape ho3; have hz8c : w3.heap[w.heap.size + 1]? = some (.cells zeroStCells 29 (0, 0)) := (hb3.block _ (by have := hb2.size; simp; omega)).trans ((heap_alloc_old _ _ (by have := hb2.size; omega)).trans hz8b))
              | (refine wpList_build_store rfl _ _ rfl (stCells ⟨0, 0, [], noMem, fuel, [], []⟩ (.slice (some ⟨w2.heap.size, 0, none⟩) 1 1) (.slice none 0 0) (.slice a3 answers.length c3')).toArray (by simpa [Act.eval, Act.put] using built_begin (some ⟨w2.heap.size, 0, none⟩) a3 1 1 answers.length c3' fuel) rfl _ _ rfl _ rfl rfl _ _ hz8c infoSt rfl (stCells_one _ _ _ _ rfl rfl rfl) ?_))
            have hsz2 := hb2.size
            have hsz3 := hb3.size
            have HF : Hid (w3.heap[w2.heap.size]? = some (.cells (frCells (begunFr 0 args)).toArray 54 (0, 0))) := by
              show _ = _
              rw [hb3.block _ (by simp), HFC.out]
              exact heap_alloc_last _ _
            have hstl := stCells_length ⟨0, 0, [], noMem, fuel, [], []⟩ (.slice (some ⟨w2.heap.size, 0, none⟩) 1 1) (.slice none 0 0) (.slice a3 answers.length c3') rfl
            have hsi : (Tryd.prog.info? 29).map (·.size) = some (stCells ⟨0, 0, [], noMem, fuel, [], []⟩ (.slice (some ⟨w2.heap.size, 0, none⟩) 1 1) (.slice none 0 0) (.slice a3 answers.length c3')).toArray.size := by rw [List.size_toArray, hstl]; exact infoSt
            try simp only [Exit.inBlock, Exit.then]
            refine bodyPost_ret (results_row_tmp rfl _ _ (w.heap.size + 1) 29 _ (0, 0) _ rfl (setRow_heap _ _ _ _ _ _ hz8c) Tryd.underlying29 rfl hsi) rfl ⟨_, _, HE.out, by rw [HR.out]; rfl, ?_, ?_⟩
            · rw [HR.out, beginS_zero]
              refine ⟨_, _, _, rfl, rfl, frames_of_own (fun f hf => ?_) (one_frame H12.out ((setRow_other _ _ _ _ (by omega)).trans HF.out)), ints_nil _, ints_of_own (ownsRow_setRow ho3 (by simp; omega) _)⟩
              have hf' : f ∈ [begunFr 0 args] := hf
              rw [List.mem_singleton] at hf'
              rw [hf']; exact H12.out
            · exact below_setRow (((HB1.out.trans (hb2.mono (by omega))).alloc (by omega) _).trans (hb3.mono (by simp; omega))) (by omega) _
    · have HR : Hid (beginE 0 P args answers fuel = 1) := by show _ = _; unfold beginE; rw [if_neg (by simp), if_pos (Or.inl c1)]
      clear hE hA1 hN1
      go_wp2_with (first | (refine wpList_build_store rfl _ _ rfl zeroStCells (by simpa using built_zero) rfl _ _ rfl _ rfl rfl _ _ hz8 infoSt rfl zeroSt_one ?_) | (refine wpList_store_row rfl _ _ _ rfl _ zeroStCells rfl rfl _ _ hz8 infoSt rfl zeroSt_one ?_))
      try simp only [Exit.inBlock, Exit.then]
      refine bodyPost_ret (results_row_tmp rfl _ _ (w.heap.size + 1) 29 zeroStCells (0, 0) _ rfl (setRow_heap _ _ _ _ _ _ hz8) Tryd.underlying29 rfl infoSt) rfl ⟨_, _, HE.out, by rw [HR.out]; rfl, by rw [HR.out]; exact zero_stVal _, below_setRow HB1.out (by omega) _⟩
  · have HE : Hid (ProofAns P E) := hE
    have HR : Hid (beginE E P args answers fuel = E) := by show _ = _; unfold beginE; rw [if_pos hE0]
    have HS : Hid (∀ a b c, beginS E a b c = zeroSt) := fun a b c => by unfold beginS; rw [if_neg hE0]
    clear hE
    go_wp2_with (first | (refine wpList_build_store rfl _ _ rfl zeroStCells (by simpa using built_zero) rfl _ _ rfl _ rfl rfl _ _ hz8 infoSt rfl zeroSt_one ?_) | (refine wpList_store_row rfl _ _ _ rfl _ zeroStCells rfl rfl _ _ hz8 infoSt rfl zeroSt_one ?_))
    try simp only [Exit.inBlock, Exit.then]
    refine bodyPost_ret (results_row_tmp rfl _ _ (w.heap.size + 1) 29 zeroStCells (0, 0) _ rfl (setRow_heap _ _ _ _ _ _ hz8) Tryd.underlying29 rfl infoSt) rfl ⟨_, _, HE.out, by rw [HR.out]; rfl, by rw [HR.out, HS.out]; exact zero_stVal _, below_setRow HB1.out (by omega) _⟩
end Go.Proofs.YteabbanjjdmjkaaDoor
